/- The law of what caches hold. No statement is proved here. -/
import Derived.Test.YtmlepikgiicaiaaLawKit
namespace Go.Proofs.Ytmlepikgiicaiaa
open Go.RowKit
set_option linter.unusedVariables false
set_option linter.unusedSimpArgs false

def HoRel (w : World) (g b N bs : Nat) (s1 s2 key : Int) (O : Option Int) (n : Nat) (i : Value) (wr : World) : Prop :=
  ∃ (k : Nat) (cc : Cs), k ≤ n ∧ i = .int .i64 (k : Nat) ∧ Inv N cc ∧ lookL (sof cc key) key = O ∧ WC w wr g b N cc [(bs, C 23 #[.int .i64 s1, .int .i64 s2])]
attribute [local irreducible] Cl.arr
set_option maxRecDepth 20000 in
set_option maxHeartbeats 8000000 in
theorem holds_walk (s1 s2 : Int) (A : Option Addr) (n c : Nat) (list : List Cl) (key v : Int) (w : World) (hkey : key ≤ 9223372036854775807) (hwf : ∀ x ∈ list, x.wf) (hr : ERow w w.heap.size A n c list) :
    Calls Try.prog 4 #[.agg #[.int .i64 s1, .int .i64 s2], .slice A n c, .int .i64 key, .int .i64 v] w fun e w' => e = .returned (.bool true) ∧ Below w.heap.size w w' := by
  have SK := Lib.hid (fun W => speaks_any W)
  have hl := hr.len
  have mx := hr.max
  have S0 := St.nil w
  by_cases h100 : 100 < n
  · have q : ((100 : Int) < (n : Int)) = True := eq_true (by omega)
    clear hr
    go_enter Try.func4, Try.ntmps4
    go_wp2_with (first
      | (refine wpList_box_st S0 23 _ rfl rfl #[.int .i64 s1, .int .i64 s2] rfl ?_; clear S0; intro W1 h1 _ _)
      | (have _ := h1; go_at_call 7; refine (SK.out _).mono ?_; rintro e W3 ⟨rfl, hb⟩; have h3 := h1.call hb; clear h1))
    go_ret
    exact ⟨rfl, h3.bel⟩
  have q : ((100 : Int) < (n : Int)) = False := eq_false (by omega)
  have NW := Lib.hid (fun W L (h : St w W L) => new_any h s1 s2)
  have I0 := Inv.new (fitN s2) (fitN s1) (fitN_le s1).1
  have N64 := (fitN_le s2).2
  have N1 := (fitN_le s2).1
  have SE := Lib.hid (fun W g b L (h : WC w W g b (fitN s2) (List.replicate (fitN s1) []) L) => set_any h key v hkey N64 (drop_len I0 N64 key))
  have HMX := Lib.hid (show ((fitN s2 : Nat) : Int) = max (min s2 64) 1 by unfold fitN; omega)
  have RM : room (fitN s2) (List.replicate (fitN s1) []) key = decide (0 ≤ key) := by
    have e : sof (List.replicate (fitN s1) ([] : List Ent)) key = [] := by
      rcases Int.lt_or_le key 0 with h0 | h0
      · exact sof_neg h0
      · rw [sof_nn h0, List.getD_eq_getElem?_getD, List.getElem?_replicate]
        split <;> rfl
    unfold room
    rw [e]
    have : decide (([] : List Ent).length < fitN s2) = true := decide_eq_true (Nat.lt_of_lt_of_le Nat.zero_lt_one N1)
    rw [this]
    simp
  have I1 := I0.setC key v
  have EK : setK (fitN s2) (List.replicate (fitN s1) []) key = if key < 0 then 1 else 0 := by
    unfold setK
    split
    · rfl
    · rw [RM, decide_eq_true (by omega)]; rfl
  have LK : lookL (sof (setC (fitN s2) (List.replicate (fitN s1) []) key v) key) key = if key < 0 then none else some v := by
    unfold setC
    split
    · rename_i h0; rw [sof_neg h0]; rfl
    · rw [RM, decide_eq_true (by omega), if_pos rfl, look_put_self I0 (by omega)]
  rw [EK] at SE
  generalize setC (fitN s2) (List.replicate (fitN s1) []) key v = c0 at *
  generalize List.replicate (fitN s1) [] = cz at *
  generalize fitN s2 = N at *
  clear RM EK I0
  replace I1 := Lib.hid I1
  replace LK := Lib.hid LK
  generalize hEK : (if key < 0 then (1 : Int) else 0) = EK at *
  generalize hOO : (if key < 0 then (none : Option Int) else some v) = OO at *
  replace hEK := Lib.hid hEK
  replace hOO := Lib.hid hOO
  obtain ⟨b1, o1, hA⟩ := addr_of hr
  replace hA := Lib.hid hA
  have HR := Lib.hid hr
  have HW := Lib.hid hwf
  replace hl := Lib.hid hl
  clear hr hwf
  go_enter Try.func4, Try.ntmps4
  go_wp2_with (first
    | (refine wpList_box_st S0 23 _ rfl rfl #[.int .i64 s1, .int .i64 s2] rfl ?_; clear S0; intro W1 h1 _ _; replace h1 := h1.front; generalize w.heap.size = bs at h1 ⊢)
    | (have _ := h1; go_at_call 7; refine (SK.out _).mono ?_; rintro e W3 ⟨rfl, hb⟩; have h3 := h1.call hb; clear h1 hb SK)
    | (have _ := h3; refine wpList_load_st h3 0 rfl 23 _ (.tmp 4) rfl rfl rfl Try.underlying23 rfl sz23 ?_)
    | (have _ := h3; go_at_call 8; refine (NW.out _ _ h3).mono ?_; clear h3; rintro e W4 ⟨g, b, rfl, h4⟩; clear NW)
    | (have _ := h4; go_at_call 10; refine (SE.out _ _ _ _ h4).mono ?_; clear h4; rintro e W5 ⟨rfl, h5⟩; clear SE))
  go_loopw [28] (HoRel w g b N bs s1 s2 key OO n) (fun i _ => n - (intOf i).toNat)
  case atStart => exact ⟨0, c0, by omega, rfl, I1.out, LK.out, h5⟩
  case round =>
    obtain ⟨k, cc, hk, rfl, inv, lk, h6⟩ := hrel
    clear h5 I1 LK
    by_cases hlt : k < n
    · have g1 : ((k : Int) < (n : Int)) = True := eq_true (by omega)
      have hk2 : k < list.length := by have := hl.out; omega
      have hx : list[k]? = some list[k] := List.getElem?_eq_getElem hk2
      generalize list[k] = x at *
      have hA2 := hA.out (by omega)
      subst hA2
      obtain ⟨hb1, r1⟩ := at_cl HR.out k x hx
      have xk : x.k ≤ 9223372036854775807 := HW.out x (List.mem_of_getElem? hx)
      have r1' := Lib.hid (show wr.rangeAt b1 (o1 + k * 3) (Elt.cs x) from rangeAt_keep r1 (h6.bel.block _ hb1))
      replace inv := Lib.hid inv
      replace lk := Lib.hid lk
      clear r1 hx hk2 hb1
      by_cases hkk : x.k = key
      · have q1 : (x.k == key) = true := by simpa using hkk
        have q2 : (x.k = key) = True := eq_true hkk
        go_wp2_with (first
        | (refine wpList_loadC (e := x) r1'.out _ rfl rfl rfl ?_)
        | (have _ := h6; refine wpList_alloc_wc h6 31 rfl rfl _ _ zero31 rfl ?_; clear h6; intro X1 h7 _; generalize wr.heap.size = bx at *)
        | (have _ := h7; refine wpList_store_wc (arr' := x.arr) h7 31 _ _ rfl rfl rfl rfl (by rw [cl_size]; exact sz31) (by rw [cl_size]; rfl) (cl_one x) ?_; clear h7; intro X2 h8; have d0 := h8.cell 0 rfl 0 (.int .i64 x.o) (cl_get0 x); have d1 := h8.cell 0 rfl 1 (.int .i64 x.k) (cl_get1 x); have d2 := h8.cell 0 rfl 2 (.int .i64 x.v) (cl_get2 x)))
        go_roundw
        case rel => exact ⟨k + 1, cc, by omega, by go_num, inv.out, lk.out, h8.tail⟩
        case measure => simp [intOf]; omega
      · have q1 : (x.k == key) = false := by simpa using hkk
        have q2 : (x.k = key) = False := eq_false hkk
        have CBx := Lib.hid (fun (bx : Nat) V c' (h : WC w V g b N c' [(bx, C 31 x.arr), (bs, C 23 #[.int .i64 s1, .int .i64 s2])]) => show V.cell? ⟨bx, 1, none⟩ = some (.int .i64 x.k) ∧ V.cell? ⟨bx, 2, none⟩ = some (.int .i64 x.v) ∧ V.cell? ⟨bs, 1, none⟩ = some (.int .i64 s2) from ⟨h.cell 0 rfl 1 _ (cl_get1 x), h.cell 0 rfl 2 _ (cl_get2 x), h.cell 1 rfl 1 _ rfl⟩)
        have MNc := Lib.hid (show (s2 ≤ 64 ∧ min s2 64 = s2) ∨ (64 < s2 ∧ min s2 64 = 64) by omega)
        have MXc := Lib.hid (show (min s2 64 ≤ 1 ∧ (N : Int) = 1) ∨ (1 < min s2 64 ∧ (N : Int) = min s2 64) by have := HMX.out; omega)
        generalize min s2 64 = MN at *
        have hne : key ≠ x.k := fun e => hkk e.symm
        replace hne := Lib.hid hne
        clear HMX hkk
        by_cases ho : x.o = 0
        · have q3 : (x.o == 0) = true := by simpa using ho
          have q4 : (x.o = 0) = True := eq_true ho
          have dl := drop_len inv.out N64 x.k
          have RO := Lib.hid (fun W L (h : WC w W g b N cc L) => room_any h x.k xk N64)
          have SE := Lib.hid (fun W L (h : WC w W g b N cc L) => set_any h x.k x.v xk N64 dl)
          have qE := setK_room N cc x.k
          generalize setK N cc x.k = E at *
          generalize room N cc x.k = R at *
          have qn : (R != R) = false := by cases R <;> rfl
          clear dl
          go_wp2_with (first
        | (refine wpList_loadC (e := x) r1'.out _ rfl rfl rfl ?_)
        | (have _ := h6; refine wpList_alloc_wc h6 31 rfl rfl _ _ zero31 rfl ?_; clear h6; intro X1 h7 _; generalize wr.heap.size = bx at *)
        | (have _ := h7; refine wpList_store_wc (arr' := x.arr) h7 31 _ _ rfl rfl rfl rfl (by rw [cl_size]; exact sz31) (by rw [cl_size]; rfl) (cl_one x) ?_; clear h7; intro X2 h8; have d0 := h8.cell 0 rfl 0 (.int .i64 x.o) (cl_get0 x); have d1 := h8.cell 0 rfl 1 (.int .i64 x.k) (cl_get1 x); have d2 := h8.cell 0 rfl 2 (.int .i64 x.v) (cl_get2 x)))
          have CB := Lib.hid (CBx.out bx)
          have h9 : WC w X2 g b N cc [(bx, C 31 x.arr), (bs, C 23 #[.int .i64 s1, .int .i64 s2])] := h8
          replace RO := Lib.hid (fun W (h : WC w W g b N cc [(bx, C 31 x.arr), (bs, C 23 #[.int .i64 s1, .int .i64 s2])]) => RO.out W _ h)
          replace SE := Lib.hid (fun W (h : WC w W g b N cc [(bx, C 31 x.arr), (bs, C 23 #[.int .i64 s1, .int .i64 s2])]) => SE.out W _ h)
          clear h8 CBx
          have HS0 := Lib.hid (show WC w X2.drew g b N cc [(bx, C 31 x.arr), (bs, C 23 #[.int .i64 s1, .int .i64 s2])] from h9.drewN 1)
          have H0 := Lib.hid (CB.out _ _ HS0.out)
          clear h9 d0 d1 d2
          refine wp_region_held_drew (S := fun W => W.cell? ⟨bx, 1, none⟩ = some (.int .i64 x.k) ∧ W.cell? ⟨bx, 2, none⟩ = some (.int .i64 x.v) ∧ W.cell? ⟨bs, 1, none⟩ = some (.int .i64 s2)) (by kernel_rfl) H0.out (fun _ => ?_)
          generalize X2.drew = V0 at *
          refine wpAnyH_take (i := 0) (v := .pointer (some ⟨g, 0, none⟩)) rfl (by kernel_rfl) (by kernel_rfl) (by kernel_rfl) (fun _ _ _ h => h) (Or.inl ⟨by rfl, fun W hW => by clear hW; go_simp⟩) H0.out ?_
          try simp only [Act.put, List.getElem_toArray, List.getElem_cons_succ, List.getElem_cons_zero, List.setIfInBounds_toArray, List.set_cons_zero, List.set_cons_succ]
          refine wpAnyH_take (i := 1) (v := .pointer (some ⟨bx, 1, none⟩)) rfl (by kernel_rfl) (by kernel_rfl) (by kernel_rfl) (fun _ _ _ h => h) (Or.inl ⟨by rfl, fun W hW => by clear hW; go_simp⟩) H0.out ?_
          try simp only [Act.put, List.getElem_toArray, List.getElem_cons_succ, List.getElem_cons_zero, List.setIfInBounds_toArray, List.set_cons_zero, List.set_cons_succ]
          refine wpAnyH_take (i := 2) (v := .int .i64 x.k) rfl (by kernel_rfl) (by kernel_rfl) (by kernel_rfl) (fun _ _ _ h => h) (Or.inl ⟨by rfl, fun W hW => by have hc := (show W.cell? ⟨bx, 1, none⟩ = some (.int .i64 x.k) from hW.1); clear hW; go_simp⟩) H0.out ?_
          try simp only [Act.put, List.getElem_toArray, List.getElem_cons_succ, List.getElem_cons_zero, List.setIfInBounds_toArray, List.set_cons_zero, List.set_cons_succ]
          refine wpAnyH_take (i := 4) (v := .pointer (some ⟨g, 0, none⟩)) rfl (by kernel_rfl) (by kernel_rfl) (by kernel_rfl) (fun _ _ _ h => h) (Or.inl ⟨by rfl, fun W hW => by clear hW; go_simp⟩) H0.out ?_
          try simp only [Act.put, List.getElem_toArray, List.getElem_cons_succ, List.getElem_cons_zero, List.setIfInBounds_toArray, List.set_cons_zero, List.set_cons_succ]
          refine wpAnyH_take (i := 5) (v := .pointer (some ⟨bx, 1, none⟩)) rfl (by kernel_rfl) (by kernel_rfl) (by kernel_rfl) (fun _ _ _ h => h) (Or.inl ⟨by rfl, fun W hW => by clear hW; go_simp⟩) H0.out ?_
          try simp only [Act.put, List.getElem_toArray, List.getElem_cons_succ, List.getElem_cons_zero, List.setIfInBounds_toArray, List.set_cons_zero, List.set_cons_succ]
          refine wpAnyH_take (i := 6) (v := .int .i64 x.k) rfl (by kernel_rfl) (by kernel_rfl) (by kernel_rfl) (fun _ _ _ h => h) (Or.inl ⟨by rfl, fun W hW => by have hc := (show W.cell? ⟨bx, 1, none⟩ = some (.int .i64 x.k) from hW.1); clear hW; go_simp⟩) H0.out ?_
          try simp only [Act.put, List.getElem_toArray, List.getElem_cons_succ, List.getElem_cons_zero, List.setIfInBounds_toArray, List.set_cons_zero, List.set_cons_succ]
          refine wpAnyH_take (i := 7) (v := .pointer (some ⟨bx, 2, none⟩)) rfl (by kernel_rfl) (by kernel_rfl) (by kernel_rfl) (fun _ _ _ h => h) (Or.inl ⟨by rfl, fun W hW => by clear hW; go_simp⟩) H0.out ?_
          try simp only [Act.put, List.getElem_toArray, List.getElem_cons_succ, List.getElem_cons_zero, List.setIfInBounds_toArray, List.set_cons_zero, List.set_cons_succ]
          refine wpAnyH_take (i := 8) (v := .int .i64 x.v) rfl (by kernel_rfl) (by kernel_rfl) (by kernel_rfl) (fun _ _ _ h => h) (Or.inl ⟨by rfl, fun W hW => by have hc := (show W.cell? ⟨bx, 2, none⟩ = some (.int .i64 x.v) from hW.2.1); clear hW; go_simp⟩) H0.out ?_
          try simp only [Act.put, List.getElem_toArray, List.getElem_cons_succ, List.getElem_cons_zero, List.setIfInBounds_toArray, List.set_cons_zero, List.set_cons_succ]
          refine wpAnyH_ready (rs := [3]) (by kernel_rfl) (by simp) ?_
          refine AllReadyH.cons rfl (fun K hK => ?_) AllReadyH.nil
          go_simp
          go_at_call 23
          refine (RO.out _ HS0.out).mono ?_
          rintro e V1 ⟨rfl, hb⟩
          have HS1 := Lib.hid (HS0.out.call hb)
          clear hb
          have H1_ := Lib.hid (CB.out _ _ HS1.out)
          refine hK.out _ _ H1_.out (fun _ => ?_)
          clear hK K
          try simp only [Act.put, List.getElem_toArray, List.getElem_cons_succ, List.getElem_cons_zero, List.setIfInBounds_toArray, List.set_cons_zero, List.set_cons_succ]
          refine wpAnyH_ready (rs := [9]) (by kernel_rfl) (by simp) ?_
          refine AllReadyH.cons rfl (fun K hK => ?_) AllReadyH.nil
          go_simp
          go_at_call 10
          refine (SE.out _ HS1.out).mono ?_
          rintro e V2 ⟨rfl, h⟩
          have HS2 := Lib.hid h
          clear h
          have H2_ := Lib.hid (CB.out _ _ HS2.out)
          refine hK.out _ _ H2_.out (fun _ => ?_)
          clear hK K
          try simp only [Act.put, List.getElem_toArray, List.getElem_cons_succ, List.getElem_cons_zero, List.setIfInBounds_toArray, List.set_cons_zero, List.set_cons_succ]
          refine wpAnyH_take (i := 10) (v := .bool R) rfl (by kernel_rfl) (by kernel_rfl) (by kernel_rfl) (fun _ _ _ h => h) (Or.inl ⟨by rfl, fun W hW => by clear hW; go_simp⟩) H2_.out ?_
          try simp only [Act.put, List.getElem_toArray, List.getElem_cons_succ, List.getElem_cons_zero, List.setIfInBounds_toArray, List.set_cons_zero, List.set_cons_succ]
          refine wpAnyH_take (i := 11) (v := .bool false) rfl (by kernel_rfl) (by kernel_rfl) (by kernel_rfl) (fun _ _ _ h => h) (Or.inl ⟨by rfl, fun W hW => by clear hW; go_simp⟩) H2_.out ?_
          try simp only [Act.put, List.getElem_toArray, List.getElem_cons_succ, List.getElem_cons_zero, List.setIfInBounds_toArray, List.set_cons_zero, List.set_cons_succ]
          refine wpAnyH_done (by kernel_rfl) ?_ _
          go_wp2
          have h3 := HS2.out
          clear HS0 HS1 HS2 H0 H1_ H2_ RO SE qE
          have inv2 := inv.out.setC x.k x.v
          have lk2 := (look_setC inv.out x.v hne.out).trans lk.out
          have HLN := (inv2.sof x.k).1
          have OL := Lib.hid (fun W (h : WC w W g b N (setC N cc x.k x.v) [(bx, C 31 x.arr), (bs, C 23 #[.int .i64 s1, .int .i64 s2])]) => oldest_any h x.k xk (by omega))
          generalize hLN : (sof (setC N cc x.k x.v) x.k).length = LN at *
          generalize setC N cc x.k x.v = c2 at *
          have q7 : ((N : Int) < (LN : Int)) = False := eq_false (by omega)
          have q8 : decide ((N : Int) < (LN : Int)) = false := decide_eq_false (by omega)
          have CB2 := Lib.hid (fun V X (h : WC w V g b N c2 ([(bx, C 31 x.arr), (bs, C 23 #[.int .i64 s1, .int .i64 s2])] ++ X)) => CB.out V c2 (h.sub (List.sublist_append_left _ X)))
          have HS0 := Lib.hid (show WC w V2.drew g b N c2 [(bx, C 31 x.arr), (bs, C 23 #[.int .i64 s1, .int .i64 s2])] from h3.drewN 1)
          have H0 := Lib.hid (CB.out _ _ HS0.out)
          replace inv2 := Lib.hid inv2
          replace lk2 := Lib.hid lk2
          clear h3 HLN hLN
          refine wp_region_held_drew (S := fun W => W.cell? ⟨bx, 1, none⟩ = some (.int .i64 x.k) ∧ W.cell? ⟨bx, 2, none⟩ = some (.int .i64 x.v) ∧ W.cell? ⟨bs, 1, none⟩ = some (.int .i64 s2)) (by kernel_rfl) H0.out (fun _ => ?_)
          generalize V2.drew = V0 at *
          refine wpAnyH_take (i := 0) (v := .pointer (some ⟨g, 0, none⟩)) rfl (by kernel_rfl) (by kernel_rfl) (by kernel_rfl) (fun _ _ _ h => h) (Or.inl ⟨by rfl, fun W hW => by clear hW; go_simp⟩) H0.out ?_
          try simp only [Act.put, List.getElem_toArray, List.getElem_cons_succ, List.getElem_cons_zero, List.setIfInBounds_toArray, List.set_cons_zero, List.set_cons_succ]
          refine wpAnyH_take (i := 1) (v := .pointer (some ⟨bx, 1, none⟩)) rfl (by kernel_rfl) (by kernel_rfl) (by kernel_rfl) (fun _ _ _ h => h) (Or.inl ⟨by rfl, fun W hW => by clear hW; go_simp⟩) H0.out ?_
          try simp only [Act.put, List.getElem_toArray, List.getElem_cons_succ, List.getElem_cons_zero, List.setIfInBounds_toArray, List.set_cons_zero, List.set_cons_succ]
          refine wpAnyH_take (i := 2) (v := .int .i64 x.k) rfl (by kernel_rfl) (by kernel_rfl) (by kernel_rfl) (fun _ _ _ h => h) (Or.inl ⟨by rfl, fun W hW => by have hc := (show W.cell? ⟨bx, 1, none⟩ = some (.int .i64 x.k) from hW.1); clear hW; go_simp⟩) H0.out ?_
          try simp only [Act.put, List.getElem_toArray, List.getElem_cons_succ, List.getElem_cons_zero, List.setIfInBounds_toArray, List.set_cons_zero, List.set_cons_succ]
          refine wpAnyH_take (i := 5) (v := .pointer (some ⟨bs, 1, none⟩)) rfl (by kernel_rfl) (by kernel_rfl) (by kernel_rfl) (fun _ _ _ h => h) (Or.inl ⟨by rfl, fun W hW => by clear hW; go_simp⟩) H0.out ?_
          try simp only [Act.put, List.getElem_toArray, List.getElem_cons_succ, List.getElem_cons_zero, List.setIfInBounds_toArray, List.set_cons_zero, List.set_cons_succ]
          refine wpAnyH_take (i := 6) (v := .int .i64 s2) rfl (by kernel_rfl) (by kernel_rfl) (by kernel_rfl) (fun _ _ _ h => h) (Or.inl ⟨by rfl, fun W hW => by have hc := (show W.cell? ⟨bs, 1, none⟩ = some (.int .i64 s2) from hW.2.2); clear hW; go_simp⟩) H0.out ?_
          try simp only [Act.put, List.getElem_toArray, List.getElem_cons_succ, List.getElem_cons_zero, List.setIfInBounds_toArray, List.set_cons_zero, List.set_cons_succ]
          refine wpAnyH_take (i := 7) (v := .int .i64 MN) rfl (by kernel_rfl) (by kernel_rfl) (by kernel_rfl) (fun _ _ _ h => h) (Or.inl ⟨by rfl, fun W hW => by clear hW; rcases MNc.out with ⟨h, e⟩ | ⟨h, e⟩ <;> (rw [e]; go_simp; try omega)⟩) H0.out ?_
          try simp only [Act.put, List.getElem_toArray, List.getElem_cons_succ, List.getElem_cons_zero, List.setIfInBounds_toArray, List.set_cons_zero, List.set_cons_succ]
          refine wpAnyH_take (i := 8) (v := .int .i64 (N : Int)) rfl (by kernel_rfl) (by kernel_rfl) (by kernel_rfl) (fun _ _ _ h => h) (Or.inl ⟨by rfl, fun W hW => by clear hW; rcases MXc.out with ⟨h, e⟩ | ⟨h, e⟩ <;> (rw [e]; go_simp; try omega)⟩) H0.out ?_
          try simp only [Act.put, List.getElem_toArray, List.getElem_cons_succ, List.getElem_cons_zero, List.setIfInBounds_toArray, List.set_cons_zero, List.set_cons_succ]
          refine wpAnyH_ready (rs := [3]) (by kernel_rfl) (by simp) ?_
          refine AllReadyH.cons rfl (fun K hK => ?_) AllReadyH.nil
          go_simp
          go_at_call 19
          refine (OL.out _ HS0.out).mono ?_
          rintro e V1 ⟨bk, rfl, h⟩
          have HS1 := Lib.hid (h.perm (List.perm_append_comm (l₁ := [_]) (l₂ := [_, _])))
          clear h
          have H1_ := Lib.hid (CB2.out _ _ HS1.out)
          refine hK.out _ _ H1_.out (fun _ => ?_)
          clear hK K
          try simp only [Act.put, List.getElem_toArray, List.getElem_cons_succ, List.getElem_cons_zero, List.setIfInBounds_toArray, List.set_cons_zero, List.set_cons_succ]
          refine wpAnyH_take (i := 4) (v := .int .i64 (LN : Int)) rfl (by kernel_rfl) (by kernel_rfl) (by kernel_rfl) (fun _ _ _ h => h) (Or.inl ⟨by rfl, fun W hW => by clear hW; go_simp⟩) H1_.out ?_
          try simp only [Act.put, List.getElem_toArray, List.getElem_cons_succ, List.getElem_cons_zero, List.setIfInBounds_toArray, List.set_cons_zero, List.set_cons_succ]
          refine wpAnyH_take (i := 9) (v := .bool false) rfl (by kernel_rfl) (by kernel_rfl) (by kernel_rfl) (fun _ _ _ h => h) (Or.inl ⟨by rfl, fun W hW => by clear hW; go_simp⟩) H1_.out ?_
          try simp only [Act.put, List.getElem_toArray, List.getElem_cons_succ, List.getElem_cons_zero, List.setIfInBounds_toArray, List.set_cons_zero, List.set_cons_succ]
          refine wpAnyH_done (by kernel_rfl) ?_ _
          go_wp2
          go_roundw
          case rel => exact ⟨k + 1, c2, by omega, by go_num, inv2.out, lk2.out, HS1.out.sub (by simp)⟩
          case measure => simp [intOf]; omega
        · have q3 : (x.o == 0) = false := by simpa using ho
          have q4 : (x.o = 0) = False := eq_false ho
          by_cases ho1 : x.o = 1
          · have q5 : (x.o == 1) = true := by simpa using ho1
            have q6 : (x.o = 1) = True := eq_true ho1
            have DR := Lib.hid (fun W L (h : WC w W g b N cc L) => drop_any h x.k xk)
            go_wp2_with (first
        | (refine wpList_loadC (e := x) r1'.out _ rfl rfl rfl ?_)
        | (have _ := h6; refine wpList_alloc_wc h6 31 rfl rfl _ _ zero31 rfl ?_; clear h6; intro X1 h7 _; generalize wr.heap.size = bx at *)
        | (have _ := h7; refine wpList_store_wc (arr' := x.arr) h7 31 _ _ rfl rfl rfl rfl (by rw [cl_size]; exact sz31) (by rw [cl_size]; rfl) (cl_one x) ?_; clear h7; intro X2 h8; have d0 := h8.cell 0 rfl 0 (.int .i64 x.o) (cl_get0 x); have d1 := h8.cell 0 rfl 1 (.int .i64 x.k) (cl_get1 x); have d2 := h8.cell 0 rfl 2 (.int .i64 x.v) (cl_get2 x))
              | (have _ := h8; go_at_call 12; refine (DR.out _ _ h8).mono ?_; clear h8 d0 d1 d2; rintro e X3 ⟨rfl, h9⟩))
            have CB := Lib.hid (CBx.out bx)
            have h3 : WC w X3 g b N (dropC cc x.k) [(bx, C 31 x.arr), (bs, C 23 #[.int .i64 s1, .int .i64 s2])] := h9
            clear h9 CBx DR
            have inv2 := inv.out.drop x.k
            have lk2 := (look_drop inv.out hne.out).trans lk.out
            have HLN := (inv2.sof x.k).1
            have OL := Lib.hid (fun W (h : WC w W g b N (dropC cc x.k) [(bx, C 31 x.arr), (bs, C 23 #[.int .i64 s1, .int .i64 s2])]) => oldest_any h x.k xk (by omega))
            generalize hLN : (sof (dropC cc x.k) x.k).length = LN at *
            generalize dropC cc x.k = c2 at *
            have q7 : ((N : Int) < (LN : Int)) = False := eq_false (by omega)
            have q8 : decide ((N : Int) < (LN : Int)) = false := decide_eq_false (by omega)
            have CB2 := Lib.hid (fun V X (h : WC w V g b N c2 ([(bx, C 31 x.arr), (bs, C 23 #[.int .i64 s1, .int .i64 s2])] ++ X)) => CB.out V c2 (h.sub (List.sublist_append_left _ X)))
            have HS0 := Lib.hid (show WC w X3.drew g b N c2 [(bx, C 31 x.arr), (bs, C 23 #[.int .i64 s1, .int .i64 s2])] from h3.drewN 1)
            have H0 := Lib.hid (CB.out _ _ HS0.out)
            replace inv2 := Lib.hid inv2
            replace lk2 := Lib.hid lk2
            clear h3 HLN hLN
            refine wp_region_held_drew (S := fun W => W.cell? ⟨bx, 1, none⟩ = some (.int .i64 x.k) ∧ W.cell? ⟨bx, 2, none⟩ = some (.int .i64 x.v) ∧ W.cell? ⟨bs, 1, none⟩ = some (.int .i64 s2)) (by kernel_rfl) H0.out (fun _ => ?_)
            generalize X3.drew = V0 at *
            refine wpAnyH_take (i := 0) (v := .pointer (some ⟨g, 0, none⟩)) rfl (by kernel_rfl) (by kernel_rfl) (by kernel_rfl) (fun _ _ _ h => h) (Or.inl ⟨by rfl, fun W hW => by clear hW; go_simp⟩) H0.out ?_
            try simp only [Act.put, List.getElem_toArray, List.getElem_cons_succ, List.getElem_cons_zero, List.setIfInBounds_toArray, List.set_cons_zero, List.set_cons_succ]
            refine wpAnyH_take (i := 1) (v := .pointer (some ⟨bx, 1, none⟩)) rfl (by kernel_rfl) (by kernel_rfl) (by kernel_rfl) (fun _ _ _ h => h) (Or.inl ⟨by rfl, fun W hW => by clear hW; go_simp⟩) H0.out ?_
            try simp only [Act.put, List.getElem_toArray, List.getElem_cons_succ, List.getElem_cons_zero, List.setIfInBounds_toArray, List.set_cons_zero, List.set_cons_succ]
            refine wpAnyH_take (i := 2) (v := .int .i64 x.k) rfl (by kernel_rfl) (by kernel_rfl) (by kernel_rfl) (fun _ _ _ h => h) (Or.inl ⟨by rfl, fun W hW => by have hc := (show W.cell? ⟨bx, 1, none⟩ = some (.int .i64 x.k) from hW.1); clear hW; go_simp⟩) H0.out ?_
            try simp only [Act.put, List.getElem_toArray, List.getElem_cons_succ, List.getElem_cons_zero, List.setIfInBounds_toArray, List.set_cons_zero, List.set_cons_succ]
            refine wpAnyH_take (i := 5) (v := .pointer (some ⟨bs, 1, none⟩)) rfl (by kernel_rfl) (by kernel_rfl) (by kernel_rfl) (fun _ _ _ h => h) (Or.inl ⟨by rfl, fun W hW => by clear hW; go_simp⟩) H0.out ?_
            try simp only [Act.put, List.getElem_toArray, List.getElem_cons_succ, List.getElem_cons_zero, List.setIfInBounds_toArray, List.set_cons_zero, List.set_cons_succ]
            refine wpAnyH_take (i := 6) (v := .int .i64 s2) rfl (by kernel_rfl) (by kernel_rfl) (by kernel_rfl) (fun _ _ _ h => h) (Or.inl ⟨by rfl, fun W hW => by have hc := (show W.cell? ⟨bs, 1, none⟩ = some (.int .i64 s2) from hW.2.2); clear hW; go_simp⟩) H0.out ?_
            try simp only [Act.put, List.getElem_toArray, List.getElem_cons_succ, List.getElem_cons_zero, List.setIfInBounds_toArray, List.set_cons_zero, List.set_cons_succ]
            refine wpAnyH_take (i := 7) (v := .int .i64 MN) rfl (by kernel_rfl) (by kernel_rfl) (by kernel_rfl) (fun _ _ _ h => h) (Or.inl ⟨by rfl, fun W hW => by clear hW; rcases MNc.out with ⟨h, e⟩ | ⟨h, e⟩ <;> (rw [e]; go_simp; try omega)⟩) H0.out ?_
            try simp only [Act.put, List.getElem_toArray, List.getElem_cons_succ, List.getElem_cons_zero, List.setIfInBounds_toArray, List.set_cons_zero, List.set_cons_succ]
            refine wpAnyH_take (i := 8) (v := .int .i64 (N : Int)) rfl (by kernel_rfl) (by kernel_rfl) (by kernel_rfl) (fun _ _ _ h => h) (Or.inl ⟨by rfl, fun W hW => by clear hW; rcases MXc.out with ⟨h, e⟩ | ⟨h, e⟩ <;> (rw [e]; go_simp; try omega)⟩) H0.out ?_
            try simp only [Act.put, List.getElem_toArray, List.getElem_cons_succ, List.getElem_cons_zero, List.setIfInBounds_toArray, List.set_cons_zero, List.set_cons_succ]
            refine wpAnyH_ready (rs := [3]) (by kernel_rfl) (by simp) ?_
            refine AllReadyH.cons rfl (fun K hK => ?_) AllReadyH.nil
            go_simp
            go_at_call 19
            refine (OL.out _ HS0.out).mono ?_
            rintro e V1 ⟨bk, rfl, h⟩
            have HS1 := Lib.hid (h.perm (List.perm_append_comm (l₁ := [_]) (l₂ := [_, _])))
            clear h
            have H1_ := Lib.hid (CB2.out _ _ HS1.out)
            refine hK.out _ _ H1_.out (fun _ => ?_)
            clear hK K
            try simp only [Act.put, List.getElem_toArray, List.getElem_cons_succ, List.getElem_cons_zero, List.setIfInBounds_toArray, List.set_cons_zero, List.set_cons_succ]
            refine wpAnyH_take (i := 4) (v := .int .i64 (LN : Int)) rfl (by kernel_rfl) (by kernel_rfl) (by kernel_rfl) (fun _ _ _ h => h) (Or.inl ⟨by rfl, fun W hW => by clear hW; go_simp⟩) H1_.out ?_
            try simp only [Act.put, List.getElem_toArray, List.getElem_cons_succ, List.getElem_cons_zero, List.setIfInBounds_toArray, List.set_cons_zero, List.set_cons_succ]
            refine wpAnyH_take (i := 9) (v := .bool false) rfl (by kernel_rfl) (by kernel_rfl) (by kernel_rfl) (fun _ _ _ h => h) (Or.inl ⟨by rfl, fun W hW => by clear hW; go_simp⟩) H1_.out ?_
            try simp only [Act.put, List.getElem_toArray, List.getElem_cons_succ, List.getElem_cons_zero, List.setIfInBounds_toArray, List.set_cons_zero, List.set_cons_succ]
            refine wpAnyH_done (by kernel_rfl) ?_ _
            go_wp2
            go_roundw
            case rel => exact ⟨k + 1, c2, by omega, by go_num, inv2.out, lk2.out, HS1.out.sub (by simp)⟩
            case measure => simp [intOf]; omega
          · have q5 : (x.o == 1) = false := by simpa using ho1
            have q6 : (x.o = 1) = False := eq_false ho1
            have dl := drop_len inv.out N64 x.k
            have TO := Lib.hid (fun W L (h : WC w W g b N cc L) => touch_any h x.k xk N64 dl)
            clear dl
            go_wp2_with (first
        | (refine wpList_loadC (e := x) r1'.out _ rfl rfl rfl ?_)
        | (have _ := h6; refine wpList_alloc_wc h6 31 rfl rfl _ _ zero31 rfl ?_; clear h6; intro X1 h7 _; generalize wr.heap.size = bx at *)
        | (have _ := h7; refine wpList_store_wc (arr' := x.arr) h7 31 _ _ rfl rfl rfl rfl (by rw [cl_size]; exact sz31) (by rw [cl_size]; rfl) (cl_one x) ?_; clear h7; intro X2 h8; have d0 := h8.cell 0 rfl 0 (.int .i64 x.o) (cl_get0 x); have d1 := h8.cell 0 rfl 1 (.int .i64 x.k) (cl_get1 x); have d2 := h8.cell 0 rfl 2 (.int .i64 x.v) (cl_get2 x))
              | (have _ := h8; go_at_call 14; refine (TO.out _ _ h8).mono ?_; clear h8 d0 d1 d2; rintro e X3 ⟨rfl, h9⟩))
            have CB := Lib.hid (CBx.out bx)
            have h3 : WC w X3 g b N (touchC cc x.k) [(bx, C 31 x.arr), (bs, C 23 #[.int .i64 s1, .int .i64 s2])] := h9
            clear h9 CBx TO
            have inv2 := inv.out.touch x.k
            have lk2 := (look_touch inv.out hne.out).trans lk.out
            have HLN := (inv2.sof x.k).1
            have OL := Lib.hid (fun W (h : WC w W g b N (touchC cc x.k) [(bx, C 31 x.arr), (bs, C 23 #[.int .i64 s1, .int .i64 s2])]) => oldest_any h x.k xk (by omega))
            generalize hLN : (sof (touchC cc x.k) x.k).length = LN at *
            generalize touchC cc x.k = c2 at *
            have q7 : ((N : Int) < (LN : Int)) = False := eq_false (by omega)
            have q8 : decide ((N : Int) < (LN : Int)) = false := decide_eq_false (by omega)
            have CB2 := Lib.hid (fun V X (h : WC w V g b N c2 ([(bx, C 31 x.arr), (bs, C 23 #[.int .i64 s1, .int .i64 s2])] ++ X)) => CB.out V c2 (h.sub (List.sublist_append_left _ X)))
            have HS0 := Lib.hid (show WC w X3.drew g b N c2 [(bx, C 31 x.arr), (bs, C 23 #[.int .i64 s1, .int .i64 s2])] from h3.drewN 1)
            have H0 := Lib.hid (CB.out _ _ HS0.out)
            replace inv2 := Lib.hid inv2
            replace lk2 := Lib.hid lk2
            clear h3 HLN hLN
            refine wp_region_held_drew (S := fun W => W.cell? ⟨bx, 1, none⟩ = some (.int .i64 x.k) ∧ W.cell? ⟨bx, 2, none⟩ = some (.int .i64 x.v) ∧ W.cell? ⟨bs, 1, none⟩ = some (.int .i64 s2)) (by kernel_rfl) H0.out (fun _ => ?_)
            generalize X3.drew = V0 at *
            refine wpAnyH_take (i := 0) (v := .pointer (some ⟨g, 0, none⟩)) rfl (by kernel_rfl) (by kernel_rfl) (by kernel_rfl) (fun _ _ _ h => h) (Or.inl ⟨by rfl, fun W hW => by clear hW; go_simp⟩) H0.out ?_
            try simp only [Act.put, List.getElem_toArray, List.getElem_cons_succ, List.getElem_cons_zero, List.setIfInBounds_toArray, List.set_cons_zero, List.set_cons_succ]
            refine wpAnyH_take (i := 1) (v := .pointer (some ⟨bx, 1, none⟩)) rfl (by kernel_rfl) (by kernel_rfl) (by kernel_rfl) (fun _ _ _ h => h) (Or.inl ⟨by rfl, fun W hW => by clear hW; go_simp⟩) H0.out ?_
            try simp only [Act.put, List.getElem_toArray, List.getElem_cons_succ, List.getElem_cons_zero, List.setIfInBounds_toArray, List.set_cons_zero, List.set_cons_succ]
            refine wpAnyH_take (i := 2) (v := .int .i64 x.k) rfl (by kernel_rfl) (by kernel_rfl) (by kernel_rfl) (fun _ _ _ h => h) (Or.inl ⟨by rfl, fun W hW => by have hc := (show W.cell? ⟨bx, 1, none⟩ = some (.int .i64 x.k) from hW.1); clear hW; go_simp⟩) H0.out ?_
            try simp only [Act.put, List.getElem_toArray, List.getElem_cons_succ, List.getElem_cons_zero, List.setIfInBounds_toArray, List.set_cons_zero, List.set_cons_succ]
            refine wpAnyH_take (i := 5) (v := .pointer (some ⟨bs, 1, none⟩)) rfl (by kernel_rfl) (by kernel_rfl) (by kernel_rfl) (fun _ _ _ h => h) (Or.inl ⟨by rfl, fun W hW => by clear hW; go_simp⟩) H0.out ?_
            try simp only [Act.put, List.getElem_toArray, List.getElem_cons_succ, List.getElem_cons_zero, List.setIfInBounds_toArray, List.set_cons_zero, List.set_cons_succ]
            refine wpAnyH_take (i := 6) (v := .int .i64 s2) rfl (by kernel_rfl) (by kernel_rfl) (by kernel_rfl) (fun _ _ _ h => h) (Or.inl ⟨by rfl, fun W hW => by have hc := (show W.cell? ⟨bs, 1, none⟩ = some (.int .i64 s2) from hW.2.2); clear hW; go_simp⟩) H0.out ?_
            try simp only [Act.put, List.getElem_toArray, List.getElem_cons_succ, List.getElem_cons_zero, List.setIfInBounds_toArray, List.set_cons_zero, List.set_cons_succ]
            refine wpAnyH_take (i := 7) (v := .int .i64 MN) rfl (by kernel_rfl) (by kernel_rfl) (by kernel_rfl) (fun _ _ _ h => h) (Or.inl ⟨by rfl, fun W hW => by clear hW; rcases MNc.out with ⟨h, e⟩ | ⟨h, e⟩ <;> (rw [e]; go_simp; try omega)⟩) H0.out ?_
            try simp only [Act.put, List.getElem_toArray, List.getElem_cons_succ, List.getElem_cons_zero, List.setIfInBounds_toArray, List.set_cons_zero, List.set_cons_succ]
            refine wpAnyH_take (i := 8) (v := .int .i64 (N : Int)) rfl (by kernel_rfl) (by kernel_rfl) (by kernel_rfl) (fun _ _ _ h => h) (Or.inl ⟨by rfl, fun W hW => by clear hW; rcases MXc.out with ⟨h, e⟩ | ⟨h, e⟩ <;> (rw [e]; go_simp; try omega)⟩) H0.out ?_
            try simp only [Act.put, List.getElem_toArray, List.getElem_cons_succ, List.getElem_cons_zero, List.setIfInBounds_toArray, List.set_cons_zero, List.set_cons_succ]
            refine wpAnyH_ready (rs := [3]) (by kernel_rfl) (by simp) ?_
            refine AllReadyH.cons rfl (fun K hK => ?_) AllReadyH.nil
            go_simp
            go_at_call 19
            refine (OL.out _ HS0.out).mono ?_
            rintro e V1 ⟨bk, rfl, h⟩
            have HS1 := Lib.hid (h.perm (List.perm_append_comm (l₁ := [_]) (l₂ := [_, _])))
            clear h
            have H1_ := Lib.hid (CB2.out _ _ HS1.out)
            refine hK.out _ _ H1_.out (fun _ => ?_)
            clear hK K
            try simp only [Act.put, List.getElem_toArray, List.getElem_cons_succ, List.getElem_cons_zero, List.setIfInBounds_toArray, List.set_cons_zero, List.set_cons_succ]
            refine wpAnyH_take (i := 4) (v := .int .i64 (LN : Int)) rfl (by kernel_rfl) (by kernel_rfl) (by kernel_rfl) (fun _ _ _ h => h) (Or.inl ⟨by rfl, fun W hW => by clear hW; go_simp⟩) H1_.out ?_
            try simp only [Act.put, List.getElem_toArray, List.getElem_cons_succ, List.getElem_cons_zero, List.setIfInBounds_toArray, List.set_cons_zero, List.set_cons_succ]
            refine wpAnyH_take (i := 9) (v := .bool false) rfl (by kernel_rfl) (by kernel_rfl) (by kernel_rfl) (fun _ _ _ h => h) (Or.inl ⟨by rfl, fun W hW => by clear hW; go_simp⟩) H1_.out ?_
            try simp only [Act.put, List.getElem_toArray, List.getElem_cons_succ, List.getElem_cons_zero, List.setIfInBounds_toArray, List.set_cons_zero, List.set_cons_succ]
            refine wpAnyH_done (by kernel_rfl) ?_ _
            go_wp2
            go_roundw
            case rel => exact ⟨k + 1, c2, by omega, by go_num, inv2.out, lk2.out, HS1.out.sub (by simp)⟩
            case measure => simp [intOf]; omega
    · obtain rfl : k = n := by omega
      have g1 : ((k : Int) < (k : Int)) = False := eq_false (by omega)
      have GE := Lib.hid (fun W L (h : WC w W g b N cc L) => get_any h key hkey)
      rw [getO_look, getV_look, lk] at GE
      have hE := hEK.out
      have hO := hOO.out
      by_cases h0 : key < 0
      · rw [if_pos h0] at hE hO
        subst hE; subst hO
        have q0 : decide (0 ≤ key) = false := decide_eq_false (by omega)
        clear hEK hOO lk inv
        go_wp2_with (have _ := h6; go_at_call 16; refine (GE.out _ _ h6).mono ?_; rintro e W7 ⟨rfl, hb⟩; have h7 := h6.call hb; clear h6)
        go_ret
        exact ⟨rfl, h7.bel⟩
      · rw [if_neg h0] at hE hO
        subst hE; subst hO
        have q0 : decide (0 ≤ key) = true := decide_eq_true (by omega)
        clear hEK hOO lk inv
        go_wp2_with (have _ := h6; go_at_call 16; refine (GE.out _ _ h6).mono ?_; rintro e W7 ⟨rfl, hb⟩; have h7 := h6.call hb; clear h6)
        go_ret
        exact ⟨rfl, h7.bel⟩
end Go.Proofs.Ytmlepikgiicaiaa
