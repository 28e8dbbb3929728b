/- The law of any calls to a cache. No statement is proved here. -/
import Derived.Test.YtmlepikgiicaiaaBeside11
namespace Go.Proofs.Ytmlepikgiicaiaa
open Go.RowKit
set_option linter.unusedVariables false
set_option linter.unusedSimpArgs false

def touchR (l : List Ent) (k : Int) : List Ent := match fnd l k with | some i => dropR l k ++ [l.getD i default] | none => l
def CaRel (w : World) (g b Sn N gr bs : Nat) (s1 s2 : Int) (n : Nat) (i : Value) (wr : World) : Prop :=
  ∃ (k : Nat) (cc : Cs) (l : List Ent), k ≤ n ∧ i = .int .i64 (k : Nat) ∧ Rel Sn N cc l ∧ l.length ≤ k ∧ WR w wr g b Sn N cc gr l [(bs, C 23 #[.int .i64 s1, .int .i64 s2])]
attribute [local irreducible] Cl.arr
set_option maxRecDepth 20000 in
set_option maxHeartbeats 8000000 in
theorem calls11_walk (s1 s2 : Int) (A : Option Addr) (n c : Nat) (list : List Cl) (key : Int) (w : World) (hkey : key ≤ 9223372036854775807) (hwf : ∀ x ∈ list, x.wf) (hr : ERow w w.heap.size A n c list) :
    Calls Try.prog 3 #[.agg #[.int .i64 s1, .int .i64 s2], .slice A n c, .int .i64 key] w fun e w' => e = .returned (.bool true) ∧ Below w.heap.size w w' := by
  have SK := Lib.hid (fun W => speaks_any W)
  have hl := hr.len
  have mx := hr.max
  have S0 := St.nil w
  by_cases h100 : 100 < n
  · have q : ((100 : Int) < (n : Int)) = True := eq_true (by omega)
    clear hr
    go_enter Try.func3, Try.ntmps3
    go_wp2_with (first
      | (refine wpList_box_st S0 23 _ rfl rfl #[.int .i64 s1, .int .i64 s2] rfl ?_; clear S0; intro W1 h1 _ _)
      | (have _ := h1; go_at_call 7; refine (SK.out _).mono ?_; rintro e W3 ⟨rfl, hb⟩; have h3 := h1.call hb; clear h1))
    go_ret
    exact ⟨rfl, h3.bel⟩
  have q : ((100 : Int) < (n : Int)) = False := eq_false (by omega)
  have NW := Lib.hid (fun W L (h : St w W L) => new_any h s1 s2)
  have RN := Lib.hid (fun W L (h : St w W L) => rnew_any h s1 s2)
  have I0 := Lib.hid (Rel.new (fitN s1) (fitN s2) (fitN_le s1).1)
  have N64 := (fitN_le s2).2
  have S1 := (fitN_le s1).1
  have S64 := (fitN_le s1).2
  generalize List.replicate (fitN s1) [] = cz at *
  generalize fitN s2 = N at *
  generalize fitN s1 = Sn at *
  obtain ⟨b1, o1, hA⟩ := addr_of hr
  replace hA := Lib.hid hA
  have HR := Lib.hid hr
  have HW := Lib.hid hwf
  replace hl := Lib.hid hl
  have n100 : n ≤ 100 := by omega
  clear hr hwf h100
  go_enter Try.func3, Try.ntmps3
  go_wp2_with (first
    | (refine wpList_box_st S0 23 _ rfl rfl #[.int .i64 s1, .int .i64 s2] rfl ?_; clear S0; intro W1 h1 _ _; replace h1 := h1.front; generalize w.heap.size = bs at h1 ⊢)
    | (have _ := h1; go_at_call 7; refine (SK.out _).mono ?_; rintro e W3 ⟨rfl, hb⟩; have h3 := h1.call hb; clear h1 hb SK))
  have HS0 := Lib.hid (show St w W3.drew [(bs, C 23 #[.int .i64 s1, .int .i64 s2])] from h3.drewN 1)
  have H0 := Lib.hid (show At W3.drew bs 23 #[.int .i64 s1, .int .i64 s2] from HS0.out.get 0 rfl)
  clear h3
  refine wp_region_held_drew (S := fun W => At W bs 23 #[.int .i64 s1, .int .i64 s2]) (by kernel_rfl) H0.out (fun _ => ?_)
  generalize W3.drew = V0 at *
  refine wpAnyH_take (i := 0) (v := .agg #[.int .i64 s1, .int .i64 s2]) rfl (by kernel_rfl) (by kernel_rfl) (by kernel_rfl) (fun _ _ _ h => h) (yields_at 23 _ _ rfl (by rfl) rfl Try.underlying23 rfl sz23 (fun W hW => hW)) H0.out ?_
  try simp only [Act.put, List.getElem_toArray, List.getElem_cons_succ, List.getElem_cons_zero, List.setIfInBounds_toArray, List.set_cons_zero, List.set_cons_succ]
  refine wpAnyH_take (i := 2) (v := .agg #[.int .i64 s1, .int .i64 s2]) rfl (by kernel_rfl) (by kernel_rfl) (by kernel_rfl) (fun _ _ _ h => h) (yields_at 23 _ _ rfl (by rfl) rfl Try.underlying23 rfl sz23 (fun W hW => hW)) H0.out ?_
  try simp only [Act.put, List.getElem_toArray, List.getElem_cons_succ, List.getElem_cons_zero, List.setIfInBounds_toArray, List.set_cons_zero, List.set_cons_succ]
  refine wpAnyH_ready (rs := [1]) (by kernel_rfl) (by simp) ?_
  refine AllReadyH.cons rfl (fun K hK => ?_) AllReadyH.nil
  go_simp
  go_at_call 8
  refine (NW.out _ _ HS0.out).mono ?_
  rintro e V1 ⟨g, b, rfl, h⟩
  obtain ⟨Y, hsY, upY⟩ := WR.of h
  have H1_ := Lib.hid (show At V1 bs 23 #[.int .i64 s1, .int .i64 s2] from h.st.get 0 rfl)
  have HSY := Lib.hid hsY
  have UPY := Lib.hid upY
  clear h hsY upY
  refine hK.out _ _ H1_.out (fun _ => ?_)
  clear hK K
  try simp only [Act.put, List.getElem_toArray, List.getElem_cons_succ, List.getElem_cons_zero, List.setIfInBounds_toArray, List.set_cons_zero, List.set_cons_succ]
  refine wpAnyH_ready (rs := [3]) (by kernel_rfl) (by simp) ?_
  refine AllReadyH.cons rfl (fun K hK => ?_) AllReadyH.nil
  go_simp
  go_at_call 9
  refine (RN.out _ _ HSY.out).mono ?_
  rintro e V2 ⟨gr, rfl, h⟩
  have HW2 := Lib.hid (UPY.out _ _ _ _ h)
  have H2_ := Lib.hid (show At V2 bs 23 #[.int .i64 s1, .int .i64 s2] from HW2.out.st.get 0 rfl)
  clear h UPY HSY
  refine hK.out _ _ H2_.out (fun _ => ?_)
  clear hK K
  try simp only [Act.put, List.getElem_toArray, List.getElem_cons_succ, List.getElem_cons_zero, List.setIfInBounds_toArray, List.set_cons_zero, List.set_cons_succ]
  refine wpAnyH_take (i := 4) (v := .pointer (some ⟨g, 0, none⟩)) rfl (by kernel_rfl) (by kernel_rfl) (by kernel_rfl) (fun _ _ _ h => h) (Or.inl ⟨by rfl, fun W hW => by clear hW; go_simp⟩) H2_.out ?_
  try simp only [Act.put, List.getElem_toArray, List.getElem_cons_succ, List.getElem_cons_zero, List.setIfInBounds_toArray, List.set_cons_zero, List.set_cons_succ]
  refine wpAnyH_take (i := 5) (v := .pointer (some ⟨gr, 0, none⟩)) rfl (by kernel_rfl) (by kernel_rfl) (by kernel_rfl) (fun _ _ _ h => h) (Or.inl ⟨by rfl, fun W hW => by clear hW; go_simp⟩) H2_.out ?_
  try simp only [Act.put, List.getElem_toArray, List.getElem_cons_succ, List.getElem_cons_zero, List.setIfInBounds_toArray, List.set_cons_zero, List.set_cons_succ]
  refine wpAnyH_done (by kernel_rfl) ?_ _
  go_wp2
  have h4 := HW2.out
  clear HW2 H0 H1_ H2_ HS0 NW RN
  go_loopw [25] (CaRel w g b Sn N gr bs s1 s2 n) (fun i _ => n - (intOf i).toNat)
  case atStart => exact ⟨0, cz, [], by omega, rfl, I0.out, by simp, h4⟩
  case round =>
    obtain ⟨k, cc, l, hk, rfl, rel, ll, h6⟩ := hrel
    clear h4 I0
    replace rel := Lib.hid rel
    by_cases hlt : k < n
    · have g1 : ((k : Int) < (n : Int)) = True := eq_true (by omega)
      have hk2 : k < list.length := by have := hl.out; omega
      have hx : list[k]? = some list[k] := List.getElem?_eq_getElem hk2
      generalize list[k] = x at *
      have hA2 := hA.out (by omega)
      subst hA2
      obtain ⟨hb1, r1⟩ := at_cl HR.out k x hx
      have xk : x.k ≤ 9223372036854775807 := HW.out x (List.mem_of_getElem? hx)
      have r1' := Lib.hid (show wr.rangeAt b1 (o1 + k * 3) (Elt.cs x) from rangeAt_keep r1 (h6.bel.block _ hb1))
      replace ll := Lib.hid ll
      clear r1 hx hk2 hb1
      by_cases ho : x.o = 0
      · have q3 : (x.o == 0) = true := by simpa using ho
        have q4 : (x.o = 0) = True := eq_true ho
        have PG := Lib.hid (fun W L (h : WR w W g b Sn N cc gr l L) => wr_set h rel.out x.v xk N64)
        have DC := Lib.hid (fun W L (h : WR w W g b Sn N (setC N cc x.k x.v) gr l L) => dr_set h rel.out x.v xk S1 S64 (by have := ll.out; omega))
        have NEXT := Lib.hid (rel.out.set xk x.v)
        have hE := rel.out.room x.k
        have LLN := Lib.hid (show (if roomR Sn N l x.k = 0 then dropR l x.k ++ [⟨x.k, x.v⟩] else l).length ≤ k + 1 from by
          have h1 := dropR_len l x.k
          have h2 := ll.out
          split
          · rw [List.length_append, List.length_singleton]; omega
          · omega)
        rw [hE] at DC NEXT LLN
        clear hE
        generalize (if setK N cc x.k = 0 then dropR l x.k ++ [⟨x.k, x.v⟩] else l) = l2 at *
        generalize setC N cc x.k x.v = c2 at *
        generalize setK N cc x.k = E at *
        have qn : (E != E) = false := by simp
        go_wp2_with (first
          | (refine wpList_loadC (e := x) r1'.out _ rfl rfl rfl ?_)
          | (have _ := h6; refine wpList_alloc_wr h6 31 rfl rfl _ _ zero31 rfl ?_; clear h6; intro X1 h7; generalize wr.heap.size = bx at *)
          | (have _ := h7; refine wpList_store_wr (arr' := x.arr) h7 31 _ _ rfl rfl rfl rfl (by rw [cl_size]; exact sz31) (by rw [cl_size]; rfl) (cl_one x) ?_; clear h7; intro X2 h8; have d0 := h8.cell 0 rfl 0 (.int .i64 x.o) (cl_get0 x)))
        have CB := Lib.hid (fun V c' l' (h : WR w V g b Sn N c' gr l' [(bx, C 31 x.arr), (bs, C 23 #[.int .i64 s1, .int .i64 s2])]) => show V.cell? ⟨bx, 1, none⟩ = some (.int .i64 x.k) ∧ V.cell? ⟨bx, 2, none⟩ = some (.int .i64 x.v) from ⟨h.cell 0 rfl 1 _ (cl_get1 x), h.cell 0 rfl 2 _ (cl_get2 x)⟩)
        have HS0 := Lib.hid (show WR w X2.drew g b Sn N cc gr l [(bx, C 31 x.arr), (bs, C 23 #[.int .i64 s1, .int .i64 s2])] from h8.drewN 1)
        have H0 := Lib.hid (CB.out _ _ _ HS0.out)
        replace PG := Lib.hid (fun W (h : WR w W g b Sn N cc gr l [(bx, C 31 x.arr), (bs, C 23 #[.int .i64 s1, .int .i64 s2])]) => PG.out W _ h)
        replace DC := Lib.hid (fun W (h : WR w W g b Sn N c2 gr l [(bx, C 31 x.arr), (bs, C 23 #[.int .i64 s1, .int .i64 s2])]) => DC.out W _ h)
        clear h8 d0
        refine wp_region_held_drew (S := fun W => W.cell? ⟨bx, 1, none⟩ = some (.int .i64 x.k) ∧ W.cell? ⟨bx, 2, none⟩ = some (.int .i64 x.v)) (by kernel_rfl) H0.out (fun _ => ?_)
        generalize X2.drew = V0 at *
        refine wpAnyH_take (i := 0) (v := .pointer (some ⟨g, 0, none⟩)) rfl (by kernel_rfl) (by kernel_rfl) (by kernel_rfl) (fun _ _ _ h => h) (Or.inl ⟨by rfl, fun W hW => by clear hW; go_simp⟩) H0.out ?_
        try simp only [Act.put, List.getElem_toArray, List.getElem_cons_succ, List.getElem_cons_zero, List.setIfInBounds_toArray, List.set_cons_zero, List.set_cons_succ]
        refine wpAnyH_take (i := 1) (v := .pointer (some ⟨bx, 1, none⟩)) rfl (by kernel_rfl) (by kernel_rfl) (by kernel_rfl) (fun _ _ _ h => h) (Or.inl ⟨by rfl, fun W hW => by clear hW; go_simp⟩) H0.out ?_
        try simp only [Act.put, List.getElem_toArray, List.getElem_cons_succ, List.getElem_cons_zero, List.setIfInBounds_toArray, List.set_cons_zero, List.set_cons_succ]
        refine wpAnyH_take (i := 2) (v := .int .i64 x.k) rfl (by kernel_rfl) (by kernel_rfl) (by kernel_rfl) (fun _ _ _ h => h) (Or.inl ⟨by rfl, fun W hW => by have hc := (show W.cell? ⟨bx, 1, none⟩ = some (.int .i64 x.k) from hW.1); clear hW; go_simp⟩) H0.out ?_
        try simp only [Act.put, List.getElem_toArray, List.getElem_cons_succ, List.getElem_cons_zero, List.setIfInBounds_toArray, List.set_cons_zero, List.set_cons_succ]
        refine wpAnyH_take (i := 3) (v := .pointer (some ⟨bx, 2, none⟩)) rfl (by kernel_rfl) (by kernel_rfl) (by kernel_rfl) (fun _ _ _ h => h) (Or.inl ⟨by rfl, fun W hW => by clear hW; go_simp⟩) H0.out ?_
        try simp only [Act.put, List.getElem_toArray, List.getElem_cons_succ, List.getElem_cons_zero, List.setIfInBounds_toArray, List.set_cons_zero, List.set_cons_succ]
        refine wpAnyH_take (i := 4) (v := .int .i64 x.v) rfl (by kernel_rfl) (by kernel_rfl) (by kernel_rfl) (fun _ _ _ h => h) (Or.inl ⟨by rfl, fun W hW => by have hc := (show W.cell? ⟨bx, 2, none⟩ = some (.int .i64 x.v) from hW.2); clear hW; go_simp⟩) H0.out ?_
        try simp only [Act.put, List.getElem_toArray, List.getElem_cons_succ, List.getElem_cons_zero, List.setIfInBounds_toArray, List.set_cons_zero, List.set_cons_succ]
        refine wpAnyH_take (i := 6) (v := .pointer (some ⟨gr, 0, none⟩)) rfl (by kernel_rfl) (by kernel_rfl) (by kernel_rfl) (fun _ _ _ h => h) (Or.inl ⟨by rfl, fun W hW => by clear hW; go_simp⟩) H0.out ?_
        try simp only [Act.put, List.getElem_toArray, List.getElem_cons_succ, List.getElem_cons_zero, List.setIfInBounds_toArray, List.set_cons_zero, List.set_cons_succ]
        refine wpAnyH_take (i := 7) (v := .pointer (some ⟨bx, 1, none⟩)) rfl (by kernel_rfl) (by kernel_rfl) (by kernel_rfl) (fun _ _ _ h => h) (Or.inl ⟨by rfl, fun W hW => by clear hW; go_simp⟩) H0.out ?_
        try simp only [Act.put, List.getElem_toArray, List.getElem_cons_succ, List.getElem_cons_zero, List.setIfInBounds_toArray, List.set_cons_zero, List.set_cons_succ]
        refine wpAnyH_take (i := 8) (v := .int .i64 x.k) rfl (by kernel_rfl) (by kernel_rfl) (by kernel_rfl) (fun _ _ _ h => h) (Or.inl ⟨by rfl, fun W hW => by have hc := (show W.cell? ⟨bx, 1, none⟩ = some (.int .i64 x.k) from hW.1); clear hW; go_simp⟩) H0.out ?_
        try simp only [Act.put, List.getElem_toArray, List.getElem_cons_succ, List.getElem_cons_zero, List.setIfInBounds_toArray, List.set_cons_zero, List.set_cons_succ]
        refine wpAnyH_take (i := 9) (v := .pointer (some ⟨bx, 2, none⟩)) rfl (by kernel_rfl) (by kernel_rfl) (by kernel_rfl) (fun _ _ _ h => h) (Or.inl ⟨by rfl, fun W hW => by clear hW; go_simp⟩) H0.out ?_
        try simp only [Act.put, List.getElem_toArray, List.getElem_cons_succ, List.getElem_cons_zero, List.setIfInBounds_toArray, List.set_cons_zero, List.set_cons_succ]
        refine wpAnyH_take (i := 10) (v := .int .i64 x.v) rfl (by kernel_rfl) (by kernel_rfl) (by kernel_rfl) (fun _ _ _ h => h) (Or.inl ⟨by rfl, fun W hW => by have hc := (show W.cell? ⟨bx, 2, none⟩ = some (.int .i64 x.v) from hW.2); clear hW; go_simp⟩) H0.out ?_
        try simp only [Act.put, List.getElem_toArray, List.getElem_cons_succ, List.getElem_cons_zero, List.setIfInBounds_toArray, List.set_cons_zero, List.set_cons_succ]
        refine wpAnyH_ready (rs := [5]) (by kernel_rfl) (by simp) ?_
        refine AllReadyH.cons rfl (fun K hK => ?_) AllReadyH.nil
        go_simp
        go_at_call 10
        refine (PG.out _ HS0.out).mono ?_
        rintro e V1 ⟨rfl, h⟩
        have HS1 := Lib.hid h
        clear h
        have H1_ := Lib.hid (CB.out _ _ _ HS1.out)
        refine hK.out _ _ H1_.out (fun _ => ?_)
        clear hK K
        try simp only [Act.put, List.getElem_toArray, List.getElem_cons_succ, List.getElem_cons_zero, List.setIfInBounds_toArray, List.set_cons_zero, List.set_cons_succ]
        refine wpAnyH_ready (rs := [11]) (by kernel_rfl) (by simp) ?_
        refine AllReadyH.cons rfl (fun K hK => ?_) AllReadyH.nil
        go_simp
        go_at_call 11
        refine (DC.out _ HS1.out).mono ?_
        rintro e V2 ⟨rfl, h⟩
        have HS2 := Lib.hid h
        clear h
        have H2_ := Lib.hid (CB.out _ _ _ HS2.out)
        refine hK.out _ _ H2_.out (fun _ => ?_)
        clear hK K
        try simp only [Act.put, List.getElem_toArray, List.getElem_cons_succ, List.getElem_cons_zero, List.setIfInBounds_toArray, List.set_cons_zero, List.set_cons_succ]
        refine wpAnyH_take (i := 12) (v := .bool false) rfl (by kernel_rfl) (by kernel_rfl) (by kernel_rfl) (fun _ _ _ h => h) (Or.inl ⟨by rfl, fun W hW => by clear hW; go_simp⟩) H2_.out ?_
        try simp only [Act.put, List.getElem_toArray, List.getElem_cons_succ, List.getElem_cons_zero, List.setIfInBounds_toArray, List.set_cons_zero, List.set_cons_succ]
        refine wpAnyH_done (by kernel_rfl) ?_ _
        go_wp2
        go_roundw
        case rel => exact ⟨k + 1, _, _, by omega, by go_num, NEXT.out, LLN.out, HS2.out.sub (List.sublist_cons_self _ _)⟩
        case measure => simp [intOf]; omega
      · by_cases ho1 : x.o = 1
        · have q3 : (x.o == 0) = false := by simpa using ho
          have q4 : (x.o = 0) = False := eq_false ho
          have q5 : (x.o == 1) = true := by simpa using ho1
          have q6 : (x.o = 1) = True := eq_true ho1
          have PG := Lib.hid (fun W L (h : WR w W g b Sn N cc gr l L) => wr_drop h xk)
          have DC := Lib.hid (fun W L (h : WR w W g b Sn N (dropC cc x.k) gr l L) => dr_drop (k := x.k) h (by have := ll.out; omega))
          have NEXT := Lib.hid (rel.out.drop x.k)
          have hE := rel.out.getO x.k
          have LLN := Lib.hid (show (dropR l x.k).length ≤ k + 1 from by have h1 := dropR_len l x.k; have h2 := ll.out; omega)
          rw [← hE] at DC
          clear hE
          generalize dropR l x.k = l2 at *
          generalize dropC cc x.k = c2 at *
          generalize getO cc x.k = E at *
          have qn : (E != E) = false := by simp
          go_wp2_with (first
            | (refine wpList_loadC (e := x) r1'.out _ rfl rfl rfl ?_)
            | (have _ := h6; refine wpList_alloc_wr h6 31 rfl rfl _ _ zero31 rfl ?_; clear h6; intro X1 h7; generalize wr.heap.size = bx at *)
            | (have _ := h7; refine wpList_store_wr (arr' := x.arr) h7 31 _ _ rfl rfl rfl rfl (by rw [cl_size]; exact sz31) (by rw [cl_size]; rfl) (cl_one x) ?_; clear h7; intro X2 h8; have d0 := h8.cell 0 rfl 0 (.int .i64 x.o) (cl_get0 x)))
          have CB := Lib.hid (fun V c' l' (h : WR w V g b Sn N c' gr l' [(bx, C 31 x.arr), (bs, C 23 #[.int .i64 s1, .int .i64 s2])]) => show V.cell? ⟨bx, 1, none⟩ = some (.int .i64 x.k) ∧ V.cell? ⟨bx, 2, none⟩ = some (.int .i64 x.v) from ⟨h.cell 0 rfl 1 _ (cl_get1 x), h.cell 0 rfl 2 _ (cl_get2 x)⟩)
          have HS0 := Lib.hid (show WR w X2.drew g b Sn N cc gr l [(bx, C 31 x.arr), (bs, C 23 #[.int .i64 s1, .int .i64 s2])] from h8.drewN 1)
          have H0 := Lib.hid (CB.out _ _ _ HS0.out)
          replace PG := Lib.hid (fun W (h : WR w W g b Sn N cc gr l [(bx, C 31 x.arr), (bs, C 23 #[.int .i64 s1, .int .i64 s2])]) => PG.out W _ h)
          replace DC := Lib.hid (fun W (h : WR w W g b Sn N c2 gr l [(bx, C 31 x.arr), (bs, C 23 #[.int .i64 s1, .int .i64 s2])]) => DC.out W _ h)
          clear h8 d0
          refine wp_region_held_drew (S := fun W => W.cell? ⟨bx, 1, none⟩ = some (.int .i64 x.k) ∧ W.cell? ⟨bx, 2, none⟩ = some (.int .i64 x.v)) (by kernel_rfl) H0.out (fun _ => ?_)
          generalize X2.drew = V0 at *
          refine wpAnyH_take (i := 0) (v := .pointer (some ⟨g, 0, none⟩)) rfl (by kernel_rfl) (by kernel_rfl) (by kernel_rfl) (fun _ _ _ h => h) (Or.inl ⟨by rfl, fun W hW => by clear hW; go_simp⟩) H0.out ?_
          try simp only [Act.put, List.getElem_toArray, List.getElem_cons_succ, List.getElem_cons_zero, List.setIfInBounds_toArray, List.set_cons_zero, List.set_cons_succ]
          refine wpAnyH_take (i := 1) (v := .pointer (some ⟨bx, 1, none⟩)) rfl (by kernel_rfl) (by kernel_rfl) (by kernel_rfl) (fun _ _ _ h => h) (Or.inl ⟨by rfl, fun W hW => by clear hW; go_simp⟩) H0.out ?_
          try simp only [Act.put, List.getElem_toArray, List.getElem_cons_succ, List.getElem_cons_zero, List.setIfInBounds_toArray, List.set_cons_zero, List.set_cons_succ]
          refine wpAnyH_take (i := 2) (v := .int .i64 x.k) rfl (by kernel_rfl) (by kernel_rfl) (by kernel_rfl) (fun _ _ _ h => h) (Or.inl ⟨by rfl, fun W hW => by have hc := (show W.cell? ⟨bx, 1, none⟩ = some (.int .i64 x.k) from hW.1); clear hW; go_simp⟩) H0.out ?_
          try simp only [Act.put, List.getElem_toArray, List.getElem_cons_succ, List.getElem_cons_zero, List.setIfInBounds_toArray, List.set_cons_zero, List.set_cons_succ]
          refine wpAnyH_take (i := 4) (v := .pointer (some ⟨gr, 0, none⟩)) rfl (by kernel_rfl) (by kernel_rfl) (by kernel_rfl) (fun _ _ _ h => h) (Or.inl ⟨by rfl, fun W hW => by clear hW; go_simp⟩) H0.out ?_
          try simp only [Act.put, List.getElem_toArray, List.getElem_cons_succ, List.getElem_cons_zero, List.setIfInBounds_toArray, List.set_cons_zero, List.set_cons_succ]
          refine wpAnyH_take (i := 5) (v := .pointer (some ⟨bx, 1, none⟩)) rfl (by kernel_rfl) (by kernel_rfl) (by kernel_rfl) (fun _ _ _ h => h) (Or.inl ⟨by rfl, fun W hW => by clear hW; go_simp⟩) H0.out ?_
          try simp only [Act.put, List.getElem_toArray, List.getElem_cons_succ, List.getElem_cons_zero, List.setIfInBounds_toArray, List.set_cons_zero, List.set_cons_succ]
          refine wpAnyH_take (i := 6) (v := .int .i64 x.k) rfl (by kernel_rfl) (by kernel_rfl) (by kernel_rfl) (fun _ _ _ h => h) (Or.inl ⟨by rfl, fun W hW => by have hc := (show W.cell? ⟨bx, 1, none⟩ = some (.int .i64 x.k) from hW.1); clear hW; go_simp⟩) H0.out ?_
          try simp only [Act.put, List.getElem_toArray, List.getElem_cons_succ, List.getElem_cons_zero, List.setIfInBounds_toArray, List.set_cons_zero, List.set_cons_succ]
          refine wpAnyH_ready (rs := [3]) (by kernel_rfl) (by simp) ?_
          refine AllReadyH.cons rfl (fun K hK => ?_) AllReadyH.nil
          go_simp
          go_at_call 12
          refine (PG.out _ HS0.out).mono ?_
          rintro e V1 ⟨rfl, h⟩
          have HS1 := Lib.hid h
          clear h
          have H1_ := Lib.hid (CB.out _ _ _ HS1.out)
          refine hK.out _ _ H1_.out (fun _ => ?_)
          clear hK K
          try simp only [Act.put, List.getElem_toArray, List.getElem_cons_succ, List.getElem_cons_zero, List.setIfInBounds_toArray, List.set_cons_zero, List.set_cons_succ]
          refine wpAnyH_ready (rs := [7]) (by kernel_rfl) (by simp) ?_
          refine AllReadyH.cons rfl (fun K hK => ?_) AllReadyH.nil
          go_simp
          go_at_call 13
          refine (DC.out _ HS1.out).mono ?_
          rintro e V2 ⟨rfl, h⟩
          have HS2 := Lib.hid h
          clear h
          have H2_ := Lib.hid (CB.out _ _ _ HS2.out)
          refine hK.out _ _ H2_.out (fun _ => ?_)
          clear hK K
          try simp only [Act.put, List.getElem_toArray, List.getElem_cons_succ, List.getElem_cons_zero, List.setIfInBounds_toArray, List.set_cons_zero, List.set_cons_succ]
          refine wpAnyH_take (i := 8) (v := .bool false) rfl (by kernel_rfl) (by kernel_rfl) (by kernel_rfl) (fun _ _ _ h => h) (Or.inl ⟨by rfl, fun W hW => by clear hW; go_simp⟩) H2_.out ?_
          try simp only [Act.put, List.getElem_toArray, List.getElem_cons_succ, List.getElem_cons_zero, List.setIfInBounds_toArray, List.set_cons_zero, List.set_cons_succ]
          refine wpAnyH_done (by kernel_rfl) ?_ _
          go_wp2
          go_roundw
          case rel => exact ⟨k + 1, _, _, by omega, by go_num, NEXT.out, LLN.out, HS2.out.sub (List.sublist_cons_self _ _)⟩
          case measure => simp [intOf]; omega
        · have q3 : (x.o == 0) = false := by simpa using ho
          have q4 : (x.o = 0) = False := eq_false ho
          have q5 : (x.o == 1) = false := by simpa using ho1
          have q6 : (x.o = 1) = False := eq_false ho1
          have PG := Lib.hid (fun W L (h : WR w W g b Sn N cc gr l L) => wr_touch h rel.out xk N64)
          have DC := Lib.hid (fun W L (h : WR w W g b Sn N (touchC cc x.k) gr l L) => show Calls Try.prog 15 #[.pointer (some ⟨gr, 0, none⟩), .int .i64 x.k] W fun e W' => e = .returned (.bool (fnd l x.k).isSome) ∧ WR w W' g b Sn N (touchC cc x.k) gr (touchR l x.k) L from dr_touch (k := x.k) h (by have := ll.out; omega))
          have NEXT := Lib.hid (show Rel Sn N (touchC cc x.k) (touchR l x.k) from rel.out.touch xk)
          have hE := rel.out.getO x.k
          have LLN := Lib.hid (show (touchR l x.k).length ≤ k + 1 from by
            unfold touchR
            have h1 := dropR_len l x.k
            have h2 := ll.out
            split
            · rw [List.length_append, List.length_singleton]; omega
            · omega)
          rw [← hE] at DC
          clear hE
          generalize touchR l x.k = l2 at *
          generalize touchC cc x.k = c2 at *
          generalize getO cc x.k = E at *
          have qn : (E != E) = false := by simp
          go_wp2_with (first
            | (refine wpList_loadC (e := x) r1'.out _ rfl rfl rfl ?_)
            | (have _ := h6; refine wpList_alloc_wr h6 31 rfl rfl _ _ zero31 rfl ?_; clear h6; intro X1 h7; generalize wr.heap.size = bx at *)
            | (have _ := h7; refine wpList_store_wr (arr' := x.arr) h7 31 _ _ rfl rfl rfl rfl (by rw [cl_size]; exact sz31) (by rw [cl_size]; rfl) (cl_one x) ?_; clear h7; intro X2 h8; have d0 := h8.cell 0 rfl 0 (.int .i64 x.o) (cl_get0 x)))
          have CB := Lib.hid (fun V c' l' (h : WR w V g b Sn N c' gr l' [(bx, C 31 x.arr), (bs, C 23 #[.int .i64 s1, .int .i64 s2])]) => show V.cell? ⟨bx, 1, none⟩ = some (.int .i64 x.k) ∧ V.cell? ⟨bx, 2, none⟩ = some (.int .i64 x.v) from ⟨h.cell 0 rfl 1 _ (cl_get1 x), h.cell 0 rfl 2 _ (cl_get2 x)⟩)
          have HS0 := Lib.hid (show WR w X2.drew g b Sn N cc gr l [(bx, C 31 x.arr), (bs, C 23 #[.int .i64 s1, .int .i64 s2])] from h8.drewN 1)
          have H0 := Lib.hid (CB.out _ _ _ HS0.out)
          replace PG := Lib.hid (fun W (h : WR w W g b Sn N cc gr l [(bx, C 31 x.arr), (bs, C 23 #[.int .i64 s1, .int .i64 s2])]) => PG.out W _ h)
          replace DC := Lib.hid (fun W (h : WR w W g b Sn N c2 gr l [(bx, C 31 x.arr), (bs, C 23 #[.int .i64 s1, .int .i64 s2])]) => DC.out W _ h)
          clear h8 d0
          refine wp_region_held_drew (S := fun W => W.cell? ⟨bx, 1, none⟩ = some (.int .i64 x.k) ∧ W.cell? ⟨bx, 2, none⟩ = some (.int .i64 x.v)) (by kernel_rfl) H0.out (fun _ => ?_)
          generalize X2.drew = V0 at *
          refine wpAnyH_take (i := 0) (v := .pointer (some ⟨g, 0, none⟩)) rfl (by kernel_rfl) (by kernel_rfl) (by kernel_rfl) (fun _ _ _ h => h) (Or.inl ⟨by rfl, fun W hW => by clear hW; go_simp⟩) H0.out ?_
          try simp only [Act.put, List.getElem_toArray, List.getElem_cons_succ, List.getElem_cons_zero, List.setIfInBounds_toArray, List.set_cons_zero, List.set_cons_succ]
          refine wpAnyH_take (i := 1) (v := .pointer (some ⟨bx, 1, none⟩)) rfl (by kernel_rfl) (by kernel_rfl) (by kernel_rfl) (fun _ _ _ h => h) (Or.inl ⟨by rfl, fun W hW => by clear hW; go_simp⟩) H0.out ?_
          try simp only [Act.put, List.getElem_toArray, List.getElem_cons_succ, List.getElem_cons_zero, List.setIfInBounds_toArray, List.set_cons_zero, List.set_cons_succ]
          refine wpAnyH_take (i := 2) (v := .int .i64 x.k) rfl (by kernel_rfl) (by kernel_rfl) (by kernel_rfl) (fun _ _ _ h => h) (Or.inl ⟨by rfl, fun W hW => by have hc := (show W.cell? ⟨bx, 1, none⟩ = some (.int .i64 x.k) from hW.1); clear hW; go_simp⟩) H0.out ?_
          try simp only [Act.put, List.getElem_toArray, List.getElem_cons_succ, List.getElem_cons_zero, List.setIfInBounds_toArray, List.set_cons_zero, List.set_cons_succ]
          refine wpAnyH_take (i := 4) (v := .pointer (some ⟨gr, 0, none⟩)) rfl (by kernel_rfl) (by kernel_rfl) (by kernel_rfl) (fun _ _ _ h => h) (Or.inl ⟨by rfl, fun W hW => by clear hW; go_simp⟩) H0.out ?_
          try simp only [Act.put, List.getElem_toArray, List.getElem_cons_succ, List.getElem_cons_zero, List.setIfInBounds_toArray, List.set_cons_zero, List.set_cons_succ]
          refine wpAnyH_take (i := 5) (v := .pointer (some ⟨bx, 1, none⟩)) rfl (by kernel_rfl) (by kernel_rfl) (by kernel_rfl) (fun _ _ _ h => h) (Or.inl ⟨by rfl, fun W hW => by clear hW; go_simp⟩) H0.out ?_
          try simp only [Act.put, List.getElem_toArray, List.getElem_cons_succ, List.getElem_cons_zero, List.setIfInBounds_toArray, List.set_cons_zero, List.set_cons_succ]
          refine wpAnyH_take (i := 6) (v := .int .i64 x.k) rfl (by kernel_rfl) (by kernel_rfl) (by kernel_rfl) (fun _ _ _ h => h) (Or.inl ⟨by rfl, fun W hW => by have hc := (show W.cell? ⟨bx, 1, none⟩ = some (.int .i64 x.k) from hW.1); clear hW; go_simp⟩) H0.out ?_
          try simp only [Act.put, List.getElem_toArray, List.getElem_cons_succ, List.getElem_cons_zero, List.setIfInBounds_toArray, List.set_cons_zero, List.set_cons_succ]
          refine wpAnyH_ready (rs := [3]) (by kernel_rfl) (by simp) ?_
          refine AllReadyH.cons rfl (fun K hK => ?_) AllReadyH.nil
          go_simp
          go_at_call 14
          refine (PG.out _ HS0.out).mono ?_
          rintro e V1 ⟨rfl, h⟩
          have HS1 := Lib.hid h
          clear h
          have H1_ := Lib.hid (CB.out _ _ _ HS1.out)
          refine hK.out _ _ H1_.out (fun _ => ?_)
          clear hK K
          try simp only [Act.put, List.getElem_toArray, List.getElem_cons_succ, List.getElem_cons_zero, List.setIfInBounds_toArray, List.set_cons_zero, List.set_cons_succ]
          refine wpAnyH_ready (rs := [7]) (by kernel_rfl) (by simp) ?_
          refine AllReadyH.cons rfl (fun K hK => ?_) AllReadyH.nil
          go_simp
          go_at_call 15
          refine (DC.out _ HS1.out).mono ?_
          rintro e V2 ⟨rfl, h⟩
          have HS2 := Lib.hid h
          clear h
          have H2_ := Lib.hid (CB.out _ _ _ HS2.out)
          refine hK.out _ _ H2_.out (fun _ => ?_)
          clear hK K
          try simp only [Act.put, List.getElem_toArray, List.getElem_cons_succ, List.getElem_cons_zero, List.setIfInBounds_toArray, List.set_cons_zero, List.set_cons_succ]
          refine wpAnyH_take (i := 8) (v := .bool false) rfl (by kernel_rfl) (by kernel_rfl) (by kernel_rfl) (fun _ _ _ h => h) (Or.inl ⟨by rfl, fun W hW => by clear hW; go_simp⟩) H2_.out ?_
          try simp only [Act.put, List.getElem_toArray, List.getElem_cons_succ, List.getElem_cons_zero, List.setIfInBounds_toArray, List.set_cons_zero, List.set_cons_succ]
          refine wpAnyH_done (by kernel_rfl) ?_ _
          go_wp2
          go_roundw
          case rel => exact ⟨k + 1, _, _, by omega, by go_num, NEXT.out, LLN.out, HS2.out.sub (List.sublist_cons_self _ _)⟩
          case measure => simp [intOf]; omega
    · obtain rfl : k = n := by omega
      have g1 : ((k : Int) < (k : Int)) = False := eq_false (by omega)
      have l1000 : l.length ≤ 1000 := by omega
      have bl := (rel.out.inv.sof key).1
      have GE := Lib.hid (fun W L (h : WR w W g b Sn N cc gr l L) => wr_get h hkey)
      have FI := Lib.hid (fun W L (h : WR w W g b Sn N cc gr l L) => dr_find h key)
      have OP := Lib.hid (fun W L (h : WR w W g b Sn N cc gr l L) => wr_oldest h hkey (by omega))
      have OD := Lib.hid (fun W L (h : WR w W g b Sn N cc gr l L) => dr_oldest h rel.out hkey S1 S64 l1000)
      have KP := Lib.hid (fun W L (h : WR w W g b Sn N cc gr l L) => wr_keys h (fun xs hx => by
        obtain ⟨i, hi⟩ := List.getElem?_of_mem hx
        have := (rel.out.inv.each i xs hi).1
        omega))
      have KD := Lib.hid (fun W L (h : WR w W g b Sn N cc gr l L) => dr_keys h l1000)
      have RP := Lib.hid (fun W L (h : WR w W g b Sn N cc gr l L) => wr_room h hkey N64)
      have RD := Lib.hid (fun W L (h : WR w W g b Sn N cc gr l L) => dr_room h rel.out hkey S1 S64 l1000)
      rw [rel.out.old] at OD
      rw [rel.out.getO] at GE
      rw [rel.out.room] at RD
      have qE := setK_room N cc key
      cases hf : fnd l key with
      | none =>
        have e1 : fndV l key = -1 := by unfold fndV; rw [hf]
        rw [e1] at FI
        rw [hf, rel.out.getV0 hf] at GE
        generalize ks (sof cc key) = KS at *
        generalize setK N cc key = E at *
        generalize room N cc key = B at *
        have qb : (B == B) = true := by simp
        clear hf e1 bl ll
        go_wp2_with (first
          | (have _ := h6; go_at_call 16; refine (GE.out _ _ h6).mono ?_; clear h6; rintro e X1 ⟨rfl, h7⟩)
          | (have _ := h7; go_at_call 17; refine (FI.out _ _ h7).mono ?_; rintro e X2 ⟨rfl, rfl⟩)
          | (have _ := h7; go_at_call 19; refine (OP.out _ _ h7).mono ?_; clear h7; rintro e X3 ⟨v1, M1, rfl, hr1, h8⟩; have R1 := Lib.hid hr1; clear hr1)
          | (have _ := h8; go_at_call 20; refine (OD.out _ _ h8).mono ?_; clear h8; rintro e X4 ⟨v2, M2, rfl, hr2, h9⟩; have R2 := Lib.hid hr2; clear hr2)
          | (have _ := h9; have _ := R2; go_at_call 18; refine (same_rows R1.out R2.out (h9.st.perm (List.perm_append_comm_assoc M2 M1 _)) h9.st rfl).mono ?_; clear R1 R2; rintro e X5 ⟨rfl, j, rfl⟩; have h10 := h9.drewN j; clear h9)
          | (have _ := h10; go_at_call 21; refine (KP.out _ _ h10).mono ?_; clear h10; rintro e X6 ⟨v3, M3, rfl, hr3, h11⟩; have R3 := Lib.hid hr3; clear hr3)
          | (have _ := h11; go_at_call 22; refine (KD.out _ _ h11).mono ?_; clear h11; rintro e X7 ⟨v4, M4, out, rfl, hr4, hs4, hp4, h12⟩; have e4 := Lib.hid (rel.out.keys hs4 hp4); have R4 := Lib.hid hr4; clear hr4 hs4 hp4)
          | (have _ := h12; have _ := R4; go_at_call 18; refine (same_rows R3.out R4.out (h12.st.perm (List.perm_append_comm_assoc M4 M3 _)) h12.st e4.out).mono ?_; clear R3 R4; rintro e X8 ⟨rfl, j, rfl⟩; have h13 := h12.drewN j; clear h12)
          | (have _ := h13; go_at_call 23; refine (RP.out _ _ h13).mono ?_; clear h13; rintro e X9 ⟨rfl, h14⟩)
          | (have _ := h14; go_at_call 24; refine (RD.out _ _ h14).mono ?_; clear h14; rintro e X10 ⟨rfl, h15⟩))
        go_ret
        exact ⟨rfl, h15.bel⟩
      | some i =>
        have e1 : fndV l key = (i : Int) := by unfold fndV; rw [hf]
        obtain ⟨x, hx, hxk, _⟩ := fnd_spec hf
        have hil : i < l.length := (List.getElem?_eq_some_iff.1 hx).1
        have ex : l.getD i default = x := by rw [List.getD_eq_getElem?_getD, hx]; rfl
        rw [e1] at FI
        rw [hf, rel.out.getV hf, ex] at GE
        generalize ks (sof cc key) = KS at *
        generalize setK N cc key = E at *
        generalize room N cc key = B at *
        have qb : (B == B) = true := by simp
        have qv : (x.v != x.v) = false := by simp
        have qi : (0 ≤ (i : Int)) = True := eq_true (by omega)
        have qi2 : decide (0 ≤ (i : Int)) = true := decide_eq_true (by omega)
        have HX := Lib.hid hx
        clear hf e1 bl ll hx hxk ex
        go_wp2_with (first
          | (have _ := h6; go_at_call 16; refine (GE.out _ _ h6).mono ?_; clear h6; rintro e X1 ⟨rfl, h7⟩)
          | (have _ := h7; go_at_call 17; refine (FI.out _ _ h7).mono ?_; rintro e X2 ⟨rfl, rfl⟩; obtain ⟨A7, p7, c2, row7⟩ := h7.list; obtain ⟨b7, o7, rfl, _, _, d7, _⟩ := pr_cells row7 i x HX.out; clear row7)
          | (have _ := h7; go_at_call 19; refine (OP.out _ _ h7).mono ?_; clear h7; rintro e X3 ⟨v1, M1, rfl, hr1, h8⟩; have R1 := Lib.hid hr1; clear hr1)
          | (have _ := h8; go_at_call 20; refine (OD.out _ _ h8).mono ?_; clear h8; rintro e X4 ⟨v2, M2, rfl, hr2, h9⟩; have R2 := Lib.hid hr2; clear hr2)
          | (have _ := h9; have _ := R2; go_at_call 18; refine (same_rows R1.out R2.out (h9.st.perm (List.perm_append_comm_assoc M2 M1 _)) h9.st rfl).mono ?_; clear R1 R2; rintro e X5 ⟨rfl, j, rfl⟩; have h10 := h9.drewN j; clear h9)
          | (have _ := h10; go_at_call 21; refine (KP.out _ _ h10).mono ?_; clear h10; rintro e X6 ⟨v3, M3, rfl, hr3, h11⟩; have R3 := Lib.hid hr3; clear hr3)
          | (have _ := h11; go_at_call 22; refine (KD.out _ _ h11).mono ?_; clear h11; rintro e X7 ⟨v4, M4, out, rfl, hr4, hs4, hp4, h12⟩; have e4 := Lib.hid (rel.out.keys hs4 hp4); have R4 := Lib.hid hr4; clear hr4 hs4 hp4)
          | (have _ := h12; have _ := R4; go_at_call 18; refine (same_rows R3.out R4.out (h12.st.perm (List.perm_append_comm_assoc M4 M3 _)) h12.st e4.out).mono ?_; clear R3 R4; rintro e X8 ⟨rfl, j, rfl⟩; have h13 := h12.drewN j; clear h12)
          | (have _ := h13; go_at_call 23; refine (RP.out _ _ h13).mono ?_; clear h13; rintro e X9 ⟨rfl, h14⟩)
          | (have _ := h14; go_at_call 24; refine (RD.out _ _ h14).mono ?_; clear h14; rintro e X10 ⟨rfl, h15⟩))
        go_ret
        exact ⟨rfl, h15.bel⟩
end Go.Proofs.Ytmlepikgiicaiaa
