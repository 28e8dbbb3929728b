/- The law of what is sent on one link. No statement is proved here. -/
import Derived.Test.YtacjdeppigdbjaaNet8
import Derived.Deep.CutBlock
namespace Go.Proofs.Ytacjdeppigdbjaa
open Go.RowKit
set_option linter.unusedVariables false
set_option linter.unusedSimpArgs false

theorem box_rangeN {W : World} {b : Nat} {m : Msg} (h : At W b 31 m.arr) : W.rangeAt b 0 m.cs := fun j v hv => by
  rw [Nat.zero_add, h.cell]
  simpa [Msg.arr] using hv
theorem same_true {W : World} {A1 A2 : Option Addr} {n c1 c2 : Nat} {xs : List Msg} (h : Calls Try.prog 19 #[.slice A1 n c1, .slice A2 n c2] W fun e w' => e = .returned (.bool (decide (xs = xs))) ∧ ∃ j, w' = W.drewN j) :
    Calls Try.prog 19 #[.slice A1 n c1, .slice A2 n c2] W fun e w' => e = .returned (.bool true) ∧ ∃ j, w' = W.drewN j := by
  rwa [decide_eq_true rfl] at h
theorem room_bound {w W : World} {g q u n R : Nat} {ps : List Nat} {c : Nat → List Msg} {L : Blks} (h : NX w W g q u n R ps c L) (o : Lk) : 0 ≤ roomOf n R c o ∧ roomOf n R c o ≤ 4096 ∧ (allOf n c o).length ≤ 4096 := by
  have h4 := h.r4
  unfold roomOf allOf
  by_cases ho : hasO n o = true
  · rw [if_pos ho, if_pos ho]
    obtain ⟨a, b, d, rfl, ha, hb, hd, e⟩ := has_nat ho
    have := h.lenle _ (idx_lt ha hb hd)
    rw [e]
    omega
  · rw [if_neg ho, if_neg ho]; simp
def ApRel (w : World) (g q u nn R b8 b9 : Nat) (l o : Lk) (n : Nat) (i : Value) (wr : World) : Prop :=
  ∃ (k : Nat) (ps : List Nat) (cc : Nat → List Msg), k ≤ n ∧ i = .int .i64 (k : Nat) ∧ NX w wr g q u nn R ps cc [(b9, C 51 #[.int .i64 o.a, .int .i64 o.b, .int .i64 o.d]), (b8, C 51 #[.int .i64 l.a, .int .i64 l.b, .int .i64 l.d])]
attribute [local irreducible] Msg.arr bufM marr narr idx lks parr mixp lsTo sumTo roomOf allOf sendC sendK sendOk hasO idxL
set_option maxRecDepth 20000 in
set_option maxHeartbeats 8000000 in
theorem apart_walk (nodes room : Int) (A : Option Addr) (n c : Nat) (list : List Msg) (l o : Lk) (w : World) (hr : ERow w w.heap.size A n c list) :
    Calls Try.prog 8 #[.int .i64 nodes, .int .i64 room, .slice A n c, .agg #[.int .i64 l.a, .int .i64 l.b, .int .i64 l.d], .agg #[.int .i64 o.a, .int .i64 o.b, .int .i64 o.d]] w fun e w' => e = .returned (.bool true) ∧ Below w.heap.size w w' := by
  have SK := Lib.hid (fun W => speaks10_any W)
  have hl := hr.len
  have mx := hr.max
  have S0 := St.nil w
  by_cases h100 : 60 < n
  · have q : ((60 : Int) < (n : Int)) = True := eq_true (by omega)
    clear hr
    go_enter Try.func8, Try.ntmps8
    go_wp2_with (first
      | (refine wpList_box_st S0 51 _ rfl rfl #[.int .i64 l.a, .int .i64 l.b, .int .i64 l.d] rfl ?_; clear S0; intro W1 h1 _ _)
      | (have _ := h1; refine wpList_box_st h1 51 _ rfl rfl #[.int .i64 o.a, .int .i64 o.b, .int .i64 o.d] rfl ?_; clear h1; intro W2 h2 _ _)
      | (have _ := h2; go_at_call 21; refine (SK.out _).mono ?_; rintro e W3 ⟨rfl, hb⟩; have h3 := h2.call hb; clear h2))
    go_ret
    exact ⟨rfl, h3.bel⟩
  have q : ((60 : Int) < (n : Int)) = False := eq_false (by omega)
  have NW := Lib.hid (fun W L (h : St w W L) => nnew_any nodes room h)
  generalize clampN nodes = nn at *
  generalize clampR room = R at *
  obtain ⟨b1, o1, hA⟩ := hr.addr
  replace hA := Lib.hid hA
  have HR := Lib.hid hr
  replace hl := Lib.hid hl
  clear hr
  go_enter Try.func8, Try.ntmps8
  go_wp2_with (first
    | (refine wpList_box_st S0 51 _ rfl rfl #[.int .i64 l.a, .int .i64 l.b, .int .i64 l.d] rfl ?_; clear S0; intro W1 h1 _ _; replace h1 := h1.front; generalize w.heap.size = b8 at h1 ⊢)
    | (have _ := h1; refine wpList_box_st h1 51 _ rfl rfl #[.int .i64 o.a, .int .i64 o.b, .int .i64 o.d] rfl ?_; clear h1; intro W2 h2 _ _; replace h2 := h2.front; generalize W1.heap.size = b9 at *)
    | (have _ := h2; go_at_call 21; refine (SK.out _).mono ?_; rintro e W3 ⟨rfl, hb⟩; have h3 := h2.call hb; clear h2 hb SK)
    | (have _ := h3; go_at_call 22; refine (NW.out _ _ h3).mono ?_; clear h3; rintro e W4 ⟨g, q, u, ps, rfl, h4⟩; clear NW))
  go_loopw [28] (ApRel w g q u nn R b8 b9 l o n) (fun i _ => n - (intOf i).toNat)
  case atStart => exact ⟨0, ps, _, by omega, rfl, h4⟩
  case round =>
    obtain ⟨k, ps, cc, hk, rfl, h5⟩ := hrel
    clear h4
    by_cases hlt : k < n
    · have g1 : ((k : Int) < (n : Int)) = True := eq_true (by omega)
      have hk2 : k < list.length := by have := hl.out; omega
      have hx : list[k]? = some list[k] := List.getElem?_eq_getElem hk2
      generalize list[k] = x at *
      have hA2 := hA.out (by omega)
      subst hA2
      obtain ⟨hb1, r1⟩ := HR.out.at2 k x hx
      have r1' : w.rangeAt b1 (o1 + k * 38) x.cs := r1
      replace r1' := Lib.hid r1'
      replace hb1 := Lib.hid hb1
      have SD := Lib.hid (fun W L (h : NX w W g q u nn R ps cc L) => nsend_any h o.a x)
      clear r1 hk2 hx
      go_wp2_with (first
        | (have _ := h5; refine wpList_loadM (m := x) (b := b1) (off := o1 + k * 38) (rangeAt_keep r1'.out (h5.bel.block _ hb1.out)) (.tmp 30) rfl rfl rfl ?_)
        | (have _ := h5; refine wpList_alloc_nx h5 31 rfl rfl _ zmsg.arr zero31 rfl ?_; clear h5; intro X1 h6; generalize wr.heap.size = b13 at *)
        | (have _ := h6; refine wpList_store_nx (arr' := x.arr) h6 0 rfl 31 (.tmp 13) (.tmp 31) rfl rfl rfl rfl (by rw [Msg.arr_size]; exact sz31) (by simp only [Msg.arr_size]) (Msg.arr_one _) ?_; clear h6; intro X2 h7; have d0 := h7.cell 1 rfl 0 (.int .i64 o.a) rfl)
        | (have _ := h7; refine wpList_loadM (off := 0) (box_rangeN (h7.at2 0 rfl)) (.tmp 13) rfl rfl rfl ?_)
        | (have _ := h7; go_at_call 27; refine (SD.out _ _ h7).mono ?_; clear h7 d0; rintro e X3 ⟨ps3, rfl, h8⟩))
      go_roundw
      case rel => exact ⟨k + 1, ps3, _, by omega, by go_num, h8.tail⟩
      case measure => simp [intOf]; omega
    · have g1 : ((k : Int) < (n : Int)) = False := eq_false (by omega)
      obtain ⟨fr0, fr1, bl⟩ := room_bound h5 o
      have HBL := Lib.hid (show (allOf nn cc o).length ≤ 100000 by omega)
      have FA := Lib.hid (fun W L (h : NX w W g q u nn R ps cc L) => nall_any h o)
      have FRm := Lib.hid (fun W L (h : NX w W g q u nn R ps cc L) => nroom_any h o)
      have SD := Lib.hid (fun W L ps (h : NX w W g q u nn R ps cc L) => nsend_any h l.a (kmsg 1 l.b l.d))
      have FA2 := Lib.hid (fun W L ps (h : NX w W g q u nn R ps (sendC nn R cc l.a (kmsg 1 l.b l.d)) L) => nall_any h o)
      have FR2 := Lib.hid (fun W L ps (h : NX w W g q u nn R ps (sendC nn R cc l.a (kmsg 1 l.b l.d)) L) => nroom_any h o)
      have lk0 : lkOf l.a (kmsg 1 l.b l.d) = l := rfl
      have EQ := fun W => eql_lnk l o W
      have OT := Lib.hid (fun (h : lkOf l.a (kmsg 1 l.b l.d) ≠ o) => all_other (n := nn) (R := R) (c := cc) h)
      have SM1 := Lib.hid (fun (h : lkOf l.a (kmsg 1 l.b l.d) = o) hk => all_same_link (n := nn) (R := R) (c := cc) h hk)
      have SM2 := Lib.hid (fun hk => send_no_k (n := nn) (R := R) (c := cc) (a := l.a) (m := kmsg 1 l.b l.d) hk)
      rw [lk0] at OT SM1
      generalize sendC nn R cc l.a (kmsg 1 l.b l.d) = c2 at *
      generalize sendK nn R cc l.a (kmsg 1 l.b l.d) = kk at *
      generalize sendOk nn R cc l.a (kmsg 1 l.b l.d) = ok at *
      generalize roomOf nn R cc o = FR at *
      generalize allOf nn cc o = BF at *
      generalize hNB : BF.length = NB at *
      have w1 : IntKind.i64.wrap (FR - 1) = FR - 1 := IntWalk.i64_in _ (by omega)
      have w2 : IntKind.i64.wrap ((NB : Int) + 1) = (NB : Int) + 1 := IntWalk.i64_in _ (by omega)
      replace hNB := Lib.hid hNB
      clear lk0
      go_wp2
      have h6 : NX w wr.drew g q u nn R ps cc _ := h5.drewN 1
      have H0 := Lib.hid (show At wr.drew b9 51 #[.int .i64 o.a, .int .i64 o.b, .int .i64 o.d] from h6.mem (by simp))
      refine wp_region_held_drew (S := fun W => At W b9 51 #[.int .i64 o.a, .int .i64 o.b, .int .i64 o.d]) (by kernel_rfl) H0.out (fun _ => ?_)
      clear h5
      generalize wr.drew = V0 at *
      refine wpAnyH_take (i := 0) (v := .pointer (some ⟨g, 0, none⟩)) rfl (by kernel_rfl) (by kernel_rfl) (by kernel_rfl) (fun _ _ _ h => h) (Or.inl ⟨by rfl, fun W hW => by clear hW; go_simp⟩) H0.out ?_
      try simp only [Act.put, List.getElem_toArray, List.getElem_cons_succ, List.getElem_cons_zero, List.setIfInBounds_toArray, List.set_cons_zero, List.set_cons_succ]
      refine wpAnyH_take (i := 1) (v := .agg #[.int .i64 o.a, .int .i64 o.b, .int .i64 o.d]) rfl (by kernel_rfl) (by kernel_rfl) (by kernel_rfl) (fun _ _ _ h => h) (yields_at 51 _ _ rfl (by rfl) rfl Try.underlying51 rfl sz51 (fun W hW => hW)) H0.out ?_
      try simp only [Act.put, List.getElem_toArray, List.getElem_cons_succ, List.getElem_cons_zero, List.setIfInBounds_toArray, List.set_cons_zero, List.set_cons_succ]
      refine wpAnyH_take (i := 3) (v := .pointer (some ⟨g, 0, none⟩)) rfl (by kernel_rfl) (by kernel_rfl) (by kernel_rfl) (fun _ _ _ h => h) (Or.inl ⟨by rfl, fun W hW => by clear hW; go_simp⟩) H0.out ?_
      try simp only [Act.put, List.getElem_toArray, List.getElem_cons_succ, List.getElem_cons_zero, List.setIfInBounds_toArray, List.set_cons_zero, List.set_cons_succ]
      refine wpAnyH_take (i := 4) (v := .agg #[.int .i64 o.a, .int .i64 o.b, .int .i64 o.d]) rfl (by kernel_rfl) (by kernel_rfl) (by kernel_rfl) (fun _ _ _ h => h) (yields_at 51 _ _ rfl (by rfl) rfl Try.underlying51 rfl sz51 (fun W hW => hW)) H0.out ?_
      try simp only [Act.put, List.getElem_toArray, List.getElem_cons_succ, List.getElem_cons_zero, List.setIfInBounds_toArray, List.set_cons_zero, List.set_cons_succ]
      refine wpAnyH_ready (rs := [2]) (by kernel_rfl) (by simp) ?_
      refine AllReadyH.cons rfl (fun K hK => ?_) AllReadyH.nil
      go_simp
      go_at_call 35
      refine (FA.out _ _ h6).mono ?_
      rintro e V1 ⟨A5, M5, rfl, hv5, h7⟩
      clear h6
      have H1_ := Lib.hid (show At V1 b9 51 #[.int .i64 o.a, .int .i64 o.b, .int .i64 o.d] from h7.mem (by simp))
      refine hK.out _ _ H1_.out (fun _ => ?_)
      clear hK K
      try simp only [Act.put, List.getElem_toArray, List.getElem_cons_succ, List.getElem_cons_zero, List.setIfInBounds_toArray, List.set_cons_zero, List.set_cons_succ]
      refine wpAnyH_ready (rs := [5]) (by kernel_rfl) (by simp) ?_
      refine AllReadyH.cons rfl (fun K hK => ?_) AllReadyH.nil
      go_simp
      go_at_call 34
      refine (FRm.out _ _ h7).mono ?_
      rintro e V2 ⟨rfl, h8⟩
      clear h7
      have H2_ := Lib.hid (show At V2 b9 51 #[.int .i64 o.a, .int .i64 o.b, .int .i64 o.d] from h8.mem (by simp))
      refine hK.out _ _ H2_.out (fun _ => ?_)
      clear hK K
      try simp only [Act.put, List.getElem_toArray, List.getElem_cons_succ, List.getElem_cons_zero, List.setIfInBounds_toArray, List.set_cons_zero, List.set_cons_succ]
      refine wpAnyH_take (i := 6) (v := .slice A5 NB NB) rfl (by kernel_rfl) (by kernel_rfl) (by kernel_rfl) (fun _ _ _ h => h) (Or.inl ⟨by rfl, fun W hW => by clear hW; go_simp⟩) H2_.out ?_
      try simp only [Act.put, List.getElem_toArray, List.getElem_cons_succ, List.getElem_cons_zero, List.setIfInBounds_toArray, List.set_cons_zero, List.set_cons_succ]
      refine wpAnyH_take (i := 7) (v := .int .i64 FR) rfl (by kernel_rfl) (by kernel_rfl) (by kernel_rfl) (fun _ _ _ h => h) (Or.inl ⟨by rfl, fun W hW => by clear hW; go_simp⟩) H2_.out ?_
      try simp only [Act.put, List.getElem_toArray, List.getElem_cons_succ, List.getElem_cons_zero, List.setIfInBounds_toArray, List.set_cons_zero, List.set_cons_succ]
      refine wpAnyH_done (by kernel_rfl) ?_ _
      clear H0 H1_ H2_ FA FRm
      have d0 : V2.cell? ⟨b8, 0, none⟩ = some (.int .i64 l.a) := (h8.mem (b := b8) (t := 51) (arr := #[.int .i64 l.a, .int .i64 l.b, .int .i64 l.d]) (by simp)).cell 0
      have d1 : V2.cell? ⟨b8, 1, none⟩ = some (.int .i64 l.b) := (h8.mem (b := b8) (t := 51) (arr := #[.int .i64 l.a, .int .i64 l.b, .int .i64 l.d]) (by simp)).cell 1
      have d2 : V2.cell? ⟨b8, 2, none⟩ = some (.int .i64 l.d) := (h8.mem (b := b8) (t := 51) (arr := #[.int .i64 l.a, .int .i64 l.b, .int .i64 l.d]) (by simp)).cell 2
      by_cases hlo : l = o
      · have EQ2 : ∀ W, (binOp .eql 51 (.agg #[.int .i64 l.a, .int .i64 l.b, .int .i64 l.d]) (.agg #[.int .i64 o.a, .int .i64 o.b, .int .i64 o.d])).run Try.prog W = .ok (.bool true) W := fun W => by rw [EQ, decide_eq_true hlo]
        clear EQ OT
        cases ok with
        | true =>
          obtain ⟨k0, k1, k2⟩ := SM1.out hlo rfl
          rw [k2] at FR2
          generalize (allOf nn c2 o).length = N6 at *
          have z1 : ((N6 : Int) == (NB : Int) + 1) = true := by simp; omega
          have z2 : (kk != 0) = false := by simp [k0]
          have z3 : (kk = 0) = True := eq_true k0
          replace hlo := Lib.hid hlo
          clear SM1 SM2 k1 k2 k0
          go_wp2_with (first
            | (have _ := h8; refine wpList_alloc_nx h8 31 rfl rfl _ zmsg.arr zero31 rfl ?_; clear d0 d1 d2; clear h8; intro X1 h9; generalize V2.heap.size = b16 at *)
            | (have _ := h9; refine wpList_store_nx (arr' := (kmsg 1 l.b l.d).arr) h9 0 rfl 31 (.tmp 16) (.tmp 48) rfl rfl rfl (by rw [karr_lit]; rfl) (by rw [Msg.arr_size]; exact sz31) (by simp only [Msg.arr_size]) (Msg.arr_one _) ?_; clear h9; intro X2 h10; replace h10 : NX w X2 g q u nn R ps cc ((b16, C 31 (kmsg 1 l.b l.d).arr) :: (M5 ++ [(b9, C 51 #[.int .i64 o.a, .int .i64 o.b, .int .i64 o.d]), (b8, C 51 #[.int .i64 l.a, .int .i64 l.b, .int .i64 l.d])]) ) := h10; have d0 : X2.cell? ⟨b8, 0, none⟩ = some (.int .i64 l.a) := (h10.mem (b := b8) (t := 51) (arr := #[.int .i64 l.a, .int .i64 l.b, .int .i64 l.d]) (by simp)).cell 0; have d1 : X2.cell? ⟨b8, 1, none⟩ = some (.int .i64 l.b) := (h10.mem (b := b8) (t := 51) (arr := #[.int .i64 l.a, .int .i64 l.b, .int .i64 l.d]) (by simp)).cell 1; have d2 : X2.cell? ⟨b8, 2, none⟩ = some (.int .i64 l.d) := (h10.mem (b := b8) (t := 51) (arr := #[.int .i64 l.a, .int .i64 l.b, .int .i64 l.d]) (by simp)).cell 2)
            | (have _ := h10; refine wpList_loadM (off := 0) (box_rangeN (h10.at2 0 rfl)) (.tmp 16) rfl rfl rfl ?_)
            | (have _ := h10; go_at_call 27; refine (SD.out _ _ _ h10).mono ?_; clear d0 d1 d2; clear h10; rintro e X3 ⟨ps3, rfl, h11⟩; have d0 : X3.cell? ⟨b8, 0, none⟩ = some (.int .i64 l.a) := (h11.mem (b := b8) (t := 51) (arr := #[.int .i64 l.a, .int .i64 l.b, .int .i64 l.d]) (by simp)).cell 0; have d1 : X3.cell? ⟨b8, 1, none⟩ = some (.int .i64 l.b) := (h11.mem (b := b8) (t := 51) (arr := #[.int .i64 l.a, .int .i64 l.b, .int .i64 l.d]) (by simp)).cell 1; have d2 : X3.cell? ⟨b8, 2, none⟩ = some (.int .i64 l.d) := (h11.mem (b := b8) (t := 51) (arr := #[.int .i64 l.a, .int .i64 l.b, .int .i64 l.d]) (by simp)).cell 2; have f0 : X3.cell? ⟨b9, 0, none⟩ = some (.int .i64 o.a) := (h11.mem (b := b9) (t := 51) (arr := #[.int .i64 o.a, .int .i64 o.b, .int .i64 o.d]) (by simp)).cell 0; have f1 : X3.cell? ⟨b9, 1, none⟩ = some (.int .i64 o.b) := (h11.mem (b := b9) (t := 51) (arr := #[.int .i64 o.a, .int .i64 o.b, .int .i64 o.d]) (by simp)).cell 1; have f2 : X3.cell? ⟨b9, 2, none⟩ = some (.int .i64 o.d) := (h11.mem (b := b9) (t := 51) (arr := #[.int .i64 o.a, .int .i64 o.b, .int .i64 o.d]) (by simp)).cell 2)
            | (have _ := h11; go_at_call 34; refine (FR2.out _ _ _ h11).mono ?_; clear d0 d1 d2 f0 f1 f2; clear h11; rintro e X4 ⟨rfl, h12⟩; have f0 : X4.cell? ⟨b9, 0, none⟩ = some (.int .i64 o.a) := (h12.mem (b := b9) (t := 51) (arr := #[.int .i64 o.a, .int .i64 o.b, .int .i64 o.d]) (by simp)).cell 0; have f1 : X4.cell? ⟨b9, 1, none⟩ = some (.int .i64 o.b) := (h12.mem (b := b9) (t := 51) (arr := #[.int .i64 o.a, .int .i64 o.b, .int .i64 o.d]) (by simp)).cell 1; have f2 : X4.cell? ⟨b9, 2, none⟩ = some (.int .i64 o.d) := (h12.mem (b := b9) (t := 51) (arr := #[.int .i64 o.a, .int .i64 o.b, .int .i64 o.d]) (by simp)).cell 2)
            | (have _ := h12; go_at_call 35; refine (FA2.out _ _ _ h12).mono ?_; clear f0 f1 f2; clear h12; rintro e X5 ⟨A6, M6, rfl, hv6, h13⟩))
          go_ret
          exact ⟨rfl, h13.bel⟩
        | false =>
          have k0 := SM2.out (by simp)
          have z2 : (kk != 0) = true := by simp; omega
          have z3 : (kk = 0) = False := eq_false (by omega)
          replace hlo := Lib.hid hlo
          clear SM1 SM2 k0 FR2 FA2
          go_wp2_with (first
            | (have _ := h8; refine wpList_alloc_nx h8 31 rfl rfl _ zmsg.arr zero31 rfl ?_; clear d0 d1 d2; clear h8; intro X1 h9; generalize V2.heap.size = b16 at *)
            | (have _ := h9; refine wpList_store_nx (arr' := (kmsg 1 l.b l.d).arr) h9 0 rfl 31 (.tmp 16) (.tmp 48) rfl rfl rfl (by rw [karr_lit]; rfl) (by rw [Msg.arr_size]; exact sz31) (by simp only [Msg.arr_size]) (Msg.arr_one _) ?_; clear h9; intro X2 h10; replace h10 : NX w X2 g q u nn R ps cc ((b16, C 31 (kmsg 1 l.b l.d).arr) :: (M5 ++ [(b9, C 51 #[.int .i64 o.a, .int .i64 o.b, .int .i64 o.d]), (b8, C 51 #[.int .i64 l.a, .int .i64 l.b, .int .i64 l.d])]) ) := h10; have d0 : X2.cell? ⟨b8, 0, none⟩ = some (.int .i64 l.a) := (h10.mem (b := b8) (t := 51) (arr := #[.int .i64 l.a, .int .i64 l.b, .int .i64 l.d]) (by simp)).cell 0; have d1 : X2.cell? ⟨b8, 1, none⟩ = some (.int .i64 l.b) := (h10.mem (b := b8) (t := 51) (arr := #[.int .i64 l.a, .int .i64 l.b, .int .i64 l.d]) (by simp)).cell 1; have d2 : X2.cell? ⟨b8, 2, none⟩ = some (.int .i64 l.d) := (h10.mem (b := b8) (t := 51) (arr := #[.int .i64 l.a, .int .i64 l.b, .int .i64 l.d]) (by simp)).cell 2)
            | (have _ := h10; refine wpList_loadM (off := 0) (box_rangeN (h10.at2 0 rfl)) (.tmp 16) rfl rfl rfl ?_)
            | (have _ := h10; go_at_call 27; refine (SD.out _ _ _ h10).mono ?_; clear d0 d1 d2; clear h10; rintro e X3 ⟨ps3, rfl, h11⟩; have d0 : X3.cell? ⟨b8, 0, none⟩ = some (.int .i64 l.a) := (h11.mem (b := b8) (t := 51) (arr := #[.int .i64 l.a, .int .i64 l.b, .int .i64 l.d]) (by simp)).cell 0; have d1 : X3.cell? ⟨b8, 1, none⟩ = some (.int .i64 l.b) := (h11.mem (b := b8) (t := 51) (arr := #[.int .i64 l.a, .int .i64 l.b, .int .i64 l.d]) (by simp)).cell 1; have d2 : X3.cell? ⟨b8, 2, none⟩ = some (.int .i64 l.d) := (h11.mem (b := b8) (t := 51) (arr := #[.int .i64 l.a, .int .i64 l.b, .int .i64 l.d]) (by simp)).cell 2; have f0 : X3.cell? ⟨b9, 0, none⟩ = some (.int .i64 o.a) := (h11.mem (b := b9) (t := 51) (arr := #[.int .i64 o.a, .int .i64 o.b, .int .i64 o.d]) (by simp)).cell 0; have f1 : X3.cell? ⟨b9, 1, none⟩ = some (.int .i64 o.b) := (h11.mem (b := b9) (t := 51) (arr := #[.int .i64 o.a, .int .i64 o.b, .int .i64 o.d]) (by simp)).cell 1; have f2 : X3.cell? ⟨b9, 2, none⟩ = some (.int .i64 o.d) := (h11.mem (b := b9) (t := 51) (arr := #[.int .i64 o.a, .int .i64 o.b, .int .i64 o.d]) (by simp)).cell 2))
          go_ret
          exact ⟨rfl, h11.bel⟩
      · have EQ2 : ∀ W, (binOp .eql 51 (.agg #[.int .i64 l.a, .int .i64 l.b, .int .i64 l.d]) (.agg #[.int .i64 o.a, .int .i64 o.b, .int .i64 o.d])).run Try.prog W = .ok (.bool false) W := fun W => by rw [EQ, decide_eq_false hlo]
        obtain ⟨k1, k2⟩ := OT.out hlo
        rw [k1] at FA2
        rw [k2] at FR2
        rw [hNB.out] at FA2
        replace hlo := Lib.hid hlo
        clear EQ OT SM1 SM2 k1 k2
        go_wp2_with (first
          | (have _ := h8; refine wpList_alloc_nx h8 31 rfl rfl _ zmsg.arr zero31 rfl ?_; clear d0 d1 d2; clear h8; intro X1 h9; generalize V2.heap.size = b16 at *)
          | (have _ := h9; refine wpList_store_nx (arr' := (kmsg 1 l.b l.d).arr) h9 0 rfl 31 (.tmp 16) (.tmp 48) rfl rfl rfl (by rw [karr_lit]; rfl) (by rw [Msg.arr_size]; exact sz31) (by simp only [Msg.arr_size]) (Msg.arr_one _) ?_; clear h9; intro X2 h10; replace h10 : NX w X2 g q u nn R ps cc ((b16, C 31 (kmsg 1 l.b l.d).arr) :: (M5 ++ [(b9, C 51 #[.int .i64 o.a, .int .i64 o.b, .int .i64 o.d]), (b8, C 51 #[.int .i64 l.a, .int .i64 l.b, .int .i64 l.d])]) ) := h10; have d0 : X2.cell? ⟨b8, 0, none⟩ = some (.int .i64 l.a) := (h10.mem (b := b8) (t := 51) (arr := #[.int .i64 l.a, .int .i64 l.b, .int .i64 l.d]) (by simp)).cell 0; have d1 : X2.cell? ⟨b8, 1, none⟩ = some (.int .i64 l.b) := (h10.mem (b := b8) (t := 51) (arr := #[.int .i64 l.a, .int .i64 l.b, .int .i64 l.d]) (by simp)).cell 1; have d2 : X2.cell? ⟨b8, 2, none⟩ = some (.int .i64 l.d) := (h10.mem (b := b8) (t := 51) (arr := #[.int .i64 l.a, .int .i64 l.b, .int .i64 l.d]) (by simp)).cell 2)
          | (have _ := h10; refine wpList_loadM (off := 0) (box_rangeN (h10.at2 0 rfl)) (.tmp 16) rfl rfl rfl ?_)
          | (have _ := h10; go_at_call 27; refine (SD.out _ _ _ h10).mono ?_; clear d0 d1 d2; clear h10; rintro e X3 ⟨ps3, rfl, h11⟩; have d0 : X3.cell? ⟨b8, 0, none⟩ = some (.int .i64 l.a) := (h11.mem (b := b8) (t := 51) (arr := #[.int .i64 l.a, .int .i64 l.b, .int .i64 l.d]) (by simp)).cell 0; have d1 : X3.cell? ⟨b8, 1, none⟩ = some (.int .i64 l.b) := (h11.mem (b := b8) (t := 51) (arr := #[.int .i64 l.a, .int .i64 l.b, .int .i64 l.d]) (by simp)).cell 1; have d2 : X3.cell? ⟨b8, 2, none⟩ = some (.int .i64 l.d) := (h11.mem (b := b8) (t := 51) (arr := #[.int .i64 l.a, .int .i64 l.b, .int .i64 l.d]) (by simp)).cell 2; have f0 : X3.cell? ⟨b9, 0, none⟩ = some (.int .i64 o.a) := (h11.mem (b := b9) (t := 51) (arr := #[.int .i64 o.a, .int .i64 o.b, .int .i64 o.d]) (by simp)).cell 0; have f1 : X3.cell? ⟨b9, 1, none⟩ = some (.int .i64 o.b) := (h11.mem (b := b9) (t := 51) (arr := #[.int .i64 o.a, .int .i64 o.b, .int .i64 o.d]) (by simp)).cell 1; have f2 : X3.cell? ⟨b9, 2, none⟩ = some (.int .i64 o.d) := (h11.mem (b := b9) (t := 51) (arr := #[.int .i64 o.a, .int .i64 o.b, .int .i64 o.d]) (by simp)).cell 2)
          | (have _ := h11; go_at_call 35; refine (FA2.out _ _ _ h11).mono ?_; clear d0 d1 d2 f0 f1 f2; clear h11; rintro e X5 ⟨A6, M6, rfl, hv6, h12⟩; have f0 : X5.cell? ⟨b9, 0, none⟩ = some (.int .i64 o.a) := (h12.mem (b := b9) (t := 51) (arr := #[.int .i64 o.a, .int .i64 o.b, .int .i64 o.d]) (by simp)).cell 0; have f1 : X5.cell? ⟨b9, 1, none⟩ = some (.int .i64 o.b) := (h12.mem (b := b9) (t := 51) (arr := #[.int .i64 o.a, .int .i64 o.b, .int .i64 o.d]) (by simp)).cell 1; have f2 : X5.cell? ⟨b9, 2, none⟩ = some (.int .i64 o.d) := (h12.mem (b := b9) (t := 51) (arr := #[.int .i64 o.a, .int .i64 o.b, .int .i64 o.d]) (by simp)).cell 2; obtain ⟨_, row6⟩ := hv6.row h12 (by simp_all) (by have a := HBL.out; have b := hNB.out; omega); obtain ⟨_, row5⟩ := hv5.row h12 (by simp_all) (by have a := HBL.out; have b := hNB.out; omega); have SM := Lib.hid (same_true (same_any _ _ _ _ _ _ _ _ BF BF X5 row6 row5)); clear row5 row6)
          | (have _ := h12; go_at_call 19; refine SM.out.mono ?_; clear f0 f1 f2; rintro e X6 ⟨rfl, j6, rfl⟩; replace h12 := h12.drewN j6; have f0 : (X5.drewN j6).cell? ⟨b9, 0, none⟩ = some (.int .i64 o.a) := (h12.mem (b := b9) (t := 51) (arr := #[.int .i64 o.a, .int .i64 o.b, .int .i64 o.d]) (by simp)).cell 0; have f1 : (X5.drewN j6).cell? ⟨b9, 1, none⟩ = some (.int .i64 o.b) := (h12.mem (b := b9) (t := 51) (arr := #[.int .i64 o.a, .int .i64 o.b, .int .i64 o.d]) (by simp)).cell 1; have f2 : (X5.drewN j6).cell? ⟨b9, 2, none⟩ = some (.int .i64 o.d) := (h12.mem (b := b9) (t := 51) (arr := #[.int .i64 o.a, .int .i64 o.b, .int .i64 o.d]) (by simp)).cell 2)
          | (have _ := h12; go_at_call 34; refine (FR2.out _ _ _ h12).mono ?_; clear f0 f1 f2; clear h12; rintro e X7 ⟨rfl, h13⟩))
        go_ret
        exact ⟨rfl, h13.bel⟩
end Go.Proofs.Ytacjdeppigdbjaa
