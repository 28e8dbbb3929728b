/- How many items a level has, how many lines there are, the least of a cache. No statement is proved here. -/
import Derived.Test.YtnogmfpaipjdaaaPTree
namespace Go.Proofs.Ytnogmfpaipjdaaa.P
open Go.RowKit
set_option linter.unusedVariables false
set_option linter.unusedSimpArgs false

/-- A plan in block g, and nothing that was there has changed. -/
structure PSt (w : World) (g : Nat) (p : Pl) (W : World) : Prop where
  blk : PBlk W g p
  bel : Below w.heap.size w W
theorem PSt.call {w W W' : World} {g : Nat} {p : Pl} (h : PSt w g p W) (hb : Below W.heap.size W W') : PSt w g p W' :=
  ⟨h.blk.below hb h.blk.lt, h.bel.trans (hb.mono h.bel.size)⟩
theorem PSt.new (w : World) (p : Pl) : PSt w w.heap.size p (w.alloc (.cells p.arr 28)) := ⟨PBlk.new w p, (Below.refl _ _).alloc (Nat.le_refl _) _⟩
theorem PSt.drew {w W : World} {g : Nat} {p : Pl} (h : PSt w g p W) : PSt w g p W.drew := ⟨h.blk.drew, h.bel.drew⟩
theorem yields_plan {ops : Array Oper} {S : World → Prop} {o : Oper} {a : Act} {g : Nat} {p : Pl} (x : Operand) (ho : o.op = .load 28 x) (hw : Region.wanted o (yielded ops a.tmps) = true)
    (hx : a.eval x = .pointer (some ⟨g, 0, none⟩)) (hS : ∀ W, S W → PBlk W g p) : YieldsIf Try.prog ops S o (.agg p.arr) a :=
  .inl ⟨hw, fun W hW => by
    unfold execOp
    simp only [ho, hx, Sem.run_bind, Result.andThen_ok, (hS W hW).load, Sem.run_pure]⟩
attribute [local irreducible] shaped
set_option maxHeartbeats 1000000 in
theorem all_any (p : Pl) (w : World) : Calls Try.prog 68 #[.agg p.arr] w fun e w' => e = .returned (.int .i64 (Al p)) ∧ Below w.heap.size w w' := by
  have B := PBlk.new w p
  have BB := Lib.hid (show Below w.heap.size w (w.alloc (.cells p.arr 28)) from (Below.refl _ _).alloc (Nat.le_refl _) _)
  have H := Lib.hid (fun W => hasTree_any p W)
  cases hs : shaped p
  · rw [hs] at H
    have E : Hid (Al p = 0) := by unfold Al; rw [if_neg (by rw [hs]; simp)]; exact rfl
    generalize Al p = L at *
    clear hs
    go_enter Try.func68, Try.ntmps68
    go_wp2_with (first
      | (refine wpList_load_plan B _ rfl rfl rfl ?_)
      | (go_at_call 63; refine (H.out _).mono ?_; rintro e W1 ⟨rfl, hb⟩))
    go_ret
    exact ⟨by rw [E.out]; rfl, BB.out.trans (hb.mono (by simp))⟩
  · rw [hs] at H
    have sh := sh_of hs
    have E : Hid (Al p = p.pa * p.li) := by unfold Al; rw [if_pos hs]; exact rfl
    have c2 := sh.pa
    have c3 := sh.li
    have n2 := sh.n2
    have l2 := sh.l2
    rw [c2, c3] at E
    generalize p.pa.toNat = n at *
    generalize p.li.toNat = l at *
    generalize Al p = R at *
    have m0 : n * l ≤ 128 := Nat.le_trans (Nat.mul_le_mul n2 l2) (by omega)
    have m1 : (n : Int) * (l : Int) ≤ 128 := by exact_mod_cast m0
    have m2 : 0 ≤ (n : Int) * (l : Int) := Int.mul_nonneg (by omega) (by omega)
    clear hs sh m0
    go_enter Try.func68, Try.ntmps68
    go_wp2_with (first
      | (refine wpList_load_plan B _ rfl rfl rfl ?_)
      | (go_at_call 63; refine (H.out _).mono ?_; rintro e W1 ⟨rfl, hb⟩; have B1 := B.below hb B.lt; have d2 := B1.c2; have d3 := B1.c3; rw [c2] at d2; rw [c3] at d3))
    go_ret
    exact ⟨by rw [E.out]; rfl, BB.out.trans (hb.mono (by simp))⟩
set_option maxHeartbeats 1000000 in
theorem least_any (p : Pl) (w : World) : Calls Try.prog 50 #[.agg p.arr] w fun e w' => e = .returned (.int .i64 (Ls p)) ∧ Below w.heap.size w w' := by
  have B := PBlk.new w p
  have BB := Lib.hid (show Below w.heap.size w (w.alloc (.cells p.arr 28)) from (Below.refl _ _).alloc (Nat.le_refl _) _)
  have H := Lib.hid (fun W => hasTree_any p W)
  have LV := Lib.hid (fun W => levels_any p W)
  cases hs : shaped p
  · rw [hs] at H
    have E : Hid (Ls p = 0) := by unfold Ls; rw [if_neg (by rw [hs]; simp)]; exact rfl
    generalize Ls p = L at *
    clear hs
    go_enter Try.func50, Try.ntmps50
    go_wp2_with (first
      | (refine wpList_load_plan B _ rfl rfl rfl ?_)
      | (go_at_call 63; refine (H.out _).mono ?_; rintro e W1 ⟨rfl, hb⟩))
    go_ret
    exact ⟨by rw [E.out]; rfl, BB.out.trans (hb.mono (by simp))⟩
  · rw [hs] at H
    have sh := sh_of hs
    have E : Hid (Ls p = p.ba * (Lv p : Int) + 1) := by unfold Ls; rw [if_pos hs]; exact rfl
    have t1 := (tree_facts sh.n1 sh.n2 sh.a1 sh.a2).1
    rw [← sh.lv hs] at t1
    have c1 := sh.ba
    have b2 := sh.b2
    rw [c1] at E
    generalize p.ba.toNat = b at *
    generalize Lv p = L at *
    generalize Ls p = R at *
    have m0 : b * L ≤ 20 := Nat.le_trans (Nat.mul_le_mul b2 t1) (by omega)
    have m1 : (b : Int) * (L : Int) ≤ 20 := by exact_mod_cast m0
    have m2 : 0 ≤ (b : Int) * (L : Int) := Int.mul_nonneg (by omega) (by omega)
    have w1 : IntKind.i64.wrap ((b : Int) * (L : Int)) = (b : Int) * (L : Int) := IntWalk.i64_in _ (by omega)
    have w2 : IntKind.i64.wrap ((b : Int) * (L : Int) + 1) = (b : Int) * (L : Int) + 1 := IntWalk.i64_in _ (by omega)
    clear hs sh m0
    go_enter Try.func50, Try.ntmps50
    go_wp2_with (first
      | (refine wpList_load_plan B _ rfl rfl rfl ?_)
      | (go_at_call 63; refine (H.out _).mono ?_; rintro e W1 ⟨rfl, hb⟩))
    have H0 := Lib.hid (show PSt w w.heap.size p W1.drew from ⟨(B.below hb B.lt).drew, (BB.out.trans (hb.mono (by simp))).drew⟩)
    clear hb B BB H
    refine wp_region_held_drew (S := fun W => PSt w w.heap.size p W) (by kernel_rfl) H0.out (fun _ => ?_)
    generalize W1.drew = V0 at *
    refine wpAnyH_take (i := 0) (v := .pointer (some ⟨w.heap.size, 1, none⟩)) rfl (by kernel_rfl) (by kernel_rfl) (by kernel_rfl) (fun _ _ _ h => h) (Or.inl ⟨by rfl, fun W hW => by clear hW; go_simp⟩) H0.out ?_
    try simp only [Act.put, List.getElem_toArray, List.getElem_cons_succ, List.getElem_cons_zero, List.setIfInBounds_toArray, List.set_cons_zero, List.set_cons_succ]
    refine wpAnyH_take (i := 1) (v := .int .i64 (b : Nat)) rfl (by kernel_rfl) (by kernel_rfl) (by kernel_rfl) (fun _ _ _ h => h) (Or.inl ⟨by rfl, fun W hW => by have hc := hW.blk.c1.trans (congrArg (fun z => some (Value.int .i64 z)) c1); clear hW; go_simp⟩) H0.out ?_
    try simp only [Act.put, List.getElem_toArray, List.getElem_cons_succ, List.getElem_cons_zero, List.setIfInBounds_toArray, List.set_cons_zero, List.set_cons_succ]
    refine wpAnyH_take (i := 2) (v := .agg p.arr) rfl (by kernel_rfl) (by kernel_rfl) (by kernel_rfl) (fun _ _ _ h => h) (yields_plan _ rfl (by rfl) rfl (fun W hW => hW.blk)) H0.out ?_
    try simp only [Act.put, List.getElem_toArray, List.getElem_cons_succ, List.getElem_cons_zero, List.setIfInBounds_toArray, List.set_cons_zero, List.set_cons_succ]
    refine wpAnyH_ready (rs := [3]) (by kernel_rfl) (by simp) ?_
    refine AllReadyH.cons rfl (fun K hK => ?_) AllReadyH.nil
    go_simp
    go_at_call 64
    refine (LV.out _).mono ?_
    rintro e V1_ ⟨rfl, hb1_⟩
    have H1_ := Lib.hid (H0.out.call hb1_)
    clear hb1_
    refine hK.out _ _ H1_.out (fun _ => ?_)
    clear hK K
    try simp only [Act.put, List.getElem_toArray, List.getElem_cons_succ, List.getElem_cons_zero, List.setIfInBounds_toArray, List.set_cons_zero, List.set_cons_succ]
    refine wpAnyH_take (i := 4) (v := .int .i64 ((b : Int) * (L : Int))) rfl (by kernel_rfl) (by kernel_rfl) (by kernel_rfl) (fun _ _ _ h => h) (Or.inl ⟨by rfl, fun W hW => by clear hW; go_simp⟩) H1_.out ?_
    try simp only [Act.put, List.getElem_toArray, List.getElem_cons_succ, List.getElem_cons_zero, List.setIfInBounds_toArray, List.set_cons_zero, List.set_cons_succ]
    refine wpAnyH_take (i := 5) (v := .int .i64 ((b : Int) * (L : Int) + 1)) rfl (by kernel_rfl) (by kernel_rfl) (by kernel_rfl) (fun _ _ _ h => h) (Or.inl ⟨by rfl, fun W hW => by clear hW; go_simp⟩) H1_.out ?_
    try simp only [Act.put, List.getElem_toArray, List.getElem_cons_succ, List.getElem_cons_zero, List.setIfInBounds_toArray, List.set_cons_zero, List.set_cons_succ]
    refine wpAnyH_take (i := 6) (v := .int .i64 ((b : Int) * (L : Int) + 1)) rfl (by kernel_rfl) (by kernel_rfl) (by kernel_rfl) (fun _ _ _ h => h) (Or.inl ⟨by rfl, fun W hW => by clear hW; go_simp⟩) H1_.out ?_
    try simp only [Act.put, List.getElem_toArray, List.getElem_cons_succ, List.getElem_cons_zero, List.setIfInBounds_toArray, List.set_cons_zero, List.set_cons_succ]
    refine wpAnyH_done (by kernel_rfl) ?_ _
    go_wp2
    go_ret
    exact ⟨by rw [E.out]; rfl, H1_.out.bel⟩

theorem Wd_neg (p : Pl) (l : Int) (h : l < 0) : Wd p l = 0 := by unfold Wd; rw [if_neg (by omega)]
theorem Wd_far (p : Pl) (l : Int) (h : (Lv p : Int) ≤ l) : Wd p l = 0 := by unfold Wd; rw [if_neg (by omega)]
theorem Wd_at (p : Pl) (k : Nat) (h : k < Lv p) : Wd p (k : Int) = wid p.pa.toNat p.ar.toNat k := by unfold Wd; rw [if_pos (by omega)]; rfl
theorem shaped_of_lv {p : Pl} {k : Nat} (h : k < Lv p) : shaped p = true := by
  cases hs : shaped p
  · exfalso; unfold Lv at h; rw [if_neg (by rw [hs]; simp)] at h; omega
  · rfl
theorem Lv_le (p : Pl) : Lv p ≤ 5 := by
  cases hs : shaped p
  · unfold Lv; rw [if_neg (by rw [hs]; simp)]; omega
  · have sh := sh_of hs
    rw [sh.lv hs]; exact (tree_facts sh.n1 sh.n2 sh.a1 sh.a2).1
def WdRel (w : World) (n a m : Nat) (s i : Value) (wr : World) : Prop :=
  ∃ k, k ≤ m ∧ s = .int .i64 (wid n a k : Nat) ∧ i = .int .i64 (k : Nat) ∧ wr = w
set_option maxHeartbeats 1000000 in
theorem width_any (p : Pl) (l : Int) (w : World) : Calls Try.prog 66 #[.agg p.arr, .int .i64 l] w fun e w' => e = .returned (.int .i64 (Wd p l : Nat)) ∧ Below w.heap.size w w' := by
  have B := PBlk.new w p
  have BB := Lib.hid (show Below w.heap.size w (w.alloc (.cells p.arr 28)) from (Below.refl _ _).alloc (Nat.le_refl _) _)
  have H := Lib.hid (fun W => levels_any p W)
  by_cases h0 : l < 0
  · have E := Lib.hid (Wd_neg p l h0)
    generalize Wd p l = R at *
    go_enter Try.func66, Try.ntmps66
    go_wp2
    go_ret
    exact ⟨by rw [E.out]; rfl, BB.out⟩
  by_cases h1 : (Lv p : Int) ≤ l
  · have E := Lib.hid (Wd_far p l h1)
    generalize Wd p l = R at *
    generalize Lv p = L at *
    go_enter Try.func66, Try.ntmps66
    go_wp2_with (first
      | (refine wpList_load_plan B _ rfl rfl rfl ?_)
      | (go_at_call 64; refine (H.out _).mono ?_; rintro e W1 ⟨rfl, hb⟩))
    go_ret
    exact ⟨by rw [E.out]; rfl, BB.out.trans (hb.mono (by simp))⟩
  · obtain ⟨m, rfl⟩ : ∃ m : Nat, l = (m : Int) := ⟨l.toNat, by omega⟩
    have hm : m < Lv p := by omega
    have L5 := Lv_le p
    have hs := shaped_of_lv hm
    have sh := sh_of hs
    have E := Lib.hid (Wd_at p m hm)
    have c2 := sh.pa
    have c4 := sh.ar
    have a1 := sh.a1
    have a2 := sh.a2
    have t := (tree_facts sh.n1 sh.n2 sh.a1 sh.a2).2.2
    rw [← sh.lv hs] at t
    generalize p.pa.toNat = n at *
    generalize p.ar.toNat = a at *
    generalize Lv p = L at *
    generalize Wd p m = R at *
    have T3 := Lib.hid t
    have g1 : ((m : Int) < 0) = False := eq_false (by omega)
    have g2 : (L ≤ m) = False := eq_false (by omega)
    have g3 : ((L : Int) ≤ (m : Int)) = False := eq_false (by omega)
    clear hs sh t h0 h1
    go_enter Try.func66, Try.ntmps66
    go_wp2_with (first
      | (refine wpList_load_plan B _ rfl rfl rfl ?_)
      | (go_at_call 64; refine (H.out _).mono ?_; rintro e W1 ⟨rfl, hb⟩; have B1 := B.below hb B.lt; have d2 := B1.c2; have d4 := B1.c4; rw [c2] at d2; rw [c4] at d4))
    have BB1 := Lib.hid (BB.out.trans (hb.mono (by simp)))
    clear c2 c4 hb B B1 BB H
    go_loopw [5, 17] (WdRel W1 n a m) (fun s i _ => m - (intOf i).toNat)
    case atStart => exact ⟨0, by omega, rfl, rfl, rfl⟩
    case round =>
      obtain ⟨k, hk, rfl, rfl, rfl⟩ := hrel
      by_cases hlt : k < m
      · obtain ⟨u1, u2, u3⟩ := T3.out k (by omega)
        have A := Lib.hid (fun W => above_any (wid n a k) a u2 a1 a2 W)
        have U : Hid (wid n a (k + 1) = (wid n a k + a - 1) / a) := rfl
        generalize (wid n a k + a - 1) / a = z at *
        generalize wid n a k = y at *
        generalize hz : wid n a (k + 1) = z' at *
        clear u3
        go_wp2_with (first
          | (go_at_call 81; refine (A.out _).mono ?_; rintro e W2 ⟨rfl, rfl⟩))
        go_roundw
        case rel => exact ⟨k + 1, by omega, by rw [hz, U.out], by go_num, rfl⟩
        case measure => simp [intOf]; omega
      · have hk2 : k = m := by omega
        rw [← hk2] at E
        generalize wid n a k = y at *
        clear hk2
        go_wp2
        go_ret
        exact ⟨by rw [E.out]; rfl, BB1.out⟩
set_option maxHeartbeats 1000000 in
theorem refShaped_any (p : Pl) (w : World) : Calls Try.prog 28 #[.agg p.arr] w fun e w' => e = .returned (.bool (shaped p)) ∧ Below w.heap.size w w' := by
  have B := PBlk.new w p
  have c1 := B.c1
  have c2 := B.c2
  have c3 := B.c3
  have c4 := B.c4
  have BB := Lib.hid (show Below w.heap.size w (w.alloc (.cells p.arr 28)) from (Below.refl _ _).alloc (Nat.le_refl _) _)
  have E := shaped_iff p
  clear B
  generalize p.pa = pa at *
  generalize p.li = li at *
  generalize p.ar = ar at *
  generalize p.ba = ba at *
  cases hs : shaped p
  · have N := Lib.hid (show ¬ ((1 ≤ pa ∧ pa ≤ 16) ∧ (1 ≤ li ∧ li ≤ 8) ∧ (2 ≤ ar ∧ ar ≤ 4) ∧ (1 ≤ ba ∧ ba ≤ 4)) from fun h => by rw [E.2 h] at hs; cases hs)
    clear hs E
    go_enter Try.func28, Try.ntmps28
    go_wp2
    all_goals (go_ret; refine ⟨?_, BB.out⟩; have N := N.out; first | rfl | (exact congrArg (fun b => Ending.returned (Value.bool b)) (decide_eq_false (by omega))))
  · obtain ⟨⟨h1, h2⟩, ⟨h3, h4⟩, ⟨h5, h6⟩, h7, h8⟩ := E.1 hs
    clear hs E
    go_enter Try.func28, Try.ntmps28
    go_wp2
    go_ret
    exact ⟨by first | rfl | (exact congrArg (fun b => Ending.returned (Value.bool b)) (decide_eq_true (by omega))), BB.out⟩
theorem up_fin : ∀ n : Fin 17, ∀ a : Fin 3, ((n : Nat) + (a + 2) - 1) / (a + 2) = n / (a + 2) + if 0 < n % ((a : Nat) + 2) then 1 else 0 := by decide +kernel
theorem up_eq {n a : Nat} (h2 : n ≤ 16) (h3 : 2 ≤ a) (h4 : a ≤ 4) : (n + a - 1) / a = n / a + if 0 < n % a then 1 else 0 := by
  have := up_fin ⟨n, by omega⟩ ⟨a - 2, by omega⟩
  simp only [show a - 2 + 2 = a by omega] at this
  exact this
def WdRel2 (w : World) (n a m L : Nat) (s i : Value) (wr : World) : Prop :=
  ∃ k, k ≤ m ∧ k < L ∧ s = .int .i64 (wid n a k : Nat) ∧ i = .int .i64 (k : Nat) ∧ wr = w
set_option maxHeartbeats 1000000 in
theorem refWidth_any (p : Pl) (l : Int) (w : World) : Calls Try.prog 47 #[.agg p.arr, .int .i64 l] w fun e w' => e = .returned (.int .i64 (Wd p l : Nat)) ∧ Below w.heap.size w w' := by
  have B := PBlk.new w p
  have BB := Lib.hid (show Below w.heap.size w (w.alloc (.cells p.arr 28)) from (Below.refl _ _).alloc (Nat.le_refl _) _)
  have H := Lib.hid (fun W => refShaped_any p W)
  cases hs : shaped p
  · rw [hs] at H
    have E : Hid (Wd p l = 0) := by unfold Wd Lv; rw [if_neg (by rw [hs]; simp)]; exact rfl
    generalize Wd p l = R at *
    clear hs
    go_enter Try.func47, Try.ntmps47
    go_wp2_with (first
      | (refine wpList_load_plan B _ rfl rfl rfl ?_)
      | (go_at_call 28; refine (H.out _).mono ?_; rintro e W1 ⟨rfl, hb⟩))
    go_ret
    exact ⟨by rw [E.out]; rfl, BB.out.trans (hb.mono (by simp))⟩
  rw [hs] at H
  have L5 := Lv_le p
  by_cases h0 : l < 0
  · have E := Lib.hid (Wd_neg p l h0)
    generalize Wd p l = R at *
    clear hs
    go_enter Try.func47, Try.ntmps47
    go_wp2_with (first
      | (refine wpList_load_plan B _ rfl rfl rfl ?_)
      | (go_at_call 28; refine (H.out _).mono ?_; rintro e W1 ⟨rfl, hb⟩))
    go_ret
    exact ⟨by rw [E.out]; rfl, BB.out.trans (hb.mono (by simp))⟩
  by_cases h1 : 16 < l
  · have E := Lib.hid (Wd_far p l (by omega))
    generalize Wd p l = R at *
    clear hs
    go_enter Try.func47, Try.ntmps47
    go_wp2_with (first
      | (refine wpList_load_plan B _ rfl rfl rfl ?_)
      | (go_at_call 28; refine (H.out _).mono ?_; rintro e W1 ⟨rfl, hb⟩))
    go_ret
    exact ⟨by rw [E.out]; rfl, BB.out.trans (hb.mono (by simp))⟩
  · obtain ⟨m, rfl⟩ : ∃ m : Nat, l = (m : Int) := ⟨l.toNat, by omega⟩
    have sh := sh_of hs
    have E1 := Lib.hid (fun h => Wd_at p m h)
    have E2 := Lib.hid (fun h => Wd_far p m h)
    have c2 := sh.pa
    have c4 := sh.ar
    have a1 := sh.a1
    have a2 := sh.a2
    have t := (tree_facts sh.n1 sh.n2 sh.a1 sh.a2).2
    rw [← sh.lv hs] at t
    generalize p.pa.toNat = n at *
    generalize p.ar.toNat = a at *
    generalize Lv p = L at *
    generalize Wd p m = R at *
    have hL := t.1
    have T3 := Lib.hid t.2
    have da : (a : Int) ≠ 0 := by omega
    clear hs sh t h0
    go_enter Try.func47, Try.ntmps47
    go_wp2_with (first
      | (refine wpList_load_plan B _ rfl rfl rfl ?_)
      | (go_at_call 28; refine (H.out _).mono ?_; rintro e W1 ⟨rfl, hb⟩; have B1 := B.below hb B.lt; have d2 := B1.c2; have d4 := B1.c4; rw [c2] at d2; rw [c4] at d4))
    have BB1 := Lib.hid (BB.out.trans (hb.mono (by simp)))
    clear c2 c4 hb B B1 BB H
    go_loopw [5, 6] (WdRel2 W1 n a m L) (fun s i _ => m - (intOf i).toNat)
    case atStart => exact ⟨0, by omega, by omega, rfl, rfl, rfl⟩
    case round =>
      obtain ⟨k, hk, hkL, rfl, rfl, rfl⟩ := hrel
      obtain ⟨u1, u2, u3⟩ := T3.out k hkL
      have U : Hid (wid n a (k + 1) = (wid n a k + a - 1) / a) := rfl
      have U2 := Lib.hid (up_eq u2 a1 a2)
      generalize (wid n a k + a - 1) / a = z at *
      generalize hz : wid n a (k + 1) = z' at *
      by_cases hlt : k < m
      · generalize wid n a k = y at *
        by_cases hy : 1 < y
        · have hk2 := u3.1 hy
          have q1 : (y : Int) / (a : Int) = ((y / a : Nat) : Int) := Int.ofNat_ediv_ofNat
          have q2 : (y : Int) % (a : Int) = ((y % a : Nat) : Int) := rfl
          have q3 : y / a ≤ y := Nat.div_le_self _ _
          have q4 : y % a < a := Nat.mod_lt _ (by omega)
          clear u3
          generalize y / a = d at *
          generalize y % a = r at *
          by_cases hr : 0 < r
          · rw [if_pos hr] at U2
            go_wp2
            go_roundw
            case rel => exact ⟨k + 1, by omega, hk2, by rw [hz, U.out, U2.out]; go_num, by go_num, rfl⟩
            case measure => simp [intOf]; omega
          · rw [if_neg hr] at U2
            go_wp2
            go_roundw
            case rel => exact ⟨k + 1, by omega, hk2, by rw [hz, U.out, U2.out]; go_num, by go_num, rfl⟩
            case measure => simp [intOf]; omega
        · have hk2 : ¬ (k + 1 < L) := fun h => hy (u3.2 h)
          clear u3
          go_wp2
          go_ret
          exact ⟨by rw [E2.out (by omega)]; rfl, BB1.out⟩
      · have hk2 : k = m := by omega
        subst hk2
        have E := Lib.hid (E1.out hkL)
        clear E1 E2
        generalize wid n a k = y at *
        clear u3
        go_wp2
        go_ret
        exact ⟨by rw [E.out]; rfl, BB1.out⟩
set_option maxHeartbeats 1000000 in
theorem refLevels_any (p : Pl) (w : World) : Calls Try.prog 51 #[.agg p.arr] w fun e w' => e = .returned (.int .i64 (Lv p : Nat)) ∧ Below w.heap.size w w' := by
  have H := Lib.hid (fun l W => refWidth_any p l W)
  have L5 := Lv_le p
  have P1 := Lib.hid (show ∀ k : Nat, k < Lv p → 0 < Wd p (k : Int) from fun k hk => by
    have sh := sh_of (shaped_of_lv hk)
    rw [Wd_at p k hk]
    have := (tree_facts sh.n1 sh.n2 sh.a1 sh.a2).2.2 k (by rw [← sh.lv (shaped_of_lv hk)]; exact hk)
    omega)
  have P2 := Lib.hid (fun l h => Wd_far p l h)
  have N := Lib.hid (PSt.new w p)
  generalize Lv p = L at *
  go_enter Try.func51, Try.ntmps51
  go_wp2
  go_loopw [3] (fun i wr => ∃ k, k ≤ L ∧ i = .int .i64 (k : Nat) ∧ PSt w w.heap.size p wr) (fun i _ => L - (intOf i).toNat)
  case atStart => exact ⟨0, by omega, rfl, N.out⟩
  case round =>
    obtain ⟨k, hk, rfl, hst⟩ := hrel
    have B := hst.blk
    have BB := Lib.hid hst
    clear hst
    have HK := Lib.hid (fun W => H.out (k : Int) W)
    have g1 : ((k : Int) < 16) = True := eq_true (by omega)
    have g2 : (k < 16) = True := eq_true (by omega)
    by_cases hlt : k < L
    · have hp := P1.out k hlt
      generalize Wd p (k : Int) = y at *
      go_wp2_with (first
        | (refine wpList_load_plan B _ rfl rfl rfl ?_)
        | (go_at_call 47; refine (HK.out _).mono ?_; rintro e W1 ⟨rfl, hb⟩; have B1 := BB.out.call hb; clear hb))
      go_roundw
      case rel => exact ⟨k + 1, by omega, by go_num, B1⟩
      case measure => simp [intOf]; omega
    · have hp := P2.out (k : Int) (by omega)
      generalize Wd p (k : Int) = y at *
      subst hp
      go_wp2_with (first
        | (refine wpList_load_plan B _ rfl rfl rfl ?_)
        | (go_at_call 47; refine (HK.out _).mono ?_; rintro e W1 ⟨rfl, hb⟩; have B1 := BB.out.call hb; clear hb))
      have e : k = L := by omega
      go_ret
      exact ⟨by rw [← e]; rfl, B1.bel⟩
set_option maxHeartbeats 1000000 in
theorem refLeast_any (p : Pl) (w : World) : Calls Try.prog 29 #[.agg p.arr] w fun e w' => e = .returned (.int .i64 (Ls p)) ∧ Below w.heap.size w w' := by
  have B := PBlk.new w p
  have BB := Lib.hid (show Below w.heap.size w (w.alloc (.cells p.arr 28)) from (Below.refl _ _).alloc (Nat.le_refl _) _)
  have H := Lib.hid (fun W => refShaped_any p W)
  have LV := Lib.hid (fun W => refLevels_any p W)
  cases hs : shaped p
  · rw [hs] at H
    have E : Hid (Ls p = 0) := by unfold Ls; rw [if_neg (by rw [hs]; simp)]; exact rfl
    generalize Ls p = L at *
    clear hs
    go_enter Try.func29, Try.ntmps29
    go_wp2_with (first
      | (refine wpList_load_plan B _ rfl rfl rfl ?_)
      | (go_at_call 28; refine (H.out _).mono ?_; rintro e W1 ⟨rfl, hb⟩))
    go_ret
    exact ⟨by rw [E.out]; rfl, BB.out.trans (hb.mono (by simp))⟩
  · rw [hs] at H
    have sh := sh_of hs
    have E : Hid (Ls p = p.ba * (Lv p : Int) + 1) := by unfold Ls; rw [if_pos hs]; exact rfl
    have t1 := (tree_facts sh.n1 sh.n2 sh.a1 sh.a2).1
    rw [← sh.lv hs] at t1
    have c1 := sh.ba
    have b2 := sh.b2
    rw [c1] at E
    generalize p.ba.toNat = b at *
    generalize Lv p = L at *
    generalize Ls p = R at *
    have m0 : b * L ≤ 20 := Nat.le_trans (Nat.mul_le_mul b2 t1) (by omega)
    have m1 : (b : Int) * (L : Int) ≤ 20 := by exact_mod_cast m0
    have m2 : 0 ≤ (b : Int) * (L : Int) := Int.mul_nonneg (by omega) (by omega)
    have w1 : IntKind.i64.wrap ((b : Int) * (L : Int)) = (b : Int) * (L : Int) := IntWalk.i64_in _ (by omega)
    have w2 : IntKind.i64.wrap ((b : Int) * (L : Int) + 1) = (b : Int) * (L : Int) + 1 := IntWalk.i64_in _ (by omega)
    clear hs sh m0
    go_enter Try.func29, Try.ntmps29
    go_wp2_with (first
      | (refine wpList_load_plan B _ rfl rfl rfl ?_)
      | (go_at_call 28; refine (H.out _).mono ?_; rintro e W1 ⟨rfl, hb⟩))
    have H0 := Lib.hid (show PSt w w.heap.size p W1.drew from ⟨(B.below hb B.lt).drew, (BB.out.trans (hb.mono (by simp))).drew⟩)
    clear hb B BB H
    refine wp_region_held_drew (S := fun W => PSt w w.heap.size p W) (by kernel_rfl) H0.out (fun _ => ?_)
    generalize W1.drew = V0 at *
    refine wpAnyH_take (i := 0) (v := .pointer (some ⟨w.heap.size, 1, none⟩)) rfl (by kernel_rfl) (by kernel_rfl) (by kernel_rfl) (fun _ _ _ h => h) (Or.inl ⟨by rfl, fun W hW => by clear hW; go_simp⟩) H0.out ?_
    try simp only [Act.put, List.getElem_toArray, List.getElem_cons_succ, List.getElem_cons_zero, List.setIfInBounds_toArray, List.set_cons_zero, List.set_cons_succ]
    refine wpAnyH_take (i := 1) (v := .int .i64 (b : Nat)) rfl (by kernel_rfl) (by kernel_rfl) (by kernel_rfl) (fun _ _ _ h => h) (Or.inl ⟨by rfl, fun W hW => by have hc := hW.blk.c1.trans (congrArg (fun z => some (Value.int .i64 z)) c1); clear hW; go_simp⟩) H0.out ?_
    try simp only [Act.put, List.getElem_toArray, List.getElem_cons_succ, List.getElem_cons_zero, List.setIfInBounds_toArray, List.set_cons_zero, List.set_cons_succ]
    refine wpAnyH_take (i := 2) (v := .agg p.arr) rfl (by kernel_rfl) (by kernel_rfl) (by kernel_rfl) (fun _ _ _ h => h) (yields_plan _ rfl (by rfl) rfl (fun W hW => hW.blk)) H0.out ?_
    try simp only [Act.put, List.getElem_toArray, List.getElem_cons_succ, List.getElem_cons_zero, List.setIfInBounds_toArray, List.set_cons_zero, List.set_cons_succ]
    refine wpAnyH_ready (rs := [3]) (by kernel_rfl) (by simp) ?_
    refine AllReadyH.cons rfl (fun K hK => ?_) AllReadyH.nil
    go_simp
    go_at_call 51
    refine (LV.out _).mono ?_
    rintro e V1_ ⟨rfl, hb1_⟩
    have H1_ := Lib.hid (H0.out.call hb1_)
    clear hb1_
    refine hK.out _ _ H1_.out (fun _ => ?_)
    clear hK K
    try simp only [Act.put, List.getElem_toArray, List.getElem_cons_succ, List.getElem_cons_zero, List.setIfInBounds_toArray, List.set_cons_zero, List.set_cons_succ]
    refine wpAnyH_take (i := 4) (v := .int .i64 ((b : Int) * (L : Int))) rfl (by kernel_rfl) (by kernel_rfl) (by kernel_rfl) (fun _ _ _ h => h) (Or.inl ⟨by rfl, fun W hW => by clear hW; go_simp⟩) H1_.out ?_
    try simp only [Act.put, List.getElem_toArray, List.getElem_cons_succ, List.getElem_cons_zero, List.setIfInBounds_toArray, List.set_cons_zero, List.set_cons_succ]
    refine wpAnyH_take (i := 5) (v := .int .i64 ((b : Int) * (L : Int) + 1)) rfl (by kernel_rfl) (by kernel_rfl) (by kernel_rfl) (fun _ _ _ h => h) (Or.inl ⟨by rfl, fun W hW => by clear hW; go_simp⟩) H1_.out ?_
    try simp only [Act.put, List.getElem_toArray, List.getElem_cons_succ, List.getElem_cons_zero, List.setIfInBounds_toArray, List.set_cons_zero, List.set_cons_succ]
    refine wpAnyH_take (i := 6) (v := .int .i64 ((b : Int) * (L : Int) + 1)) rfl (by kernel_rfl) (by kernel_rfl) (by kernel_rfl) (fun _ _ _ h => h) (Or.inl ⟨by rfl, fun W hW => by clear hW; go_simp⟩) H1_.out ?_
    try simp only [Act.put, List.getElem_toArray, List.getElem_cons_succ, List.getElem_cons_zero, List.setIfInBounds_toArray, List.set_cons_zero, List.set_cons_succ]
    refine wpAnyH_done (by kernel_rfl) ?_ _
    go_wp2
    go_ret
    exact ⟨by rw [E.out]; rfl, H1_.out.bel⟩
end Go.Proofs.Ytnogmfpaipjdaaa.P
