/- What stands where: the small functions. No statement is proved here. -/
import Derived.Test.YtnogmfpaipjdaaaPRoomWalk
namespace Go.Proofs.Ytnogmfpaipjdaaa.P
open Go.RowKit
set_option maxRecDepth 20000
set_option linter.unusedVariables false
set_option linter.unusedSimpArgs false

theorem Al_bounds (p : Pl) : 0 ≤ Al p ∧ Al p ≤ 128 := by
  cases hs : shaped p
  · unfold Al; rw [if_neg (by rw [hs]; simp)]; omega
  · have sh := sh_of hs
    unfold Al
    rw [if_pos hs, sh.pa, sh.li]
    have h1 := sh.n2
    have h2 := sh.l2
    generalize p.pa.toNat = n at *
    generalize p.li.toNat = l at *
    have h3 : n * l ≤ 16 * 8 := Nat.mul_le_mul h1 h2
    have e : (n : Int) * (l : Int) = ((n * l : Nat) : Int) := by simp
    rw [e]; omega
def hasL (p : Pl) (line : Int) : Bool := right p && (decide (0 ≤ line) && decide (line < Al p))
def hasI (p : Pl) (lv ix : Int) : Bool := right p && (decide (0 ≤ ix) && decide (ix < (Wd p lv : Int)))
/-- A plan and an item in two blocks. -/
structure ISt (w : World) (p : Pl) (lv ix : Int) (W : World) : Prop where
  st : PSt w w.heap.size p W
  it : W.heap[w.heap.size + 1]? = some (.cells #[.int .i64 lv, .int .i64 ix] 42 (0, 0))
section
variable {w W W' : World} {p : Pl} {lv ix : Int}
theorem ISt.lt (h : ISt w p lv ix W) : w.heap.size + 1 < W.heap.size := by
  rcases Nat.lt_or_ge (w.heap.size + 1) W.heap.size with hlt | hge
  · exact hlt
  · have := h.it; rw [Array.getElem?_eq_none hge] at this; cases this
theorem ISt.call (h : ISt w p lv ix W) (hb : Below W.heap.size W W') : ISt w p lv ix W' := ⟨h.st.call hb, (hb.block _ h.lt).trans h.it⟩
theorem ISt.drew (h : ISt w p lv ix W) : ISt w p lv ix W.drew := ⟨h.st.drew, h.it⟩
theorem ISt.x0 (h : ISt w p lv ix W) : W.cell? ⟨w.heap.size + 1, 0, none⟩ = some (.int .i64 lv) := by rw [cell_of_row W _ 0 _ 42 (0, 0) h.it]; rfl
theorem ISt.x1 (h : ISt w p lv ix W) : W.cell? ⟨w.heap.size + 1, 1, none⟩ = some (.int .i64 ix) := by rw [cell_of_row W _ 1 _ 42 (0, 0) h.it]; rfl
theorem ISt.new (w : World) (p : Pl) (lv ix : Int) : ISt w p lv ix ((w.alloc (.cells p.arr 28)).alloc (.cells #[.int .i64 lv, .int .i64 ix] 42)) :=
  ⟨⟨(PBlk.new w p).alloc _, (((Below.refl _ _).alloc (Nat.le_refl _) _).alloc (by simp) _)⟩, heap_alloc2_new w _ _⟩
end
attribute [local irreducible] shaped Ls Lv Wd Al right bounded fitP sw
set_option maxHeartbeats 2000000 in
set_option maxRecDepth 20000 in
theorem right45_any (p : Pl) (w : World) : Calls Try.prog 65 #[.agg p.arr] w fun e w' => e = .returned (.bool (right p)) ∧ Below w.heap.size w w' := by
  have CK := Lib.hid (fun W => check_any p W)
  have N := Lib.hid (PSt.new w p)
  cases hr : right p
  · rw [hr, if_neg (by simp)] at CK
    clear hr
    go_enter Try.func65, Try.ntmps65
    go_wp2_with (first
      | (refine wpList_load_plan N.out.blk _ rfl rfl rfl ?_)
      | (go_at_call 27; refine (CK.out _).mono ?_; rintro e X1 ⟨rfl, hb⟩; have h1 := N.out.call hb; clear N hb))
    go_ret
    exact ⟨rfl, h1.bel⟩
  · rw [hr, if_pos rfl] at CK
    clear hr
    go_enter Try.func65, Try.ntmps65
    go_wp2_with (first
      | (refine wpList_load_plan N.out.blk _ rfl rfl rfl ?_)
      | (go_at_call 27; refine (CK.out _).mono ?_; rintro e X1 ⟨rfl, hb⟩; have h1 := N.out.call hb; clear N hb))
    go_ret
    exact ⟨rfl, h1.bel⟩
set_option maxHeartbeats 2000000 in
set_option maxRecDepth 20000 in
theorem tagsAt_any (p : Pl) (w : World) : Calls Try.prog 67 #[.agg p.arr] w fun e w' => e = .returned (.int .i64 (32 * Al p)) ∧ Below w.heap.size w w' := by
  have AL := Lib.hid (fun W => all_any p W)
  have N := Lib.hid (PSt.new w p)
  obtain ⟨h0, h1⟩ := Al_bounds p
  generalize Al p = A at *
  have w1 : IntKind.i64.wrap (32 * A) = 32 * A := IntWalk.i64_in _ (by omega)
  go_enter Try.func67, Try.ntmps67
  go_wp2_with (first
    | (refine wpList_load_plan N.out.blk _ rfl rfl rfl ?_)
    | (go_at_call 68; refine (AL.out _).mono ?_; rintro e X1 ⟨rfl, hb⟩; have h1 := N.out.call hb; clear N hb))
  go_ret
  exact ⟨rfl, h1.bel⟩
set_option maxHeartbeats 2000000 in
set_option maxRecDepth 20000 in
theorem itemsAt_any (p : Pl) (w : World) : Calls Try.prog 53 #[.agg p.arr] w fun e w' => e = .returned (.int .i64 (32 * Al p + 8 * Al p)) ∧ Below w.heap.size w w' := by
  have AL := Lib.hid (fun W => all_any p W)
  have TG := Lib.hid (fun W => tagsAt_any p W)
  have N := Lib.hid (PSt.new w p)
  obtain ⟨h0, h1⟩ := Al_bounds p
  generalize Al p = A at *
  have w1 : IntKind.i64.wrap (8 * A) = 8 * A := IntWalk.i64_in _ (by omega)
  have w2 : IntKind.i64.wrap (32 * A + 8 * A) = 32 * A + 8 * A := IntWalk.i64_in _ (by omega)
  go_enter Try.func53, Try.ntmps53
  go_wp2
  have H0 := Lib.hid N.out.drew
  clear N
  refine wp_region_held_drew (S := fun W => PSt w w.heap.size p W) (by kernel_rfl) H0.out (fun _ => ?_)
  generalize World.drew _ = V0 at *
  refine wpAnyH_take (i := 0) (v := .agg p.arr) rfl (by kernel_rfl) (by kernel_rfl) (by kernel_rfl) (fun _ _ _ h => h) (yields_plan _ rfl (by rfl) rfl (fun W hW => hW.blk)) H0.out ?_
  try simp only [Act.put, List.getElem_toArray, List.getElem_cons_succ, List.getElem_cons_zero, List.setIfInBounds_toArray, List.set_cons_zero, List.set_cons_succ]
  refine wpAnyH_take (i := 2) (v := .agg p.arr) rfl (by kernel_rfl) (by kernel_rfl) (by kernel_rfl) (fun _ _ _ h => h) (yields_plan _ rfl (by rfl) rfl (fun W hW => hW.blk)) H0.out ?_
  try simp only [Act.put, List.getElem_toArray, List.getElem_cons_succ, List.getElem_cons_zero, List.setIfInBounds_toArray, List.set_cons_zero, List.set_cons_succ]
  refine wpAnyH_ready (rs := [1]) (by kernel_rfl) (by simp) ?_
  refine AllReadyH.cons rfl (fun K hK => ?_) AllReadyH.nil
  go_simp
  go_at_call 67
  refine (TG.out _).mono ?_
  rintro e V1_ ⟨rfl, hb1_⟩
  have H1_ := Lib.hid (H0.out.call hb1_)
  clear hb1_
  refine hK.out _ _ H1_.out (fun _ => ?_)
  clear hK K
  try simp only [Act.put, List.getElem_toArray, List.getElem_cons_succ, List.getElem_cons_zero, List.setIfInBounds_toArray, List.set_cons_zero, List.set_cons_succ]
  refine wpAnyH_ready (rs := [3]) (by kernel_rfl) (by simp) ?_
  refine AllReadyH.cons rfl (fun K hK => ?_) AllReadyH.nil
  go_simp
  go_at_call 68
  refine (AL.out _).mono ?_
  rintro e V2_ ⟨rfl, hb2_⟩
  have H2_ := Lib.hid (H1_.out.call hb2_)
  clear hb2_
  refine hK.out _ _ H2_.out (fun _ => ?_)
  clear hK K
  try simp only [Act.put, List.getElem_toArray, List.getElem_cons_succ, List.getElem_cons_zero, List.setIfInBounds_toArray, List.set_cons_zero, List.set_cons_succ]
  refine wpAnyH_take (i := 4) (v := .int .i64 (8 * A)) rfl (by kernel_rfl) (by kernel_rfl) (by kernel_rfl) (fun _ _ _ h => h) (Or.inl ⟨by rfl, fun W hW => by clear hW; go_simp⟩) H2_.out ?_
  try simp only [Act.put, List.getElem_toArray, List.getElem_cons_succ, List.getElem_cons_zero, List.setIfInBounds_toArray, List.set_cons_zero, List.set_cons_succ]
  refine wpAnyH_take (i := 5) (v := .int .i64 (32 * A + 8 * A)) rfl (by kernel_rfl) (by kernel_rfl) (by kernel_rfl) (fun _ _ _ h => h) (Or.inl ⟨by rfl, fun W hW => by clear hW; go_simp⟩) H2_.out ?_
  try simp only [Act.put, List.getElem_toArray, List.getElem_cons_succ, List.getElem_cons_zero, List.setIfInBounds_toArray, List.set_cons_zero, List.set_cons_succ]
  refine wpAnyH_take (i := 6) (v := .int .i64 (32 * A + 8 * A)) rfl (by kernel_rfl) (by kernel_rfl) (by kernel_rfl) (fun _ _ _ h => h) (Or.inl ⟨by rfl, fun W hW => by clear hW; go_simp⟩) H2_.out ?_
  try simp only [Act.put, List.getElem_toArray, List.getElem_cons_succ, List.getElem_cons_zero, List.setIfInBounds_toArray, List.set_cons_zero, List.set_cons_succ]
  refine wpAnyH_done (by kernel_rfl) ?_ _
  go_wp2
  go_ret
  exact ⟨rfl, H2_.out.bel⟩
def BlRel (w : World) (p : Pl) (n a m : Nat) (s i : Value) (wr : World) : Prop :=
  ∃ k, k ≤ m ∧ s = .int .i64 (sw n a k : Nat) ∧ i = .int .i64 (k : Nat) ∧ PSt w w.heap.size p wr
set_option maxHeartbeats 2000000 in
set_option maxRecDepth 20000 in
theorem itemsBelow_any (p : Pl) (m : Nat) (hm : m ≤ Lv p) (hs : shaped p = true) (w : World) : Calls Try.prog 54 #[.agg p.arr, .int .i64 (m : Nat)] w fun e w' => e = .returned (.int .i64 (sw p.pa.toNat p.ar.toNat m : Nat)) ∧ Below w.heap.size w w' := by
  have N := Lib.hid (PSt.new w p)
  have sh := sh_of hs
  have WA : Hid (∀ k : Nat, k < Lv p → ∀ W, Calls Try.prog 66 #[.agg p.arr, .int .i64 (k : Nat)] W fun e w' => e = .returned (.int .i64 (wid p.pa.toNat p.ar.toNat k : Nat)) ∧ Below W.heap.size W w') := fun k hk W => by rw [← Wd_at p k hk]; exact width_any p k W
  have TF := tree_facts sh.n1 sh.n2 sh.a1 sh.a2
  have SW := Lib.hid (fun k hk => sw_le sh.n1 sh.n2 sh.a1 sh.a2 k hk)
  rw [← sh.lv hs] at TF SW
  generalize p.pa.toNat = n at *
  generalize p.ar.toNat = a at *
  generalize Lv p = L at *
  have t1 := TF.1
  have T3 := Lib.hid TF.2.2
  clear TF sh hs
  go_enter Try.func54, Try.ntmps54
  go_wp2
  go_loopw [5, 8] (BlRel w p n a m) (fun s i _ => m - (intOf i).toNat)
  case atStart => exact ⟨0, by omega, by rw [sw_zero]; rfl, rfl, N.out⟩
  case round =>
    clear N
    obtain ⟨k, hk, rfl, rfl, hst⟩ := hrel
    by_cases hlt : k < m
    · have WK := Lib.hid (WA.out k (by omega))
      obtain ⟨y1, y2, -⟩ := T3.out k (by omega)
      have s1 := SW.out k (by omega)
      have ES := Lib.hid (sw_succ n a k)
      generalize hz' : sw n a (k + 1) = z' at *
      generalize sw n a k = z at *
      generalize wid n a k = y at *
      go_wp2_with (first
        | (refine wpList_load_plan hst.blk _ rfl rfl rfl ?_)
        | (go_at_call 66; refine (WK.out _).mono ?_; rintro e X3 ⟨rfl, hb⟩; have hs3 := hst.call hb; clear hst hb))
      go_roundw
      case rel => exact ⟨k + 1, by omega, by rw [hz', ES.out]; go_num, by go_num, hs3⟩
      case measure => simp [intOf]; omega
    · have hk2 : k = m := by omega
      have E : Hid (sw n a m = sw n a k) := by rw [hk2]; exact rfl
      generalize sw n a k = z at *
      clear hk2
      go_wp2
      go_ret
      exact ⟨by rw [E.out]; rfl, hst.bel⟩
set_option maxHeartbeats 2000000 in
set_option maxRecDepth 20000 in
theorem hasItem_any (p : Pl) (lv ix : Int) (w : World) : Calls Try.prog 52 #[.agg p.arr, .agg #[.int .i64 lv, .int .i64 ix]] w fun e w' => e = .returned (.bool (hasI p lv ix)) ∧ Below w.heap.size w w' := by
  have WD := Lib.hid (fun W => width_any p lv W)
  have RT := Lib.hid (fun W => right45_any p W)
  have N := Lib.hid (ISt.new w p lv ix)
  have E := Lib.hid (show hasI p lv ix = (right p && (decide (0 ≤ ix) && decide (ix < (Wd p lv : Int)))) from rfl)
  generalize hasI p lv ix = f at *
  generalize Wd p lv = WW at *
  cases hr : right p
  · rw [hr] at RT E
    clear hr
    go_enter Try.func52, Try.ntmps52
    go_wp2
    have H0 := Lib.hid N.out.drew
    clear N
    refine wp_region_held_drew (S := fun W => ISt w p lv ix W) (by kernel_rfl) H0.out (fun _ => ?_)
    generalize World.drew _ = V0 at *
    refine wpAnyH_take (i := 0) (v := .agg p.arr) rfl (by kernel_rfl) (by kernel_rfl) (by kernel_rfl) (fun _ _ _ h => h) (yields_plan _ rfl (by rfl) rfl (fun W hW => hW.st.blk)) H0.out ?_
    try simp only [Act.put, List.getElem_toArray, List.getElem_cons_succ, List.getElem_cons_zero, List.setIfInBounds_toArray, List.set_cons_zero, List.set_cons_succ]
    refine wpAnyH_ready (rs := [1]) (by kernel_rfl) (by simp) ?_
    refine AllReadyH.cons rfl (fun K hK => ?_) AllReadyH.nil
    go_simp
    go_at_call 65
    refine (RT.out _).mono ?_
    rintro e V1_ ⟨rfl, hb1_⟩
    have H1_ := Lib.hid (H0.out.call hb1_)
    clear hb1_
    refine hK.out _ _ H1_.out (fun _ => ?_)
    clear hK K
    try simp only [Act.put, List.getElem_toArray, List.getElem_cons_succ, List.getElem_cons_zero, List.setIfInBounds_toArray, List.set_cons_zero, List.set_cons_succ]
    refine wpAnyH_take (i := 2) (v := .bool false) rfl (by kernel_rfl) (by kernel_rfl) (by kernel_rfl) (fun _ _ _ h => h) (Or.inl ⟨by rfl, fun W hW => by clear hW; go_simp⟩) H1_.out ?_
    try simp only [Act.put, List.getElem_toArray, List.getElem_cons_succ, List.getElem_cons_zero, List.setIfInBounds_toArray, List.set_cons_zero, List.set_cons_succ]
    refine wpAnyH_take (i := 3) (v := undef) rfl (by kernel_rfl) (by kernel_rfl) (by kernel_rfl) (fun _ _ _ h => h) (Or.inr ⟨by rfl, rfl⟩) H1_.out ?_
    try simp only [Act.put, List.getElem_toArray, List.getElem_cons_succ, List.getElem_cons_zero, List.setIfInBounds_toArray, List.set_cons_zero, List.set_cons_succ]
    refine wpAnyH_take (i := 4) (v := undef) rfl (by kernel_rfl) (by kernel_rfl) (by kernel_rfl) (fun _ _ _ h => h) (Or.inr ⟨by rfl, rfl⟩) H1_.out ?_
    try simp only [Act.put, List.getElem_toArray, List.getElem_cons_succ, List.getElem_cons_zero, List.setIfInBounds_toArray, List.set_cons_zero, List.set_cons_succ]
    refine wpAnyH_take (i := 5) (v := undef) rfl (by kernel_rfl) (by kernel_rfl) (by kernel_rfl) (fun _ _ _ h => h) (Or.inr ⟨by rfl, rfl⟩) H1_.out ?_
    try simp only [Act.put, List.getElem_toArray, List.getElem_cons_succ, List.getElem_cons_zero, List.setIfInBounds_toArray, List.set_cons_zero, List.set_cons_succ]
    refine wpAnyH_take (i := 6) (v := .bool false) rfl (by kernel_rfl) (by kernel_rfl) (by kernel_rfl) (fun _ _ _ h => h) (Or.inl ⟨by rfl, fun W hW => by clear hW; go_simp⟩) H1_.out ?_
    try simp only [Act.put, List.getElem_toArray, List.getElem_cons_succ, List.getElem_cons_zero, List.setIfInBounds_toArray, List.set_cons_zero, List.set_cons_succ]
    refine wpAnyH_take (i := 7) (v := .bool false) rfl (by kernel_rfl) (by kernel_rfl) (by kernel_rfl) (fun _ _ _ h => h) (Or.inl ⟨by rfl, fun W hW => by clear hW; go_simp⟩) H1_.out ?_
    try simp only [Act.put, List.getElem_toArray, List.getElem_cons_succ, List.getElem_cons_zero, List.setIfInBounds_toArray, List.set_cons_zero, List.set_cons_succ]
    refine wpAnyH_take (i := 8) (v := undef) rfl (by kernel_rfl) (by kernel_rfl) (by kernel_rfl) (fun _ _ _ h => h) (Or.inr ⟨by rfl, rfl⟩) H1_.out ?_
    try simp only [Act.put, List.getElem_toArray, List.getElem_cons_succ, List.getElem_cons_zero, List.setIfInBounds_toArray, List.set_cons_zero, List.set_cons_succ]
    refine wpAnyH_take (i := 9) (v := undef) rfl (by kernel_rfl) (by kernel_rfl) (by kernel_rfl) (fun _ _ _ h => h) (Or.inr ⟨by rfl, rfl⟩) H1_.out ?_
    try simp only [Act.put, List.getElem_toArray, List.getElem_cons_succ, List.getElem_cons_zero, List.setIfInBounds_toArray, List.set_cons_zero, List.set_cons_succ]
    refine wpAnyH_take (i := 10) (v := undef) rfl (by kernel_rfl) (by kernel_rfl) (by kernel_rfl) (fun _ _ _ h => h) (Or.inr ⟨by rfl, rfl⟩) H1_.out ?_
    try simp only [Act.put, List.getElem_toArray, List.getElem_cons_succ, List.getElem_cons_zero, List.setIfInBounds_toArray, List.set_cons_zero, List.set_cons_succ]
    refine wpAnyH_take (i := 11) (v := undef) rfl (by kernel_rfl) (by kernel_rfl) (by kernel_rfl) (fun _ _ _ h => h) (Or.inr ⟨by rfl, rfl⟩) H1_.out ?_
    try simp only [Act.put, List.getElem_toArray, List.getElem_cons_succ, List.getElem_cons_zero, List.setIfInBounds_toArray, List.set_cons_zero, List.set_cons_succ]
    refine wpAnyH_take (i := 12) (v := undef) rfl (by kernel_rfl) (by kernel_rfl) (by kernel_rfl) (fun _ _ _ h => h) (Or.inr ⟨by rfl, rfl⟩) H1_.out ?_
    try simp only [Act.put, List.getElem_toArray, List.getElem_cons_succ, List.getElem_cons_zero, List.setIfInBounds_toArray, List.set_cons_zero, List.set_cons_succ]
    refine wpAnyH_take (i := 13) (v := undef) rfl (by kernel_rfl) (by kernel_rfl) (by kernel_rfl) (fun _ _ _ h => h) (Or.inr ⟨by rfl, rfl⟩) H1_.out ?_
    try simp only [Act.put, List.getElem_toArray, List.getElem_cons_succ, List.getElem_cons_zero, List.setIfInBounds_toArray, List.set_cons_zero, List.set_cons_succ]
    refine wpAnyH_take (i := 14) (v := undef) rfl (by kernel_rfl) (by kernel_rfl) (by kernel_rfl) (fun _ _ _ h => h) (Or.inr ⟨by rfl, rfl⟩) H1_.out ?_
    try simp only [Act.put, List.getElem_toArray, List.getElem_cons_succ, List.getElem_cons_zero, List.setIfInBounds_toArray, List.set_cons_zero, List.set_cons_succ]
    refine wpAnyH_take (i := 15) (v := .bool false) rfl (by kernel_rfl) (by kernel_rfl) (by kernel_rfl) (fun _ _ _ h => h) (Or.inl ⟨by rfl, fun W hW => by clear hW; go_simp⟩) H1_.out ?_
    try simp only [Act.put, List.getElem_toArray, List.getElem_cons_succ, List.getElem_cons_zero, List.setIfInBounds_toArray, List.set_cons_zero, List.set_cons_succ]
    refine wpAnyH_take (i := 16) (v := .bool false) rfl (by kernel_rfl) (by kernel_rfl) (by kernel_rfl) (fun _ _ _ h => h) (Or.inl ⟨by rfl, fun W hW => by clear hW; go_simp⟩) H1_.out ?_
    try simp only [Act.put, List.getElem_toArray, List.getElem_cons_succ, List.getElem_cons_zero, List.setIfInBounds_toArray, List.set_cons_zero, List.set_cons_succ]
    refine wpAnyH_done (by kernel_rfl) ?_ _
    go_wp2
    go_ret
    exact ⟨by rw [E.out]; rfl, H1_.out.st.bel⟩
  rw [hr] at RT E
  clear hr
  by_cases g : ¬ (0 ≤ ix)
  · have gt : (0 ≤ ix) = False := eq_false g
    go_enter Try.func52, Try.ntmps52
    go_wp2
    have H0 := Lib.hid N.out.drew
    clear N
    refine wp_region_held_drew (S := fun W => ISt w p lv ix W) (by kernel_rfl) H0.out (fun _ => ?_)
    generalize World.drew _ = V0 at *
    refine wpAnyH_take (i := 0) (v := .agg p.arr) rfl (by kernel_rfl) (by kernel_rfl) (by kernel_rfl) (fun _ _ _ h => h) (yields_plan _ rfl (by rfl) rfl (fun W hW => hW.st.blk)) H0.out ?_
    try simp only [Act.put, List.getElem_toArray, List.getElem_cons_succ, List.getElem_cons_zero, List.setIfInBounds_toArray, List.set_cons_zero, List.set_cons_succ]
    refine wpAnyH_ready (rs := [1]) (by kernel_rfl) (by simp) ?_
    refine AllReadyH.cons rfl (fun K hK => ?_) AllReadyH.nil
    go_simp
    go_at_call 65
    refine (RT.out _).mono ?_
    rintro e V1_ ⟨rfl, hb1_⟩
    have H1_ := Lib.hid (H0.out.call hb1_)
    clear hb1_
    refine hK.out _ _ H1_.out (fun _ => ?_)
    clear hK K
    try simp only [Act.put, List.getElem_toArray, List.getElem_cons_succ, List.getElem_cons_zero, List.setIfInBounds_toArray, List.set_cons_zero, List.set_cons_succ]
    refine wpAnyH_take (i := 2) (v := .bool true) rfl (by kernel_rfl) (by kernel_rfl) (by kernel_rfl) (fun _ _ _ h => h) (Or.inl ⟨by rfl, fun W hW => by clear hW; go_simp⟩) H1_.out ?_
    try simp only [Act.put, List.getElem_toArray, List.getElem_cons_succ, List.getElem_cons_zero, List.setIfInBounds_toArray, List.set_cons_zero, List.set_cons_succ]
    refine wpAnyH_take (i := 3) (v := .pointer (some ⟨w.heap.size + 1, 1, none⟩)) rfl (by kernel_rfl) (by kernel_rfl) (by kernel_rfl) (fun _ _ _ h => h) (Or.inl ⟨by rfl, fun W hW => by clear hW; go_simp⟩) H1_.out ?_
    try simp only [Act.put, List.getElem_toArray, List.getElem_cons_succ, List.getElem_cons_zero, List.setIfInBounds_toArray, List.set_cons_zero, List.set_cons_succ]
    refine wpAnyH_take (i := 4) (v := .int .i64 ix) rfl (by kernel_rfl) (by kernel_rfl) (by kernel_rfl) (fun _ _ _ h => h) (Or.inl ⟨by rfl, fun W hW => by have hc := hW.x1; clear hW; go_simp⟩) H1_.out ?_
    try simp only [Act.put, List.getElem_toArray, List.getElem_cons_succ, List.getElem_cons_zero, List.setIfInBounds_toArray, List.set_cons_zero, List.set_cons_succ]
    refine wpAnyH_take (i := 5) (v := .bool false) rfl (by kernel_rfl) (by kernel_rfl) (by kernel_rfl) (fun _ _ _ h => h) (Or.inl ⟨by rfl, fun W hW => by clear hW; go_simp⟩) H1_.out ?_
    try simp only [Act.put, List.getElem_toArray, List.getElem_cons_succ, List.getElem_cons_zero, List.setIfInBounds_toArray, List.set_cons_zero, List.set_cons_succ]
    refine wpAnyH_take (i := 6) (v := .bool false) rfl (by kernel_rfl) (by kernel_rfl) (by kernel_rfl) (fun _ _ _ h => h) (Or.inl ⟨by rfl, fun W hW => by clear hW; go_simp⟩) H1_.out ?_
    try simp only [Act.put, List.getElem_toArray, List.getElem_cons_succ, List.getElem_cons_zero, List.setIfInBounds_toArray, List.set_cons_zero, List.set_cons_succ]
    refine wpAnyH_take (i := 7) (v := .bool false) rfl (by kernel_rfl) (by kernel_rfl) (by kernel_rfl) (fun _ _ _ h => h) (Or.inl ⟨by rfl, fun W hW => by clear hW; go_simp⟩) H1_.out ?_
    try simp only [Act.put, List.getElem_toArray, List.getElem_cons_succ, List.getElem_cons_zero, List.setIfInBounds_toArray, List.set_cons_zero, List.set_cons_succ]
    refine wpAnyH_take (i := 8) (v := undef) rfl (by kernel_rfl) (by kernel_rfl) (by kernel_rfl) (fun _ _ _ h => h) (Or.inr ⟨by rfl, rfl⟩) H1_.out ?_
    try simp only [Act.put, List.getElem_toArray, List.getElem_cons_succ, List.getElem_cons_zero, List.setIfInBounds_toArray, List.set_cons_zero, List.set_cons_succ]
    refine wpAnyH_take (i := 9) (v := undef) rfl (by kernel_rfl) (by kernel_rfl) (by kernel_rfl) (fun _ _ _ h => h) (Or.inr ⟨by rfl, rfl⟩) H1_.out ?_
    try simp only [Act.put, List.getElem_toArray, List.getElem_cons_succ, List.getElem_cons_zero, List.setIfInBounds_toArray, List.set_cons_zero, List.set_cons_succ]
    refine wpAnyH_take (i := 10) (v := undef) rfl (by kernel_rfl) (by kernel_rfl) (by kernel_rfl) (fun _ _ _ h => h) (Or.inr ⟨by rfl, rfl⟩) H1_.out ?_
    try simp only [Act.put, List.getElem_toArray, List.getElem_cons_succ, List.getElem_cons_zero, List.setIfInBounds_toArray, List.set_cons_zero, List.set_cons_succ]
    refine wpAnyH_take (i := 11) (v := undef) rfl (by kernel_rfl) (by kernel_rfl) (by kernel_rfl) (fun _ _ _ h => h) (Or.inr ⟨by rfl, rfl⟩) H1_.out ?_
    try simp only [Act.put, List.getElem_toArray, List.getElem_cons_succ, List.getElem_cons_zero, List.setIfInBounds_toArray, List.set_cons_zero, List.set_cons_succ]
    refine wpAnyH_take (i := 12) (v := undef) rfl (by kernel_rfl) (by kernel_rfl) (by kernel_rfl) (fun _ _ _ h => h) (Or.inr ⟨by rfl, rfl⟩) H1_.out ?_
    try simp only [Act.put, List.getElem_toArray, List.getElem_cons_succ, List.getElem_cons_zero, List.setIfInBounds_toArray, List.set_cons_zero, List.set_cons_succ]
    refine wpAnyH_take (i := 13) (v := undef) rfl (by kernel_rfl) (by kernel_rfl) (by kernel_rfl) (fun _ _ _ h => h) (Or.inr ⟨by rfl, rfl⟩) H1_.out ?_
    try simp only [Act.put, List.getElem_toArray, List.getElem_cons_succ, List.getElem_cons_zero, List.setIfInBounds_toArray, List.set_cons_zero, List.set_cons_succ]
    refine wpAnyH_take (i := 14) (v := undef) rfl (by kernel_rfl) (by kernel_rfl) (by kernel_rfl) (fun _ _ _ h => h) (Or.inr ⟨by rfl, rfl⟩) H1_.out ?_
    try simp only [Act.put, List.getElem_toArray, List.getElem_cons_succ, List.getElem_cons_zero, List.setIfInBounds_toArray, List.set_cons_zero, List.set_cons_succ]
    refine wpAnyH_take (i := 15) (v := .bool false) rfl (by kernel_rfl) (by kernel_rfl) (by kernel_rfl) (fun _ _ _ h => h) (Or.inl ⟨by rfl, fun W hW => by clear hW; go_simp⟩) H1_.out ?_
    try simp only [Act.put, List.getElem_toArray, List.getElem_cons_succ, List.getElem_cons_zero, List.setIfInBounds_toArray, List.set_cons_zero, List.set_cons_succ]
    refine wpAnyH_take (i := 16) (v := .bool false) rfl (by kernel_rfl) (by kernel_rfl) (by kernel_rfl) (fun _ _ _ h => h) (Or.inl ⟨by rfl, fun W hW => by clear hW; go_simp⟩) H1_.out ?_
    try simp only [Act.put, List.getElem_toArray, List.getElem_cons_succ, List.getElem_cons_zero, List.setIfInBounds_toArray, List.set_cons_zero, List.set_cons_succ]
    refine wpAnyH_done (by kernel_rfl) ?_ _
    go_wp2
    go_ret
    exact ⟨by rw [E.out, show decide (0 ≤ ix) = false from decide_eq_false (by omega)]; rfl, H1_.out.st.bel⟩
  · have g := Classical.not_not.1 g
    have gt : (0 ≤ ix) = True := eq_true g
    go_enter Try.func52, Try.ntmps52
    go_wp2
    have H0 := Lib.hid N.out.drew
    clear N
    refine wp_region_held_drew (S := fun W => ISt w p lv ix W) (by kernel_rfl) H0.out (fun _ => ?_)
    generalize World.drew _ = V0 at *
    refine wpAnyH_take (i := 0) (v := .agg p.arr) rfl (by kernel_rfl) (by kernel_rfl) (by kernel_rfl) (fun _ _ _ h => h) (yields_plan _ rfl (by rfl) rfl (fun W hW => hW.st.blk)) H0.out ?_
    try simp only [Act.put, List.getElem_toArray, List.getElem_cons_succ, List.getElem_cons_zero, List.setIfInBounds_toArray, List.set_cons_zero, List.set_cons_succ]
    refine wpAnyH_ready (rs := [1]) (by kernel_rfl) (by simp) ?_
    refine AllReadyH.cons rfl (fun K hK => ?_) AllReadyH.nil
    go_simp
    go_at_call 65
    refine (RT.out _).mono ?_
    rintro e V1_ ⟨rfl, hb1_⟩
    have H1_ := Lib.hid (H0.out.call hb1_)
    clear hb1_
    refine hK.out _ _ H1_.out (fun _ => ?_)
    clear hK K
    try simp only [Act.put, List.getElem_toArray, List.getElem_cons_succ, List.getElem_cons_zero, List.setIfInBounds_toArray, List.set_cons_zero, List.set_cons_succ]
    refine wpAnyH_take (i := 2) (v := .bool true) rfl (by kernel_rfl) (by kernel_rfl) (by kernel_rfl) (fun _ _ _ h => h) (Or.inl ⟨by rfl, fun W hW => by clear hW; go_simp⟩) H1_.out ?_
    try simp only [Act.put, List.getElem_toArray, List.getElem_cons_succ, List.getElem_cons_zero, List.setIfInBounds_toArray, List.set_cons_zero, List.set_cons_succ]
    refine wpAnyH_take (i := 3) (v := .pointer (some ⟨w.heap.size + 1, 1, none⟩)) rfl (by kernel_rfl) (by kernel_rfl) (by kernel_rfl) (fun _ _ _ h => h) (Or.inl ⟨by rfl, fun W hW => by clear hW; go_simp⟩) H1_.out ?_
    try simp only [Act.put, List.getElem_toArray, List.getElem_cons_succ, List.getElem_cons_zero, List.setIfInBounds_toArray, List.set_cons_zero, List.set_cons_succ]
    refine wpAnyH_take (i := 4) (v := .int .i64 ix) rfl (by kernel_rfl) (by kernel_rfl) (by kernel_rfl) (fun _ _ _ h => h) (Or.inl ⟨by rfl, fun W hW => by have hc := hW.x1; clear hW; go_simp⟩) H1_.out ?_
    try simp only [Act.put, List.getElem_toArray, List.getElem_cons_succ, List.getElem_cons_zero, List.setIfInBounds_toArray, List.set_cons_zero, List.set_cons_succ]
    refine wpAnyH_take (i := 5) (v := .bool true) rfl (by kernel_rfl) (by kernel_rfl) (by kernel_rfl) (fun _ _ _ h => h) (Or.inl ⟨by rfl, fun W hW => by clear hW; go_simp⟩) H1_.out ?_
    try simp only [Act.put, List.getElem_toArray, List.getElem_cons_succ, List.getElem_cons_zero, List.setIfInBounds_toArray, List.set_cons_zero, List.set_cons_succ]
    refine wpAnyH_take (i := 6) (v := .bool true) rfl (by kernel_rfl) (by kernel_rfl) (by kernel_rfl) (fun _ _ _ h => h) (Or.inl ⟨by rfl, fun W hW => by clear hW; go_simp⟩) H1_.out ?_
    try simp only [Act.put, List.getElem_toArray, List.getElem_cons_succ, List.getElem_cons_zero, List.setIfInBounds_toArray, List.set_cons_zero, List.set_cons_succ]
    refine wpAnyH_take (i := 7) (v := .bool true) rfl (by kernel_rfl) (by kernel_rfl) (by kernel_rfl) (fun _ _ _ h => h) (Or.inl ⟨by rfl, fun W hW => by clear hW; go_simp⟩) H1_.out ?_
    try simp only [Act.put, List.getElem_toArray, List.getElem_cons_succ, List.getElem_cons_zero, List.setIfInBounds_toArray, List.set_cons_zero, List.set_cons_succ]
    refine wpAnyH_take (i := 8) (v := .pointer (some ⟨w.heap.size + 1, 1, none⟩)) rfl (by kernel_rfl) (by kernel_rfl) (by kernel_rfl) (fun _ _ _ h => h) (Or.inl ⟨by rfl, fun W hW => by clear hW; go_simp⟩) H1_.out ?_
    try simp only [Act.put, List.getElem_toArray, List.getElem_cons_succ, List.getElem_cons_zero, List.setIfInBounds_toArray, List.set_cons_zero, List.set_cons_succ]
    refine wpAnyH_take (i := 9) (v := .int .i64 ix) rfl (by kernel_rfl) (by kernel_rfl) (by kernel_rfl) (fun _ _ _ h => h) (Or.inl ⟨by rfl, fun W hW => by have hc := hW.x1; clear hW; go_simp⟩) H1_.out ?_
    try simp only [Act.put, List.getElem_toArray, List.getElem_cons_succ, List.getElem_cons_zero, List.setIfInBounds_toArray, List.set_cons_zero, List.set_cons_succ]
    refine wpAnyH_take (i := 10) (v := .agg p.arr) rfl (by kernel_rfl) (by kernel_rfl) (by kernel_rfl) (fun _ _ _ h => h) (yields_plan _ rfl (by rfl) rfl (fun W hW => hW.st.blk)) H1_.out ?_
    try simp only [Act.put, List.getElem_toArray, List.getElem_cons_succ, List.getElem_cons_zero, List.setIfInBounds_toArray, List.set_cons_zero, List.set_cons_succ]
    refine wpAnyH_take (i := 11) (v := .pointer (some ⟨w.heap.size + 1, 0, none⟩)) rfl (by kernel_rfl) (by kernel_rfl) (by kernel_rfl) (fun _ _ _ h => h) (Or.inl ⟨by rfl, fun W hW => by clear hW; go_simp⟩) H1_.out ?_
    try simp only [Act.put, List.getElem_toArray, List.getElem_cons_succ, List.getElem_cons_zero, List.setIfInBounds_toArray, List.set_cons_zero, List.set_cons_succ]
    refine wpAnyH_take (i := 12) (v := .int .i64 lv) rfl (by kernel_rfl) (by kernel_rfl) (by kernel_rfl) (fun _ _ _ h => h) (Or.inl ⟨by rfl, fun W hW => by have hc := hW.x0; clear hW; go_simp⟩) H1_.out ?_
    try simp only [Act.put, List.getElem_toArray, List.getElem_cons_succ, List.getElem_cons_zero, List.setIfInBounds_toArray, List.set_cons_zero, List.set_cons_succ]
    refine wpAnyH_ready (rs := [13]) (by kernel_rfl) (by simp) ?_
    refine AllReadyH.cons rfl (fun K hK => ?_) AllReadyH.nil
    go_simp
    go_at_call 66
    refine (WD.out _).mono ?_
    rintro e V2_ ⟨rfl, hb2_⟩
    have H2_ := Lib.hid (H1_.out.call hb2_)
    clear hb2_
    refine hK.out _ _ H2_.out (fun _ => ?_)
    clear hK K
    try simp only [Act.put, List.getElem_toArray, List.getElem_cons_succ, List.getElem_cons_zero, List.setIfInBounds_toArray, List.set_cons_zero, List.set_cons_succ]
    refine wpAnyH_take (i := 14) (v := .bool (decide (ix < (WW : Int)))) rfl (by kernel_rfl) (by kernel_rfl) (by kernel_rfl) (fun _ _ _ h => h) (Or.inl ⟨by rfl, fun W hW => by clear hW; go_simp⟩) H2_.out ?_
    try simp only [Act.put, List.getElem_toArray, List.getElem_cons_succ, List.getElem_cons_zero, List.setIfInBounds_toArray, List.set_cons_zero, List.set_cons_succ]
    refine wpAnyH_take (i := 15) (v := .bool (decide (ix < (WW : Int)))) rfl (by kernel_rfl) (by kernel_rfl) (by kernel_rfl) (fun _ _ _ h => h) (Or.inl ⟨by rfl, fun W hW => by clear hW; go_simp⟩) H2_.out ?_
    try simp only [Act.put, List.getElem_toArray, List.getElem_cons_succ, List.getElem_cons_zero, List.setIfInBounds_toArray, List.set_cons_zero, List.set_cons_succ]
    refine wpAnyH_take (i := 16) (v := .bool (decide (ix < (WW : Int)))) rfl (by kernel_rfl) (by kernel_rfl) (by kernel_rfl) (fun _ _ _ h => h) (Or.inl ⟨by rfl, fun W hW => by clear hW; go_simp⟩) H2_.out ?_
    try simp only [Act.put, List.getElem_toArray, List.getElem_cons_succ, List.getElem_cons_zero, List.setIfInBounds_toArray, List.set_cons_zero, List.set_cons_succ]
    refine wpAnyH_done (by kernel_rfl) ?_ _
    go_wp2
    go_ret
    exact ⟨by rw [E.out, decide_eq_true g]; rfl, H2_.out.st.bel⟩
end Go.Proofs.Ytnogmfpaipjdaaa.P
