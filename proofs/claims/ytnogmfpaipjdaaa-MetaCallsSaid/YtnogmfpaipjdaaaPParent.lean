/- The item above one. No statement is proved here. -/
import Derived.Test.YtnogmfpaipjdaaaPReg2
namespace Go.Proofs.Ytnogmfpaipjdaaa.P
open Go.RowKit
set_option maxRecDepth 20000
set_option linter.unusedVariables false
set_option linter.unusedSimpArgs false

/-- A plan, an item, and room for another one, in three blocks. -/
structure KSt (w : World) (p : Pl) (lv ix : Int) (W : World) : Prop where
  i : ISt w p lv ix W
  up : ∃ c d : Int, W.heap[w.heap.size + 2]? = some (.cells #[.int .i64 c, .int .i64 d] 42 (0, 0))
section
variable {w W W' : World} {p : Pl} {lv ix : Int}
theorem KSt.lt (h : KSt w p lv ix W) : w.heap.size + 2 < W.heap.size := by
  rcases Nat.lt_or_ge (w.heap.size + 2) W.heap.size with hlt | hge
  · exact hlt
  · obtain ⟨c, d, e⟩ := h.up; rw [Array.getElem?_eq_none hge] at e; cases e
theorem KSt.call (h : KSt w p lv ix W) (hb : Below W.heap.size W W') : KSt w p lv ix W' := ⟨h.i.call hb, by obtain ⟨c, d, e⟩ := h.up; exact ⟨c, d, (hb.block _ h.lt).trans e⟩⟩
theorem KSt.drew (h : KSt w p lv ix W) : KSt w p lv ix W.drew := ⟨h.i.drew, h.up⟩
theorem sz42 : (Try.prog.info? 42).map (·.size) = some 2 := by kernel_rfl
theorem KSt.put (h : KSt w p lv ix W) (c d : Int) : KSt w p lv ix (W.setRow (w.heap.size + 2) #[.int .i64 c, .int .i64 d]) ∧ (W.setRow (w.heap.size + 2) #[.int .i64 c, .int .i64 d]).heap[w.heap.size + 2]? = some (.cells #[.int .i64 c, .int .i64 d] 42 (0, 0)) := by
  have hb : (W.setRow (w.heap.size + 2) #[.int .i64 c, .int .i64 d]).heap[w.heap.size + 2]? = some (.cells #[.int .i64 c, .int .i64 d] 42 (0, 0)) := by
    obtain ⟨c0, d0, e⟩ := h.up
    simp [World.setRow, Array.getElem?_modify, e]
  exact ⟨⟨⟨⟨(heap_setRow_far W _ _ _ (by omega)).trans h.i.st.blk, h.i.st.bel.trans ⟨rfl, rfl, rfl, by simp [World.setRow], fun k hk => heap_setRow_far W _ k _ (by omega)⟩⟩, (heap_setRow_far W _ _ _ (by omega)).trans h.i.it⟩, c, d, hb⟩, hb⟩
theorem wp_store_item {o : Oper} {a : Act} {K : Act → World → Prop} {Q : Exit → Act → World → Prop} {c d : Int} (h : KSt w p lv ix W) (x y : Operand) (ho : o.op = .store 42 x y) (hx : a.eval x = .pointer (some ⟨w.heap.size + 2, 0, none⟩)) (hy : a.eval y = .agg #[.int .i64 c, .int .i64 d])
    (k : ∀ W', KSt w p lv ix W' → W'.heap[w.heap.size + 2]? = some (.cells #[.int .i64 c, .int .i64 d] 42 (0, 0)) → K (a.put o.dst undef) W') : o.wp Try.prog a W K Q := by
  obtain ⟨c0, d0, e⟩ := h.up
  exact wp_store_row 42 x y ho (w.heap.size + 2) #[.int .i64 c, .int .i64 d] hx hy 42 #[.int .i64 c0, .int .i64 d0] e sz42 rfl (by simp [Value.oneCell']) (k _ (h.put c d).1 (h.put c d).2)
theorem wpList_store_item {ops : Array Oper} {rest : List Oper} {o : Oper} {a : Act} {Q : Exit → Act → World → Prop} {c d : Int} (h : KSt w p lv ix W) (x y : Operand) (ho : o.op = .store 42 x y) (hx : a.eval x = .pointer (some ⟨w.heap.size + 2, 0, none⟩)) (hw : Region.wanted o (yielded ops a.tmps) = true) (hy : a.eval y = .agg #[.int .i64 c, .int .i64 d])
    (k : ∀ W', KSt w p lv ix W' → W'.heap[w.heap.size + 2]? = some (.cells #[.int .i64 c, .int .i64 d] 42 (0, 0)) → wpList Try.prog ops Q rest (a.put o.dst undef) W') : wpList Try.prog ops Q (o :: rest) a W := by
  unfold wpList
  rw [if_pos hw]
  exact .inl (wp_store_item h x y ho hx hy k)
theorem KSt.new (w : World) (p : Pl) (lv ix : Int) : KSt w p lv ix (((w.alloc (.cells p.arr 28)).alloc (.cells #[.int .i64 lv, .int .i64 ix] 42)).alloc (.cells #[.int .i64 0, .int .i64 0] 42)) := by
  have h := ISt.new w p lv ix
  have e : ((w.alloc (.cells p.arr 28)).alloc (.cells #[.int .i64 lv, .int .i64 ix] 42)).heap.size = w.heap.size + 2 := by simp
  have h2 := heap_alloc_new ((w.alloc (.cells p.arr 28)).alloc (.cells #[.int .i64 lv, .int .i64 ix] 42)) (.cells #[.int .i64 0, .int .i64 0] 42)
  rw [e] at h2
  exact ⟨⟨⟨h.st.blk.alloc _, h.st.bel.alloc (by rw [e]; omega) _⟩, (Below.heap_alloc _ _ _ (by rw [e]; omega)).trans h.it⟩, 0, 0, h2⟩
end
/-- Whether there is an item above one. -/
def hasU (p : Pl) (lv ix : Int) : Bool := hasI p lv ix && !decide (lv = (Lv p : Int) - 1)
def upL (p : Pl) (lv ix : Int) : Int := if hasU p lv ix then lv + 1 else 0
def upX (p : Pl) (lv ix : Int) : Int := if hasU p lv ix then ix / p.ar else 0
def upC (p : Pl) (lv ix : Int) : Int := if hasU p lv ix then ix % p.ar else 0
theorem item_load {V : World} {g : Nat} {c d : Int} (h : V.heap[g]? = some (.cells #[.int .i64 c, .int .i64 d] 42 (0, 0))) : V.cell? ⟨g, 0, none⟩ = some (.int .i64 c) ∧ V.cell? ⟨g, 1, none⟩ = some (.int .i64 d) := by
  rw [cell_of_row V _ 0 _ 42 (0, 0) h, cell_of_row V _ 1 _ 42 (0, 0) h]; exact ⟨rfl, rfl⟩
theorem results_item {fn : Func} {t1 t2 t3 : Tmp} (h : fn.results = #[.cell t1 42, .tmp t2, .tmp t3]) (tmps : Array Value) (W : World) (g : Nat) (hp : tmps.getD t1 undef = .pointer (some ⟨g, 0, none⟩)) (c d : Int) (hg : W.heap[g]? = some (.cells #[.int .i64 c, .int .i64 d] 42 (0, 0))) :
    (results fn tmps).run Try.prog W = .ok (.tuple #[.agg #[.int .i64 c, .int .i64 d], tmps.getD t2 undef, tmps.getD t3 undef]) W := by
  have hp' : tmps[t1]?.getD undef = .pointer (some ⟨g, 0, none⟩) := by simpa using hp
  have hl := run_loadVar_row (P := Try.prog) W g 42 42 #[.int .i64 c, .int .i64 d] (0, 0) _ hg Try.underlying42 rfl sz42
  simp [results, h, hp', asAddr, hl]
attribute [local irreducible] shaped Ls Lv Wd Al right bounded fitP sw hasI hasL
set_option maxHeartbeats 2000000 in
set_option maxRecDepth 20000 in
theorem parent_any (p : Pl) (lv ix : Int) (w : World) : Calls Try.prog 55 #[.agg p.arr, .agg #[.int .i64 lv, .int .i64 ix]] w fun e w' => e = .returned (.tuple #[.agg #[.int .i64 (upL p lv ix), .int .i64 (upX p lv ix)], .int .i64 (upC p lv ix), .bool (hasU p lv ix)]) ∧ Below w.heap.size w w' := by
  have HI := Lib.hid (fun W => hasItem_any p lv ix W)
  have LV := Lib.hid (fun W => levels_any p W)
  have N := Lib.hid (KSt.new w p lv ix)
  have L5 := Lv_le p
  cases hr : hasI p lv ix
  · have e0 : hasU p lv ix = false := by unfold hasU; rw [hr]; rfl
    have E1 : Hid (upL p lv ix = 0) := by unfold upL; rw [e0]; exact rfl
    have E2 : Hid (upX p lv ix = 0) := by unfold upX; rw [e0]; exact rfl
    have E3 : Hid (upC p lv ix = 0) := by unfold upC; rw [e0]; exact rfl
    rw [hr] at HI
    have E0 := Lib.hid e0
    generalize upL p lv ix = r1 at *
    generalize upX p lv ix = r2 at *
    generalize upC p lv ix = r3 at *
    generalize hasU p lv ix = r0 at *
    generalize Lv p = L at *
    clear hr e0
    skip
    skip
    skip
    skip
    go_enter Try.func55, Try.ntmps55
    go_wp2
    have H0 := Lib.hid N.out.drew
    clear N
    refine wp_region_held_drew (S := fun W => KSt w p lv ix W) (by kernel_rfl) H0.out (fun _ => ?_)
    generalize World.drew _ = V0 at *
    refine wpAnyH_take (i := 0) (v := .agg p.arr) rfl (by kernel_rfl) (by kernel_rfl) (by kernel_rfl) (fun _ _ _ h => h) (yields_plan _ rfl (by rfl) rfl (fun W hW => hW.i.st.blk)) H0.out ?_
    try simp only [Act.put, List.getElem_toArray, List.getElem_cons_succ, List.getElem_cons_zero, List.setIfInBounds_toArray, List.set_cons_zero, List.set_cons_succ]
    refine wpAnyH_take (i := 1) (v := .agg #[.int .i64 lv, .int .i64 ix]) rfl (by kernel_rfl) (by kernel_rfl) (by kernel_rfl) (fun _ _ _ h => h) (Or.inl ⟨by rfl, fun W hW => by have hc := And.intro hW.i.x0 hW.i.x1; clear hW; go_simp⟩) H0.out ?_
    try simp only [Act.put, List.getElem_toArray, List.getElem_cons_succ, List.getElem_cons_zero, List.setIfInBounds_toArray, List.set_cons_zero, List.set_cons_succ]
    refine wpAnyH_ready (rs := [2]) (by kernel_rfl) (by simp) ?_
    refine AllReadyH.cons rfl (fun K hK => ?_) AllReadyH.nil
    go_simp
    go_at_call 52
    refine (HI.out _).mono ?_
    rintro e V1_ ⟨rfl, hb1_⟩
    have H1_ := Lib.hid (H0.out.call hb1_)
    clear hb1_
    refine hK.out _ _ H1_.out (fun _ => ?_)
    clear hK K
    try simp only [Act.put, List.getElem_toArray, List.getElem_cons_succ, List.getElem_cons_zero, List.setIfInBounds_toArray, List.set_cons_zero, List.set_cons_succ]
    refine wpAnyH_take (i := 3) (v := .bool true) rfl (by kernel_rfl) (by kernel_rfl) (by kernel_rfl) (fun _ _ _ h => h) (Or.inl ⟨by rfl, fun W hW => by clear hW; go_simp⟩) H1_.out ?_
    try simp only [Act.put, List.getElem_toArray, List.getElem_cons_succ, List.getElem_cons_zero, List.setIfInBounds_toArray, List.set_cons_zero, List.set_cons_succ]
    refine wpAnyH_take (i := 4) (v := .bool true) rfl (by kernel_rfl) (by kernel_rfl) (by kernel_rfl) (fun _ _ _ h => h) (Or.inl ⟨by rfl, fun W hW => by clear hW; go_simp⟩) H1_.out ?_
    try simp only [Act.put, List.getElem_toArray, List.getElem_cons_succ, List.getElem_cons_zero, List.setIfInBounds_toArray, List.set_cons_zero, List.set_cons_succ]
    refine wpAnyH_take (i := 5) (v := undef) rfl (by kernel_rfl) (by kernel_rfl) (by kernel_rfl) (fun _ _ _ h => h) (Or.inr ⟨by rfl, rfl⟩) H1_.out ?_
    try simp only [Act.put, List.getElem_toArray, List.getElem_cons_succ, List.getElem_cons_zero, List.setIfInBounds_toArray, List.set_cons_zero, List.set_cons_succ]
    refine wpAnyH_take (i := 6) (v := undef) rfl (by kernel_rfl) (by kernel_rfl) (by kernel_rfl) (fun _ _ _ h => h) (Or.inr ⟨by rfl, rfl⟩) H1_.out ?_
    try simp only [Act.put, List.getElem_toArray, List.getElem_cons_succ, List.getElem_cons_zero, List.setIfInBounds_toArray, List.set_cons_zero, List.set_cons_succ]
    refine wpAnyH_take (i := 7) (v := undef) rfl (by kernel_rfl) (by kernel_rfl) (by kernel_rfl) (fun _ _ _ h => h) (Or.inr ⟨by rfl, rfl⟩) H1_.out ?_
    try simp only [Act.put, List.getElem_toArray, List.getElem_cons_succ, List.getElem_cons_zero, List.setIfInBounds_toArray, List.set_cons_zero, List.set_cons_succ]
    refine wpAnyH_take (i := 8) (v := undef) rfl (by kernel_rfl) (by kernel_rfl) (by kernel_rfl) (fun _ _ _ h => h) (Or.inr ⟨by rfl, rfl⟩) H1_.out ?_
    try simp only [Act.put, List.getElem_toArray, List.getElem_cons_succ, List.getElem_cons_zero, List.setIfInBounds_toArray, List.set_cons_zero, List.set_cons_succ]
    refine wpAnyH_take (i := 9) (v := undef) rfl (by kernel_rfl) (by kernel_rfl) (by kernel_rfl) (fun _ _ _ h => h) (Or.inr ⟨by rfl, rfl⟩) H1_.out ?_
    try simp only [Act.put, List.getElem_toArray, List.getElem_cons_succ, List.getElem_cons_zero, List.setIfInBounds_toArray, List.set_cons_zero, List.set_cons_succ]
    refine wpAnyH_take (i := 10) (v := undef) rfl (by kernel_rfl) (by kernel_rfl) (by kernel_rfl) (fun _ _ _ h => h) (Or.inr ⟨by rfl, rfl⟩) H1_.out ?_
    try simp only [Act.put, List.getElem_toArray, List.getElem_cons_succ, List.getElem_cons_zero, List.setIfInBounds_toArray, List.set_cons_zero, List.set_cons_succ]
    refine wpAnyH_take (i := 11) (v := .bool true) rfl (by kernel_rfl) (by kernel_rfl) (by kernel_rfl) (fun _ _ _ h => h) (Or.inl ⟨by rfl, fun W hW => by clear hW; go_simp⟩) H1_.out ?_
    try simp only [Act.put, List.getElem_toArray, List.getElem_cons_succ, List.getElem_cons_zero, List.setIfInBounds_toArray, List.set_cons_zero, List.set_cons_succ]
    refine wpAnyH_done (by kernel_rfl) ?_ _
    go_wp2_with (first
      | (refine wpList_store_item (c := 0) (d := 0) H1_.out _ _ rfl rfl rfl rfl ?_; intro X hX hXb))
    exact bodyPost_ret (results_item Try.results55 _ _ (w.heap.size + 2) rfl 0 0 hXb) rfl ⟨by rw [E0.out, E1.out, E2.out, E3.out]; rfl, hX.i.st.bel⟩
  by_cases hl : lv = (Lv p : Int) - 1
  · have e0 : hasU p lv ix = false := by unfold hasU; rw [hr, decide_eq_true hl]; rfl
    have e1 : 1 ≤ Lv p := by obtain ⟨_, k, j, rfl, _, hk, _⟩ := hasI_facts hr; omega
    have E1 : Hid (upL p lv ix = 0) := by unfold upL; rw [e0]; exact rfl
    have E2 : Hid (upX p lv ix = 0) := by unfold upX; rw [e0]; exact rfl
    have E3 : Hid (upC p lv ix = 0) := by unfold upC; rw [e0]; exact rfl
    rw [hr] at HI
    have E0 := Lib.hid e0
    generalize upL p lv ix = r1 at *
    generalize upX p lv ix = r2 at *
    generalize upC p lv ix = r3 at *
    generalize hasU p lv ix = r0 at *
    generalize Lv p = L at *
    clear hr e0
    have w1 : IntKind.i64.wrap ((L : Int) - 1) = (L : Int) - 1 := IntWalk.i64_in _ (by omega)
    have g1 : (lv = (L : Int) - 1) = True := eq_true hl
    have g2 : (lv == (L : Int) - 1) = true := by rw [beq_iff_eq]; exact hl
    clear hl
    go_enter Try.func55, Try.ntmps55
    go_wp2
    have H0 := Lib.hid N.out.drew
    clear N
    refine wp_region_held_drew (S := fun W => KSt w p lv ix W) (by kernel_rfl) H0.out (fun _ => ?_)
    generalize World.drew _ = V0 at *
    refine wpAnyH_take (i := 0) (v := .agg p.arr) rfl (by kernel_rfl) (by kernel_rfl) (by kernel_rfl) (fun _ _ _ h => h) (yields_plan _ rfl (by rfl) rfl (fun W hW => hW.i.st.blk)) H0.out ?_
    try simp only [Act.put, List.getElem_toArray, List.getElem_cons_succ, List.getElem_cons_zero, List.setIfInBounds_toArray, List.set_cons_zero, List.set_cons_succ]
    refine wpAnyH_take (i := 1) (v := .agg #[.int .i64 lv, .int .i64 ix]) rfl (by kernel_rfl) (by kernel_rfl) (by kernel_rfl) (fun _ _ _ h => h) (Or.inl ⟨by rfl, fun W hW => by have hc := And.intro hW.i.x0 hW.i.x1; clear hW; go_simp⟩) H0.out ?_
    try simp only [Act.put, List.getElem_toArray, List.getElem_cons_succ, List.getElem_cons_zero, List.setIfInBounds_toArray, List.set_cons_zero, List.set_cons_succ]
    refine wpAnyH_ready (rs := [2]) (by kernel_rfl) (by simp) ?_
    refine AllReadyH.cons rfl (fun K hK => ?_) AllReadyH.nil
    go_simp
    go_at_call 52
    refine (HI.out _).mono ?_
    rintro e V1_ ⟨rfl, hb1_⟩
    have H1_ := Lib.hid (H0.out.call hb1_)
    clear hb1_
    refine hK.out _ _ H1_.out (fun _ => ?_)
    clear hK K
    try simp only [Act.put, List.getElem_toArray, List.getElem_cons_succ, List.getElem_cons_zero, List.setIfInBounds_toArray, List.set_cons_zero, List.set_cons_succ]
    refine wpAnyH_take (i := 3) (v := .bool false) rfl (by kernel_rfl) (by kernel_rfl) (by kernel_rfl) (fun _ _ _ h => h) (Or.inl ⟨by rfl, fun W hW => by clear hW; go_simp⟩) H1_.out ?_
    try simp only [Act.put, List.getElem_toArray, List.getElem_cons_succ, List.getElem_cons_zero, List.setIfInBounds_toArray, List.set_cons_zero, List.set_cons_succ]
    refine wpAnyH_take (i := 4) (v := .bool false) rfl (by kernel_rfl) (by kernel_rfl) (by kernel_rfl) (fun _ _ _ h => h) (Or.inl ⟨by rfl, fun W hW => by clear hW; go_simp⟩) H1_.out ?_
    try simp only [Act.put, List.getElem_toArray, List.getElem_cons_succ, List.getElem_cons_zero, List.setIfInBounds_toArray, List.set_cons_zero, List.set_cons_succ]
    refine wpAnyH_take (i := 5) (v := .pointer (some ⟨w.heap.size + 1, 0, none⟩)) rfl (by kernel_rfl) (by kernel_rfl) (by kernel_rfl) (fun _ _ _ h => h) (Or.inl ⟨by rfl, fun W hW => by clear hW; go_simp⟩) H1_.out ?_
    try simp only [Act.put, List.getElem_toArray, List.getElem_cons_succ, List.getElem_cons_zero, List.setIfInBounds_toArray, List.set_cons_zero, List.set_cons_succ]
    refine wpAnyH_take (i := 6) (v := .int .i64 lv) rfl (by kernel_rfl) (by kernel_rfl) (by kernel_rfl) (fun _ _ _ h => h) (Or.inl ⟨by rfl, fun W hW => by have hc := hW.i.x0; clear hW; go_simp⟩) H1_.out ?_
    try simp only [Act.put, List.getElem_toArray, List.getElem_cons_succ, List.getElem_cons_zero, List.setIfInBounds_toArray, List.set_cons_zero, List.set_cons_succ]
    refine wpAnyH_take (i := 7) (v := .agg p.arr) rfl (by kernel_rfl) (by kernel_rfl) (by kernel_rfl) (fun _ _ _ h => h) (yields_plan _ rfl (by rfl) rfl (fun W hW => hW.i.st.blk)) H1_.out ?_
    try simp only [Act.put, List.getElem_toArray, List.getElem_cons_succ, List.getElem_cons_zero, List.setIfInBounds_toArray, List.set_cons_zero, List.set_cons_succ]
    refine wpAnyH_ready (rs := [8]) (by kernel_rfl) (by simp) ?_
    refine AllReadyH.cons rfl (fun K hK => ?_) AllReadyH.nil
    go_simp
    go_at_call 64
    refine (LV.out _).mono ?_
    rintro e V2_ ⟨rfl, hb2_⟩
    have H2_ := Lib.hid (H1_.out.call hb2_)
    clear hb2_
    refine hK.out _ _ H2_.out (fun _ => ?_)
    clear hK K
    try simp only [Act.put, List.getElem_toArray, List.getElem_cons_succ, List.getElem_cons_zero, List.setIfInBounds_toArray, List.set_cons_zero, List.set_cons_succ]
    refine wpAnyH_take (i := 9) (v := .int .i64 ((L : Int) - 1)) rfl (by kernel_rfl) (by kernel_rfl) (by kernel_rfl) (fun _ _ _ h => h) (Or.inl ⟨by rfl, fun W hW => by clear hW; go_simp⟩) H2_.out ?_
    try simp only [Act.put, List.getElem_toArray, List.getElem_cons_succ, List.getElem_cons_zero, List.setIfInBounds_toArray, List.set_cons_zero, List.set_cons_succ]
    refine wpAnyH_take (i := 10) (v := .bool true) rfl (by kernel_rfl) (by kernel_rfl) (by kernel_rfl) (fun _ _ _ h => h) (Or.inl ⟨by rfl, fun W hW => by clear hW; go_simp⟩) H2_.out ?_
    try simp only [Act.put, List.getElem_toArray, List.getElem_cons_succ, List.getElem_cons_zero, List.setIfInBounds_toArray, List.set_cons_zero, List.set_cons_succ]
    refine wpAnyH_take (i := 11) (v := .bool true) rfl (by kernel_rfl) (by kernel_rfl) (by kernel_rfl) (fun _ _ _ h => h) (Or.inl ⟨by rfl, fun W hW => by clear hW; go_simp⟩) H2_.out ?_
    try simp only [Act.put, List.getElem_toArray, List.getElem_cons_succ, List.getElem_cons_zero, List.setIfInBounds_toArray, List.set_cons_zero, List.set_cons_succ]
    refine wpAnyH_done (by kernel_rfl) ?_ _
    go_wp2_with (first
      | (refine wpList_store_item (c := 0) (d := 0) H2_.out _ _ rfl rfl rfl rfl ?_; intro X hX hXb))
    exact bodyPost_ret (results_item Try.results55 _ _ (w.heap.size + 2) rfl 0 0 hXb) rfl ⟨by rw [E0.out, E1.out, E2.out, E3.out]; rfl, hX.i.st.bel⟩
  · obtain ⟨hrt, k, j, rfl, rfl, hk, hj⟩ := hasI_facts hr
    have hs := (right_facts hrt).2.1
    have sh := sh_of hs
    have e0 : hasU p k j = true := by unfold hasU; rw [hr, decide_eq_false hl]; rfl
    have E1 : Hid (upL p k j = (k : Int) + 1) := by unfold upL; rw [e0]; exact rfl
    have E2 : Hid (upX p k j = (j : Int) / p.ar) := by unfold upX; rw [e0]; exact rfl
    have E3 : Hid (upC p k j = (j : Int) % p.ar) := by unfold upC; rw [e0]; exact rfl
    have y2 := ((tree_facts sh.n1 sh.n2 sh.a1 sh.a2).2.2 k (by rw [← sh.lv hs]; omega)).2.1
    have j16 : j < 16 := by omega
    have c4 := sh.ar
    have a1 := sh.a1
    have a2 := sh.a2
    rw [c4] at E2 E3
    rw [hr] at HI
    have E0 := Lib.hid e0
    generalize p.ar.toNat = a at *
    generalize upL p k j = r1 at *
    generalize upX p k j = r2 at *
    generalize upC p k j = r3 at *
    generalize hasU p k j = r0 at *
    generalize Lv p = L at *
    clear hr e0 hrt sh hs hj y2
    have w1 : IntKind.i64.wrap ((L : Int) - 1) = (L : Int) - 1 := IntWalk.i64_in _ (by omega)
    have g1 : ((k : Int) = (L : Int) - 1) = False := eq_false hl
    have g2 : ((k : Int) == (L : Int) - 1) = false := by rw [beq_eq_false_iff_ne]; exact hl
    have d0 : (a : Int) ≠ 0 := by omega
    have d1 : (a = 0) = False := eq_false (by omega)
    have q1 : (j : Int) / (a : Int) = ((j / a : Nat) : Int) := Int.ofNat_ediv_ofNat
    have q2 : j / a ≤ j := Nat.div_le_self _ _
    have q5 : 0 ≤ (j : Int) / (a : Int) := Int.ediv_nonneg (by omega) (by omega)
    have q6 : (j : Int) / (a : Int) ≤ (j : Int) := by rw [q1]; exact_mod_cast q2
    have q3 : (j : Int) % (a : Int) = ((j % a : Nat) : Int) := rfl
    have q4 : j % a ≤ j := Nat.mod_le _ _
    have w2 : IntKind.i64.wrap ((j : Int) / (a : Int)) = (j : Int) / (a : Int) := IntWalk.i64_in _ (by omega)
    have w3 : IntKind.i64.wrap ((j : Int) % (a : Int)) = (j : Int) % (a : Int) := IntWalk.i64_in _ (by omega)
    have w4 : IntKind.i64.wrap ((k : Int) + 1) = (k : Int) + 1 := IntWalk.i64_in _ (by omega)
    have tm : (j : Int).tmod (a : Int) = (j : Int) % (a : Int) := Int.tmod_eq_emod_of_nonneg (by omega)
    clear q1 q2 q3 q4 q5 q6 hl
    go_enter Try.func55, Try.ntmps55
    go_wp2
    have H0 := Lib.hid N.out.drew
    clear N
    refine wp_region_held_drew (S := fun W => KSt w p k j W) (by kernel_rfl) H0.out (fun _ => ?_)
    generalize World.drew _ = V0 at *
    refine wpAnyH_take (i := 0) (v := .agg p.arr) rfl (by kernel_rfl) (by kernel_rfl) (by kernel_rfl) (fun _ _ _ h => h) (yields_plan _ rfl (by rfl) rfl (fun W hW => hW.i.st.blk)) H0.out ?_
    try simp only [Act.put, List.getElem_toArray, List.getElem_cons_succ, List.getElem_cons_zero, List.setIfInBounds_toArray, List.set_cons_zero, List.set_cons_succ]
    refine wpAnyH_take (i := 1) (v := .agg #[.int .i64 (k : Nat), .int .i64 (j : Nat)]) rfl (by kernel_rfl) (by kernel_rfl) (by kernel_rfl) (fun _ _ _ h => h) (Or.inl ⟨by rfl, fun W hW => by have hc := And.intro hW.i.x0 hW.i.x1; clear hW; go_simp⟩) H0.out ?_
    try simp only [Act.put, List.getElem_toArray, List.getElem_cons_succ, List.getElem_cons_zero, List.setIfInBounds_toArray, List.set_cons_zero, List.set_cons_succ]
    refine wpAnyH_ready (rs := [2]) (by kernel_rfl) (by simp) ?_
    refine AllReadyH.cons rfl (fun K hK => ?_) AllReadyH.nil
    go_simp
    go_at_call 52
    refine (HI.out _).mono ?_
    rintro e V1_ ⟨rfl, hb1_⟩
    have H1_ := Lib.hid (H0.out.call hb1_)
    clear hb1_
    refine hK.out _ _ H1_.out (fun _ => ?_)
    clear hK K
    try simp only [Act.put, List.getElem_toArray, List.getElem_cons_succ, List.getElem_cons_zero, List.setIfInBounds_toArray, List.set_cons_zero, List.set_cons_succ]
    refine wpAnyH_take (i := 3) (v := .bool false) rfl (by kernel_rfl) (by kernel_rfl) (by kernel_rfl) (fun _ _ _ h => h) (Or.inl ⟨by rfl, fun W hW => by clear hW; go_simp⟩) H1_.out ?_
    try simp only [Act.put, List.getElem_toArray, List.getElem_cons_succ, List.getElem_cons_zero, List.setIfInBounds_toArray, List.set_cons_zero, List.set_cons_succ]
    refine wpAnyH_take (i := 4) (v := .bool false) rfl (by kernel_rfl) (by kernel_rfl) (by kernel_rfl) (fun _ _ _ h => h) (Or.inl ⟨by rfl, fun W hW => by clear hW; go_simp⟩) H1_.out ?_
    try simp only [Act.put, List.getElem_toArray, List.getElem_cons_succ, List.getElem_cons_zero, List.setIfInBounds_toArray, List.set_cons_zero, List.set_cons_succ]
    refine wpAnyH_take (i := 5) (v := .pointer (some ⟨w.heap.size + 1, 0, none⟩)) rfl (by kernel_rfl) (by kernel_rfl) (by kernel_rfl) (fun _ _ _ h => h) (Or.inl ⟨by rfl, fun W hW => by clear hW; go_simp⟩) H1_.out ?_
    try simp only [Act.put, List.getElem_toArray, List.getElem_cons_succ, List.getElem_cons_zero, List.setIfInBounds_toArray, List.set_cons_zero, List.set_cons_succ]
    refine wpAnyH_take (i := 6) (v := .int .i64 (k : Nat)) rfl (by kernel_rfl) (by kernel_rfl) (by kernel_rfl) (fun _ _ _ h => h) (Or.inl ⟨by rfl, fun W hW => by have hc := hW.i.x0; clear hW; go_simp⟩) H1_.out ?_
    try simp only [Act.put, List.getElem_toArray, List.getElem_cons_succ, List.getElem_cons_zero, List.setIfInBounds_toArray, List.set_cons_zero, List.set_cons_succ]
    refine wpAnyH_take (i := 7) (v := .agg p.arr) rfl (by kernel_rfl) (by kernel_rfl) (by kernel_rfl) (fun _ _ _ h => h) (yields_plan _ rfl (by rfl) rfl (fun W hW => hW.i.st.blk)) H1_.out ?_
    try simp only [Act.put, List.getElem_toArray, List.getElem_cons_succ, List.getElem_cons_zero, List.setIfInBounds_toArray, List.set_cons_zero, List.set_cons_succ]
    refine wpAnyH_ready (rs := [8]) (by kernel_rfl) (by simp) ?_
    refine AllReadyH.cons rfl (fun K hK => ?_) AllReadyH.nil
    go_simp
    go_at_call 64
    refine (LV.out _).mono ?_
    rintro e V2_ ⟨rfl, hb2_⟩
    have H2_ := Lib.hid (H1_.out.call hb2_)
    clear hb2_
    refine hK.out _ _ H2_.out (fun _ => ?_)
    clear hK K
    try simp only [Act.put, List.getElem_toArray, List.getElem_cons_succ, List.getElem_cons_zero, List.setIfInBounds_toArray, List.set_cons_zero, List.set_cons_succ]
    refine wpAnyH_take (i := 9) (v := .int .i64 ((L : Int) - 1)) rfl (by kernel_rfl) (by kernel_rfl) (by kernel_rfl) (fun _ _ _ h => h) (Or.inl ⟨by rfl, fun W hW => by clear hW; go_simp⟩) H2_.out ?_
    try simp only [Act.put, List.getElem_toArray, List.getElem_cons_succ, List.getElem_cons_zero, List.setIfInBounds_toArray, List.set_cons_zero, List.set_cons_succ]
    refine wpAnyH_take (i := 10) (v := .bool false) rfl (by kernel_rfl) (by kernel_rfl) (by kernel_rfl) (fun _ _ _ h => h) (Or.inl ⟨by rfl, fun W hW => by clear hW; go_simp⟩) H2_.out ?_
    try simp only [Act.put, List.getElem_toArray, List.getElem_cons_succ, List.getElem_cons_zero, List.setIfInBounds_toArray, List.set_cons_zero, List.set_cons_succ]
    refine wpAnyH_take (i := 11) (v := .bool false) rfl (by kernel_rfl) (by kernel_rfl) (by kernel_rfl) (fun _ _ _ h => h) (Or.inl ⟨by rfl, fun W hW => by clear hW; go_simp⟩) H2_.out ?_
    try simp only [Act.put, List.getElem_toArray, List.getElem_cons_succ, List.getElem_cons_zero, List.setIfInBounds_toArray, List.set_cons_zero, List.set_cons_succ]
    refine wpAnyH_done (by kernel_rfl) ?_ _
    go_wp2
    have G0 := Lib.hid H2_.out.drew
    refine wp_region_held_drew (S := fun W => KSt w p k j W) (by kernel_rfl) G0.out (fun _ => ?_)
    generalize World.drew V2_ = U0 at *
    refine wpAnyH_take (i := 0) (v := .pointer (some ⟨w.heap.size + 1, 0, none⟩)) rfl (by kernel_rfl) (by kernel_rfl) (by kernel_rfl) (fun _ _ _ h => h) (Or.inl ⟨by rfl, fun W hW => by clear hW; go_simp⟩) G0.out ?_
    try simp only [Act.put, List.getElem_toArray, List.getElem_cons_succ, List.getElem_cons_zero, List.setIfInBounds_toArray, List.set_cons_zero, List.set_cons_succ]
    refine wpAnyH_take (i := 1) (v := .int .i64 (k : Nat)) rfl (by kernel_rfl) (by kernel_rfl) (by kernel_rfl) (fun _ _ _ h => h) (Or.inl ⟨by rfl, fun W hW => by have hc := hW.i.x0; clear hW; go_simp⟩) G0.out ?_
    try simp only [Act.put, List.getElem_toArray, List.getElem_cons_succ, List.getElem_cons_zero, List.setIfInBounds_toArray, List.set_cons_zero, List.set_cons_succ]
    refine wpAnyH_take (i := 2) (v := .int .i64 ((k : Int) + 1)) rfl (by kernel_rfl) (by kernel_rfl) (by kernel_rfl) (fun _ _ _ h => h) (Or.inl ⟨by rfl, fun W hW => by clear hW; go_simp⟩) G0.out ?_
    try simp only [Act.put, List.getElem_toArray, List.getElem_cons_succ, List.getElem_cons_zero, List.setIfInBounds_toArray, List.set_cons_zero, List.set_cons_succ]
    refine wpAnyH_take (i := 3) (v := .pointer (some ⟨w.heap.size + 1, 1, none⟩)) rfl (by kernel_rfl) (by kernel_rfl) (by kernel_rfl) (fun _ _ _ h => h) (Or.inl ⟨by rfl, fun W hW => by clear hW; go_simp⟩) G0.out ?_
    try simp only [Act.put, List.getElem_toArray, List.getElem_cons_succ, List.getElem_cons_zero, List.setIfInBounds_toArray, List.set_cons_zero, List.set_cons_succ]
    refine wpAnyH_take (i := 4) (v := .int .i64 (j : Nat)) rfl (by kernel_rfl) (by kernel_rfl) (by kernel_rfl) (fun _ _ _ h => h) (Or.inl ⟨by rfl, fun W hW => by have hc := hW.i.x1; clear hW; go_simp⟩) G0.out ?_
    try simp only [Act.put, List.getElem_toArray, List.getElem_cons_succ, List.getElem_cons_zero, List.setIfInBounds_toArray, List.set_cons_zero, List.set_cons_succ]
    refine wpAnyH_take (i := 5) (v := .pointer (some ⟨w.heap.size, 4, none⟩)) rfl (by kernel_rfl) (by kernel_rfl) (by kernel_rfl) (fun _ _ _ h => h) (Or.inl ⟨by rfl, fun W hW => by clear hW; go_simp⟩) G0.out ?_
    try simp only [Act.put, List.getElem_toArray, List.getElem_cons_succ, List.getElem_cons_zero, List.setIfInBounds_toArray, List.set_cons_zero, List.set_cons_succ]
    refine wpAnyH_take (i := 6) (v := .int .i64 (a : Nat)) rfl (by kernel_rfl) (by kernel_rfl) (by kernel_rfl) (fun _ _ _ h => h) (Or.inl ⟨by rfl, fun W hW => by have hc := hW.i.st.blk.c4.trans (congrArg (fun z => some (Value.int .i64 z)) c4); clear hW; go_simp⟩) G0.out ?_
    try simp only [Act.put, List.getElem_toArray, List.getElem_cons_succ, List.getElem_cons_zero, List.setIfInBounds_toArray, List.set_cons_zero, List.set_cons_succ]
    refine wpAnyH_take (i := 7) (v := .int .i64 ((j : Int) / (a : Int))) rfl (by kernel_rfl) (by kernel_rfl) (by kernel_rfl) (fun _ _ _ h => h) (Or.inl ⟨by rfl, fun W hW => by clear hW; go_simp⟩) G0.out ?_
    try simp only [Act.put, List.getElem_toArray, List.getElem_cons_succ, List.getElem_cons_zero, List.setIfInBounds_toArray, List.set_cons_zero, List.set_cons_succ]
    refine wpAnyH_take (i := 8) (v := .agg #[.int .i64 ((k : Int) + 1), .int .i64 ((j : Int) / (a : Int))]) rfl (by kernel_rfl) (by kernel_rfl) (by kernel_rfl) (fun _ _ _ h => h) (Or.inl ⟨by rfl, fun W hW => by clear hW; go_simp⟩) G0.out ?_
    try simp only [Act.put, List.getElem_toArray, List.getElem_cons_succ, List.getElem_cons_zero, List.setIfInBounds_toArray, List.set_cons_zero, List.set_cons_succ]
    refine wpAnyH_take (i := 9) (v := .pointer (some ⟨w.heap.size + 1, 1, none⟩)) rfl (by kernel_rfl) (by kernel_rfl) (by kernel_rfl) (fun _ _ _ h => h) (Or.inl ⟨by rfl, fun W hW => by clear hW; go_simp⟩) G0.out ?_
    try simp only [Act.put, List.getElem_toArray, List.getElem_cons_succ, List.getElem_cons_zero, List.setIfInBounds_toArray, List.set_cons_zero, List.set_cons_succ]
    refine wpAnyH_take (i := 10) (v := .int .i64 (j : Nat)) rfl (by kernel_rfl) (by kernel_rfl) (by kernel_rfl) (fun _ _ _ h => h) (Or.inl ⟨by rfl, fun W hW => by have hc := hW.i.x1; clear hW; go_simp⟩) G0.out ?_
    try simp only [Act.put, List.getElem_toArray, List.getElem_cons_succ, List.getElem_cons_zero, List.setIfInBounds_toArray, List.set_cons_zero, List.set_cons_succ]
    refine wpAnyH_take (i := 11) (v := .pointer (some ⟨w.heap.size, 4, none⟩)) rfl (by kernel_rfl) (by kernel_rfl) (by kernel_rfl) (fun _ _ _ h => h) (Or.inl ⟨by rfl, fun W hW => by clear hW; go_simp⟩) G0.out ?_
    try simp only [Act.put, List.getElem_toArray, List.getElem_cons_succ, List.getElem_cons_zero, List.setIfInBounds_toArray, List.set_cons_zero, List.set_cons_succ]
    refine wpAnyH_take (i := 12) (v := .int .i64 (a : Nat)) rfl (by kernel_rfl) (by kernel_rfl) (by kernel_rfl) (fun _ _ _ h => h) (Or.inl ⟨by rfl, fun W hW => by have hc := hW.i.st.blk.c4.trans (congrArg (fun z => some (Value.int .i64 z)) c4); clear hW; go_simp⟩) G0.out ?_
    try simp only [Act.put, List.getElem_toArray, List.getElem_cons_succ, List.getElem_cons_zero, List.setIfInBounds_toArray, List.set_cons_zero, List.set_cons_succ]
    refine wpAnyH_take (i := 13) (v := .int .i64 ((j : Int) % (a : Int))) rfl (by kernel_rfl) (by kernel_rfl) (by kernel_rfl) (fun _ _ _ h => h) (Or.inl ⟨by rfl, fun W hW => by clear hW; go_simp⟩) G0.out ?_
    try simp only [Act.put, List.getElem_toArray, List.getElem_cons_succ, List.getElem_cons_zero, List.setIfInBounds_toArray, List.set_cons_zero, List.set_cons_succ]
    refine wpAnyH_ready (rs := [14]) (by kernel_rfl) (by simp) ?_
    refine AllReadyH.cons rfl (fun K hK => ?_) AllReadyH.nil
    rw [if_pos (by rfl)]
    refine wp_store_item (c := (k : Int) + 1) (d := (j : Int) / (a : Int)) G0.out _ _ rfl rfl rfl (fun X hX hXb => ?_)
    refine hK.out _ _ hX (fun _ => ?_)
    clear hK K
    try simp only [Act.put, List.getElem_toArray, List.getElem_cons_succ, List.getElem_cons_zero, List.setIfInBounds_toArray, List.set_cons_zero, List.set_cons_succ]
    refine wpAnyH_take (i := 15) (v := .int .i64 ((j : Int) % (a : Int))) rfl (by kernel_rfl) (by kernel_rfl) (by kernel_rfl) (fun _ _ _ h => h) (Or.inl ⟨by rfl, fun W hW => by clear hW; go_simp⟩) hX ?_
    try simp only [Act.put, List.getElem_toArray, List.getElem_cons_succ, List.getElem_cons_zero, List.setIfInBounds_toArray, List.set_cons_zero, List.set_cons_succ]
    refine wpAnyH_take (i := 16) (v := .bool true) rfl (by kernel_rfl) (by kernel_rfl) (by kernel_rfl) (fun _ _ _ h => h) (Or.inl ⟨by rfl, fun W hW => by clear hW; go_simp⟩) hX ?_
    try simp only [Act.put, List.getElem_toArray, List.getElem_cons_succ, List.getElem_cons_zero, List.setIfInBounds_toArray, List.set_cons_zero, List.set_cons_succ]
    refine wpAnyH_done (by kernel_rfl) ?_ _
    go_wp2
    exact bodyPost_ret (results_item Try.results55 _ _ (w.heap.size + 2) rfl _ _ hXb) rfl ⟨by rw [E0.out, E1.out, E2.out, E3.out]; rfl, hX.i.st.bel⟩
end Go.Proofs.Ytnogmfpaipjdaaa.P
