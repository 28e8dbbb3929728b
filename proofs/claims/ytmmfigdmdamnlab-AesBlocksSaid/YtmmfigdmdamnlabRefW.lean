/- Rows of words: slices of slices that a call has made. No statement is proved here. -/
import Derived.Test.YtmmfigdmdamnlabRefBox
import Derived.ArgAppend
namespace Go.Proofs.Ytmmfigdmdamnlab
open Go.RowKit
set_option linter.unusedVariables false

/-- A row of k words, word j being ws j, in memory of the call's own. -/
structure WIn (V : World) (base : Nat) (A : Option Addr) (k c : Nat) (ws : Nat → List Nat) (vs : List Value) : Prop where
  top : V.ownsRow base 29 1 (.slice A k c) k vs
  rows : ∀ j, j < k → ∃ g, vs[j]? = some (.slice (some ⟨g, 0, none⟩) 4 4) ∧ base ≤ g ∧ Blk V g 5 (ws j)
section
variable {V V2 : World} {base k c : Nat} {A : Option Addr} {ws : Nat → List Nat} {vs : List Value}
theorem WIn.kept (h : WIn V base A k c ws vs) {row : Option Nat} (hg : V.grownBy V2 row) (hne : ∀ g, row = some g → (Value.slice A k c).ownBlock ≠ some g ∧ ∀ j, j < k → ∀ g', vs[j]? = some (.slice (some ⟨g', 0, none⟩) 4 4) → g' ≠ g) : WIn V2 base A k c ws vs := by
  refine ⟨h.top.kept hg ?_, fun j hj => ?_⟩
  · cases row with
    | none => cases (Value.slice A k c).ownBlock <;> simp
    | some g => exact .inr (hne g rfl).1
  · obtain ⟨g, e, hb, hB⟩ := h.rows j hj
    refine ⟨g, e, hb, (hg.block g hB.lt ?_).trans hB⟩
    intro e2
    cases row with
    | none => cases e2
    | some g2 =>
      injection e2 with e2
      exact (hne g2 rfl).2 j hj g e e2
theorem WIn.alloc (h : WIn V base A k c ws vs) (o : Obj) : WIn (V.alloc o) base A k c ws vs := h.kept (World.grownBy_alloc V o none) (fun g hg => by cases hg)
theorem WIn.drewN (h : WIn V base A k c ws vs) (n : Nat) : WIn (V.drewN n) base A k c ws vs := ⟨h.top, h.rows⟩
theorem WIn.below (h : WIn V base A k c ws vs) (hb : Below V.heap.size V V2) : WIn V2 base A k c ws vs := h.kept (row := none) ⟨hb.os, hb.tape, hb.output, hb.size, fun i hi _ => hb.block i hi⟩ (fun g hg => by cases hg)
theorem WIn.head (h : WIn V base A k c ws vs) (hk : 0 < k) : ∃ g, A = some ⟨g, 0, none⟩ := by
  rcases h.top.2 with ⟨_, h0⟩ | ⟨g, cap, cur, hv, _⟩
  · omega
  · injection hv with e; exact ⟨g, e⟩
/-- Word j, in block g. -/
theorem WIn.word {gt : Nat} (h : WIn V base (some ⟨gt, 0, none⟩) k c ws vs) (j : Nat) (hj : j < k) : ∃ g, V.cell? ⟨gt, j, none⟩ = some (.slice (some ⟨g, 0, none⟩) 4 4) ∧ base ≤ g ∧ Blk V g 5 (ws j) := by
  obtain ⟨g, e, hb, hB⟩ := h.rows j hj
  exact ⟨g, (h.top.cellAt j (by omega)).trans e, hb, hB⟩
theorem WIn.len (h : WIn V base A k c ws vs) : vs.length = k := by have := h.top.1; omega
end
theorem info29 : (Try.prog.info? 29).map (fun i => (i.zero, i.size, i.bytes)) = some (some (.slice none 0 0), 1, 24) := by kernel_rfl
theorem step_append_word {ops : Array Oper} {o : Oper} {a : Act} {K : Act → World → Prop} {Q : Exit → Act → World → Prop} {E : Prop} (w : World) (hgd : o.guard = none) (s x : Operand)
    (ho : o.op = .call { callee := .builtin .append, args := #[s, x], argTypes := #[28, 28] })
    (base gt k c : Nat) (ws : Nat → List Nat) (vs : List Value) (hs : a.eval s = .slice (some ⟨gt, 0, none⟩) k c) (hown : WIn w base (some ⟨gt, 0, none⟩) k c ws vs)
    (gs g : Nat) (hx : a.eval x = .slice (some ⟨gs, 0, none⟩) 1 1) (hr : w.cell? ⟨gs, 0, none⟩ = some (.slice (some ⟨g, 0, none⟩) 4 4)) (hB : Blk w g 5 (ws k)) (hbg : base ≤ g)
    (hlen : k ≤ 1000) (hbase : base ≤ w.heap.size)
    (h : ∀ gt' c' w' vs', WIn w' base (some ⟨gt', 0, none⟩) (k + 1) c' ws vs' → w.grownBy w' (some gt) → (∀ g' t xs', t ≠ 29 → Blk w g' t xs' → Blk w' g' t xs') → (∀ j, j < k → w'.cell? ⟨gt, j, none⟩ = w.cell? ⟨gt, j, none⟩) → K (a.put o.dst (.slice (some ⟨gt', 0, none⟩) (k + 1) c')) w') :
    if Region.wanted o (yielded ops a.tmps) = true then Oper.wp Try.prog o a w K Q else E := by
  have hw : Region.wanted o (yielded ops a.tmps) = true := by simp [Region.wanted, hgd]
  rw [if_pos hw]
  obtain ⟨i0, hi, hz0, hz1, hz2⟩ := info_parts info29
  have hnews : ∀ j u, [Value.slice (some ⟨g, 0, none⟩) 4 4][j]? = some u → w.cell? ((⟨gs, 0, none⟩ : Addr).add j) = some u := by
    intro j u hu
    match j, hu with
    | 0, hu => injection hu with hu; subst hu; rw [Addr.add_lit]; exact hr
    | n + 1, hu => cases hu
  have h1 : ∀ u ∈ [Value.slice (some ⟨g, 0, none⟩) 4 4], u.oneCell' = true := by
    intro u hu
    simp only [List.mem_singleton] at hu
    subst hu
    rfl
  obtain ⟨v', w', hrun, ho', hg, _, hbl⟩ := run_append_own_at (P := Try.prog) w base 28 o.type 29 i0 (.slice none 0 0) 1 24 Try.underlying28 hi hz0 hz1 hz2 rfl (by decide) (.slice (some ⟨gt, 0, none⟩) k c) k vs hown.top ⟨gs, 0, none⟩ 1 1 [.slice (some ⟨g, 0, none⟩) 4 4] rfl hnews h1 (by unfold maxLen; omega) (by omega) hbase
  have htop := hown.top.2
  have hold : ∀ j, j < k → w'.cell? ⟨gt, j, none⟩ = w.cell? ⟨gt, j, none⟩ := by
    intro j hj
    have hjc := hown.top.cellAt j (by omega)
    rcases htop with ⟨hv, _⟩ | ⟨g2, cap, cur, hv, _, hg2, hnc, hcm, hcs, _⟩
    · cases hv
    · injection hv with e1 e2 e3
      injection e1 with e1
      injection e1 with e1
      subst e1
      subst e3
      by_cases hroom : k + 1 ≤ c
      · have hcell : ∀ q, q < c → (w.cell? ⟨gt, q, none⟩).isSome = true := fun q hq => by
          rw [cell_of_row w gt q cur 29 (0, 0) hg2]; simp [hcs]; omega
        have hfz := hown.top.frozenAt
        have hr2 := run_append_room_cells (P := Try.prog) w 28 o.type 29 i0 Try.underlying28 hi gt 0 k c ⟨gs, 0, none⟩ 1 1 [.slice (some ⟨g, 0, none⟩) 4 4] (by rw [hz1]; rfl) hnews h1 hroom
          (fun q hq => by simp only [List.length_singleton] at hq; rw [hz1]; exact hcell _ (by omega)) (fun q hq => hfz _)
        rw [hrun] at hr2
        injection hr2 with _ e5
        rw [e5]
        exact World.cell?_setCells_out gt _ _ w ⟨gt, j, none⟩ (fun _ _ => .inl (show j < 0 + k * i0.size by rw [hz1]; omega))
      · obtain ⟨v2, w2, hr2, _, hg3⟩ := run_append_arg_grows (P := Try.prog) w 28 o.type 29 i0 (.slice none 0 0) 1 24 Try.underlying28 hi hz0 hz1 hz2 rfl (by decide) ⟨gt, 0, none⟩ k c vs (by rw [hown.len]; omega) (fun q u hu => by
            rw [Addr.add_lit, Nat.zero_add, hown.top.cellAt q (by have := hown.len; obtain ⟨hq, _⟩ := List.getElem?_eq_some_iff.1 hu; omega)]; exact hu) ⟨gs, 0, none⟩ 1 1 [.slice (some ⟨g, 0, none⟩) 4 4] rfl hnews (by omega) (by unfold maxLen; omega) (by omega)
        rw [hrun] at hr2
        injection hr2 with _ e5
        rw [e5]
        exact World.cell?_of_block (hg3.block gt (by
          rcases Nat.lt_or_ge gt w.heap.size with hl | hl
          · exact hl
          · rw [Array.getElem?_eq_none hl] at hg2; cases hg2) (by simp))
  unfold Oper.wp execOp
  simp only [ho, resolve, invoke, builtin, Sem.run_bind, Sem.run_pure, Result.andThen_ok, List.map_toArray, List.map_cons, List.map_nil, hs, hx, hrun]
  have hv : ∃ gt' c', v' = .slice (some ⟨gt', 0, none⟩) (k + 1) c' := by
    rcases ho'.2 with ⟨_, h0⟩ | ⟨g', cap, cur, hv, _⟩
    · omega
    · exact ⟨g', cap, hv⟩
  obtain ⟨gt', c', rfl⟩ := hv
  have diff : ∀ g' t xs', t ≠ 29 → Blk w g' t xs' → gt ≠ g' := by
    intro g' t xs' ht hB' e
    subst e
    rcases htop with ⟨hv, _⟩ | ⟨g2, cap, cur, hv, _, hg2, _⟩
    · cases hv
    · injection hv with e1
      injection e1 with e1
      injection e1 with e1
      subst e1
      unfold Blk at hB'
      rw [hg2] at hB'
      simp at hB'
      exact ht hB'.2.symm
  have keep : ∀ g' t xs', t ≠ 29 → Blk w g' t xs' → Blk w' g' t xs' := fun g' t xs' ht hB' => (hg.block g' hB'.lt (fun e => diff g' t xs' ht hB' (by injection e with e; exact e.symm))).trans hB'
  refine h gt' c' w' (vs ++ [.slice (some ⟨g, 0, none⟩) 4 4]) ⟨ho', fun j hj => ?_⟩ hg keep hold
  by_cases hjk : j < k
  · obtain ⟨gj, e, hb, hBj⟩ := hown.rows j hjk
    exact ⟨gj, by rw [List.getElem?_append_left (by rw [hown.len]; exact hjk)]; exact e, hb, keep _ 5 _ (by decide) hBj⟩
  · have hj' : j = k := by omega
    subst hj'
    exact ⟨g, by rw [List.getElem?_append_right (by rw [hown.len]; omega), hown.len]; simp, hbg, keep _ 5 _ (by decide) hB⟩
theorem word_new (V : World) (x0 x1 x2 x3 : Nat) (o : Obj) : Blk ((V.alloc (.cells #[.int .u8 (x0 : Int), .int .u8 (x1 : Int), .int .u8 (x2 : Int), .int .u8 (x3 : Int)] 5)).alloc o) V.heap.size 5 [x0, x1, x2, x3] := (Blk.new V 5 [x0, x1, x2, x3]).alloc o
theorem cell_new (V : World) (o : Obj) (v : Value) (t : TypeId) : ((V.alloc o).alloc (.cells #[v] t)).cell? ⟨V.heap.size + 1, 0, none⟩ = some v := by
  have h := heap_alloc_new (V.alloc o) (.cells #[v] t)
  rw [show (V.alloc o).heap.size = V.heap.size + 1 by simp] at h
  rw [cell_of_row _ _ 0 _ _ _ h]; rfl
end Go.Proofs.Ytmmfigdmdamnlab
