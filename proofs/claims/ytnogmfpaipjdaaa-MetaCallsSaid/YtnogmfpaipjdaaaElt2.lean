/- Slices of one element, and of none, as they are written out; rows by St. No statement is proved here. -/
import Derived.Test.YtnogmfpaipjdaaaElt
import Derived.Great.BuildSlice
namespace Go.Proofs.Ytnogmfpaipjdaaa
open Go.RowKit
set_option linter.unusedVariables false
set_option linter.unusedSimpArgs false

theorem fold_fill (l : List Value) : ∀ (k : Nat) (base : Array Value), k + l.length = base.size →
    ((l.zipIdx k).foldl (fun cs (x : Value × Nat) => cs.setIfInBounds (0 + x.2) x.1) base) = (base.toList.take k ++ l).toArray := by
  induction l with
  | nil => intro k base h; simp only [List.length_nil, Nat.add_zero] at h; subst h; rw [List.append_nil, show base.size = base.toList.length from (Array.length_toList).symm, List.take_length]; simp
  | cons c l ih =>
    intro k base h
    simp only [List.length_cons] at h
    rw [List.zipIdx_cons, List.foldl_cons, ih (k + 1) _ (by simp; omega)]
    apply Array.ext'
    simp only [Nat.zero_add, Array.toList_setIfInBounds]
    rw [List.take_add_one, List.take_set_of_le (Nat.le_refl _), List.getElem?_set_self (by simp; omega)]
    simp
theorem fill_one (base cs : Array Value) (v : Value) (hv : v.cells = cs) (hb : base.size = cs.size) (n : Nat) (hn : cs.size = n) : Instr.fill (fun i => some (i * n, n)) base [(0, v)] = some cs := by
  subst hn
  have h1 : ¬ ((v.cells.size ≠ cs.size || 0 * cs.size + v.cells.size > base.size) = true) := by simp [hv, hb]
  have h2 := fold_fill cs.toList 0 base (by simp [hb])
  unfold Instr.fill
  simp only [hv, Nat.zero_mul] at h1 ⊢
  rw [if_neg h1]
  unfold Instr.fill
  rw [← Array.foldl_toList, Array.toList_zipIdx]
  rw [h2]
  simp
variable {α : Type} [E : Elt α]
theorem run_build1 (v : Value) (m : α) (hv : v.cells = (E.cs m).toArray) (W : World) : (Instr.buildSlice E.sl 1 #[(0, v)]).run Try.prog W = .ok (.slice (some ⟨W.heap.size, 0, none⟩) 1 1) (W.alloc (.cells (E.cs m).toArray E.ty)) := by
  obtain ⟨i, hi, hz, h1, h2⟩ := E.inf
  have hp := E.pos
  have hf := E.few
  have hl := E.len m
  have hlow := E.low
  have hs : ¬ 1 * i.size > 2 ^ 24 := by omega
  · refine run_buildSlice (P := Try.prog) W E.sl E.ty 1 _ _ i E.zv E.und hi hz hs (by omega) ?_
    exact fill_one _ _ _ hv (by simp [hl, h1]) i.size (by simp [hl, h1])
theorem St.swap {w W : World} {X M L : Blks} (h : St w W (X ++ (M ++ L))) : St w W (M ++ (X ++ L)) := h.perm (List.perm_append_comm_assoc X M L)
section
variable {ops : Array Oper} {rest : List Oper} {o : Oper} {a : Act} {w W : World} {K : Act → World → Prop} {Q : Exit → Act → World → Prop} {L : Blks}
theorem new_row {w W' : World} {L : Blks} {b : Nat} {m : α} (h : St w W' ((b, C E.ty (E.cs m).toArray) :: L)) : ERow W' W'.heap.size (some ⟨b, 0, none⟩) 1 1 [m] := by
  have hA : At W' b E.ty (E.cs m).toArray := h.get 0 rfl
  refine ⟨rfl, Nat.le_refl _, by unfold maxLen; omega, (fun h => by cases h), fun a ha _ => ?_⟩
  injection ha with ha
  subst ha
  refine ⟨rfl, hA.lt, fun j u hj i v hi => ?_⟩
  cases j with
  | zero =>
    simp only [List.getElem?_cons_zero, Option.some.injEq] at hj
    subst hj
    rw [hA.cell]
    simpa using hi
  | succ j => simp at hj
theorem wp_build1_st (h : St w W L) (x : Operand) (m : α) (ho : o.op = .buildSlice E.sl 1 #[(0, x)]) (hx : (a.eval x).cells = (E.cs m).toArray)
    (k : ∀ W', St w W' ((W.heap.size, C E.ty (E.cs m).toArray) :: L) → K (a.put o.dst (.slice (some ⟨W.heap.size, 0, none⟩) 1 1)) W') : o.wp Try.prog a W K Q := by
  have hrun := run_build1 (a.eval x) m hx W
  unfold Oper.wp execOp
  simp only [ho, Sem.run_bind, List.map_toArray, List.map_cons, List.map_nil, hrun, Result.andThen_ok]
  exact k _ (h.push E.ty _).front
theorem wpList_build1_st (h : St w W L) (x : Operand) (m : α) (ho : o.op = .buildSlice E.sl 1 #[(0, x)]) (hw : Region.wanted o (yielded ops a.tmps) = true) (hx : (a.eval x).cells = (E.cs m).toArray)
    (k : ∀ W', St w W' ((W.heap.size, C E.ty (E.cs m).toArray) :: L) → wpList Try.prog ops Q rest (a.put o.dst (.slice (some ⟨W.heap.size, 0, none⟩) 1 1)) W') : wpList Try.prog ops Q (o :: rest) a W := by
  unfold wpList
  rw [if_pos hw]
  exact .inl (wp_build1_st h x m ho hx k)
set_option maxRecDepth 20000 in
theorem run_build0 (W : World) : (Instr.buildSlice E.sl 0 #[]).run Try.prog W = .ok (.slice (some ⟨W.heap.size, 0, none⟩) 0 0) (W.alloc (.cells #[] E.ty)) := by
  obtain ⟨i, hi, hz, h1, h2⟩ := E.inf
  simp [Instr.buildSlice, run_underlying E.und, sizeOf, typeInfo, hi, Instr.fill, newRow]
  congr 2
  apply Array.eq_empty_of_size_eq_zero
  simp
theorem wpList_build0_st (h : St w W L) (ho : o.op = .buildSlice E.sl 0 #[]) (hw : Region.wanted o (yielded ops a.tmps) = true)
    (k : ∀ W' v M, v = .slice (some ⟨W.heap.size, 0, none⟩) 0 0 → RL v ([] : List α) M → St w W' (M ++ L) → Below W.heap.size W W' → wpList Try.prog ops Q rest (a.put o.dst v) W') : wpList Try.prog ops Q (o :: rest) a W := by
  unfold wpList
  rw [if_pos hw]
  refine .inl ?_
  have hrun := run_build0 (α := α) W
  unfold Oper.wp execOp
  simp only [ho, Sem.run_bind, List.map_toArray, List.map_nil, hrun, Result.andThen_ok]
  refine k _ _ [(W.heap.size, C E.ty #[])] rfl (.inr ⟨W.heap.size, 0, #[], rfl, rfl, Nat.le_refl _, by unfold maxLen; omega, by simp, by simp [ecells]⟩) (h.push E.ty _).front ((Below.refl _ _).alloc (Nat.le_refl _) _)
end
end Go.Proofs.Ytnogmfpaipjdaaa
