/- A cache beside a map of numbers: the map's operations in a walk. No statement is proved here. -/
import Derived.Test.YtmlepikgiicaiaaOrdPlain
namespace Go.Proofs.Ytmlepikgiicaiaa
open Go.RowKit Go.MapKept Go.ChangeMaps
set_option linter.unusedVariables false
set_option linter.unusedSimpArgs false

section
variable {w W : World} {g b n bm : Nat} {c : Cs} {L : Blks} {mo : Obj} {l : Prs} {k : Int} {ops : Array Oper} {rest : List Oper} {o : Oper} {a : Act} {Q : Exit → Act → World → Prop}
theorem WC.setO {o o' : Obj} (h : WC w W g b n c ((bm, o) :: L)) : WC w (setBlock W bm o') g b n c ((bm, o') :: L) := by
  obtain ⟨Y, _, _, hs, up⟩ := h.lift
  have hs' := hs.perm (List.perm_middle)
  have hb := heap_lt (hs'.get 0 rfl)
  have := hs'.putO (W' := setBlock W bm o') 0 rfl (o' := o') (by simp [setBlock, hb]) ⟨rfl, rfl, rfl, by simp [setBlock], fun k _ hk => by simp only [setBlock]; rw [Array.getElem?_setIfInBounds_ne (fun e => hk (by rw [e]))]⟩
  exact up _ _ (this.perm (List.perm_middle).symm)
theorem run_makeM (W : World) : (Instr.makeMap 50 none).run Try.prog W = .ok (.map (some W.heap.size)) (W.alloc (.map #[] 0)) := by kernel_rfl
theorem wpList_makeM (h : WC w W g b n c L) (ho : o.op = .makeMap 50 none) (hw : Region.wanted o (yielded ops a.tmps) = true)
    (kk : ∀ W' mo, IM mo [] → WC w W' g b n c ((W.heap.size, mo) :: L) → wpList Try.prog ops Q rest (a.put o.dst (.map (some W.heap.size))) W') : wpList Try.prog ops Q (o :: rest) a W := by
  unfold wpList
  rw [if_pos hw]
  refine .inl ?_
  unfold Oper.wp execOp
  simp only [ho, Sem.run_bind, Option.map_none, run_makeM W, Result.andThen_ok]
  exact kk _ _ IM.made (h.push _)
theorem wpList_look (h : WC w W g b n c ((bm, mo) :: L)) (hm : IM mo l) (hk : (Lit.int .i64 k).wf = true) (x y : Operand) (ho : o.op = .lookup 50 x y false) (hw : Region.wanted o (yielded ops a.tmps) = true)
    (hx : a.eval x = .map (some bm)) (hy : a.eval y = .int .i64 k) (v : Int) (hv : (at_ l k).getD 0 = v)
    (kk : wpList Try.prog ops Q rest (a.put o.dst (.int .i64 v)) W) : wpList Try.prog ops Q (o :: rest) a W := by
  subst hv
  have hrun := hm.look (W := W) (b := bm) (h.st.get 0 rfl) hk
  unfold wpList
  rw [if_pos hw]
  refine .inl ?_
  unfold Oper.wp execOp
  simp only [ho, Sem.run_bind, hx, hy, hrun, Result.andThen_ok]
  exact kk
theorem wpList_update (h : WC w W g b n c ((bm, mo) :: L)) (hm : IM mo l) (hk : (Lit.int .i64 k).wf = true) (x y z : Operand) (v : Int) (ho : o.op = .mapUpdate 50 x y z) (hw : Region.wanted o (yielded ops a.tmps) = true)
    (hx : a.eval x = .map (some bm)) (hy : a.eval y = .int .i64 k) (hz : a.eval z = .int .i64 v)
    (kk : ∀ W' mo' l', IM mo' l' → (∀ j, at_ l' j = if j = k then some v else at_ l j) → l'.length ≤ l.length + 1 → WC w W' g b n c ((bm, mo') :: L) → wpList Try.prog ops Q rest (a.put o.dst undef) W') : wpList Try.prog ops Q (o :: rest) a W := by
  obtain ⟨mo', l', hrun, h1, h2, h3⟩ := hm.update (W := W) (b := bm) (h.st.get 0 rfl) hk v
  unfold wpList
  rw [if_pos hw]
  refine .inl ?_
  unfold Oper.wp execOp
  simp only [ho, Sem.run_bind, hx, hy, hz, hrun, Result.andThen_ok]
  exact kk _ _ _ h1 h2 h3 h.setO
theorem wpList_delete (h : WC w W g b n c ((bm, mo) :: L)) (hm : IM mo l) (hk : (Lit.int .i64 k).wf = true) (x y : Operand) (ho : o.op = .call { callee := .builtin .delete, args := #[x, y], argTypes := #[50, 3] }) (hw : Region.wanted o (yielded ops a.tmps) = true)
    (hx : a.eval x = .map (some bm)) (hy : a.eval y = .int .i64 k)
    (kk : ∀ W' mo' l', IM mo' l' → (∀ j, at_ l' j = if j = k then none else at_ l j) → l'.length ≤ l.length + 1 → WC w W' g b n c ((bm, mo') :: L) → wpList Try.prog ops Q rest (a.put o.dst (.tuple #[])) W') : wpList Try.prog ops Q (o :: rest) a W := by
  obtain ⟨mo', l', hrun, h1, h2, h3⟩ := hm.delete (W := W) (b := bm) (h.st.get 0 rfl) hk o.type
  unfold wpList
  rw [if_pos hw]
  refine .inl ?_
  unfold Oper.wp execOp
  simp only [ho, resolve, invoke, builtin, Sem.run_bind, Sem.run_pure, Result.andThen_ok, List.map_toArray, List.map_cons, List.map_nil, hx, hy, hrun]
  exact kk _ _ _ h1 h2 h3 h.setO
theorem wpList_lenM (hb : W.heap[bm]? = some mo) (hm : IM mo l) (x : Operand) (ho : o.op = .call { callee := .builtin .len, args := #[x], argTypes := #[50] }) (hw : Region.wanted o (yielded ops a.tmps) = true)
    (hx : a.eval x = .map (some bm)) (kk : wpList Try.prog ops Q rest (a.put o.dst (.int .i64 (l.length : Nat))) W) : wpList Try.prog ops Q (o :: rest) a W := by
  have hrun := hm.len (W := W) (b := bm) hb o.type
  unfold wpList
  rw [if_pos hw]
  refine .inl ?_
  unfold Oper.wp execOp
  simp only [ho, resolve, invoke, builtin, Sem.run_bind, Sem.run_pure, Result.andThen_ok, List.map_toArray, List.map_cons, List.map_nil, hx, hrun]
  exact kk
end
theorem wf_nn {k : Int} (h : 0 ≤ k) (h2 : k ≤ 9223372036854775807) : (Lit.int .i64 k).wf = true := by
  simp [Lit.wf, IntKind.min, IntKind.max, IntKind.bits, IntKind.signed]; omega
theorem IM.wf {mo : Obj} {l : Prs} {k t : Int} (h : IM mo l) (ht : at_ l k = some t) : (Lit.int .i64 k).wf = true := by
  obtain ⟨_, _, _, _, _, hw⟩ := h
  unfold at_ at ht
  cases hf : List.find? (fun p => p.1 == k) l with
  | none => rw [hf] at ht; cases ht
  | some p =>
    have h1 := List.mem_of_find?_eq_some hf
    have h2 := List.find?_some hf
    simp only [beq_iff_eq] at h2
    rw [← h2]
    exact hw p h1
end Go.Proofs.Ytmlepikgiicaiaa
