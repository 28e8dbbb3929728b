/- Parts of what is cached are stored. No statement is proved here. -/
import Derived.Test.YtnogmfpaipjdaaaDrop
namespace Go.Proofs.Ytnogmfpaipjdaaa
open Go.RowKit
open P (Pl right hasI vals)
set_option maxRecDepth 20000
set_option linter.unusedVariables false
set_option linter.unusedSimpArgs false

theorem Cd.set_bk (c : Cd) (v : Int) : c.arr.setIfInBounds 2 (.int .i64 v) = ({ c with bk := v } : Cd).arr := by
  unfold Cd.arr Cd.cs
  rw [List.setIfInBounds_toArray]
  rfl
theorem Cd.set_dt (c : Cd) (v : Bool) : c.arr.setIfInBounds 35 (.bool v) = ({ c with dt := v } : Cd).arr := by
  unfold Cd.arr Cd.cs
  rw [List.setIfInBounds_toArray, List.set_append_right _ _ (by simp), List.set_append_right _ _ (by simp [vals_length, c.hl])]
  simp [vals_length, c.hl]
theorem run_store_ln (W : World) (g : Nat) (c : Cd) (xs : List Nat) (hl : xs.length = 32) (hA : At W g 59 c.arr) :
    (storeVar 44 ⟨g, 3, none⟩ (.agg (lnA xs))).run Try.prog W = .ok () (W.setRow g ({ c with bs := xs, hl := hl } : Cd).arr) := by
  have h := run_storeCells_at (P := Try.prog) g 3 59 (vals xs) 0 c.arr W hA (by rw [c.arr_size, vals_length, hl]; omega) (vals_one xs)
  simp only [Nat.add_zero] at h
  have e : (c.arr.toList.take 3 ++ vals xs ++ c.arr.toList.drop (3 + (vals xs).length)).toArray = ({ c with bs := xs, hl := hl } : Cd).arr := by
    unfold Cd.arr Cd.cs
    congr 1
    rw [vals_length, hl, List.append_assoc]
    have h1 : ([Value.int .i64 c.it.l, .int .i64 c.it.x, .int .i64 c.bk] ++ (vals c.bs ++ [Value.bool c.dt])).take 3 = [Value.int .i64 c.it.l, .int .i64 c.it.x, .int .i64 c.bk] := rfl
    have h2 : ([Value.int .i64 c.it.l, .int .i64 c.it.x, .int .i64 c.bk] ++ (vals c.bs ++ [Value.bool c.dt])).drop 35 = [Value.bool c.dt] := by
      rw [List.drop_append, List.drop_eq_nil_of_le (by simp), List.nil_append]
      rw [List.drop_append, List.drop_eq_nil_of_le (by simp [vals_length, c.hl]), List.nil_append]
      simp [vals_length, c.hl]
    simp only [List.toList_toArray]
    rw [h1, h2]
  cases hq : Try.prog.info? 44 with
  | none => have := sz44; simp [hq] at this
  | some i =>
    have hs : i.size = 32 := by have := sz44; simpa [hq] using this
    have hc : (Value.agg (lnA xs)).cells.toList = vals xs := by simp [Value.cells, lnA]
    have hz : (Value.agg (lnA xs)).cells.size = 32 := by simp [Value.cells, lnA_size, hl]
    rw [← e]
    simp [storeVar, sizeOf, typeInfo, hq, hs, hc, hz, h]
section
variable {ops : Array Oper} {rest : List Oper} {o : Oper} {a : Act} {w W : World} {Q : Exit → Act → World → Prop} {L : Blks} {g b : Nat} {p : Pl} {cc : Cs}
theorem wpList_store_lnS (h : St w W L) (i : Nat) {q : Nat} (c : Cd) (hi : L[i]? = some (q, C 59 c.arr)) (xs : List Nat) (hl : xs.length = 32) (x y : Operand) (ho : o.op = .store 44 x y) (hw : Region.wanted o (yielded ops a.tmps) = true)
    (hx : a.eval x = .pointer (some ⟨q, 3, none⟩)) (hy : a.eval y = .agg (lnA xs))
    (k : ∀ W', St w W' (L.set i (q, C 59 ({ c with bs := xs, hl := hl } : Cd).arr)) → wpList Try.prog ops Q rest (a.put o.dst undef) W') : wpList Try.prog ops Q (o :: rest) a W := by
  have hA : At W q 59 c.arr := h.get i hi
  unfold wpList
  rw [if_pos hw]
  refine .inl ?_
  unfold Oper.wp execOp
  simp only [ho, hx, hy, Instr.storeAt, Instr.sureAddr, Sem.run_bind, Sem.run_pure, Result.andThen_ok, run_store_ln W q c xs hl hA]
  exact k _ (h.put i hi hA.putAll (grown_setRow W q _))
theorem wpList_store_lnW (h : WC w W g b p cc L) (i : Nat) {q : Nat} (c : Cd) (hi : L[i]? = some (q, C 59 c.arr)) (xs : List Nat) (hl : xs.length = 32) (x y : Operand) (ho : o.op = .store 44 x y) (hw : Region.wanted o (yielded ops a.tmps) = true)
    (hx : a.eval x = .pointer (some ⟨q, 3, none⟩)) (hy : a.eval y = .agg (lnA xs))
    (k : ∀ W', WC w W' g b p cc (L.set i (q, C 59 ({ c with bs := xs, hl := hl } : Cd).arr)) → wpList Try.prog ops Q rest (a.put o.dst undef) W') : wpList Try.prog ops Q (o :: rest) a W := by
  obtain ⟨Y, _, _, hst, up⟩ := h.lift
  refine wpList_store_lnS hst (Y.length + i) c (by rw [List.getElem?_append_right (by omega)]; simpa using hi) xs hl x y ho hw hx hy fun W' h' => k W' (up _ _ ?_)
  rw [List.set_append_right _ _ (by omega)] at h'
  simpa using h'
theorem wpList_store_dtS (h : St w W L) (i : Nat) {q : Nat} (c : Cd) (hi : L[i]? = some (q, C 59 c.arr)) (v : Bool) (x y : Operand) (ho : o.op = .store 4 x y) (hw : Region.wanted o (yielded ops a.tmps) = true)
    (hx : a.eval x = .pointer (some ⟨q, 35, none⟩)) (hy : a.eval y = .bool v)
    (k : ∀ W', St w W' (L.set i (q, C 59 ({ c with dt := v } : Cd).arr)) → wpList Try.prog ops Q rest (a.put o.dst undef) W') : wpList Try.prog ops Q (o :: rest) a W := by
  refine wpList_cell_st h i hi 4 x y ho hw 35 (.bool v) hx hy (by rw [c.arr_size]; omega) rfl rfl sz4 fun W' h' _ => k W' ?_
  rwa [c.set_dt] at h'
theorem wpList_store_bkS (h : St w W L) (i : Nat) {q : Nat} (c : Cd) (hi : L[i]? = some (q, C 59 c.arr)) (v : Int) (x y : Operand) (ho : o.op = .store 3 x y) (hw : Region.wanted o (yielded ops a.tmps) = true)
    (hx : a.eval x = .pointer (some ⟨q, 2, none⟩)) (hy : a.eval y = .int .i64 v)
    (k : ∀ W', St w W' (L.set i (q, C 59 ({ c with bk := v } : Cd).arr)) → wpList Try.prog ops Q rest (a.put o.dst undef) W') : wpList Try.prog ops Q (o :: rest) a W := by
  refine wpList_cell_st h i hi 3 x y ho hw 2 (.int .i64 v) hx hy (by rw [c.arr_size]; omega) rfl rfl sz3 fun W' h' _ => k W' ?_
  rwa [c.set_bk] at h'
theorem wpList_store_dtW (h : WC w W g b p cc L) (i : Nat) {q : Nat} (c : Cd) (hi : L[i]? = some (q, C 59 c.arr)) (v : Bool) (x y : Operand) (ho : o.op = .store 4 x y) (hw : Region.wanted o (yielded ops a.tmps) = true)
    (hx : a.eval x = .pointer (some ⟨q, 35, none⟩)) (hy : a.eval y = .bool v)
    (k : ∀ W', WC w W' g b p cc (L.set i (q, C 59 ({ c with dt := v } : Cd).arr)) → wpList Try.prog ops Q rest (a.put o.dst undef) W') : wpList Try.prog ops Q (o :: rest) a W := by
  refine wpList_cellW h i hi 4 x y ho hw 35 (.bool v) hx hy (by rw [c.arr_size]; omega) rfl rfl sz4 fun W' h' => k W' ?_
  rwa [c.set_dt] at h'
theorem wpList_store_bkW (h : WC w W g b p cc L) (i : Nat) {q : Nat} (c : Cd) (hi : L[i]? = some (q, C 59 c.arr)) (v : Int) (x y : Operand) (ho : o.op = .store 3 x y) (hw : Region.wanted o (yielded ops a.tmps) = true)
    (hx : a.eval x = .pointer (some ⟨q, 2, none⟩)) (hy : a.eval y = .int .i64 v)
    (k : ∀ W', WC w W' g b p cc (L.set i (q, C 59 ({ c with bk := v } : Cd).arr)) → wpList Try.prog ops Q rest (a.put o.dst undef) W') : wpList Try.prog ops Q (o :: rest) a W := by
  refine wpList_cellW h i hi 3 x y ho hw 2 (.int .i64 v) hx hy (by rw [c.arr_size]; omega) rfl rfl sz3 fun W' h' => k W' ?_
  rwa [c.set_bk] at h'
end
end Go.Proofs.Ytnogmfpaipjdaaa
