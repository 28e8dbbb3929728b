/- Allocations and stores of items, of what is cached, of lines: in a world with known blocks, and beside the caches. No statement is proved here. -/
import Derived.Test.YtnogmfpaipjdaaaMeth1
namespace Go.Proofs.Ytnogmfpaipjdaaa
open Go.RowKit
open P (Pl right hasI vals)
set_option maxRecDepth 20000
set_option linter.unusedVariables false
set_option linter.unusedSimpArgs false

theorem cell_lt {W : World} {b o : Nat} {v : Value} (h : W.cell? ⟨b, o, none⟩ = some v) : b < W.heap.size := by
  rcases Nat.lt_or_ge b W.heap.size with h1 | h1
  · exact h1
  · simp [World.cell?, Array.getElem?_eq_none h1] at h
theorem zcd_lit : zcd.arr = #[.int .i64 0, .int .i64 0, .int .i64 0, .int .u8 0, .int .u8 0, .int .u8 0, .int .u8 0, .int .u8 0, .int .u8 0, .int .u8 0, .int .u8 0, .int .u8 0, .int .u8 0, .int .u8 0, .int .u8 0, .int .u8 0, .int .u8 0, .int .u8 0, .int .u8 0, .int .u8 0, .int .u8 0, .int .u8 0, .int .u8 0, .int .u8 0, .int .u8 0, .int .u8 0, .int .u8 0, .int .u8 0, .int .u8 0, .int .u8 0, .int .u8 0, .int .u8 0, .int .u8 0, .int .u8 0, .int .u8 0, .bool false] := by unfold Cd.arr Cd.cs; rfl
theorem zln_lit : lnA z32 = #[.int .u8 0, .int .u8 0, .int .u8 0, .int .u8 0, .int .u8 0, .int .u8 0, .int .u8 0, .int .u8 0, .int .u8 0, .int .u8 0, .int .u8 0, .int .u8 0, .int .u8 0, .int .u8 0, .int .u8 0, .int .u8 0, .int .u8 0, .int .u8 0, .int .u8 0, .int .u8 0, .int .u8 0, .int .u8 0, .int .u8 0, .int .u8 0, .int .u8 0, .int .u8 0, .int .u8 0, .int .u8 0, .int .u8 0, .int .u8 0, .int .u8 0, .int .u8 0] := by unfold lnA; rfl
theorem zit_lit : zit.arr = #[.int .i64 0, .int .i64 0] := rfl
section
variable {ops : Array Oper} {rest : List Oper} {o : Oper} {a : Act} {w W : World} {Q : Exit → Act → World → Prop} {L : Blks}
theorem wpList_alloc_cd (h : St w W L) (ho : o.op = .alloc 59) (hw : Region.wanted o (yielded ops a.tmps) = true)
    (k : ∀ W', St w W' ((W.heap.size, C 59 zcd.arr) :: L) → Below W.heap.size W W' → wpList Try.prog ops Q rest (a.put o.dst (.pointer (some ⟨W.heap.size, 0, none⟩))) W') : wpList Try.prog ops Q (o :: rest) a W :=
  wpList_alloc_st h 59 ho hw _ zcd.arr zero59 rfl fun W' h' _ hb => k W' h'.front hb
theorem wpList_alloc_it (h : St w W L) (ho : o.op = .alloc 42) (hw : Region.wanted o (yielded ops a.tmps) = true)
    (k : ∀ W', St w W' ((W.heap.size, C 42 zit.arr) :: L) → Below W.heap.size W W' → wpList Try.prog ops Q rest (a.put o.dst (.pointer (some ⟨W.heap.size, 0, none⟩))) W') : wpList Try.prog ops Q (o :: rest) a W :=
  wpList_alloc_st h 42 ho hw _ zit.arr zero42 rfl fun W' h' _ hb => k W' h'.front hb
theorem wpList_box_it (h : St w W L) (x : It) (y : Operand) (ho : o.op = .box 42 y) (hw : Region.wanted o (yielded ops a.tmps) = true) (hx : a.eval y = .agg x.arr)
    (k : ∀ W', St w W' ((W.heap.size, C 42 x.arr) :: L) → Below W.heap.size W W' → wpList Try.prog ops Q rest (a.put o.dst (.pointer (some ⟨W.heap.size, 0, none⟩))) W') : wpList Try.prog ops Q (o :: rest) a W :=
  wpList_box_st h 42 y ho hw x.arr (by rw [hx]; rfl) fun W' h' _ hb => k W' h'.front hb
theorem wpList_box_cd (h : St w W L) (x : Cd) (y : Operand) (ho : o.op = .box 59 y) (hw : Region.wanted o (yielded ops a.tmps) = true) (hx : a.eval y = .agg x.arr)
    (k : ∀ W', St w W' ((W.heap.size, C 59 x.arr) :: L) → Below W.heap.size W W' → wpList Try.prog ops Q rest (a.put o.dst (.pointer (some ⟨W.heap.size, 0, none⟩))) W') : wpList Try.prog ops Q (o :: rest) a W :=
  wpList_box_st h 59 y ho hw x.arr (by rw [hx]; rfl) fun W' h' _ hb => k W' h'.front hb
theorem wpList_box_ln (h : St w W L) (xs : List Nat) (y : Operand) (ho : o.op = .box 44 y) (hw : Region.wanted o (yielded ops a.tmps) = true) (hx : a.eval y = .agg (lnA xs))
    (k : ∀ W', St w W' ((W.heap.size, C 44 (lnA xs)) :: L) → Below W.heap.size W W' → wpList Try.prog ops Q rest (a.put o.dst (.pointer (some ⟨W.heap.size, 0, none⟩))) W') : wpList Try.prog ops Q (o :: rest) a W :=
  wpList_box_st h 44 y ho hw (lnA xs) (by rw [hx]; rfl) fun W' h' _ hb => k W' h'.front hb
theorem wpList_store_cd (h : St w W L) (i : Nat) {g : Nat} {d : Cd} (c : Cd) (hi : L[i]? = some (g, C 59 d.arr)) (x y : Operand) (ho : o.op = .store 59 x y) (hw : Region.wanted o (yielded ops a.tmps) = true)
    (hx : a.eval x = .pointer (some ⟨g, 0, none⟩)) (hy : a.eval y = .agg c.arr)
    (k : ∀ W', St w W' (L.set i (g, C 59 c.arr)) → W.grownBy W' (some g) → wpList Try.prog ops Q rest (a.put o.dst undef) W') : wpList Try.prog ops Q (o :: rest) a W :=
  wpList_store_st h i hi 59 x y ho hw hx hy (by rw [c.arr_size]; exact sz59) (by rw [c.arr_size, d.arr_size]) c.arr_one k
theorem wpList_store_cdE (h : St w W L) (i : Nat) {g : Nat} {d : Cd} (c : Cd) (hi : L[i]? = some (g, C 59 d.arr)) (x y : Operand) (ho : o.op = .store 59 x y) (hw : Region.wanted o (yielded ops a.tmps) = true)
    (hx : a.eval x = .pointer (some ⟨g, 0, none⟩)) (cs : Array Value) (hy : a.eval y = .agg cs) (e : cs = c.arr)
    (k : ∀ W', St w W' (L.set i (g, C 59 c.arr)) → W.grownBy W' (some g) → wpList Try.prog ops Q rest (a.put o.dst undef) W') : wpList Try.prog ops Q (o :: rest) a W := by
  subst e
  exact wpList_store_cd h i c hi x y ho hw hx hy k
theorem wpList_store_itE (h : St w W L) (i : Nat) {g : Nat} {d : It} (c : It) (hi : L[i]? = some (g, C 42 d.arr)) (x y : Operand) (ho : o.op = .store 42 x y) (hw : Region.wanted o (yielded ops a.tmps) = true)
    (hx : a.eval x = .pointer (some ⟨g, 0, none⟩)) (cs : Array Value) (hy : a.eval y = .agg cs) (e : cs = c.arr)
    (k : ∀ W', St w W' (L.set i (g, C 42 c.arr)) → W.grownBy W' (some g) → wpList Try.prog ops Q rest (a.put o.dst undef) W') : wpList Try.prog ops Q (o :: rest) a W := by
  subst e
  exact wpList_store_st h i hi 42 x y ho hw hx hy (by rw [c.arr_size]; exact sz42) (by rw [c.arr_size, d.arr_size]) c.arr_one k
theorem wpList_store_it (h : St w W L) (i : Nat) {g : Nat} {d : It} (c : It) (hi : L[i]? = some (g, C 42 d.arr)) (x y : Operand) (ho : o.op = .store 42 x y) (hw : Region.wanted o (yielded ops a.tmps) = true)
    (hx : a.eval x = .pointer (some ⟨g, 0, none⟩)) (hy : a.eval y = .agg c.arr)
    (k : ∀ W', St w W' (L.set i (g, C 42 c.arr)) → W.grownBy W' (some g) → wpList Try.prog ops Q rest (a.put o.dst undef) W') : wpList Try.prog ops Q (o :: rest) a W :=
  wpList_store_st h i hi 42 x y ho hw hx hy (by rw [c.arr_size]; exact sz42) (by rw [c.arr_size, d.arr_size]) c.arr_one k
variable {g b : Nat} {p : Pl} {c : Cs}
theorem WC.frontL {x : Nat × Obj} {Y : Blks} {W' : World} (up : ∀ W' M, St w W' (Y ++ M) → WC w W' g b p c M) (h : St w W' (x :: (Y ++ L))) : WC w W' g b p c (x :: L) := up _ _ (h.perm List.perm_middle.symm)
theorem wpList_alloc_cdW (h : WC w W g b p c L) (ho : o.op = .alloc 59) (hw : Region.wanted o (yielded ops a.tmps) = true)
    (k : ∀ W', WC w W' g b p c ((W.heap.size, C 59 zcd.arr) :: L) → wpList Try.prog ops Q rest (a.put o.dst (.pointer (some ⟨W.heap.size, 0, none⟩))) W') : wpList Try.prog ops Q (o :: rest) a W := by
  obtain ⟨Y, _, _, hs, up⟩ := h.lift
  exact wpList_alloc_cd hs ho hw fun W' h' _ => k W' (WC.frontL up h')
theorem wpList_alloc_itW (h : WC w W g b p c L) (ho : o.op = .alloc 42) (hw : Region.wanted o (yielded ops a.tmps) = true)
    (k : ∀ W', WC w W' g b p c ((W.heap.size, C 42 zit.arr) :: L) → wpList Try.prog ops Q rest (a.put o.dst (.pointer (some ⟨W.heap.size, 0, none⟩))) W') : wpList Try.prog ops Q (o :: rest) a W := by
  obtain ⟨Y, _, _, hs, up⟩ := h.lift
  exact wpList_alloc_it hs ho hw fun W' h' _ => k W' (WC.frontL up h')
theorem wpList_box_itW (h : WC w W g b p c L) (x : It) (y : Operand) (ho : o.op = .box 42 y) (hw : Region.wanted o (yielded ops a.tmps) = true) (hx : a.eval y = .agg x.arr)
    (k : ∀ W', WC w W' g b p c ((W.heap.size, C 42 x.arr) :: L) → wpList Try.prog ops Q rest (a.put o.dst (.pointer (some ⟨W.heap.size, 0, none⟩))) W') : wpList Try.prog ops Q (o :: rest) a W := by
  obtain ⟨Y, _, _, hs, up⟩ := h.lift
  exact wpList_box_it hs x y ho hw hx fun W' h' _ => k W' (WC.frontL up h')
theorem wpList_box_cdW (h : WC w W g b p c L) (x : Cd) (y : Operand) (ho : o.op = .box 59 y) (hw : Region.wanted o (yielded ops a.tmps) = true) (hx : a.eval y = .agg x.arr)
    (k : ∀ W', WC w W' g b p c ((W.heap.size, C 59 x.arr) :: L) → wpList Try.prog ops Q rest (a.put o.dst (.pointer (some ⟨W.heap.size, 0, none⟩))) W') : wpList Try.prog ops Q (o :: rest) a W := by
  obtain ⟨Y, _, _, hs, up⟩ := h.lift
  exact wpList_box_cd hs x y ho hw hx fun W' h' _ => k W' (WC.frontL up h')
theorem wpList_box_lnW (h : WC w W g b p c L) (xs : List Nat) (y : Operand) (ho : o.op = .box 44 y) (hw : Region.wanted o (yielded ops a.tmps) = true) (hx : a.eval y = .agg (lnA xs))
    (k : ∀ W', WC w W' g b p c ((W.heap.size, C 44 (lnA xs)) :: L) → wpList Try.prog ops Q rest (a.put o.dst (.pointer (some ⟨W.heap.size, 0, none⟩))) W') : wpList Try.prog ops Q (o :: rest) a W := by
  obtain ⟨Y, _, _, hs, up⟩ := h.lift
  exact wpList_box_ln hs xs y ho hw hx fun W' h' _ => k W' (WC.frontL up h')
/-- The i-th block beside the caches is stored into. -/
theorem wpList_store_cdW (h : WC w W g b p c L) (i : Nat) {q : Nat} {d : Cd} (e : Cd) (hi : L[i]? = some (q, C 59 d.arr)) (x y : Operand) (ho : o.op = .store 59 x y) (hw : Region.wanted o (yielded ops a.tmps) = true)
    (hx : a.eval x = .pointer (some ⟨q, 0, none⟩)) (hy : a.eval y = .agg e.arr)
    (k : ∀ W', WC w W' g b p c (L.set i (q, C 59 e.arr)) → wpList Try.prog ops Q rest (a.put o.dst undef) W') : wpList Try.prog ops Q (o :: rest) a W := by
  obtain ⟨Y, _, _, hs, up⟩ := h.lift
  refine wpList_store_cd hs (Y.length + i) e (by rw [List.getElem?_append_right (by omega)]; simpa using hi) x y ho hw hx hy fun W' h' _ => k W' (up _ _ ?_)
  rw [List.set_append_right _ _ (by omega)] at h'
  simpa using h'
theorem wpList_store_itW (h : WC w W g b p c L) (i : Nat) {q : Nat} {d : It} (e : It) (hi : L[i]? = some (q, C 42 d.arr)) (x y : Operand) (ho : o.op = .store 42 x y) (hw : Region.wanted o (yielded ops a.tmps) = true)
    (hx : a.eval x = .pointer (some ⟨q, 0, none⟩)) (hy : a.eval y = .agg e.arr)
    (k : ∀ W', WC w W' g b p c (L.set i (q, C 42 e.arr)) → wpList Try.prog ops Q rest (a.put o.dst undef) W') : wpList Try.prog ops Q (o :: rest) a W := by
  obtain ⟨Y, _, _, hs, up⟩ := h.lift
  refine wpList_store_it hs (Y.length + i) e (by rw [List.getElem?_append_right (by omega)]; simpa using hi) x y ho hw hx hy fun W' h' _ => k W' (up _ _ ?_)
  rw [List.set_append_right _ _ (by omega)] at h'
  simpa using h'
/-- One cell of the i-th block beside the caches is stored into. -/
theorem wpList_cellW (h : WC w W g b p c L) (i : Nat) {q : Nat} {t : TypeId} {arr : Array Value} (hi : L[i]? = some (q, C t arr)) (ty : TypeId) (x y : Operand) (ho : o.op = .store ty x y) (hw : Region.wanted o (yielded ops a.tmps) = true)
    (m : Nat) (v : Value) (hx : a.eval x = .pointer (some ⟨q, m, none⟩)) (hy : a.eval y = v) (hm : m < arr.size) (hv : v.cells = #[v]) (h1 : v.oneCell' = true) (hs : (Try.prog.info? ty).map (·.size) = some 1)
    (k : ∀ W', WC w W' g b p c (L.set i (q, C t (arr.setIfInBounds m v))) → wpList Try.prog ops Q rest (a.put o.dst undef) W') : wpList Try.prog ops Q (o :: rest) a W := by
  obtain ⟨Y, _, _, hst, up⟩ := h.lift
  refine wpList_cell_st hst (Y.length + i) (by rw [List.getElem?_append_right (by omega)]; simpa using hi) ty x y ho hw m v hx hy hm hv h1 hs fun W' h' _ => k W' (up _ _ ?_)
  rw [List.set_append_right _ _ (by omega)] at h'
  simpa using h'
end
end Go.Proofs.Ytnogmfpaipjdaaa
