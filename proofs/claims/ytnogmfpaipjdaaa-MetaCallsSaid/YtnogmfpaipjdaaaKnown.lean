/- Blocks that are known whole, of any type: loads and stores of them. No statement is proved here. -/
import Derived.Test.YtnogmfpaipjdaaaRows
import Derived.WalkKit
import Derived.Below
import Derived.Laws.OwnMore
import Derived.Deep.QuietTactic
import Derived.BigQuiet
import Derived.Deep.Draws
import Derived.Lib.Hide
import Derived.Maps.AppendAt
import Derived.Conc.LoneSelect
import Derived.WalkSpells
import Derived.WalkLawsBesides
import Derived.Deep.RegionWith
import Derived.Deep.RegionHeld3
namespace Go.Proofs.Ytnogmfpaipjdaaa
open Go.RowKit
set_option linter.unusedVariables false
set_option linter.unusedSimpArgs false

theorem heap_setRow_far (w : World) (g h : Nat) (cs : Array Value) (hne : h ≠ g) : (w.setRow g cs).heap[h]? = w.heap[h]? := by
  simp [World.setRow, Array.getElem?_modify, Ne.symm hne]
theorem run_storeVar_one' (w : World) (b o : Nat) (ty : TypeId) (v : Value) (hv : v.cells = #[v]) (h1 : v.oneCell' = true) (hc : (w.cell? ⟨b, o, none⟩).isSome = true) (hf : w.frozen? ⟨b, o, none⟩ = false) (hi : (Try.prog.info? ty).map (·.size) = some 1) :
    (storeVar ty ⟨b, o, none⟩ v).run Try.prog w = .ok () (w.setCell ⟨b, o, none⟩ v) := by
  have := run_storeCells_cells (P := Try.prog) b o [v] 0 w (fun j hj => by obtain rfl : j = 0 := (by simpa using hj); simpa using hc) (fun j hj => by obtain rfl : j = 0 := (by simpa using hj); simpa using hf) (fun u hu => by obtain rfl : u = v := (by simpa using hu); exact h1)
  cases hq : Try.prog.info? ty with
  | none => simp [hq] at hi
  | some i =>
    have hs : i.size = 1 := by simpa [hq] using hi
    simp only [Nat.add_zero] at this
    simp [storeVar, sizeOf, typeInfo, hq, hv, hs, this, World.setCells]
/-- One cell of a block is stored into; of the world only what R says is kept. -/
theorem wpList_store_at {ops : Array Oper} {rest : List Oper} {o : Oper} {a : Act} {W : World} {Q : Exit → Act → World → Prop} {g i : Nat} {v : Value} {ty : TypeId} (R : World → Prop) (x y : Operand) (ho : o.op = .store ty x y) (hw : Region.wanted o (yielded ops a.tmps) = true)
    (hx : a.eval x = .pointer (some ⟨g, i, none⟩)) (hy : a.eval y = v) (hv : v.cells = #[v]) (h1 : v.oneCell' = true) (hi : (Try.prog.info? ty).map (·.size) = some 1) (hc : (W.cell? ⟨g, i, none⟩).isSome = true) (hf : W.frozen? ⟨g, i, none⟩ = false)
    (hR : R (W.setCell ⟨g, i, none⟩ v)) (k : ∀ W', R W' → wpList Try.prog ops Q rest (a.put o.dst undef) W') : wpList Try.prog ops Q (o :: rest) a W := by
  unfold wpList
  rw [if_pos hw]
  refine .inl ?_
  unfold Oper.wp execOp
  simp only [ho, hx, hy, Instr.storeAt, Instr.sureAddr, Sem.run_bind, Sem.run_pure, Result.andThen_ok, run_storeVar_one' W g i ty v hv h1 hc hf hi]
  exact k _ hR
theorem sz3 : (Try.prog.info? 3).map (·.size) = some 1 := by kernel_rfl
/-- Block g of the world is just the cells of arr. -/
def At (w : World) (g : Nat) (t : TypeId) (arr : Array Value) : Prop := w.heap[g]? = some (.cells arr t (0, 0))
section
variable {w w' : World} {g : Nat} {t : TypeId} {arr : Array Value}
theorem At.lt (h : At w g t arr) : g < w.heap.size := by
  rcases Nat.lt_or_ge g w.heap.size with hlt | hge
  · exact hlt
  · unfold At at h; rw [Array.getElem?_eq_none hge] at h; cases h
theorem At.cell (h : At w g t arr) (i : Nat) : w.cell? ⟨g, i, none⟩ = arr[i]? := cell_of_row w g i arr t (0, 0) h
theorem At.frozen (h : At w g t arr) (i : Nat) : w.frozen? ⟨g, i, none⟩ = false := by
  unfold At at h
  simp [World.frozen?, h]
theorem At.new (w : World) (t : TypeId) (arr : Array Value) : At (w.alloc (.cells arr t)) w.heap.size t arr := heap_alloc_new w _
theorem At.drew (h : At w g t arr) : At w.drew g t arr := h
theorem At.drewN (h : At w g t arr) (n : Nat) : At (w.drewN n) g t arr := h
theorem At.alloc (h : At w g t arr) (o : Obj) : At (w.alloc o) g t arr := (Below.heap_alloc w o g h.lt).trans h
theorem At.far (h : At w g t arr) {p : Addr} (hp : g ≠ p.block) (u : Value) : At (w.setCell p u) g t arr := (Below.heap_setCell w p u g hp).trans h
theorem At.below {B : Nat} (h : At w g t arr) (hb : Below B w w') (hg : g < B) : At w' g t arr := (hb.block g hg).trans h
theorem At.call (h : At w g t arr) (hb : Below w.heap.size w w') : At w' g t arr := h.below hb h.lt
theorem At.grown {row : Option Nat} (h : At w g t arr) (hg : w.grownBy w' row) (hne : row ≠ some g) : At w' g t arr := (hg.block g h.lt (fun e => hne e.symm)).trans h
theorem At.set (h : At w g t arr) (i : Nat) (v : Value) : At (w.setCell ⟨g, i, none⟩ v) g t (arr.setIfInBounds i v) := by
  unfold At at h ⊢
  simp [World.setCell, Array.getElem?_modify, h]
theorem At.putAll {arr' : Array Value} (h : At w g t arr) : At (w.setRow g arr') g t arr' := by
  unfold At at h ⊢
  simp [World.setRow, Array.getElem?_modify, h]
theorem At.putFar {g2 : Nat} {arr' : Array Value} (h : At w g t arr) (hne : g ≠ g2) : At (w.setRow g2 arr') g t arr := (heap_setRow_far w g2 g _ hne).trans h
theorem At.loadV (h : At w g t arr) (ty : TypeId) (d : TypeDesc) (hu : Try.prog.underlying ty = some d) (hd : d.isRow = true) (hs : (Try.prog.info? ty).map (·.size) = some arr.size) : (loadVar ty ⟨g, 0, none⟩).run Try.prog w = .ok (.agg arr) w :=
  run_loadVar_row (P := Try.prog) w g t ty arr (0, 0) _ h hu (by cases d <;> first | rfl | cases hd) hs
end
theorem below_setRow {w W : World} {B g : Nat} {arr : Array Value} (h : Below B w W) (hg : B ≤ g) : Below B w (W.setRow g arr) :=
  h.trans ⟨rfl, rfl, rfl, by simp [World.setRow], fun k hk => heap_setRow_far W g k _ (by omega)⟩
theorem Below.call {w W W' : World} {B : Nat} (h : Below B w W) (hb : Below W.heap.size W W') (hB : B ≤ W.heap.size) : Below B w W' := h.trans (hb.mono hB)
theorem wpList_load_at {ops : Array Oper} {rest : List Oper} {o : Oper} {a : Act} {w : World} {Q : Exit → Act → World → Prop} {g : Nat} {t : TypeId} {arr : Array Value} (h : At w g t arr) (ty : TypeId) (d : TypeDesc) (x : Operand) (ho : o.op = .load ty x) (hw : Region.wanted o (yielded ops a.tmps) = true)
    (hx : a.eval x = .pointer (some ⟨g, 0, none⟩)) (hu : Try.prog.underlying ty = some d) (hd : d.isRow = true) (hs : (Try.prog.info? ty).map (·.size) = some arr.size) (k : wpList Try.prog ops Q rest (a.put o.dst (.agg arr)) w) : wpList Try.prog ops Q (o :: rest) a w := by
  unfold wpList
  rw [if_pos hw]
  exact .inl (wp_load_row ty x ho g hx t arr (0, 0) _ h hu (by cases d <;> first | rfl | cases hd) hs k)
theorem grown_setRow (W : World) (g : Nat) (arr : Array Value) : W.grownBy (W.setRow g arr) (some g) :=
  ⟨rfl, rfl, rfl, by simp [World.setRow], fun j hj hne => heap_setRow_far W g j arr (fun h => hne (by rw [h]))⟩
theorem wpList_store_all {ops : Array Oper} {rest : List Oper} {o : Oper} {a : Act} {W : World} {Q : Exit → Act → World → Prop} {g : Nat} {t : TypeId} {arr arr' : Array Value} (h : At W g t arr) (ty : TypeId) (x y : Operand) (ho : o.op = .store ty x y) (hx : a.eval x = .pointer (some ⟨g, 0, none⟩)) (hw : Region.wanted o (yielded ops a.tmps) = true)
    (hy : a.eval y = .agg arr') (hs : (Try.prog.info? ty).map (·.size) = some arr'.size) (hl : arr'.size = arr.size) (h1 : arr'.all (·.oneCell') = true) (k : ∀ W', At W' g t arr' → W.grownBy W' (some g) → wpList Try.prog ops Q rest (a.put o.dst undef) W') : wpList Try.prog ops Q (o :: rest) a W := by
  unfold wpList
  rw [if_pos hw]
  exact .inl (wp_store_row ty x y ho g arr' hx hy t arr h hs hl.symm h1 (k _ h.putAll (grown_setRow W g arr')))
theorem below_grown {w W W' : World} {B g : Nat} (h : Below B w W) (hg : W.grownBy W' (some g)) (hB : B ≤ W.heap.size) (hg2 : B ≤ g) : Below B w W' :=
  h.grown hg hB (fun k hk => by injection hk with hk; omega)
theorem yields_at {ops : Array Oper} {S : World → Prop} {o : Oper} {a : Act} {g : Nat} {t : TypeId} {arr : Array Value} (ty : TypeId) (d : TypeDesc) (x : Operand) (ho : o.op = .load ty x) (hw : Region.wanted o (yielded ops a.tmps) = true)
    (hx : a.eval x = .pointer (some ⟨g, 0, none⟩)) (hu : Try.prog.underlying ty = some d) (hd : d.isRow = true) (hs : (Try.prog.info? ty).map (·.size) = some arr.size) (hS : ∀ W, S W → At W g t arr) : YieldsIf Try.prog ops S o (.agg arr) a :=
  .inl ⟨hw, fun W hW => by
    unfold execOp
    simp only [ho, hx, Instr.loadAt, Instr.sureAddr, Sem.run_bind, Sem.run_pure, Result.andThen_ok, (hS W hW).loadV ty d hu hd hs]⟩

end Go.Proofs.Ytnogmfpaipjdaaa
