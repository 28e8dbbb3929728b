/- A plan made as it may be. No statement is proved here. -/
import Derived.Test.YtnogmfpaipjdaaaPTree2
namespace Go.Proofs.Ytnogmfpaipjdaaa.P
open Go.RowKit
set_option linter.unusedVariables false
set_option linter.unusedSimpArgs false

/-- The plan of noughts. -/
def Pl.zero : Pl := ⟨0, 0, 0, 0, 0, 0, 0, 0, 0, 0, 0, 0, 0, 0, List.replicate 32 0, rfl⟩
theorem zero_arr : Pl.zero.arr = #[.int .i64 0, .int .i64 0, .int .i64 0, .int .i64 0, .int .i64 0, .int .i64 0, .int .u64 0, .int .i64 0, .int .i64 0, .int .i64 0, .int .i64 0, .int .i64 0, .int .i64 0, .int .i64 0, .int .u8 0, .int .u8 0, .int .u8 0, .int .u8 0, .int .u8 0, .int .u8 0, .int .u8 0, .int .u8 0, .int .u8 0, .int .u8 0, .int .u8 0, .int .u8 0, .int .u8 0, .int .u8 0, .int .u8 0, .int .u8 0, .int .u8 0, .int .u8 0, .int .u8 0, .int .u8 0, .int .u8 0, .int .u8 0, .int .u8 0, .int .u8 0, .int .u8 0, .int .u8 0, .int .u8 0, .int .u8 0, .int .u8 0, .int .u8 0, .int .u8 0, .int .u8 0] := by
  unfold Pl.arr Pl.cs; rfl
theorem Pl.set_co (p : Pl) (v : Int) : ({ p with co := v } : Pl).arr = p.arr.setIfInBounds 0 (.int .i64 v) := by
  unfold Pl.arr Pl.cs; rw [List.setIfInBounds_toArray]; rfl
theorem Pl.set_ba (p : Pl) (v : Int) : ({ p with ba := v } : Pl).arr = p.arr.setIfInBounds 1 (.int .i64 v) := by
  unfold Pl.arr Pl.cs; rw [List.setIfInBounds_toArray]; rfl
theorem Pl.set_pa (p : Pl) (v : Int) : ({ p with pa := v } : Pl).arr = p.arr.setIfInBounds 2 (.int .i64 v) := by
  unfold Pl.arr Pl.cs; rw [List.setIfInBounds_toArray]; rfl
theorem Pl.set_li (p : Pl) (v : Int) : ({ p with li := v } : Pl).arr = p.arr.setIfInBounds 3 (.int .i64 v) := by
  unfold Pl.arr Pl.cs; rw [List.setIfInBounds_toArray]; rfl
theorem Pl.set_ar (p : Pl) (v : Int) : ({ p with ar := v } : Pl).arr = p.arr.setIfInBounds 4 (.int .i64 v) := by
  unfold Pl.arr Pl.cs; rw [List.setIfInBounds_toArray]; rfl
theorem Pl.set_mi (p : Pl) (v : Int) : ({ p with mi := v } : Pl).arr = p.arr.setIfInBounds 5 (.int .i64 v) := by
  unfold Pl.arr Pl.cs; rw [List.setIfInBounds_toArray]; rfl
theorem Pl.set_ma (p : Pl) (v : Int) : ({ p with ma := v } : Pl).arr = p.arr.setIfInBounds 6 (.int .u64 v) := by
  unfold Pl.arr Pl.cs; rw [List.setIfInBounds_toArray]; rfl
theorem Pl.set_ns (p : Pl) (v : Int) : ({ p with ns := v } : Pl).arr = p.arr.setIfInBounds 7 (.int .i64 v) := by
  unfold Pl.arr Pl.cs; rw [List.setIfInBounds_toArray]; rfl
theorem Pl.set_nw (p : Pl) (v : Int) : ({ p with nw := v } : Pl).arr = p.arr.setIfInBounds 8 (.int .i64 v) := by
  unfold Pl.arr Pl.cs; rw [List.setIfInBounds_toArray]; rfl
theorem Pl.set_fs (p : Pl) (v : Int) : ({ p with fs := v } : Pl).arr = p.arr.setIfInBounds 9 (.int .i64 v) := by
  unfold Pl.arr Pl.cs; rw [List.setIfInBounds_toArray]; rfl
theorem Pl.set_fw (p : Pl) (v : Int) : ({ p with fw := v } : Pl).arr = p.arr.setIfInBounds 10 (.int .i64 v) := by
  unfold Pl.arr Pl.cs; rw [List.setIfInBounds_toArray]; rfl
theorem Pl.set_me (p : Pl) (v : Int) : ({ p with me := v } : Pl).arr = p.arr.setIfInBounds 11 (.int .i64 v) := by
  unfold Pl.arr Pl.cs; rw [List.setIfInBounds_toArray]; rfl
theorem Pl.set_qu (p : Pl) (v : Int) : ({ p with qu := v } : Pl).arr = p.arr.setIfInBounds 12 (.int .i64 v) := by
  unfold Pl.arr Pl.cs; rw [List.setIfInBounds_toArray]; rfl
theorem Pl.set_ki (p : Pl) (v : Int) : ({ p with ki := v } : Pl).arr = p.arr.setIfInBounds 13 (.int .i64 v) := by
  unfold Pl.arr Pl.cs; rw [List.setIfInBounds_toArray]; rfl

theorem PBlk.put {W : World} {g i : Nat} {p p' : Pl} {v : Value} (h : PBlk W g p) (e : p'.arr = p.arr.setIfInBounds i v) : PBlk (W.setCell ⟨g, i, none⟩ v) g p' := by
  unfold PBlk at h ⊢
  rw [e]
  simp [World.setCell, Array.getElem?_modify, h]
theorem PBlk.some {W : World} {g : Nat} {p : Pl} (h : PBlk W g p) (i : Nat) (hi : i < 46) : (W.cell? ⟨g, i, none⟩).isSome = true := by
  rw [h.cell i, Array.getElem?_eq_getElem (by rw [p.arr_size]; exact hi)]; rfl
theorem heap_setRow_far (w : World) (g h : Nat) (cs : Array Value) (hne : h ≠ g) : (w.setRow g cs).heap[h]? = w.heap[h]? := by
  simp [World.setRow, Array.getElem?_modify, Ne.symm hne]
theorem PBlk.putAll {W : World} {g : Nat} {p p' : Pl} (h : PBlk W g p) : PBlk (W.setRow g p'.arr) g p' := by
  unfold PBlk at h ⊢
  simp [World.setRow, Array.getElem?_modify, h]

/-- Two plans in two blocks of the call's own. -/
structure P2 (w : World) (g : Nat) (p : Pl) (g2 : Nat) (q : Pl) (W : World) : Prop where
  b1 : PBlk W g p
  b2 : PBlk W g2 q
  bel : Below w.heap.size w W
  lo1 : w.heap.size ≤ g
  lo2 : w.heap.size ≤ g2
  ne : g ≠ g2
section
variable {w W W' : World} {g g2 i : Nat} {p q p' : Pl} {v : Value}
theorem P2.call (h : P2 w g p g2 q W) (hb : Below W.heap.size W W') : P2 w g p g2 q W' :=
  ⟨h.b1.below hb h.b1.lt, h.b2.below hb h.b2.lt, h.bel.trans (hb.mono h.bel.size), h.lo1, h.lo2, h.ne⟩
theorem P2.drew (h : P2 w g p g2 q W) : P2 w g p g2 q W.drew := ⟨h.b1.drew, h.b2.drew, h.bel.drew, h.lo1, h.lo2, h.ne⟩
theorem P2.put (h : P2 w g p g2 q W) (e : p'.arr = p.arr.setIfInBounds i v) : P2 w g p' g2 q (W.setCell ⟨g, i, none⟩ v) :=
  ⟨h.b1.put e, h.b2.far (Ne.symm h.ne) v, h.bel.setCell h.lo1 v, h.lo1, h.lo2, h.ne⟩
theorem P2.swap (h : P2 w g p g2 q W) : P2 w g2 q g p W := ⟨h.b2, h.b1, h.bel, h.lo2, h.lo1, Ne.symm h.ne⟩
theorem P2.new (w : World) (p : Pl) : P2 w w.heap.size p (w.heap.size + 1) Pl.zero ((w.alloc (.cells p.arr 28)).alloc (.cells Pl.zero.arr 28)) := by
  have h1 := (PBlk.new w p).alloc (.cells Pl.zero.arr 28)
  have h2 := PBlk.new (w.alloc (.cells p.arr 28)) Pl.zero
  have e : (w.alloc (.cells p.arr 28)).heap.size = w.heap.size + 1 := by simp
  rw [e] at h2
  exact ⟨h1, h2, (((Below.refl _ _).alloc (Nat.le_refl _) _).alloc (by simp) _), Nat.le_refl _, by omega, by omega⟩
end
theorem run_storeVar_one' (w : World) (b o : Nat) (ty : TypeId) (v : Value) (hv : v.cells = #[v]) (h1 : v.oneCell' = true) (hc : (w.cell? ⟨b, o, none⟩).isSome = true) (hf : w.frozen? ⟨b, o, none⟩ = false) (hi : (Try.prog.info? ty).map (·.size) = some 1) :
    (storeVar ty ⟨b, o, none⟩ v).run Try.prog w = .ok () (w.setCell ⟨b, o, none⟩ v) := by
  have := run_storeCells_cells (P := Try.prog) b o [v] 0 w (fun j hj => by obtain rfl : j = 0 := (by simpa using hj); simpa using hc) (fun j hj => by obtain rfl : j = 0 := (by simpa using hj); simpa using hf) (fun u hu => by obtain rfl : u = v := (by simpa using hu); exact h1)
  cases hq : Try.prog.info? ty with
  | none => simp [hq] at hi
  | some i =>
    have hs : i.size = 1 := by simpa [hq] using hi
    simp only [Nat.add_zero] at this
    simp [storeVar, sizeOf, typeInfo, hq, hv, hs, this, World.setCells]
/-- One cell of a block is stored into; of the world only what R says is kept. -/
theorem wpList_store_at {ops : Array Oper} {rest : List Oper} {o : Oper} {a : Act} {W : World} {Q : Exit → Act → World → Prop} {g i : Nat} {v : Value} {ty : TypeId} (R : World → Prop) (x y : Operand) (ho : o.op = .store ty x y) (hw : Region.wanted o (yielded ops a.tmps) = true)
    (hx : a.eval x = .pointer (some ⟨g, i, none⟩)) (hy : a.eval y = v) (hv : v.cells = #[v]) (h1 : v.oneCell' = true) (hi : (Try.prog.info? ty).map (·.size) = some 1) (hc : (W.cell? ⟨g, i, none⟩).isSome = true) (hf : W.frozen? ⟨g, i, none⟩ = false)
    (hR : R (W.setCell ⟨g, i, none⟩ v)) (k : ∀ W', R W' → wpList Try.prog ops Q rest (a.put o.dst undef) W') : wpList Try.prog ops Q (o :: rest) a W := by
  unfold wpList
  rw [if_pos hw]
  refine .inl ?_
  unfold Oper.wp execOp
  simp only [ho, hx, hy, Instr.storeAt, Instr.sureAddr, Sem.run_bind, Sem.run_pure, Result.andThen_ok, run_storeVar_one' W g i ty v hv h1 hc hf hi]
  exact k _ hR
theorem sz3 : (Try.prog.info? 3).map (·.size) = some 1 := by kernel_rfl
theorem sz22 : (Try.prog.info? 22).map (·.size) = some 1 := by kernel_rfl
theorem sz28 : (Try.prog.info? 28).map (·.size) = some 46 := by kernel_rfl
/-- A number of a plan is stored. -/
theorem wpList_put {ops : Array Oper} {rest : List Oper} {o : Oper} {a : Act} {w W : World} {Q : Exit → Act → World → Prop} {g i g2 : Nat} {p q p' : Pl} {n : Int} (h : P2 w g p g2 q W) (hi : i < 46) (e : p'.arr = p.arr.setIfInBounds i (.int .i64 n)) (x y : Operand) (ho : o.op = .store 3 x y) (hx : a.eval x = .pointer (some ⟨g, i, none⟩)) (hw : Region.wanted o (yielded ops a.tmps) = true)
    (hy : a.eval y = .int .i64 n) (k : ∀ W', P2 w g p' g2 q W' → wpList Try.prog ops Q rest (a.put o.dst undef) W') : wpList Try.prog ops Q (o :: rest) a W :=
  wpList_store_at _ x y ho hw hx hy rfl rfl sz3 (h.b1.some i hi) (h.b1.frozen i) (h.put e) k
theorem wpList_putU {ops : Array Oper} {rest : List Oper} {o : Oper} {a : Act} {w W : World} {Q : Exit → Act → World → Prop} {g i g2 : Nat} {p q p' : Pl} {n : Int} (h : P2 w g p g2 q W) (hi : i < 46) (e : p'.arr = p.arr.setIfInBounds i (.int .u64 n)) (x y : Operand) (ho : o.op = .store 22 x y) (hx : a.eval x = .pointer (some ⟨g, i, none⟩)) (hw : Region.wanted o (yielded ops a.tmps) = true)
    (hy : a.eval y = .int .u64 n) (k : ∀ W', P2 w g p' g2 q W' → wpList Try.prog ops Q rest (a.put o.dst undef) W') : wpList Try.prog ops Q (o :: rest) a W :=
  wpList_store_at _ x y ho hw hx hy rfl rfl sz22 (h.b1.some i hi) (h.b1.frozen i) (h.put e) k
theorem there_two {W : World} {g i : Nat} {p : Pl} (h : PBlk W g p) (hi : i + 2 ≤ 46) : W.there g i 2 := fun j hj => ⟨h.some (i + j) (by omega), h.frozen _⟩
theorem sz24 : (Try.prog.info? 24).map (·.size) = some 2 := by kernel_rfl
/-- A shape of a plan is stored. -/
theorem wpList_put2 {ops : Array Oper} {rest : List Oper} {o : Oper} {a : Act} {w W : World} {Q : Exit → Act → World → Prop} {g i g2 : Nat} {p q p' : Pl} {n m : Int} (h : P2 w g p g2 q W) (hi : i + 2 ≤ 46) (e : p'.arr = (p.arr.setIfInBounds i (.int .i64 n)).setIfInBounds (i + 1) (.int .i64 m)) (x y : Operand) (ho : o.op = .store 24 x y) (hx : a.eval x = .pointer (some ⟨g, i, none⟩)) (hw : Region.wanted o (yielded ops a.tmps) = true)
    (hy : a.eval y = .agg #[.int .i64 n, .int .i64 m]) (k : ∀ W', P2 w g p' g2 q W' → wpList Try.prog ops Q rest (a.put o.dst undef) W') : wpList Try.prog ops Q (o :: rest) a W := by
  unfold wpList
  rw [if_pos hw]
  refine .inl (wp_store_mid 24 x y ho g i #[.int .i64 n, .int .i64 m] hx hy (there_two h.b1 hi) sz24 (by simp [Value.oneCell']) (k _ ?_))
  show P2 w g p' g2 q ((W.setCell ⟨g, i, none⟩ (.int .i64 n)).setCell ⟨g, i + 1, none⟩ (.int .i64 m))
  refine ⟨?_, (h.b2.far (Ne.symm h.ne) _).far (Ne.symm h.ne) _, (h.bel.setCell h.lo1 _).setCell h.lo1 _, h.lo1, h.lo2, h.ne⟩
  have hb := h.b1
  unfold PBlk at hb ⊢
  rw [e]
  simp [World.setCell, Array.getElem?_modify, hb]
/-- A whole plan is stored. -/
theorem wpList_putP {ops : Array Oper} {rest : List Oper} {o : Oper} {a : Act} {w W : World} {Q : Exit → Act → World → Prop} {g g2 : Nat} {p q p' : Pl} (h : P2 w g p g2 q W) (x y : Operand) (ho : o.op = .store 28 x y) (hx : a.eval x = .pointer (some ⟨g2, 0, none⟩)) (hw : Region.wanted o (yielded ops a.tmps) = true)
    (hy : a.eval y = .agg p'.arr) (k : ∀ W', P2 w g p g2 p' W' → wpList Try.prog ops Q rest (a.put o.dst undef) W') : wpList Try.prog ops Q (o :: rest) a W := by
  unfold wpList
  rw [if_pos hw]
  refine .inl (wp_store_row 28 x y ho g2 p'.arr hx hy 28 q.arr h.b2 (by rw [p'.arr_size]; exact sz28) (by rw [p'.arr_size, q.arr_size]) p'.arr_all (k _ ?_))
  exact ⟨(heap_setRow_far W g2 g _ h.ne).trans h.b1, h.b2.putAll, h.bel.trans ⟨rfl, rfl, rfl, by simp [World.setRow], fun k hk => heap_setRow_far W g2 k _ (by have := h.lo2; omega)⟩, h.lo1, h.lo2, h.ne⟩
end Go.Proofs.Ytnogmfpaipjdaaa.P
