/- What the law of all addresses wants: places, their equality, and blocks. No statement is proved here. -/
import Derived.Test.YtcbpnmcfiohndaaPlace
namespace Go.Proofs.Ytcbpnmcfiohndaa
open Go.RowKit
set_option linter.unusedVariables false
set_option linter.unusedSimpArgs false

/-- Whether two places are the same. -/
def Pc.same (c d : Pc) : Bool := c.k == d.k && (c.n == d.n && ((c.l == d.l && c.i == d.i) && c.o == d.o))
theorem Pc.same_iff (c d : Pc) : c.same d = true ↔ c = d := by
  cases c; cases d
  simp [Pc.same, and_assoc]
theorem eqIn39 (a b c e : Int) (w : World) : (Op.equalIn 9999 39 (.agg #[.int .i64 a, .int .i64 b]) (.agg #[.int .i64 c, .int .i64 e])).run Try.prog w = .ok (a == c && b == e) w := by
  rw [run_equalIn_struct w 9998 39 _ _ (by kernel_rfl) (by kernel_rfl)]
  have hf : (Try.prog.fieldsOf 39).toList.map (fun f => (f.name, f.type, f.offset)) = [("Level", 3, 0), ("Index", 3, 1)] := by kernel_rfl
  generalize (Try.prog.fieldsOf 39).toList = fs at hf
  have hl : fs.length = 2 := by simpa using congrArg List.length hf
  match fs, hl, hf with
  | [f1, f2], _, hf =>
    simp only [List.map_cons, List.map_nil, List.cons.injEq, Prod.mk.injEq, and_true] at hf
    obtain ⟨⟨n1, t1, o1⟩, n2, t2, o2⟩ := hf
    have p1 : ∀ x y : Int, (part 3 #[.int .i64 x, .int .i64 y] 0).run Try.prog w = .ok (.int .i64 x) w := fun x y => by simp [part, isAgg, run_underlying Try.underlying3]
    have p2 : ∀ x y : Int, (part 3 #[.int .i64 x, .int .i64 y] 1).run Try.prog w = .ok (.int .i64 y) w := fun x y => by simp [part, isAgg, run_underlying Try.underlying3]
    have i1 := fun x y => run_equalIn_int (P := Try.prog) w 9997 3 .i64 .i64 x y Try.underlying3
    simp only [Nat.reduceAdd] at i1
    cases h1 : (a == c) <;> cases h2 : (b == e) <;> simp [Op.eqFields, n1, n2, t1, t2, o1, o2, Sem.run_bind, p1, p2, i1, h1, h2]
theorem eqIn44 (c d : Pc) (w : World) : (Op.equalIn 10000 44 (.agg c.arr) (.agg d.arr)).run Try.prog w = .ok (c.same d) w := by
  rw [run_equalIn_struct w 9999 44 _ _ (by kernel_rfl) (by kernel_rfl)]
  have hf : (Try.prog.fieldsOf 44).toList.map (fun f => (f.name, f.type, f.offset)) = [("Kind", 3, 0), ("Line", 3, 1), ("Item", 39, 2), ("Offset", 3, 4)] := by kernel_rfl
  generalize (Try.prog.fieldsOf 44).toList = fs at hf
  have hl : fs.length = 4 := by simpa using congrArg List.length hf
  match fs, hl, hf with
  | [f1, f2, f3, f4], _, hf =>
    simp only [List.map_cons, List.map_nil, List.cons.injEq, Prod.mk.injEq, and_true] at hf
    obtain ⟨⟨n1, t1, o1⟩, ⟨n2, t2, o2⟩, ⟨n3, t3, o3⟩, n4, t4, o4⟩ := hf
    have p1 : ∀ c : Pc, (part 3 c.arr 0).run Try.prog w = .ok (.int .i64 c.k) w := fun c => by simp [Pc.arr, part, isAgg, run_underlying Try.underlying3]
    have p2 : ∀ c : Pc, (part 3 c.arr 1).run Try.prog w = .ok (.int .i64 c.n) w := fun c => by simp [Pc.arr, part, isAgg, run_underlying Try.underlying3]
    have p3 : ∀ c : Pc, (part 39 c.arr 2).run Try.prog w = .ok (.agg #[.int .i64 c.l, .int .i64 c.i]) w := fun c => by
      have h5 : (sizeOf 39).run Try.prog w = .ok 2 w := Try.sizeOf39 w
      simp [Pc.arr, part, isAgg, run_underlying Try.underlying39, h5]
    have p4 : ∀ c : Pc, (part 3 c.arr 4).run Try.prog w = .ok (.int .i64 c.o) w := fun c => by simp [Pc.arr, part, isAgg, run_underlying Try.underlying3]
    have i1 := fun x y => run_equalIn_int (P := Try.prog) w 9998 3 .i64 .i64 x y Try.underlying3
    simp only [Nat.reduceAdd] at i1
    have i3 := fun x y z u => eqIn39 x y z u w
    unfold Pc.same
    cases h1 : (c.k == d.k) <;> cases h2 : (c.n == d.n) <;> cases h3 : (c.l == d.l && c.i == d.i) <;> cases h4 : (c.o == d.o) <;> simp [Op.eqFields, n1, n2, n3, n4, t1, t2, t3, t4, o1, o2, o3, o4, Sem.run_bind, p1, p2, p3, p4, i1, i3, h1, h2, h3, h4]
theorem eql44 (c d : Pc) (w : World) : (binOp .eql 44 (.agg c.arr) (.agg d.arr)).run Try.prog w = .ok (.bool (c.same d)) w := by
  rw [run_eql_struct, eqIn44]; rfl
theorem neq44 (c d : Pc) (w : World) : (binOp .neq 44 (.agg c.arr) (.agg d.arr)).run Try.prog w = .ok (.bool (!c.same d)) w := by
  rw [run_neq_struct, eqIn44]; rfl

/-- Block g holds a place. -/
def Pb (W : World) (g : Nat) (c : Pc) : Prop := W.heap[g]? = some (.cells c.arr 44 (0, 0))
section
variable {w W W' : World} {q : Pl} {g g' : Nat} {c x f : Pc}
theorem Pb.lt (h : Pb W g c) : g < W.heap.size := blk_lt h
theorem Pb.call (h : Pb W g c) (hb : Below W.heap.size W W') : Pb W' g c := (hb.block _ h.lt).trans h
theorem Pb.alloc (h : Pb W g c) (o : Obj) : Pb (W.alloc o) g c := (Below.heap_alloc _ _ _ h.lt).trans h
theorem Pb.far (h : Pb W g c) (hne : g ≠ g') (cs : Array Value) : Pb (W.setRow g' cs) g c := (heap_setRow_far W _ _ _ hne).trans h
theorem Pb.put (h : Pb W g c) (x : Pc) : Pb (W.setRow g x.arr) g x := by
  unfold Pb at *
  simp [World.setRow, Array.getElem?_modify, h]
theorem Pb.cells (h : Pb W g c) : W.cell? ⟨g, 0, none⟩ = some (.int .i64 c.k) ∧ W.cell? ⟨g, 1, none⟩ = some (.int .i64 c.n) ∧ W.cell? ⟨g, 2, none⟩ = some (.int .i64 c.l) ∧ W.cell? ⟨g, 3, none⟩ = some (.int .i64 c.i) ∧ W.cell? ⟨g, 4, none⟩ = some (.int .i64 c.o) := by
  unfold Pb at h
  rw [cell_of_row W _ 0 _ 44 (0, 0) h, cell_of_row W _ 1 _ 44 (0, 0) h, cell_of_row W _ 2 _ 44 (0, 0) h, cell_of_row W _ 3 _ 44 (0, 0) h, cell_of_row W _ 4 _ 44 (0, 0) h]; exact ⟨rfl, rfl, rfl, rfl, rfl⟩
theorem wpList_load_P {ops : Array Oper} {rest : List Oper} {o : Oper} {a : Act} {Q : Exit → Act → World → Prop} (h : Pb W g c) (x : Operand) (ho : o.op = .load 44 x) (hw : Region.wanted o (yielded ops a.tmps) = true) (hx : a.eval x = .pointer (some ⟨g, 0, none⟩))
    (k : wpList Try.prog ops Q rest (a.put o.dst (.agg c.arr)) W) : wpList Try.prog ops Q (o :: rest) a W := by
  unfold wpList
  rw [if_pos hw]
  exact .inl (wp_load_row 44 x ho g hx 44 c.arr (0, 0) _ h Try.underlying44 rfl sz44 k)
/-- A plan and a place in two blocks of the call's own. -/
structure LSt (w : World) (q : Pl) (g : Nat) (c : Pc) (W : World) : Prop where
  st : PSt w w.heap.size q W
  bc : Pb W g c
  lo : w.heap.size < g
theorem LSt.call (h : LSt w q g c W) (hb : Below W.heap.size W W') : LSt w q g c W' := ⟨h.st.call hb, h.bc.call hb, h.lo⟩
theorem LSt.drew (h : LSt w q g c W) : LSt w q g c W.drew := ⟨h.st.drew, h.bc, h.lo⟩
theorem PSt.allocd (h : PSt w w.heap.size q W) (o : Obj) : PSt w w.heap.size q (W.alloc o) := ⟨h.blk.alloc _, h.bel.alloc h.bel.size _⟩
theorem PSt.setFar (h : PSt w w.heap.size q W) (hg : w.heap.size < g) (cs : Array Value) : PSt w w.heap.size q (W.setRow g cs) :=
  ⟨(heap_setRow_far W _ _ _ (by omega)).trans h.blk, h.bel.trans ⟨rfl, rfl, rfl, by simp [World.setRow], fun k hk => heap_setRow_far W _ k _ (by omega)⟩⟩
theorem Pb.new (W : World) : Pb (W.alloc (.cells #[.int .i64 0, .int .i64 0, .int .i64 0, .int .i64 0, .int .i64 0] 44)) W.heap.size ⟨0, 0, 0, 0, 0⟩ := heap_alloc_new W _
theorem wpList_store_P {ops : Array Oper} {rest : List Oper} {o : Oper} {a : Act} {Q : Exit → Act → World → Prop} (h : Pb W g c) (x : Pc) (u y : Operand) (ho : o.op = .store 44 u y) (hx : a.eval u = .pointer (some ⟨g, 0, none⟩)) (hw : Region.wanted o (yielded ops a.tmps) = true) (hy : a.eval y = .agg x.arr)
    (k : wpList Try.prog ops Q rest (a.put o.dst undef) (W.setRow g x.arr)) : wpList Try.prog ops Q (o :: rest) a W := by
  unfold wpList
  rw [if_pos hw]
  exact .inl (wp_store_row 44 u y ho g x.arr hx hy 44 c.arr h sz44 rfl (by simp [Pc.arr, Value.oneCell']) k)
abbrev zeros5 : Array Value := #[.int .i64 0, .int .i64 0, .int .i64 0, .int .i64 0, .int .i64 0]
/-- A new place is made and stored. -/
theorem wpList_newL {ops : Array Oper} {rest : List Oper} {o : Oper} {a : Act} {Q : Exit → Act → World → Prop} (h : PSt w w.heap.size q W) (c : Pc) (u y : Operand) (ho : o.op = .store 44 u y) (hx : a.eval u = .pointer (some ⟨W.heap.size, 0, none⟩)) (hw : Region.wanted o (yielded ops a.tmps) = true) (hy : a.eval y = .agg c.arr)
    (k : ∀ W', LSt w q W.heap.size c W' → wpList Try.prog ops Q rest (a.put o.dst undef) W') : wpList Try.prog ops Q (o :: rest) a (W.alloc (.cells #[.int .i64 0, .int .i64 0, .int .i64 0, .int .i64 0, .int .i64 0] 44)) :=
  wpList_store_P (Pb.new W) c u y ho hx hw hy (k _ ⟨(h.allocd _).setFar (blk_lt h.blk) _, (Pb.new W).put c, blk_lt h.blk⟩)
/-- Two places. -/
structure BSt (w : World) (q : Pl) (g : Nat) (c : Pc) (g5 : Nat) (x : Pc) (W : World) : Prop where
  l : LSt w q g c W
  bx : Pb W g5 x
  lx : g < g5
theorem BSt.call {g5 : Nat} (h : BSt w q g c g5 x W) (hb : Below W.heap.size W W') : BSt w q g c g5 x W' := ⟨h.l.call hb, h.bx.call hb, h.lx⟩
theorem wpList_newB {ops : Array Oper} {rest : List Oper} {o : Oper} {a : Act} {Q : Exit → Act → World → Prop} (h : LSt w q g c W) (x : Pc) (u y : Operand) (ho : o.op = .store 44 u y) (hx : a.eval u = .pointer (some ⟨W.heap.size, 0, none⟩)) (hw : Region.wanted o (yielded ops a.tmps) = true) (hy : a.eval y = .agg x.arr)
    (k : ∀ W', BSt w q g c W.heap.size x W' → wpList Try.prog ops Q rest (a.put o.dst undef) W') : wpList Try.prog ops Q (o :: rest) a (W.alloc (.cells #[.int .i64 0, .int .i64 0, .int .i64 0, .int .i64 0, .int .i64 0] 44)) := by
  have hlt := h.bc.lt
  have hlo := h.lo
  exact wpList_store_P (Pb.new W) x u y ho hx hw hy (k _ ⟨⟨(h.st.allocd _).setFar (by omega) _, (h.bc.alloc _).far (by omega) _, h.lo⟩, (Pb.new W).put x, hlt⟩)
/-- Three places. -/
structure CSt (w : World) (q : Pl) (g : Nat) (c : Pc) (g5 : Nat) (x : Pc) (g7 : Nat) (f : Pc) (W : World) : Prop where
  b : BSt w q g c g5 x W
  bf : Pb W g7 f
  lf : g5 < g7
theorem CSt.call {g5 g7 : Nat} (h : CSt w q g c g5 x g7 f W) (hb : Below W.heap.size W W') : CSt w q g c g5 x g7 f W' := ⟨h.b.call hb, h.bf.call hb, h.lf⟩
theorem wpList_newC {ops : Array Oper} {rest : List Oper} {o : Oper} {a : Act} {Q : Exit → Act → World → Prop} {g5 : Nat} (h : BSt w q g c g5 x W) (f : Pc) (u y : Operand) (ho : o.op = .store 44 u y) (hx : a.eval u = .pointer (some ⟨W.heap.size, 0, none⟩)) (hw : Region.wanted o (yielded ops a.tmps) = true) (hy : a.eval y = .agg f.arr)
    (k : ∀ W', CSt w q g c g5 x W.heap.size f W' → wpList Try.prog ops Q rest (a.put o.dst undef) W') : wpList Try.prog ops Q (o :: rest) a (W.alloc (.cells #[.int .i64 0, .int .i64 0, .int .i64 0, .int .i64 0, .int .i64 0] 44)) := by
  have hlt := h.bx.lt
  have hlo := h.l.lo
  have hlx := h.lx
  exact wpList_store_P (Pb.new W) f u y ho hx hw hy (k _ ⟨⟨⟨(h.l.st.allocd _).setFar (by omega) _, (h.l.bc.alloc _).far (by omega) _, h.l.lo⟩, (h.bx.alloc _).far (by omega) _, h.lx⟩, (Pb.new W).put f, hlt⟩)
/-- The offset of the third one is set. -/
theorem wpList_offC {ops : Array Oper} {rest : List Oper} {o : Oper} {a : Act} {Q : Exit → Act → World → Prop} {g5 g7 : Nat} {v : Int} (h : CSt w q g c g5 x g7 f W) (u y : Operand) (ho : o.op = .store 3 u y) (hx : a.eval u = .pointer (some ⟨g7, 4, none⟩)) (hw : Region.wanted o (yielded ops a.tmps) = true) (hy : a.eval y = .int .i64 v)
    (k : ∀ W', CSt w q g c g5 x g7 { f with o := v } W' → wpList Try.prog ops Q rest (a.put o.dst undef) W') : wpList Try.prog ops Q (o :: rest) a W := by
  have hlo := h.b.l.lo
  have hlx := h.b.lx
  have hlf := h.lf
  have far : ∀ g' : Nat, g' ≠ g7 → (W.setCell ⟨g7, 4, none⟩ (.int .i64 v)).heap[g']? = W.heap[g']? := fun g' hne => by
    simp [World.setCell, Array.getElem?_modify, Ne.symm hne]
  have hf2 : Pb (W.setCell ⟨g7, 4, none⟩ (.int .i64 v)) g7 { f with o := v } := by
    have hb := h.bf
    unfold Pb at *
    simp [World.setCell, Array.getElem?_modify, hb, Pc.arr]
  refine wpList_store_at (CSt w q g c g5 x g7 { f with o := v }) u y ho hw hx hy rfl rfl sz3 (by rw [h.bf.cells.2.2.2.2]; rfl) (by have hb := h.bf; unfold Pb at hb; simp [World.frozen?, hb]) ?_ k
  exact ⟨⟨⟨⟨(far _ (by omega)).trans h.b.l.st.blk, h.b.l.st.bel.trans ⟨rfl, rfl, rfl, by simp [World.setCell], fun k hk => far k (by omega)⟩⟩, (far _ (by omega)).trans h.b.l.bc, h.b.l.lo⟩, (far _ (by omega)).trans h.b.bx, h.b.lx⟩, hf2, h.lf⟩
/-- The first one is stored anew. -/
theorem wpList_lastC {ops : Array Oper} {rest : List Oper} {o : Oper} {a : Act} {Q : Exit → Act → World → Prop} {g5 g7 : Nat} (h : CSt w q g c g5 x g7 f W) (d : Pc) (u y : Operand) (ho : o.op = .store 44 u y) (hx : a.eval u = .pointer (some ⟨g, 0, none⟩)) (hw : Region.wanted o (yielded ops a.tmps) = true) (hy : a.eval y = .agg d.arr)
    (k : ∀ W', LSt w q g d W' → wpList Try.prog ops Q rest (a.put o.dst undef) W') : wpList Try.prog ops Q (o :: rest) a W := by
  have hlo := h.b.l.lo
  exact wpList_store_P h.b.l.bc d u y ho hx hw hy (k _ ⟨h.b.l.st.setFar (by omega) _, h.b.l.bc.put d, h.b.l.lo⟩)
end
end Go.Proofs.Ytcbpnmcfiohndaa
