/- What is done with a net, as a row of it comes in; both nets made; the document's row pinned. No statement is proved here. -/
import Derived.Test.YtacjdeppigdbjaaBeside10
import Derived.Test.YtacjdeppigdbjaaOpenL
namespace Go.Proofs.Ytacjdeppigdbjaa
open Go.ChangeShapes Go.WideShapes Go.ChangeAt Go.RowKit Go.Deep
set_option linter.unusedVariables false
set_option linter.unusedSimpArgs false

/-- A call: what is done, on which link, with which message. -/
structure Cn where
  wh : Int
  l : Lk
  m : Msg
instance : Inhabited Cn := ⟨⟨0, default, zmsg⟩⟩
def Cn.cs (c : Cn) : List Value := .int .i64 c.wh :: .int .i64 c.l.a :: .int .i64 c.l.b :: .int .i64 c.l.d :: c.m.cs
def Cn.arr (c : Cn) : Array Value := c.cs.toArray
def zcn : Cn := ⟨0, ⟨0, 0, 0⟩, zmsg⟩
theorem Cn.cs_length (c : Cn) : c.cs.length = 42 := by simp [Cn.cs, c.m.cs_length]
theorem Cn.arr_size (c : Cn) : c.arr.size = 42 := by simp [Cn.arr, c.cs_length]
theorem Cn.cs_one (c : Cn) : ∀ u ∈ c.cs, u.oneCell' = true := by
  intro u hu
  unfold Cn.cs at hu
  rcases List.mem_cons.1 hu with rfl | hu
  · rfl
  rcases List.mem_cons.1 hu with rfl | hu
  · rfl
  rcases List.mem_cons.1 hu with rfl | hu
  · rfl
  rcases List.mem_cons.1 hu with rfl | hu
  · rfl
  · exact c.m.cs_one u hu
theorem Cn.arr_one (c : Cn) : c.arr.all (·.oneCell') = true := all_oneCell_toArray c.cs_one
theorem Cn.at0 (c : Cn) : c.arr[0]? = some (.int .i64 c.wh) := by simp [Cn.arr, Cn.cs]
theorem Cn.at1 (c : Cn) : c.arr[1]? = some (.int .i64 c.l.a) := by simp [Cn.arr, Cn.cs]
theorem sz57 : (Try.prog.info? 57).map (·.size) = some 42 := by kernel_rfl
theorem zero57 (W : World) : (zeroValue 57).run Try.prog W = .ok (.agg zcn.arr) W := by kernel_rfl
theorem info57z : ∃ i, Try.prog.info? 57 = some i ∧ i.zero = some (.agg zcn.arr) ∧ i.size = 42 ∧ i.bytes = 104 := by
  have h : (Try.prog.info? 57).map (fun i => (i.zero, i.size, i.bytes)) = some (some (.agg zcn.arr), 42, 104) := by kernel_rfl
  obtain ⟨i, hi, he⟩ := Option.map_eq_some_iff.1 h
  simp only [Prod.mk.injEq] at he
  exact ⟨i, hi, he.1, he.2.1, he.2.2⟩
instance : Elt Cn where
  ty := 57
  sl := 49
  sz := 42
  by_ := 104
  cs := Cn.cs
  zv := .agg zcn.arr
  len := Cn.cs_length
  one := Cn.cs_one
  pos := by omega
  und := Try.underlying49
  inf := info57z
  zsz := zcn.arr_size
  few := by omega
  low := by omega
/-- The link and the message within a call's block. -/
theorem cn_link {W : World} {b : Nat} {c : Cn} (h : At W b 57 c.arr) : W.rangeAt b 1 c.l.cs := fun j v hv => by
  rw [h.cell, Nat.add_comm]
  have hj : j < 3 := (List.getElem?_eq_some_iff.1 hv).1
  rcases (show j = 0 ∨ j = 1 ∨ j = 2 by omega) with rfl | rfl | rfl <;> simpa [Cn.arr, Cn.cs, Lk.cs] using hv
theorem cn_msg {W : World} {b : Nat} {c : Cn} (h : At W b 57 c.arr) : W.rangeAt b 4 c.m.cs := fun j v hv => by
  rw [h.cell, Nat.add_comm]
  simpa [Cn.arr, Cn.cs] using hv
section
variable {ops : Array Oper} {rest : List Oper} {o : Oper} {a : Act} {W : World} {Q : Exit → Act → World → Prop}
theorem wpList_load57 {b off : Nat} {c : Cn} (hr : W.rangeAt b off c.cs) (x : Operand) (ho : o.op = .load 57 x) (hw : Region.wanted o (yielded ops a.tmps) = true) (hx : a.eval x = .pointer (some ⟨b, off, none⟩))
    (k : wpList Try.prog ops Q rest (a.put o.dst (.agg c.arr)) W) : wpList Try.prog ops Q (o :: rest) a W := by
  have := run_loadVar_mid (P := Try.prog) W b off 57 c.cs _ hr Try.underlying57 rfl (by rw [c.cs_length]; exact sz57)
  unfold wpList
  rw [if_pos hw]
  refine .inl ?_
  unfold Oper.wp execOp
  simp only [ho, hx, Instr.loadAt, Instr.sureAddr, Sem.run_bind, Sem.run_pure, Result.andThen_ok, this]
  exact k
end
theorem cellsOf57 : Try.prog.cellsOf 57 = 42 := by kernel_rfl
section
variable {H : Type} {enc : TypeId × Value → H} {W : World} {held : Bool}
theorem cn_dec (fuel : Nat) (cs : List Value) (x : DataW H × List MemPlace) (h : DataW.trod enc Try.prog W 0 (fun _ => true) held fuel 57 cs = some x) : ∃ c : Cn, True ∧ cs = c.cs := by
  obtain ⟨ys, n2, _, _, hl, hy, hfs⟩ := DataW.trod_struct Try.underlying57 h
  rw [cellsOf57] at hl
  have f0 := hfs 0 { name := "What", type := 3, offset := 0, embedded := false, tag := "", pkgPath := "", byteOffset := 0 } rfl
  have f1 := hfs 1 { name := "Link", type := 51, offset := 1, embedded := false, tag := "", pkgPath := "", byteOffset := 8 } rfl
  have f2 := hfs 2 { name := "M", type := 31, offset := 4, embedded := false, tag := "", pkgPath := "", byteOffset := 32 } rfl
  have hy : ys.length = 3 := hy
  rw [List.getElem?_eq_getElem (by omega)] at f0 f1 f2
  simp only [cellsOf3, cellsOf31, cellsK51] at f0 f1 f2
  obtain ⟨z, q0, -, w0⟩ := DataW.trod_int Try.underlying3 f0
  obtain ⟨l, _, q1⟩ := link_dec _ _ _ f1
  obtain ⟨m, _, q2⟩ := msg_dec _ _ _ f2
  refine ⟨⟨z, l, m⟩, trivial, ?_⟩
  have e : cs = cs.take 1 ++ ((cs.drop 1).take 3 ++ cs.drop 4) := by
    rw [show cs.drop 4 = (cs.drop 1).drop 3 by rw [List.drop_drop], List.take_append_drop, List.take_append_drop]
  rw [List.drop_zero] at q0
  rw [List.take_of_length_le (by simp; omega)] at q2
  rw [e, q0, q1, q2]
  rfl
theorem open_calls10 {A : Option Addr} {n c : Nat} {d : DataW H} {ps : List MemPlace} (hd : DataW.Trod enc Try.prog W 0 (fun _ => true) held 49 (.slice A n c) d ps) :
    ∃ xs : List Cn, ERow W W.heap.size A n c xs ∧ ∀ x ∈ xs, True := open_rowE (α := Cn) (fun _ => True) hd cellsOf57 cn_dec
end
theorem bn_new {w W : World} {g q u : Nat} {ps : List Nat} {c : Nat → List Msg} {L : Blks} (nodes room : Int) (h : NX w W g q u (clampN nodes) (clampR room) ps c L) :
    Calls Try.prog 23 #[.int .i64 nodes, .int .i64 room] W fun e W' => ∃ gr, e = .returned (.pointer (some ⟨gr, 0, none⟩)) ∧ BN w W' g gr (clampN nodes) (clampR room) c [] L := by
  obtain ⟨Y, hs, up⟩ := BN.made (xs := []) h
  refine (rnnew_any nodes room hs).mono ?_
  rintro e W' ⟨gr, rfl, h2⟩
  exact ⟨gr, rfl, up _ _ h2⟩
/-- Both nets, and the value v in which the document's has its row. -/
def BP (w W : World) (g gr n R : Nat) (c : Nat → List Msg) (xs : List Sn) (L : Blks) (v : Value) : Prop :=
  ∃ (q u : Nat) (ps : List Nat) (M0 : Blks), RL v xs M0 ∧ NX w W g q u n R ps c ((gr, C 68 #[.int .i64 (n : Int), .int .i64 (R : Int), v]) :: (M0 ++ L))
section
variable {w W W' : World} {g gr n R : Nat} {c : Nat → List Msg} {xs : List Sn} {L M : Blks} {v : Value}
theorem BN.pin (h : BN w W g gr n R c xs L) : ∃ v, BP w W g gr n R c xs L v := by
  obtain ⟨q, u, ps, Y, h1, up⟩ := h
  obtain ⟨Y1, _, _, _, hs, up1⟩ := h1.lift
  obtain ⟨_, _, v, M0, hr, hs2⟩ := up _ _ (hs.perm (List.perm_append_comm_assoc Y1 Y L))
  refine ⟨v, q, u, ps, M0, hr, up1 _ _ (hs2.perm ?_)⟩
  refine (List.Perm.cons _ (List.perm_append_comm_assoc M0 Y1 L)).trans ?_
  exact (List.perm_middle).symm
theorem BP.bn (h : BP w W g gr n R c xs L v) : BN w W g gr n R c xs L := by
  obtain ⟨q, u, ps, M0, hr, h1⟩ := h
  exact ⟨q, u, ps, _ :: M0, h1, fun W' M h' => ⟨h1.n16, h1.r4, v, M0, hr, h'⟩⟩
theorem BP.row (h : BP w W g gr n R c xs L v) : ∃ A p, v = .slice A xs.length p ∧ W.cell? ⟨gr, 2, none⟩ = some v := by
  obtain ⟨q, u, ps, M0, hr, h1⟩ := h
  obtain ⟨A, p, rfl, _⟩ := hr.form
  exact ⟨A, p, rfl, h1.cell 0 rfl 2 _ rfl⟩
theorem BP.drewN (h : BP w W g gr n R c xs L v) (j : Nat) : BP w (W.drewN j) g gr n R c xs L v := by
  obtain ⟨q, u, ps, M0, hr, h1⟩ := h
  exact ⟨q, u, ps, M0, hr, h1.drewN j⟩
theorem BP.st (h : BP w W g gr n R c xs L v) : St w W L := h.bn.st
theorem bp33 (h : BP w W g gr n R c xs L v) (hR : Rl n c xs) :
    Calls Try.prog 33 #[.pointer (some ⟨g, 0, none⟩)] W fun e W' => e = .returned (.int .i64 (xs.length : Nat)) ∧ BP w W' g gr n R c xs L v := by
  obtain ⟨q, u, ps, M0, hr, h1⟩ := h
  rw [hR.sum]
  refine (nlen_any h1).mono ?_
  rintro e W' ⟨rfl, h2⟩
  exact ⟨rfl, q, u, ps, M0, hr, h2⟩
theorem bp34 (h : BP w W g gr n R c xs L v) (l : Lk) :
    Calls Try.prog 34 #[.pointer (some ⟨g, 0, none⟩), .agg #[.int .i64 l.a, .int .i64 l.b, .int .i64 l.d]] W fun e W' => e = .returned (.int .i64 (roomOf n R c l)) ∧ BP w W' g gr n R c xs L v := by
  obtain ⟨q, u, ps, M0, hr, h1⟩ := h
  refine (nroom_any h1 l).mono ?_
  rintro e W' ⟨rfl, h2⟩
  exact ⟨rfl, q, u, ps, M0, hr, h2⟩
theorem bp35 (h : BP w W g gr n R c xs L v) (l : Lk) :
    Calls Try.prog 35 #[.pointer (some ⟨g, 0, none⟩), .agg #[.int .i64 l.a, .int .i64 l.b, .int .i64 l.d]] W fun e W' => ∃ A M, e = .returned (.slice A (allOf n c l).length (allOf n c l).length) ∧ AllV (.slice A (allOf n c l).length (allOf n c l).length) (allOf n c l) M ∧ BP w W' g gr n R c xs (M ++ L) v := by
  obtain ⟨q, u, ps, M0, hr, h1⟩ := h
  refine (nall_any h1 l).mono ?_
  rintro e W' ⟨A, M, rfl, hv, h2⟩
  refine ⟨A, M, rfl, hv, q, u, ps, M0, hr, h2.perm ?_⟩
  exact List.perm_middle.trans (List.Perm.cons _ (List.perm_append_comm_assoc M M0 L))
end
end Go.Proofs.Ytacjdeppigdbjaa
