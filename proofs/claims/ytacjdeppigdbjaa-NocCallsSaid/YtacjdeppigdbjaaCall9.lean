/- What is done with a queue, as a row of it comes in. No statement is proved here. -/
import Derived.Test.YtacjdeppigdbjaaBoth
namespace Go.Proofs.Ytacjdeppigdbjaa
open Go.RowKit
set_option linter.unusedVariables false
set_option linter.unusedSimpArgs false

/-- A call: whether a message is taken, or else which one is put. -/
structure Cl where
  tk : Bool
  m : Msg
instance : Inhabited Cl := ⟨⟨false, zmsg⟩⟩
def Cl.cs (c : Cl) : List Value := .bool c.tk :: c.m.cs
def Cl.arr (c : Cl) : Array Value := c.cs.toArray
def zcl : Cl := ⟨false, zmsg⟩
theorem Cl.cs_length (c : Cl) : c.cs.length = 39 := by simp [Cl.cs, c.m.cs_length]
theorem Cl.arr_size (c : Cl) : c.arr.size = 39 := by simp [Cl.arr, c.cs_length]
theorem Cl.cs_one (c : Cl) : ∀ u ∈ c.cs, u.oneCell' = true := by
  intro u hu
  unfold Cl.cs at hu
  rcases List.mem_cons.1 hu with rfl | hu
  · rfl
  · exact c.m.cs_one u hu
theorem Cl.arr_one (c : Cl) : c.arr.all (·.oneCell') = true := all_oneCell_toArray c.cs_one
theorem Cl.at0 (c : Cl) : c.arr[0]? = some (.bool c.tk) := by simp [Cl.arr, Cl.cs]
theorem sz33 : (Try.prog.info? 33).map (·.size) = some 39 := by kernel_rfl
theorem zero33 (W : World) : (zeroValue 33).run Try.prog W = .ok (.agg zcl.arr) W := by kernel_rfl
theorem info33z : ∃ i, Try.prog.info? 33 = some i ∧ i.zero = some (.agg zcl.arr) ∧ i.size = 39 ∧ i.bytes = 80 := by
  have h : (Try.prog.info? 33).map (fun i => (i.zero, i.size, i.bytes)) = some (some (.agg zcl.arr), 39, 80) := by kernel_rfl
  obtain ⟨i, hi, he⟩ := Option.map_eq_some_iff.1 h
  simp only [Prod.mk.injEq] at he
  exact ⟨i, hi, he.1, he.2.1, he.2.2⟩
instance : Elt Cl where
  ty := 33
  sl := 22
  sz := 39
  by_ := 80
  cs := Cl.cs
  zv := .agg zcl.arr
  len := Cl.cs_length
  one := Cl.cs_one
  pos := by omega
  und := Try.underlying22
  inf := info33z
  zsz := zcl.arr_size
  few := by omega
  low := by omega
theorem boxb_range {W : World} {b : Nat} {m : Msg} (h : At W b 31 m.arr) : W.rangeAt b 0 m.cs := fun j v hv => by
  rw [Nat.zero_add, h.cell]
  simpa [Msg.arr] using hv
/-- The message within a call's block. -/
theorem call_msg {W : World} {b : Nat} {c : Cl} (h : At W b 33 c.arr) : W.rangeAt b 1 c.m.cs := fun j v hv => by
  rw [h.cell, Nat.add_comm]
  simpa [Cl.arr, Cl.cs] using hv
section
variable {ops : Array Oper} {rest : List Oper} {o : Oper} {a : Act} {W : World} {Q : Exit → Act → World → Prop}
theorem wpList_load33 {b off : Nat} {c : Cl} (hr : W.rangeAt b off c.cs) (x : Operand) (ho : o.op = .load 33 x) (hw : Region.wanted o (yielded ops a.tmps) = true) (hx : a.eval x = .pointer (some ⟨b, off, none⟩))
    (k : wpList Try.prog ops Q rest (a.put o.dst (.agg c.arr)) W) : wpList Try.prog ops Q (o :: rest) a W := by
  have := run_loadVar_mid (P := Try.prog) W b off 33 c.cs _ hr Try.underlying33 rfl (by rw [c.cs_length]; exact sz33)
  unfold wpList
  rw [if_pos hw]
  refine .inl ?_
  unfold Oper.wp execOp
  simp only [ho, hx, Instr.loadAt, Instr.sureAddr, Sem.run_bind, Sem.run_pure, Result.andThen_ok, this]
  exact k
end
theorem exec_build31 {o : Oper} {a : Act} (ho : o.op = .build 31 #[]) (W : World) : (execOp a.eval o).run Try.prog W = .ok (.value (.agg zmsg.arr)) W := by
  have h : (Instr.build 31 #[]).run Try.prog W = .ok (.agg zmsg.arr) W := by kernel_rfl
  unfold execOp
  simp only [ho, Sem.run_bind, List.map_toArray, List.map_nil, h, Result.andThen_ok, Sem.run_pure]
theorem brnew {w W : World} {g R : Nat} (room : Int) (hR : R = clampR room) (h : QQ w W g R [] []) :
    Calls Try.prog 11 #[.int .i64 room] W fun e W' => ∃ gr, e = .returned (.pointer (some ⟨gr, 0, none⟩)) ∧ BQ w W' g gr R [] [] [] := by
  obtain ⟨B, hB, hs, up⟩ := h.lift
  refine (rnew_any room hs).mono ?_
  rintro e W' ⟨gr, rfl, k1, k2, v, M, hr, h'⟩
  subst hR
  refine ⟨gr, rfl, k1, k2, v, M, hr, up W' _ (h'.perm ?_)⟩
  simp only [List.append_nil]
  refine (List.Perm.cons _ (List.perm_append_comm)).trans ?_
  exact (List.perm_middle).symm
end Go.Proofs.Ytacjdeppigdbjaa
