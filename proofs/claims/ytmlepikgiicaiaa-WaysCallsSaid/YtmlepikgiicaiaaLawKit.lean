/- What the laws' walks share: calls that come in are read. No statement is proved here. -/
import Derived.Test.YtmlepikgiicaiaaPlain
import Derived.Deep.CutBlock
namespace Go.Proofs.Ytmlepikgiicaiaa
open Go.RowKit
set_option linter.unusedVariables false
set_option linter.unusedSimpArgs false

theorem sz23 : (Try.prog.info? 23).map (·.size) = some 2 := by kernel_rfl
theorem cl_one (e : Cl) : e.arr.all (·.oneCell') = true := by unfold Cl.arr; simp [Value.oneCell']
theorem cl_size (e : Cl) : e.arr.size = 3 := by unfold Cl.arr; rfl
theorem cl_get0 (e : Cl) : e.arr[0]? = some (.int .i64 e.o) := by unfold Cl.arr; rfl
theorem cl_get1 (e : Cl) : e.arr[1]? = some (.int .i64 e.k) := by unfold Cl.arr; rfl
theorem cl_get2 (e : Cl) : e.arr[2]? = some (.int .i64 e.v) := by unfold Cl.arr; rfl
def Cl.wf (e : Cl) : Prop := e.k ≤ 9223372036854775807
section
variable {ops : Array Oper} {rest : List Oper} {o : Oper} {a : Act} {W : World} {Q : Exit → Act → World → Prop}
theorem load_cl {b off : Nat} {e : Cl} (hr : W.rangeAt b off (Elt.cs e)) : (loadVar 31 ⟨b, off, none⟩).run Try.prog W = .ok (.agg e.arr) W :=
  run_loadVar_mid (P := Try.prog) W b off 31 e.cs _ hr Try.underlying31 rfl sz31
theorem wpList_loadC {b off : Nat} {e : Cl} (hr : W.rangeAt b off (Elt.cs e)) (x : Operand) (ho : o.op = .load 31 x) (hw : Region.wanted o (yielded ops a.tmps) = true) (hx : a.eval x = .pointer (some ⟨b, off, none⟩))
    (k : wpList Try.prog ops Q rest (a.put o.dst (.agg e.arr)) W) : wpList Try.prog ops Q (o :: rest) a W := by
  unfold wpList
  rw [if_pos hw]
  refine .inl ?_
  unfold Oper.wp execOp
  simp only [ho, hx, Instr.loadAt, Instr.sureAddr, Sem.run_bind, Sem.run_pure, Result.andThen_ok, load_cl hr]
  exact k
end
section
variable {w W : World} {B n c : Nat} {A : Option Addr} {list : List Cl}
theorem addr_of (h : ERow w B A n c list) : ∃ b1 o1, 0 < n → A = some ⟨b1, o1, none⟩ := by
  cases A with
  | none => exact ⟨0, 0, fun hn => by have := h.2.2.2.1 rfl; have := h.2.1; omega⟩
  | some a =>
    obtain ⟨b, o, s⟩ := a
    refine ⟨b, o, fun hn => ?_⟩
    obtain ⟨hs, _⟩ := h.2.2.2.2 _ rfl hn
    simp only at hs
    rw [hs]
theorem at_cl {b1 o1 : Nat} (h : ERow w B (some ⟨b1, o1, none⟩) n c list) (k : Nat) (x : Cl) (hx : list[k]? = some x) : b1 < B ∧ w.rangeAt b1 (o1 + k * 3) (Elt.cs x) := by
  obtain ⟨b, off, e, hb, r⟩ := h.at_ k x hx
  injection e with e
  injection e with e1 e2
  subst e1; subst e2
  exact ⟨hb, r⟩
end
end Go.Proofs.Ytmlepikgiicaiaa
