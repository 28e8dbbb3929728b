/- Calls: a line that is enciphered, or deciphered. No statement is proved here. -/
import Derived.Test.YtfbgpfiodgibbaaPLaw
namespace Go.Proofs.Ytfbgpfiodgibbaa
open Go.RowKit
open A (arrV vals)
set_option linter.unusedVariables false
set_option linter.unusedSimpArgs false

structure Cl where
  op : Bool
  l : Int
  M : Nat
  m : Int
  xs : List Nat
  len : xs.length = 32
def Cl.cs (c : Cl) : List Value := [.bool c.op, .int .i64 c.l, .int .u64 (c.M : Int), .int .i64 c.m] ++ vals c.xs
def Cl.arr (c : Cl) : Array Value := c.cs.toArray
theorem Cl.cs_len (c : Cl) : c.cs.length = 36 := by unfold Cl.cs; rw [List.length_append, A.vals_length, c.len]; rfl
theorem Cl.size (c : Cl) : c.arr.size = 36 := by unfold Cl.arr; rw [List.size_toArray, c.cs_len]
structure Cl.Ok (c : Cl) : Prop where
  l : I64 c.l
  M : c.M < 18446744073709551616
  m : I64 c.m
  b : ∀ x ∈ c.xs, x < 256
theorem Cl.Ok.line {c : Cl} (h : c.Ok) : IsLine c.xs := ⟨c.len, h.b⟩
theorem sz38 : (Try.prog.info? 38).map (·.size) = some 36 := by kernel_rfl
def zcl : Cl := ⟨false, 0, 0, 0, zs32, rfl⟩
instance : Inhabited Cl := ⟨zcl⟩
theorem zero38 (W : World) : (zeroValue 38).run Try.prog W = .ok (.agg zcl.arr) W := by kernel_rfl
theorem info38 : (Try.prog.info? 38).map (fun i => (i.zero, i.size, i.bytes)) = some (some (.agg zcl.arr), 36, 64) := by kernel_rfl
instance : Elt Cl where
  ty := 38
  sl := 24
  sz := 36
  by_ := 64
  cs := Cl.cs
  zv := .agg zcl.arr
  len := Cl.cs_len
  one := by
    intro x u hu
    rcases List.mem_append.1 hu with hu | hu
    · simp only [List.mem_cons, List.not_mem_nil, or_false] at hu
      rcases hu with rfl | rfl | rfl | rfl <;> rfl
    · exact A.vals_one _ u hu
  pos := by omega
  und := Try.underlying24
  inf := infoOf info38
  zsz := zcl.size
  few := by omega
  low := by omega
section
variable {W : World} {b : Nat} {c : Cl}
theorem cl_0 (h : At W b 38 c.arr) : W.cell? ⟨b, 0, none⟩ = some (.bool c.op) := (h.cell 0).trans rfl
theorem cl_1 (h : At W b 38 c.arr) : W.cell? ⟨b, 1, none⟩ = some (.int .i64 c.l) := (h.cell 1).trans rfl
theorem cl_2 (h : At W b 38 c.arr) : W.cell? ⟨b, 2, none⟩ = some (.int .u64 (c.M : Int)) := (h.cell 2).trans rfl
theorem cl_3 (h : At W b 38 c.arr) : W.cell? ⟨b, 3, none⟩ = some (.int .i64 c.m) := (h.cell 3).trans rfl
theorem cl_4 (h : At W b 38 c.arr) : W.rangeAt b 4 (vals c.xs) := by
  intro j v hj
  rw [h.cell (4 + j)]
  unfold Cl.arr Cl.cs
  rw [List.getElem?_toArray, List.getElem?_append_right (by simp), List.length_cons, List.length_cons, List.length_cons, List.length_cons, List.length_nil, Nat.add_sub_cancel_left]
  exact hj
theorem cl_all (c : Cl) : c.arr.all (·.oneCell') = true := by
  unfold Cl.arr
  exact all_oneCell_toArray (Elt.one c)
theorem load_mid {off : Nat} {xs : List Nat} (h : W.rangeAt b off (vals xs)) (hl : xs.length = 32) : (loadVar 36 ⟨b, off, none⟩).run Try.prog W = .ok (.agg (arrV xs)) W :=
  run_loadVar_mid (P := Try.prog) W b off 36 (vals xs) _ h Try.underlying36 rfl (by rw [A.vals_length, hl]; exact sz36)
end
section
variable {ops : Array Oper} {rest : List Oper} {o : Oper} {a : Act} {W : World} {Q : Exit → Act → World → Prop} {b off : Nat} {xs : List Nat}
theorem wpList_load_mid36 (h : W.rangeAt b off (vals xs)) (hl : xs.length = 32) (x : Operand) (ho : o.op = .load 36 x) (hw : Region.wanted o (yielded ops a.tmps) = true) (hx : a.eval x = .pointer (some ⟨b, off, none⟩))
    (k : wpList Try.prog ops Q rest (a.put o.dst (.agg (arrV xs))) W) : wpList Try.prog ops Q (o :: rest) a W := by
  have hrun := load_mid h hl
  unfold wpList
  rw [if_pos hw]
  refine .inl ?_
  unfold Oper.wp execOp
  simp only [ho, hx, Instr.loadAt, Instr.sureAddr, Sem.run_bind, Sem.run_pure, Result.andThen_ok, hrun]
  exact k
theorem yields_mid36 {S : World → Prop} (x : Operand) (ho : o.op = .load 36 x) (hw : Region.wanted o (yielded ops a.tmps) = true) (hx : a.eval x = .pointer (some ⟨b, off, none⟩)) (hl : xs.length = 32) (hS : ∀ W, S W → W.rangeAt b off (vals xs)) : YieldsIf Try.prog ops S o (.agg (arrV xs)) a :=
  .inl ⟨hw, fun W hW => by
    unfold execOp
    simp only [ho, hx, Instr.loadAt, Instr.sureAddr, Sem.run_bind, Sem.run_pure, Result.andThen_ok, load_mid (hS W hW) hl]⟩
end
end Go.Proofs.Ytfbgpfiodgibbaa
