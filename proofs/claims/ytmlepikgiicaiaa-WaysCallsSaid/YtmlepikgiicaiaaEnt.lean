/- The elements that this seat's rows have: entries, pairs, calls, numbers. No statement is proved here. -/
import Derived.Test.YtmlepikgiicaiaaElt2
import Derived.Test.YtmlepikgiicaiaaSlc
import Derived.Test.YtmlepikgiicaiaaLast
namespace Go.Proofs.Ytmlepikgiicaiaa
open Go.RowKit
set_option linter.unusedVariables false
set_option linter.unusedSimpArgs false

/-- A number and its value. -/
structure Ent where
  k : Int
  v : Int
deriving DecidableEq
instance : Inhabited Ent := ⟨⟨0, 0⟩⟩
def Ent.cs (e : Ent) : List Value := [.int .i64 e.k, .int .i64 e.v]
def Ent.arr (e : Ent) : Array Value := #[.int .i64 e.k, .int .i64 e.v]
theorem Ent.arr_eq (e : Ent) : e.cs.toArray = e.arr := rfl
/-- The document's: the same, of another type. -/
structure Pr where
  k : Int
  v : Int
deriving DecidableEq
instance : Inhabited Pr := ⟨⟨0, 0⟩⟩
def Pr.cs (e : Pr) : List Value := [.int .i64 e.k, .int .i64 e.v]
def Pr.arr (e : Pr) : Array Value := #[.int .i64 e.k, .int .i64 e.v]
/-- A call: what, of which number, with which value. -/
structure Cl where
  o : Int
  k : Int
  v : Int
instance : Inhabited Cl := ⟨⟨0, 0, 0⟩⟩
def Cl.cs (e : Cl) : List Value := [.int .i64 e.o, .int .i64 e.k, .int .i64 e.v]
def Cl.arr (e : Cl) : Array Value := #[.int .i64 e.o, .int .i64 e.k, .int .i64 e.v]
theorem infoOf {t : TypeId} {z : Value} {s b : Nat} (h : (Try.prog.info? t).map (fun i => (i.zero, i.size, i.bytes)) = some (some z, s, b)) : ∃ i, Try.prog.info? t = some i ∧ i.zero = some z ∧ i.size = s ∧ i.bytes = b := by
  obtain ⟨i, hi, he⟩ := Option.map_eq_some_iff.1 h
  simp only [Prod.mk.injEq] at he
  exact ⟨i, hi, he.1, he.2.1, he.2.2⟩
theorem sz57 : (Try.prog.info? 57).map (·.size) = some 2 := by kernel_rfl
theorem sz40 : (Try.prog.info? 40).map (·.size) = some 2 := by kernel_rfl
theorem sz31 : (Try.prog.info? 31).map (·.size) = some 3 := by kernel_rfl
theorem sz55 : (Try.prog.info? 55).map (·.size) = some 1 := by kernel_rfl
theorem sz54 : (Try.prog.info? 54).map (·.size) = some 2 := by kernel_rfl
theorem zero57 (W : World) : (zeroValue 57).run Try.prog W = .ok (.agg #[.int .i64 0, .int .i64 0]) W := by kernel_rfl
theorem zero31 (W : World) : (zeroValue 31).run Try.prog W = .ok (.agg #[.int .i64 0, .int .i64 0, .int .i64 0]) W := by kernel_rfl
instance : Elt Ent where
  ty := 57
  sl := 55
  sz := 2
  by_ := 16
  cs := Ent.cs
  zv := .agg #[.int .i64 0, .int .i64 0]
  len := fun _ => rfl
  one := by intro x u hu; simp only [Ent.cs, List.mem_cons, List.not_mem_nil, or_false] at hu; rcases hu with rfl | rfl <;> rfl
  pos := by omega
  und := Try.underlying55
  inf := infoOf (by kernel_rfl)
  zsz := rfl
  few := by omega
  low := by omega
instance : Elt Pr where
  ty := 40
  sl := 41
  sz := 2
  by_ := 16
  cs := Pr.cs
  zv := .agg #[.int .i64 0, .int .i64 0]
  len := fun _ => rfl
  one := by intro x u hu; simp only [Pr.cs, List.mem_cons, List.not_mem_nil, or_false] at hu; rcases hu with rfl | rfl <;> rfl
  pos := by omega
  und := Try.underlying41
  inf := infoOf (by kernel_rfl)
  zsz := rfl
  few := by omega
  low := by omega
instance : Elt Cl where
  ty := 31
  sl := 24
  sz := 3
  by_ := 24
  cs := Cl.cs
  zv := .agg #[.int .i64 0, .int .i64 0, .int .i64 0]
  len := fun _ => rfl
  one := by intro x u hu; simp only [Cl.cs, List.mem_cons, List.not_mem_nil, or_false] at hu; rcases hu with rfl | rfl | rfl <;> rfl
  pos := by omega
  und := Try.underlying24
  inf := infoOf (by kernel_rfl)
  zsz := rfl
  few := by omega
  low := by omega
instance : Elt Int where
  ty := 3
  sl := 45
  sz := 1
  by_ := 8
  cs := fun n => [.int .i64 n]
  zv := .int .i64 0
  len := fun _ => rfl
  one := by intro x u hu; simp only [List.mem_cons, List.not_mem_nil, or_false] at hu; rcases hu with rfl; rfl
  pos := by omega
  und := Try.underlying45
  inf := infoOf (by kernel_rfl)
  zsz := rfl
  few := by omega
  low := by omega
end Go.Proofs.Ytmlepikgiicaiaa
