/- What is cached, items, calls: their cells, when two are one; rows of them. No statement is proved here. -/
import Derived.Test.YtnogmfpaipjdaaaElt2
import Derived.Test.YtnogmfpaipjdaaaSlc
import Derived.Test.YtnogmfpaipjdaaaLast
import Derived.Test.YtnogmfpaipjdaaaPPlan
import Derived.Laws.StructEq
import Derived.Deep.MidRow
import Derived.DeepKeys
namespace Go.Proofs.Ytnogmfpaipjdaaa
open Go.RowKit
open P (vals)
set_option linter.unusedVariables false
set_option linter.unusedSimpArgs false

theorem vals_length (xs : List Nat) : (vals xs).length = xs.length := by simp [vals]
theorem vals_getElem? (xs : List Nat) (j : Nat) (h : j < xs.length) : (vals xs)[j]? = some (.int .u8 ((xs.getD j 0 : Nat) : Int)) := by
  simp [vals, h]
theorem vals_one (xs : List Nat) : ∀ u ∈ vals xs, u.oneCell' = true := by
  intro u hu
  simp only [vals, List.mem_map] at hu
  obtain ⟨x, _, rfl⟩ := hu
  rfl
theorem vals_inj {xs ys : List Nat} (h : vals xs = vals ys) : xs = ys := by
  unfold vals at h
  refine List.map_inj_right (f := fun (x : Nat) => Value.int .u8 (x : Int)) (fun x y hxy => ?_) |>.1 h
  injection hxy with _ hxy
  omega
theorem infoOf {t : TypeId} {z : Value} {s b : Nat} (h : (Try.prog.info? t).map (fun i => (i.zero, i.size, i.bytes)) = some (some z, s, b)) : ∃ i, Try.prog.info? t = some i ∧ i.zero = some z ∧ i.size = s ∧ i.bytes = b := by
  obtain ⟨i, hi, he⟩ := Option.map_eq_some_iff.1 h
  simp only [Prod.mk.injEq] at he
  exact ⟨i, hi, he.1, he.2.1, he.2.2⟩
/-- 32 bytes as cells. -/
def lnA (xs : List Nat) : Array Value := (vals xs).toArray
theorem lnA_size (xs : List Nat) : (lnA xs).size = xs.length := by simp [lnA, vals_length]
theorem lnA_one (xs : List Nat) : (lnA xs).all (·.oneCell') = true := all_oneCell_toArray (vals_one xs)
def z32 : List Nat := List.replicate 32 0
theorem z32_len : z32.length = 32 := by simp [z32]
/-- An item: its level, its index. -/
structure It where
  l : Int
  x : Int
deriving DecidableEq
instance : Inhabited It := ⟨⟨0, 0⟩⟩
def It.cs (i : It) : List Value := [.int .i64 i.l, .int .i64 i.x]
def It.arr (i : It) : Array Value := #[.int .i64 i.l, .int .i64 i.x]
theorem It.arr_eq (i : It) : i.cs.toArray = i.arr := rfl
theorem It.arr_size (i : It) : i.arr.size = 2 := rfl
theorem It.arr_one (i : It) : i.arr.all (·.oneCell') = true := by simp [It.arr, Value.oneCell']
theorem It.at0 (i : It) : i.arr[0]? = some (.int .i64 i.l) := rfl
theorem It.at1 (i : It) : i.arr[1]? = some (.int .i64 i.x) := rfl
def zit : It := ⟨0, 0⟩
/-- What is cached: the item, its bank, its bytes, whether it is dirty. -/
structure Cd where
  it : It
  bk : Int
  bs : List Nat
  dt : Bool
  hl : bs.length = 32
deriving DecidableEq
def Cd.cs (c : Cd) : List Value := [.int .i64 c.it.l, .int .i64 c.it.x, .int .i64 c.bk] ++ (vals c.bs ++ [.bool c.dt])
def Cd.arr (c : Cd) : Array Value := c.cs.toArray
def zcd : Cd := ⟨zit, 0, z32, false, z32_len⟩
instance : Inhabited Cd := ⟨zcd⟩
theorem Cd.cs_length (c : Cd) : c.cs.length = 36 := by simp [Cd.cs, vals_length, c.hl]
theorem Cd.arr_size (c : Cd) : c.arr.size = 36 := by simp [Cd.arr, c.cs_length]
theorem Cd.cs_one (c : Cd) : ∀ u ∈ c.cs, u.oneCell' = true := by
  intro u hu
  unfold Cd.cs at hu
  rcases List.mem_append.1 hu with hu | hu
  · simp only [List.mem_cons, List.not_mem_nil, or_false] at hu
    rcases hu with rfl | rfl | rfl <;> rfl
  · rcases List.mem_append.1 hu with hu | hu
    · exact vals_one _ u hu
    · rw [List.mem_singleton] at hu; subst hu; rfl
theorem Cd.arr_one (c : Cd) : c.arr.all (·.oneCell') = true := all_oneCell_toArray c.cs_one
theorem Cd.arr_eq (c : Cd) : c.cs.toArray = c.arr := rfl
theorem Cd.at0 (c : Cd) : c.arr[0]? = some (.int .i64 c.it.l) := by simp [Cd.arr, Cd.cs]
theorem Cd.at1 (c : Cd) : c.arr[1]? = some (.int .i64 c.it.x) := by simp [Cd.arr, Cd.cs]
theorem Cd.at2 (c : Cd) : c.arr[2]? = some (.int .i64 c.bk) := by simp [Cd.arr, Cd.cs]
theorem Cd.at35 (c : Cd) : c.arr[35]? = some (.bool c.dt) := by
  unfold Cd.arr Cd.cs
  rw [List.getElem?_toArray, List.getElem?_append_right (by simp), List.getElem?_append_right (by simp [vals_length, c.hl])]
  simp [vals_length, c.hl]
theorem Cd.item_part (c : Cd) : c.arr.extract 0 2 = c.it.arr := by
  apply Array.ext'
  unfold Cd.arr Cd.cs It.arr
  rw [Array.toList_extract]
  rfl
theorem Cd.line_part (c : Cd) : c.arr.extract 3 35 = lnA c.bs := by
  apply Array.ext'
  unfold Cd.arr Cd.cs lnA
  rw [Array.toList_extract]
  simp only [List.extract]
  rw [List.drop_append, List.drop_eq_nil_of_le (by simp)]
  simp only [List.nil_append, List.length_cons, List.length_nil, Nat.reduceAdd, Nat.sub_self, List.drop_zero]
  rw [List.take_append_of_le_length (by rw [vals_length, c.hl]; omega), List.take_of_length_le (by rw [vals_length, c.hl]; omega)]
theorem Cd.cs_items (c : Cd) (i : Nat) (v : Value) (h : c.it.cs[i]? = some v) : c.cs[i]? = some v := by
  have : i < 2 := (List.getElem?_eq_some_iff.1 h).1
  unfold Cd.cs
  rw [List.getElem?_append_left (by simp; omega)]
  rcases (show i = 0 ∨ i = 1 by omega) with rfl | rfl <;> simpa [It.cs] using h
theorem Cd.cs_bytes (c : Cd) (i : Nat) (v : Value) (h : (vals c.bs)[i]? = some v) : c.cs[3 + i]? = some v := by
  have h1 := (List.getElem?_eq_some_iff.1 h).1
  unfold Cd.cs
  rw [List.getElem?_append_right (by simp), List.getElem?_append_left (by simp; omega)]
  simpa using h
/-- A call: what, which bank, which item, the bytes, the row of what is to be kept. -/
structure Cl where
  o : Int
  bk : Int
  it : It
  bs : List Nat
  kA : Option Addr
  kn : Nat
  kc : Nat
  hl : bs.length = 32
instance : Inhabited Cl := ⟨⟨0, 0, zit, z32, none, 0, 0, z32_len⟩⟩
def Cl.cs (c : Cl) : List Value := [.int .i64 c.o, .int .i64 c.bk, .int .i64 c.it.l, .int .i64 c.it.x] ++ (vals c.bs ++ [.slice c.kA c.kn c.kc])
def Cl.arr (c : Cl) : Array Value := c.cs.toArray
theorem Cl.cs_length (c : Cl) : c.cs.length = 37 := by simp [Cl.cs, vals_length, c.hl]
theorem Cl.arr_size (c : Cl) : c.arr.size = 37 := by simp [Cl.arr, c.cs_length]
theorem Cl.cs_one (c : Cl) : ∀ u ∈ c.cs, u.oneCell' = true := by
  intro u hu
  unfold Cl.cs at hu
  rcases List.mem_append.1 hu with hu | hu
  · simp only [List.mem_cons, List.not_mem_nil, or_false] at hu
    rcases hu with rfl | rfl | rfl | rfl <;> rfl
  · rcases List.mem_append.1 hu with hu | hu
    · exact vals_one _ u hu
    · rw [List.mem_singleton] at hu; subst hu; rfl
theorem Cl.arr_one (c : Cl) : c.arr.all (·.oneCell') = true := all_oneCell_toArray c.cs_one
theorem Cl.at0 (c : Cl) : c.arr[0]? = some (.int .i64 c.o) := by simp [Cl.arr, Cl.cs]
theorem Cl.at1 (c : Cl) : c.arr[1]? = some (.int .i64 c.bk) := by simp [Cl.arr, Cl.cs]
theorem Cl.at36 (c : Cl) : c.arr[36]? = some (.slice c.kA c.kn c.kc) := by
  unfold Cl.arr Cl.cs
  rw [List.getElem?_toArray, List.getElem?_append_right (by simp), List.getElem?_append_right (by simp [vals_length, c.hl])]
  simp [vals_length, c.hl]
theorem Cl.cs_items (c : Cl) (i : Nat) (v : Value) (h : c.it.cs[i]? = some v) : c.cs[2 + i]? = some v := by
  have : i < 2 := (List.getElem?_eq_some_iff.1 h).1
  unfold Cl.cs
  rw [List.getElem?_append_left (by simp; omega)]
  rcases (show i = 0 ∨ i = 1 by omega) with rfl | rfl <;> simpa [It.cs] using h
theorem Cl.cs_bytes (c : Cl) (i : Nat) (v : Value) (h : (vals c.bs)[i]? = some v) : c.cs[4 + i]? = some v := by
  have h1 := (List.getElem?_eq_some_iff.1 h).1
  unfold Cl.cs
  rw [List.getElem?_append_right (by simp), List.getElem?_append_left (by simp; omega)]
  simpa using h
theorem sz59 : (Try.prog.info? 59).map (·.size) = some 36 := by kernel_rfl
theorem sz42 : (Try.prog.info? 42).map (·.size) = some 2 := by kernel_rfl
theorem sz44 : (Try.prog.info? 44).map (·.size) = some 32 := by kernel_rfl
theorem sz47 : (Try.prog.info? 47).map (·.size) = some 37 := by kernel_rfl
theorem sz38 : (Try.prog.info? 38).map (·.size) = some 1 := by kernel_rfl
theorem sz4 : (Try.prog.info? 4).map (·.size) = some 1 := by kernel_rfl
theorem sz28 : (Try.prog.info? 28).map (·.size) = some 46 := by kernel_rfl
theorem sz71 : (Try.prog.info? 71).map (·.size) = some 47 := by kernel_rfl
theorem sz40 : (Try.prog.info? 40).map (·.size) = some 47 := by kernel_rfl
theorem zero59 (W : World) : (zeroValue 59).run Try.prog W = .ok (.agg zcd.arr) W := by kernel_rfl
theorem zero42 (W : World) : (zeroValue 42).run Try.prog W = .ok (.agg zit.arr) W := by kernel_rfl
theorem zero44 (W : World) : (zeroValue 44).run Try.prog W = .ok (.agg (lnA z32)) W := by kernel_rfl
def zclA : Array Value := (Cl.arr default)
theorem zero47 (W : World) : (zeroValue 47).run Try.prog W = .ok (.agg zclA) W := by kernel_rfl
theorem built59 : Try.prog.built 59 [] = some zcd.arr := by kernel_rfl
theorem built42 : Try.prog.built 42 [] = some zit.arr := by kernel_rfl
theorem built44 : Try.prog.built 44 [] = some (lnA z32) := by kernel_rfl
instance : Elt It where
  ty := 42
  sl := 45
  sz := 2
  by_ := 16
  cs := It.cs
  zv := .agg zit.arr
  len := fun _ => rfl
  one := by intro x u hu; simp only [It.cs, List.mem_cons, List.not_mem_nil, or_false] at hu; rcases hu with rfl | rfl <;> rfl
  pos := by omega
  und := Try.underlying45
  inf := infoOf (by kernel_rfl)
  zsz := rfl
  few := by omega
  low := by omega
instance : Elt Cd where
  ty := 59
  sl := 38
  sz := 36
  by_ := 64
  cs := Cd.cs
  zv := .agg zcd.arr
  len := Cd.cs_length
  one := Cd.cs_one
  pos := by omega
  und := Try.underlying38
  inf := infoOf (by kernel_rfl)
  zsz := zcd.arr_size
  few := by omega
  low := by omega
instance : Elt Cl where
  ty := 47
  sl := 29
  sz := 37
  by_ := 88
  cs := Cl.cs
  zv := .agg zclA
  len := Cl.cs_length
  one := Cl.cs_one
  pos := by omega
  und := Try.underlying29
  inf := infoOf (by kernel_rfl)
  zsz := Cl.arr_size default
  few := by omega
  low := by omega
/-- A nil row of what is cached, as an element. -/
structure Nv where
deriving Inhabited
theorem info38z : (Try.prog.info? 38).map (fun i => (i.zero, i.size, i.bytes)) = some (some (.slice none 0 0), 1, 24) := by kernel_rfl
instance : Elt Nv where
  ty := 38
  sl := 69
  sz := 1
  by_ := 24
  cs := fun _ => [.slice none 0 0]
  zv := .slice none 0 0
  len := fun _ => rfl
  one := by intro x u hu; simp only [List.mem_cons, List.not_mem_nil, or_false] at hu; rcases hu with rfl; rfl
  pos := by omega
  und := Try.underlying69
  inf := infoOf info38z
  zsz := rfl
  few := by omega
  low := by omega
end Go.Proofs.Ytnogmfpaipjdaaa
