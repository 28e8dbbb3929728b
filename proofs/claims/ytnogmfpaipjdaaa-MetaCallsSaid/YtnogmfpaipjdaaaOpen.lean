/- What a row of calls, an item that come in are. No statement is proved here. -/
import Derived.Test.YtnogmfpaipjdaaaLawK
import Derived.Test.YtnogmfpaipjdaaaPOpen
import Derived.ProofKit
import Derived.OpenShut
import Derived.Deep.Slices
namespace Go.Proofs.Ytnogmfpaipjdaaa
open Go.ChangeShapes Go.WideShapes Go.ChangeAt Go.RowKit Go.Deep
open P (vals)
set_option maxRecDepth 20000
set_option linter.unusedVariables false
set_option linter.unusedSimpArgs false

theorem wf_u8 {n : Int} (h : (Lit.int .u8 n).wf = true) : 0 ≤ n ∧ n < 256 := by
  simp [Lit.wf, IntKind.min, IntKind.max, IntKind.bits, IntKind.signed] at h
  omega
theorem wf_i64 {n : Int} (h : (Lit.int .i64 n).wf = true) : -9223372036854775808 ≤ n ∧ n ≤ 9223372036854775807 := by
  simp [Lit.wf, IntKind.min, IntKind.max, IntKind.bits, IntKind.signed] at h
  omega
theorem one_at {cs : List Value} {i : Nat} {v : Value} (h : (cs.drop i).take 1 = [v]) : cs[i]? = some v := by
  have h1 : ((cs.drop i).take 1)[0]? = some v := by rw [h]; rfl
  rw [List.getElem?_take_of_lt (by omega), List.getElem?_drop] at h1
  simpa using h1
theorem open_rowE {α : Type} [E : Elt α] [Inhabited α] (p : α → Prop) {H : Type} {enc : TypeId × Value → H} {W : World} {held : Bool} {A : Option Addr} {n c : Nat} {d : DataW H} {ps : List MemPlace} (hd : DataW.Trod enc Try.prog W 0 (fun _ => true) held E.sl (.slice A n c) d ps)
    (hce : Try.prog.cellsOf E.ty = E.sz) (dec : ∀ fuel cs x, DataW.trod enc Try.prog W 0 (fun _ => true) held fuel E.ty cs = some x → ∃ m : α, p m ∧ cs = E.cs m) :
    ∃ xs : List α, ERow W W.heap.size A n c xs ∧ ∀ x ∈ xs, p x := by
  obtain ⟨fuel, hf⟩ := hd
  rcases open_slice E.und hf with ⟨hcs, _⟩ | ⟨a, len, cap, m, n', D, P, hcs, hb, hl, hm, hmm, _, hx⟩
  · simp [Value.cells] at hcs
    obtain ⟨rfl, rfl, rfl⟩ := hcs
    exact ⟨[], ERow.nil_ _ _, fun x h => by cases h⟩
  · simp [Value.cells] at hcs
    obtain ⟨rfl, rfl, rfl⟩ := hcs
    simp only [if_true] at hmm
    have each : ∀ r, r < n → ∃ x : α, p x ∧ ∀ j u, (E.cs x)[j]? = some u → W.cell? ((a.add (r * E.sz)).add j) = some u := fun r hr => by
      obtain ⟨l, h1, h2⟩ := hx r (by omega)
      rw [hce] at h1
      obtain ⟨x, hp, rfl⟩ := dec _ _ _ h2
      refine ⟨x, hp, fun j u hu => ?_⟩
      unfold World.cells? at h1
      rw [if_pos (Nat.zero_le _)] at h1
      have hj : j < E.sz := by have := (List.getElem?_eq_some_iff.1 hu).1; rwa [E.len] at this
      have := mapM_some_get h1 j j (by rw [List.getElem?_range hj])
      rw [this]
      exact hu
    obtain ⟨X, hX⟩ := choose_lt each
    refine ⟨(List.range n).map X, ⟨by simp, hl, hm, (fun h => by cases h), fun a' ha hn => ?_⟩, fun x hx => ?_⟩
    · injection ha with ha
      subst ha
      obtain ⟨b, off, spot⟩ := a
      have hp := E.pos
      have hl0 : 0 < (E.cs (X 0)).length := by rw [E.len]; exact hp
      have h0 := (hX 0 (by omega)).2 0 _ (List.getElem?_eq_getElem hl0)
      have hs : spot = none := by simpa [Addr.add] using World.cell?_spot h0
      subst hs
      rw [Addr.add_lit, Addr.add_lit] at h0
      refine ⟨rfl, cell_lt h0, fun j x hj => ?_⟩
      have hjn : j < n := by
        rcases Nat.lt_or_ge j n with h1 | h1
        · exact h1
        · rw [List.getElem?_eq_none (by simpa using h1)] at hj; cases hj
      have ex : x = X j := by
        simp only [List.getElem?_map, List.getElem?_range hjn, Option.map_some, Option.some.injEq] at hj
        exact hj.symm
      subst ex
      intro i u hu
      have := (hX j hjn).2 i u hu
      rwa [Addr.add_lit, Addr.add_lit] at this
    · obtain ⟨j, hj, rfl⟩ := List.mem_map.1 hx
      exact (hX j (by simpa using hj)).1
theorem cellsOf3 : Try.prog.cellsOf 3 = 1 := by kernel_rfl
theorem cellsOf42 : Try.prog.cellsOf 42 = 2 := by kernel_rfl
theorem cellsOf44 : Try.prog.cellsOf 44 = 32 := by kernel_rfl
theorem cellsOf45 : Try.prog.cellsOf 45 = 1 := by kernel_rfl
theorem cellsOf47 : Try.prog.cellsOf 47 = 37 := by kernel_rfl
def natOf : Value → Nat
  | .int _ a => a.toNat
  | _ => 0
section
variable {H : Type} {enc : TypeId × Value → H} {W : World} {held : Bool}
theorem it_dec (base : Nat) (sp : Nat → Bool) (fuel : Nat) (cs : List Value) (x : DataW H × List MemPlace) (h : DataW.trod enc Try.prog W base sp held fuel 42 cs = some x) : ∃ s : It, cs = s.cs := by
  obtain ⟨ys, n2, _, _, hl, hy, hfs⟩ := DataW.trod_struct Try.underlying42 h
  rw [cellsOf42] at hl
  have f0 := hfs 0 { name := "Level", type := 3, offset := 0, embedded := false, tag := "", pkgPath := "", byteOffset := 0 } rfl
  have f1 := hfs 1 { name := "Index", type := 3, offset := 1, embedded := false, tag := "", pkgPath := "", byteOffset := 8 } rfl
  have hy : ys.length = 2 := hy
  rw [List.getElem?_eq_getElem (by omega)] at f0 f1
  simp only [cellsOf3] at f0 f1
  obtain ⟨z0, q0, -, w0⟩ := DataW.trod_int Try.underlying3 f0
  obtain ⟨z1, q1, -, w1⟩ := DataW.trod_int Try.underlying3 f1
  have c0 := one_at q0
  have c1 := one_at q1
  refine ⟨⟨z0, z1⟩, ?_⟩
  refine List.ext_getElem? fun i => ?_
  unfold It.cs
  rcases (show i = 0 ∨ i = 1 ∨ 2 ≤ i by omega) with rfl | rfl | h1
  · rw [c0]; rfl
  · rw [c1]; rfl
  · rw [List.getElem?_eq_none (by omega), List.getElem?_eq_none (by simp; omega)]
/-- The row of what is to be kept, of a call that comes in. -/
def KeepIn (W : World) (c : Cl) : Prop := ∃ ks : List It, ERow W W.heap.size c.kA c.kn c.kc ks
theorem call_dec (fuel : Nat) (cs : List Value) (x : DataW H × List MemPlace) (h : DataW.trod enc Try.prog W 0 (fun _ => true) held fuel 47 cs = some x) : ∃ c : Cl, KeepIn W c ∧ cs = c.cs := by
  obtain ⟨ys, n2, _, _, hl, hy, hfs⟩ := DataW.trod_struct Try.underlying47 h
  rw [cellsOf47] at hl
  have f0 := hfs 0 { name := "What", type := 3, offset := 0, embedded := false, tag := "", pkgPath := "", byteOffset := 0 } rfl
  have f1 := hfs 1 { name := "Bank", type := 3, offset := 1, embedded := false, tag := "", pkgPath := "", byteOffset := 8 } rfl
  have f2 := hfs 2 { name := "Item", type := 42, offset := 2, embedded := false, tag := "", pkgPath := "", byteOffset := 16 } rfl
  have f3 := hfs 3 { name := "Bytes", type := 44, offset := 4, embedded := false, tag := "", pkgPath := "", byteOffset := 32 } rfl
  have f4 := hfs 4 { name := "Keep", type := 45, offset := 36, embedded := false, tag := "", pkgPath := "", byteOffset := 64 } rfl
  have hy : ys.length = 5 := hy
  rw [List.getElem?_eq_getElem (by omega)] at f0 f1 f2 f3 f4
  simp only [cellsOf3, cellsOf42, cellsOf44, cellsOf45] at f0 f1 f2 f3 f4
  obtain ⟨z0, q0, -, w0⟩ := DataW.trod_int Try.underlying3 f0
  obtain ⟨z1, q1, -, w1⟩ := DataW.trod_int Try.underlying3 f1
  obtain ⟨it, q2⟩ := it_dec _ _ _ _ _ f2
  obtain ⟨zs, mm, _, _, hl6, hz, hes⟩ := DataW.trod_array Try.underlying44 f3
  have c0 := one_at q0
  have c1 := one_at q1
  have ci : ∀ i, i < 2 → cs[2 + i]? = it.cs[i]? := fun i hi => by
    rw [← q2, List.getElem?_take_of_lt hi, List.getElem?_drop]
  have cd : ∀ i, i < 32 → ∃ k : Nat, k < 256 ∧ cs[4 + i]? = some (.int .u8 (k : Int)) := fun i hi => by
    have := hes i hi
    rw [List.getElem?_eq_getElem (by omega), cellsOf5, Nat.mul_one] at this
    obtain ⟨z, q, -, wz⟩ := DataW.trod_int Try.underlying5 this
    have h1 := one_at q
    rw [List.getElem?_take_of_lt hi, List.getElem?_drop] at h1
    obtain ⟨z1, z2⟩ := wf_u8 wz
    exact ⟨z.toNat, by omega, by rw [h1, Int.toNat_of_nonneg z1]⟩
  obtain ⟨A, n, c, qs, ks, hk⟩ : ∃ A n c, (cs.drop 36).take 1 = [.slice A n c] ∧ ∃ ks : List It, ERow W W.heap.size A n c ks := by
    have keep := fun A n c (e : (cs.drop 36).take 1 = [.slice A n c]) => open_rowE (α := It) (fun _ => True) (W := W) (A := A) (n := n) (c := c) (held := held) (enc := enc) (d := (ys[4]'(by omega)).1) (ps := (ys[4]'(by omega)).2) ⟨n2, by rw [e] at f4; exact f4⟩ cellsOf42 (fun fuel cs x hx => by obtain ⟨s, hs⟩ := it_dec _ _ _ _ _ hx; exact ⟨s, trivial, hs⟩)
    rcases open_slice Try.underlying45 f4 with ⟨hcs, _⟩ | ⟨a, len, cap, m, n', D, P, hcs, _⟩
    · obtain ⟨xs, h1, -⟩ := keep _ _ _ hcs
      exact ⟨none, 0, 0, hcs, xs, h1⟩
    · obtain ⟨xs, h1, -⟩ := keep _ _ _ hcs
      exact ⟨_, _, _, hcs, xs, h1⟩
  have c4 := one_at qs
  refine ⟨⟨z0, z1, it, (List.range 32).map fun i => natOf (cs.getD (4 + i) undef), A, n, c, by simp⟩, ⟨ks, hk⟩, ?_⟩
  refine List.ext_getElem? fun i => ?_
  unfold Cl.cs
  rcases (show i = 0 ∨ i = 1 ∨ i = 2 ∨ i = 3 ∨ (4 ≤ i ∧ i < 36) ∨ i = 36 ∨ 37 ≤ i by omega) with rfl | rfl | rfl | rfl | ⟨h1, h2⟩ | rfl | h1
  · rw [c0]; rfl
  · rw [c1]; rfl
  · rw [ci 0 (by omega)]; rfl
  · rw [ci 1 (by omega)]; rfl
  · obtain ⟨j, rfl⟩ : ∃ j, i = 4 + j := ⟨i - 4, by omega⟩
    obtain ⟨k, _, hk⟩ := cd j (by omega)
    rw [hk, List.getElem?_append_right (by simp), List.getElem?_append_left (by simp [vals]; omega)]
    simp only [vals, List.length_cons, List.length_nil, List.getElem?_map]
    rw [show 4 + j - (0 + 1 + 1 + 1 + 1) = j by omega, List.getElem?_range (by omega)]
    simp [List.getD_eq_getElem?_getD, hk, natOf]
  · rw [c4, List.getElem?_append_right (by simp), List.getElem?_append_right (by simp [vals])]
    simp [vals]
  · rw [List.getElem?_eq_none (by omega), List.getElem?_eq_none (by simp [vals]; omega)]
theorem open_item {base : Nat} {sp : Nat → Bool} {r : Reach} {b0 : Nat} {v : Value} {d : DataW H} {ps : List MemPlace} (ho : Value.okWide Try.prog W r b0 42 v) (hd : DataW.Trod enc Try.prog W base sp held 42 v d ps) : ∃ s : It, v = .agg s.arr ∧ True := by
  simp only [Value.okWide, Try.underlying42] at ho
  obtain ⟨cs, rfl, -⟩ := ho
  obtain ⟨fuel, hf⟩ := hd
  obtain ⟨s, h1⟩ := it_dec _ _ fuel cs.toList _ hf
  refine ⟨s, ?_, trivial⟩
  congr 1
  apply Array.ext'
  rw [h1]; rfl
end
theorem open_calls {H : Type} {enc : TypeId × Value → H} {W : World} {held : Bool} {A : Option Addr} {n c : Nat} {d : DataW H} {ps : List MemPlace} (hd : DataW.Trod enc Try.prog W 0 (fun _ => true) held 29 (.slice A n c) d ps) :
    ∃ xs : List Cl, ERow W W.heap.size A n c xs ∧ ∀ x ∈ xs, KeepIn W x := open_rowE (α := Cl) (KeepIn W) hd cellsOf47 call_dec
end Go.Proofs.Ytnogmfpaipjdaaa
