/- What a row of elements that comes in is; a message, and a call, as they come in. No statement is proved here. -/
import Derived.Test.YtacjdeppigdbjaaCall9
import Derived.ProofKit
import Derived.OpenShut
import Derived.Deep.Slices
namespace Go.Proofs.Ytacjdeppigdbjaa
open Go.ChangeShapes Go.WideShapes Go.ChangeAt Go.RowKit Go.Deep
set_option linter.unusedVariables false
set_option linter.unusedSimpArgs false

theorem wf_u8 {n : Int} (h : (Lit.int .u8 n).wf = true) : 0 ≤ n ∧ n < 256 := by
  simp [Lit.wf, IntKind.min, IntKind.max, IntKind.bits, IntKind.signed] at h
  omega
theorem wf_i64 {n : Int} (h : (Lit.int .i64 n).wf = true) : -9223372036854775808 ≤ n ∧ n ≤ 9223372036854775807 := by
  simp [Lit.wf, IntKind.min, IntKind.max, IntKind.bits, IntKind.signed] at h
  omega
theorem one_at {cs : List Value} {i : Nat} {v : Value} (h : (cs.drop i).take 1 = [v]) : cs[i]? = some v := by
  have h1 : ((cs.drop i).take 1)[0]? = some v := by rw [h]; rfl
  rw [List.getElem?_take_of_lt (by omega), List.getElem?_drop] at h1
  simpa using h1
theorem cell_lt {W : World} {b o : Nat} {v : Value} (h : W.cell? ⟨b, o, none⟩ = some v) : b < W.heap.size := by
  rcases Nat.lt_or_ge b W.heap.size with h1 | h1
  · exact h1
  · simp [World.cell?, Array.getElem?_eq_none h1] at h
theorem open_rowE {α : Type} [E : Elt α] [Inhabited α] (p : α → Prop) {H : Type} {enc : TypeId × Value → H} {W : World} {held : Bool} {A : Option Addr} {n c : Nat} {d : DataW H} {ps : List MemPlace} (hd : DataW.Trod enc Try.prog W 0 (fun _ => true) held E.sl (.slice A n c) d ps)
    (hce : Try.prog.cellsOf E.ty = E.sz) (dec : ∀ fuel cs x, DataW.trod enc Try.prog W 0 (fun _ => true) held fuel E.ty cs = some x → ∃ m : α, p m ∧ cs = E.cs m) :
    ∃ xs : List α, ERow W W.heap.size A n c xs ∧ ∀ x ∈ xs, p x := by
  obtain ⟨fuel, hf⟩ := hd
  rcases open_slice E.und hf with ⟨hcs, _⟩ | ⟨a, len, cap, m, n', D, P, hcs, hb, hl, hm, hmm, _, hx⟩
  · simp [Value.cells] at hcs
    obtain ⟨rfl, rfl, rfl⟩ := hcs
    exact ⟨[], ERow.nil_ _ _, fun x h => by cases h⟩
  · simp [Value.cells] at hcs
    obtain ⟨rfl, rfl, rfl⟩ := hcs
    simp only [if_true] at hmm
    have each : ∀ r, r < n → ∃ x : α, p x ∧ ∀ j u, (E.cs x)[j]? = some u → W.cell? ((a.add (r * E.sz)).add j) = some u := fun r hr => by
      obtain ⟨l, h1, h2⟩ := hx r (by omega)
      rw [hce] at h1
      obtain ⟨x, hp, rfl⟩ := dec _ _ _ h2
      refine ⟨x, hp, fun j u hu => ?_⟩
      unfold World.cells? at h1
      rw [if_pos (Nat.zero_le _)] at h1
      have hj : j < E.sz := by have := (List.getElem?_eq_some_iff.1 hu).1; rwa [E.len] at this
      have := mapM_some_get h1 j j (by rw [List.getElem?_range hj])
      rw [this]
      exact hu
    obtain ⟨X, hX⟩ := choose_lt each
    refine ⟨(List.range n).map X, ⟨by simp, hl, hm, (fun h => by cases h), fun a' ha hn => ?_⟩, fun x hx => ?_⟩
    · injection ha with ha
      subst ha
      obtain ⟨b, off, spot⟩ := a
      have hp := E.pos
      have hl0 : 0 < (E.cs (X 0)).length := by rw [E.len]; exact hp
      have h0 := (hX 0 (by omega)).2 0 _ (List.getElem?_eq_getElem hl0)
      have hs : spot = none := by simpa [Addr.add] using World.cell?_spot h0
      subst hs
      rw [Addr.add_lit, Addr.add_lit] at h0
      refine ⟨rfl, cell_lt h0, fun j x hj => ?_⟩
      have hjn : j < n := by
        rcases Nat.lt_or_ge j n with h1 | h1
        · exact h1
        · rw [List.getElem?_eq_none (by simpa using h1)] at hj; cases hj
      have ex : x = X j := by
        simp only [List.getElem?_map, List.getElem?_range hjn, Option.map_some, Option.some.injEq] at hj
        exact hj.symm
      subst ex
      intro i u hu
      have := (hX j hjn).2 i u hu
      rwa [Addr.add_lit, Addr.add_lit] at this
    · obtain ⟨j, hj, rfl⟩ := List.mem_map.1 hx
      exact (hX j (by simpa using hj)).1
theorem cellsOf3 : Try.prog.cellsOf 3 = 1 := by kernel_rfl
theorem cellsOf4 : Try.prog.cellsOf 4 = 1 := by kernel_rfl
theorem cellsOf29 : Try.prog.cellsOf 29 = 32 := by kernel_rfl
theorem cellsOf31 : Try.prog.cellsOf 31 = 38 := by kernel_rfl
theorem cellsOf33 : Try.prog.cellsOf 33 = 39 := by kernel_rfl
def i64 (n : Int) : Prop := -9223372036854775808 ≤ n ∧ n ≤ 9223372036854775807
/-- A message's numbers are ints. -/
def Msg.wf (m : Msg) : Prop := i64 m.ki ∧ i64 m.fr ∧ i64 m.to ∧ i64 m.li
def natOf : Value → Nat
  | .int _ a => a.toNat
  | _ => 0
section
variable {H : Type} {enc : TypeId × Value → H} {W : World} {held : Bool}
theorem msg_dec (fuel : Nat) (cs : List Value) (x : DataW H × List MemPlace) (h : DataW.trod enc Try.prog W 0 (fun _ => true) held fuel 31 cs = some x) : ∃ m : Msg, m.wf ∧ cs = m.cs := by
  obtain ⟨ys, n2, _, _, hl, hy, hfs⟩ := DataW.trod_struct Try.underlying31 h
  rw [cellsOf31] at hl
  have f0 := hfs 0 { name := "Kind", type := 3, offset := 0, embedded := false, tag := "", pkgPath := "", byteOffset := 0 } rfl
  have f1 := hfs 1 { name := "From", type := 3, offset := 1, embedded := false, tag := "", pkgPath := "", byteOffset := 8 } rfl
  have f2 := hfs 2 { name := "To", type := 3, offset := 2, embedded := false, tag := "", pkgPath := "", byteOffset := 16 } rfl
  have f3 := hfs 3 { name := "Line", type := 3, offset := 3, embedded := false, tag := "", pkgPath := "", byteOffset := 24 } rfl
  have f4 := hfs 4 { name := "Has", type := 4, offset := 4, embedded := false, tag := "", pkgPath := "", byteOffset := 32 } rfl
  have f5 := hfs 5 { name := "Dirty", type := 4, offset := 5, embedded := false, tag := "", pkgPath := "", byteOffset := 33 } rfl
  have f6 := hfs 6 { name := "Data", type := 29, offset := 6, embedded := false, tag := "", pkgPath := "", byteOffset := 34 } rfl
  have hy : ys.length = 7 := hy
  rw [List.getElem?_eq_getElem (by omega)] at f0 f1 f2 f3 f4 f5 f6
  simp only [cellsOf3, cellsOf4, cellsOf29] at f0 f1 f2 f3 f4 f5 f6
  obtain ⟨z0, q0, -, w0⟩ := DataW.trod_int Try.underlying3 f0
  obtain ⟨z1, q1, -, w1⟩ := DataW.trod_int Try.underlying3 f1
  obtain ⟨z2, q2, -, w2⟩ := DataW.trod_int Try.underlying3 f2
  obtain ⟨z3, q3, -, w3⟩ := DataW.trod_int Try.underlying3 f3
  obtain ⟨b4, q4, -⟩ := DataW.trod_bool Try.underlying4 f4
  obtain ⟨b5, q5, -⟩ := DataW.trod_bool Try.underlying4 f5
  obtain ⟨zs, m, _, _, hl6, hz, hes⟩ := DataW.trod_array Try.underlying29 f6
  have c0 := one_at q0
  have c1 := one_at q1
  have c2 := one_at q2
  have c3 := one_at q3
  have c4 := one_at q4
  have c5 := one_at q5
  have cd : ∀ i, i < 32 → ∃ k : Nat, cs[6 + i]? = some (.int .u8 (k : Int)) := fun i hi => by
    have := hes i hi
    rw [List.getElem?_eq_getElem (by omega), cellsOf5, Nat.mul_one] at this
    obtain ⟨z, q, -, wz⟩ := DataW.trod_int Try.underlying5 this
    have h1 := one_at q
    rw [List.getElem?_take_of_lt hi, List.getElem?_drop] at h1
    obtain ⟨z1, z2⟩ := wf_u8 wz
    exact ⟨z.toNat, by rw [h1, Int.toNat_of_nonneg z1]⟩
  refine ⟨⟨z0, z1, z2, z3, b4, b5, (List.range 32).map fun i => natOf (cs.getD (6 + i) undef), by simp⟩, ⟨wf_i64 w0, wf_i64 w1, wf_i64 w2, wf_i64 w3⟩, ?_⟩
  refine List.ext_getElem? fun i => ?_
  unfold Msg.cs
  rcases (show i = 0 ∨ i = 1 ∨ i = 2 ∨ i = 3 ∨ i = 4 ∨ i = 5 ∨ (6 ≤ i ∧ i < 38) ∨ 38 ≤ i by omega) with rfl | rfl | rfl | rfl | rfl | rfl | ⟨h1, h2⟩ | h1
  · rw [c0]; rfl
  · rw [c1]; rfl
  · rw [c2]; rfl
  · rw [c3]; rfl
  · rw [c4]; rfl
  · rw [c5]; rfl
  · obtain ⟨j, rfl⟩ : ∃ j, i = 6 + j := ⟨i - 6, by omega⟩
    obtain ⟨k, hk⟩ := cd j (by omega)
    rw [hk, List.getElem?_append_right (by simp)]
    simp only [vals, List.length_cons, List.length_nil, List.getElem?_map]
    rw [show 6 + j - (0 + 1 + 1 + 1 + 1 + 1 + 1) = j by omega, List.getElem?_range (by omega)]
    simp [List.getD_eq_getElem?_getD, hk, natOf]
  · rw [List.getElem?_eq_none (by omega), List.getElem?_eq_none (by simp [vals]; omega)]
theorem call_dec (fuel : Nat) (cs : List Value) (x : DataW H × List MemPlace) (h : DataW.trod enc Try.prog W 0 (fun _ => true) held fuel 33 cs = some x) : ∃ c : Cl, True ∧ cs = c.cs := by
  obtain ⟨ys, n2, _, _, hl, hy, hfs⟩ := DataW.trod_struct Try.underlying33 h
  rw [cellsOf33] at hl
  have f0 := hfs 0 { name := "Take", type := 4, offset := 0, embedded := false, tag := "", pkgPath := "", byteOffset := 0 } rfl
  have f1 := hfs 1 { name := "M", type := 31, offset := 1, embedded := false, tag := "", pkgPath := "", byteOffset := 8 } rfl
  have hy : ys.length = 2 := hy
  rw [List.getElem?_eq_getElem (by omega)] at f0 f1
  simp only [cellsOf4, cellsOf31] at f0 f1
  obtain ⟨b, q0, -⟩ := DataW.trod_bool Try.underlying4 f0
  obtain ⟨m, hm, q1⟩ := msg_dec _ _ _ f1
  refine ⟨⟨b, m⟩, trivial, ?_⟩
  have e : cs = cs.take 1 ++ cs.drop 1 := (List.take_append_drop 1 cs).symm
  rw [List.drop_zero] at q0
  rw [List.take_of_length_le (by simp; omega)] at q1
  rw [e, q0, q1]
  rfl
end
theorem open_msgs {H : Type} {enc : TypeId × Value → H} {W : World} {held : Bool} {A : Option Addr} {n c : Nat} {d : DataW H} {ps : List MemPlace} (hd : DataW.Trod enc Try.prog W 0 (fun _ => true) held 41 (.slice A n c) d ps) :
    ∃ xs : List Msg, ERow W W.heap.size A n c xs ∧ ∀ x ∈ xs, x.wf := open_rowE (α := Msg) Msg.wf hd cellsOf31 msg_dec
theorem open_calls {H : Type} {enc : TypeId × Value → H} {W : World} {held : Bool} {A : Option Addr} {n c : Nat} {d : DataW H} {ps : List MemPlace} (hd : DataW.Trod enc Try.prog W 0 (fun _ => true) held 22 (.slice A n c) d ps) :
    ∃ xs : List Cl, ERow W W.heap.size A n c xs ∧ ∀ x ∈ xs, True := open_rowE (α := Cl) (fun _ => True) hd cellsOf33 call_dec
end Go.Proofs.Ytacjdeppigdbjaa
