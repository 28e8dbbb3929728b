/- What a row of elements that comes in is; a message, and a call, as they come in. No statement is proved here. -/
import Derived.Test.YtmlepikgiicaiaaLawKit
import Derived.ProofKit
import Derived.OpenShut
import Derived.Deep.Slices
namespace Go.Proofs.Ytmlepikgiicaiaa
open Go.ChangeShapes Go.WideShapes Go.ChangeAt Go.RowKit Go.Deep
set_option linter.unusedVariables false
set_option linter.unusedSimpArgs false

theorem wf_u8 {n : Int} (h : (Lit.int .u8 n).wf = true) : 0 ≤ n ∧ n < 256 := by
  simp [Lit.wf, IntKind.min, IntKind.max, IntKind.bits, IntKind.signed] at h
  omega
theorem wf_i64 {n : Int} (h : (Lit.int .i64 n).wf = true) : -9223372036854775808 ≤ n ∧ n ≤ 9223372036854775807 := by
  simp [Lit.wf, IntKind.min, IntKind.max, IntKind.bits, IntKind.signed] at h
  omega
theorem one_at {cs : List Value} {i : Nat} {v : Value} (h : (cs.drop i).take 1 = [v]) : cs[i]? = some v := by
  have h1 : ((cs.drop i).take 1)[0]? = some v := by rw [h]; rfl
  rw [List.getElem?_take_of_lt (by omega), List.getElem?_drop] at h1
  simpa using h1
theorem cell_lt {W : World} {b o : Nat} {v : Value} (h : W.cell? ⟨b, o, none⟩ = some v) : b < W.heap.size := by
  rcases Nat.lt_or_ge b W.heap.size with h1 | h1
  · exact h1
  · simp [World.cell?, Array.getElem?_eq_none h1] at h
theorem open_rowE {α : Type} [E : Elt α] [Inhabited α] (p : α → Prop) {H : Type} {enc : TypeId × Value → H} {W : World} {held : Bool} {A : Option Addr} {n c : Nat} {d : DataW H} {ps : List MemPlace} (hd : DataW.Trod enc Try.prog W 0 (fun _ => true) held E.sl (.slice A n c) d ps)
    (hce : Try.prog.cellsOf E.ty = E.sz) (dec : ∀ fuel cs x, DataW.trod enc Try.prog W 0 (fun _ => true) held fuel E.ty cs = some x → ∃ m : α, p m ∧ cs = E.cs m) :
    ∃ xs : List α, ERow W W.heap.size A n c xs ∧ ∀ x ∈ xs, p x := by
  obtain ⟨fuel, hf⟩ := hd
  rcases open_slice E.und hf with ⟨hcs, _⟩ | ⟨a, len, cap, m, n', D, P, hcs, hb, hl, hm, hmm, _, hx⟩
  · simp [Value.cells] at hcs
    obtain ⟨rfl, rfl, rfl⟩ := hcs
    exact ⟨[], ERow.nil_ _ _, fun x h => by cases h⟩
  · simp [Value.cells] at hcs
    obtain ⟨rfl, rfl, rfl⟩ := hcs
    simp only [if_true] at hmm
    have each : ∀ r, r < n → ∃ x : α, p x ∧ ∀ j u, (E.cs x)[j]? = some u → W.cell? ((a.add (r * E.sz)).add j) = some u := fun r hr => by
      obtain ⟨l, h1, h2⟩ := hx r (by omega)
      rw [hce] at h1
      obtain ⟨x, hp, rfl⟩ := dec _ _ _ h2
      refine ⟨x, hp, fun j u hu => ?_⟩
      unfold World.cells? at h1
      rw [if_pos (Nat.zero_le _)] at h1
      have hj : j < E.sz := by have := (List.getElem?_eq_some_iff.1 hu).1; rwa [E.len] at this
      have := mapM_some_get h1 j j (by rw [List.getElem?_range hj])
      rw [this]
      exact hu
    obtain ⟨X, hX⟩ := choose_lt each
    refine ⟨(List.range n).map X, ⟨by simp, hl, hm, (fun h => by cases h), fun a' ha hn => ?_⟩, fun x hx => ?_⟩
    · injection ha with ha
      subst ha
      obtain ⟨b, off, spot⟩ := a
      have hp := E.pos
      have hl0 : 0 < (E.cs (X 0)).length := by rw [E.len]; exact hp
      have h0 := (hX 0 (by omega)).2 0 _ (List.getElem?_eq_getElem hl0)
      have hs : spot = none := by simpa [Addr.add] using World.cell?_spot h0
      subst hs
      rw [Addr.add_lit, Addr.add_lit] at h0
      refine ⟨rfl, cell_lt h0, fun j x hj => ?_⟩
      have hjn : j < n := by
        rcases Nat.lt_or_ge j n with h1 | h1
        · exact h1
        · rw [List.getElem?_eq_none (by simpa using h1)] at hj; cases hj
      have ex : x = X j := by
        simp only [List.getElem?_map, List.getElem?_range hjn, Option.map_some, Option.some.injEq] at hj
        exact hj.symm
      subst ex
      intro i u hu
      have := (hX j hjn).2 i u hu
      rwa [Addr.add_lit, Addr.add_lit] at this
    · obtain ⟨j, hj, rfl⟩ := List.mem_map.1 hx
      exact (hX j (by simpa using hj)).1
theorem cellsOf3 : Try.prog.cellsOf 3 = 1 := by kernel_rfl
theorem cellsOf31 : Try.prog.cellsOf 31 = 3 := by kernel_rfl
section
variable {H : Type} {enc : TypeId × Value → H} {W : World} {held : Bool}
theorem call_dec (fuel : Nat) (cs : List Value) (x : DataW H × List MemPlace) (h : DataW.trod enc Try.prog W 0 (fun _ => true) held fuel 31 cs = some x) : ∃ c : Cl, c.wf ∧ cs = Elt.cs c := by
  obtain ⟨ys, n2, _, _, hl, hy, hfs⟩ := DataW.trod_struct Try.underlying31 h
  rw [cellsOf31] at hl
  have f0 := hfs 0 { name := "What", type := 3, offset := 0, embedded := false, tag := "", pkgPath := "", byteOffset := 0 } rfl
  have f1 := hfs 1 { name := "Key", type := 3, offset := 1, embedded := false, tag := "", pkgPath := "", byteOffset := 8 } rfl
  have f2 := hfs 2 { name := "Value", type := 3, offset := 2, embedded := false, tag := "", pkgPath := "", byteOffset := 16 } rfl
  have hy : ys.length = 3 := hy
  rw [List.getElem?_eq_getElem (by omega)] at f0 f1 f2
  simp only [cellsOf3] at f0 f1 f2
  obtain ⟨z0, q0, -, w0⟩ := DataW.trod_int Try.underlying3 f0
  obtain ⟨z1, q1, -, w1⟩ := DataW.trod_int Try.underlying3 f1
  obtain ⟨z2, q2, -, w2⟩ := DataW.trod_int Try.underlying3 f2
  have c0 := one_at q0
  have c1 := one_at q1
  have c2 := one_at q2
  refine ⟨⟨z0, z1, z2⟩, (wf_i64 w1).2, ?_⟩
  refine List.ext_getElem? fun i => ?_
  rcases (show i = 0 ∨ i = 1 ∨ i = 2 ∨ 3 ≤ i by omega) with rfl | rfl | rfl | h1
  · rw [c0]; rfl
  · rw [c1]; rfl
  · rw [c2]; rfl
  · rw [List.getElem?_eq_none (by omega), List.getElem?_eq_none (by simpa [Elt.cs, Cl.cs] using h1)]
end
theorem open_calls {H : Type} {enc : TypeId × Value → H} {W : World} {held : Bool} {A : Option Addr} {n c : Nat} {d : DataW H} {ps : List MemPlace} (hd : DataW.Trod enc Try.prog W 0 (fun _ => true) held 24 (.slice A n c) d ps) :
    ∃ xs : List Cl, ERow W W.heap.size A n c xs ∧ ∀ x ∈ xs, x.wf := open_rowE (α := Cl) Cl.wf hd cellsOf31 call_dec
theorem cell_int {W : World} {r : Reach} {b0 : Nat} {v : Value} (h : Cell.okWide Try.prog W r b0 3 v) : ∃ n, v = .int .i64 n := by
  simp only [Cell.okWide, Try.underlying3] at h
  cases v <;> simp_all [Cell.ok, Try.underlying3]
theorem types23 : Try.prog.cellTypes Try.prog.depth 23 = some [3, 3] := by kernel_rfl
/-- A shape that comes in: its sets, its ways. -/
theorem open_shape {W : World} {r : Reach} {b0 : Nat} {v : Value} (ho : Value.okWide Try.prog W r b0 23 v) : ∃ l : Int × Int, v = .agg #[.int .i64 l.1, .int .i64 l.2] := by
  simp only [Value.okWide, Try.underlying23] at ho
  obtain ⟨cs, rfl, hs, ts, hts, -, hc⟩ := ho
  have hs' : cs.size = 2 := hs.trans (by kernel_rfl)
  obtain rfl := Option.some.inj (hts.symm.trans types23)
  have at_ : ∀ i, i < 2 → ∃ v, cs[i]? = some v := fun i hi => ⟨cs[i]'(by omega), Array.getElem?_eq_getElem (by omega)⟩
  obtain ⟨v0, hv0⟩ := at_ 0 (by omega)
  obtain ⟨u0, hu0, hk0⟩ := hc 0 v0 hv0
  obtain rfl : 3 = u0 := Option.some.inj hu0
  obtain ⟨n0, rfl⟩ := cell_int hk0
  obtain ⟨v1, hv1⟩ := at_ 1 (by omega)
  obtain ⟨u1, hu1, hk1⟩ := hc 1 v1 hv1
  obtain rfl : 3 = u1 := Option.some.inj hu1
  obtain ⟨n1, rfl⟩ := cell_int hk1
  refine ⟨(n0, n1), ?_⟩
  congr 1
  refine Array.ext_getElem? fun i => ?_
  rcases (show i = 0 ∨ i = 1 ∨ 2 ≤ i by omega) with rfl | rfl | h
  · rw [hv0]; rfl
  · rw [hv1]; rfl
  · rw [Array.getElem?_eq_none (by omega), Array.getElem?_eq_none (by simpa using h)]
end Go.Proofs.Ytmlepikgiicaiaa
