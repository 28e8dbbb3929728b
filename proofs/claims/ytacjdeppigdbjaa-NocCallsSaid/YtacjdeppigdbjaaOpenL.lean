/- What a link that comes in is. No statement is proved here. -/
import Derived.Test.YtacjdeppigdbjaaOpen
import Derived.Test.YtacjdeppigdbjaaNet8
namespace Go.Proofs.Ytacjdeppigdbjaa
open Go.ChangeShapes Go.WideShapes Go.ChangeAt Go.RowKit
set_option linter.unusedVariables false

theorem cell_int {W : World} {r : Reach} {b0 : Nat} {v : Value} (h : Cell.okWide Try.prog W r b0 3 v) : ∃ n, v = .int .i64 n := by
  simp only [Cell.okWide, Try.underlying3] at h
  cases v <;> simp_all [Cell.ok, Try.underlying3]
theorem types51 : Try.prog.cellTypes Try.prog.depth 51 = some [3, 3, 3] := by kernel_rfl
theorem open_link {W : World} {r : Reach} {b0 : Nat} {v : Value} (ho : Value.okWide Try.prog W r b0 51 v) : ∃ l : Lk, v = .agg #[.int .i64 l.a, .int .i64 l.b, .int .i64 l.d] := by
  simp only [Value.okWide, Try.underlying51] at ho
  obtain ⟨cs, rfl, hs, ts, hts, -, hc⟩ := ho
  have hs' : cs.size = 3 := hs.trans (by kernel_rfl)
  obtain rfl := Option.some.inj (hts.symm.trans types51)
  have at_ : ∀ i, i < 3 → ∃ v, cs[i]? = some v := fun i hi => ⟨cs[i]'(by omega), Array.getElem?_eq_getElem (by omega)⟩
  obtain ⟨v0, hv0⟩ := at_ 0 (by omega)
  obtain ⟨u0, hu0, hk0⟩ := hc 0 v0 hv0
  obtain rfl : 3 = u0 := Option.some.inj hu0
  obtain ⟨n0, rfl⟩ := cell_int hk0
  obtain ⟨v1, hv1⟩ := at_ 1 (by omega)
  obtain ⟨u1, hu1, hk1⟩ := hc 1 v1 hv1
  obtain rfl : 3 = u1 := Option.some.inj hu1
  obtain ⟨n1, rfl⟩ := cell_int hk1
  obtain ⟨v2, hv2⟩ := at_ 2 (by omega)
  obtain ⟨u2, hu2, hk2⟩ := hc 2 v2 hv2
  obtain rfl : 3 = u2 := Option.some.inj hu2
  obtain ⟨n2, rfl⟩ := cell_int hk2
  refine ⟨⟨n0, n1, n2⟩, ?_⟩
  congr 1
  refine Array.ext_getElem? fun i => ?_
  rcases (show i = 0 ∨ i = 1 ∨ i = 2 ∨ 3 ≤ i by omega) with rfl | rfl | rfl | h
  · rw [hv0]; rfl
  · rw [hv1]; rfl
  · rw [hv2]; rfl
  · rw [Array.getElem?_eq_none (by omega), Array.getElem?_eq_none (by simpa using h)]
end Go.Proofs.Ytacjdeppigdbjaa
