/- What an item that comes in is. No statement is proved here. -/
import Derived.Test.YtcbpnmcfiohndaaOpen
namespace Go.Proofs.Ytcbpnmcfiohndaa
open Go.ChangeShapes Go.WideShapes Go.ChangeAt Go.RowKit
set_option linter.unusedVariables false

theorem types39 : Try.prog.cellTypes Try.prog.depth 39 = some [3, 3] := by kernel_rfl
theorem open_item {W : World} {r : Reach} {b0 : Nat} {v : Value} (ho : Value.okWide Try.prog W r b0 39 v) : ∃ a b : Int, v = .agg #[.int .i64 a, .int .i64 b] := by
  simp only [Value.okWide, Try.underlying39] at ho
  obtain ⟨cs, rfl, hs, ts, hts, -, hc⟩ := ho
  have hs' : cs.size = 2 := hs.trans (by kernel_rfl)
  obtain rfl := Option.some.inj (hts.symm.trans types39)
  have at_ : ∀ i, i < 2 → ∃ v, cs[i]? = some v := fun i hi => ⟨cs[i]'(by omega), Array.getElem?_eq_getElem (by omega)⟩
  obtain ⟨v0, hv0⟩ := at_ 0 (by omega)
  obtain ⟨u0, hu0, hk0⟩ := hc 0 v0 hv0
  obtain rfl : 3 = u0 := Option.some.inj hu0
  obtain ⟨n0, rfl⟩ := cell_int hk0
  obtain ⟨v1, hv1⟩ := at_ 1 (by omega)
  obtain ⟨u1, hu1, hk1⟩ := hc 1 v1 hv1
  obtain rfl : 3 = u1 := Option.some.inj hu1
  obtain ⟨n1, rfl⟩ := cell_int hk1
  refine ⟨n0, n1, ?_⟩
  congr 1
  refine Array.ext_getElem? fun i => ?_
  rcases (show i = 0 ∨ i = 1 ∨ 2 ≤ i by omega) with rfl | rfl | h
  · rw [hv0]; rfl
  · rw [hv1]; rfl
  · rw [Array.getElem?_eq_none (by omega), Array.getElem?_eq_none (by simpa using h)]
end Go.Proofs.Ytcbpnmcfiohndaa
