/- A plan that comes in has a Major that is not below 0. No statement is proved here. -/
import Derived.Test.YtcepncdolbfcfaaOpen7
namespace Go.Proofs.Ytcepncdolbfcfaa
open Go.ChangeShapes Go.WideShapes Go.ChangeAt Go.RowKit
set_option linter.unusedVariables false

theorem cell_u64_ok {W : World} {r : Reach} {b0 : Nat} {n : Int} (h : Cell.okWide Try.prog W r b0 22 (.int .u64 n)) : 0 ≤ n := by
  simp only [Cell.okWide, Try.underlying22] at h
  simp [Cell.ok, Try.underlying22] at h
  have := h.1
  simpa [IntKind.min, IntKind.signed] using this
theorem plan_ma {W : World} {r : Reach} {b0 : Nat} {p : Pl} (ho : Value.okWide Try.prog W r b0 28 (.agg p.arr)) : 0 ≤ p.ma := by
  simp only [Value.okWide, Try.underlying28] at ho
  obtain ⟨cs, e, hs, ts, hts, -, hc⟩ := ho
  injection e with e
  subst e
  obtain rfl := Option.some.inj (hts.symm.trans types28)
  obtain ⟨u6, hu6, hk6⟩ := hc 6 _ p.at6
  obtain rfl : 22 = u6 := Option.some.inj hu6
  exact cell_u64_ok hk6
end Go.Proofs.Ytcepncdolbfcfaa
