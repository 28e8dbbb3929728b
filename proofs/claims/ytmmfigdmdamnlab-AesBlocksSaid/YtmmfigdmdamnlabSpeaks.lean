/- The law's example, reckoned. No statement is proved here. -/
import Derived.Test.YtmmfigdmdamnlabBlock
namespace Go.Proofs.Ytmmfigdmdamnlab
open Go.RowKit
set_option linter.unusedVariables false

def sKey : ByteArray := ⟨#[48, 48, 48, 49, 48, 50, 48, 51, 48, 52, 48, 53, 48, 54, 48, 55, 48, 56, 48, 57, 48, 97, 48, 98, 48, 99, 48, 100, 48, 101, 48, 102]⟩
def sIn : ByteArray := ⟨#[48, 48, 49, 49, 50, 50, 51, 51, 52, 52, 53, 53, 54, 54, 55, 55, 56, 56, 57, 57, 97, 97, 98, 98, 99, 99, 100, 100, 101, 101, 102, 102]⟩
def sOut : ByteArray := ⟨#[54, 57, 99, 52, 101, 48, 100, 56, 54, 97, 55, 98, 48, 52, 51, 48, 100, 56, 99, 100, 98, 55, 56, 48, 55, 48, 98, 52, 99, 53, 53, 97]⟩
theorem ok_of (s : ByteArray) (h : (List.range 16).all (fun j => decide (0 ≤ U.hiD s j) && decide (0 ≤ U.loD s j)) = true) : U.okTo s 16 := by
  intro j hj
  have h1 := List.all_eq_true.1 h j (List.mem_range.2 hj)
  simp only [Bool.and_eq_true, decide_eq_true_eq] at h1
  exact h1
theorem okKey : U.okTo sKey 16 := ok_of _ (by decide +kernel)
theorem okIn : U.okTo sIn 16 := ok_of _ (by decide +kernel)
theorem okOut : U.okTo sOut 16 := ok_of _ (by decide +kernel)
theorem sub_zero : sub 0 = 99 := by decide +kernel
theorem example_bytes : enc (cells (U.unL sKey 16)) (U.unL sIn 16) = U.unL sOut 16 := by decide +kernel
end Go.Proofs.Ytmmfigdmdamnlab
