/- A right plan out of any. No statement is proved here. -/
import Derived.Test.YtnogmfpaipjdaaaPLast
namespace Go.Proofs.Ytnogmfpaipjdaaa.P
open Go.RowKit
set_option linter.unusedVariables false
set_option linter.unusedSimpArgs false

def fitP (p : Pl) : Pl := { bounded p with me := Ls (bounded p) + p.me % 4 }
theorem bounded_shaped (p : Pl) : shaped (bounded p) = true := by
  unfold shaped bounded
  simp only [Bool.and_eq_true]
  exact ⟨⟨⟨fitI_win _ _ _ (by omega), fitI_win _ _ _ (by omega)⟩, fitI_win _ _ _ (by omega)⟩, fitI_win _ _ _ (by omega)⟩
theorem Ls_bounds {p : Pl} (h : shaped p = true) : 2 ≤ Ls p ∧ Ls p ≤ 21 := by
  have sh := sh_of h
  unfold Ls
  rw [if_pos h, sh.lv h, sh.ba]
  obtain ⟨t1, t2, _⟩ := tree_facts sh.n1 sh.n2 sh.a1 sh.a2
  have b1 := sh.b1
  have b2 := sh.b2
  generalize p.ba.toNat = b at *
  generalize lev p.pa.toNat p.ar.toNat = L at *
  have h1 : b * L ≤ 4 * 5 := Nat.mul_le_mul b2 t1
  have h2 : 1 * 1 ≤ b * L := Nat.mul_le_mul b1 t2
  have e : (b : Int) * (L : Int) = ((b * L : Nat) : Int) := by simp
  rw [e]
  omega
attribute [local irreducible] shaped Ls bounded
end Go.Proofs.Ytnogmfpaipjdaaa.P
