/- Get gives the number that bits of bytes are; Put makes bits of bytes those of a number, or says what is wrong. No statement is proved here. -/
import Derived.Test.YtfbgpfiodgibbaaUBit
namespace Go.Proofs.Ytfbgpfiodgibbaa.U
open Go.RowKit
set_option linter.unusedVariables false

theorem fits_of {L a n : Nat} (h1 : n ≤ 64) (h2 : a + n ≤ 8 * L) : fits L (a : Int) (n : Int) = true := by
  unfold fits; simp; omega

theorem get_step {xs : List Nat} {a k q r : Nat} (hq : getN xs a k = q) (hr : bitN xs (a + k) = r) (hv : q < 2 ^ k) (hd : r < 2) (hk : k < 64) :
    Value.int IntKind.u64 (bits .or .u64 (q : Int) (IntKind.u64.wrap ((r : Int) * 2 ^ k))) = .int .u64 (getN xs a (k + 1) : Nat) := by
  rw [or_bit q r k hv hd hk, getN, hq, hr]

theorem put_test {v n : Nat} (h : 2 ^ n ≤ v) : ((v : Int) / 2 ^ n != 0) = true := by
  have hp : 0 < 2 ^ n := Nat.pow_pos (by omega)
  have h1 : 1 ≤ v / 2 ^ n := (Nat.one_le_div_iff hp).2 h
  have e : ((v : Int) / 2 ^ n) = ((v / 2 ^ n : Nat) : Int) := by simp
  rw [e]; simp only [bne_iff_ne, ne_eq]; omega
theorem put_test0 {v n : Nat} (h : v < 2 ^ n) : ((v : Int) / 2 ^ n != 0) = false := by
  have e : ((v : Int) / 2 ^ n) = ((v / 2 ^ n : Nat) : Int) := by simp
  rw [e, Nat.div_eq_of_lt h]; rfl

theorem put_digit (v k : Nat) (hv : v < 18446744073709551616) : bits BinOp.and IntKind.u64 ((v : Int) / 2 ^ k) 1 % 256 = ((v / 2 ^ k % 2 : Nat) : Int) := by
  have h1 : v / 2 ^ k < 18446744073709551616 := Nat.lt_of_le_of_lt (Nat.div_le_self _ _) hv
  have e : ((v : Int) / 2 ^ k) = ((v / 2 ^ k : Nat) : Int) := by simp
  have := u64_and_nat (v / 2 ^ k) 1 h1 (by omega)
  rw [nat_mask1] at this
  have this : bits BinOp.and IntKind.u64 ((v / 2 ^ k : Nat) : Int) 1 = ((v / 2 ^ k % 2 : Nat) : Int) := this
  rw [e, this]
  generalize v / 2 ^ k = y
  omega
theorem own_head {w : World} {base n c : Nat} {A : Option Addr} {xs : List Nat} (h : Own w base A n c xs) (hn : 0 < n) : ∃ g, A = some ⟨g, 0, none⟩ := by
  rcases h.2.2.2 with ⟨_, h0⟩ | ⟨g, cap, cur, hv, _⟩
  · omega
  · injection hv with e; exact ⟨g, e⟩

end Go.Proofs.Ytfbgpfiodgibbaa.U
