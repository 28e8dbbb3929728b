/- Bytes as polynomials, in plain numbers. No program is spoken of here. -/
import Derived.Laws.BitsAllLaws
import Derived.Laws.BitsLemmas
namespace Go.Proofs.Ytfbgpfiodgibbaa.A

/-- A byte times x. -/
def dbl (a : Nat) : Nat := if a / 128 = 1 then (2 * a % 256) ^^^ 27 else 2 * a % 256
/-- A byte times x, k times. -/
def dbls (a : Nat) : Nat → Nat
  | 0 => a
  | k + 1 => dbl (dbls a k)
/-- The product of a byte and the first k bits of another one. -/
def tim (a b : Nat) : Nat → Nat
  | 0 => 0
  | k + 1 => if b / 2 ^ k % 2 = 1 then tim a b k ^^^ dbls a k else tim a b k
def times (a b : Nat) : Nat := tim a b 8
def sq (x : Nat) : Nat → Nat
  | 0 => x
  | k + 1 => times (sq x k) (sq x k)
def pw (x : Nat) : Nat → Nat
  | 0 => 1
  | k + 1 => times (pw x k) (sq x (k + 1))
def rot (b k : Nat) : Nat := (b * 2 ^ k % 256) ||| (b / 2 ^ (8 - k))
def sums (b : Nat) : Nat → Nat
  | 0 => b ^^^ 99
  | k + 1 => sums b k ^^^ rot b (k + 1)
/-- The byte that stands for another one. -/
def sub (x : Nat) : Nat := sums (pw x 7) 4

theorem dbl_lt (a : Nat) : dbl a < 256 := by
  unfold dbl; split
  · exact Nat.xor_lt_two_pow (n := 8) (by omega) (by omega)
  · omega
theorem dbls_lt (a k : Nat) (h : a < 256) : dbls a k < 256 := by
  cases k with
  | zero => exact h
  | succ k => exact dbl_lt _
theorem tim_lt (a b k : Nat) (h : a < 256) : tim a b k < 256 := by
  induction k with
  | zero => simp [tim]
  | succ k ih =>
    simp only [tim]; split
    · exact Nat.xor_lt_two_pow (n := 8) ih (dbls_lt a k h)
    · exact ih
theorem times_lt (a b : Nat) (h : a < 256) : times a b < 256 := tim_lt a b 8 h
theorem sq_lt (x k : Nat) (h : x < 256) : sq x k < 256 := by
  induction k with
  | zero => exact h
  | succ k ih => exact times_lt _ _ ih
theorem pw_lt (x k : Nat) : pw x k < 256 := by
  induction k with
  | zero => simp [pw]
  | succ k ih => exact times_lt _ _ ih
theorem rot_lt (b k : Nat) (h : b < 256) : rot b k < 256 := by
  unfold rot
  have h2 : b / 2 ^ (8 - k) < 256 := Nat.lt_of_le_of_lt (Nat.div_le_self _ _) h
  exact Nat.or_lt_two_pow (n := 8) (by omega) h2
theorem sums_lt (b k : Nat) (h : b < 256) : sums b k < 256 := by
  induction k with
  | zero => exact Nat.xor_lt_two_pow (n := 8) h (by omega)
  | succ k ih => exact Nat.xor_lt_two_pow (n := 8) ih (rot_lt b _ h)
theorem sub_lt (x : Nat) : sub x < 256 := sums_lt _ _ (pw_lt x 7)

theorem sub_0 : sub 0 = 99 := by decide +kernel
end Go.Proofs.Ytfbgpfiodgibbaa.A
