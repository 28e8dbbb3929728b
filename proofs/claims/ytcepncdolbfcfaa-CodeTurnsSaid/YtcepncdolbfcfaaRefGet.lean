/- The document's Get. No statement is proved here. -/
import Derived.Test.YtcepncdolbfcfaaRefBit
namespace Go.Proofs.Ytcepncdolbfcfaa
open Go.RowKit
set_option linter.unusedVariables false

theorem getN_high (xs : List Nat) (a n i : Nat) (hi : i < n) : getN xs a n / 2 ^ i = 2 * (getN xs a n / 2 ^ (i + 1)) + bitN xs (a + i) := by
  have h := getN_bit xs a n i
  rw [Nat.testBit_eq_decide_div_mod_eq, ← bitN_bitAt, decide_eq_true hi, Bool.true_and] at h
  have hb := bitN_lt xs (a + i)
  rw [Nat.pow_succ, ← Nat.div_div_eq_div_mul]
  generalize getN xs a n / 2 ^ i = q at *
  have h2 : (q % 2 = 1) ↔ (bitN xs (a + i) = 1) := by simpa using h
  generalize bitN xs (a + i) = z at *
  by_cases hq : q % 2 = 1
  · have := h2.1 hq; omega
  · have : ¬ z = 1 := fun e => hq (h2.2 e)
    omega
def RGRel (w : World) (A : Option Addr) (L c a n : Nat) (xs : List Nat) (G : Nat) (v i : Value) (wr : World) : Prop :=
  ∃ k : Int, -1 ≤ k ∧ k < n ∧ i = .int .i64 k ∧ v = .int .u64 ((G / 2 ^ (k + 1).toNat : Nat) : Int) ∧ Below w.heap.size w wr
set_option maxHeartbeats 1000000 in
theorem refGet_any (A : Option Addr) (L c a n : Nat) (xs : List Nat) (w : World) (hx : Row w w.heap.size A L c xs) (hL : L ≤ 3000) (h1 : n ≤ 64) (h2 : a + n ≤ 8 * L) :
    Calls Try.prog 37 #[.slice A L c, .int .i64 a, .int .i64 n] w fun e w' => e = .returned (.tuple #[.int .u64 (getN xs a n : Nat), .int .i64 0]) ∧ Below w.heap.size w w' := by
  have F := Lib.hid (refFits_yes A L c a n w hL h1 h2)
  have GH := Lib.hid (getN_high xs a n)
  have GL := Lib.hid (getN_lt xs a n)
  have g64 : getN xs a n < 2 ^ 64 := Nat.lt_of_lt_of_le (getN_lt xs a n) (Nat.pow_le_pow_right (by omega) h1)
  have HG := Lib.hid g64
  clear g64
  generalize getN xs a n = G at *
  have HX := Lib.hid hx
  clear hx
  go_enter Try.func37, Try.ntmps37
  go_wp2_with (go_at_call 56; refine F.out.mono ?_; rintro e W1 ⟨rfl, rfl⟩)
  go_loopw [8, 9] (RGRel w A L c a n xs G) (fun _ i _ => (intOf i + 1).toNat)
  case atStart => exact ⟨(n : Int) - 1, by omega, by omega, rfl, by rw [show ((n : Int) - 1 + 1).toNat = n by omega, Nat.div_eq_of_lt GL.out]; rfl, Below.refl _ _⟩
  case round =>
    obtain ⟨k, hk0, hk1, rfl, rfl, hb⟩ := hrel
    have HB := Lib.hid hb
    clear hb
    by_cases hlt : 0 ≤ k
    · obtain ⟨i, rfl⟩ := Int.eq_ofNat_of_zero_le hlt
      have hi : i < n := by omega
      have gh := Lib.hid (GH.out i hi)
      have bl := bitN_lt xs (a + i)
      have RB := Lib.hid (refBit_any A L c (a + i) xs wr ((HX.out.below HB.out).wider HB.out.size) hL (by omega))
      have sm : G / 2 ^ (i + 1) < 9223372036854775808 := by
        have := HG.out
        have e : G / 2 ^ (i + 1) ≤ G / 2 ^ 1 := Nat.div_le_div_left (Nat.pow_le_pow_right (by omega) (by omega)) (by omega)
        omega
      rw [show ((i : Int) + 1).toNat = i + 1 by omega]
      generalize hq : G / 2 ^ (i + 1) = q at *
      generalize bitN xs (a + i) = z at *
      have ea0 : (a : Int) + (i : Int) = ((a + i : Nat) : Int) := by omega
      generalize a + i = s at *
      have ea := ea0
      clear ea0
      have ew : IntKind.u64.wrap (2 * (q : Int)) = 2 * (q : Int) := by simp [IntKind.wrap, IntKind.bits, IntKind.signed]; omega
      have ew2 : IntKind.u64.wrap (2 * (q : Int) + (z : Int)) = 2 * (q : Int) + (z : Int) := by simp [IntKind.wrap, IntKind.bits, IntKind.signed]; omega
      clear hq
      go_wp2_with (go_at_call 57; refine RB.out.mono ?_; rintro e W2 ⟨rfl, hb2⟩; have HB2 := Lib.hid (HB.out.trans (hb2.mono HB.out.size)); clear hb2)
      go_roundw
      case rel => exact ⟨(i : Int) - 1, by omega, by omega, rfl, by rw [show ((i : Int) - 1 + 1).toNat = i by omega, gh.out]; go_num, HB2.out⟩
      case measure => simp [intOf]
    · obtain rfl : k = -1 := by omega
      go_wp2
      go_ret2
      refine ⟨?_, HB.out⟩
      simp
end Go.Proofs.Ytcepncdolbfcfaa
