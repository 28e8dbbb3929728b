/- What the program makes of bytes: double, Times, inverse, Sub. No statement is proved here. -/
import Derived.Test.YtfbgpfiodgibbaaRows
import Derived.Test.YtfbgpfiodgibbaaAPlain
import Derived.WalkKit
import Derived.Below
import Derived.Deep.QuietTactic
import Derived.BigQuiet
import Derived.Lib.Hide
namespace Go.Proofs.Ytfbgpfiodgibbaa.A
open Go.RowKit
set_option linter.unusedVariables false

theorem ret_bool {a b : Bool} (h : a = b) : Ending.returned (.bool a) = .returned (.bool b) := by rw [h]
theorem ret_int {k : IntKind} {a b : Int} (h : a = b) : Ending.returned (.int k a) = .returned (.int k b) := by rw [h]

theorem dbl_one (a : Nat) (h : a < 256) (hb : a / 128 = 1) : bits .xor .u8 ((a : Int) * 2 % 256) 27 = ((dbl a : Nat) : Int) := by
  have e : ((a : Int) * 2 % 256) = ((2 * a % 256 : Nat) : Int) := by omega
  rw [e]
  have := u8_xor_nat (2 * a % 256) 27 (by omega) (by omega)
  unfold dbl
  rw [if_pos hb]
  exact this
theorem dbl_none (a : Nat) (h : a < 256) (hb : ¬ a / 128 = 1) : ((a : Int) * 2 % 256) = ((dbl a : Nat) : Int) := by
  unfold dbl
  rw [if_neg hb]
  omega

set_option maxHeartbeats 400000 in
theorem double_any (a : Nat) (w : World) (h : a < 256) : Calls Try.prog 46 #[.int .u8 a] w fun e w' => e = .returned (.int .u8 (dbl a : Nat)) ∧ w = w' := by
  by_cases hb : a / 128 = 1
  · have ht : ((a : Int) / 128 == 1) = true := by simp; omega
    have HB := Lib.hid hb
    clear hb
    go_enter Try.func46, Try.ntmps46
    go_wp2
    go_ret
    exact ⟨ret_int (dbl_one a h HB.out), rfl⟩
  · have ht : ((a : Int) / 128 == 1) = false := by simp; omega
    have HB := Lib.hid hb
    clear hb
    go_enter Try.func46, Try.ntmps46
    go_wp2
    go_ret
    exact ⟨ret_int (dbl_none a h HB.out), rfl⟩

theorem bit_test (b k : Nat) (h : b < 256) : bits BinOp.and IntKind.u8 ((b : Int) / 2 ^ k) 1 = ((b / 2 ^ k % 2 : Nat) : Int) := by
  have h1 : b / 2 ^ k < 256 := Nat.lt_of_le_of_lt (Nat.div_le_self _ _) h
  have e : ((b : Int) / 2 ^ k) = ((b / 2 ^ k : Nat) : Int) := by simp
  rw [e]
  have := u8_and_nat (b / 2 ^ k) 1 h1 (by omega)
  rw [nat_mask1] at this
  exact this

set_option maxHeartbeats 400000 in
theorem times_any (a b : Nat) (w : World) (ha : a < 256) (hb : b < 256) : Calls Try.prog 50 #[.int .u8 a, .int .u8 b] w fun e w' => e = .returned (.int .u8 (times a b : Nat)) ∧ w = w' := by
  go_enter Try.func50, Try.ntmps50
  go_wp2
  go_loop [0, 5, 7] (fun x p i => ∃ k : Nat, k ≤ 8 ∧ i = .int .i64 k ∧ x = .int .u8 (dbls a k : Nat) ∧ p = .int .u8 (tim a b k : Nat)) (fun _ _ i => 8 - (intOf i).toNat)
  case atStart => exact ⟨0, by omega, rfl, rfl, rfl⟩
  case round =>
    obtain ⟨k, hk, rfl, rfl, rfl⟩ := hrel
    by_cases hlt : k < 8
    · have l1 := dbls_lt a k ha
      have l2 := tim_lt a b k ha
      have hbt := bit_test b k hb
      generalize hx : dbls a k = x at *
      generalize hp : tim a b k = p at *
      have Hx := Lib.hid hx
      have Hp := Lib.hid hp
      clear hx hp
      by_cases h1 : b / 2 ^ k % 2 = 1
      · have ht : (bits BinOp.and IntKind.u8 ((b : Int) / 2 ^ k) 1 == 1) = true := by rw [hbt, h1]; rfl
        have H1 := Lib.hid h1
        clear h1 hbt
        go_wp2_with (go_at_call 46; refine (double_any x w l1).mono ?_; rintro e w' ⟨rfl, rfl⟩)
        go_round
        case rel => exact ⟨k + 1, by omega, by go_num, by rw [dbls, Hx.out], by rw [u8_xor_nat p x l2 l1, tim, if_pos H1.out, Hp.out, Hx.out]⟩
        case measure => simp [intOf]; omega
      · have ht : (bits BinOp.and IntKind.u8 ((b : Int) / 2 ^ k) 1 == 1) = false := by rw [hbt]; simp only [beq_eq_false_iff_ne, ne_eq]; omega
        have H1 := Lib.hid h1
        clear h1 hbt
        go_wp2_with (go_at_call 46; refine (double_any x w l1).mono ?_; rintro e w' ⟨rfl, rfl⟩)
        go_round
        case rel => exact ⟨k + 1, by omega, by go_num, by rw [dbls, Hx.out], by rw [tim, if_neg H1.out, Hp.out]⟩
        case measure => simp [intOf]; omega
    · obtain rfl : k = 8 := by omega
      go_wp2
      go_ret
      exact ⟨rfl, rfl⟩

set_option maxHeartbeats 400000 in
theorem inverse_any (a : Nat) (w : World) (ha : a < 256) : Calls Try.prog 48 #[.int .u8 a] w fun e w' => e = .returned (.int .u8 (pw a 7 : Nat)) ∧ w = w' := by
  go_enter Try.func48, Try.ntmps48
  go_wp2
  go_loop [0, 3, 4] (fun x p i => ∃ k : Nat, k ≤ 7 ∧ i = .int .i64 k ∧ x = .int .u8 (sq a k : Nat) ∧ p = .int .u8 (pw a k : Nat)) (fun _ _ i => 7 - (intOf i).toNat)
  case atStart => exact ⟨0, by omega, rfl, rfl, rfl⟩
  case round =>
    obtain ⟨k, hk, rfl, rfl, rfl⟩ := hrel
    by_cases hlt : k < 7
    · have l1 := sq_lt a k ha
      have l2 := pw_lt a k
      have l3 := sq_lt a (k + 1) ha
      have e1 : times (sq a k) (sq a k) = sq a (k + 1) := rfl
      have e2 : times (pw a k) (sq a (k + 1)) = pw a (k + 1) := rfl
      have f1 : sq a (k + 1) = sq a (k + 1) := rfl
      have f2 : pw a (k + 1) = pw a (k + 1) := rfl
      generalize hy : sq a (k + 1) = y at e1 e2 l3 f1
      generalize hr : pw a (k + 1) = r at e2 f2
      have HY := Lib.hid hy
      have HR := Lib.hid hr
      clear hy hr f1 f2
      generalize sq a k = x at e1 l1 ⊢
      generalize pw a k = p at e2 l2 ⊢
      have E1 := Lib.hid e1
      have E2 := Lib.hid e2
      clear e1 e2
      go_wp2_with fail
      refine (times_any x x w l1 l1).mono ?_
      rintro e w' ⟨rfl, rfl⟩
      rw [E1.out]
      go_wp2_with fail
      refine (times_any p y w l2 l3).mono ?_
      rintro e w' ⟨rfl, rfl⟩
      rw [E2.out]
      go_wp2
      go_round
      case rel => exact ⟨k + 1, by omega, by go_num, by rw [HY.out], by rw [HR.out]⟩
      case measure => simp [intOf]; omega
    · obtain rfl : k = 7 := by omega
      go_wp2
      go_ret
      exact ⟨rfl, rfl⟩

theorem and7 : ∀ k : Fin 8, bits .and .u64 (k.val : Int) 7 = (k.val : Int) := by decide +kernel
theorem rot_of (b k : Nat) (hb : b < 256) (hk : k < 8) : bits .or .u8 (((b : Int) * 2 ^ k) % 256) ((b : Int) / 2 ^ (8 - k)) = ((rot b k : Nat) : Int) := by
  have e1 : (((b : Int) * 2 ^ k) % 256) = ((b * 2 ^ k % 256 : Nat) : Int) := by simp
  have e2 : ((b : Int) / 2 ^ (8 - k)) = ((b / 2 ^ (8 - k) : Nat) : Int) := by simp
  have h2 : b / 2 ^ (8 - k) < 256 := Nat.lt_of_le_of_lt (Nat.div_le_self _ _) hb
  rw [e1, e2, u8_or_nat _ _ (by omega) h2]
  rfl
set_option maxHeartbeats 400000 in
theorem rot_any (b k : Nat) (w : World) (hb : b < 256) (hk : k < 8) : Calls Try.prog 49 #[.int .u8 b, .int .i64 k] w fun e w' => e = .returned (.int .u8 (rot b k : Nat)) ∧ w = w' := by
  have e1 : bits .and .u64 (k : Int) 7 = (k : Int) := and7 ⟨k, hk⟩
  go_enter Try.func49, Try.ntmps49
  go_wp2
  go_ret
  exact ⟨ret_int (rot_of b k hb hk), rfl⟩

set_option maxHeartbeats 400000 in
theorem sub_any (a : Nat) (w : World) (ha : a < 256) : Calls Try.prog 44 #[.int .u8 a] w fun e w' => e = .returned (.int .u8 (sub a : Nat)) ∧ w = w' := by
  have hl := pw_lt a 7
  have hs : sums (pw a 7) 4 = sub a := rfl
  go_enter Try.func44, Try.ntmps44
  go_wp2_with fail
  refine (inverse_any a w ha).mono ?_
  rintro e w' ⟨rfl, rfl⟩
  generalize pw a 7 = b at *
  have HS := Lib.hid hs
  clear hs
  go_wp2_with fail
  go_loop [4, 10] (fun p i => ∃ k : Nat, k ≤ 4 ∧ i = .int .i64 k ∧ p = .int .u8 (sums b k : Nat)) (fun _ i => 4 - (intOf i).toNat)
  case atStart => exact ⟨0, by omega, rfl, by rw [sums]; exact congrArg _ (u8_xor_nat b 99 hl (by omega))⟩
  case round =>
    obtain ⟨k, hk, rfl, rfl⟩ := hrel
    by_cases hlt : k < 4
    · have l1 := sums_lt b k hl
      have l2 := rot_lt b (k + 1) hl
      have e2 : sums b k ^^^ rot b (k + 1) = sums b (k + 1) := rfl
      generalize hy : sums b (k + 1) = y at e2
      have HY := Lib.hid hy
      clear hy
      generalize sums b k = p at e2 l1 ⊢
      have E2 := Lib.hid e2
      clear e2
      go_wp2_with fail
      rw [show ((k : Int) + 1) = ((k + 1 : Nat) : Int) from rfl]
      refine (rot_any b (k + 1) w hl (by omega)).mono ?_
      rintro e w' ⟨rfl, rfl⟩
      generalize rot b (k + 1) = r at *
      go_wp2
      go_round
      case rel => exact ⟨k + 1, by omega, by go_num, by rw [u8_xor_nat p r l1 l2, E2.out, HY.out]⟩
      case measure => simp [intOf]; omega
    · obtain rfl : k = 4 := by omega
      go_wp2
      go_ret
      exact ⟨ret_int (congrArg _ HS.out), rfl⟩
end Go.Proofs.Ytfbgpfiodgibbaa.A
