/- The document's product of two bytes is the program's. No statement is proved here. -/
import Derived.Test.YtmmfigdmdamnlabSubsWalk
import Derived.Test.YtmmfigdmdamnlabField
namespace Go.Proofs.Ytmmfigdmdamnlab
open Go.RowKit
set_option linter.unusedVariables false

def raw (a b : Nat) : Nat → Nat
  | 0 => 0
  | k + 1 => if b / 2 ^ k % 2 = 1 then raw a b k ^^^ (a * 2 ^ k) else raw a b k
def rd (x : Nat) : Nat → Nat
  | 0 => x
  | m + 1 => if rd x m / 2 ^ (14 - m) % 2 = 1 then rd x m ^^^ (283 * 2 ^ (6 - m)) else rd x m
def rt (a b : Nat) : Nat := rd (raw a b 8) 7 % 256
theorem raw_lt (a b k : Nat) (ha : a < 256) (hk : k ≤ 8) : raw a b k < 32768 := by
  induction k with
  | zero => simp [raw]
  | succ k ih =>
    have h1 : a * 2 ^ k < 2 ^ 15 := by
      have : 2 ^ k ≤ 2 ^ 7 := Nat.pow_le_pow_right (by omega) (by omega)
      calc a * 2 ^ k ≤ 255 * 2 ^ 7 := Nat.mul_le_mul (by omega) this
        _ < 2 ^ 15 := by omega
    simp only [raw]; split
    · exact Nat.xor_lt_two_pow (n := 15) (ih (by omega)) h1
    · exact ih (by omega)
theorem rd_lt (x m : Nat) (hx : x < 32768) (hm : m ≤ 7) : rd x m < 32768 := by
  induction m with
  | zero => exact hx
  | succ m ih =>
    have h1 : 283 * 2 ^ (6 - m) < 2 ^ 15 := by
      have : 2 ^ (6 - m) ≤ 2 ^ 6 := Nat.pow_le_pow_right (by omega) (by omega)
      omega
    simp only [rd]; split
    · exact Nat.xor_lt_two_pow (n := 15) (ih (by omega)) h1
    · exact ih (by omega)
theorem raw_lin (a k b c : Nat) : raw a (b ^^^ c) k = raw a b k ^^^ raw a c k := by
  induction k with
  | zero => simp [raw]
  | succ k ih =>
    simp only [raw, ih]
    have h := bit_xor b c k
    by_cases h1 : b / 2 ^ k % 2 = 1 <;> by_cases h2 : c / 2 ^ k % 2 = 1
    · rw [if_neg (by rw [h]; simp [h1, h2]), if_pos h1, if_pos h2, xor4]
    · rw [if_pos (by rw [h]; simp [h1, h2]), if_pos h1, if_neg h2, Nat.xor_assoc, Nat.xor_comm (raw a c k), ← Nat.xor_assoc]
    · rw [if_pos (by rw [h]; simp [h1, h2]), if_neg h1, if_pos h2, Nat.xor_assoc]
    · rw [if_neg (by rw [h]; simp [h1, h2]), if_neg h1, if_neg h2]
theorem rd_lin (x y m : Nat) : rd (x ^^^ y) m = rd x m ^^^ rd y m := by
  induction m with
  | zero => rfl
  | succ m ih =>
    simp only [rd, ih]
    have h := bit_xor (rd x m) (rd y m) (14 - m)
    by_cases h1 : rd x m / 2 ^ (14 - m) % 2 = 1 <;> by_cases h2 : rd y m / 2 ^ (14 - m) % 2 = 1
    · rw [if_neg (by rw [h]; simp [h1, h2]), if_pos h1, if_pos h2, xor4]
    · rw [if_pos (by rw [h]; simp [h1, h2]), if_pos h1, if_neg h2, Nat.xor_assoc, Nat.xor_comm (rd y m), ← Nat.xor_assoc]
    · rw [if_pos (by rw [h]; simp [h1, h2]), if_neg h1, if_pos h2, Nat.xor_assoc]
    · rw [if_neg (by rw [h]; simp [h1, h2]), if_neg h1, if_neg h2]
theorem rt_lin (a : Nat) : Lin (rt a) := fun b c _ _ => by
  unfold rt
  rw [raw_lin, rd_lin]
  exact Nat.xor_mod_two_pow (n := 8)
theorem rt_basis : ((List.range 256).all fun a => (List.range 8).all fun j => rt a (2 ^ j) == times a (2 ^ j)) = true := by decide +kernel
theorem rt_eq (a b : Nat) (ha : a < 256) (hb : b < 256) : rt a b = times a b :=
  Lin.ext (rt_lin a) (times_lin a) (fun j hj => beq_iff_eq.1 (List.all_eq_true.1 (List.all_eq_true.1 rt_basis a (List.mem_range.2 ha)) j (List.mem_range.2 hj))) b hb

theorem ofInt_64 (a : Nat) (h : a < 32768) : (BitVec.ofInt 64 (a : Int)).toNat = a := by
  rw [BitVec.toNat_ofInt]; omega
theorem i64_xor_nat (a b : Nat) (ha : a < 32768) (hb : b < 32768) : bits .xor .i64 (a : Int) (b : Int) = ((a ^^^ b : Nat) : Int) := by
  have hx : a ^^^ b < 2 ^ 15 := Nat.xor_lt_two_pow (by omega) (by omega)
  show IntKind.i64.wrap ((BitVec.ofInt 64 (a : Int) ^^^ BitVec.ofInt 64 (b : Int)).toNat : Int) = _
  rw [BitVec.toNat_xor, ofInt_64 a ha, ofInt_64 b hb, IntKind.wrap_i64]
  omega
theorem i64_and_one (a : Nat) (ha : a < 32768) : bits .and .i64 (a : Int) 1 = ((a % 2 : Nat) : Int) := by
  show IntKind.i64.wrap ((BitVec.ofInt 64 (a : Int) &&& BitVec.ofInt 64 ((1 : Nat) : Int)).toNat : Int) = _
  rw [BitVec.toNat_and, ofInt_64 a ha, ofInt_64 1 (by omega), IntKind.wrap_i64, Nat.and_one_is_mod]
  omega
theorem i64_bit (p j : Nat) (hp : p < 32768) : bits .and .i64 ((p : Int) / 2 ^ j) 1 = ((p / 2 ^ j % 2 : Nat) : Int) := by
  have e : ((p : Int) / 2 ^ j) = ((p / 2 ^ j : Nat) : Int) := by simp
  rw [e]
  exact i64_and_one _ (Nat.lt_of_le_of_lt (Nat.div_le_self _ _) hp)
theorem wrap_small (n : Nat) (h : n < 32768) : wrap64 (n : Int) = (n : Int) := by unfold wrap64; omega
theorem raw_step (a p k : Nat) (ha : a < 256) (hk : k < 8) (hp : p < 32768) : bits .xor .i64 (p : Int) (wrap64 ((a : Int) * 2 ^ k)) = ((p ^^^ (a * 2 ^ k) : Nat) : Int) := by
  have h1 : a * 2 ^ k < 32768 := by
    have : 2 ^ k ≤ 2 ^ 7 := Nat.pow_le_pow_right (by omega) (by omega)
    calc a * 2 ^ k ≤ 255 * 2 ^ 7 := Nat.mul_le_mul (by omega) this
      _ < 32768 := by omega
  have e : ((a : Int) * 2 ^ k) = ((a * 2 ^ k : Nat) : Int) := by simp
  rw [e, wrap_small _ h1, i64_xor_nat _ _ hp h1]
theorem rd_step (p j : Nat) (h1 : 8 ≤ j) (h2 : j ≤ 14) (hp : p < 32768) : bits .xor .i64 (p : Int) (wrap64 (283 * 2 ^ (j - 8))) = ((p ^^^ (283 * 2 ^ (j - 8)) : Nat) : Int) := by
  have h1 : 283 * 2 ^ (j - 8) < 32768 := by
    have : 2 ^ (j - 8) ≤ 2 ^ 6 := Nat.pow_le_pow_right (by omega) (by omega)
    omega
  have e : ((283 : Int) * 2 ^ (j - 8)) = ((283 * 2 ^ (j - 8) : Nat) : Int) := by simp
  rw [e, wrap_small _ h1, i64_xor_nat _ _ hp h1]
theorem rd_succ (X j : Nat) (h1 : 8 ≤ j) (h2 : j ≤ 14) : rd X (14 - (j - 1)) = if rd X (14 - j) / 2 ^ j % 2 = 1 then rd X (14 - j) ^^^ (283 * 2 ^ (j - 8)) else rd X (14 - j) := by
  rw [show 14 - (j - 1) = (14 - j) + 1 by omega, rd, show 14 - (14 - j) = j by omega, show 6 - (14 - j) = j - 8 by omega]

set_option maxHeartbeats 400000 in
theorem refTimes_any (a b : Nat) (w : World) (ha : a < 256) (hb : b < 256) : Calls Try.prog 11 #[.int .u8 a, .int .u8 b] w fun e w' => e = .returned (.int .u8 (times a b : Nat)) ∧ w = w' := by
  have HR := Lib.hid (rt_eq a b ha hb)
  generalize times a b = R at *
  go_enter Try.func11, Try.ntmps11
  go_wp2
  go_loop [5, 6] (fun x i => ∃ k : Nat, k ≤ 8 ∧ i = .int .i64 k ∧ x = .int .i64 (raw a b k : Nat)) (fun _ i => 8 - (intOf i).toNat)
  case atStart => exact ⟨0, by omega, rfl, rfl⟩
  case round =>
    obtain ⟨k, hk, rfl, rfl⟩ := hrel
    by_cases hlt : k < 8
    · have l2 := raw_lt a b k ha hk
      have hbt := bit_test b k hb
      generalize hp : raw a b k = p at *
      have Hp := Lib.hid hp
      clear hp
      by_cases h1 : b / 2 ^ k % 2 = 1
      · have ht : (bits BinOp.and IntKind.u8 ((b : Int) / 2 ^ k) 1 == 1) = true := by rw [hbt, h1]; rfl
        have H1 := Lib.hid h1
        clear h1 hbt
        go_wp2
        go_round
        case rel => exact ⟨k + 1, by omega, by go_num, by rw [raw_step a p k ha hlt l2, raw, if_pos H1.out, Hp.out]⟩
        case measure => simp [intOf]; omega
      · have ht : (bits BinOp.and IntKind.u8 ((b : Int) / 2 ^ k) 1 == 1) = false := by rw [hbt]; simp only [beq_eq_false_iff_ne, ne_eq]; omega
        have H1 := Lib.hid h1
        clear h1 hbt
        go_wp2
        go_round
        case rel => exact ⟨k + 1, by omega, by go_num, by rw [raw, if_neg H1.out, Hp.out]⟩
        case measure => simp [intOf]; omega
    · have l2 := raw_lt a b k ha hk
      have HR2 : Hid (rd (raw a b k) 7 % 256 = R) := by rw [show k = 8 by omega]; exact HR.out
      clear HR
      generalize raw a b k = X at *
      go_wp2
      go_loop [5, 7] (fun x i => ∃ j : Nat, 7 ≤ j ∧ j ≤ 14 ∧ i = .int .i64 (j : Nat) ∧ x = .int .i64 (rd X (14 - j) : Nat)) (fun _ i => (intOf i).toNat)
      case atStart => exact ⟨14, by omega, by omega, rfl, rfl⟩
      case round =>
        obtain ⟨j, hj1, hj2, rfl, rfl⟩ := hrel
        by_cases hge : 8 ≤ j
        · have l3 := rd_lt X (14 - j) l2 (by omega)
          have hs := Lib.hid (rd_succ X j hge hj2)
          have hbt := i64_bit (rd X (14 - j)) j l3
          generalize hp : rd X (14 - j) = p at *
          have Hp := Lib.hid hp
          clear hp
          by_cases h1 : p / 2 ^ j % 2 = 1
          · have ht : (bits BinOp.and IntKind.i64 ((p : Int) / 2 ^ j) 1 == 1) = true := by rw [hbt, h1]; rfl
            have H1 := Lib.hid h1
            clear h1 hbt
            go_wp2
            go_round
            case rel => exact ⟨j - 1, by omega, by omega, by congr 1; omega, by rw [rd_step p j hge hj2 l3, hs.out, if_pos H1.out]⟩
            case measure => simp [intOf]; omega
          · have ht : (bits BinOp.and IntKind.i64 ((p : Int) / 2 ^ j) 1 == 1) = false := by rw [hbt]; simp only [beq_eq_false_iff_ne, ne_eq]; omega
            have H1 := Lib.hid h1
            clear h1 hbt
            go_wp2
            go_round
            case rel => exact ⟨j - 1, by omega, by omega, by congr 1; omega, by rw [hs.out, if_neg H1.out]⟩
            case measure => simp [intOf]; omega
        · have HR3 : Hid (rd X (14 - j) % 256 = R) := by rw [show 14 - j = 7 by omega]; exact HR2.out
          clear HR2
          generalize rd X (14 - j) = Z at *
          have wz : ((Z : Int) % 256) = (R : Int) := by rw [← HR3.out]; omega
          go_wp2
          go_ret
          exact ⟨ret_int (by first | exact wz | rfl | omega), rfl⟩
end Go.Proofs.Ytmmfigdmdamnlab
