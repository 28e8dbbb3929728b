/- The document's byte that stands for another one is the program's. No statement is proved here. -/
import Derived.Test.YtmmfigdmdamnlabRefTimes
namespace Go.Proofs.Ytmmfigdmdamnlab
open Go.RowKit
set_option linter.unusedVariables false

/-- The inverse, if it is below k. -/
def ivTo (x k : Nat) : Nat := if x ≠ 0 ∧ pw x 7 < k then pw x 7 else 0
theorem ivTo_hit (x k : Nat) (hx : x < 256) (hk : k < 256) (h : times x k = 1) : ivTo x (k + 1) = k := by
  have h0 : x ≠ 0 := fun e => by rw [e, times_zero] at h; cases h
  have e := (times_one_iff x k hx hk h0).1 h
  unfold ivTo
  rw [if_pos ⟨h0, by omega⟩]; exact e.symm
theorem ivTo_miss (x k : Nat) (hx : x < 256) (hk : k < 256) (h : ¬ times x k = 1) : ivTo x (k + 1) = ivTo x k := by
  unfold ivTo
  by_cases h0 : x = 0
  · rw [if_neg (by omega), if_neg (by omega)]
  · have e : k ≠ pw x 7 := fun e => h ((times_one_iff x k hx hk h0).2 e)
    by_cases h1 : pw x 7 < k
    · rw [if_pos ⟨h0, by omega⟩, if_pos ⟨h0, h1⟩]
    · rw [if_neg (by omega), if_neg (by omega)]
theorem pw0 : pw 0 7 = 0 := by decide +kernel
theorem ivTo_end (x : Nat) : ivTo x 256 = pw x 7 := by
  unfold ivTo
  by_cases h0 : x = 0
  · rw [if_neg (by omega), h0, pw0]
  · rw [if_pos ⟨h0, pw_lt x 7⟩]
theorem times_x0 (x : Nat) : times x 0 = 0 := (times_lin x).zero
theorem ivTo_one (x : Nat) (hx : x < 256) : ivTo x 1 = 0 := by
  rw [ivTo_miss x 0 hx (by omega) (by rw [times_x0]; omega)]
  unfold ivTo; rw [if_neg (by omega)]
attribute [irreducible] ivTo
def btv (b k : Nat) : Nat := b / 2 ^ k ^^^ b / 2 ^ ((k + 4) % 8) ^^^ b / 2 ^ ((k + 5) % 8) ^^^ b / 2 ^ ((k + 6) % 8) ^^^ b / 2 ^ ((k + 7) % 8) ^^^ 99 / 2 ^ k
def sbTo (b : Nat) : Nat → Nat
  | 0 => 0
  | k + 1 => sbTo b k + btv b k % 2 * 2 ^ k
theorem sbTo_sub : ((List.range 256).all fun x => sbTo (pw x 7) 8 == sub x) = true := by decide +kernel
theorem sbTo_lt (b k : Nat) : sbTo b k < 2 ^ k := by
  induction k with
  | zero => simp [sbTo]
  | succ k ih =>
    rw [sbTo, Nat.pow_succ]
    have : btv b k % 2 * 2 ^ k ≤ 1 * 2 ^ k := Nat.mul_le_mul (by omega) (Nat.le_refl _)
    omega

theorem div_lt (b e : Nat) (hb : b < 256) : b / 2 ^ e < 256 := Nat.lt_of_le_of_lt (Nat.div_le_self _ _) hb
theorem xor_lt8 {a b : Nat} (ha : a < 256) (hb : b < 256) : a ^^^ b < 256 := Nat.xor_lt_two_pow (n := 8) ha hb
theorem xor8 (a b : Nat) (ha : a < 256) (hb : b < 256) : bits .xor .i64 (a : Int) (b : Int) = ((a ^^^ b : Nat) : Int) := i64_xor_nat a b (by omega) (by omega)
theorem sb_step (b k : Nat) (hb : b < 256) (hk : k < 8) :
    wrap64 (((sbTo b k : Nat) : Int) + wrap64 (bits .and .i64 (bits .xor .i64 (bits .xor .i64 (bits .xor .i64 (bits .xor .i64 (bits .xor .i64 ((b : Int) / 2 ^ k) ((b : Int) / 2 ^ ((k + 4) % 8))) ((b : Int) / 2 ^ ((k + 5) % 8))) ((b : Int) / 2 ^ ((k + 6) % 8))) ((b : Int) / 2 ^ ((k + 7) % 8))) (99 / 2 ^ k)) 1 * 2 ^ k)) = ((sbTo b (k + 1) : Nat) : Int) := by
  have e : ∀ j, ((b : Int) / 2 ^ j) = ((b / 2 ^ j : Nat) : Int) := fun j => by simp
  have e9 : ((99 : Int) / 2 ^ k) = ((99 / 2 ^ k : Nat) : Int) := by simp
  have l0 := div_lt b k hb
  have l4 := div_lt b ((k + 4) % 8) hb
  have l5 := div_lt b ((k + 5) % 8) hb
  have l6 := div_lt b ((k + 6) % 8) hb
  have l7 := div_lt b ((k + 7) % 8) hb
  have l9 := div_lt 99 k (by omega)
  have m4 := xor_lt8 l0 l4
  have m5 := xor_lt8 m4 l5
  have m6 := xor_lt8 m5 l6
  have m7 := xor_lt8 m6 l7
  have m9 := xor_lt8 m7 l9
  rw [e, e, e, e, e, e9, xor8 _ _ l0 l4, xor8 _ _ m4 l5, xor8 _ _ m5 l6, xor8 _ _ m6 l7, xor8 _ _ m7 l9]
  change wrap64 (((sbTo b k : Nat) : Int) + wrap64 (bits .and .i64 ((btv b k : Nat) : Int) 1 * 2 ^ k)) = _
  have m9' : btv b k < 256 := m9
  rw [i64_and_one _ (by omega)]
  have e2 : (((btv b k % 2 : Nat) : Int) * 2 ^ k) = ((btv b k % 2 * 2 ^ k : Nat) : Int) := by simp
  have hp : 2 ^ k ≤ 2 ^ 7 := Nat.pow_le_pow_right (by omega) (by omega)
  have h1 : btv b k % 2 * 2 ^ k ≤ 1 * 2 ^ k := Nat.mul_le_mul (by omega) (Nat.le_refl _)
  have h2 := sbTo_lt b k
  rw [e2, wrap_small _ (by omega), show (((sbTo b k : Nat) : Int) + ((btv b k % 2 * 2 ^ k : Nat) : Int)) = ((sbTo b k + btv b k % 2 * 2 ^ k : Nat) : Int) by simp, wrap_small _ (by omega), sbTo]
attribute [irreducible] sbTo

set_option maxRecDepth 20000 in
set_option maxHeartbeats 1000000 in
theorem refSub_any (x : Nat) (w : World) (hx : x < 256) : Calls Try.prog 13 #[.int .u8 x] w fun e w' => e = .returned (.int .u8 (sub x : Nat)) ∧ ∃ n, w' = w.drewN n := by
  have HS := Lib.hid (beq_iff_eq.1 (List.all_eq_true.1 sbTo_sub x (List.mem_range.2 hx)))
  generalize sub x = R at *
  go_enter Try.func13, Try.ntmps13
  go_wp2
  go_loop [3, 4] (fun b i => ∃ k : Nat, 1 ≤ k ∧ k ≤ 256 ∧ i = .int .i64 k ∧ b = .int .i64 (ivTo x k : Nat)) (fun _ i => 256 - (intOf i).toNat)
  case atStart => exact ⟨1, by omega, by omega, rfl, by rw [ivTo_one x hx]; rfl⟩
  case round =>
    obtain ⟨k, hk1, hk, rfl, rfl⟩ := hrel
    by_cases hlt : k < 256
    · have TK := Lib.hid (fun W => refTimes_any x k W hx hlt)
      have wk : IntKind.u8.wrap (k : Int) = (k : Int) := IntWalk.u8_in _ (by omega)
      by_cases h1 : times x k = 1
      · have o2 := Lib.hid (ivTo_hit x k hx hlt h1)
        have H1 := Lib.hid h1
        clear h1
        go_wp2_with (first | (go_at_call 11; refine (TK.out _).mono ?_; rintro e W3 ⟨rfl, rfl⟩; rw [H1.out]))
        go_round
        case rel => exact ⟨k + 1, by omega, by omega, by go_num, by rw [o2.out]⟩
        case measure => simp [intOf]; omega
      · have o1 := Lib.hid (ivTo_miss x k hx hlt h1)
        have hne : (((times x k : Nat) : Int) == 1) = false := by simp only [beq_eq_false_iff_ne, ne_eq]; omega
        clear h1
        generalize times x k = z at *
        go_wp2_with (first | (go_at_call 11; refine (TK.out _).mono ?_; rintro e W3 ⟨rfl, rfl⟩))
        go_round
        case rel => exact ⟨k + 1, by omega, by omega, by go_num, by rw [o1.out]⟩
        case measure => simp [intOf]; omega
    · have e4 : ivTo x k = pw x 7 := by rw [show k = 256 by omega]; exact ivTo_end x
      rw [e4]
      clear e4
      have lb := pw_lt x 7
      generalize pw x 7 = b at *
      go_wp2
      go_loopw [5, 6] (fun o i wr => ∃ k : Nat, k ≤ 8 ∧ i = .int .i64 k ∧ o = .int .i64 (sbTo b k : Nat) ∧ ∃ n, wr = w.drewN n) (fun _ i _ => 8 - (intOf i).toNat)
      case atStart => exact ⟨0, by omega, rfl, by unfold sbTo; rfl, 0, rfl⟩
      case round =>
        obtain ⟨k, hk, rfl, rfl, n, rfl⟩ := hrel
        by_cases hlt : k < 8
        · have w4 : IntKind.i64.wrap ((k : Int) + 4) = (k : Int) + 4 := IntWalk.i64_in _ (by omega)
          have w5 : IntKind.i64.wrap ((k : Int) + 5) = (k : Int) + 5 := IntWalk.i64_in _ (by omega)
          have w6 : IntKind.i64.wrap ((k : Int) + 6) = (k : Int) + 6 := IntWalk.i64_in _ (by omega)
          have w7 : IntKind.i64.wrap ((k : Int) + 7) = (k : Int) + 7 := IntWalk.i64_in _ (by omega)
          go_wp2
          go_quiet (fail)
          go_wp2
          go_roundw
          case rel => exact ⟨k + 1, by omega, by go_num, by rw [sb_step b k lb hlt], _, rfl⟩
          case measure => simp [intOf]; omega
        · have HR3 : Hid (sbTo b k = R) := by rw [show k = 8 by omega]; exact HS.out
          clear HS
          have lz : sbTo b k < 256 := by have := sbTo_lt b k; rw [show k = 8 by omega] at this ⊢; exact this
          generalize sbTo b k = Z at *
          have wz : ((Z : Int) % 256) = (R : Int) := by rw [← HR3.out]; omega
          go_wp2
          go_ret
          exact ⟨ret_int (by first | exact wz | rfl | omega), _, rfl⟩
end Go.Proofs.Ytmmfigdmdamnlab
