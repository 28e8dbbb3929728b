/- Get gives the number that bits of bytes are; Put makes bits of bytes those of a number, or says what is wrong. No statement is proved here. -/
import Derived.Test.YtbmdkmnkbchokaaBit
namespace Go.Proofs.Ytbmdkmnkbchokaa
open Go.RowKit
set_option linter.unusedVariables false

theorem fits_of {L a n : Nat} (h1 : n ≤ 64) (h2 : a + n ≤ 8 * L) : fits L (a : Int) (n : Int) = true := by
  unfold fits; simp; omega

theorem get_step {xs : List Nat} {a k q r : Nat} (hq : getN xs a k = q) (hr : bitN xs (a + k) = r) (hv : q < 2 ^ k) (hd : r < 2) (hk : k < 64) :
    Value.int IntKind.u64 (bits .or .u64 (q : Int) (IntKind.u64.wrap ((r : Int) * 2 ^ k))) = .int .u64 (getN xs a (k + 1) : Nat) := by
  rw [or_bit q r k hv hd hk, getN, hq, hr]

theorem put_test {v n : Nat} (h : 2 ^ n ≤ v) : ((v : Int) / 2 ^ n != 0) = true := by
  have hp : 0 < 2 ^ n := Nat.pow_pos (by omega)
  have h1 : 1 ≤ v / 2 ^ n := (Nat.one_le_div_iff hp).2 h
  have e : ((v : Int) / 2 ^ n) = ((v / 2 ^ n : Nat) : Int) := by simp
  rw [e]; simp only [bne_iff_ne, ne_eq]; omega
theorem put_test0 {v n : Nat} (h : v < 2 ^ n) : ((v : Int) / 2 ^ n != 0) = false := by
  have e : ((v : Int) / 2 ^ n) = ((v / 2 ^ n : Nat) : Int) := by simp
  rw [e, Nat.div_eq_of_lt h]; rfl

theorem put_digit (v k : Nat) (hv : v < 18446744073709551616) : bits BinOp.and IntKind.u64 ((v : Int) / 2 ^ k) 1 % 256 = ((v / 2 ^ k % 2 : Nat) : Int) := by
  have h1 : v / 2 ^ k < 18446744073709551616 := Nat.lt_of_le_of_lt (Nat.div_le_self _ _) hv
  have e : ((v : Int) / 2 ^ k) = ((v / 2 ^ k : Nat) : Int) := by simp
  have := u64_and_nat (v / 2 ^ k) 1 h1 (by omega)
  rw [nat_mask1] at this
  have this : bits BinOp.and IntKind.u64 ((v / 2 ^ k : Nat) : Int) 1 = ((v / 2 ^ k % 2 : Nat) : Int) := this
  rw [e, this]
  generalize v / 2 ^ k = y
  omega
theorem own_head {w : World} {base n c : Nat} {A : Option Addr} {xs : List Nat} (h : Own w base A n c xs) (hn : 0 < n) : ∃ g, A = some ⟨g, 0, none⟩ := by
  rcases h.2.2.2 with ⟨_, h0⟩ | ⟨g, cap, cur, hv, _⟩
  · omega
  · injection hv with e; exact ⟨g, e⟩

set_option maxHeartbeats 400000 in
theorem get_yes (A : Option Addr) (L c a n : Nat) (xs : List Nat) (B : Nat) (w : World) (hx : Row w B A L c xs) (hL : L ≤ 3000) (h1 : n ≤ 64) (h2 : a + n ≤ 8 * L) :
    Calls Try.prog 24 #[.slice A L c, .int .i64 a, .int .i64 n] w fun e w' => e = .returned (.tuple #[.int .u64 (getN xs a n : Nat), .int .i64 0]) ∧ w = w' := by
  have hf := Lib.hid (fits_of h1 h2)
  go_enter Try.func24, Try.ntmps24
  go_wp2_with (go_at_call 26; (with_reducible refine (within_any A L c a n w hL (by omega) (by omega) (by omega) (by omega)).mono ?_); rintro e w' ⟨rfl, rfl⟩; rw [hf.out])
  go_loop [8, 16] (fun v i => ∃ k : Nat, k ≤ n ∧ i = .int .i64 k ∧ v = .int .u64 (getN xs a k : Nat)) (fun _ i => n - (intOf i).toNat)
  case atStart => exact ⟨0, by omega, rfl, rfl⟩
  case round =>
    obtain ⟨k, hk, rfl, rfl⟩ := hrel
    by_cases hlt : k < n
    · have hv := getN_lt xs a k
      generalize hq : getN xs a k = q at *
      have Hq := Lib.hid hq
      have HV := Lib.hid hv
      clear hq hv
      go_wp2_with fail
      rw [show ((a : Int) + (k : Int)) = ((a + k : Nat) : Int) from by omega]
      refine (bit_any A L c (a + k) xs B w hx hL (by omega)).mono ?_
      rintro e w' ⟨rfl, rfl⟩
      have hd := bitN_lt xs (a + k)
      have hbe : xs.getD ((a + k) / 8) 0 / 2 ^ ((a + k) % 8) % 2 = bitN xs (a + k) := rfl
      rw [hbe]
      clear hbe
      generalize hr : bitN xs (a + k) = r at *
      have Hr := Lib.hid hr
      clear hr
      go_wp2
      go_round
      case rel => exact ⟨k + 1, by omega, by go_num, get_step Hq.out Hr.out HV.out hd (by omega)⟩
      case measure => simp [intOf]; omega
    · obtain rfl : k = n := by omega
      go_wp2
      go_ret2
      exact ⟨rfl, rfl⟩
set_option maxHeartbeats 400000 in
theorem get_no (A : Option Addr) (L c : Nat) (a n : Int) (w : World) (hL : L ≤ 3000) (h0 : -9223372036854775808 ≤ a) (h1 : a ≤ 9223372036854775807) (h2 : -9223372036854775808 ≤ n) (h3 : n ≤ 9223372036854775807) (hno : fits L a n = false) :
    Calls Try.prog 24 #[.slice A L c, .int .i64 a, .int .i64 n] w fun e w' => e = .returned (.tuple #[.int .u64 0, .int .i64 2]) ∧ w = w' := by
  have hf := Lib.hid hno
  clear hno
  go_enter Try.func24, Try.ntmps24
  go_wp2_with (go_at_call 26; (with_reducible refine (within_any A L c a n w hL (by omega) (by omega) (by omega) (by omega)).mono ?_); rintro e w' ⟨rfl, rfl⟩; rw [hf.out])
  go_ret2
  exact ⟨rfl, rfl⟩

set_option maxHeartbeats 400000 in
theorem put_no (A : Option Addr) (L c : Nat) (a n : Int) (v : Nat) (w : World) (hL : L ≤ 3000) (h0 : -9223372036854775808 ≤ a) (h1 : a ≤ 9223372036854775807) (h2 : -9223372036854775808 ≤ n) (h3 : n ≤ 9223372036854775807) (hno : fits L a n = false) :
    Calls Try.prog 25 #[.slice A L c, .int .i64 a, .int .i64 n, .int .u64 v] w fun e w' => e = .returned (.int .i64 2) ∧ w = w' := by
  have hf := Lib.hid hno
  clear hno
  go_enter Try.func25, Try.ntmps25
  go_wp2_with (go_at_call 26; (with_reducible refine (within_any A L c a n w hL (by omega) (by omega) (by omega) (by omega)).mono ?_); rintro e w' ⟨rfl, rfl⟩; rw [hf.out])
  go_ret
  exact ⟨rfl, rfl⟩

set_option maxHeartbeats 400000 in
theorem put_great (A : Option Addr) (L c a n v : Nat) (w : World) (hL : L ≤ 3000) (h1 : n ≤ 64) (h2 : a + n ≤ 8 * L) (hv : 2 ^ n ≤ v) (hv2 : v < 18446744073709551616) :
    Calls Try.prog 25 #[.slice A L c, .int .i64 a, .int .i64 n, .int .u64 v] w fun e w' => e = .returned (.int .i64 1) ∧ w = w' := by
  have hf := Lib.hid (fits_of h1 h2)
  have hd := put_test hv
  have HV := Lib.hid hv
  clear hv
  go_enter Try.func25, Try.ntmps25
  go_wp2_with (go_at_call 26; (with_reducible refine (within_any A L c a n w hL (by omega) (by omega) (by omega) (by omega)).mono ?_); rintro e w' ⟨rfl, rfl⟩; rw [hf.out])
  go_ret
  exact ⟨rfl, rfl⟩

set_option maxHeartbeats 400000 in
theorem put_yes (A : Option Addr) (L c a n v : Nat) (xs : List Nat) (base : Nat) (w : World) (hO : Own w base A L c xs) (hL : L ≤ 3000) (h1 : n ≤ 64) (h2 : a + n ≤ 8 * L) (hv : v < 2 ^ n) (hv2 : v < 18446744073709551616) :
    Calls Try.prog 25 #[.slice A L c, .int .i64 a, .int .i64 n, .int .u64 v] w (Leaves w base A L c (putN xs a v n) (.int .i64 0)) := by
  have hf := Lib.hid (fits_of h1 h2)
  have hd := put_test0 hv
  have HV := Lib.hid hv
  clear hv
  go_enter Try.func25, Try.ntmps25
  go_wp2_with (go_at_call 26; (with_reducible refine (within_any A L c a n w hL (by omega) (by omega) (by omega) (by omega)).mono ?_); rintro e w' ⟨rfl, rfl⟩; rw [hf.out])
  go_loopw [20] (fun i wr => ∃ k : Nat, k ≤ n ∧ i = .int .i64 k ∧ Own wr base A L c (putN xs a v k) ∧ w.grownBy wr (Value.slice A L c).ownBlock) (fun i _ => n - (intOf i).toNat)
  case atStart => exact ⟨0, by omega, rfl, hO, World.grownBy.refl _ _⟩
  case round =>
    obtain ⟨k, hk, rfl, hO2, hg⟩ := hrel
    have HG := Lib.hid hg
    clear hg hd
    by_cases hlt : k < n
    · obtain ⟨g, rfl⟩ := own_head hO2 (by omega)
      go_wp2_with fail
      rw [show ((a : Int) + (k : Int)) = ((a + k : Nat) : Int) from by omega, put_digit v k hv2]
      refine (putBit_any g L c (a + k) (v / 2 ^ k % 2) (putN xs a v k) base wr hO2 hL (by omega) (by omega)).mono ?_
      rintro e w' ⟨rfl, hO3, hg3⟩
      have hg4 := Lib.hid (HG.out.trans hg3)
      clear hg3
      go_wp2
      go_roundw
      case rel => exact ⟨k + 1, by omega, by go_num, hO3, hg4.out⟩
      case measure => simp [intOf]; omega
    · obtain rfl : k = n := by omega
      go_wp2
      go_ret
      exact ⟨rfl, hO2, HG.out⟩
end Go.Proofs.Ytbmdkmnkbchokaa
