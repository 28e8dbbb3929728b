/- Read of a row of bytes returns the number that its first eight bytes are, the least weight first; the document's Read returns the same. Neither changes anything. -/
import Derived.Test.YtpibmccofjpelaaWords
import Derived.Test.YtpibmccofjpelaaPlain
namespace Go.Proofs.Ytpibmccofjpelaa
open Go.RowKit
set_option linter.unusedVariables false

theorem read_step {xs : List Nat} {n k u v : Nat} (hl : xs.length = n) (hb : ∀ x ∈ xs, x < 256) (hu : xs.getD k 0 = u) (hv : le (xs.take k) = v) (h1 : k < n) (h2 : k < 8) :
    Value.int IntKind.u64 (bits BinOp.or IntKind.u64 (v : Int) (IntKind.u64.wrap ((u : Int) * 2 ^ (8 * k)))) = Value.int IntKind.u64 (le (xs.take (k + 1)) : Nat) := by
  subst hu hv
  have hlt : xs.getD k 0 < 256 := by
    rw [List.getD_eq_getElem?_getD, List.getElem?_eq_getElem (by omega)]
    exact hb _ (List.getElem_mem _)
  rw [or_byte _ _ _ (le_take_lt xs k hb) hlt h2, le_take_succ xs k (by omega)]
theorem read_end {xs : List Nat} {n k : Nat} (hl : xs.length = n) (h1 : k ≤ 8) (h2 : ¬ (k < n ∧ k < 8)) : ((le (xs.take k) : Nat) : Int) = (le (xs.take 8) : Nat) := by
  by_cases h : k < 8
  · rw [List.take_of_length_le (by omega), List.take_of_length_le (by omega)]
  · rw [show k = 8 by omega]

set_option maxHeartbeats 400000 in
theorem read_any (A : Option Addr) (n c : Nat) (xs : List Nat) (B : Nat) (w : World) (hx : Row w B A n c xs) :
    Calls Try.prog 36 #[.slice A n c] w fun e w' => e = .returned (.int .u64 (le (xs.take 8) : Nat)) ∧ w = w' := by
  have hn := hx.max
  by_cases hm : (n : Int) ≤ 8
  all_goals
    go_enter Try.func36, Try.ntmps36
    go_wp2_with fail
    go_loop [3, 8] (fun v i => ∃ k : Nat, k ≤ n ∧ k ≤ 8 ∧ i = .int .i64 k ∧ v = .int .u64 (le (xs.take k) : Nat)) (fun _ i => 8 - (intOf i).toNat)
    case atStart => exact ⟨0, by omega, by omega, rfl, rfl⟩
    case round =>
      obtain ⟨k, hk, hk8, rfl, rfl⟩ := hrel
      by_cases hlt : k < n ∧ k < 8
      · obtain ⟨h1, h2⟩ := hlt
        obtain ⟨b1, o1, rfl, hb1, hc1⟩ := hx.at_ (by omega)
        have hc1k := hc1 k h1
        clear hc1
        have l1 := hx.lt k
        generalize hu : xs.getD k 0 = u at *
        generalize hv : le (xs.take k) = v at *
        have Hu := Lib.hid hu
        have Hv := Lib.hid hv
        clear hu hv
        go_wp2
        go_round
        case rel => exact ⟨k + 1, by omega, by omega, by go_num, read_step hx.1 hx.2.1 Hu.out Hv.out h1 h2⟩
        case measure => simp [intOf]; omega
      · go_wp2
        go_ret
        exact ⟨ret_int (read_end hx.1 (by omega) (by omega)), rfl⟩

/-- What the document's Read has behind the bytes from i on. -/
def hi (xs : List Nat) (i : Nat) : Nat := le ((xs.take 8).drop i)
theorem hi_start (xs : List Nat) : Value.int IntKind.u64 0 = Value.int IntKind.u64 (hi xs ((7 : Int) + 1).toNat : Nat) := by
  unfold hi
  rw [List.drop_of_length_le (by simp; omega)]; rfl
theorem hi_lt (xs : List Nat) (i : Nat) (h : ∀ x ∈ xs, x < 256) : hi xs i < 256 ^ (8 - i) := by
  unfold hi
  have h1 := le_lt ((xs.take 8).drop i) (fun x hx => h x (List.mem_of_mem_take (List.mem_of_mem_drop hx)))
  have h2 : 256 ^ ((xs.take 8).drop i).length ≤ 256 ^ (8 - i) := Nat.pow_le_pow_right (by omega) (by simp; omega)
  omega
theorem hi_step (xs : List Nat) (j : Nat) (hj : j < 8) : hi xs j = hi xs (j + 1) * 256 + (if j < xs.length then xs.getD j 0 else 0) := by
  unfold hi
  by_cases h : j < xs.length
  · rw [List.drop_eq_getElem_cons (by simp; omega), if_pos h, List.getD_eq_getElem?_getD, List.getElem?_eq_getElem h]
    simp [le, Nat.mul_comm]; omega
  · rw [if_neg h, List.drop_of_length_le (by simp; omega), List.drop_of_length_le (by simp; omega)]; rfl
theorem wrap_nat (a : Nat) (h : a < 18446744073709551616) : IntKind.u64.wrap (a : Int) = (a : Int) := by
  simp [IntKind.wrap, IntKind.bits, IntKind.signed]; omega
theorem wrap_shift0 (v : Nat) (h : v < 72057594037927936) : IntKind.u64.wrap ((v : Int) * 256) = ((v * 256 : Nat) : Int) := by
  have h1 : v * 256 < 18446744073709551616 := by omega
  have := wrap_nat (v * 256) h1
  simpa using this
theorem wrap_shift (v u : Nat) (h : v < 72057594037927936) (hu : u < 256) : IntKind.u64.wrap (IntKind.u64.wrap ((v : Int) * 256) + (u : Int)) = ((v * 256 + u : Nat) : Int) := by
  rw [wrap_shift0 v h]
  have h1 : v * 256 + u < 18446744073709551616 := by omega
  have := wrap_nat (v * 256 + u) h1
  simpa using this
theorem hi_small (xs : List Nat) (j : Nat) (h : ∀ x ∈ xs, x < 256) (hj : j < 8) : hi xs (j + 1) < 72057594037927936 := by
  have h1 := hi_lt xs (j + 1) h
  have h2 : (256 : Nat) ^ (8 - (j + 1)) ≤ 256 ^ 7 := Nat.pow_le_pow_right (by omega) (by omega)
  have h3 : (256 : Nat) ^ 7 = 72057594037927936 := by decide
  omega
theorem hi_step_in {xs : List Nat} {n j u v : Nat} (hl : xs.length = n) (hb : ∀ x ∈ xs, x < 256) (h1 : j < n) (h2 : j < 8) (hv : hi xs ((j : Int) + 1).toNat = v) (hu : xs.getD j 0 = u) :
    Value.int IntKind.u64 (IntKind.u64.wrap (IntKind.u64.wrap ((v : Int) * 256) + (u : Int))) = Value.int IntKind.u64 (hi xs ((j : Int) - 1 + 1).toNat : Nat) := by
  have e1 : ((j : Int) + 1).toNat = j + 1 := by omega
  have e2 : ((j : Int) - 1 + 1).toNat = j := by omega
  rw [e1] at hv
  rw [e2, hi_step xs j h2, if_pos (by omega), hu, hv]
  have hs := hi_small xs j hb h2
  rw [hv] at hs
  have hlt : u < 256 := by
    rw [← hu, List.getD_eq_getElem?_getD, List.getElem?_eq_getElem (by omega)]
    exact hb _ (List.getElem_mem _)
  rw [wrap_shift v u hs hlt]
theorem hi_step_out {xs : List Nat} {n j v : Nat} (hl : xs.length = n) (hb : ∀ x ∈ xs, x < 256) (h1 : ¬ j < n) (h2 : j < 8) (hv : hi xs ((j : Int) + 1).toNat = v) :
    Value.int IntKind.u64 (IntKind.u64.wrap ((v : Int) * 256)) = Value.int IntKind.u64 (hi xs ((j : Int) - 1 + 1).toNat : Nat) := by
  have e1 : ((j : Int) + 1).toNat = j + 1 := by omega
  have e2 : ((j : Int) - 1 + 1).toNat = j := by omega
  rw [e1] at hv
  rw [e2, hi_step xs j h2, if_neg (by omega), hv]
  have hs := hi_small xs j hb h2
  rw [hv] at hs
  rw [wrap_shift0 v hs, Nat.add_zero]

set_option maxHeartbeats 400000 in
theorem refRead_any (A : Option Addr) (n c : Nat) (xs : List Nat) (B : Nat) (w : World) (hx : Row w B A n c xs) :
    Calls Try.prog 33 #[.slice A n c] w fun e w' => e = .returned (.int .u64 (le (xs.take 8) : Nat)) ∧ w = w' := by
  have hn := hx.max
  go_enter Try.func33, Try.ntmps33
  go_wp2_with fail
  go_loop [3, 4] (fun v i => ∃ k : Int, -1 ≤ k ∧ k ≤ 7 ∧ i = .int .i64 k ∧ v = .int .u64 (hi xs (k + 1).toNat : Nat)) (fun _ i => (intOf i + 1).toNat)
  case atStart => exact ⟨7, by omega, by omega, rfl, hi_start xs⟩
  case round =>
    obtain ⟨k, hk, hk8, rfl, rfl⟩ := hrel
    by_cases hz : 0 ≤ k
    · obtain ⟨j, rfl⟩ := Int.eq_ofNat_of_zero_le hz
      have hvb := hi_lt xs ((j : Int) + 1).toNat hx.2.1
      generalize hv : hi xs ((j : Int) + 1).toNat = v at *
      have Hv := Lib.hid hv
      clear hv
      by_cases hlt : j < n
      · obtain ⟨b1, o1, rfl, hb1, hc1⟩ := hx.at_ (by omega)
        have hc1k := hc1 j hlt
        clear hc1
        have l1 := hx.lt j
        generalize hu : xs.getD j 0 = u at *
        have Hu := Lib.hid hu
        clear hu
        go_wp2
        go_round
        case rel => exact ⟨(j : Int) - 1, by omega, by omega, rfl, hi_step_in hx.1 hx.2.1 hlt (by omega) Hv.out Hu.out⟩
        case measure => simp [intOf]
      · go_wp2
        go_round
        case rel => exact ⟨(j : Int) - 1, by omega, by omega, rfl, hi_step_out hx.1 hx.2.1 hlt (by omega) Hv.out⟩
        case measure => simp [intOf]
    · go_wp2
      go_ret
      refine ⟨ret_int ?_, rfl⟩
      rw [show (k + 1).toNat = 0 by omega]; simp [hi]
end Go.Proofs.Ytpibmccofjpelaa
