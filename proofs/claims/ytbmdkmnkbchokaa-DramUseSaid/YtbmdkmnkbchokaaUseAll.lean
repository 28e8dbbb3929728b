/- The law of memory's use, for every input. No statement is proved here. -/
import Derived.Test.YtbmdkmnkbchokaaUseNo
namespace Go.Proofs.Ytbmdkmnkbchokaa
open Go.RowKit
set_option linter.unusedVariables false
set_option linter.unusedSimpArgs false
attribute [local irreducible] arrV Mm.arr Mm.fresh stR stW opsU

theorem news (w : World) (s : Int) (h : s ≤ 5000) : ∃ N, N ≤ 5000 ∧ News w s N := by
  by_cases hs : s < 0
  · refine ⟨0, by omega, fun W h0 => ?_⟩
    have := new_neg 0 0 0 s none [] h0 (by omega) rfl hs (Row.nil_ _ _)
    rw [repN_new] at this
    exact this
  · obtain ⟨N, rfl⟩ := Int.eq_ofNat_of_zero_le (show 0 ≤ s by omega)
    refine ⟨N, by omega, fun W h0 => ?_⟩
    have := new_nat N 0 0 N none [] h0 (by omega) rfl (Row.nil_ _ _)
    rw [repN_new] at this
    exact this
set_option maxHeartbeats 1000000 in
theorem use_great (s a n : Int) (b : Bool) (w : World) (h : 5000 < s ∨ 5000 < n) :
    Calls Try.prog 5 #[.int .i64 s, .int .i64 a, .int .i64 n, .bool b] w fun e w' => e = .returned (.bool true) ∧ Below w.heap.size w w' := by
  have SK := Lib.hid (fun W => speaks_true W)
  by_cases hs : 5000 < s
  · have g1 : decide (5000 < s) = true := decide_eq_true hs
    go_enter Try.func5, Try.ntmps5
    go_wp2_with (go_at_call 6; refine (SK.out _).mono ?_; rintro e W1 ⟨rfl, hb⟩)
    go_ret
    exact ⟨rfl, hb⟩
  · have hn : 5000 < n := by omega
    have g1 : decide (5000 < s) = false := decide_eq_false hs
    have g2 : decide (5000 < n) = true := decide_eq_true hn
    go_enter Try.func5, Try.ntmps5
    go_wp2_with (go_at_call 6; refine (SK.out _).mono ?_; rintro e W1 ⟨rfl, hb⟩)
    go_ret
    exact ⟨rfl, hb⟩
theorem use_walk (s a n : Int) (b : Bool) (w : World) (a0 : -9223372036854775808 ≤ a) (a1 : a ≤ 9223372036854775807) (n0 : -9223372036854775808 ≤ n) :
    Calls Try.prog 5 #[.int .i64 s, .int .i64 a, .int .i64 n, .bool b] w fun e w' => e = .returned (.bool true) ∧ Below w.heap.size w w' := by
  by_cases hg : 5000 < s ∨ 5000 < n
  · exact use_great s a n b w hg
  · have hs : s ≤ 5000 := by omega
    have hn : n ≤ 5000 := by omega
    obtain ⟨N, hN, NW⟩ := news w s hs
    cases b with
    | false =>
      cases hf : hasB N a n with
      | false => exact use_no_read s a n N w NW hs hn n0 hN a0 a1 hf
      | true =>
        have hf' := of_decide_eq_true hf
        obtain ⟨x, rfl⟩ := Int.eq_ofNat_of_zero_le hf'.1
        obtain ⟨y, rfl⟩ := Int.eq_ofNat_of_zero_le hf'.2.1
        exact use_ok_read s x y N w NW hs (by omega) hN (by omega)
    | true =>
      by_cases hneg : n < 0
      · cases hf : hasB N a 0 with
        | false => exact use_no_write_neg s a n N w NW hs hneg n0 hN a0 a1 hf
        | true =>
          have hf' := of_decide_eq_true hf
          obtain ⟨x, rfl⟩ := Int.eq_ofNat_of_zero_le hf'.1
          exact use_ok_write_neg s x n N w NW hs hneg n0 hN (by omega)
      · obtain ⟨y, rfl⟩ := Int.eq_ofNat_of_zero_le (show 0 ≤ n by omega)
        cases hf : hasB N a y with
        | false => exact use_no_write s a y N w NW hs (by omega) hN a0 a1 hf
        | true =>
          have hf' := of_decide_eq_true hf
          obtain ⟨x, rfl⟩ := Int.eq_ofNat_of_zero_le hf'.1
          exact use_ok_write s x y N w NW hs (by omega) hN (by omega)
end Go.Proofs.Ytbmdkmnkbchokaa
