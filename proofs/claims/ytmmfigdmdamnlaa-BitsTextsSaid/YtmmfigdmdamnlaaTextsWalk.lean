/- The law BitsTexts returns true whatever comes in, and nothing that was there is changed. -/
import Derived.Test.YtmmfigdmdamnlaaTextsA
import Derived.Test.YtmmfigdmdamnlaaTextsB
import Derived.Test.YtmmfigdmdamnlaaTextsC
import Derived.Test.YtmmfigdmdamnlaaTextsD
namespace Go.Proofs.Ytmmfigdmdamnlaa
open Go.RowKit
set_option linter.unusedVariables false

set_option maxRecDepth 100000 in
set_option maxHeartbeats 1000000 in
theorem texts_far (A1 A2 : Option Addr) (n m c1 c2 : Nat) (s : ByteArray) (w : World) (h1 : n ≤ 9223372036854775807) (h2 : m ≤ 9223372036854775807) (h3 : s.size ≤ 9223372036854775807) (h : 500 < n ∨ 500 < m ∨ 1000 < s.size) :
    Calls Try.prog 5 #[.slice A1 n c1, .slice A2 m c2, .string s] w (IsTrue w) := by
  by_cases hn : 500 < n
  · have d0 : decide (500 < (n : Int)) = true := by simp; omega
    clear h
    go_enter Try.func5, Try.ntmps5
    go_wp2_with fail
    refine (speaks_any w).mono ?_
    rintro e w1 ⟨rfl, hb1⟩
    have Hb1 := Lib.hid hb1
    clear hb1
    go_wp2
    go_ret
    exact ⟨rfl, Hb1.out⟩
  · have d0 : decide (500 < (n : Int)) = false := by simp; omega
    by_cases hm : 500 < m
    · have d1 : decide (500 < (m : Int)) = true := by simp; omega
      clear h
      go_enter Try.func5, Try.ntmps5
      go_wp2_with fail
      refine (speaks_any w).mono ?_
      rintro e w1 ⟨rfl, hb1⟩
      have Hb1 := Lib.hid hb1
      clear hb1
      go_wp2
      go_ret
      exact ⟨rfl, Hb1.out⟩
    · have d1 : decide (500 < (m : Int)) = false := by simp; omega
      have d2 : decide (1000 < (s.size : Int)) = true := by simp; omega
      clear h
      go_enter Try.func5, Try.ntmps5
      go_wp2_with fail
      refine (speaks_any w).mono ?_
      rintro e w1 ⟨rfl, hb1⟩
      have Hb1 := Lib.hid hb1
      clear hb1
      go_wp2
      go_ret
      exact ⟨rfl, Hb1.out⟩

theorem texts_walk (A1 A2 : Option Addr) (n m c1 c2 : Nat) (xs ys : List Nat) (s : ByteArray) (w : World) (hx : Row w w.heap.size A1 n c1 xs) (hy : Row w w.heap.size A2 m c2 ys) (hs : s.size ≤ 9223372036854775807) :
    Calls Try.prog 5 #[.slice A1 n c1, .slice A2 m c2, .string s] w (IsTrue w) := by
  by_cases h : 500 < n ∨ 500 < m ∨ 1000 < s.size
  · exact texts_far A1 A2 n m c1 c2 s w hx.max hy.max hs h
  · by_cases hnm : (n : Int) ≤ (m : Int)
    · rcases text_cases s with ⟨K, h1, h2⟩ | ⟨K, h1, h2⟩ | ⟨K, h1, h2⟩ | ⟨K, h1, h2⟩
      · exact texts_odd_ok_n A1 A2 n m c1 c2 xs ys s K w hx hy (by omega) (by omega) (by omega) h1 h2 hnm
      · exact texts_odd_bad_n A1 A2 n m c1 c2 xs ys s K w hx hy (by omega) (by omega) (by omega) h1 h2 hnm
      · exact texts_even_ok_n A1 A2 n m c1 c2 xs ys s K w hx hy (by omega) (by omega) (by omega) h1 h2 hnm
      · exact texts_even_bad_n A1 A2 n m c1 c2 xs ys s K w hx hy (by omega) (by omega) (by omega) h1 h2 hnm
    · have hnm' : (m : Int) < (n : Int) := by omega
      rcases text_cases s with ⟨K, h1, h2⟩ | ⟨K, h1, h2⟩ | ⟨K, h1, h2⟩ | ⟨K, h1, h2⟩
      · exact texts_odd_ok_m A1 A2 n m c1 c2 xs ys s K w hx hy (by omega) (by omega) (by omega) h1 h2 hnm'
      · exact texts_odd_bad_m A1 A2 n m c1 c2 xs ys s K w hx hy (by omega) (by omega) (by omega) h1 h2 hnm'
      · exact texts_even_ok_m A1 A2 n m c1 c2 xs ys s K w hx hy (by omega) (by omega) (by omega) h1 h2 hnm'
      · exact texts_even_bad_m A1 A2 n m c1 c2 xs ys s K w hx hy (by omega) (by omega) (by omega) h1 h2 hnm'
end Go.Proofs.Ytmmfigdmdamnlaa
