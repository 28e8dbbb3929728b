/- The law BitsBeside returns true whatever comes in, and nothing that was there is changed. -/
import Derived.Test.YtmmfigdmdamnlaaWholeWalk
namespace Go.Proofs.Ytmmfigdmdamnlaa
open Go.RowKit
set_option linter.unusedVariables false

/-- Does the law leave these inputs out? -/
def out (L : Nat) (a n o m : Int) : Prop := 500 < (L : Int) ∨ a < 0 ∨ o < 0 ∨ n < 0 ∨ m < 0 ∨ 64 < n ∨ 64 < m ∨ 8 * (L : Int) < a ∨ 8 * (L : Int) < o ∨ (a < o + m ∧ o < a + n)

set_option maxRecDepth 100000 in
set_option maxHeartbeats 1000000 in
theorem beside_out (A : Option Addr) (L c : Nat) (xs : List Nat) (a n : Int) (v : Nat) (o m : Int) (w : World) (hx : Row w w.heap.size A L c xs) (h0 : -9223372036854775808 ≤ a) (h1 : a ≤ 9223372036854775807) (h2 : -9223372036854775808 ≤ n) (h3 : n ≤ 9223372036854775807) (h4 : -9223372036854775808 ≤ o) (h5 : o ≤ 9223372036854775807) (h6 : -9223372036854775808 ≤ m) (h7 : m ≤ 9223372036854775807) (ho : out L a n o m) :
    Calls Try.prog 4 #[.slice A L c, .int .i64 a, .int .i64 n, .int .u64 v, .int .i64 o, .int .i64 m] w (IsTrue w) := by
  have hmax := hx.max
  have HX := Lib.hid hx
  clear hx
  by_cases c0 : 500 < (L : Int)
  · have d0 : decide (500 < (L : Int)) = true := by simpa using c0
    clear ho
    go_enter Try.func4, Try.ntmps4
    go_wp2_with fail
    refine (speaks_any w).mono ?_
    rintro e w1 ⟨rfl, hb1⟩
    have Hb1 := Lib.hid hb1
    clear hb1
    go_wp2
    go_ret
    exact ⟨rfl, Hb1.out⟩
  have d0 : decide (500 < (L : Int)) = false := by simpa using c0
  by_cases c1 : a < 0
  · have d1 : decide (a < 0) = true := by simpa using c1
    clear ho
    go_enter Try.func4, Try.ntmps4
    go_wp2_with fail
    refine (speaks_any w).mono ?_
    rintro e w1 ⟨rfl, hb1⟩
    have Hb1 := Lib.hid hb1
    clear hb1
    go_wp2
    go_ret
    exact ⟨rfl, Hb1.out⟩
  have d1 : decide (a < 0) = false := by simpa using c1
  by_cases c2 : o < 0
  · have d2 : decide (o < 0) = true := by simpa using c2
    clear ho
    go_enter Try.func4, Try.ntmps4
    go_wp2_with fail
    refine (speaks_any w).mono ?_
    rintro e w1 ⟨rfl, hb1⟩
    have Hb1 := Lib.hid hb1
    clear hb1
    go_wp2
    go_ret
    exact ⟨rfl, Hb1.out⟩
  have d2 : decide (o < 0) = false := by simpa using c2
  by_cases c3 : n < 0
  · have d3 : decide (n < 0) = true := by simpa using c3
    clear ho
    go_enter Try.func4, Try.ntmps4
    go_wp2_with fail
    refine (speaks_any w).mono ?_
    rintro e w1 ⟨rfl, hb1⟩
    have Hb1 := Lib.hid hb1
    clear hb1
    go_wp2
    go_ret
    exact ⟨rfl, Hb1.out⟩
  have d3 : decide (n < 0) = false := by simpa using c3
  by_cases c4 : m < 0
  · have d4 : decide (m < 0) = true := by simpa using c4
    clear ho
    go_enter Try.func4, Try.ntmps4
    go_wp2_with fail
    refine (speaks_any w).mono ?_
    rintro e w1 ⟨rfl, hb1⟩
    have Hb1 := Lib.hid hb1
    clear hb1
    go_wp2
    go_ret
    exact ⟨rfl, Hb1.out⟩
  have d4 : decide (m < 0) = false := by simpa using c4
  by_cases c5 : 64 < n
  · have d5 : decide (64 < n) = true := by simpa using c5
    clear ho
    go_enter Try.func4, Try.ntmps4
    go_wp2_with fail
    refine (speaks_any w).mono ?_
    rintro e w1 ⟨rfl, hb1⟩
    have Hb1 := Lib.hid hb1
    clear hb1
    go_wp2
    go_ret
    exact ⟨rfl, Hb1.out⟩
  have d5 : decide (64 < n) = false := by simpa using c5
  by_cases c6 : 64 < m
  · have d6 : decide (64 < m) = true := by simpa using c6
    clear ho
    go_enter Try.func4, Try.ntmps4
    go_wp2_with fail
    refine (speaks_any w).mono ?_
    rintro e w1 ⟨rfl, hb1⟩
    have Hb1 := Lib.hid hb1
    clear hb1
    go_wp2
    go_ret
    exact ⟨rfl, Hb1.out⟩
  have d6 : decide (64 < m) = false := by simpa using c6
  by_cases c7 : 8 * (L : Int) < a
  · have d7 : decide (8 * (L : Int) < a) = true := by simpa using c7
    clear ho
    go_enter Try.func4, Try.ntmps4
    go_wp2_with fail
    refine (speaks_any w).mono ?_
    rintro e w1 ⟨rfl, hb1⟩
    have Hb1 := Lib.hid hb1
    clear hb1
    go_wp2
    go_ret
    exact ⟨rfl, Hb1.out⟩
  have d7 : decide (8 * (L : Int) < a) = false := by simpa using c7
  by_cases c8 : 8 * (L : Int) < o
  · have d8 : decide (8 * (L : Int) < o) = true := by simpa using c8
    clear ho
    go_enter Try.func4, Try.ntmps4
    go_wp2_with fail
    refine (speaks_any w).mono ?_
    rintro e w1 ⟨rfl, hb1⟩
    have Hb1 := Lib.hid hb1
    clear hb1
    go_wp2
    go_ret
    exact ⟨rfl, Hb1.out⟩
  have d8 : decide (8 * (L : Int) < o) = false := by simpa using c8
  have hlast : a < o + m ∧ o < a + n := by unfold out at ho; omega
  obtain ⟨e1, e2⟩ := hlast
  have d9 : decide (a < o + m) = true := by simpa using e1
  have d10 : decide (o < a + n) = true := by simpa using e2
  clear ho
  go_enter Try.func4, Try.ntmps4
  go_wp2_with fail
  refine (speaks_any w).mono ?_
  rintro e w1 ⟨rfl, hb1⟩
  have Hb1 := Lib.hid hb1
  clear hb1
  go_wp2
  go_ret
  exact ⟨rfl, Hb1.out⟩
end Go.Proofs.Ytmmfigdmdamnlaa
