/- The law BitsBeside returns true whatever comes in, and nothing that was there is changed. -/
import Derived.Test.YtmmfigdmdamnlaaBesideOut
namespace Go.Proofs.Ytmmfigdmdamnlaa
open Go.RowKit
set_option linter.unusedVariables false

set_option maxRecDepth 100000 in
set_option maxHeartbeats 1000000 in
theorem beside_getno1 (A : Option Addr) (L c : Nat) (xs : List Nat) (a n v o m : Nat) (w : World) (hx : Row w w.heap.size A L c xs) (hL : L ≤ 500) (hn : n ≤ 64) (hm : m ≤ 64) (ha : a ≤ 8 * L) (hoL : o ≤ 8 * L) (hv : v < 18446744073709551616) (hb : o + m ≤ a) (hno : fits L (o : Int) (m : Int) = false) :
    Calls Try.prog 4 #[.slice A L c, .int .i64 a, .int .i64 n, .int .u64 v, .int .i64 o, .int .i64 m] w (IsTrue w) := by
  have d0 : decide (500 < (L : Int)) = false := by simp; omega
  have d1 : decide ((a : Int) < 0) = false := by simp
  have d2 : decide ((o : Int) < 0) = false := by simp
  have d3 : decide ((n : Int) < 0) = false := by simp
  have d4 : decide ((m : Int) < 0) = false := by simp
  have d5 : decide (64 < (n : Int)) = false := by simp; omega
  have d6 : decide (64 < (m : Int)) = false := by simp; omega
  have d7 : decide (8 * (L : Int) < (a : Int)) = false := by simp; omega
  have d8 : decide (8 * (L : Int) < (o : Int)) = false := by simp; omega
  have d9 : decide ((a : Int) < (o : Int) + (m : Int)) = false := by simp; omega
  have Hno := Lib.hid hno
  clear hno
  go_enter Try.func4, Try.ntmps4
  go_wp2_with fail
  refine (speaks_any w).mono ?_
  rintro e w1 ⟨rfl, hb1⟩
  have hx1 := (hx.below hb1).wider hb1.size
  have Hb1 := Lib.hid hb1
  clear hb1 hx
  go_wp2_with (at_builtin; refine wpList_append_row _ rfl _ _ rfl w1.heap.size (some ⟨w1.heap.size, 0, none⟩) 0 0 [] rfl (Own.empty (Nat.le_refl _)) w1.heap.size A L c xs rfl (hx1.alloc (Nat.le_refl _) _) (by omega) (by simp) ?_; intro A2 c2 w2 hO2 hg2 hbl2)
  have hb2 : Below w1.heap.size w1 w2 := below_first hg2
  have hO2' : Own w2 w1.heap.size A2 L c2 xs := by simpa using hO2
  have Hb2 := Lib.hid hb2
  have HO2 := Lib.hid hO2'
  clear hb2 hO2 hO2' hg2 hbl2 hx1 d0 d1 d2 d3 d4 d5 d6 d7 d8
  refine (get_no A2 L c2 o m w2 (by omega) (by omega) (by omega) (by omega) (by omega) Hno.out).mono ?_
  rintro e w3 ⟨rfl, rfl⟩
  go_wp2
  go_ret
  exact ⟨rfl, Hb1.out.trans (Hb2.out.mono Hb1.out.size)⟩

set_option maxRecDepth 100000 in
set_option maxHeartbeats 1000000 in
theorem beside_putno1 (A : Option Addr) (L c : Nat) (xs : List Nat) (a n v o m : Nat) (w : World) (hx : Row w w.heap.size A L c xs) (hL : L ≤ 500) (hn : n ≤ 64) (hm : m ≤ 64) (ha : a ≤ 8 * L) (hoL : o ≤ 8 * L) (hv : v < 18446744073709551616) (hb : o + m ≤ a) (hom : o + m ≤ 8 * L) (hno : fits L (a : Int) (n : Int) = false) :
    Calls Try.prog 4 #[.slice A L c, .int .i64 a, .int .i64 n, .int .u64 v, .int .i64 o, .int .i64 m] w (IsTrue w) := by
  have d0 : decide (500 < (L : Int)) = false := by simp; omega
  have d1 : decide ((a : Int) < 0) = false := by simp
  have d2 : decide ((o : Int) < 0) = false := by simp
  have d3 : decide ((n : Int) < 0) = false := by simp
  have d4 : decide ((m : Int) < 0) = false := by simp
  have d5 : decide (64 < (n : Int)) = false := by simp; omega
  have d6 : decide (64 < (m : Int)) = false := by simp; omega
  have d7 : decide (8 * (L : Int) < (a : Int)) = false := by simp; omega
  have d8 : decide (8 * (L : Int) < (o : Int)) = false := by simp; omega
  have d9 : decide ((a : Int) < (o : Int) + (m : Int)) = false := by simp; omega
  have Hno := Lib.hid hno
  clear hno
  go_enter Try.func4, Try.ntmps4
  go_wp2_with fail
  refine (speaks_any w).mono ?_
  rintro e w1 ⟨rfl, hb1⟩
  have hx1 := (hx.below hb1).wider hb1.size
  have Hb1 := Lib.hid hb1
  clear hb1 hx
  go_wp2_with (at_builtin; refine wpList_append_row _ rfl _ _ rfl w1.heap.size (some ⟨w1.heap.size, 0, none⟩) 0 0 [] rfl (Own.empty (Nat.le_refl _)) w1.heap.size A L c xs rfl (hx1.alloc (Nat.le_refl _) _) (by omega) (by simp) ?_; intro A2 c2 w2 hO2 hg2 hbl2)
  have hb2 : Below w1.heap.size w1 w2 := below_first hg2
  have hO2' : Own w2 w1.heap.size A2 L c2 xs := by simpa using hO2
  have Hb2 := Lib.hid hb2
  have HO2 := Lib.hid hO2'
  clear hb2 hO2 hO2' hg2 hbl2 hx1 d0 d1 d2 d3 d4 d5 d6 d7 d8
  refine (get_yes A2 L c2 o m xs _ w2 HO2.out.row (by omega) hm hom).mono ?_
  rintro e w3 ⟨rfl, rfl⟩
  generalize hq : getN xs o m = x at *
  have Hq := Lib.hid hq
  clear hq
  go_wp2_with fail
  refine (put_no A2 L c2 a n v w2 (by omega) (by omega) (by omega) (by omega) (by omega) Hno.out).mono ?_
  rintro e w3 ⟨rfl, rfl⟩
  go_wp2
  go_ret
  exact ⟨rfl, Hb1.out.trans (Hb2.out.mono Hb1.out.size)⟩

set_option maxRecDepth 100000 in
set_option maxHeartbeats 1000000 in
theorem beside_great1 (A : Option Addr) (L c : Nat) (xs : List Nat) (a n v o m : Nat) (w : World) (hx : Row w w.heap.size A L c xs) (hL : L ≤ 500) (hn : n ≤ 64) (hm : m ≤ 64) (ha : a ≤ 8 * L) (hoL : o ≤ 8 * L) (hv : v < 18446744073709551616) (hb : o + m ≤ a) (hom : o + m ≤ 8 * L) (han : a + n ≤ 8 * L) (hvn : 2 ^ n ≤ v) :
    Calls Try.prog 4 #[.slice A L c, .int .i64 a, .int .i64 n, .int .u64 v, .int .i64 o, .int .i64 m] w (IsTrue w) := by
  have d0 : decide (500 < (L : Int)) = false := by simp; omega
  have d1 : decide ((a : Int) < 0) = false := by simp
  have d2 : decide ((o : Int) < 0) = false := by simp
  have d3 : decide ((n : Int) < 0) = false := by simp
  have d4 : decide ((m : Int) < 0) = false := by simp
  have d5 : decide (64 < (n : Int)) = false := by simp; omega
  have d6 : decide (64 < (m : Int)) = false := by simp; omega
  have d7 : decide (8 * (L : Int) < (a : Int)) = false := by simp; omega
  have d8 : decide (8 * (L : Int) < (o : Int)) = false := by simp; omega
  have d9 : decide ((a : Int) < (o : Int) + (m : Int)) = false := by simp; omega
  have Hv := Lib.hid hvn
  clear hvn
  go_enter Try.func4, Try.ntmps4
  go_wp2_with fail
  refine (speaks_any w).mono ?_
  rintro e w1 ⟨rfl, hb1⟩
  have hx1 := (hx.below hb1).wider hb1.size
  have Hb1 := Lib.hid hb1
  clear hb1 hx
  go_wp2_with (at_builtin; refine wpList_append_row _ rfl _ _ rfl w1.heap.size (some ⟨w1.heap.size, 0, none⟩) 0 0 [] rfl (Own.empty (Nat.le_refl _)) w1.heap.size A L c xs rfl (hx1.alloc (Nat.le_refl _) _) (by omega) (by simp) ?_; intro A2 c2 w2 hO2 hg2 hbl2)
  have hb2 : Below w1.heap.size w1 w2 := below_first hg2
  have hO2' : Own w2 w1.heap.size A2 L c2 xs := by simpa using hO2
  have Hb2 := Lib.hid hb2
  have HO2 := Lib.hid hO2'
  clear hb2 hO2 hO2' hg2 hbl2 hx1 d0 d1 d2 d3 d4 d5 d6 d7 d8
  refine (get_yes A2 L c2 o m xs _ w2 HO2.out.row (by omega) hm hom).mono ?_
  rintro e w3 ⟨rfl, rfl⟩
  generalize hq : getN xs o m = x at *
  have Hq := Lib.hid hq
  clear hq
  go_wp2_with fail
  refine (put_great A2 L c2 a n v w2 (by omega) hn han Hv.out hv).mono ?_
  rintro e w3 ⟨rfl, rfl⟩
  go_wp2
  go_ret
  exact ⟨rfl, Hb1.out.trans (Hb2.out.mono Hb1.out.size)⟩

set_option maxRecDepth 100000 in
set_option maxHeartbeats 1000000 in
theorem beside_yes1 (A : Option Addr) (L c : Nat) (xs : List Nat) (a n v o m : Nat) (w : World) (hx : Row w w.heap.size A L c xs) (hL : L ≤ 500) (hn : n ≤ 64) (hm : m ≤ 64) (ha : a ≤ 8 * L) (hoL : o ≤ 8 * L) (hv : v < 18446744073709551616) (hb : o + m ≤ a) (hom : o + m ≤ 8 * L) (han : a + n ≤ 8 * L) (hvn : v < 2 ^ n) :
    Calls Try.prog 4 #[.slice A L c, .int .i64 a, .int .i64 n, .int .u64 v, .int .i64 o, .int .i64 m] w (IsTrue w) := by
  have d0 : decide (500 < (L : Int)) = false := by simp; omega
  have d1 : decide ((a : Int) < 0) = false := by simp
  have d2 : decide ((o : Int) < 0) = false := by simp
  have d3 : decide ((n : Int) < 0) = false := by simp
  have d4 : decide ((m : Int) < 0) = false := by simp
  have d5 : decide (64 < (n : Int)) = false := by simp; omega
  have d6 : decide (64 < (m : Int)) = false := by simp; omega
  have d7 : decide (8 * (L : Int) < (a : Int)) = false := by simp; omega
  have d8 : decide (8 * (L : Int) < (o : Int)) = false := by simp; omega
  have d9 : decide ((a : Int) < (o : Int) + (m : Int)) = false := by simp; omega
  have Hs1 := Lib.hid (getN_beside xs a n v o m hx.bytes (by rw [hx.len]; exact han) (by omega))
  have Hs2 := Lib.hid (getN_putN xs a n v hx.bytes (by rw [hx.len]; exact han) hvn)
  have Hv := Lib.hid hvn
  clear hvn
  go_enter Try.func4, Try.ntmps4
  go_wp2_with fail
  refine (speaks_any w).mono ?_
  rintro e w1 ⟨rfl, hb1⟩
  have hx1 := (hx.below hb1).wider hb1.size
  have Hb1 := Lib.hid hb1
  clear hb1 hx
  go_wp2_with (at_builtin; refine wpList_append_row _ rfl _ _ rfl w1.heap.size (some ⟨w1.heap.size, 0, none⟩) 0 0 [] rfl (Own.empty (Nat.le_refl _)) w1.heap.size A L c xs rfl (hx1.alloc (Nat.le_refl _) _) (by omega) (by simp) ?_; intro A2 c2 w2 hO2 hg2 hbl2)
  have hb2 : Below w1.heap.size w1 w2 := below_first hg2
  have hO2' : Own w2 w1.heap.size A2 L c2 xs := by simpa using hO2
  have Hb2 := Lib.hid hb2
  have HO2 := Lib.hid hO2'
  clear hb2 hO2 hO2' hg2 hbl2 hx1 d0 d1 d2 d3 d4 d5 d6 d7 d8
  refine (get_yes A2 L c2 o m xs _ w2 HO2.out.row (by omega) hm hom).mono ?_
  rintro e w3 ⟨rfl, rfl⟩
  generalize hq : getN xs o m = x at *
  have Hq := Lib.hid hq
  clear hq
  go_wp2_with fail
  refine (put_yes A2 L c2 a n v xs _ w2 HO2.out (by omega) hn han Hv.out hv).mono ?_
  rintro e w3 ⟨rfl, hO3, hg3⟩
  have hb3 : Below w1.heap.size w1 w3 := Hb2.out.grown hg3 Hb2.out.size (fun k hk => (HO2.out.2.2.lt k hk).1)
  have HO3 := Lib.hid hO3
  have Hb3 := Lib.hid hb3
  clear hO3 hb3 hg3
  go_wp2_with fail
  refine (get_yes A2 L c2 o m _ _ w3 HO3.out.row (by omega) hm hom).mono ?_
  rintro e w4 ⟨rfl, rfl⟩
  rw [Hs1.out]
  go_wp2_with fail
  refine (get_yes A2 L c2 a n _ _ w3 HO3.out.row (by omega) hn han).mono ?_
  rintro e w4 ⟨rfl, rfl⟩
  rw [Hs2.out]
  have t1 : ((x : Int) == (x : Int)) = true := by simp
  have t2 : ((v : Int) == (v : Int)) = true := by simp
  go_wp2
  go_ret
  exact ⟨rfl, Hb1.out.trans (Hb3.out.mono Hb1.out.size)⟩

set_option maxRecDepth 100000 in
set_option maxHeartbeats 1000000 in
theorem beside_getno2 (A : Option Addr) (L c : Nat) (xs : List Nat) (a n v o m : Nat) (w : World) (hx : Row w w.heap.size A L c xs) (hL : L ≤ 500) (hn : n ≤ 64) (hm : m ≤ 64) (ha : a ≤ 8 * L) (hoL : o ≤ 8 * L) (hv : v < 18446744073709551616) (hb : a < o + m) (hb2 : a + n ≤ o) (hno : fits L (o : Int) (m : Int) = false) :
    Calls Try.prog 4 #[.slice A L c, .int .i64 a, .int .i64 n, .int .u64 v, .int .i64 o, .int .i64 m] w (IsTrue w) := by
  have d0 : decide (500 < (L : Int)) = false := by simp; omega
  have d1 : decide ((a : Int) < 0) = false := by simp
  have d2 : decide ((o : Int) < 0) = false := by simp
  have d3 : decide ((n : Int) < 0) = false := by simp
  have d4 : decide ((m : Int) < 0) = false := by simp
  have d5 : decide (64 < (n : Int)) = false := by simp; omega
  have d6 : decide (64 < (m : Int)) = false := by simp; omega
  have d7 : decide (8 * (L : Int) < (a : Int)) = false := by simp; omega
  have d8 : decide (8 * (L : Int) < (o : Int)) = false := by simp; omega
  have d9 : decide ((a : Int) < (o : Int) + (m : Int)) = true := by simp; omega
  have d10 : decide ((o : Int) < (a : Int) + (n : Int)) = false := by simp; omega
  have Hno := Lib.hid hno
  clear hno
  go_enter Try.func4, Try.ntmps4
  go_wp2_with fail
  refine (speaks_any w).mono ?_
  rintro e w1 ⟨rfl, hb1⟩
  have hx1 := (hx.below hb1).wider hb1.size
  have Hb1 := Lib.hid hb1
  clear hb1 hx
  go_wp2_with (at_builtin; refine wpList_append_row _ rfl _ _ rfl w1.heap.size (some ⟨w1.heap.size, 0, none⟩) 0 0 [] rfl (Own.empty (Nat.le_refl _)) w1.heap.size A L c xs rfl (hx1.alloc (Nat.le_refl _) _) (by omega) (by simp) ?_; intro A2 c2 w2 hO2 hg2 hbl2)
  have hb2 : Below w1.heap.size w1 w2 := below_first hg2
  have hO2' : Own w2 w1.heap.size A2 L c2 xs := by simpa using hO2
  have Hb2 := Lib.hid hb2
  have HO2 := Lib.hid hO2'
  clear hb2 hO2 hO2' hg2 hbl2 hx1 d0 d1 d2 d3 d4 d5 d6 d7 d8
  refine (get_no A2 L c2 o m w2 (by omega) (by omega) (by omega) (by omega) (by omega) Hno.out).mono ?_
  rintro e w3 ⟨rfl, rfl⟩
  go_wp2
  go_ret
  exact ⟨rfl, Hb1.out.trans (Hb2.out.mono Hb1.out.size)⟩

set_option maxRecDepth 100000 in
set_option maxHeartbeats 1000000 in
theorem beside_putno2 (A : Option Addr) (L c : Nat) (xs : List Nat) (a n v o m : Nat) (w : World) (hx : Row w w.heap.size A L c xs) (hL : L ≤ 500) (hn : n ≤ 64) (hm : m ≤ 64) (ha : a ≤ 8 * L) (hoL : o ≤ 8 * L) (hv : v < 18446744073709551616) (hb : a < o + m) (hb2 : a + n ≤ o) (hom : o + m ≤ 8 * L) (hno : fits L (a : Int) (n : Int) = false) :
    Calls Try.prog 4 #[.slice A L c, .int .i64 a, .int .i64 n, .int .u64 v, .int .i64 o, .int .i64 m] w (IsTrue w) := by
  have d0 : decide (500 < (L : Int)) = false := by simp; omega
  have d1 : decide ((a : Int) < 0) = false := by simp
  have d2 : decide ((o : Int) < 0) = false := by simp
  have d3 : decide ((n : Int) < 0) = false := by simp
  have d4 : decide ((m : Int) < 0) = false := by simp
  have d5 : decide (64 < (n : Int)) = false := by simp; omega
  have d6 : decide (64 < (m : Int)) = false := by simp; omega
  have d7 : decide (8 * (L : Int) < (a : Int)) = false := by simp; omega
  have d8 : decide (8 * (L : Int) < (o : Int)) = false := by simp; omega
  have d9 : decide ((a : Int) < (o : Int) + (m : Int)) = true := by simp; omega
  have d10 : decide ((o : Int) < (a : Int) + (n : Int)) = false := by simp; omega
  have Hno := Lib.hid hno
  clear hno
  go_enter Try.func4, Try.ntmps4
  go_wp2_with fail
  refine (speaks_any w).mono ?_
  rintro e w1 ⟨rfl, hb1⟩
  have hx1 := (hx.below hb1).wider hb1.size
  have Hb1 := Lib.hid hb1
  clear hb1 hx
  go_wp2_with (at_builtin; refine wpList_append_row _ rfl _ _ rfl w1.heap.size (some ⟨w1.heap.size, 0, none⟩) 0 0 [] rfl (Own.empty (Nat.le_refl _)) w1.heap.size A L c xs rfl (hx1.alloc (Nat.le_refl _) _) (by omega) (by simp) ?_; intro A2 c2 w2 hO2 hg2 hbl2)
  have hb2 : Below w1.heap.size w1 w2 := below_first hg2
  have hO2' : Own w2 w1.heap.size A2 L c2 xs := by simpa using hO2
  have Hb2 := Lib.hid hb2
  have HO2 := Lib.hid hO2'
  clear hb2 hO2 hO2' hg2 hbl2 hx1 d0 d1 d2 d3 d4 d5 d6 d7 d8
  refine (get_yes A2 L c2 o m xs _ w2 HO2.out.row (by omega) hm hom).mono ?_
  rintro e w3 ⟨rfl, rfl⟩
  generalize hq : getN xs o m = x at *
  have Hq := Lib.hid hq
  clear hq
  go_wp2_with fail
  refine (put_no A2 L c2 a n v w2 (by omega) (by omega) (by omega) (by omega) (by omega) Hno.out).mono ?_
  rintro e w3 ⟨rfl, rfl⟩
  go_wp2
  go_ret
  exact ⟨rfl, Hb1.out.trans (Hb2.out.mono Hb1.out.size)⟩

set_option maxRecDepth 100000 in
set_option maxHeartbeats 1000000 in
theorem beside_great2 (A : Option Addr) (L c : Nat) (xs : List Nat) (a n v o m : Nat) (w : World) (hx : Row w w.heap.size A L c xs) (hL : L ≤ 500) (hn : n ≤ 64) (hm : m ≤ 64) (ha : a ≤ 8 * L) (hoL : o ≤ 8 * L) (hv : v < 18446744073709551616) (hb : a < o + m) (hb2 : a + n ≤ o) (hom : o + m ≤ 8 * L) (han : a + n ≤ 8 * L) (hvn : 2 ^ n ≤ v) :
    Calls Try.prog 4 #[.slice A L c, .int .i64 a, .int .i64 n, .int .u64 v, .int .i64 o, .int .i64 m] w (IsTrue w) := by
  have d0 : decide (500 < (L : Int)) = false := by simp; omega
  have d1 : decide ((a : Int) < 0) = false := by simp
  have d2 : decide ((o : Int) < 0) = false := by simp
  have d3 : decide ((n : Int) < 0) = false := by simp
  have d4 : decide ((m : Int) < 0) = false := by simp
  have d5 : decide (64 < (n : Int)) = false := by simp; omega
  have d6 : decide (64 < (m : Int)) = false := by simp; omega
  have d7 : decide (8 * (L : Int) < (a : Int)) = false := by simp; omega
  have d8 : decide (8 * (L : Int) < (o : Int)) = false := by simp; omega
  have d9 : decide ((a : Int) < (o : Int) + (m : Int)) = true := by simp; omega
  have d10 : decide ((o : Int) < (a : Int) + (n : Int)) = false := by simp; omega
  have Hv := Lib.hid hvn
  clear hvn
  go_enter Try.func4, Try.ntmps4
  go_wp2_with fail
  refine (speaks_any w).mono ?_
  rintro e w1 ⟨rfl, hb1⟩
  have hx1 := (hx.below hb1).wider hb1.size
  have Hb1 := Lib.hid hb1
  clear hb1 hx
  go_wp2_with (at_builtin; refine wpList_append_row _ rfl _ _ rfl w1.heap.size (some ⟨w1.heap.size, 0, none⟩) 0 0 [] rfl (Own.empty (Nat.le_refl _)) w1.heap.size A L c xs rfl (hx1.alloc (Nat.le_refl _) _) (by omega) (by simp) ?_; intro A2 c2 w2 hO2 hg2 hbl2)
  have hb2 : Below w1.heap.size w1 w2 := below_first hg2
  have hO2' : Own w2 w1.heap.size A2 L c2 xs := by simpa using hO2
  have Hb2 := Lib.hid hb2
  have HO2 := Lib.hid hO2'
  clear hb2 hO2 hO2' hg2 hbl2 hx1 d0 d1 d2 d3 d4 d5 d6 d7 d8
  refine (get_yes A2 L c2 o m xs _ w2 HO2.out.row (by omega) hm hom).mono ?_
  rintro e w3 ⟨rfl, rfl⟩
  generalize hq : getN xs o m = x at *
  have Hq := Lib.hid hq
  clear hq
  go_wp2_with fail
  refine (put_great A2 L c2 a n v w2 (by omega) hn han Hv.out hv).mono ?_
  rintro e w3 ⟨rfl, rfl⟩
  go_wp2
  go_ret
  exact ⟨rfl, Hb1.out.trans (Hb2.out.mono Hb1.out.size)⟩

set_option maxRecDepth 100000 in
set_option maxHeartbeats 1000000 in
theorem beside_yes2 (A : Option Addr) (L c : Nat) (xs : List Nat) (a n v o m : Nat) (w : World) (hx : Row w w.heap.size A L c xs) (hL : L ≤ 500) (hn : n ≤ 64) (hm : m ≤ 64) (ha : a ≤ 8 * L) (hoL : o ≤ 8 * L) (hv : v < 18446744073709551616) (hb : a < o + m) (hb2 : a + n ≤ o) (hom : o + m ≤ 8 * L) (han : a + n ≤ 8 * L) (hvn : v < 2 ^ n) :
    Calls Try.prog 4 #[.slice A L c, .int .i64 a, .int .i64 n, .int .u64 v, .int .i64 o, .int .i64 m] w (IsTrue w) := by
  have d0 : decide (500 < (L : Int)) = false := by simp; omega
  have d1 : decide ((a : Int) < 0) = false := by simp
  have d2 : decide ((o : Int) < 0) = false := by simp
  have d3 : decide ((n : Int) < 0) = false := by simp
  have d4 : decide ((m : Int) < 0) = false := by simp
  have d5 : decide (64 < (n : Int)) = false := by simp; omega
  have d6 : decide (64 < (m : Int)) = false := by simp; omega
  have d7 : decide (8 * (L : Int) < (a : Int)) = false := by simp; omega
  have d8 : decide (8 * (L : Int) < (o : Int)) = false := by simp; omega
  have d9 : decide ((a : Int) < (o : Int) + (m : Int)) = true := by simp; omega
  have d10 : decide ((o : Int) < (a : Int) + (n : Int)) = false := by simp; omega
  have Hs1 := Lib.hid (getN_beside xs a n v o m hx.bytes (by rw [hx.len]; exact han) (by omega))
  have Hs2 := Lib.hid (getN_putN xs a n v hx.bytes (by rw [hx.len]; exact han) hvn)
  have Hv := Lib.hid hvn
  clear hvn
  go_enter Try.func4, Try.ntmps4
  go_wp2_with fail
  refine (speaks_any w).mono ?_
  rintro e w1 ⟨rfl, hb1⟩
  have hx1 := (hx.below hb1).wider hb1.size
  have Hb1 := Lib.hid hb1
  clear hb1 hx
  go_wp2_with (at_builtin; refine wpList_append_row _ rfl _ _ rfl w1.heap.size (some ⟨w1.heap.size, 0, none⟩) 0 0 [] rfl (Own.empty (Nat.le_refl _)) w1.heap.size A L c xs rfl (hx1.alloc (Nat.le_refl _) _) (by omega) (by simp) ?_; intro A2 c2 w2 hO2 hg2 hbl2)
  have hb2 : Below w1.heap.size w1 w2 := below_first hg2
  have hO2' : Own w2 w1.heap.size A2 L c2 xs := by simpa using hO2
  have Hb2 := Lib.hid hb2
  have HO2 := Lib.hid hO2'
  clear hb2 hO2 hO2' hg2 hbl2 hx1 d0 d1 d2 d3 d4 d5 d6 d7 d8
  refine (get_yes A2 L c2 o m xs _ w2 HO2.out.row (by omega) hm hom).mono ?_
  rintro e w3 ⟨rfl, rfl⟩
  generalize hq : getN xs o m = x at *
  have Hq := Lib.hid hq
  clear hq
  go_wp2_with fail
  refine (put_yes A2 L c2 a n v xs _ w2 HO2.out (by omega) hn han Hv.out hv).mono ?_
  rintro e w3 ⟨rfl, hO3, hg3⟩
  have hb3 : Below w1.heap.size w1 w3 := Hb2.out.grown hg3 Hb2.out.size (fun k hk => (HO2.out.2.2.lt k hk).1)
  have HO3 := Lib.hid hO3
  have Hb3 := Lib.hid hb3
  clear hO3 hb3 hg3
  go_wp2_with fail
  refine (get_yes A2 L c2 o m _ _ w3 HO3.out.row (by omega) hm hom).mono ?_
  rintro e w4 ⟨rfl, rfl⟩
  rw [Hs1.out]
  go_wp2_with fail
  refine (get_yes A2 L c2 a n _ _ w3 HO3.out.row (by omega) hn han).mono ?_
  rintro e w4 ⟨rfl, rfl⟩
  rw [Hs2.out]
  have t1 : ((x : Int) == (x : Int)) = true := by simp
  have t2 : ((v : Int) == (v : Int)) = true := by simp
  go_wp2
  go_ret
  exact ⟨rfl, Hb1.out.trans (Hb3.out.mono Hb1.out.size)⟩

theorem beside_walk (A : Option Addr) (L c : Nat) (xs : List Nat) (a n : Int) (v : Nat) (o m : Int) (w : World) (hx : Row w w.heap.size A L c xs) (h0 : -9223372036854775808 ≤ a) (h1 : a ≤ 9223372036854775807) (h2 : -9223372036854775808 ≤ n) (h3 : n ≤ 9223372036854775807) (h4 : -9223372036854775808 ≤ o) (h5 : o ≤ 9223372036854775807) (h6 : -9223372036854775808 ≤ m) (h7 : m ≤ 9223372036854775807) (hv : v < 18446744073709551616) :
    Calls Try.prog 4 #[.slice A L c, .int .i64 a, .int .i64 n, .int .u64 v, .int .i64 o, .int .i64 m] w (IsTrue w) := by
  by_cases ho : out L a n o m
  · exact beside_out A L c xs a n v o m w hx h0 h1 h2 h3 h4 h5 h6 h7 ho
  · unfold out at ho
    obtain ⟨a, rfl⟩ := Int.eq_ofNat_of_zero_le (show 0 ≤ a by omega)
    obtain ⟨n, rfl⟩ := Int.eq_ofNat_of_zero_le (show 0 ≤ n by omega)
    obtain ⟨o, rfl⟩ := Int.eq_ofNat_of_zero_le (show 0 ≤ o by omega)
    obtain ⟨m, rfl⟩ := Int.eq_ofNat_of_zero_le (show 0 ≤ m by omega)
    by_cases hb : o + m ≤ a
    · rcases fits_cases L (o : Int) (m : Int) with ⟨o', m', e1, e2, h8, h9⟩ | hno
      · rcases fits_cases L (a : Int) (n : Int) with ⟨a', n', e3, e4, h10, h11⟩ | hno
        · by_cases hvn : v < 2 ^ n
          · exact beside_yes1 A L c xs a n v o m w hx (by omega) (by omega) (by omega) (by omega) (by omega) hv hb (by omega) (by omega) hvn
          · exact beside_great1 A L c xs a n v o m w hx (by omega) (by omega) (by omega) (by omega) (by omega) hv hb (by omega) (by omega) (Nat.le_of_not_lt hvn)
        · exact beside_putno1 A L c xs a n v o m w hx (by omega) (by omega) (by omega) (by omega) (by omega) hv hb (by omega) hno
      · exact beside_getno1 A L c xs a n v o m w hx (by omega) (by omega) (by omega) (by omega) (by omega) hv hb hno
    · have hb1 : a < o + m := by omega
      have hb2 : a + n ≤ o := by omega
      rcases fits_cases L (o : Int) (m : Int) with ⟨o', m', e1, e2, h8, h9⟩ | hno
      · rcases fits_cases L (a : Int) (n : Int) with ⟨a', n', e3, e4, h10, h11⟩ | hno
        · by_cases hvn : v < 2 ^ n
          · exact beside_yes2 A L c xs a n v o m w hx (by omega) (by omega) (by omega) (by omega) (by omega) hv hb1 hb2 (by omega) (by omega) hvn
          · exact beside_great2 A L c xs a n v o m w hx (by omega) (by omega) (by omega) (by omega) (by omega) hv hb1 hb2 (by omega) (by omega) (Nat.le_of_not_lt hvn)
        · exact beside_putno2 A L c xs a n v o m w hx (by omega) (by omega) (by omega) (by omega) (by omega) hv hb1 hb2 (by omega) hno
      · exact beside_getno2 A L c xs a n v o m w hx (by omega) (by omega) (by omega) (by omega) (by omega) hv hb1 hb2 hno
end Go.Proofs.Ytmmfigdmdamnlaa
