/- The law BitsWhole returns true whatever comes in, and nothing that was there is changed. -/
import Derived.Test.YtmmfigdmdamnlaaSpeaks
namespace Go.Proofs.Ytmmfigdmdamnlaa
open Go.RowKit
set_option linter.unusedVariables false

/-- Either the bits lie in the bytes, and place and length are natural numbers, or not. -/
theorem fits_cases (L : Nat) (a n : Int) : (∃ a' n' : Nat, a = (a' : Int) ∧ n = (n' : Int) ∧ n' ≤ 64 ∧ a' + n' ≤ 8 * L) ∨ fits L a n = false := by
  by_cases h : 0 ≤ a ∧ 0 ≤ n ∧ n ≤ 64 ∧ a ≤ 8 * (L : Int) - n
  · exact .inl ⟨a.toNat, n.toNat, by omega, by omega, by omega, by omega⟩
  · exact .inr (by unfold fits; exact decide_eq_false h)

theorem own_aside {w3 w4 w5 : World} {base : Nat} {A : Option Addr} {n c L : Nat} {xs : List Nat} (hO : Own w3 base A n c xs) (hb : Below w3.heap.size w3 w4) (hg : w4.grownBy w5 (Value.slice (some ⟨w3.heap.size, 0, none⟩) L L).ownBlock) : Own w5 base A n c xs := by
  refine (hO.below hb).kept hg ?_
  cases h : (Value.slice A n c).ownBlock with
  | none => exact .inl rfl
  | some k =>
    refine .inr fun e => ?_
    have h1 := (hO.2.2.lt k h).2
    injection e with e
    simp only at e
    omega

set_option maxHeartbeats 400000 in
theorem whole_far (A : Option Addr) (L c : Nat) (xs : List Nat) (a n : Int) (w : World) (hx : Row w w.heap.size A L c xs) (h500 : 500 < L) :
    Calls Try.prog 7 #[.slice A L c, .int .i64 a, .int .i64 n] w (IsTrue w) := by
  have hmax := hx.max
  go_enter Try.func7, Try.ntmps7
  go_wp2_with fail
  refine (speaks_any w).mono ?_
  rintro e w1 ⟨rfl, hb1⟩
  have Hb1 := Lib.hid hb1
  clear hb1
  go_wp2
  go_ret
  exact ⟨rfl, Hb1.out⟩

set_option maxHeartbeats 400000 in
theorem whole_no (A : Option Addr) (L c : Nat) (xs : List Nat) (a n : Int) (w : World) (hx : Row w w.heap.size A L c xs) (hL : L ≤ 500) (h0 : -9223372036854775808 ≤ a) (h1 : a ≤ 9223372036854775807) (h2 : -9223372036854775808 ≤ n) (h3 : n ≤ 9223372036854775807) (hno : fits L a n = false) :
    Calls Try.prog 7 #[.slice A L c, .int .i64 a, .int .i64 n] w (IsTrue w) := by
  have Hno := Lib.hid hno
  clear hno
  go_enter Try.func7, Try.ntmps7
  go_wp2_with fail
  refine (speaks_any w).mono ?_
  rintro e w1 ⟨rfl, hb1⟩
  have hx1 := (hx.below hb1).wider hb1.size
  have Hb1 := Lib.hid hb1
  clear hb1 hx
  go_wp2_with (at_builtin; refine wpList_append_row _ rfl _ _ rfl w1.heap.size (some ⟨w1.heap.size, 0, none⟩) 0 0 [] rfl (Own.empty (Nat.le_refl _)) w1.heap.size A L c xs rfl (hx1.alloc (Nat.le_refl _) _) (by omega) (by simp) ?_; intro A2 c2 w2 hO2 hg2 hbl2)
  have hb2 : Below w1.heap.size w1 w2 := below_first hg2
  have hO2' : Own w2 w1.heap.size A2 L c2 xs := by simpa using hO2
  have hx2 := hx1.below hb2
  have Hb2 := Lib.hid hb2
  have HO2 := Lib.hid hO2'
  clear hb2 hO2 hO2' hg2 hbl2 hx1
  refine (get_no A2 L c2 a n w2 (by omega) h0 h1 h2 h3 Hno.out).mono ?_
  rintro e w3 ⟨rfl, rfl⟩
  go_wp2_with fail
  refine (put_no A2 L c2 a n 0 w2 (by omega) h0 h1 h2 h3 Hno.out).mono ?_
  rintro e w3 ⟨rfl, rfl⟩
  go_wp2_with fail
  refine (same_any A2 A _ _ c2 c _ _ _ w2 HO2.out.row (hx2.wider Hb2.out.size)).mono ?_
  rintro e w7 ⟨rfl, q, rfl⟩
  rw [decide_eq_true rfl]
  go_wp2
  go_ret
  exact ⟨rfl, below_drewN (Hb1.out.trans (Hb2.out.mono Hb1.out.size))⟩

set_option maxHeartbeats 400000 in
theorem whole_yes (A : Option Addr) (L c : Nat) (xs : List Nat) (a n : Nat) (w : World) (hx : Row w w.heap.size A L c xs) (hL : L ≤ 500) (h0 : n ≤ 64) (h1 : a + n ≤ 8 * L) :
    Calls Try.prog 7 #[.slice A L c, .int .i64 a, .int .i64 n] w (IsTrue w) := by
  have hv := getN_lt xs a n
  have h64 : (2 : Nat) ^ n ≤ 2 ^ 64 := Nat.pow_le_pow_right (by omega) h0
  have h64' : (2 : Nat) ^ 64 = 18446744073709551616 := by decide
  have hv2 : getN xs a n < 18446744073709551616 := by omega
  have hpg := putN_getN xs a n hx.bytes (by rw [hx.len]; exact h1)
  have HL := Lib.hid hx.len
  clear h64 h64'
  generalize hq : getN xs a n = v at *
  have Hq := Lib.hid hq
  have Hpg := Lib.hid hpg
  have Hv := Lib.hid hv
  clear hq hpg hv
  go_enter Try.func7, Try.ntmps7
  go_wp2_with fail
  refine (speaks_any w).mono ?_
  rintro e w1 ⟨rfl, hb1⟩
  have hx1 := (hx.below hb1).wider hb1.size
  have Hb1 := Lib.hid hb1
  clear hb1 hx
  go_wp2_with (at_builtin; refine wpList_append_row _ rfl _ _ rfl w1.heap.size (some ⟨w1.heap.size, 0, none⟩) 0 0 [] rfl (Own.empty (Nat.le_refl _)) w1.heap.size A L c xs rfl (hx1.alloc (Nat.le_refl _) _) (by omega) (by simp) ?_; intro A2 c2 w2 hO2 hg2 hbl2)
  have hb2 : Below w1.heap.size w1 w2 := below_first hg2
  have hO2' : Own w2 w1.heap.size A2 L c2 xs := by simpa using hO2
  have hx2 := hx1.below hb2
  have Hb2 := Lib.hid hb2
  have HO2 := Lib.hid hO2'
  clear hb2 hO2 hO2' hg2 hbl2 hx1
  refine (get_yes A2 L c2 a n xs _ w2 HO2.out.row (by omega) h0 h1).mono ?_
  rintro e w3 ⟨rfl, rfl⟩
  rw [Hq.out]
  go_wp2_with fail
  refine (put_yes A2 L c2 a n v xs _ w2 HO2.out (by omega) h0 h1 Hv.out hv2).mono ?_
  rintro e w3 ⟨rfl, hO3, hg3⟩
  rw [Hpg.out] at hO3
  have hb3 : Below w1.heap.size w1 w3 := Hb2.out.grown hg3 Hb2.out.size (fun k hk => (HO2.out.2.2.lt k hk).1)
  have hx3 := hx2.keep (w' := w3) fun p hp => World.cell?_of_block (hg3.block p.block (Nat.lt_of_lt_of_le hp Hb2.out.size) (fun e => by have := (HO2.out.2.2.lt _ e.symm).1; omega))
  have HO3 := Lib.hid hO3
  have Hb3 := Lib.hid hb3
  clear hO3 hg3 hb3 hx2
  go_wp2_with (at_make; refine wpList_make_zeros _ rfl _ _ rfl w3.heap.size _ _ L rfl rfl rfl rfl (by omega) (Nat.le_refl _) ?_; intro w4 hO4 hg4)
  have hb4 : Below w3.heap.size w3 w4 := (Below.refl _ _).grown hg4 (Nat.le_refl _) (fun k hk => by cases hk)
  have Hb4 := Lib.hid hb4
  have HO4 := Lib.hid hO4
  clear hO4 hg4 hb4
  refine (put_yes _ L L a n v _ _ w4 HO4.out (by omega) h0 h1 Hv.out hv2).mono ?_
  rintro e w5 ⟨rfl, hO5, hg5⟩
  have HO5 := Lib.hid hO5
  have Hg5 := Lib.hid hg5
  clear hO5 hg5
  go_wp2_with fail
  refine (get_yes _ L L a n _ _ w5 HO5.out.row (by omega) h0 h1).mono ?_
  rintro e w6 ⟨rfl, rfl⟩
  rw [getN_putN _ a n v (by intro x hx; rw [List.eq_of_mem_replicate hx]; omega) (by rw [List.length_replicate]; exact h1) Hv.out]
  go_wp2_with fail
  have hO25 : Own w5 w1.heap.size A2 L c2 xs := own_aside HO3.out Hb4.out Hg5.out
  have hb35 : Below w3.heap.size w3 w5 := Hb4.out.grown Hg5.out Hb4.out.size (fun k hk => by injection hk with hk; simp only at hk; omega)
  refine (same_any A2 A _ _ c2 c _ _ _ w5 hO25.row ((hx3.below (hb35.mono Hb3.out.size)).wider (Nat.le_trans Hb3.out.size hb35.size))).mono ?_
  rintro e w7 ⟨rfl, q, rfl⟩
  rw [decide_eq_true rfl]
  have Hb35 := Lib.hid hb35
  clear hb35 hO25
  have ht : ((v : Int) == (v : Int)) = true := by simp
  go_wp2
  go_ret
  have hb13 := Hb1.out.trans (Hb3.out.mono Hb1.out.size)
  exact ⟨rfl, below_drewN (hb13.trans (Hb35.out.mono hb13.size))⟩

theorem whole_walk (A : Option Addr) (L c : Nat) (xs : List Nat) (a n : Int) (w : World) (hx : Row w w.heap.size A L c xs) (h0 : -9223372036854775808 ≤ a) (h1 : a ≤ 9223372036854775807) (h2 : -9223372036854775808 ≤ n) (h3 : n ≤ 9223372036854775807) :
    Calls Try.prog 7 #[.slice A L c, .int .i64 a, .int .i64 n] w (IsTrue w) := by
  by_cases hL : 500 < L
  · exact whole_far A L c xs a n w hx hL
  · rcases fits_cases L a n with ⟨a', n', rfl, rfl, h4, h5⟩ | hno
    · exact whole_yes A L c xs a' n' w hx (by omega) h4 h5
    · exact whole_no A L c xs a n w hx (by omega) h0 h1 h2 h3 hno
end Go.Proofs.Ytmmfigdmdamnlaa
