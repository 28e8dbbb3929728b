/- Small functions on counters: the greatest Minor, its place, and whether any Minor is none. No statement is proved here. -/
import Derived.Test.YtcepncdolbfcfaaState
import Derived.Test.YtcepncdolbfcfaaRightWalk
namespace Go.Proofs.Ytcepncdolbfcfaa
open Go.RowKit
set_option linter.unusedVariables false
set_option linter.unusedSimpArgs false
attribute [local irreducible] arrV shaped Ls right

def mst (k : Nat) : Int := ((2 ^ k - 1 : Nat) : Int)
theorem mst_bd (k : Nat) (h : k ≤ 8) : 0 ≤ mst k ∧ mst k ≤ 255 := by
  have : ∀ k : Fin 9, 0 ≤ mst k ∧ mst k ≤ 255 := by decide
  exact this ⟨k, by omega⟩
set_option maxHeartbeats 1000000 in
theorem mostMinor_any (p : Pl) (k : Nat) (hk : p.mi = (k : Int)) (h8 : k ≤ 8) (w : World) : Calls Try.prog 44 #[.agg p.arr] w fun e w' => e = .returned (.int .i64 (mst k)) ∧ Below w.heap.size w w' := by
  have B := PBlk.new w p
  have c5 := B.c5
  rw [hk] at c5
  have HK := Lib.hid hk
  clear B hk
  rcases (show k = 0 ∨ k = 1 ∨ k = 2 ∨ k = 3 ∨ k = 4 ∨ k = 5 ∨ k = 6 ∨ k = 7 ∨ k = 8 by omega) with rfl | rfl | rfl | rfl | rfl | rfl | rfl | rfl | rfl
  all_goals
    simp only [Int.ofNat_eq_natCast, Int.cast_ofNat_Int, Int.natCast_zero, Int.natCast_one] at c5
    go_enter Try.func44, Try.ntmps44
    go_wp2
    go_ret
    exact ⟨rfl, (Below.refl _ _).alloc (Nat.le_refl _) _⟩
theorem minorAt_any (p : Pl) (k s : Nat) (hk : p.mi = (k : Int)) (h8 : k ≤ 8) (hs : s ≤ 8) (w : World) : Calls Try.prog 30 #[.agg p.arr, .int .i64 (s : Int)] w fun e w' => e = .returned (.int .i64 ((64 + s * k : Nat) : Int)) ∧ Below w.heap.size w w' := by
  have B := PBlk.new w p
  have c5 := B.c5
  rw [hk] at c5
  have HK := Lib.hid hk
  have hm : s * k ≤ 64 := Nat.mul_le_mul hs h8
  have e0 : ((s : Int) * (k : Int)) = ((s * k : Nat) : Int) := by simp
  clear B hk
  generalize s * k = z at *
  go_enter Try.func30, Try.ntmps30
  go_wp2
  go_ret
  exact ⟨ret_int (by omega), (Below.refl _ _).alloc (Nat.le_refl _) _⟩
set_option maxHeartbeats 1000000 in
theorem refMost_any (p : Pl) (k : Nat) (hk : p.mi = (k : Int)) (h8 : k ≤ 8) (w : World) : Calls Try.prog 32 #[.agg p.arr] w fun e w' => e = .returned (.int .i64 (mst k)) ∧ Below w.heap.size w w' := by
  have B := PBlk.new w p
  have c5 := B.c5
  rw [hk] at c5
  have HK := Lib.hid hk
  clear B hk
  go_enter Try.func32, Try.ntmps32
  go_wp2
  go_loop [3, 4] (fun v i => ∃ j : Nat, j ≤ k ∧ i = .int .i64 j ∧ v = .int .i64 ((2 ^ j : Nat) : Int)) (fun _ i => k - (intOf i).toNat)
  case atStart => exact ⟨0, by omega, rfl, rfl⟩
  case round =>
    obtain ⟨j, hj, rfl, rfl⟩ := hrel
    have hp : 2 ^ j ≤ 2 ^ 8 := Nat.pow_le_pow_right (by omega) (by omega)
    have he : Hid (2 ^ (j + 1) = 2 ^ j * 2) := Nat.pow_succ 2 j
    have hm : Hid (mst j = ((2 ^ j - 1 : Nat) : Int)) := rfl
    have h1 : 1 ≤ 2 ^ j := Nat.one_le_two_pow
    generalize 2 ^ j = q at *
    by_cases hlt : j < k
    · go_wp2
      go_round
      case rel => exact ⟨j + 1, by omega, by go_num, by rw [he.out]; go_num⟩
      case measure => simp [intOf]; omega
    · obtain rfl : j = k := by omega
      go_wp2
      go_ret
      exact ⟨by rw [hm.out]; exact ret_int (by omega), (Below.refl _ _).alloc (Nat.le_refl _) _⟩
def bad (m x : Int) : Bool := decide (x < 0) || decide (m < x)
theorem check1_any (x m : Int) (b : Nat) (w : World) (hc : w.cell? ⟨b, 0, none⟩ = some (.int .i64 m)) : Calls Try.prog 49 #[.int .i64 x, .pointer (some ⟨b, 0, none⟩)] w fun e w' => e = .returned (.bool (bad m x)) ∧ w = w' := by
  by_cases h1 : x < 0
  · go_enter Try.func49, Try.ntmps49
    go_wp2
    go_ret
    exact ⟨ret_bool (by simp [bad, h1]), rfl⟩
  · by_cases h2 : m < x
    · go_enter Try.func49, Try.ntmps49
      go_wp2
      go_ret
      exact ⟨ret_bool (by simp [bad, h2]), rfl⟩
    · go_enter Try.func49, Try.ntmps49
      go_wp2
      go_ret
      exact ⟨ret_bool (by simp only [bad, decide_eq_false (show ¬ x < 0 by omega), decide_eq_false (show ¬ m < x by omega), Bool.or_self]), rfl⟩
/-- The first Minor that is none, or -1. -/
def firstBad (m : Int) (xs : List Int) : Int := if xs.any (bad m) then (xs.findIdx (bad m) : Nat) else -1
theorem findIdx_at (f : Int → Bool) (xs : List Int) (k : Nat) (hk : k < xs.length) (h1 : ∀ j, j < k → f (xs.getD j 0) = false) (h2 : f (xs.getD k 0) = true) : xs.any f = true ∧ xs.findIdx f = k := by
  have e : xs.getD k 0 = xs[k] := by rw [List.getD_eq_getElem?_getD, List.getElem?_eq_getElem hk]; rfl
  rw [e] at h2
  refine ⟨List.any_eq_true.2 ⟨xs[k], List.getElem_mem hk, h2⟩, ?_⟩
  rw [List.findIdx_eq hk]
  refine ⟨h2, fun j hj => ?_⟩
  have := h1 j hj
  rwa [List.getD_eq_getElem?_getD, List.getElem?_eq_getElem (by omega)] at this
theorem any_none (f : Int → Bool) (xs : List Int) (h1 : ∀ j, j < xs.length → f (xs.getD j 0) = false) : xs.any f = false := by
  rw [List.any_eq_false]
  intro x hx
  obtain ⟨j, hj, rfl⟩ := List.mem_iff_getElem.1 hx
  have := h1 j hj
  rw [List.getD_eq_getElem?_getD, List.getElem?_eq_getElem hj] at this
  simp only [Option.getD_some] at this
  rw [this]; simp
set_option maxHeartbeats 1000000 in
theorem indexFunc_any (A : Option Addr) (n c : Nat) (xs : List Int) (B b : Nat) (m : Int) (w : World) (hx : IRow w B A n c xs) (hn : n ≤ 60) (hc : w.cell? ⟨b, 0, none⟩ = some (.int .i64 m)) :
    Calls Try.prog 59 #[.slice A n c, .func (.func 49) #[] #[.pointer (some ⟨b, 0, none⟩)]] w fun e w' => e = .returned (.int .i64 (firstBad m xs)) ∧ w = w' := by
  have hl := hx.len
  have HC := Lib.hid hc
  have HX := Lib.hid hx
  clear hx hc
  go_enter Try.func59, Try.ntmps59
  go_wp2
  go_loop [8] (fun i => ∃ k : Nat, k ≤ n ∧ i = .int .i64 k ∧ ∀ j, j < k → bad m (xs.getD j 0) = false) (fun i => n - (intOf i).toNat)
  case atStart => exact ⟨0, by omega, rfl, fun j hj => absurd hj (by omega)⟩
  case round =>
    obtain ⟨k, hk, rfl, hall⟩ := hrel
    have HA := Lib.hid hall
    clear hall
    by_cases hlt : k < n
    · obtain ⟨bb, off, rfl, hb, hcs⟩ := HX.out.at_ (by omega)
      have hck := hcs k (by omega)
      clear hcs
      have C1 := Lib.hid (fun x W h => check1_any x m b W h)
      have hgx : Hid (xs.getD k 0 = xs.getD k 0) := rfl
      generalize hgx2 : xs.getD k 0 = x at *
      have HG := Lib.hid hgx2
      clear hgx hgx2
      cases hbad : bad m x
      · have HB := Lib.hid hbad
        clear hbad
        go_wp2_with (go_at_call 49; refine (C1.out x _ HC.out).mono ?_; rintro e W1 ⟨rfl, rfl⟩; rw [HB.out])
        go_round
        case rel => exact ⟨k + 1, by omega, by go_num, fun j hj => by
          rcases Nat.lt_or_ge j k with h | h
          · exact HA.out j h
          · obtain rfl : j = k := by omega
            rw [HG.out, HB.out]⟩
        case measure => simp [intOf]; omega
      · have HB := Lib.hid hbad
        clear hbad
        go_wp2_with (go_at_call 49; refine (C1.out x _ HC.out).mono ?_; rintro e W1 ⟨rfl, rfl⟩; rw [HB.out])
        go_ret
        obtain ⟨f1, f2⟩ := findIdx_at (bad m) xs k (by omega) HA.out (by rw [HG.out, HB.out])
        exact ⟨ret_int (by unfold firstBad; rw [if_pos f1, f2]), rfl⟩
    · obtain rfl : k = n := by omega
      go_wp2
      go_ret
      exact ⟨ret_int (by unfold firstBad; rw [any_none (bad m) xs (by rw [hl]; exact HA.out)]; rfl), rfl⟩
attribute [local irreducible] firstBad
set_option maxHeartbeats 1000000 in
theorem containsFunc_any (A : Option Addr) (n c : Nat) (xs : List Int) (B b : Nat) (m : Int) (w : World) (hx : IRow w B A n c xs) (hn : n ≤ 60) (hc : w.cell? ⟨b, 0, none⟩ = some (.int .i64 m)) :
    Calls Try.prog 48 #[.slice A n c, .func (.func 49) #[] #[.pointer (some ⟨b, 0, none⟩)]] w fun e w' => e = .returned (.bool (xs.any (bad m))) ∧ w = w' := by
  have F := Lib.hid (indexFunc_any A n c xs B b m w hx hn hc)
  have E : Hid (firstBad m xs = if xs.any (bad m) then ((xs.findIdx (bad m) : Nat) : Int) else -1) := by unfold firstBad; exact rfl
  generalize firstBad m xs = f at *
  clear hc
  cases ha : xs.any (bad m)
  · rw [ha] at E
    have e : f = -1 := E.out
    subst e
    go_enter Try.func48, Try.ntmps48
    go_wp2_with (go_at_call 59; refine F.out.mono ?_; rintro e W1 ⟨rfl, rfl⟩)
    go_ret
    exact ⟨rfl, rfl⟩
  · rw [ha] at E
    have e : f = ((xs.findIdx (bad m) : Nat) : Int) := E.out
    generalize xs.findIdx (bad m) = q at *
    subst e
    go_enter Try.func48, Try.ntmps48
    go_wp2_with (go_at_call 59; refine F.out.mono ?_; rintro e W1 ⟨rfl, rfl⟩)
    go_ret
    exact ⟨rfl, rfl⟩
end Go.Proofs.Ytcepncdolbfcfaa
