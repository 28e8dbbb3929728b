/- within, bit and putBit: whether bits lie in bytes; a bit; a bit put. No statement is proved here. -/
import Derived.Test.YtbmdkmnkbchokaaAppend
import Derived.Test.YtbmdkmnkbchokaaPlain
namespace Go.Proofs.Ytbmdkmnkbchokaa
open Go.RowKit
set_option linter.unusedVariables false

/-- Do n bits at a place lie in L bytes, and are they a number's? -/
def fits (L : Nat) (at_ n : Int) : Bool := decide (0 ≤ at_ ∧ 0 ≤ n ∧ n ≤ 64 ∧ at_ ≤ 8 * (L : Int) - n)

set_option maxHeartbeats 400000 in
theorem within_any (A : Option Addr) (L c : Nat) (at_ n : Int) (w : World) (hL : L ≤ 3000) (h0 : -9223372036854775808 ≤ at_) (h1 : at_ ≤ 9223372036854775807) (h2 : -9223372036854775808 ≤ n) (h3 : n ≤ 9223372036854775807) :
    Calls Try.prog 26 #[.slice A L c, .int .i64 at_, .int .i64 n] w fun e w' => e = .returned (.bool (fits L at_ n)) ∧ w = w' := by
  by_cases ha : at_ < 0
  · have hd : decide (at_ < 0) = true := by simpa using ha
    go_enter Try.func26, Try.ntmps26
    go_wp2
    go_ret
    exact ⟨ret_bool (by simp [fits]; omega), rfl⟩
  · have hd : decide (at_ < 0) = false := by simpa using ha
    by_cases hb : n < 0
    · have hd2 : decide (n < 0) = true := by simpa using hb
      go_enter Try.func26, Try.ntmps26
      go_wp2
      go_ret
      exact ⟨ret_bool (by simp [fits]; omega), rfl⟩
    · have hd2 : decide (n < 0) = false := by simpa using hb
      by_cases hc : 64 < n
      · have hd3 : decide (64 < n) = true := by simpa using hc
        go_enter Try.func26, Try.ntmps26
        go_wp2
        go_ret
        exact ⟨ret_bool (by simp [fits]; omega), rfl⟩
      · have hd3 : decide (64 < n) = false := by simpa using hc
        go_enter Try.func26, Try.ntmps26
        go_wp2
        go_ret
        exact ⟨ret_bool (by unfold fits; exact decide_eq_decide.2 (by omega)), rfl⟩

theorem bit_low (u j : Nat) (h : u < 256) : bits BinOp.and IntKind.u8 ((u : Int) / 2 ^ j) 1 = ((u / 2 ^ j % 2 : Nat) : Int) := by
  have h1 : u / 2 ^ j < 256 := Nat.lt_of_le_of_lt (Nat.div_le_self _ _) h
  have e : ((u : Int) / 2 ^ j) = ((u / 2 ^ j : Nat) : Int) := by simp
  rw [e]
  have := u8_and_nat (u / 2 ^ j) 1 h1 (by omega)
  rw [nat_mask1] at this
  exact this

set_option maxHeartbeats 400000 in
theorem bit_any (A : Option Addr) (L c k : Nat) (xs : List Nat) (B : Nat) (w : World) (hx : Row w B A L c xs) (hL : L ≤ 3000) (hk : k < 8 * L) :
    Calls Try.prog 27 #[.slice A L c, .int .i64 k] w fun e w' => e = .returned (.int .u8 (xs.getD (k / 8) 0 / 2 ^ (k % 8) % 2 : Nat)) ∧ w = w' := by
  obtain ⟨b, off, rfl, hb, hc⟩ := hx.at_ (by omega)
  have hck := hc (k / 8) (by omega)
  clear hc
  have hl := hx.lt (k / 8)
  generalize hu : xs.getD (k / 8) 0 = u at *
  have Hu := Lib.hid hu
  clear hu
  go_enter Try.func27, Try.ntmps27
  go_wp2
  go_ret
  exact ⟨ret_int (bit_low u _ hl), rfl⟩

theorem vals_set (xs : List Nat) (j b : Nat) : vals (xs.set j b) = (vals xs).set j (.int .u8 (b : Int)) := by simp [vals, List.map_set]
theorem putBit_end {w : World} {base g L c k d : Nat} {xs : List Nat} {x : Value} {y : Int} (hO : Own w base (some ⟨g, 0, none⟩) L c xs) (hd : d < 2) (hy : y = (newByte (xs.getD (k / 8) 0) (k % 8) d : Nat)) :
    Own ((w.setCell ⟨g, k / 8, none⟩ x).setCell ⟨g, k / 8, none⟩ (.int .u8 y)).drew.drew base (some ⟨g, 0, none⟩) L c (setBit xs k d) ∧
      w.grownBy ((w.setCell ⟨g, k / 8, none⟩ x).setCell ⟨g, k / 8, none⟩ (.int .u8 y)).drew.drew (some g) := by
  subst hy
  obtain ⟨h1, h2⟩ := hO.2.2.stored (k / 8) x
  obtain ⟨h3, h4⟩ := h1.stored (k / 8) (.int .u8 (newByte (xs.getD (k / 8) 0) (k % 8) d : Nat))
  refine ⟨⟨by rw [setBit_length]; exact hO.len, setBit_lt xs k d hO.2.1 hd, ?_⟩, ?_⟩
  · unfold setBit
    rw [vals_set]
    simpa using h3.drew.drew
  · have h5 := h2.trans h4
    exact ⟨h5.os, h5.tape, h5.output, h5.size, h5.block⟩

/-- The call leaves the bytes ys where they were owned, and changes nothing but that block. -/
def Leaves (w : World) (base : Nat) (A : Option Addr) (n c : Nat) (ys : List Nat) (v : Value) (e : Ending) (w' : World) : Prop :=
  e = .returned v ∧ Own w' base A n c ys ∧ w.grownBy w' (Value.slice A n c).ownBlock

set_option maxHeartbeats 400000 in
theorem putBit_any (g L c k d : Nat) (xs : List Nat) (base : Nat) (w : World) (hO : Own w base (some ⟨g, 0, none⟩) L c xs) (hL : L ≤ 3000) (hk : k < 8 * L) (hd : d < 2) :
    Calls Try.prog 28 #[.slice (some ⟨g, 0, none⟩) L c, .int .i64 k, .int .u8 d] w (Leaves w base (some ⟨g, 0, none⟩) L c (setBit xs k d) (.tuple #[])) := by
  have hc := hO.2.2.cellAt (k / 8) (by omega)
  rw [vals_getElem? xs (k / 8) (by rw [hO.len]; omega)] at hc
  have hf := hO.2.2.frozenAt (k / 8)
  have hl := hO.row.lt (k / 8)
  generalize hu : xs.getD (k / 8) 0 = u at *
  have Hu := Lib.hid hu
  clear hu
  go_enter Try.func28, Try.ntmps28
  go_wp2
  go_region
  go_wp2
  go_region
  go_wp2
  go_end0
  exact ⟨rfl, putBit_end hO hd (by rw [Hu.out]; exact newByte_of u (k % 8) d hl (by omega) hd)⟩
end Go.Proofs.Ytbmdkmnkbchokaa
