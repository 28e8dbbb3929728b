/- within, bit and putBit: whether bits lie in bytes; a bit; a bit put. No statement is proved here. -/
import Derived.Test.YtfbgpfiodgibbaaUAppend
import Derived.Test.YtfbgpfiodgibbaaUPlain
namespace Go.Proofs.Ytfbgpfiodgibbaa.U
open Go.RowKit
set_option linter.unusedVariables false

/-- Do n bits at a place lie in L bytes, and are they a number's? -/
def fits (L : Nat) (at_ n : Int) : Bool := decide (0 ≤ at_ ∧ 0 ≤ n ∧ n ≤ 64 ∧ at_ ≤ 8 * (L : Int) - n)

theorem bit_low (u j : Nat) (h : u < 256) : bits BinOp.and IntKind.u8 ((u : Int) / 2 ^ j) 1 = ((u / 2 ^ j % 2 : Nat) : Int) := by
  have h1 : u / 2 ^ j < 256 := Nat.lt_of_le_of_lt (Nat.div_le_self _ _) h
  have e : ((u : Int) / 2 ^ j) = ((u / 2 ^ j : Nat) : Int) := by simp
  rw [e]
  have := u8_and_nat (u / 2 ^ j) 1 h1 (by omega)
  rw [nat_mask1] at this
  exact this

theorem vals_set (xs : List Nat) (j b : Nat) : vals (xs.set j b) = (vals xs).set j (.int .u8 (b : Int)) := by simp [vals, List.map_set]
theorem putBit_end {w : World} {base g L c k d : Nat} {xs : List Nat} {x : Value} {y : Int} (hO : Own w base (some ⟨g, 0, none⟩) L c xs) (hd : d < 2) (hy : y = (newByte (xs.getD (k / 8) 0) (k % 8) d : Nat)) :
    Own ((w.setCell ⟨g, k / 8, none⟩ x).setCell ⟨g, k / 8, none⟩ (.int .u8 y)).drew.drew base (some ⟨g, 0, none⟩) L c (setBit xs k d) ∧
      w.grownBy ((w.setCell ⟨g, k / 8, none⟩ x).setCell ⟨g, k / 8, none⟩ (.int .u8 y)).drew.drew (some g) := by
  subst hy
  obtain ⟨h1, h2⟩ := hO.2.2.stored (k / 8) x
  obtain ⟨h3, h4⟩ := h1.stored (k / 8) (.int .u8 (newByte (xs.getD (k / 8) 0) (k % 8) d : Nat))
  refine ⟨⟨by rw [setBit_length]; exact hO.len, setBit_lt xs k d hO.2.1 hd, ?_⟩, ?_⟩
  · unfold setBit
    rw [vals_set]
    simpa using h3.drew.drew
  · have h5 := h2.trans h4
    exact ⟨h5.os, h5.tape, h5.output, h5.size, h5.block⟩

/-- The call leaves the bytes ys where they were owned, and changes nothing but that block. -/
def Leaves (w : World) (base : Nat) (A : Option Addr) (n c : Nat) (ys : List Nat) (v : Value) (e : Ending) (w' : World) : Prop :=
  e = .returned v ∧ Own w' base A n c ys ∧ w.grownBy w' (Value.slice A n c).ownBlock

end Go.Proofs.Ytfbgpfiodgibbaa.U
