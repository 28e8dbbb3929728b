/- The document's Bit, Get and Put. No statement is proved here. -/
import Derived.Test.YtcepncdolbfcfaaPut
namespace Go.Proofs.Ytcepncdolbfcfaa
open Go.RowKit
set_option linter.unusedVariables false

set_option maxHeartbeats 400000 in
theorem refBit_any (A : Option Addr) (L c k : Nat) (xs : List Nat) (w : World) (hx : Row w w.heap.size A L c xs) (hL : L ≤ 3000) (hk : k < 8 * L) :
    Calls Try.prog 57 #[.slice A L c, .int .i64 k] w fun e w' => e = .returned (.int .i64 (bitN xs k : Nat)) ∧ Below w.heap.size w w' := by
  obtain ⟨b, off, rfl, hb, hc⟩ := hx.at_ (by omega)
  have hck := hc (k / 8) (by omega)
  clear hc
  have hl := hx.lt (k / 8)
  have hbn : bitN xs k = xs.getD (k / 8) 0 / 2 ^ (k % 8) % 2 := rfl
  generalize hu : xs.getD (k / 8) 0 = u at *
  have Hu := Lib.hid hu
  have Hbn := Lib.hid hbn
  clear hu hbn
  have h8 : k % 8 = 0 ∨ k % 8 = 1 ∨ k % 8 = 2 ∨ k % 8 = 3 ∨ k % 8 = 4 ∨ k % 8 = 5 ∨ k % 8 = 6 ∨ k % 8 = 7 := by omega
  rcases h8 with hr | hr | hr | hr | hr | hr | hr | hr
  all_goals
    have Hr := Lib.hid hr
    have hm : (k : Int) % 8 = ((k % 8 : Nat) : Int) := by omega
    rw [hr] at hm
    clear hr
    go_enter Try.func57, Try.ntmps57
    go_wp2
    go_region
    go_wp2
    go_ret
    refine ⟨ret_int ?_, ((Below.refl _ _).alloc (Nat.le_refl _) _).drew⟩
    rw [Hbn.out, Hr.out]
    simp
set_option maxHeartbeats 400000 in
theorem refFits_yes (A : Option Addr) (L c a n : Nat) (w : World) (hL : L ≤ 3000) (h1 : n ≤ 64) (h2 : a + n ≤ 8 * L) :
    Calls Try.prog 56 #[.slice A L c, .int .i64 a, .int .i64 n] w fun e w' => e = .returned (.bool true) ∧ w = w' := by
  have e1 : ((a : Int) ≤ 8 * (L : Int)) = True := eq_true (by omega)
  have e2 : ((n : Int) ≤ 8 * (L : Int) - (a : Int)) = True := eq_true (by omega)
  go_enter Try.func56, Try.ntmps56
  go_wp2
  all_goals (go_ret; exact ⟨rfl, rfl⟩)
end Go.Proofs.Ytcepncdolbfcfaa
