/- Small methods of a cache: which set a number is of, its entries, where it stands among them. No statement is proved here. -/
import Derived.Test.YtmlepikgiicaiaaCache
namespace Go.Proofs.Ytmlepikgiicaiaa
open Go.RowKit
set_option linter.unusedVariables false
set_option linter.unusedSimpArgs false

/-- The number of sets, or of a set's values, that is nearest. -/
def fitN (s : Int) : Nat := (min (max s 1) 64).toNat
theorem fitN_le (s : Int) : 1 ≤ fitN s ∧ fitN s ≤ 64 := by unfold fitN; omega
theorem within_any (s : Int) (w : World) : Calls Try.prog 25 #[.int .i64 s] w fun e W' => e = .returned (.int .i64 (fitN s : Nat)) ∧ W' = w := by
  by_cases h1 : s < 1
  · have e : Hid (((fitN s : Nat) : Int) = 1) := show _ = _ by unfold fitN; omega
    have q : (s < 1) = True := eq_true h1
    have q2 : ¬ (1 < s) := by omega
    go_enter Try.func25, Try.ntmps25
    go_wp2
    all_goals (go_ret; exact ⟨by rw [e.out]; rfl, rfl⟩)
  · by_cases h2 : 64 < s
    · have e : Hid (((fitN s : Nat) : Int) = 64) := show _ = _ by unfold fitN; omega
      go_enter Try.func25, Try.ntmps25
      go_wp2
      all_goals (first | (exfalso; omega) | skip)
      all_goals (go_ret; exact ⟨by rw [e.out]; rfl, rfl⟩)
    · have e : Hid (((fitN s : Nat) : Int) = s) := show _ = _ by unfold fitN; omega
      go_enter Try.func25, Try.ntmps25
      go_wp2
      all_goals (first | (exfalso; omega) | skip)
      all_goals (go_ret; exact ⟨by rw [e.out]; rfl, rfl⟩)
theorem place_any (g b S k : Nat) (hS : 1 ≤ S) (hS2 : S ≤ 64) (hk : k ≤ 9223372036854775807) (W : World) (c1 : W.cell? ⟨g, 1, none⟩ = some (.slice (some ⟨b, 0, none⟩) S S)) :
    Calls Try.prog 27 #[.pointer (some ⟨g, 0, none⟩), .int .i64 (k : Int)] W fun e W' => e = .returned (.int .i64 ((k % S : Nat) : Int)) ∧ W' = W := by
  go_enter Try.func27, Try.ntmps27
  go_wp2
  go_ret
  exact ⟨by rw [Int.natCast_emod]; rfl, rfl⟩
/-- The number's place among the sets. -/
def plc (c : Cs) (k : Int) : Nat := k.toNat % c.length
section
variable {w W W' : World} {g b n : Nat} {c : Cs} {L M : Blks}
theorem plc_lt {c : Cs} (h : 1 ≤ c.length) (k : Int) : plc c k < c.length := Nat.mod_lt _ (by omega)
theorem sof_neg {c : Cs} {k : Int} (h : k < 0) : sof c k = [] := by unfold sof; rw [if_pos h]
theorem sof_nat {c : Cs} (k : Nat) : sof c (k : Int) = c.getD (plc c k) [] := by unfold sof plc; rw [if_neg (by omega)]
set_option maxHeartbeats 1000000 in
theorem setOf_any (h : WC w W g b n c L) (k : Int) (hk : k ≤ 9223372036854775807) :
    Calls Try.prog 30 #[.pointer (some ⟨g, 0, none⟩), .int .i64 k] W fun e W' => ∃ A p, e = .returned (.slice A (sof c k).length p) ∧ ERow W W.heap.size A (sof c k).length p (sof c k) ∧ ∃ j, W' = W.drewN j := by
  by_cases h0 : k < 0
  · have q : (k < 0) = True := eq_true h0
    rw [sof_neg h0]
    have F := Lib.hid (ERow.nil_ (α := Ent) W W.heap.size)
    clear h
    go_enter Try.func30, Try.ntmps30
    go_wp2
    go_ret
    exact ⟨none, 0, rfl, F.out, 0, rfl⟩
  · obtain ⟨a, rfl⟩ : ∃ a : Nat, k = (a : Int) := ⟨k.toNat, by omega⟩
    have q : ((a : Int) < 0) = False := eq_false h0
    rw [sof_nat]
    have hlt := plc_lt h.pos (a : Int)
    obtain ⟨A, p, hc, hr⟩ := h.set_at _ hlt
    have c1 := h.c1
    have s1 := h.pos
    have s2 := h.s64
    have PL := Lib.hid (fun W c1 => place_any g b c.length a s1 s2 (by omega) W c1)
    have e : a % c.length = plc c (a : Int) := by unfold plc; rw [Int.toNat_natCast]
    rw [e] at PL
    generalize c.getD (plc c (a : Int)) [] = xs at *
    generalize plc c (a : Int) = i at *
    have hi : i < c.length := hlt
    have hi2 : i ≤ 64 := by omega
    generalize c.length = Sn at *
    replace hr := Lib.hid hr
    clear h e hlt s1 h0 hk
    go_enter Try.func30, Try.ntmps30
    go_wp2
    go_quiet ((go_at_call 27; exact Calls.quiet_of_same (PL.out _ (by assumption))))
    go_wp2
    go_ret
    exact ⟨A, p, rfl, hr.out, _, rfl⟩
end
end Go.Proofs.Ytmlepikgiicaiaa
