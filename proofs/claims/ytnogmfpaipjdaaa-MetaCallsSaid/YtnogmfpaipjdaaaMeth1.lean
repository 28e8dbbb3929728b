/- Small methods of the caches: whether there is a bank, how much room it has, where an item stands, what is cached of it. No statement is proved here. -/
import Derived.Test.YtnogmfpaipjdaaaPlain
namespace Go.Proofs.Ytnogmfpaipjdaaa
open Go.RowKit
open P (Pl right hasI vals)
set_option maxRecDepth 20000
set_option linter.unusedVariables false
set_option linter.unusedSimpArgs false

/-- The caches in memory (block g, the row of banks b): the plan p, what is cached l; L: the other blocks. -/
abbrev MC (w W : World) (g b : Nat) (p : Pl) (l : List Cd) (L : Blks) : Prop := WC w W g b p (bankC p l) L
section
variable {w W W' : World} {g b : Nat} {p : Pl} {l : List Cd} {L M : Blks}
theorem MC.c46 (h : MC w W g b p l L) : W.cell? ⟨g, 46, none⟩ = some (.slice (some ⟨b, 0, none⟩) (nb p) (nb p)) := by
  have := h.cell46
  rwa [bankC_len] at this
theorem MC.bank (h : MC w W g b p l L) (i : Nat) (hi : i < nb p) : ∃ A q, W.cell? ⟨b, i, none⟩ = some (.slice A (bkL l i).length q) ∧ ERow W W.heap.size A (bkL l i).length q (bkL l i) := by
  have := h.set_at i (by rw [bankC_len]; exact hi)
  rwa [bankC_get p l i hi] at this
theorem hasBank_any (hp : right p = true) (k : Int) (W : World) (h : W.cell? ⟨g, 46, none⟩ = some (.slice (some ⟨b, 0, none⟩) (nb p) (nb p))) :
    Calls Try.prog 31 #[.pointer (some ⟨g, 0, none⟩), .int .i64 k] W fun e W' => e = .returned (.bool (hasB p k)) ∧ W' = W := by
  obtain ⟨f1, f2, f3⟩ := nb_facts hp
  have E := Lib.hid (show hasB p k = (decide (0 ≤ k) && decide (k < (nb p : Int))) by unfold hasB; rw [f3])
  generalize hasB p k = B at *
  clear f3 hp
  generalize nb p = n at *
  by_cases h0 : 0 ≤ k
  · have q1 : decide (k ≥ 0) = true := decide_eq_true (by omega)
    have q2 : (k ≥ 0) = True := eq_true (by omega)
    by_cases h1 : k < (n : Int)
    · have q3 : decide (k < (n : Int)) = true := decide_eq_true h1
      have e : Hid (B = true) := show _ = _ by rw [E.out, q3, decide_eq_true h0]; rfl
      go_enter Try.func31, Try.ntmps31
      go_wp2
      go_ret
      exact ⟨by rw [e.out]; rfl, rfl⟩
    · have q3 : decide (k < (n : Int)) = false := decide_eq_false h1
      have e : Hid (B = false) := show _ = _ by rw [E.out, q3, decide_eq_true h0]; rfl
      go_enter Try.func31, Try.ntmps31
      go_wp2
      go_ret
      exact ⟨by rw [e.out]; rfl, rfl⟩
  · have q1 : decide (k ≥ 0) = false := decide_eq_false (by omega)
    have q2 : (k ≥ 0) = False := eq_false (by omega)
    have e : Hid (B = false) := show _ = _ by rw [E.out, decide_eq_false h0]; rfl
    go_enter Try.func31, Try.ntmps31
    go_wp2
    go_ret
    exact ⟨by rw [e.out]; rfl, rfl⟩
set_option maxHeartbeats 1000000 in
theorem room_any (h : MC w W g b p l L) (hp : right p = true) (k : Int) :
    Calls Try.prog 21 #[.pointer (some ⟨g, 0, none⟩), .int .i64 k] W fun e W' => e = .returned (.int .i64 (roomV p l k)) ∧ ∃ j, W' = W.drewN j := by
  have c46 := h.c46
  have HB := Lib.hid (fun W h => hasBank_any (g := g) (b := b) hp k W h)
  obtain ⟨f1, f2, f3⟩ := nb_facts hp
  by_cases h0 : 0 ≤ k ∧ k < p.ba
  · rw [(hasB_iff p k).2 h0] at HB
    obtain ⟨i, rfl⟩ : ∃ i : Nat, k = (i : Int) := ⟨k.toNat, by omega⟩
    have hi : i < nb p := by omega
    have E := Lib.hid (show roomV p l (i : Int) = p.me - ((bkL l i).length : Int) by unfold roomV; rw [if_pos h0]; rfl)
    obtain ⟨A, q, d0, hr⟩ := h.bank i hi
    have mx := hr.max
    have mn := (P.right_facts hp).2.2
    have mn2 : 0 ≤ p.me := by
      have h2 := (P.right_facts hp).2.1
      have := mn.1
      unfold P.Ls at this
      rw [if_pos h2, f3] at this
      have : (0 : Int) ≤ (nb p : Int) * (P.Lv p : Int) := Int.mul_nonneg (by omega) (by omega)
      omega
    have mn3 := mn.2
    have c11 := h.c11
    generalize roomV p l (i : Int) = R at *
    generalize p.me = m at *
    generalize (bkL l i).length = n at *
    clear h hr mn h0 f3 hp
    generalize nb p = N at *
    go_enter Try.func21, Try.ntmps21
    go_wp2_with (go_at_call 31; refine (HB.out _ c46).mono ?_; rintro e W2 ⟨rfl, rfl⟩)
    go_quiet (fail)
    go_wp2
    go_ret
    exact ⟨by rw [E.out]; rfl, _, rfl⟩
  · have hb : hasB p k = false := by
      cases hq : hasB p k with
      | false => rfl
      | true => exact absurd ((hasB_iff p k).1 hq) h0
    rw [hb] at HB
    have E := Lib.hid (show roomV p l k = 0 by unfold roomV; rw [if_neg h0])
    generalize roomV p l k = R at *
    clear h
    generalize nb p = N at *
    go_enter Try.func21, Try.ntmps21
    go_wp2_with (go_at_call 31; refine (HB.out _ c46).mono ?_; rintro e W2 ⟨rfl, rfl⟩)
    go_ret
    exact ⟨by rw [E.out]; rfl, 0, rfl⟩
end
end Go.Proofs.Ytnogmfpaipjdaaa
