/- Addresses one behind the other, as numbers. No statement is proved here. -/
import Derived.Test.YtcbpnmcfiohndaaAllPlain
namespace Go.Proofs.Ytcbpnmcfiohndaa
open Go.RowKit
set_option linter.unusedVariables false
set_option linter.unusedSimpArgs false

attribute [local irreducible] itAt
/-- The first byte of a thing. -/
def Pc.fst (c : Pc) : Pc := { c with o := 0 }
/-- What stands at an address of a right plan, by its kind. -/
theorem plAt_one {q : Pl} {m : Nat} (hq : right q = true) (h : (m : Int) < 32 * Al q) : hasP q m = true ∧ plAt q m = ⟨1, (m / 32 : Nat), 0, 0, (m % 32 : Nat)⟩ ∧ hasL q (m / 32 : Nat) = true ∧ DaI q (m / 32 : Nat) = ((32 * (m / 32) : Nat) : Int) := by
  have h1 : hasP q m = true := by
    unfold hasP SzI; rw [hq, decide_eq_true (by omega), decide_eq_true (by simp only [if_true]; omega)]; rfl
  have h2 : hasL q (m / 32 : Nat) = true := by
    unfold hasL; rw [hq, decide_eq_true (by omega), decide_eq_true (by omega)]; rfl
  refine ⟨h1, ?_, h2, ?_⟩
  · unfold plAt; rw [if_pos h1, if_pos h]; rfl
  · unfold DaI; rw [if_pos h2]; push_cast; rfl
theorem plAt_two {q : Pl} {m : Nat} (hq : right q = true) (h0 : 32 * Al q ≤ (m : Int)) (h : (m : Int) < 40 * Al q) : hasP q m = true ∧ plAt q m = ⟨2, ((m - 32 * (Al q).toNat) / 8 : Nat), 0, 0, ((m - 32 * (Al q).toNat) % 8 : Nat)⟩ ∧ hasL q ((m - 32 * (Al q).toNat) / 8 : Nat) = true ∧ TaI q ((m - 32 * (Al q).toNat) / 8 : Nat) = ((32 * (Al q).toNat + 8 * ((m - 32 * (Al q).toNat) / 8) : Nat) : Int) := by
  obtain ⟨a0, a1⟩ := Al_bounds q
  have h1 : hasP q m = true := by
    unfold hasP SzI; rw [hq, decide_eq_true (by omega), decide_eq_true (by simp only [if_true]; omega)]; rfl
  have h2 : hasL q ((m - 32 * (Al q).toNat) / 8 : Nat) = true := by
    unfold hasL; rw [hq, decide_eq_true (by omega), decide_eq_true (by omega)]; rfl
  refine ⟨h1, ?_, h2, ?_⟩
  · unfold plAt
    rw [if_pos h1, if_neg (by omega), if_pos (by omega), show (m : Int) - 32 * Al q = ((m - 32 * (Al q).toNat : Nat) : Int) by omega]; rfl
  · unfold TaI; rw [if_pos h2]; omega
theorem plAt_three {q : Pl} {m : Nat} (hq : right q = true) (h0 : 40 * Al q ≤ (m : Int)) (h : (m : Int) < SzI q) : ∃ k j : Nat, itAt q.pa.toNat q.ar.toNat (Lv q) ((m - 40 * (Al q).toNat) / 32) = (k, j) ∧ hasP q m = true ∧ plAt q m = ⟨3, 0, (k : Nat), (j : Nat), ((m - 40 * (Al q).toNat) % 32 : Nat)⟩ ∧ hasI q (k : Nat) (j : Nat) = true ∧ ItI q (k : Nat) (j : Nat) = ((40 * (Al q).toNat + 32 * ((m - 40 * (Al q).toNat) / 32) : Nat) : Int) := by
  obtain ⟨a0, a1⟩ := Al_bounds q
  have EZ : SzI q = 32 * Al q + 8 * Al q + 32 * (sw q.pa.toNat q.ar.toNat (Lv q) : Int) := by unfold SzI; rw [hq]; rfl
  have h1 : hasP q m = true := by
    unfold hasP; rw [decide_eq_true (by omega), decide_eq_true h]; rfl
  obtain ⟨s1, s2, s3⟩ := itAt_spec (n := q.pa.toNat) (a := q.ar.toNat) (L := Lv q) (c := (m - 40 * (Al q).toNat) / 32) (by omega)
  rcases hx : itAt q.pa.toNat q.ar.toNat (Lv q) ((m - 40 * (Al q).toNat) / 32) with ⟨k, j⟩
  rw [hx] at s1 s2 s3
  simp only at s1 s2 s3
  have h2 := hasI_mk hq s1 s2
  refine ⟨k, j, rfl, h1, ?_, h2, ?_⟩
  · unfold plAt
    rw [if_pos h1, if_neg (by omega), if_neg (by omega), show (m : Int) - (32 * Al q + 8 * Al q) = ((m - 40 * (Al q).toNat : Nat) : Int) by omega, show (((m - 40 * (Al q).toNat : Nat) : Int) / 32).toNat = (m - 40 * (Al q).toNat) / 32 by omega, hx]; rfl
  · unfold ItI; rw [if_pos h2]
    have e : ((k : Nat) : Int).toNat = k := by omega
    rw [e]; omega
/-- What the offset tells of the thing ahead. -/
theorem fst_facts {q : Pl} {m : Nat} (hq : right q = true) (h : ((m + 1 : Nat) : Int) < SzI q) : (plAt q (m + 1 : Nat)).fst.same (plAt q m).fst = !decide ((plAt q (m + 1 : Nat)).o = 0) := by
  obtain ⟨a0, a1⟩ := Al_bounds q
  have key : ∀ b : Bool, (b = true → ¬ (plAt q (m + 1 : Nat)).o = 0) → (¬ (plAt q (m + 1 : Nat)).o = 0 → b = true) → b = !decide ((plAt q (m + 1 : Nat)).o = 0) := by
    intro b h1 h2
    by_cases e : (plAt q (m + 1 : Nat)).o = 0
    · rw [decide_eq_true e]; cases b
      · rfl
      · exact absurd e (h1 rfl)
    · rw [decide_eq_false e, h2 e]; rfl
  apply key
  · intro hs
    rw [Pc.same_iff] at hs
    by_cases k1 : ((m + 1 : Nat) : Int) < 32 * Al q
    · obtain ⟨-, e1, -⟩ := plAt_one hq k1
      obtain ⟨-, e2, -⟩ := plAt_one (m := m) hq (by omega)
      rw [e1, e2] at hs
      rw [e1]
      have := congrArg Pc.n hs
      simp only [Pc.fst] at this ⊢
      omega
    · by_cases k2 : ((m + 1 : Nat) : Int) < 40 * Al q
      · obtain ⟨-, e1, -⟩ := plAt_two hq (by omega) k2
        rw [e1] at hs ⊢
        by_cases k0 : (m : Int) < 32 * Al q
        · obtain ⟨-, e2, -⟩ := plAt_one (m := m) hq k0
          rw [e2] at hs
          have := congrArg Pc.k hs
          simp only [Pc.fst] at this; omega
        · obtain ⟨-, e2, -⟩ := plAt_two (m := m) hq (by omega) (by omega)
          rw [e2] at hs
          have := congrArg Pc.n hs
          simp only [Pc.fst] at this ⊢
          omega
      · obtain ⟨k, j, i1, -, e1, -, d1⟩ := plAt_three hq (show 40 * Al q ≤ ((m + 1 : Nat) : Int) by omega) h
        rw [e1] at hs ⊢
        by_cases k0 : (m : Int) < 32 * Al q
        · obtain ⟨-, e2, -⟩ := plAt_one (m := m) hq k0
          rw [e2] at hs
          have := congrArg Pc.k hs
          simp only [Pc.fst] at this; omega
        · by_cases k3 : (m : Int) < 40 * Al q
          · obtain ⟨-, e2, -⟩ := plAt_two (m := m) hq (by omega) k3
            rw [e2] at hs
            have := congrArg Pc.k hs
            simp only [Pc.fst] at this; omega
          · obtain ⟨k', j', i2, -, e2, -, d2⟩ := plAt_three (m := m) hq (by omega) (by omega)
            rw [e2] at hs
            have h1 := congrArg Pc.l hs
            have h2 := congrArg Pc.i hs
            simp only [Pc.fst] at h1 h2 ⊢
            rw [h1, h2, d2] at d1
            omega
  · intro ho
    rw [Pc.same_iff]
    by_cases k1 : ((m + 1 : Nat) : Int) < 32 * Al q
    · obtain ⟨-, e1, -⟩ := plAt_one hq k1
      obtain ⟨-, e2, -⟩ := plAt_one (m := m) hq (by omega)
      rw [e1] at ho ⊢
      rw [e2]
      simp only [Pc.fst, Pc.mk.injEq, and_true, true_and] at ho ⊢
      omega
    · by_cases k2 : ((m + 1 : Nat) : Int) < 40 * Al q
      · obtain ⟨-, e1, -⟩ := plAt_two hq (by omega) k2
        rw [e1] at ho ⊢
        simp only at ho
        obtain ⟨-, e2, -⟩ := plAt_two (m := m) hq (by omega) (by omega)
        rw [e2]
        simp only [Pc.fst, Pc.mk.injEq, and_true, true_and] at ho ⊢
        omega
      · obtain ⟨k, j, i1, -, e1, -, d1⟩ := plAt_three hq (show 40 * Al q ≤ ((m + 1 : Nat) : Int) by omega) h
        rw [e1] at ho ⊢
        simp only at ho
        obtain ⟨k', j', i2, -, e2, -, d2⟩ := plAt_three (m := m) hq (by omega) (by omega)
        rw [show (m + 1 - 40 * (Al q).toNat) / 32 = (m - 40 * (Al q).toNat) / 32 by omega, i2] at i1
        rw [e2]
        simp only [Prod.mk.injEq] at i1
        simp only [Pc.fst, Pc.mk.injEq, and_true, true_and]
        omega
end Go.Proofs.Ytcbpnmcfiohndaa
