/- Rows that are open stay so; memory behind equal reads or writes. No statement is proved here. -/
import Derived.Test.YtbmdkmnkbchokaaDropsWalk
namespace Go.Proofs.Ytbmdkmnkbchokaa
open Go.RowKit
set_option linter.unusedVariables false
set_option linter.unusedSimpArgs false

theorem getI_set (xs : List Int) (i j : Nat) (b : Int) (hi : i < xs.length) : (xs.set i b).getD j 0 = if i = j then b else xs.getD j 0 := by
  simp only [List.getD_eq_getElem?_getD, List.getElem?_set]
  by_cases e : i = j
  · subst e; simp [hi]
  · simp [e]
theorem opns_open (r0 : Nat) (s : List Int × Int) (h4 : s.1.length = 4) : ∀ k, k ≤ 4 → ∀ j, j < k → (opns r0 k s).1.getD ((r0 + j) % 4) 0 = ((r0 + j : Nat) : Int) + 1
  | 0, _, j, hj => by omega
  | k + 1, hk, j, hj => by
    have hl : (opns r0 k s).1.length = 4 := by rw [opns_len, h4]
    rw [opns]
    unfold opn
    by_cases h : (opns r0 k s).1.getD ((r0 + k) % 4) 0 = ((r0 + k : Nat) : Int) + 1
    · rw [if_pos h]
      by_cases e : j = k
      · subst e; exact h
      · exact opns_open r0 s h4 k (by omega) j (by omega)
    · rw [if_neg h]
      simp only
      rw [getI_set _ _ _ _ (by omega)]
      by_cases e : j = k
      · subst e; rw [if_pos rfl]
      · rw [if_neg (by omega)]
        exact opns_open r0 s h4 k (by omega) j (by omega)
theorem opns_same (r0 : Nat) (t : List Int × Int) : ∀ k, (∀ j, j < k → t.1.getD ((r0 + j) % 4) 0 = ((r0 + j : Nat) : Int) + 1) → opns r0 k t = t
  | 0, _ => rfl
  | k + 1, h => by
    rw [opns, opns_same r0 t k (fun j hj => h j (by omega)), opn, if_pos (h k (by omega))]
theorem opns_again (r0 k : Nat) (s : List Int × Int) (h4 : s.1.length = 4) (hk : k ≤ 4) : opns r0 k (opns r0 k s) = opns r0 k s :=
  opns_same r0 _ k (opns_open r0 s h4 k hk)
theorem rowsOf_le (a n : Nat) : rowsOf a n ≤ n / 64 + 2 := by unfold rowsOf; split <;> omega
theorem rowsOf_two (a n : Nat) (h : n ≤ 64) : rowsOf a n ≤ 4 := by unfold rowsOf; split <;> omega
/-- Open rows and how many were opened, behind so many equal reads. -/
def opsU (a n : Nat) : Nat → List Int × Int
  | 0 => ([0, 0, 0, 0], 0)
  | j + 1 => opns (a / 64) (rowsOf a n) (opsU a n j)
theorem opsU_four (a n : Nat) : ∀ j, (opsU a n j).1.length = 4
  | 0 => rfl
  | j + 1 => by rw [opsU, opns_len, opsU_four a n j]
theorem opsU_up (a n j : Nat) : (opsU a n j).2 ≤ (opsU a n (j + 1)).2 ∧ (opsU a n (j + 1)).2 ≤ (opsU a n j).2 + ((n / 64 : Nat) : Int) + 2 := by
  have := opns_op (a / 64) (rowsOf a n) (opsU a n j)
  have h := rowsOf_le a n
  rw [opsU]; omega
theorem opsU_bd (a n : Nat) (hn : n ≤ 5000) : ∀ j, 0 ≤ (opsU a n j).2 ∧ (opsU a n j).2 ≤ 100 * (j : Int)
  | 0 => by simp [opsU]
  | j + 1 => by have := opsU_up a n j; have := opsU_bd a n hn j; push_cast; omega
theorem opsU_same (a n : Nat) (h : n ≤ 64) : (opsU a n 2).2 = (opsU a n 1).2 := by
  show (opns _ _ (opns _ _ _)).2 = (opns _ _ _).2
  rw [opns_again _ _ _ rfl (rowsOf_two a n h)]
/-- Memory behind j equal reads. -/
def stR (a n N j : Nat) : Mm := ⟨List.replicate N 0, 0, (j : Int), 0, (opsU a n j).2, (opsU a n j).1⟩
/-- Memory behind j equal writes of noughts. -/
def stW (a n N j : Nat) : Mm := ⟨List.replicate N 0, 0, 0, (j : Int), (opsU a n j).2, (opsU a n j).1⟩
theorem stR_step (a n N j : Nat) : (stR a n N j).read a n = stR a n N (j + 1) := by
  unfold Mm.read Mm.opened stR
  simp only [opsU]
  congr 1
theorem over_zero (N a n : Nat) (h : a + n ≤ N) : over (List.replicate N 0) a (List.replicate n 0) = List.replicate N 0 := by
  unfold over
  rw [List.take_replicate, List.drop_replicate, List.length_replicate, List.replicate_append_replicate, List.replicate_append_replicate]
  congr 1
  omega
theorem stW_step (a n N j : Nat) (h : a + n ≤ N) : (stW a n N j).write a (List.replicate n 0) = stW a n N (j + 1) := by
  unfold Mm.write Mm.opened stW
  simp only [opsU, List.length_replicate]
  rw [if_neg (by omega), over_zero N a n h]
  congr 1
theorem rep_lt (N : Nat) : ∀ x ∈ List.replicate N 0, x < 256 := fun x hx => by rw [List.eq_of_mem_replicate hx]; omega
theorem stR_ok (a n N j : Nat) (hn : n ≤ 5000) (hN : N ≤ 5000) (hj : j ≤ 10) : (stR a n N j).Ok := by
  have h := opsU_bd a n hn j
  unfold stR
  exact ⟨opsU_four a n j, rep_lt N, by simpa using hN, by simp, by simp, by simp, by simp only; omega, by simp, by simp, by simp only; omega, by simp only; omega⟩
theorem stW_ok (a n N j : Nat) (hn : n ≤ 5000) (hN : N ≤ 5000) (hj : j ≤ 10) : (stW a n N j).Ok := by
  have h := opsU_bd a n hn j
  unfold stW
  exact ⟨opsU_four a n j, rep_lt N, by simpa using hN, by simp, by simp, by simp, by simp, by simp, by simp only; omega, by simp only; omega, by simp only; omega⟩
theorem stR_zero (a n N : Nat) : stR a n N 0 = Mm.fresh (List.replicate N 0) := rfl
theorem stW_zero (a n N : Nat) : stW a n N 0 = Mm.fresh (List.replicate N 0) := rfl
theorem repN_new (N : Nat) : over (List.replicate N 0) 0 (([] : List Nat).take N) = List.replicate N 0 := by rw [List.take_nil, over_nil]
end Go.Proofs.Ytbmdkmnkbchokaa
