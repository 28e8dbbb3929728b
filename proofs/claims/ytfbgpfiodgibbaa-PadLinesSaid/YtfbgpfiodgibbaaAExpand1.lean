/- How the keys of the rounds are made, in plain lists. No program is walked here. -/
import Derived.Test.YtfbgpfiodgibbaaATurn
namespace Go.Proofs.Ytfbgpfiodgibbaa.A
open Go.RowKit
set_option linter.unusedVariables false

/-- The word i of a row of bytes; the row with another one. -/
def word (ws : List Nat) (i : Nat) : List Nat := (ws.drop (4 * i)).take 4
def putW (ws : List Nat) (i : Nat) (y : List Nat) : List Nat := ws.take (4 * i) ++ y ++ ws.drop (4 * i + y.length)
theorem word_length (ws : List Nat) (i : Nat) (h : 4 * i + 4 ≤ ws.length) : (word ws i).length = 4 := by simp [word]; omega
theorem word_lt (ws : List Nat) (i : Nat) (h : ∀ x ∈ ws, x < 256) : ∀ x ∈ word ws i, x < 256 := fun x hx => h x (List.mem_of_mem_drop (List.mem_of_mem_take hx))
theorem putW_length (ws : List Nat) (i : Nat) (y : List Nat) (hy : y.length = 4) (h : 4 * i + 4 ≤ ws.length) : (putW ws i y).length = ws.length := by simp [putW, hy]; omega
theorem putW_lt (ws : List Nat) (i : Nat) (y : List Nat) (h : ∀ x ∈ ws, x < 256) (hy : ∀ x ∈ y, x < 256) : ∀ x ∈ putW ws i y, x < 256 := by
  intro x hx
  simp only [putW, List.mem_append] at hx
  rcases hx with (hx | hx) | hx
  · exact h x (List.mem_of_mem_take hx)
  · exact hy x hx
  · exact h x (List.mem_of_mem_drop hx)

/-- The words of the key, k of them. -/
def keyTo (xs : List Nat) : Nat → List Nat
  | 0 => noughts 176
  | k + 1 => putW (keyTo xs k) k (word xs k)
theorem keyTo_ok (xs : List Nat) (hx : xs.length = 16) (bx : ∀ x ∈ xs, x < 256) (k : Nat) (hk : k ≤ 4) : (keyTo xs k).length = 176 ∧ ∀ x ∈ keyTo xs k, x < 256 := by
  induction k with
  | zero => exact ⟨noughts_length 176, noughts_lt 176⟩
  | succ k ih =>
    obtain ⟨h1, h2⟩ := ih (by omega)
    exact ⟨by rw [keyTo, putW_length _ _ _ (word_length _ _ (by omega)) (by omega)]; exact h1, putW_lt _ _ _ h2 (word_lt _ _ bx)⟩
/-- What is added to a word: the last one, turned or not. -/
def lastW (cs ws : List Nat) (p k : Nat) : List Nat := if (k + 4) % 4 = 0 then turned cs (word ws (k + 3)) p else word ws (k + 3)
def nextP (p k : Nat) : Nat := if (k + 4) % 4 = 0 then dbl p else p
/-- The words, k of them made behind the key's, and the power of x. -/
def exTo (cs xs : List Nat) : Nat → List Nat × Nat
  | 0 => (keyTo xs 4, 1)
  | k + 1 => (putW (exTo cs xs k).1 (k + 4) (addTo (word (exTo cs xs k).1 k) (lastW cs (exTo cs xs k).1 (exTo cs xs k).2 k) 4), nextP (exTo cs xs k).2 k)
theorem lastW_ok (cs ws : List Nat) (p k : Nat) (bc : ∀ x ∈ cs, x < 256) (hw : ws.length = 176) (bw : ∀ x ∈ ws, x < 256) (hp : p < 256) (hk : k < 40) : (lastW cs ws p k).length = 4 ∧ ∀ x ∈ lastW cs ws p k, x < 256 := by
  unfold lastW
  split
  · exact ⟨turned_length _ _ _, turned_lt _ _ _ bc hp⟩
  · exact ⟨word_length _ _ (by omega), word_lt _ _ bw⟩
theorem nextP_lt (p k : Nat) (hp : p < 256) : nextP p k < 256 := by unfold nextP; split; exact dbl_lt _; exact hp
theorem exTo_ok (cs xs : List Nat) (bc : ∀ x ∈ cs, x < 256) (hx : xs.length = 16) (bx : ∀ x ∈ xs, x < 256) (k : Nat) (hk : k ≤ 40) : (exTo cs xs k).1.length = 176 ∧ (∀ x ∈ (exTo cs xs k).1, x < 256) ∧ (exTo cs xs k).2 < 256 := by
  induction k with
  | zero => exact ⟨(keyTo_ok xs hx bx 4 (by omega)).1, (keyTo_ok xs hx bx 4 (by omega)).2, by simp [exTo]⟩
  | succ k ih =>
    obtain ⟨h1, h2, h3⟩ := ih (by omega)
    obtain ⟨h4, h5⟩ := lastW_ok cs _ _ k bc h1 h2 h3 (by omega)
    have h6 : (addTo (word (exTo cs xs k).1 k) (lastW cs (exTo cs xs k).1 (exTo cs xs k).2 k) 4).length = 4 := by rw [addTo_length]; exact word_length _ _ (by omega)
    refine ⟨?_, ?_, nextP_lt _ _ h3⟩
    · rw [exTo, putW_length _ _ _ h6 (by omega)]; exact h1
    · exact putW_lt _ _ _ h2 (addTo_lt _ _ (word_lt _ _ h2) h5 4)
/-- The cells of a cipher, the first k words of its keys put. -/
def outTo (cs ws : List Nat) : Nat → List Nat
  | 0 => cs
  | k + 1 => putW (outTo cs ws k) k (word ws k)
theorem outTo_length (cs ws : List Nat) (hc : cs.length = 432) (hw : ws.length = 176) (k : Nat) (hk : k ≤ 44) : (outTo cs ws k).length = 432 := by
  induction k with
  | zero => exact hc
  | succ k ih =>
    have h := ih (by omega)
    rw [outTo, putW_length _ _ _ (word_length _ _ (by omega)) (by omega)]; exact h
theorem outTo_eq (cs ws : List Nat) (hc : cs.length = 432) (hw : ws.length = 176) (k : Nat) (hk : k ≤ 44) : outTo cs ws k = ws.take (4 * k) ++ cs.drop (4 * k) := by
  induction k with
  | zero => simp [outTo]
  | succ k ih =>
    rw [outTo, ih (by omega)]
    unfold putW word
    have hl : (List.take 4 (List.drop (4 * k) ws)).length = 4 := by simp; omega
    have h1 : (ws.take (4 * k) ++ cs.drop (4 * k)).take (4 * k) = ws.take (4 * k) := by
      rw [List.take_append_of_le_length (by rw [List.length_take]; omega), List.take_take, Nat.min_self]
    have h2 : (ws.take (4 * k) ++ cs.drop (4 * k)).drop (4 * k + 4) = cs.drop (4 * (k + 1)) := by
      have h3 : (ws.take (4 * k)).drop (4 * k + 4) = [] := List.drop_of_length_le (by rw [List.length_take]; omega)
      rw [List.drop_append, h3, List.nil_append, List.length_take, List.drop_drop]
      congr 1
      omega
    rw [hl, h1, h2, show 4 * (k + 1) = 4 * k + 4 by omega, List.take_add]
theorem keyTo_zero (xs : List Nat) : keyTo xs 0 = noughts 176 := rfl
theorem keyTo_succ (xs : List Nat) (k : Nat) : keyTo xs (k + 1) = putW (keyTo xs k) k (word xs k) := rfl
theorem exTo_zero (cs xs : List Nat) : exTo cs xs 0 = (keyTo xs 4, 1) := rfl
theorem exTo_succ (cs xs : List Nat) (k : Nat) : exTo cs xs (k + 1) = (putW (exTo cs xs k).1 (k + 4) (addTo (word (exTo cs xs k).1 k) (lastW cs (exTo cs xs k).1 (exTo cs xs k).2 k) 4), nextP (exTo cs xs k).2 k) := rfl
theorem outTo_zero (cs ws : List Nat) : outTo cs ws 0 = cs := rfl
theorem outTo_succ (cs ws : List Nat) (k : Nat) : outTo cs ws (k + 1) = putW (outTo cs ws k) k (word ws k) := rfl
attribute [irreducible] keyTo exTo outTo
end Go.Proofs.Ytfbgpfiodgibbaa.A
