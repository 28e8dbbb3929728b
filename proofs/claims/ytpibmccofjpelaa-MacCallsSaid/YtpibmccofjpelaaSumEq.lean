/- The program's number of bytes by a key is the document's. No statement is proved here. -/
import Derived.Test.YtpibmccofjpelaaRefSum
namespace Go.Proofs.Ytpibmccofjpelaa
open Go.RowKit
set_option linter.unusedVariables false

theorem take_set_last (l : List Nat) (j x : Nat) (h : j < l.length) : (l.set j x).take (j + 1) = l.take j ++ [x] := by
  rw [List.take_succ_eq_append_getElem (by simpa using h)]
  simp [List.take_set_of_le]
structure HInv (s : Hs) (xs : List Nat) (n : Nat) (h : Hs) : Prop where
  cnt : h.cnt = n % 256
  len : h.left.length = 8
  left : h.left.take (n % 8) = (xs.take n).drop (8 * (n / 8))
  v : h.v = refV s.v xs (n / 8)
theorem hinv_step {s : Hs} {xs : List Nat} {n : Nat} {h : Hs} (hn : n < xs.length) (H : HInv s xs n h) : HInv s xs (n + 1) (hput h (xs.getD n 0)) := by
  obtain ⟨⟨a, b, c, d⟩, left, cnt⟩ := h
  obtain ⟨h1, h2, h3, h4⟩ := H
  simp only at h1 h2 h3 h4
  subst h1
  have e8 : n % 256 % 8 = n % 8 := by omega
  have ext : (xs.take (n + 1)).drop (8 * (n / 8)) = (left.set (n % 8) (xs.getD n 0)).take (n % 8 + 1) := by
    rw [take_set_last _ _ _ (by omega), h3, List.take_succ_eq_append_getElem hn, List.drop_append_of_le_length (by simp; omega)]
    simp [List.getD_eq_getElem?_getD, hn]
  by_cases hz : (n + 1) % 8 = 0
  · rw [hput_zero _ _ _ _ (by omega), e8]
    have e9 : (n + 1) / 8 = n / 8 + 1 := by omega
    have el : left.set (n % 8) (xs.getD n 0) = (xs.drop (8 * (n / 8))).take 8 := by
      rw [List.drop_take, show n + 1 - 8 * (n / 8) = 8 by omega] at ext
      rw [ext, List.take_of_length_le (by simp; omega)]
    refine ⟨by simp only; omega, by simp only [List.length_set]; exact h2, ?_, ?_⟩
    · simp only
      rw [hz, List.take_zero, e9, List.drop_of_length_le (by simp; omega)]
    · simp only
      rw [e9, refV, h4, refm, if_pos (by omega), el]
  · rw [hput_more _ _ _ _ (by omega), e8]
    have e9 : (n + 1) / 8 = n / 8 := by omega
    refine ⟨by simp only; omega, by simp only [List.length_set]; exact h2, ?_, ?_⟩
    · simp only
      rw [e9, ext, show (n + 1) % 8 = n % 8 + 1 by omega]
    · simp only
      rw [e9, h4]
theorem hinv_all {s : Hs} (xs : List Nat) (hl : s.left.length = 8) (hc : s.cnt = 0) (n : Nat) (hn : n ≤ xs.length) : HInv s xs n (hputs s (xs.take n)) := by
  induction n with
  | zero => exact ⟨hc, hl, by simp, rfl⟩
  | succ n ih =>
    rw [hputs_take s xs n (by omega)]
    exact hinv_step (by omega) (ih (by omega))
theorem or_plus (m c : Nat) (hm : m < 256 ^ 7) : m ||| c * 2 ^ 56 = m + c * 72057594037927936 := by
  have h7 : (256 : Nat) ^ 7 = 2 ^ 56 := by decide
  rw [Nat.or_comm, nat_join 56 (c * 2 ^ 56) m (Nat.mul_mod_left _ _) (by omega)]
  omega
theorem ssum_eq (key xs : List Nat) (hk : key.length = 16) (bk : ∀ x ∈ key, x < 256) (bx : ∀ x ∈ xs, x < 256) : ssum key xs = rsum key xs := by
  have ok := hputs_ok (hstart_ok key hk bk) xs bx
  have H := hinv_all (s := hstart key) xs rfl rfl xs.length (Nat.le_refl _)
  rw [List.take_length] at H
  have hm := left_lt _ ok
  unfold ssum rsum hsum
  rw [or_plus _ _ hm, refV, refm, if_neg (by omega), H.v, H.cnt]
  have e8 : xs.length % 256 % 8 = xs.length % 8 := by omega
  rw [e8, H.left, List.take_length]
theorem example_sum : ssum [0, 1, 2, 3, 4, 5, 6, 7, 8, 9, 10, 11, 12, 13, 14, 15] [0, 1, 2, 3, 4, 5, 6, 7, 8, 9, 10, 11, 12, 13, 14] = 11613035633349379557 := by decide +kernel
end Go.Proofs.Ytpibmccofjpelaa
