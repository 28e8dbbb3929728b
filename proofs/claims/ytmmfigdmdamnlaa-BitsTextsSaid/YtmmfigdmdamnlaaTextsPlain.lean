/- What the law BitsTexts needs of lists and texts. No statement is proved here. -/
import Derived.Test.YtmmfigdmdamnlaaSpeaks
import Derived.Test.YtmmfigdmdamnlaaRefXor
import Derived.Test.YtmmfigdmdamnlaaUnhex
import Derived.Test.YtmmfigdmdamnlaaSizesWalk
import Derived.Deep.RegionWith
import Derived.Deep.RegionHeld3
namespace Go.Proofs.Ytmmfigdmdamnlaa
open Go.RowKit
set_option linter.unusedVariables false

theorem bt_txt (ns : List Nat) (h : ∀ x ∈ ns, x < 256) (i : Nat) (hi : i < ns.length) : bt (txt ns) i = ns.getD i 0 := by
  have hs : i < (txt ns).size := by rw [txt_size]; exact hi
  rw [← bt_eq _ _ hs]
  show (((ns.map UInt8.ofNat).toArray)[i]'(by simpa using hi)).toNat = _
  have hl := h _ (List.getElem_mem hi)
  simp [List.getD_eq_getElem?_getD, hi]
  omega
theorem hexL_lt (xs : List Nat) (h : ∀ x ∈ xs, x < 256) : ∀ x ∈ hexL xs, x < 256 := by
  induction xs with
  | nil => simp [hexL]
  | cons y r ih =>
    intro x hx
    simp only [hexL, List.mem_cons] at hx
    have hy := h y (by simp)
    rcases hx with rfl | rfl | hx
    · exact dg_lt _ (by omega)
    · exact dg_lt _ (by omega)
    · exact ih (fun z hz => h z (by simp [hz])) x hx
theorem hexL_getD (xs : List Nat) (j : Nat) (h : j < xs.length) : (hexL xs).getD (2 * j) 0 = dg (xs.getD j 0 / 16) ∧ (hexL xs).getD (2 * j + 1) 0 = dg (xs.getD j 0 % 16) := by
  induction xs generalizing j with
  | nil => simp at h
  | cons y r ih =>
    cases j with
    | zero => simp [hexL]
    | succ j =>
      have := ih j (by simpa using h)
      simp only [hexL]
      rw [show 2 * (j + 1) = 2 * j + 1 + 1 by omega, show 2 * j + 1 + 1 + 1 = (2 * j + 1) + 1 + 1 by omega]
      simpa using this
theorem back_good (xs : List Nat) (h : ∀ x ∈ xs, x < 256) (j : Nat) (hj : j < xs.length) : hiD (txt (hexL xs)) j = ((xs.getD j 0 / 16 : Nat) : Int) ∧ loD (txt (hexL xs)) j = ((xs.getD j 0 % 16 : Nat) : Int) := by
  have hl := getD_lt xs h j
  have hh := hexL_getD xs j hj
  unfold hiD loD
  rw [bt_txt _ (hexL_lt xs h) _ (by rw [hexL_length]; omega), bt_txt _ (hexL_lt xs h) _ (by rw [hexL_length]; omega), hh.1, hh.2, dgv_dg _ (by omega), dgv_dg _ (by omega)]
  exact ⟨rfl, rfl⟩
theorem back_ok (xs : List Nat) (h : ∀ x ∈ xs, x < 256) (n : Nat) (hn : xs.length = n) : okTo (txt (hexL xs)) n := by
  intro j hj
  have := back_good xs h j (by omega)
  exact ⟨by rw [this.1]; omega, by rw [this.2]; omega⟩
theorem back_same (xs : List Nat) (h : ∀ x ∈ xs, x < 256) (n : Nat) (hn : xs.length = n) : unL (txt (hexL xs)) n = xs := by
  refine List.ext_getElem (by rw [unL_length, hn]) fun i hi hj => ?_
  have hi' : i < n := by rw [unL_length] at hi; exact hi
  have h1 := unL_getD (txt (hexL xs)) n i hi'
  have h2 := back_good xs h i (by omega)
  unfold valD at h1
  rw [h2.1, h2.2] at h1
  have h3 : xs.getD i 0 = xs[i] := by simp [List.getD_eq_getElem?_getD, hj]
  have h4 : (unL (txt (hexL xs)) n).getD i 0 = (unL (txt (hexL xs)) n)[i] := by rw [List.getD_eq_getElem?_getD, List.getElem?_eq_getElem hi]; rfl
  rw [← h3, ← h4, h1]
  omega
theorem xorL_back (xs ys : List Nat) : xorL (xorL xs ys) ys = xs.take (min xs.length ys.length) := by
  induction xs generalizing ys with
  | nil => simp [xorL]
  | cons x r ih =>
    cases ys with
    | nil => simp [xorL]
    | cons y s =>
      have := ih s
      simp only [xorL, List.zipWith_cons_cons, List.length_cons, Nat.add_min_add_right, List.take_succ_cons] at this ⊢
      rw [this, Nat.xor_assoc, Nat.xor_self, Nat.xor_zero]

theorem Row.drawn {w : World} {n c : Nat} {A : Option Addr} {xs : List Nat} (h : Row w w.heap.size A n c xs) (k : Nat) : Row (w.drewN k) (w.drewN k).heap.size A n c xs := h
theorem Row.drawn1 {w : World} {n c : Nat} {A : Option Addr} {xs : List Nat} (h : Row w w.heap.size A n c xs) : Row w.drew w.drew.heap.size A n c xs := h
/-- What the law finds in the text s: it is of an odd length; or of an even one, and one of digits or not. -/
theorem text_cases (s : ByteArray) : (∃ K, s.size = 2 * K + 1 ∧ okTo s K) ∨ (∃ K, s.size = 2 * K + 1 ∧ ¬ okTo s K) ∨ (∃ K, s.size = 2 * K ∧ okTo s K) ∨ (∃ K, s.size = 2 * K ∧ ¬ okTo s K) := by
  have h : s.size = 2 * (s.size / 2) ∨ s.size = 2 * (s.size / 2) + 1 := by omega
  rcases h with h | h
  · by_cases g : okTo s (s.size / 2)
    · exact .inr (.inr (.inl ⟨_, h, g⟩))
    · exact .inr (.inr (.inr ⟨_, h, g⟩))
  · by_cases g : okTo s (s.size / 2)
    · exact .inl ⟨_, h, g⟩
    · exact .inr (.inl ⟨_, h, g⟩)

theorem chain_below {w w1 w2 w3 w5 w6 w7 w10 w11 w13 w14 : World} (h1 : Below w.heap.size w w1) (h2 : Below w1.heap.size w1 w2) (h3 : Below w2.heap.size w2 w3) (h5 : Below w3.heap.size w3 w5) (h6 : Below w5.heap.size w5 w6) (h7 : Below w6.heap.size w6 w7)
    (h10 : Below w7.heap.size w7 w10) (h11 : Below w10.heap.size w10 w11) (h13 : Below w11.heap.size w11 w13) (h14 : Below w13.heap.size w13 w14) : Below w.heap.size w w14 := by
  have a2 := h1.trans (h2.mono h1.size)
  have a3 := a2.trans (h3.mono a2.size)
  have a5 := a3.trans (h5.mono a3.size)
  have a6 := a5.trans (h6.mono a5.size)
  have a7 := a6.trans (h7.mono a6.size)
  have a10 := a7.trans (h10.mono a7.size)
  have a11 := a10.trans (h11.mono a10.size)
  have a13 := a11.trans (h13.mono a11.size)
  exact a13.trans (h14.mono a13.size)
end Go.Proofs.Ytmmfigdmdamnlaa
