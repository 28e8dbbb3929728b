/- A round's key fixes the key, in plain lists. No program is spoken of here. -/
import Derived.Test.YtmmfigdmdamnlabInj
namespace Go.Proofs.Ytmmfigdmdamnlab
set_option linter.unusedVariables false
set_option linter.unusedSectionVars false

theorem word_put_lo (ws : List Nat) (i j : Nat) (y : List Nat) (hj : j < i) (h : 4 * i ≤ ws.length) : word (putW ws i y) j = word ws j := by
  unfold word putW
  rw [List.append_assoc, List.drop_append_of_le_length (by rw [List.length_take]; omega), List.take_append_of_le_length (by rw [List.length_drop, List.length_take]; omega), List.drop_take, List.take_take, Nat.min_eq_left (by omega)]
theorem word_put_at (ws : List Nat) (i : Nat) (y : List Nat) (hy : y.length = 4) (h : 4 * i ≤ ws.length) : word (putW ws i y) i = y := by
  unfold word putW
  have hl : (ws.take (4 * i)).length = 4 * i := by rw [List.length_take]; omega
  rw [List.append_assoc, List.drop_append_of_le_length (by omega), List.drop_of_length_le (by omega), List.nil_append, List.take_append_of_le_length (by omega), List.take_of_length_le (by omega)]
section
variable (key : List Nat) (hk : key.length = 16) (bk : ∀ x ∈ key, x < 256)
include hk bk
theorem ex_len (k : Nat) (h : k ≤ 40) : (exTo fresh key k).1.length = 176 := (exTo_ok _ _ fresh_lt hk bk k h).1
theorem add_len (k : Nat) (h : k < 40) : (addTo (word (exTo fresh key k).1 k) (lastW fresh (exTo fresh key k).1 (exTo fresh key k).2 k) 4).length = 4 := by
  rw [addTo_length]; exact word_length _ _ (by rw [ex_len key hk bk k (by omega)]; omega)
theorem ex_stable (k m j : Nat) (h : k + m ≤ 40) (hj : j < k + 4) : word (exTo fresh key (k + m)).1 j = word (exTo fresh key k).1 j := by
  induction m with
  | zero => rfl
  | succ m ih =>
    rw [show k + (m + 1) = (k + m) + 1 by omega, exTo_succ]
    show word (putW _ _ _) j = _
    rw [word_put_lo _ _ _ _ (by omega) (by rw [ex_len key hk bk (k + m) (by omega)]; omega), ih (by omega)]
theorem ex_word (k : Nat) (h : k < 40) : word (exTo fresh key 40).1 (k + 4) = addTo (word (exTo fresh key 40).1 k) (lastW fresh (exTo fresh key 40).1 (exTo fresh key k).2 k) 4 := by
  have e1 := ex_stable key hk bk (k + 1) (40 - (k + 1)) (k + 4) (by omega) (by omega)
  have e2 := ex_stable key hk bk k (40 - k) k (by omega) (by omega)
  have e3 := ex_stable key hk bk k (40 - k) (k + 3) (by omega) (by omega)
  rw [show k + 1 + (40 - (k + 1)) = 40 by omega] at e1
  rw [show k + (40 - k) = 40 by omega] at e2 e3
  have e4 : lastW fresh (exTo fresh key 40).1 (exTo fresh key k).2 k = lastW fresh (exTo fresh key k).1 (exTo fresh key k).2 k := by unfold lastW; rw [e3]
  rw [e1, e2, e4, exTo_succ]
  exact word_put_at _ _ _ (add_len key hk bk k h) (by rw [ex_len key hk bk k (by omega)]; omega)
theorem ex_power (other : List Nat) (k : Nat) : (exTo fresh key k).2 = (exTo fresh other k).2 := by
  induction k with
  | zero => rw [exTo_zero, exTo_zero]
  | succ k ih => rw [exTo_succ, exTo_succ]; show nextP _ _ = nextP _ _; rw [ih]
theorem key_stable (k m j : Nat) (h : k + m ≤ 4) (hj : j < k) : word (keyTo key (k + m)) j = word (keyTo key k) j := by
  induction m with
  | zero => rfl
  | succ m ih =>
    rw [show k + (m + 1) = (k + m) + 1 by omega, keyTo_succ, word_put_lo _ _ _ _ (by omega) (by rw [(keyTo_ok key hk bk (k + m) (by omega)).1]; omega), ih (by omega)]
theorem ex_key (j : Nat) (h : j < 4) : word (exTo fresh key 40).1 j = word key j := by
  have e1 := ex_stable key hk bk 0 40 j (by omega) (by omega)
  rw [Nat.zero_add] at e1
  have e2 := key_stable key hk bk (j + 1) (4 - (j + 1)) j (by omega) (by omega)
  rw [show j + 1 + (4 - (j + 1)) = 4 by omega] at e2
  rw [e1, exTo_zero]
  show word (keyTo key 4) j = _
  rw [e2, keyTo_succ]
  exact word_put_at _ _ _ (word_length _ _ (by omega)) (by rw [(keyTo_ok key hk bk j (by omega)).1]; omega)
end
theorem add4_getD (xs ys : List Nat) (i : Nat) (hx : xs.length = 4) (hi : i < 4) : (addTo xs ys 4).getD i 0 = xs.getD i 0 ^^^ ys.getD i 0 := by
  have z : addTo xs ys 0 = xs := by unfold addTo; rfl
  have := setTo_getD (addTo xs ys) (fun t => xs.getD t 0 ^^^ ys.getD t 0) (fun t => by rw [addTo, addTo_free xs ys t t (Nat.le_refl _)]) 4 i (by rw [z, hx]; exact hi)
  rw [this, if_pos hi]
theorem add4_inj (xs ys ks : List Nat) (hx : xs.length = 4) (hy : ys.length = 4) (h : addTo xs ks 4 = addTo ys ks 4) : xs = ys := by
  refine List.ext_getElem (by rw [hx, hy]) fun i h1 h2 => ?_
  have e : (addTo xs ks 4).getD i 0 = (addTo ys ks 4).getD i 0 := by rw [h]
  rw [add4_getD xs ks i hx (by omega), add4_getD ys ks i hy (by omega)] at e
  have := xor_cancel e
  simpa [List.getD_eq_getElem?_getD, List.getElem?_eq_getElem h1, List.getElem?_eq_getElem h2] using this
/-- The words of a round, alike for two keys. -/
def Alike (a b : List Nat) (r : Nat) : Prop := ∀ j, j < 4 → word (exTo fresh a 40).1 (4 * r + j) = word (exTo fresh b 40).1 (4 * r + j)
theorem alike_back (a b : List Nat) (la : a.length = 16) (lb : b.length = 16) (ba : ∀ x ∈ a, x < 256) (bb : ∀ x ∈ b, x < 256) (r : Nat) (hr : r < 10) (h : Alike a b (r + 1)) : Alike a b r := by
  have wl := fun (key : List Nat) (hk : key.length = 16) (bk : ∀ x ∈ key, x < 256) (k : Nat) (h : k < 40) => word_length (exTo fresh key 40).1 k (by rw [ex_len key hk bk 40 (by omega)]; omega)
  have step : ∀ k, k < 40 → word (exTo fresh a 40).1 (k + 4) = word (exTo fresh b 40).1 (k + 4) → word (exTo fresh a 40).1 (k + 3) = word (exTo fresh b 40).1 (k + 3) → word (exTo fresh a 40).1 k = word (exTo fresh b 40).1 k := by
    intro k hk h1 h2
    have ea := ex_word a la ba k hk
    have eb := ex_word b lb bb k hk
    have e : lastW fresh (exTo fresh a 40).1 (exTo fresh a k).2 k = lastW fresh (exTo fresh b 40).1 (exTo fresh b k).2 k := by unfold lastW; rw [h2, ex_power a la ba b k]
    rw [ea, eb, e] at h1
    exact add4_inj _ _ _ (wl a la ba k hk) (wl b lb bb k hk) h1
  have h0 := h 0 (by omega)
  have h1 := h 1 (by omega)
  have h2 := h 2 (by omega)
  have h3 := h 3 (by omega)
  have g3 := step (4 * r + 3) (by omega) h3 h2
  have g2 := step (4 * r + 2) (by omega) h2 h1
  have g1 := step (4 * r + 1) (by omega) h1 h0
  have g0 := step (4 * r) (by omega) h0 g3
  intro j hj
  rcases (by omega : j = 0 ∨ j = 1 ∨ j = 2 ∨ j = 3) with rfl | rfl | rfl | rfl
  · exact g0
  · exact g1
  · exact g2
  · exact g3
theorem alike_key (a b : List Nat) (la : a.length = 16) (lb : b.length = 16) (ba : ∀ x ∈ a, x < 256) (bb : ∀ x ∈ b, x < 256) (r : Nat) (hr : r ≤ 10) (h : Alike a b r) : a = b := by
  induction r with
  | zero =>
    have w : ∀ j, j < 4 → word a j = word b j := fun j hj => by
      have := h j hj
      rw [Nat.mul_zero, Nat.zero_add, ex_key a la ba j hj, ex_key b lb bb j hj] at this
      exact this
    refine list_ext a b la lb fun i hi => ?_
    have := w (i / 4) (by omega)
    have e : (word a (i / 4)).getD (i % 4) 0 = (word b (i / 4)).getD (i % 4) 0 := by rw [this]
    unfold word at e
    rwa [col_getD a _ _ (by omega), col_getD b _ _ (by omega), show 4 * (i / 4) + i % 4 = i by omega] at e
  | succ r ih => exact ih (by omega) (alike_back a b la lb ba bb r (by omega) h)
theorem rk_eq (cs : List Nat) (r : Nat) : rk cs r = (cs.drop (16 * r)).take 16 := by unfold rk; rfl
theorem rounds_eq (key : List Nat) (hk : key.length = 16) (bk : ∀ x ∈ key, x < 256) : (cells key).take 176 = (exTo fresh key 40).1 := by
  have hl := (exTo_ok _ _ fresh_lt hk bk 40 (by omega)).1
  rw [cells_eq key hk bk, List.take_append_of_le_length (by omega), List.take_of_length_le (by omega)]
theorem rk_key (a b : List Nat) (la : a.length = 16) (lb : b.length = 16) (ba : ∀ x ∈ a, x < 256) (bb : ∀ x ∈ b, x < 256) (r : Nat) (hr : r ≤ 10) (h : rk (exTo fresh a 40).1 r = rk (exTo fresh b 40).1 r) : a = b := by
  refine alike_key a b la lb ba bb r hr fun j hj => ?_
  have e : ∀ cs : List Nat, word cs (4 * r + j) = ((rk cs r).drop (4 * j)).take 4 := fun cs => by
    rw [rk_eq]
    unfold word
    rw [List.drop_take, List.take_take, List.drop_drop, Nat.min_eq_left (by omega), show 16 * r + 4 * j = 4 * (4 * r + j) by omega]
  rw [e, e, h]
end Go.Proofs.Ytmmfigdmdamnlab
