/- The words of a key, as the document makes them, by the program's own words. No program is walked here. -/
import Derived.Test.YtmmfigdmdamnlabRefW
namespace Go.Proofs.Ytmmfigdmdamnlab
open Go.RowKit
set_option linter.unusedVariables false

/-- Word j of a key's rounds. -/
def wd (key : List Nat) (j : Nat) : List Nat := word (exTo fresh key 40).1 j
/-- The power of x ahead of word k + 4. -/
def xp (key : List Nat) (k : Nat) : Nat := (exTo fresh key k).2
theorem four_of (xs : List Nat) (h : xs.length = 4) : xs = [xs.getD 0 0, xs.getD 1 0, xs.getD 2 0, xs.getD 3 0] := by
  match xs, h with
  | [a, b, c, d], _ => rfl
theorem four_ext (xs : List Nat) (h : xs.length = 4) (a b c d : Nat) (h0 : xs.getD 0 0 = a) (h1 : xs.getD 1 0 = b) (h2 : xs.getD 2 0 = c) (h3 : xs.getD 3 0 = d) : xs = [a, b, c, d] := by
  rw [four_of xs h, h0, h1, h2, h3]
theorem fresh_table (v : Nat) (h : v < 256) : fresh.getD (176 + v) 0 = sub v := by
  unfold fresh
  rw [List.getD_eq_getElem?_getD, List.getElem?_append_right (by rw [noughts_length]; omega), noughts_length, Nat.add_sub_cancel_left, ← List.getD_eq_getElem?_getD]
  exact tb_getD v h
theorem turned_four (ys : List Nat) (p : Nat) (hy : ys.length = 4) (by_ : ∀ x ∈ ys, x < 256) : turned fresh ys p = [sub (ys.getD 1 0) ^^^ p, sub (ys.getD 2 0), sub (ys.getD 3 0), sub (ys.getD 0 0)] := by
  have t := fun v hv => fresh_table v hv
  have l := getD_lt ys by_
  unfold turned
  simp only [tnTo, zeros4, List.set_cons_zero, List.set_cons_succ, Nat.zero_add, Nat.reduceAdd, Nat.reduceMod, List.getD_cons_zero]
  rw [t _ (l 1), t _ (l 2), t _ (l 3), t _ (l 0)]
section
variable (key : List Nat) (hk : key.length = 16) (bk : ∀ x ∈ key, x < 256)
include hk bk
theorem wd_len (j : Nat) (hj : j < 44) : (wd key j).length = 4 := word_length _ _ (by rw [ex_len key hk bk 40 (by omega)]; omega)
theorem wd_lt (j : Nat) : ∀ x ∈ wd key j, x < 256 := word_lt _ _ (exTo_ok _ _ fresh_lt hk bk 40 (by omega)).2.1
theorem xp_lt (k : Nat) (h : k ≤ 40) : xp key k < 256 := (exTo_ok _ _ fresh_lt hk bk k h).2.2
theorem wd_key (j : Nat) (h : j < 4) : wd key j = [key.getD (4 * j) 0, key.getD (4 * j + 1) 0, key.getD (4 * j + 2) 0, key.getD (4 * j + 3) 0] := by
  have hw : wd key j = word key j := ex_key key hk bk j h
  have g : ∀ i, i < 4 → (word key j).getD i 0 = key.getD (4 * j + i) 0 := fun i hi => by unfold word; exact col_getD key j i hi
  rw [hw]
  exact four_ext _ (word_length _ _ (by omega)) _ _ _ _ (g 0 (by omega)) (g 1 (by omega)) (g 2 (by omega)) (g 3 (by omega))
theorem wd_plain (k : Nat) (h : k < 40) (hz : ¬ k % 4 = 0) : wd key (k + 4) = [(wd key k).getD 0 0 ^^^ (wd key (k + 3)).getD 0 0, (wd key k).getD 1 0 ^^^ (wd key (k + 3)).getD 1 0, (wd key k).getD 2 0 ^^^ (wd key (k + 3)).getD 2 0, (wd key k).getD 3 0 ^^^ (wd key (k + 3)).getD 3 0] := by
  have e := ex_word key hk bk k h
  have el : lastW fresh (exTo fresh key 40).1 (exTo fresh key k).2 k = wd key (k + 3) := by unfold lastW; rw [if_neg (by omega)]; rfl
  rw [el] at e
  have hl := wd_len key hk bk k (by omega)
  have e' : wd key (k + 4) = addTo (wd key k) (wd key (k + 3)) 4 := e
  rw [e']
  exact four_ext _ (by rw [addTo_length]; exact hl) _ _ _ _ (add4_getD _ _ 0 hl (by omega)) (add4_getD _ _ 1 hl (by omega)) (add4_getD _ _ 2 hl (by omega)) (add4_getD _ _ 3 hl (by omega))
theorem wd_turned (k : Nat) (h : k < 40) (hz : k % 4 = 0) : wd key (k + 4) = [(wd key k).getD 0 0 ^^^ (sub ((wd key (k + 3)).getD 1 0) ^^^ xp key k), (wd key k).getD 1 0 ^^^ sub ((wd key (k + 3)).getD 2 0), (wd key k).getD 2 0 ^^^ sub ((wd key (k + 3)).getD 3 0), (wd key k).getD 3 0 ^^^ sub ((wd key (k + 3)).getD 0 0)] := by
  have e := ex_word key hk bk k h
  have el : lastW fresh (exTo fresh key 40).1 (exTo fresh key k).2 k = turned fresh (wd key (k + 3)) (xp key k) := by unfold lastW; rw [if_pos (by omega)]; rfl
  rw [el, turned_four _ _ (wd_len key hk bk (k + 3) (by omega)) (wd_lt key hk bk (k + 3))] at e
  have hl := wd_len key hk bk k (by omega)
  have e' : wd key (k + 4) = addTo (wd key k) _ 4 := e
  rw [e']
  exact four_ext _ (by rw [addTo_length]; exact hl) _ _ _ _ (add4_getD _ _ 0 hl (by omega)) (add4_getD _ _ 1 hl (by omega)) (add4_getD _ _ 2 hl (by omega)) (add4_getD _ _ 3 hl (by omega))
end
theorem xp_zero (key : List Nat) : xp key 0 = 1 := by unfold xp; rw [exTo_zero]
theorem xp_same (key : List Nat) (k : Nat) (hz : ¬ k % 4 = 0) : xp key (k + 1) = xp key k := by
  unfold xp
  rw [exTo_succ]
  show nextP _ _ = _
  unfold nextP
  rw [if_neg (by omega)]
theorem xp_next (key : List Nat) (k : Nat) (hz : k % 4 = 0) : xp key (k + 1) = dbl (xp key k) := by
  unfold xp
  rw [exTo_succ]
  show nextP _ _ = _
  unfold nextP
  rw [if_pos (by omega)]
theorem times_x2 (a : Nat) (ha : a < 256) : times a 2 = dbl a := by
  have := (times_two a 1 ha (by omega)).1
  simpa [dbls] using this
end Go.Proofs.Ytmmfigdmdamnlab
