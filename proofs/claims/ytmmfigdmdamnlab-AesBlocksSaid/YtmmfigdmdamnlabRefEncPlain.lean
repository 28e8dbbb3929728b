/- What the document's cipher makes of a block, by the program's own words. No program is walked here. -/
import Derived.Test.YtmmfigdmdamnlabRefShift
namespace Go.Proofs.Ytmmfigdmdamnlab
open Go.RowKit
set_option linter.unusedVariables false

theorem rk_getD (key : List Nat) (hk : key.length = 16) (bk : ∀ x ∈ key, x < 256) (r i : Nat) (hr : r ≤ 10) (hi : i < 16) : (rk (cells key) r).getD i 0 = (wd key (4 * r + i / 4)).getD (i % 4) 0 := by
  have e := rounds_eq key hk bk
  have h1 : (rk (cells key) r).getD i 0 = ((cells key).take 176).getD (16 * r + i) 0 := by
    rw [rk_eq]
    simp only [List.getD_eq_getElem?_getD]
    rw [List.getElem?_take_of_lt hi, List.getElem?_drop, List.getElem?_take_of_lt (by omega)]
  rw [h1, e]
  unfold wd word
  rw [col_getD _ _ _ (Nat.mod_lt _ (by omega)), show 4 * (4 * r + i / 4) + i % 4 = 16 * r + i by omega]
theorem arTo_eq (key xs : List Nat) (hk : key.length = 16) (bk : ∀ x ∈ key, x < 256) (hx : xs.length = 16) (r : Nat) (hr : r ≤ 10) : arTo xs (wd key) r 16 = addTo xs (rk (cells key) r) 16 := by
  refine list_ext _ _ (arTo_length _ _ _ _) (by rw [addTo_length]; exact hx) fun i hi => ?_
  rw [addTo_getD _ _ i hx hi, rk_getD key hk bk r i hr hi]
  simp [arTo, List.getD_eq_getElem?_getD, hi]
/-- A block behind round n of ten. -/
def st (key bs : List Nat) (n : Nat) : List Nat := if n ≤ 9 then enTo (cells key) bs n else enc (cells key) bs
theorem st_ok (key bs : List Nat) (hk : key.length = 16) (bk : ∀ x ∈ key, x < 256) (hb : bs.length = 16) (bb : ∀ x ∈ bs, x < 256) (n : Nat) : (st key bs n).length = 16 ∧ ∀ x ∈ st key bs n, x < 256 := by
  unfold st
  split
  · exact enTo_ok _ _ (cells_length key hk bk) (cells_lt key hk bk) hb bb n (by omega)
  · exact enc_ok key bs hk bk hb bb
theorem st_zero (key bs : List Nat) (hk : key.length = 16) (bk : ∀ x ∈ key, x < 256) (hb : bs.length = 16) : arTo bs (wd key) 0 16 = st key bs 0 := by
  rw [arTo_eq key bs hk bk hb 0 (by omega)]
  unfold st
  rw [if_pos (by omega), enTo_zero]
theorem shR_ok (xs : List Nat) (key : List Nat) (hk : key.length = 16) (bk : ∀ x ∈ key, x < 256) (hx : xs.length = 16) (bx : ∀ x ∈ xs, x < 256) : ∀ x ∈ shR xs 16, x < 256 := by
  rw [shR_eq key xs hk bk hx bx]
  exact shTo_lt _ (stTo_lt _ _ (cells_lt key hk bk) bx 16) 16
theorem st_mid (key bs : List Nat) (hk : key.length = 16) (bk : ∀ x ∈ key, x < 256) (hb : bs.length = 16) (bb : ∀ x ∈ bs, x < 256) (n : Nat) (hn : n + 1 < 10) : arTo (mxTo (shR (st key bs n) 16) 16) (wd key) (n + 1) 16 = st key bs (n + 1) := by
  obtain ⟨h1, h2⟩ := st_ok key bs hk bk hb bb n
  rw [shR_eq key _ hk bk h1 h2, arTo_eq key _ hk bk (mxTo_length _ 16) (n + 1) (by omega)]
  unfold st
  rw [if_pos (by omega), if_pos (by omega), enTo_succ]
theorem st_last (key bs : List Nat) (hk : key.length = 16) (bk : ∀ x ∈ key, x < 256) (hb : bs.length = 16) (bb : ∀ x ∈ bs, x < 256) : arTo (shR (st key bs 9) 16) (wd key) 10 16 = st key bs 10 := by
  obtain ⟨h1, h2⟩ := st_ok key bs hk bk hb bb 9
  rw [shR_eq key _ hk bk h1 h2, arTo_eq key _ hk bk (shTo_length _ 16) 10 (by omega)]
  unfold st
  rw [if_pos (by omega), if_neg (by omega), enc_eq]
end Go.Proofs.Ytmmfigdmdamnlab
