/- Enciphering by a key keeps blocks apart, in plain numbers. No program is spoken of here. -/
import Derived.Test.YtfbgpfiodgibbaaAOpen
import Derived.Test.YtfbgpfiodgibbaaAField
namespace Go.Proofs.Ytfbgpfiodgibbaa.A
set_option linter.unusedVariables false

theorem getD_set2 (l : List Nat) (t x i : Nat) : (l.set t x).getD i 0 = if i = t ∧ t < l.length then x else l.getD i 0 := by
  simp only [List.getD_eq_getElem?_getD, List.getElem?_set]
  by_cases h : t = i
  · subst h
    by_cases h2 : t < l.length
    · simp [h2]
    · simp [h2]
  · rw [if_neg h, if_neg (by omega)]
theorem setTo_length (g : Nat → List Nat) (v : Nat → Nat) (h : ∀ t, g (t + 1) = (g t).set t (v t)) (n : Nat) : (g n).length = (g 0).length := by
  induction n with
  | zero => rfl
  | succ n ih => rw [h, List.length_set, ih]
theorem setTo_getD (g : Nat → List Nat) (v : Nat → Nat) (h : ∀ t, g (t + 1) = (g t).set t (v t)) (n i : Nat) (hi : i < (g 0).length) : (g n).getD i 0 = if i < n then v i else (g 0).getD i 0 := by
  induction n with
  | zero => rw [if_neg (by omega)]
  | succ n ih =>
    rw [h, getD_set2, setTo_length g v h, ih]
    by_cases e : i = n
    · rw [if_pos ⟨e, by omega⟩, if_pos (by omega), e]
    · rw [if_neg (by omega)]
      by_cases e2 : i < n
      · rw [if_pos e2, if_pos (by omega)]
      · rw [if_neg e2, if_neg (by omega)]
theorem list_ext (xs ys : List Nat) (hx : xs.length = 16) (hy : ys.length = 16) (h : ∀ i, i < 16 → xs.getD i 0 = ys.getD i 0) : xs = ys := by
  refine List.ext_getElem (by rw [hx, hy]) fun i h1 h2 => ?_
  have := h i (by omega)
  simpa [List.getD_eq_getElem?_getD, List.getElem?_eq_getElem h1, List.getElem?_eq_getElem h2] using this
theorem xor_cancel {a b k : Nat} (h : a ^^^ k = b ^^^ k) : a = b := by
  have := congrArg (· ^^^ k) h
  simpa [Nat.xor_assoc] using this

theorem addTo_free (xs ys : List Nat) (k i : Nat) (h : k ≤ i) : (addTo xs ys k).getD i 0 = xs.getD i 0 := by
  induction k with
  | zero => unfold addTo; rfl
  | succ k ih => rw [addTo, getD_set2, if_neg (by omega), ih (by omega)]
theorem addTo_getD (xs ys : List Nat) (i : Nat) (hx : xs.length = 16) (hi : i < 16) : (addTo xs ys 16).getD i 0 = xs.getD i 0 ^^^ ys.getD i 0 := by
  have z : addTo xs ys 0 = xs := by unfold addTo; rfl
  have := setTo_getD (addTo xs ys) (fun t => xs.getD t 0 ^^^ ys.getD t 0) (fun t => by rw [addTo, addTo_free xs ys t t (Nat.le_refl _)]) 16 i (by rw [z, hx]; exact hi)
  rw [this, if_pos hi]
theorem addTo_inj (xs ys ks : List Nat) (hx : xs.length = 16) (hy : ys.length = 16) (h : addTo xs ks 16 = addTo ys ks 16) : xs = ys := by
  refine list_ext xs ys hx hy fun i hi => ?_
  have e : (addTo xs ks 16).getD i 0 = (addTo ys ks 16).getD i 0 := by rw [h]
  rw [addTo_getD xs ks i hx hi, addTo_getD ys ks i hy hi] at e
  exact xor_cancel e
theorem shTo_getD (xs : List Nat) (i : Nat) (hi : i < 16) : (shTo xs 16).getD i 0 = xs.getD (from_ i) 0 := by
  have z : shTo xs 0 = zeros16 := by unfold shTo; rfl
  have := setTo_getD (shTo xs) (fun t => xs.getD (from_ t) 0) (fun t => by rw [shTo]) 16 i (by rw [z]; exact hi)
  rw [this, if_pos hi]
theorem from_onto : ∀ i, i < 16 → ∃ t, t < 16 ∧ from_ t = i := by decide +kernel
theorem shTo_inj (xs ys : List Nat) (hx : xs.length = 16) (hy : ys.length = 16) (h : shTo xs 16 = shTo ys 16) : xs = ys := by
  refine list_ext xs ys hx hy fun i hi => ?_
  obtain ⟨t, ht, rfl⟩ := from_onto i hi
  have e : (shTo xs 16).getD t 0 = (shTo ys 16).getD t 0 := by rw [h]
  rwa [shTo_getD xs t ht, shTo_getD ys t ht] at e
theorem stTo_getD (cs xs : List Nat) (i : Nat) (hx : xs.length = 16) (hi : i < 16) : (stTo cs xs 16).getD i 0 = cs.getD (176 + xs.getD i 0) 0 := by
  have z : stTo cs xs 0 = xs := by unfold stTo; rfl
  have := setTo_getD (stTo cs xs) (fun t => cs.getD (176 + xs.getD t 0) 0) (fun t => by rw [stTo]) 16 i (by rw [z, hx]; exact hi)
  rw [this, if_pos hi]
theorem tb_getD (v : Nat) (h : v < 256) : (tbTo 256).getD v 0 = sub v := by
  have z : (tbTo 0).length = 256 := tbTo_length 0
  have := setTo_getD tbTo sub (fun t => by rw [tbTo]) 256 v (by rw [z]; exact h)
  rw [this, if_pos h]
theorem cells_table (key : List Nat) (hk : key.length = 16) (bk : ∀ x ∈ key, x < 256) (v : Nat) (h : v < 256) : (cells key).getD (176 + v) 0 = sub v := by
  have hl := (exTo_ok _ _ fresh_lt hk bk 40 (by omega)).1
  rw [cells_eq key hk bk, ← tb_getD v h]
  simp only [List.getD_eq_getElem?_getD]
  rw [List.getElem?_append_right (by omega), hl, Nat.add_sub_cancel_left]
theorem sub_inj (a b : Nat) (ha : a < 256) (hb : b < 256) (h : sub a = sub b) : a = b := by
  rw [← (sub_fact a ha).1, ← (sub_fact b hb).1, h]
theorem stTo_inj (key xs ys : List Nat) (hk : key.length = 16) (bk : ∀ x ∈ key, x < 256) (hx : xs.length = 16) (hy : ys.length = 16) (bx : ∀ x ∈ xs, x < 256) (by_ : ∀ x ∈ ys, x < 256) (h : stTo (cells key) xs 16 = stTo (cells key) ys 16) : xs = ys := by
  refine list_ext xs ys hx hy fun i hi => ?_
  have e : (stTo (cells key) xs 16).getD i 0 = (stTo (cells key) ys 16).getD i 0 := by rw [h]
  rw [stTo_getD _ xs i hx hi, stTo_getD _ ys i hy hi, cells_table key hk bk _ (getD_lt xs bx i), cells_table key hk bk _ (getD_lt ys by_ i)] at e
  exact sub_inj _ _ (getD_lt xs bx i) (getD_lt ys by_ i) e
theorem mxTo_getD (xs : List Nat) (i : Nat) (hi : i < 16) : (mxTo xs 16).getD i 0 = mixed ((xs.drop (4 * (i / 4))).take 4) (i % 4) := by
  have z : mxTo xs 0 = zeros16 := by unfold mxTo; rfl
  have := setTo_getD (mxTo xs) (fun t => mixed ((xs.drop (4 * (t / 4))).take 4) (t % 4)) (fun t => by rw [mxTo]) 16 i (by rw [z]; exact hi)
  rw [this, if_pos hi]
/-- What a column is, behind its mixing. -/
def mx1 (a b c d : Nat) : Nat := dbl a ^^^ dbl b ^^^ b ^^^ c ^^^ d
def unmx (p q r s : Nat) : Nat := times 14 p ^^^ times 11 q ^^^ times 13 r ^^^ times 9 s
theorem unmx_facts : ((List.range 256).all fun a => (times 14 (dbl a) ^^^ times 11 a ^^^ times 13 a ^^^ times 9 (dbl a) ^^^ times 9 a == a) && (times 14 (dbl a) ^^^ times 14 a ^^^ times 11 (dbl a) ^^^ times 13 a ^^^ times 9 a == 0) && (times 14 a ^^^ times 11 (dbl a) ^^^ times 11 a ^^^ times 13 (dbl a) ^^^ times 9 a == 0) && (times 14 a ^^^ times 11 a ^^^ times 13 (dbl a) ^^^ times 13 a ^^^ times 9 (dbl a) == 0)) = true := by decide +kernel
theorem unmx_mx (a b c d : Nat) (ha : a < 256) (hb : b < 256) (hc : c < 256) (hd : d < 256) : unmx (mx1 a b c d) (mx1 b c d a) (mx1 c d a b) (mx1 d a b c) = a := by
  have f := fun a (h : a < 256) => by
    have := List.all_eq_true.1 unmx_facts a (List.mem_range.2 h)
    simp only [Bool.and_eq_true, beq_iff_eq] at this
    exact this
  have e : unmx (mx1 a b c d) (mx1 b c d a) (mx1 c d a b) (mx1 d a b c) = (times 14 (dbl a) ^^^ times 11 a ^^^ times 13 a ^^^ times 9 (dbl a) ^^^ times 9 a) ^^^ (times 14 (dbl b) ^^^ times 14 b ^^^ times 11 (dbl b) ^^^ times 13 b ^^^ times 9 b) ^^^ (times 14 c ^^^ times 11 (dbl c) ^^^ times 11 c ^^^ times 13 (dbl c) ^^^ times 9 c) ^^^ (times 14 d ^^^ times 11 d ^^^ times 13 (dbl d) ^^^ times 13 d ^^^ times 9 (dbl d)) := by
    unfold unmx mx1
    simp only [times_xor]
    ac_rfl
  rw [e, (f a ha).1.1.1, (f b hb).1.1.2, (f c hc).1.2, (f d hd).2]
  simp
theorem col_getD (xs : List Nat) (c j : Nat) (h : j < 4) : ((xs.drop (4 * c)).take 4).getD j 0 = xs.getD (4 * c + j) 0 := by
  simp [List.getD_eq_getElem?_getD, List.getElem?_take_of_lt h, List.getElem?_drop]
theorem unmixed (l : List Nat) (hl : ∀ x ∈ l, x < 256) (r : Nat) (hr : r < 4) : unmx (mixed l r) (mixed l ((r + 1) % 4)) (mixed l ((r + 2) % 4)) (mixed l ((r + 3) % 4)) = l.getD r 0 := by
  have g := getD_lt l hl
  rcases (by omega : r = 0 ∨ r = 1 ∨ r = 2 ∨ r = 3) with rfl | rfl | rfl | rfl
  · exact unmx_mx _ _ _ _ (g 0) (g 1) (g 2) (g 3)
  · exact unmx_mx _ _ _ _ (g 1) (g 2) (g 3) (g 0)
  · exact unmx_mx _ _ _ _ (g 2) (g 3) (g 0) (g 1)
  · exact unmx_mx _ _ _ _ (g 3) (g 0) (g 1) (g 2)
theorem mxTo_inj (xs ys : List Nat) (hx : xs.length = 16) (hy : ys.length = 16) (bx : ∀ x ∈ xs, x < 256) (by_ : ∀ x ∈ ys, x < 256) (h : mxTo xs 16 = mxTo ys 16) : xs = ys := by
  refine list_ext xs ys hx hy fun i hi => ?_
  have m : ∀ r, r < 4 → mixed ((xs.drop (4 * (i / 4))).take 4) r = mixed ((ys.drop (4 * (i / 4))).take 4) r := fun r hr => by
    have e : (mxTo xs 16).getD (4 * (i / 4) + r) 0 = (mxTo ys 16).getD (4 * (i / 4) + r) 0 := by rw [h]
    rw [mxTo_getD xs _ (by omega), mxTo_getD ys _ (by omega), show (4 * (i / 4) + r) / 4 = i / 4 by omega, show (4 * (i / 4) + r) % 4 = r by omega] at e
    exact e
  have cb : ∀ zs : List Nat, (∀ x ∈ zs, x < 256) → ∀ x ∈ (zs.drop (4 * (i / 4))).take 4, x < 256 := fun zs hz x hx => hz x (List.mem_of_mem_drop (List.mem_of_mem_take hx))
  have ux := unmixed _ (cb xs bx) (i % 4) (by omega)
  have uy := unmixed _ (cb ys by_) (i % 4) (by omega)
  rw [col_getD xs _ _ (by omega), show 4 * (i / 4) + i % 4 = i by omega] at ux
  rw [col_getD ys _ _ (by omega), show 4 * (i / 4) + i % 4 = i by omega] at uy
  rw [← ux, ← uy, m _ (by omega), m _ (by omega), m _ (by omega), m _ (by omega)]
theorem enTo_inj (key xs ys : List Nat) (hk : key.length = 16) (bk : ∀ x ∈ key, x < 256) (hx : xs.length = 16) (hy : ys.length = 16) (bx : ∀ x ∈ xs, x < 256) (by_ : ∀ x ∈ ys, x < 256) (k : Nat) (h9 : k ≤ 9) (h : enTo (cells key) xs k = enTo (cells key) ys k) : xs = ys := by
  have cl := cells_length key hk bk
  have cb := cells_lt key hk bk
  induction k with
  | zero => rw [enTo_zero, enTo_zero] at h; exact addTo_inj _ _ _ hx hy h
  | succ k ih =>
    rw [enTo_succ, enTo_succ] at h
    obtain ⟨l1, b1⟩ := enTo_ok (cells key) xs cl cb hx bx k (by omega)
    obtain ⟨l2, b2⟩ := enTo_ok (cells key) ys cl cb hy by_ k (by omega)
    have s1 := stTo_lt (cells key) _ cb b1 16
    have s2 := stTo_lt (cells key) _ cb b2 16
    have h1 := addTo_inj _ _ _ (mxTo_length _ _) (mxTo_length _ _) h
    have h2 := mxTo_inj _ _ (shTo_length _ _) (shTo_length _ _) (shTo_lt _ s1 16) (shTo_lt _ s2 16) h1
    have h3 := shTo_inj _ _ ((stTo_length _ _ _).trans l1) ((stTo_length _ _ _).trans l2) h2
    exact ih (by omega) (stTo_inj key _ _ hk bk l1 l2 b1 b2 h3)
theorem enc_eq (cs bs : List Nat) : enc cs bs = addTo (shTo (stTo cs (enTo cs bs 9) 16) 16) (rk cs 10) 16 := by unfold enc; rfl
theorem enc_inj (key xs ys : List Nat) (hk : key.length = 16) (bk : ∀ x ∈ key, x < 256) (hx : xs.length = 16) (hy : ys.length = 16) (bx : ∀ x ∈ xs, x < 256) (by_ : ∀ x ∈ ys, x < 256) (h : enc (cells key) xs = enc (cells key) ys) : xs = ys := by
  have cl := cells_length key hk bk
  have cb := cells_lt key hk bk
  rw [enc_eq, enc_eq] at h
  obtain ⟨l1, b1⟩ := enTo_ok (cells key) xs cl cb hx bx 9 (by omega)
  obtain ⟨l2, b2⟩ := enTo_ok (cells key) ys cl cb hy by_ 9 (by omega)
  have h1 := addTo_inj _ _ _ (shTo_length _ _) (shTo_length _ _) h
  have h3 := shTo_inj _ _ ((stTo_length _ _ _).trans l1) ((stTo_length _ _ _).trans l2) h1
  exact enTo_inj key xs ys hk bk hx hy bx by_ 9 (by omega) (stTo_inj key _ _ hk bk l1 l2 b1 b2 h3)
theorem enc_ok (key xs : List Nat) (hk : key.length = 16) (bk : ∀ x ∈ key, x < 256) (hx : xs.length = 16) (bx : ∀ x ∈ xs, x < 256) : (enc (cells key) xs).length = 16 ∧ ∀ x ∈ enc (cells key) xs, x < 256 := by
  have cl := cells_length key hk bk
  have cb := cells_lt key hk bk
  obtain ⟨l1, b1⟩ := enTo_ok (cells key) xs cl cb hx bx 9 (by omega)
  rw [enc_eq]
  exact ⟨(addTo_length _ _ _).trans (shTo_length _ _), addTo_lt _ _ (shTo_lt _ (stTo_lt _ _ cb b1 16) 16) (rk_lt _ _ cb) 16⟩
end Go.Proofs.Ytfbgpfiodgibbaa.A
