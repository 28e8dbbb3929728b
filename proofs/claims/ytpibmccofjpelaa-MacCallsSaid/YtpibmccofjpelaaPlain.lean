/- Plain arithmetic of bytes: the number that bytes are, and the bytes of a number. No program is spoken of here. -/
import Derived.Laws.BitsAllLaws
import Derived.Laws.BitsLemmas
namespace Go.Proofs.Ytpibmccofjpelaa

/-- The number that bytes are, the least weight first. -/
def le : List Nat → Nat
  | [] => 0
  | x :: r => x + 256 * le r

/-- The k bytes of v of the least weight. -/
def nb (v : Nat) : Nat → List Nat
  | 0 => []
  | k + 1 => (v % 256) :: nb (v / 256) k

theorem le_lt (xs : List Nat) (h : ∀ x ∈ xs, x < 256) : le xs < 256 ^ xs.length := by
  induction xs with
  | nil => simp [le]
  | cons x r ih =>
    have h1 := h x (by simp)
    have h2 := ih (fun y hy => h y (by simp [hy]))
    simp only [le, List.length_cons, Nat.pow_succ]
    omega
theorem le_append (xs ys : List Nat) : le (xs ++ ys) = le xs + 256 ^ xs.length * le ys := by
  induction xs with
  | nil => simp [le]
  | cons x r ih => simp only [List.cons_append, le, ih, List.length_cons, Nat.pow_succ, Nat.mul_add]; rw [show 256 ^ r.length * 256 * le ys = 256 * (256 ^ r.length * le ys) by rw [Nat.mul_comm (256 ^ r.length) 256, Nat.mul_assoc]]; omega
theorem le_take_succ (xs : List Nat) (k : Nat) (h : k < xs.length) : le (xs.take (k + 1)) = le (xs.take k) + xs.getD k 0 * 256 ^ k := by
  rw [List.take_succ_eq_append_getElem h, le_append]
  simp only [le, List.length_take]
  rw [Nat.min_eq_left (by omega), List.getD_eq_getElem?_getD, List.getElem?_eq_getElem h]
  simp [Nat.mul_comm]
theorem le_take_lt (xs : List Nat) (k : Nat) (h : ∀ x ∈ xs, x < 256) : le (xs.take k) < 256 ^ k := by
  have h1 := le_lt (xs.take k) (fun x hx => h x (List.mem_of_mem_take hx))
  have h2 : 256 ^ (xs.take k).length ≤ 256 ^ k := Nat.pow_le_pow_right (by omega) (by simp; omega)
  omega
theorem pow_2_8 (k : Nat) : 2 ^ (8 * k) = 256 ^ k := by rw [Nat.pow_mul]
theorem or_byte (v u k : Nat) (hv : v < 256 ^ k) (hu : u < 256) (hk : k < 8) :
    bits .or .u64 (v : Int) (IntKind.u64.wrap ((u : Int) * 2 ^ (8 * k))) = ((v + u * 256 ^ k : Nat) : Int) := by
  have h1 : (256 : Nat) ^ k * 256 ≤ 256 ^ 8 := by rw [← Nat.pow_succ]; exact Nat.pow_le_pow_right (by omega) (by omega)
  have h2 : u * 256 ^ k ≤ 255 * 256 ^ k := Nat.mul_le_mul_right _ (by omega)
  have e : ((u : Int) * 2 ^ (8 * k)) = ((u * 256 ^ k : Nat) : Int) := by rw [← pow_2_8]; simp
  have h8 : (256 : Nat) ^ 8 = 18446744073709551616 := by decide
  have hw : IntKind.u64.wrap ((u * 256 ^ k : Nat) : Int) = ((u * 256 ^ k : Nat) : Int) := by
    simp [IntKind.wrap, IntKind.bits, IntKind.signed]
    rw [show ((u : Int) * 256 ^ k) = ((u * 256 ^ k : Nat) : Int) by simp]; omega
  rw [e, hw, u64_or_nat v (u * 256 ^ k) (by omega) (by omega)]
  congr 1
  rw [Nat.or_comm, nat_join (8 * k) (u * 256 ^ k) v (by rw [pow_2_8]; exact Nat.mul_mod_left _ _) (by rw [pow_2_8]; exact hv)]
  omega
theorem nb_length (v k : Nat) : (nb v k).length = k := by
  induction k generalizing v with
  | zero => rfl
  | succ k ih => simp [nb, ih]
theorem nb_lt (v k : Nat) : ∀ x ∈ nb v k, x < 256 := by
  induction k generalizing v with
  | zero => simp [nb]
  | succ k ih =>
    intro x hx
    simp only [nb, List.mem_cons] at hx
    rcases hx with rfl | hx
    · omega
    · exact ih _ x hx
theorem nb_succ (v k : Nat) : nb v (k + 1) = nb v k ++ [v / 256 ^ k % 256] := by
  induction k generalizing v with
  | zero => simp [nb]
  | succ k ih => rw [nb, ih, nb, List.cons_append, Nat.div_div_eq_div_mul, Nat.pow_succ, Nat.mul_comm]
theorem le_nb (v k : Nat) : le (nb v k) = v % 256 ^ k := by
  induction k generalizing v with
  | zero => simp [nb, le, Nat.mod_one]
  | succ k ih =>
    simp only [nb, le, ih]
    rw [Nat.pow_succ, Nat.mul_comm (256 ^ k) 256, Nat.mod_mul]
theorem nb_take (v k m : Nat) : (nb v k).take m = nb v (min k m) := by
  induction k generalizing v m with
  | zero => simp [nb]
  | succ k ih =>
    cases m with
    | zero => simp [nb]
    | succ m => simp only [nb, List.take_succ_cons, ih, Nat.add_min_add_right]

/-- A byte with the bit j made d. -/
def newByte (u j d : Nat) : Nat := (u &&& (255 - 2 ^ j)) ||| (d * 2 ^ j)

theorem mask_bit (j i : Nat) (hj : j < 8) : (255 - 2 ^ j).testBit i = (decide (i < 8) && decide (i ≠ j)) := by
  by_cases hi : i < 8
  · have : ∀ j, j < 8 → ∀ i, i < 8 → (255 - 2 ^ j).testBit i = (decide (i < 8) && decide (i ≠ j)) := by decide
    exact this j hj i hi
  · have h1 : 255 - 2 ^ j < 2 ^ i := Nat.lt_of_lt_of_le (Nat.lt_of_le_of_lt (Nat.sub_le _ _) (by decide) : 255 - 2 ^ j < 2 ^ 8) (Nat.pow_le_pow_right (by omega) (by omega))
    rw [Nat.testBit_lt_two_pow h1]
    simp [hi]
theorem newByte_bit (u j d i : Nat) (hu : u < 256) (hj : j < 8) (hd : d < 2) : (newByte u j d).testBit i = if i = j then decide (d = 1) else u.testBit i := by
  unfold newByte
  rw [Nat.testBit_or, Nat.testBit_and, mask_bit j i hj]
  have hd' : d = 0 ∨ d = 1 := by omega
  have hhi : ¬ i < 8 → u.testBit i = false := fun h => Nat.testBit_lt_two_pow (Nat.lt_of_lt_of_le (by omega : u < 2 ^ 8) (Nat.pow_le_pow_right (by omega) (by omega)))
  rcases hd' with rfl | rfl
  · by_cases e : i = j
    · simp [e]
    · by_cases h : i < 8
      · simp [e, h]
      · simp [e, h, hhi h]
  · rw [Nat.one_mul, Nat.testBit_two_pow]
    by_cases e : i = j
    · simp [e]
    · have e' : ¬ j = i := fun h => e h.symm
      by_cases h : i < 8
      · simp [e, e', h]
      · simp [e, e', h, hhi h]
theorem newByte_lt (u j d : Nat) (hu : u < 256) (hj : j < 8) (hd : d < 2) : newByte u j d < 256 := by
  unfold newByte
  have h1 : u &&& (255 - 2 ^ j) < 2 ^ 8 := Nat.lt_of_le_of_lt Nat.and_le_left (by omega)
  have h2 : d * 2 ^ j < 2 ^ 8 := by
    have : 2 ^ j ≤ 2 ^ 7 := Nat.pow_le_pow_right (by omega) (by omega)
    have hd' : d = 0 ∨ d = 1 := by omega
    rcases hd' with rfl | rfl <;> simp <;> omega
  exact Nat.or_lt_two_pow h1 h2
theorem newByte_of (u j d : Nat) (hu : u < 256) (hj : j < 8) (hd : d < 2) :
    bits .or .u8 (bits .andNot .u8 (u : Int) (2 ^ j % 256)) ((d : Int) * 2 ^ j % 256) = ((newByte u j d : Nat) : Int) := by
  have hp : 2 ^ j ≤ 2 ^ 7 := Nat.pow_le_pow_right (by omega) (by omega)
  have hd' : d = 0 ∨ d = 1 := by omega
  have h2 : d * 2 ^ j < 256 := by rcases hd' with rfl | rfl <;> simp <;> omega
  have e1 : ((2 : Int) ^ j % 256) = ((2 ^ j : Nat) : Int) := by
    rw [show ((2 : Int) ^ j) = ((2 ^ j : Nat) : Int) by simp]
    generalize 2 ^ j = p at hp ⊢
    omega
  have e2 : ((d : Int) * 2 ^ j % 256) = ((d * 2 ^ j : Nat) : Int) := by
    rw [show ((d : Int) * 2 ^ j) = ((d * 2 ^ j : Nat) : Int) by simp]; omega
  have h1 : u &&& (255 - 2 ^ j) < 256 := Nat.lt_of_le_of_lt Nat.and_le_left (by omega)
  rw [e1, e2, u8_andNot_nat u (2 ^ j) hu (by omega), u8_or_nat _ _ h1 h2]
  rfl

/-- The bit k of bytes. -/
def bitAt (xs : List Nat) (k : Nat) : Bool := (xs.getD (k / 8) 0).testBit (k % 8)
/-- Bytes with the bit k made d. -/
def setBit (xs : List Nat) (k d : Nat) : List Nat := xs.set (k / 8) (newByte (xs.getD (k / 8) 0) (k % 8) d)

theorem getD_set (xs : List Nat) (i j b : Nat) (hi : i < xs.length) : (xs.set i b).getD j 0 = if i = j then b else xs.getD j 0 := by
  simp only [List.getD_eq_getElem?_getD, List.getElem?_set]
  by_cases e : i = j
  · subst e; simp [hi]
  · simp [e]
theorem getD_lt (xs : List Nat) (h : ∀ x ∈ xs, x < 256) (k : Nat) : xs.getD k 0 < 256 := by
  rw [List.getD_eq_getElem?_getD]
  by_cases hk : k < xs.length
  · rw [List.getElem?_eq_getElem hk]; exact h _ (List.getElem_mem hk)
  · rw [List.getElem?_eq_none (by omega)]; simp
theorem bitAt_setBit (xs : List Nat) (k d i : Nat) (h : ∀ x ∈ xs, x < 256) (hk : k < 8 * xs.length) (hd : d < 2) : bitAt (setBit xs k d) i = if i = k then decide (d = 1) else bitAt xs i := by
  unfold bitAt setBit
  rw [getD_set _ _ _ _ (by omega)]
  by_cases e : k / 8 = i / 8
  · rw [if_pos e, newByte_bit _ _ _ _ (getD_lt xs h _) (by omega) hd, e]
    by_cases e2 : i = k
    · subst e2; simp
    · rw [if_neg (by omega), if_neg e2]
  · rw [if_neg e, if_neg (by omega)]
theorem setBit_length (xs : List Nat) (k d : Nat) : (setBit xs k d).length = xs.length := by simp [setBit]
theorem setBit_lt (xs : List Nat) (k d : Nat) (h : ∀ x ∈ xs, x < 256) (hd : d < 2) : ∀ x ∈ setBit xs k d, x < 256 := by
  intro x hx
  rcases List.mem_or_eq_of_mem_set hx with hx | rfl
  · exact h x hx
  · exact newByte_lt _ _ _ (getD_lt xs h _) (by omega) hd
theorem bits_ext (xs ys : List Nat) (hl : xs.length = ys.length) (hx : ∀ x ∈ xs, x < 256) (hy : ∀ x ∈ ys, x < 256) (h : ∀ k, k < 8 * xs.length → bitAt xs k = bitAt ys k) : xs = ys := by
  refine List.ext_getElem hl fun i hi hj => ?_
  refine Nat.eq_of_testBit_eq fun t => ?_
  by_cases ht : t < 8
  · have := h (8 * i + t) (by omega)
    unfold bitAt at this
    rw [show (8 * i + t) / 8 = i by omega, show (8 * i + t) % 8 = t by omega] at this
    simpa [List.getD_eq_getElem?_getD, hi, hj] using this
  · have h2 : (2 : Nat) ^ 8 ≤ 2 ^ t := Nat.pow_le_pow_right (by omega) (by omega)
    have h3 := hx _ (List.getElem_mem hi)
    have h4 := hy _ (List.getElem_mem hj)
    rw [Nat.testBit_lt_two_pow (by omega), Nat.testBit_lt_two_pow (by omega)]

/-- The bit k of bytes, as a number. -/
def bitN (xs : List Nat) (k : Nat) : Nat := xs.getD (k / 8) 0 / 2 ^ (k % 8) % 2
/-- The number that the k bits of bytes at a place are. -/
def getN (xs : List Nat) (a : Nat) : Nat → Nat
  | 0 => 0
  | k + 1 => getN xs a k + bitN xs (a + k) * 2 ^ k
/-- Bytes, the first k bits of v put at a place. -/
def putN (xs : List Nat) (a v : Nat) : Nat → List Nat
  | 0 => xs
  | k + 1 => setBit (putN xs a v k) (a + k) (v / 2 ^ k % 2)

theorem bitN_lt (xs : List Nat) (k : Nat) : bitN xs k < 2 := by unfold bitN; omega
theorem bitN_bitAt (xs : List Nat) (k : Nat) : decide (bitN xs k = 1) = bitAt xs k := by
  unfold bitN bitAt
  rw [Nat.testBit_eq_decide_div_mod_eq]
theorem getN_lt (xs : List Nat) (a k : Nat) : getN xs a k < 2 ^ k := by
  induction k with
  | zero => simp [getN]
  | succ k ih =>
    have h := bitN_lt xs (a + k)
    have h2 : bitN xs (a + k) = 0 ∨ bitN xs (a + k) = 1 := by omega
    simp only [getN, Nat.pow_succ]
    rcases h2 with h2 | h2 <;> rw [h2] <;> omega
theorem getN_bit (xs : List Nat) (a k i : Nat) : (getN xs a k).testBit i = (decide (i < k) && bitAt xs (a + i)) := by
  induction k with
  | zero => simp [getN]
  | succ k ih =>
    have hlt := getN_lt xs a k
    rw [getN, Nat.add_comm, Nat.mul_comm, Nat.testBit_two_pow_mul_add _ hlt]
    by_cases h : i < k
    · rw [if_pos h, ih]; simp [h]; intro _; omega
    · rw [if_neg h]
      by_cases e : i = k
      · subst e
        rw [Nat.sub_self, ← bitN_bitAt, Nat.testBit_zero]
        have := bitN_lt xs (a + i)
        rw [Nat.mod_eq_of_lt this]; simp
      · have h1 : bitN xs (a + k) < 2 ^ (i - k) := Nat.lt_of_lt_of_le (bitN_lt xs (a + k)) (by
          have : 2 ^ 1 ≤ 2 ^ (i - k) := Nat.pow_le_pow_right (by omega) (by omega)
          omega)
        rw [Nat.testBit_lt_two_pow h1]
        simp; intro h3; omega
theorem putN_length (xs : List Nat) (a v k : Nat) : (putN xs a v k).length = xs.length := by
  induction k with
  | zero => rfl
  | succ k ih => rw [putN, setBit_length, ih]
theorem putN_lt (xs : List Nat) (a v k : Nat) (h : ∀ x ∈ xs, x < 256) : ∀ x ∈ putN xs a v k, x < 256 := by
  induction k with
  | zero => exact h
  | succ k ih => exact setBit_lt _ _ _ ih (by omega)
theorem putN_bit (xs : List Nat) (a v k i : Nat) (h : ∀ x ∈ xs, x < 256) (hk : a + k ≤ 8 * xs.length) :
    bitAt (putN xs a v k) i = if a ≤ i ∧ i < a + k then v.testBit (i - a) else bitAt xs i := by
  induction k with
  | zero => rw [putN, if_neg (by omega)]
  | succ k ih =>
    rw [putN, bitAt_setBit _ _ _ _ (putN_lt xs a v k h) (by rw [putN_length]; omega) (by omega), ih (by omega)]
    by_cases e : i = a + k
    · rw [if_pos e, if_pos (by omega), Nat.testBit_eq_decide_div_mod_eq, e, Nat.add_sub_cancel_left]
    · rw [if_neg e]
      by_cases h2 : a ≤ i ∧ i < a + k
      · rw [if_pos h2, if_pos (by omega)]
      · rw [if_neg h2, if_neg (by omega)]
theorem or_bit (v d k : Nat) (hv : v < 2 ^ k) (hd : d < 2) (hk : k < 64) :
    bits .or .u64 (v : Int) (IntKind.u64.wrap ((d : Int) * 2 ^ k)) = ((v + d * 2 ^ k : Nat) : Int) := by
  have h1 : (2 : Nat) ^ k * 2 ≤ 2 ^ 64 := by rw [← Nat.pow_succ]; exact Nat.pow_le_pow_right (by omega) (by omega)
  have h2 : d * 2 ^ k ≤ 1 * 2 ^ k := Nat.mul_le_mul_right _ (by omega)
  have e : ((d : Int) * 2 ^ k) = ((d * 2 ^ k : Nat) : Int) := by simp
  have h8 : (2 : Nat) ^ 64 = 18446744073709551616 := by decide
  have hp : 0 < 2 ^ k := Nat.pow_pos (by omega)
  have hw : IntKind.u64.wrap ((d * 2 ^ k : Nat) : Int) = ((d * 2 ^ k : Nat) : Int) := by
    generalize d * 2 ^ k = y at *
    simp [IntKind.wrap, IntKind.bits, IntKind.signed]
    omega
  rw [e, hw, u64_or_nat v (d * 2 ^ k) (by omega) (by omega)]
  congr 1
  rw [Nat.or_comm, nat_join k (d * 2 ^ k) v (Nat.mul_mod_left _ _) hv]
  omega
theorem putN_getN (xs : List Nat) (a k : Nat) (h : ∀ x ∈ xs, x < 256) (hk : a + k ≤ 8 * xs.length) : putN xs a (getN xs a k) k = xs := by
  refine bits_ext _ _ (putN_length _ _ _ _) (putN_lt xs a _ k h) h fun i _ => ?_
  rw [putN_bit xs a _ k i h hk]
  by_cases hi : a ≤ i ∧ i < a + k
  · rw [if_pos hi, getN_bit, show a + (i - a) = i by omega]
    simp; intro _; omega
  · rw [if_neg hi]
theorem getN_putN (xs : List Nat) (a k v : Nat) (h : ∀ x ∈ xs, x < 256) (hk : a + k ≤ 8 * xs.length) (hv : v < 2 ^ k) : getN (putN xs a v k) a k = v := by
  refine Nat.eq_of_testBit_eq fun i => ?_
  rw [getN_bit, putN_bit xs a _ k _ h hk]
  by_cases hi : i < k
  · rw [if_pos (by omega), show a + i - a = i by omega]; simp [hi]
  · have : v < 2 ^ i := Nat.lt_of_lt_of_le hv (Nat.pow_le_pow_right (by omega) (by omega))
    rw [Nat.testBit_lt_two_pow this]; simp [hi]
theorem getN_beside (xs : List Nat) (a k v o m : Nat) (h : ∀ x ∈ xs, x < 256) (hk : a + k ≤ 8 * xs.length) (hb : o + m ≤ a ∨ a + k ≤ o) : getN (putN xs a v k) o m = getN xs o m := by
  refine Nat.eq_of_testBit_eq fun i => ?_
  rw [getN_bit, getN_bit, putN_bit xs a _ k _ h hk]
  by_cases hi : i < m
  · rw [if_neg (by omega)]
  · simp [hi]
end Go.Proofs.Ytpibmccofjpelaa
