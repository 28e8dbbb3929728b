/- Seeds and their blocks; lines and their pads: plain facts. No program is walked here. -/
import Derived.Test.YtfbgpfiodgibbaaPCross
import Derived.Test.YtfbgpfiodgibbaaAInj
namespace Go.Proofs.Ytfbgpfiodgibbaa
open Go.RowKit
set_option linter.unusedVariables false
set_option linter.unusedSimpArgs false

theorem nb_inj (v u k : Nat) : U.nb v k = U.nb u k ↔ v % 256 ^ k = u % 256 ^ k := by
  constructor
  · intro h
    rw [← U.le_nb, ← U.le_nb, h]
  · intro h
    induction k generalizing v u with
    | zero => rfl
    | succ k ih =>
      have e : 256 ^ (k + 1) = 256 * 256 ^ k := by rw [Nat.pow_succ, Nat.mul_comm]
      rw [e, Nat.mod_mul, Nat.mod_mul] at h
      have h1 : v % 256 = u % 256 := by omega
      have h2 : v / 256 % 256 ^ k = u / 256 % 256 ^ k := by omega
      rw [U.nb, U.nb, h1, ih _ _ h2]
theorem append_iff {α : Type} {a b c d : List α} (h : a.length = b.length) : a ++ c = b ++ d ↔ a = b ∧ c = d :=
  ⟨fun e => List.append_inj e h, fun ⟨e1, e2⟩ => by rw [e1, e2]⟩
theorem uN_mod4 (v u : Int) : U.nb (uN v) 4 = U.nb (uN u) 4 ↔ v % 4294967296 = u % 4294967296 := by
  rw [nb_inj]
  unfold uN
  constructor <;> intro h <;> omega
theorem uN_mod2 (v u : Int) : U.nb (uN v) 2 = U.nb (uN u) 2 ↔ v % 65536 = u % 65536 := by
  rw [nb_inj]
  unfold uN
  constructor <;> intro h <;> omega
theorem uN_mod1 (v u : Int) : U.nb (uN v) 1 = U.nb (uN u) 1 ↔ v % 256 = u % 256 := by
  rw [nb_inj]
  unfold uN
  constructor <;> intro h <;> omega
theorem nb8 {v u : Nat} (hv : v < 18446744073709551616) (hu : u < 18446744073709551616) : U.nb v 8 = U.nb u 8 ↔ v = u := by
  rw [nb_inj]
  constructor <;> intro h <;> omega
/-- All that fits of two seeds is one. -/
def oneS (s t : Sd) : Bool := decide (s.l % 4294967296 = t.l % 4294967296) && (decide (s.M = t.M) && (decide (s.m % 65536 = t.m % 65536) && decide (s.b % 256 = t.b % 256)))
theorem sb_iff {s t : Sd} (hs : s.Ok) (ht : t.Ok) : decide (sb s = sb t) = oneS s t := by
  have h : sb s = sb t ↔ (s.l % 4294967296 = t.l % 4294967296 ∧ s.M = t.M ∧ s.m % 65536 = t.m % 65536 ∧ s.b % 256 = t.b % 256) := by
    unfold sb nums
    rw [append_iff (by simp [U.nb_length]), append_iff (by simp [U.nb_length]), append_iff (by simp [U.nb_length]), append_iff (by simp [U.nb_length]), uN_mod4, nb8 hs.M ht.M, uN_mod2, uN_mod1]
    simp [and_assoc]
  unfold oneS
  rw [Bool.eq_iff_iff]
  simp [h]
theorem pad_iff {key : List Nat} (hk : IsKey key) (s t : Sd) : padN key s = padN key t ↔ sb s = sb t :=
  ⟨fun h => A.enc_inj key _ _ hk.len hk.lt (sb_length s) (sb_length t) (sb_lt s) (sb_lt t) h, fun h => by unfold padN; rw [h]⟩
/-! ### Lines -/
theorem lay_getD (xs ys : List Nat) (o i : Nat) (ho : o + ys.length ≤ xs.length) : (lay xs ys o).getD i 0 = if o ≤ i ∧ i < o + ys.length then ys.getD (i - o) 0 else xs.getD i 0 := by
  unfold lay
  simp only [List.getD_eq_getElem?_getD]
  by_cases h1 : i < o
  · rw [if_neg (by omega), List.append_assoc, List.getElem?_append_left (by rw [List.length_take]; omega), List.getElem?_take_of_lt h1]
  · by_cases h2 : i < o + ys.length
    · rw [if_pos ⟨by omega, h2⟩, List.append_assoc, List.getElem?_append_right (by rw [List.length_take]; omega), List.getElem?_append_left (by rw [List.length_take]; omega), List.length_take, Nat.min_eq_left (by omega)]
    · rw [if_neg (by omega), List.getElem?_append_right (by rw [List.length_append, List.length_take]; omega), List.getElem?_drop, List.length_append, List.length_take, Nat.min_eq_left (by omega)]
      congr 2
      omega
theorem part_getD (xs : List Nat) (o n i : Nat) (h : i < n) : ((xs.drop o).take n).getD i 0 = xs.getD (o + i) 0 := by
  simp [List.getD_eq_getElem?_getD, List.getElem?_take_of_lt h, List.getElem?_drop]
theorem cr1_getD {key : List Nat} (hk : IsKey key) (l : Int) (M : Nat) (m : Int) {xs : List Nat} (hx : IsLine xs) (k : Fin 2) (i : Nat) :
    (cr1 key l M m xs k).getD i 0 = if 16 * k.val ≤ i ∧ i < 16 * k.val + 16 then xs.getD i 0 ^^^ (padN key (sdOf l M m k)).getD (i - 16 * k.val) 0 else xs.getD i 0 := by
  have h1 := cr1_len hk l M m hx k
  have h2 := k.isLt
  have h3 := hx.len
  unfold cr1
  rw [lay_getD _ _ _ _ (by rw [h1, h3]; omega), h1]
  by_cases h : 16 * k.val ≤ i ∧ i < 16 * k.val + 16
  · rw [if_pos h, if_pos h, U.xorL_getD _ _ _ (by rw [List.length_take, List.length_drop, h3]; omega) (by rw [(padN_ok hk _).1]; omega), part_getD _ _ _ _ (by omega)]
    congr 2
    omega
  · rw [if_neg h, if_neg h]
/-- The byte of the pads that a line's byte is crossed with. -/
def pdB (key : List Nat) (l : Int) (M : Nat) (m : Int) (i : Nat) : Nat := if i < 16 then (padN key (sdOf l M m 0)).getD i 0 else (padN key (sdOf l M m 1)).getD (i - 16) 0
theorem crL_eq (key : List Nat) (l : Int) (M : Nat) (m : Int) (xs : List Nat) : crL key l M m xs = cr1 key l M m (cr1 key l M m xs 0) 1 := by
  unfold crL crs two; rfl
theorem crL_getD {key : List Nat} (hk : IsKey key) (l : Int) (M : Nat) (m : Int) {xs : List Nat} (hx : IsLine xs) (i : Nat) (hi : i < 32) : (crL key l M m xs).getD i 0 = xs.getD i 0 ^^^ pdB key l M m i := by
  rw [crL_eq, cr1_getD hk l M m (cr1_ok hk l M m hx 0), cr1_getD hk l M m hx]
  unfold pdB
  have e0 : (0 : Fin 2).val = 0 := rfl
  have e1 : (1 : Fin 2).val = 1 := rfl
  rw [e0, e1]
  by_cases h : i < 16
  · rw [if_neg (by omega), if_pos (by omega), if_pos h]; rfl
  · rw [if_pos (by omega), if_neg (by omega), if_neg h]
theorem line_ext {xs ys : List Nat} (hx : IsLine xs) (hy : IsLine ys) (h : ∀ i, i < 32 → xs.getD i 0 = ys.getD i 0) : xs = ys := by
  refine List.ext_getElem (by rw [hx.len, hy.len]) fun i h1 h2 => ?_
  have := h i (by rw [hx.len] at h1; exact h1)
  simpa [List.getD_eq_getElem?_getD, List.getElem?_eq_getElem h1, List.getElem?_eq_getElem h2] using this
/-- What is enciphered is deciphered to what it was. -/
theorem crL_back {key : List Nat} (hk : IsKey key) (l : Int) (M : Nat) (m : Int) {xs : List Nat} (hx : IsLine xs) : crL key l M m (crL key l M m xs) = xs := by
  have h1 := crL_ok hk l M m hx
  refine line_ext (crL_ok hk l M m h1) hx fun i hi => ?_
  rw [crL_getD hk l M m h1 i hi, crL_getD hk l M m hx i hi, Nat.xor_assoc, Nat.xor_self, Nat.xor_zero]
/-- Two plain lines are unlike in the same bits as the enciphered ones. -/
theorem crL_bits {key : List Nat} (hk : IsKey key) (l : Int) (M : Nat) (m : Int) {xs ys : List Nat} (hx : IsLine xs) (hy : IsLine ys) (i : Nat) (hi : i < 32) : (crL key l M m xs).getD i 0 ^^^ (crL key l M m ys).getD i 0 = xs.getD i 0 ^^^ ys.getD i 0 := by
  rw [crL_getD hk l M m hx i hi, crL_getD hk l M m hy i hi]
  generalize xs.getD i 0 = a
  generalize ys.getD i 0 = b
  generalize pdB key l M m i = p
  rw [Nat.xor_assoc, Nat.xor_comm b p, ← Nat.xor_assoc p, Nat.xor_self, Nat.zero_xor]
theorem block_ext {xs ys : List Nat} (hx : xs.length = 16) (hy : ys.length = 16) (h : ∀ i, i < 16 → xs.getD i 0 = ys.getD i 0) : xs = ys := by
  refine List.ext_getElem (by rw [hx, hy]) fun i h1 h2 => ?_
  have := h i (by omega)
  simpa [List.getD_eq_getElem?_getD, List.getElem?_eq_getElem h1, List.getElem?_eq_getElem h2] using this
theorem xor_cancel {a b c : Nat} (h : a ^^^ b = a ^^^ c) : b = c := by
  have := congrArg (fun z => a ^^^ z) h
  simpa [← Nat.xor_assoc] using this
/-- Enciphered with unlike counters, or at unlike places, a line is unlike. -/
def oneC (l l' : Int) (M M' : Nat) (m m' : Int) : Bool := decide (l % 4294967296 = l' % 4294967296) && (decide (M = M') && decide (m % 65536 = m' % 65536))
theorem crL_iff {key : List Nat} (hk : IsKey key) {l l' m m' : Int} {M M' : Nat} (hl : I64 l) (hl' : I64 l') (hM : M < 18446744073709551616) (hM' : M' < 18446744073709551616) (hm : I64 m) (hm' : I64 m') {xs : List Nat} (hx : IsLine xs) :
    decide (crL key l' M' m' xs = crL key l M m xs) = oneC l l' M M' m m' := by
  have h : crL key l' M' m' xs = crL key l M m xs ↔ (l % 4294967296 = l' % 4294967296 ∧ M = M' ∧ m % 65536 = m' % 65536) := by
    have hp : ∀ k : Fin 2, padN key (sdOf l' M' m' k) = padN key (sdOf l M m k) ↔ (l % 4294967296 = l' % 4294967296 ∧ M = M' ∧ m % 65536 = m' % 65536) := fun k => by
      rw [pad_iff hk]
      have := sb_iff (sdOf_ok hl' hM' hm' k) (sdOf_ok hl hM hm k)
      rw [Bool.eq_iff_iff, decide_eq_true_eq] at this
      rw [this]
      unfold oneS sdOf
      simp only [Bool.and_eq_true, decide_eq_true_eq, and_true]
      exact ⟨fun ⟨a, b, c⟩ => ⟨a.symm, b.symm, c.symm⟩, fun ⟨a, b, c⟩ => ⟨a.symm, b.symm, c.symm⟩⟩
    constructor
    · intro h
      refine (hp 0).1 (block_ext (padN_ok hk _).1 (padN_ok hk _).1 fun i hi => ?_)
      have e := congrArg (fun z => z.getD i 0) h
      simp only [crL_getD hk l M m hx i (by omega), crL_getD hk l' M' m' hx i (by omega)] at e
      have := xor_cancel e
      unfold pdB at this
      rwa [if_pos hi, if_pos hi] at this
    · intro h
      refine line_ext (crL_ok hk _ _ _ hx) (crL_ok hk _ _ _ hx) fun i hi => ?_
      rw [crL_getD hk l M m hx i hi, crL_getD hk l' M' m' hx i hi]
      unfold pdB
      rw [(hp 0).2 h, (hp 1).2 h]
  unfold oneC
  rw [Bool.eq_iff_iff]
  simp [h]
end Go.Proofs.Ytfbgpfiodgibbaa
