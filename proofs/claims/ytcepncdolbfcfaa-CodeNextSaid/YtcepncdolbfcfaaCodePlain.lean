/- Plain facts on nodes' tags, messages and counters' bytes. No statement is proved here. -/
import Derived.Test.YtcepncdolbfcfaaSpeaksW
namespace Go.Proofs.Ytcepncdolbfcfaa
open Go.RowKit
set_option linter.unusedVariables false
set_option linter.unusedSimpArgs false

theorem pow8 : (256 : Nat) ^ 8 = 18446744073709551616 := by decide
theorem le_nb8 (v : Nat) (hv : v < 18446744073709551616) : le (nb v 8) = v := by rw [le_nb, pow8, Nat.mod_eq_of_lt hv]
theorem withN_line {xs : List Nat} (h : IsLine xs) (k v : Nat) (hk : k < 4) : IsLine (withN xs k v) := by
  refine ⟨withN_len xs k v h.len hk, fun x hx => ?_⟩
  unfold withN at hx
  rcases List.mem_append.1 hx with hx | hx
  · rcases List.mem_append.1 hx with hx | hx
    · exact h.lt x (List.mem_of_mem_take hx)
    · exact nb_lt _ _ x hx
  · exact h.lt x (List.mem_of_mem_drop hx)
theorem tag_with (xs : List Nat) (k v : Nat) (hl : xs.length = 32) (hk : k < 4) (hv : v < 18446744073709551616) : tagN (withN xs k v) k = v := by
  unfold tagN withN
  have e1 : (xs.take (8 * k)).length = 8 * k := by simp; omega
  rw [List.append_assoc, List.drop_append_of_le_length (by omega), List.drop_of_length_le (by omega), List.nil_append, List.take_append_of_le_length (by rw [nb_length]; omega), List.take_of_length_le (by rw [nb_length]; omega), le_nb8 v hv]
theorem tag_other (xs : List Nat) (k j v : Nat) (hl : xs.length = 32) (hk : k < 4) (hj : j < 4) (hne : j ≠ k) : tagN (withN xs k v) j = tagN xs j := by
  unfold tagN
  congr 1
  refine List.ext_getElem? fun i => ?_
  by_cases hi : i < 8
  · rw [List.getElem?_take_of_lt hi, List.getElem?_take_of_lt hi, List.getElem?_drop, List.getElem?_drop]
    unfold withN
    have e1 : (xs.take (8 * k)).length = 8 * k := by simp; omega
    have e2 : (xs.take (8 * k) ++ nb v 8).length = 8 * k + 8 := by rw [List.length_append, e1, nb_length]
    rcases Nat.lt_or_gt_of_ne hne with h | h
    · rw [List.getElem?_append_left (by omega), List.getElem?_append_left (by omega), List.getElem?_take_of_lt (by omega)]
    · rw [List.getElem?_append_right (by omega), e2, List.getElem?_drop]
      congr 1; omega
  · rw [List.getElem?_eq_none (by simp; omega), List.getElem?_eq_none (by simp; omega)]
theorem nb_inj (k : Nat) : ∀ (v u : Nat), nb v k = nb u k ↔ v % 256 ^ k = u % 256 ^ k := by
  intro v u
  constructor
  · intro h; rw [← le_nb, ← le_nb, h]
  · intro h
    induction k generalizing v u with
    | zero => rfl
    | succ k ih =>
      rw [Nat.pow_succ, Nat.mul_comm, Nat.mod_mul, Nat.mod_mul] at h
      have h1 : v % 256 = u % 256 := by omega
      have h2 : v / 256 % 256 ^ k = u / 256 % 256 ^ k := by omega
      simp only [nb, h1, ih _ _ h2]
theorem u64N_inj {a b : Int} (ha : I64 a) (hb : I64 b) : u64N a = u64N b ↔ a = b := by
  unfold I64 at ha hb
  unfold u64N
  constructor
  · intro h; omega
  · intro h; rw [h]
theorem nb8_inj {v u : Nat} (hv : v < 18446744073709551616) (hu : u < 18446744073709551616) : nb v 8 = nb u 8 ↔ v = u := by
  rw [nb_inj, pow8, Nat.mod_eq_of_lt hv, Nat.mod_eq_of_lt hu]
theorem nb2_inj (v u : Int) : nb (u64N v) 2 = nb (u64N u) 2 ↔ v % 65536 = u % 65536 := by
  rw [nb_inj]
  unfold u64N
  constructor <;> intro h <;> omega
theorem append_iff {α : Type} {a b c d : List α} (h : a.length = b.length) : a ++ c = b ++ d ↔ a = b ∧ c = d :=
  ⟨fun e => List.append_inj e h, fun ⟨e1, e2⟩ => by rw [e1, e2]⟩
theorem data_inj {a b u v : Int} {m n : Nat} {x y : List Nat} (ha : I64 a) (hb : I64 b) (hm : m < 18446744073709551616) (hn : n < 18446744073709551616) :
    dataN a m u x = dataN b n v y ↔ a = b ∧ m = n ∧ u % 65536 = v % 65536 ∧ x = y := by
  unfold dataN
  rw [append_iff (by simp [nb_length]), append_iff (by simp [nb_length]), append_iff (by simp [nb_length]), append_iff (by simp), nb8_inj (u64N_lt a) (u64N_lt b), u64N_inj ha hb, nb8_inj hm hn, nb2_inj]
  simp [and_assoc]
theorem item_inj {l k i j : Int} {x y : List Nat} (hi : I64 i) (hj : I64 j) :
    itemN l i x = itemN k j y ↔ l % 256 = k % 256 ∧ i = j ∧ x = y := by
  unfold itemN
  rw [append_iff (by simp [nb_length]), append_iff (by simp [nb_length]), append_iff (by simp), nb8_inj (u64N_lt i) (u64N_lt j), u64N_inj hi hj, low_byte, low_byte]
  have : ([u8N l] = [u8N k]) ↔ l % 256 = k % 256 := by
    simp only [List.cons.injEq, and_true]
    unfold u8N
    constructor <;> intro h <;> omega
  rw [this]
  simp [and_assoc]
theorem data_item {a u l i : Int} {m : Nat} {x y : List Nat} : dataN a m u x ≠ itemN l i y := by
  unfold dataN itemN
  intro h
  have := congrArg (fun z => z.getD 0 0) h
  simp at this
theorem setBit_take (xs : List Nat) (s d k : Nat) (h : 8 * k ≤ s) : (setBit xs s d).take k = xs.take k := by
  unfold setBit
  exact List.take_set_of_le (by omega)
theorem putN_take (xs : List Nat) (a v n k : Nat) (h : 8 * k ≤ a) : (putN xs a v n).take k = xs.take k := by
  induction n with
  | zero => rfl
  | succ n ih => rw [putN, setBit_take _ _ _ _ (by omega), ih]
theorem cb_take (M : Nat) (ms : List Int) (m i : Nat) : (cb M ms m i).take 8 = nb M 8 := by
  induction i with
  | zero => rw [cb, List.take_append_of_le_length (by rw [nb_length]; omega), List.take_of_length_le (by rw [nb_length]; omega)]
  | succ i ih => rw [cb, putN_take _ _ _ _ _ (by omega), ih]
theorem cb_major (M : Nat) (ms : List Int) (m i : Nat) (hM : M < 18446744073709551616) : le ((cb M ms m i).take 8) = M := by rw [cb_take, le_nb8 M hM]
theorem cb_minor (M n m : Nat) (ms : List Int) (hg : Good M n m ms) : ∀ i, i ≤ n → ∀ j, j < i → getN (cb M ms m i) (64 + j * m) m = (ms.getD j 0).toNat := by
  intro i
  induction i with
  | zero => intro _ j hj; omega
  | succ i ih =>
    intro hi j hj
    have hl := cb_len M ms m i
    have hb := cb_lt M ms m i
    have h8 : (i + 1) * m ≤ 8 * 8 := Nat.mul_le_mul (by have := hg.n8; omega) hg.m8
    rw [Nat.add_mul, Nat.one_mul] at h8
    rw [cb]
    by_cases e : j = i
    · subst e
      obtain ⟨h0, h1⟩ := hg.mn j (by omega)
      exact getN_putN _ _ _ _ hb (by rw [hl]; omega) (mst_lt m _ h0 h1)
    · have h9 : (j + 1) * m ≤ i * m := Nat.mul_le_mul_right _ (by omega)
      rw [Nat.add_mul, Nat.one_mul] at h9
      rw [getN_beside _ _ _ _ _ _ hb (by rw [hl]; omega) (by omega)]
      exact ih (by omega) j (by omega)
theorem cnL_cb (M n m : Nat) (ms : List Int) (hg : Good M n m ms) : cnL (cb M ms m n) m n = ms := by
  refine List.ext_getElem (by rw [cnL_len, hg.len]) fun i hi hj => ?_
  have hin : i < n := by rw [cnL_len] at hi; exact hi
  have h1 := cb_minor M n m ms hg n (Nat.le_refl _) i hin
  obtain ⟨h0, _⟩ := hg.mn i hin
  simp only [cnL, List.getElem_map, List.getElem_range, h1]
  rw [List.getD_eq_getElem?_getD, List.getElem?_eq_getElem hj] at h0 ⊢
  simp only [Option.getD_some] at h0 ⊢
  omega
theorem cb_line (M : Nat) (ms : List Int) (m i : Nat) : IsLine (cb M ms m i) := ⟨cb_len M ms m i, cb_lt M ms m i⟩
theorem cb_inj {M M' n m : Nat} {ms ms' : List Int} (h1 : Good M n m ms) (h2 : Good M' n m ms') : cb M ms m n = cb M' ms' m n ↔ M = M' ∧ ms = ms' := by
  constructor
  · intro e
    have a1 := cb_major M ms m n h1.M64
    have a2 := cb_major M' ms' m n h2.M64
    have b1 := cnL_cb M n m ms h1
    have b2 := cnL_cb M' n m ms' h2
    rw [e] at a1 b1
    exact ⟨a1.symm.trans a2, b1.symm.trans b2⟩
  · rintro ⟨rfl, rfl⟩; rfl
end Go.Proofs.Ytcepncdolbfcfaa
