/- The bytes are a field, in plain numbers. No program is spoken of here. -/
import Derived.Test.YtfbgpfiodgibbaaAPlain
namespace Go.Proofs.Ytfbgpfiodgibbaa.A
set_option linter.unusedVariables false

/-- Bytes are added to bytes. -/
def Lin (f : Nat → Nat) : Prop := ∀ b c, b < 256 → c < 256 → f (b ^^^ c) = f b ^^^ f c
theorem Lin.zero {f : Nat → Nat} (h : Lin f) : f 0 = 0 := by
  have := h 0 0 (by omega) (by omega)
  rw [Nat.xor_self, Nat.xor_self] at this
  exact this
theorem top_bits : ((List.range 8).all fun n => (List.range 256).all fun b => decide (2 ^ n ≤ b ∧ b < 2 ^ (n + 1) → 2 ^ n ^^^ (b - 2 ^ n) = b)) = true := by decide +kernel
theorem top_bit (n b : Nat) (hn : n < 8) (h1 : 2 ^ n ≤ b) (h2 : b < 2 ^ (n + 1)) (hb : b < 256) : 2 ^ n ^^^ (b - 2 ^ n) = b := by
  have h := List.all_eq_true.1 (List.all_eq_true.1 top_bits n (List.mem_range.2 hn)) b (List.mem_range.2 hb)
  exact (of_decide_eq_true h) ⟨h1, h2⟩
theorem Lin.ext {f g : Nat → Nat} (hf : Lin f) (hg : Lin g) (h : ∀ j, j < 8 → f (2 ^ j) = g (2 ^ j)) (b : Nat) (hb : b < 256) : f b = g b := by
  have H : ∀ n, n ≤ 8 → ∀ b, b < 2 ^ n → b < 256 → f b = g b := by
    intro n
    induction n with
    | zero => intro _ b hb _; have : b = 0 := by omega
              rw [this, hf.zero, hg.zero]
    | succ n ih =>
      intro hn b hb h256
      by_cases hlt : b < 2 ^ n
      · exact ih (by omega) b hlt h256
      · have e := top_bit n b (by omega) (by omega) hb h256
        have h1 : 2 ^ n < 256 := by omega
        have h2 : b - 2 ^ n < 2 ^ n := by rw [Nat.pow_succ] at hb; omega
        rw [← e, hf _ _ h1 (by omega), hg _ _ h1 (by omega), h n (by omega), ih (by omega) _ h2 (by omega)]
  exact H 8 (by omega) b (by omega) hb
theorem Lin.comp {f g : Nat → Nat} (hf : Lin f) (hg : Lin g) (hl : ∀ b, b < 256 → g b < 256) : Lin (fun b => f (g b)) := fun b c hb hc => by
  show f (g (b ^^^ c)) = _
  rw [hg b c hb hc, hf _ _ (hl b hb) (hl c hc)]

theorem bit_xor (b c k : Nat) : ((b ^^^ c) / 2 ^ k % 2 = 1) ↔ ¬ ((b / 2 ^ k % 2 = 1) ↔ (c / 2 ^ k % 2 = 1)) := by
  have e : ∀ x : Nat, (x / 2 ^ k % 2 = 1) ↔ x.testBit k = true := fun x => by
    rw [Nat.testBit_eq_decide_div_mod_eq]; simp
  rw [e, e, e, Nat.testBit_xor]
  cases b.testBit k <;> cases c.testBit k <;> simp
theorem xor4 (p q x : Nat) : (p ^^^ x) ^^^ (q ^^^ x) = p ^^^ q := by
  rw [Nat.xor_assoc, Nat.xor_comm q x, ← Nat.xor_assoc x x q, Nat.xor_self, Nat.zero_xor]
theorem tim_lin (a k b c : Nat) : tim a (b ^^^ c) k = tim a b k ^^^ tim a c k := by
  induction k with
  | zero => simp [tim]
  | succ k ih =>
    simp only [tim, ih]
    have h := bit_xor b c k
    by_cases h1 : b / 2 ^ k % 2 = 1 <;> by_cases h2 : c / 2 ^ k % 2 = 1
    · rw [if_neg (by rw [h]; simp [h1, h2]), if_pos h1, if_pos h2, xor4]
    · rw [if_pos (by rw [h]; simp [h1, h2]), if_pos h1, if_neg h2, Nat.xor_assoc, Nat.xor_comm (tim a c k), ← Nat.xor_assoc]
    · rw [if_pos (by rw [h]; simp [h1, h2]), if_neg h1, if_pos h2, Nat.xor_assoc]
    · rw [if_neg (by rw [h]; simp [h1, h2]), if_neg h1, if_neg h2]
theorem times_lin (a : Nat) : Lin (times a) := fun b c _ _ => tim_lin a 8 b c
theorem times_xor (a b c : Nat) : times a (b ^^^ c) = times a b ^^^ times a c := tim_lin a 8 b c
theorem dbl_basis : ((List.range 256).all fun b => (List.range 8).all fun j => dbl (b ^^^ 2 ^ j) == dbl b ^^^ dbl (2 ^ j)) = true := by decide +kernel
theorem dbl_lin : Lin dbl := by
  intro b c hb hc
  have H : ∀ n, n ≤ 8 → ∀ c, c < 2 ^ n → c < 256 → ∀ b, b < 256 → dbl (b ^^^ c) = dbl b ^^^ dbl c := by
    intro n
    induction n with
    | zero => intro _ c hc _ b hb; have : c = 0 := by omega
              rw [this]; simp [show dbl 0 = 0 from rfl]
    | succ n ih =>
      intro hn c hc h256 b hb
      by_cases hlt : c < 2 ^ n
      · exact ih (by omega) c hlt h256 b hb
      · have e := top_bit n c (by omega) (by omega) hc h256
        have h2 : c - 2 ^ n < 2 ^ n := by rw [Nat.pow_succ] at hc; omega
        have h3 : b ^^^ 2 ^ n < 256 := Nat.xor_lt_two_pow (n := 8) hb (by omega)
        have h4 := fun x (hx : x < 256) => beq_iff_eq.1 (List.all_eq_true.1 (List.all_eq_true.1 dbl_basis x (List.mem_range.2 hx)) n (List.mem_range.2 (by omega)))
        have e5 : dbl c = dbl (2 ^ n) ^^^ dbl (c - 2 ^ n) := by
          have h6 := ih (by omega) (c - 2 ^ n) h2 (by omega) (2 ^ n) (by omega)
          rw [e] at h6
          exact h6
        rw [e5, ← Nat.xor_assoc, ← h4 b hb, ← ih (by omega) (c - 2 ^ n) h2 (by omega) _ h3, Nat.xor_assoc b, e]
  exact H 8 (by omega) c hc hc b hb
theorem times_pow : ((List.range 256).all fun a => (List.range 8).all fun j => times a (2 ^ j) == dbls a j && times a (dbl (2 ^ j)) == dbl (dbls a j)) = true := by decide +kernel
theorem times_two (a j : Nat) (ha : a < 256) (hj : j < 8) : times a (2 ^ j) = dbls a j ∧ times a (dbl (2 ^ j)) = dbl (dbls a j) := by
  have h := List.all_eq_true.1 (List.all_eq_true.1 times_pow a (List.mem_range.2 ha)) j (List.mem_range.2 hj)
  simpa using h
theorem times_dbl (a b : Nat) (ha : a < 256) (hb : b < 256) : times a (dbl b) = dbl (times a b) :=
  Lin.ext (f := fun b => times a (dbl b)) (g := fun b => dbl (times a b)) ((times_lin a).comp dbl_lin (fun _ _ => dbl_lt _)) (dbl_lin.comp (times_lin a) (fun b _ => times_lt a b ha))
    (fun j hj => by show times a (dbl (2 ^ j)) = dbl (times a (2 ^ j)); rw [(times_two a j ha hj).1, (times_two a j ha hj).2]) b hb
theorem times_dbls (a b k : Nat) (ha : a < 256) (hb : b < 256) : times a (dbls b k) = dbls (times a b) k := by
  induction k with
  | zero => rfl
  | succ k ih => rw [dbls, times_dbl a _ ha (dbls_lt b k hb), ih, dbls]
theorem times_assoc (a b c : Nat) (ha : a < 256) (hb : b < 256) (hc : c < 256) : times a (times b c) = times (times a b) c :=
  Lin.ext (f := fun c => times a (times b c)) (g := fun c => times (times a b) c) ((times_lin a).comp (times_lin b) (fun c _ => times_lt b c hb)) (times_lin (times a b))
    (fun j hj => by show times a (times b (2 ^ j)) = times (times a b) (2 ^ j); rw [(times_two b j hb hj).1, (times_two _ j (times_lt a b ha) hj).1, times_dbls a b j ha hb]) c hc
theorem inv_facts : ((List.range 256).all fun a => (a == 0 || times a (pw a 7) == 1) && (a == 0 || times (pw a 7) a == 1) && times 1 a == a && times a 1 == a) = true := by decide +kernel
theorem inv_fact (a : Nat) (ha : a < 256) : (a ≠ 0 → times a (pw a 7) = 1) ∧ (a ≠ 0 → times (pw a 7) a = 1) ∧ times 1 a = a ∧ times a 1 = a := by
  have h := List.all_eq_true.1 inv_facts a (List.mem_range.2 ha)
  simp only [Bool.and_eq_true, Bool.or_eq_true, beq_iff_eq] at h
  exact ⟨fun h0 => h.1.1.1.resolve_left h0, fun h0 => h.1.1.2.resolve_left h0, h.1.2, h.2⟩
theorem dbls_zero (k : Nat) : dbls 0 k = 0 := by
  induction k with
  | zero => rfl
  | succ k ih => rw [dbls, ih]; rfl
theorem tim_zero (b k : Nat) : tim 0 b k = 0 := by
  induction k with
  | zero => rfl
  | succ k ih => simp only [tim, ih, dbls_zero]; split <;> rfl
theorem times_zero (b : Nat) : times 0 b = 0 := tim_zero b 8
/-- A byte but 0 has one inverse. -/
theorem times_one_iff (a i : Nat) (ha : a < 256) (hi : i < 256) (h0 : a ≠ 0) : times a i = 1 ↔ i = pw a 7 := by
  obtain ⟨h1, h2, h3, h4⟩ := inv_fact a ha
  constructor
  · intro h
    have e := times_assoc (pw a 7) a i (pw_lt a 7) ha hi
    rw [h, h2 h0, (inv_fact i hi).2.2.1, (inv_fact _ (pw_lt a 7)).2.2.2] at e
    exact e.symm
  · intro h; rw [h]; exact h1 h0
/-- Products may be turned round. -/
theorem comm_basis : ((List.range 8).all fun i => (List.range 8).all fun j => times (2 ^ i) (2 ^ j) == times (2 ^ j) (2 ^ i)) = true := by decide +kernel
theorem dbls_lin (k : Nat) : Lin (fun a => dbls a k) := by
  induction k with
  | zero => intro b c _ _; rfl
  | succ k ih => exact dbl_lin.comp ih (fun b hb => dbls_lt b k hb)
theorem tim_lin_left (b k : Nat) : Lin (fun a => tim a b k) := by
  induction k with
  | zero => intro x y _ _; simp [tim]
  | succ k ih =>
    intro x y hx hy
    simp only [tim]
    split
    · have h1 := ih x y hx hy
      have h2 := dbls_lin k x y hx hy
      simp only at h1 h2
      rw [h1, h2, Nat.xor_assoc, ← Nat.xor_assoc (tim y b k), Nat.xor_comm (tim y b k), Nat.xor_assoc (dbls x k), ← Nat.xor_assoc]
    · exact ih x y hx hy
theorem times_lin_left (b : Nat) : Lin (fun a => times a b) := tim_lin_left b 8
theorem times_comm (a b : Nat) (ha : a < 256) (hb : b < 256) : times a b = times b a := by
  have h1 : ∀ i, i < 8 → ∀ b, b < 256 → times (2 ^ i) b = times b (2 ^ i) := fun i hi b hb =>
    Lin.ext (times_lin (2 ^ i)) (times_lin_left (2 ^ i)) (fun j hj => beq_iff_eq.1 (List.all_eq_true.1 (List.all_eq_true.1 comm_basis i (List.mem_range.2 hi)) j (List.mem_range.2 hj))) b hb
  exact Lin.ext (times_lin_left b) (times_lin b) (fun i hi => h1 i hi b hb) a ha
end Go.Proofs.Ytfbgpfiodgibbaa.A
