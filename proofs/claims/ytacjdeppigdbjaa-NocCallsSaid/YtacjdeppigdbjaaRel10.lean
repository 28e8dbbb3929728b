/- What a net holds and what the document's net was sent, beside each other. No statement is proved here. -/
import Derived.Test.YtacjdeppigdbjaaRNet8
namespace Go.Proofs.Ytacjdeppigdbjaa
open Go.RowKit
set_option linter.unusedVariables false
set_option linter.unusedSimpArgs false
def lkS (s : Sn) : Lk := lkOf s.net s.m
theorem isS_iff (l : Lk) (s : Sn) : isS l s = true ↔ lkS s = l := by
  obtain ⟨a, b, d⟩ := l
  simp [isS, lkS, lkOf]
/-- The messages of a link, in their order. -/
def fl (l : Lk) (xs : List Sn) : List Msg := (xs.filter (isS l)).map (·.m)
theorem fl_app (l : Lk) (xs ys : List Sn) : fl l (xs ++ ys) = fl l xs ++ fl l ys := by simp [fl]
theorem fl_one (l : Lk) (s : Sn) : fl l [s] = if isS l s then [s.m] else [] := by
  unfold fl
  by_cases h : isS l s = true <;> simp [h]
theorem fl_none {l : Lk} {xs : List Sn} (h : ∀ s ∈ xs, isS l s = false) : fl l xs = [] := by
  unfold fl
  rw [List.filter_eq_nil_iff.2 (fun s hs => by rw [h s hs]; simp)]
  rfl
theorem msgsTo_fl (l : Lk) (xs : List Sn) : ∀ k, msgsTo l xs k = fl l (xs.take k) := by
  intro k
  induction k with
  | zero => rfl
  | succ k ih =>
    rw [List.take_add_one, fl_app, ← ih]
    cases h : xs[k]? with
    | none => simp [msgsTo, h, fl]
    | some s =>
      rw [Option.toList_some, fl_one]
      by_cases q : isS l s = true <;> simp [msgsTo, h, q]
theorem msgsTo_all (l : Lk) (xs : List Sn) : msgsTo l xs xs.length = fl l xs := by rw [msgsTo_fl, List.take_length]
theorem nums_head (l : Lk) (xs : List Sn) : ∀ k, k ≤ xs.length →
    (numsTo l xs k = [] ∧ ∀ j s, j < k → xs[j]? = some s → isS l s = false) ∨
    ∃ (i : Nat) (s : Sn) (is : List Int), i < k ∧ xs[i]? = some s ∧ isS l s = true ∧ (∀ j s, j < i → xs[j]? = some s → isS l s = false) ∧ numsTo l xs k = (i : Int) :: is := by
  intro k
  induction k with
  | zero => intro _; exact .inl ⟨rfl, fun j s hj => absurd hj (by omega)⟩
  | succ k ih =>
    intro hk
    have hs : xs[k]? = some xs[k] := List.getElem?_eq_getElem (by omega)
    generalize xs[k] = s at hs
    rcases ih (by omega) with ⟨h1, h2⟩ | ⟨i, s', is, hi, h1, h2, h3, h4⟩
    · by_cases q : isS l s = true
      · exact .inr ⟨k, s, [], by omega, hs, q, h2, by rw [(msgsTo_yes hs q).2, h1]; rfl⟩
      · refine .inl ⟨by rw [(msgsTo_no hs (by simpa using q)).2, h1], fun j s' hj hs' => ?_⟩
        rcases Nat.lt_or_ge j k with h | h
        · exact h2 j s' h hs'
        · obtain rfl : j = k := by omega
          rw [hs] at hs'
          injection hs' with hs'
          subst hs'
          simpa using q
    · by_cases q : isS l s = true
      · exact .inr ⟨i, s', is ++ [(k : Int)], by omega, h1, h2, h3, by rw [(msgsTo_yes hs q).2, h4]; rfl⟩
      · exact .inr ⟨i, s', is, by omega, h1, h2, h3, by rw [(msgsTo_no hs (by simpa using q)).2, h4]⟩
theorem cut_at {xs : List Sn} {i : Nat} {s : Sn} (h : xs[i]? = some s) : xs = xs.take i ++ (s :: xs.drop (i + 1)) := by
  obtain ⟨hi, rfl⟩ := List.getElem?_eq_some_iff.1 h
  rw [List.getElem_cons_drop, List.take_append_drop]
/-- What is found first is what is taken; no other link changes. -/
theorem first_of {l : Lk} {xs : List Sn} {x : Msg} {ms : List Msg} (h : fl l xs = x :: ms) :
    ∃ (i : Nat) (is : List Int), i < xs.length ∧ numsTo l xs xs.length = (i : Int) :: is ∧ fl l (xs.take i ++ xs.drop (i + 1)) = ms ∧
      (∀ o, o ≠ l → fl o (xs.take i ++ xs.drop (i + 1)) = fl o xs) ∧ (xs.take i ++ xs.drop (i + 1)).length + 1 = xs.length ∧ ∀ s ∈ xs.take i ++ xs.drop (i + 1), s ∈ xs := by
  rcases nums_head l xs xs.length (Nat.le_refl _) with ⟨_, h2⟩ | ⟨i, s, is, hi, h1, h2, h3, h4⟩
  · exfalso
    rw [fl_none fun s hs => ?_] at h
    · cases h
    · obtain ⟨j, hj⟩ := List.mem_iff_getElem?.1 hs
      exact h2 j s (List.getElem?_eq_some_iff.1 hj).1 hj
  · have hc := cut_at h1
    have e0 : fl l (xs.take i) = [] := fl_none fun t ht => by
      obtain ⟨j, hj⟩ := List.mem_iff_getElem?.1 ht
      rw [List.getElem?_take] at hj
      by_cases hji : j < i
      · rw [if_pos hji] at hj
        exact h3 j t hji hj
      · rw [if_neg hji] at hj; cases hj
    have split : ∀ o, fl o xs = fl o (xs.take i) ++ ((if isS o s then [s.m] else []) ++ fl o (xs.drop (i + 1))) := fun o => by
      conv => lhs; rw [hc]
      rw [fl_app, show s :: xs.drop (i + 1) = [s] ++ xs.drop (i + 1) from rfl, fl_app, fl_one]
    refine ⟨i, is, hi, h4, ?_, fun o ho => ?_, ?_, fun t ht => ?_⟩
    · have := split l
      rw [h, e0, h2, if_pos rfl, List.nil_append, List.singleton_append] at this
      injection this with _ this
      rw [fl_app, e0, List.nil_append, this]
    · have hs : isS o s = false := by
        rw [← Bool.not_eq_true, isS_iff]
        intro e
        exact ho (e ▸ ((isS_iff l s).1 h2))
      rw [split o, hs, fl_app]
      rfl
    · rw [List.length_append, List.length_take, List.length_drop]; omega
    · rcases List.mem_append.1 ht with ht | ht
      · exact List.mem_of_mem_take ht
      · exact List.mem_of_mem_drop ht
/-- The program's net with the contents c, and what the document's was sent. -/
structure Rl (n : Nat) (c : Nat → List Msg) (xs : List Sn) : Prop where
  inn : ∀ s ∈ xs, hasO n (lkS s) = true
  eq : ∀ l, hasO n l = true → fl l xs = c (idxL n l)
  sum : xs.length = sumTo c (lks n)
theorem sum_nil {c : Nat → List Msg} (h : ∀ i, c i = []) : ∀ k, sumTo c k = 0 := by
  intro k
  induction k with
  | zero => rfl
  | succ k ih => rw [sumTo_succ, ih, h]; rfl
theorem Rl.nil {n : Nat} {c : Nat → List Msg} (h : ∀ i, c i = []) : Rl n c [] := ⟨fun s hs => (by cases hs), fun l _ => (h _).symm, (sum_nil h _).symm⟩
section
variable {n : Nat} {c : Nat → List Msg} {xs : List Sn} {l : Lk}
theorem Rl.no (h : Rl n c xs) (hl : hasO n l = false) : fl l xs = [] := fl_none fun s hs => by
  rw [← Bool.not_eq_true, isS_iff]
  intro e
  have := h.inn s hs
  rw [e, hl] at this
  cases this
theorem Rl.all (h : Rl n c xs) (l : Lk) : msgsTo l xs xs.length = allOf n c l := by
  rw [msgsTo_all]
  unfold allOf
  by_cases hl : hasO n l = true
  · rw [if_pos hl, h.eq l hl]
  · rw [if_neg hl, h.no (by simpa using hl)]
theorem Rl.send (h : Rl n c xs) (a : Int) (m : Msg) (hl : hasO n (lkOf a m) = true) : Rl n (upd c (idxL n (lkOf a m)) (c (idxL n (lkOf a m)) ++ [m])) (xs ++ [⟨a, m⟩]) := by
  refine ⟨fun s hs => ?_, fun o ho => ?_, ?_⟩
  · rcases List.mem_append.1 hs with hs | hs
    · exact h.inn s hs
    · rw [List.mem_singleton.1 hs]; exact hl
  · rw [fl_app, fl_one, h.eq o ho]
    by_cases q : lkOf a m = o
    · rw [if_pos ((isS_iff o ⟨a, m⟩).2 q), ← q]
      simp [upd]
    · rw [if_neg (fun e => q ((isS_iff o ⟨a, m⟩).1 e)), List.append_nil]
      have : idxL n o ≠ idxL n (lkOf a m) := fun e => q (idxL_inj hl ho e.symm)
      simp [upd, this]
  · have := sumTo_upd c (idxL n (lkOf a m)) (c (idxL n (lkOf a m)) ++ [m]) (lks n) (has_lt hl)
    rw [List.length_append, List.length_singleton] at *
    have := h.sum
    omega
theorem Rl.take (h : Rl n c xs) (hl : hasO n l = true) {x : Msg} {ms : List Msg} (hc : c (idxL n l) = x :: ms) :
    ∃ (i : Nat) (is : List Int), i < xs.length ∧ numsTo l xs xs.length = (i : Int) :: is ∧ msgsTo l xs xs.length = x :: ms ∧ Rl n (upd c (idxL n l) ms) (xs.take i ++ xs.drop (i + 1)) := by
  have hf : fl l xs = x :: ms := by rw [h.eq l hl, hc]
  obtain ⟨i, is, hi, h1, h2, h3, h4, h5⟩ := first_of hf
  refine ⟨i, is, hi, h1, by rw [msgsTo_all, hf], fun s hs => h.inn s (h5 s hs), fun o ho => ?_, ?_⟩
  · by_cases q : o = l
    · subst q
      rw [h2]; simp [upd]
    · have : idxL n o ≠ idxL n l := fun e => q (idxL_inj ho hl e)
      rw [h3 o q, h.eq o ho]
      simp [upd, this]
  · have := sumTo_upd c (idxL n l) ms (lks n) (has_lt hl)
    rw [hc, List.length_cons] at this
    have := h.sum
    omega
theorem unl_has {i : Nat} (hi : i < lks n) : hasO n (unl n i) = true ∧ idxL n (unl n i) = i := by
  have hn : 0 < n := by
    rcases Nat.eq_zero_or_pos n with h0 | h0
    · exfalso; subst h0; unfold lks at hi; omega
    · exact h0
  have h1 : i / n / n < 3 := by
    rw [Nat.div_div_eq_div_mul]
    refine Nat.div_lt_of_lt_mul ?_
    unfold lks at hi
    rwa [Nat.mul_comm (n * n), ← Nat.mul_assoc]
  have h2 : i / n % n < n := Nat.mod_lt _ hn
  have h3 : i % n < n := Nat.mod_lt _ hn
  constructor
  · exact hasL_iff.2 ⟨Int.natCast_nonneg _, Int.ofNat_lt.2 h1, Int.natCast_nonneg _, Int.ofNat_lt.2 h2, Int.natCast_nonneg _, Int.ofNat_lt.2 h3⟩
  · simp only [idxL, unl, Int.toNat_natCast, idx]
    have e1 := Nat.div_add_mod (i / n) n
    have e2 := Nat.div_add_mod i n
    rw [Nat.mul_comm (i / n / n) n, e1, Nat.mul_comm (i / n) n, e2]
theorem Rl.links (h : Rl n c xs) : lsTo n (rcn n xs) (lks n) = lsTo n c (lks n) := by
  have key : ∀ k, k ≤ lks n → lsTo n (rcn n xs) k = lsTo n c k := by
    intro k
    induction k with
    | zero => intro _; rfl
    | succ k ih =>
      intro hk
      obtain ⟨u1, u2⟩ := unl_has (n := n) (i := k) (by omega)
      have e : rcn n xs k = c k := by
        unfold rcn
        rw [msgsTo_all, h.eq _ u1, u2]
      rw [lsTo_succ, lsTo_succ, ih (by omega), e]
  exact key _ (Nat.le_refl _)
end
end Go.Proofs.Ytacjdeppigdbjaa
