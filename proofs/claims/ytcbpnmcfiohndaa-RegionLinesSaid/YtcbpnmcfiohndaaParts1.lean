/- The document's list of all that stands in memory, as numbers and in memory. No statement is proved here. -/
import Derived.Test.YtcbpnmcfiohndaaAllPure
import Derived.Maps.AppendAt
namespace Go.Proofs.Ytcbpnmcfiohndaa
open Go.RowKit
set_option linter.unusedVariables false
set_option linter.unusedSimpArgs false

/-- A part: what it is, where it begins, how long it is. -/
structure Pt where
  c : Pc
  b : Int
  n : Int
def Pt.cs (x : Pt) : List Value := [.int .i64 x.c.k, .int .i64 x.c.n, .int .i64 x.c.l, .int .i64 x.c.i, .int .i64 x.c.o, .int .i64 x.b, .int .i64 x.n]
def pvs : List Pt → List Value
  | [] => []
  | x :: r => x.cs ++ pvs r
theorem pvs_length (xs : List Pt) : (pvs xs).length = xs.length * 7 := by
  induction xs with
  | nil => rfl
  | cons x r ih => simp only [pvs, List.length_append, ih, List.length_cons, Pt.cs, List.length_nil]; omega
theorem pvs_append (xs ys : List Pt) : pvs (xs ++ ys) = pvs xs ++ pvs ys := by
  induction xs with
  | nil => rfl
  | cons x r ih => simp [pvs, ih]
theorem pvs_at (xs : List Pt) (i j : Nat) (x : Pt) (h : xs[i]? = some x) (hj : j < 7) : (pvs xs)[i * 7 + j]? = x.cs[j]? := by
  induction xs generalizing i with
  | nil => simp at h
  | cons y r ih =>
    have hl : y.cs.length = 7 := rfl
    cases i with
    | zero =>
      simp only [List.getElem?_cons_zero, Option.some.injEq] at h
      subst h
      simp only [pvs]
      rw [List.getElem?_append_left (by omega), show 0 * 7 + j = j by omega]
    | succ i =>
      simp only [List.getElem?_cons_succ] at h
      simp only [pvs]
      rw [List.getElem?_append_right (by omega), show (i + 1) * 7 + j - y.cs.length = i * 7 + j by omega]
      exact ih i h

/-- The parts of the lines' bytes, of their tags, of a level's items, of the levels' items. -/
def dP (k : Nat) : List Pt := (List.range k).map fun j => ⟨⟨1, (j : Nat), 0, 0, 0⟩, (32 * j : Nat), 32⟩
def tP (N k : Nat) : List Pt := (List.range k).map fun j => ⟨⟨2, (j : Nat), 0, 0, 0⟩, (32 * N + 8 * j : Nat), 8⟩
def lP (N s l k : Nat) : List Pt := (List.range k).map fun j => ⟨⟨3, 0, (l : Nat), (j : Nat), 0⟩, (40 * N + 32 * (s + j) : Nat), 32⟩
def iP (N n a : Nat) : Nat → List Pt
  | 0 => []
  | l + 1 => iP N n a l ++ lP N (sw n a l) l (wid n a l)
theorem dP_zero : dP 0 = [] := rfl
theorem dP_succ (k : Nat) : dP (k + 1) = dP k ++ [⟨⟨1, (k : Nat), 0, 0, 0⟩, (32 * k : Nat), 32⟩] := by simp [dP, List.range_succ]
theorem tP_zero (N : Nat) : tP N 0 = [] := rfl
theorem tP_succ (N k : Nat) : tP N (k + 1) = tP N k ++ [⟨⟨2, (k : Nat), 0, 0, 0⟩, (32 * N + 8 * k : Nat), 8⟩] := by simp [tP, List.range_succ]
theorem lP_zero (N s l : Nat) : lP N s l 0 = [] := rfl
theorem lP_succ (N s l k : Nat) : lP N s l (k + 1) = lP N s l k ++ [⟨⟨3, 0, (l : Nat), (k : Nat), 0⟩, (40 * N + 32 * (s + k) : Nat), 32⟩] := by simp [lP, List.range_succ]
theorem iP_zero (N n a : Nat) : iP N n a 0 = [] := rfl
theorem iP_succ (N n a l : Nat) : iP N n a (l + 1) = iP N n a l ++ lP N (sw n a l) l (wid n a l) := rfl
theorem dP_length (k : Nat) : (dP k).length = k := by simp [dP]
theorem tP_length (N k : Nat) : (tP N k).length = k := by simp [tP]
theorem lP_length (N s l k : Nat) : (lP N s l k).length = k := by simp [lP]
theorem iP_length (N n a l : Nat) : (iP N n a l).length = sw n a l := by
  induction l with
  | zero => rfl
  | succ l ih => rw [iP_succ, List.length_append, ih, lP_length, sw_succ]
/-- All parts of a plan's memory. -/
def pts (q : Pl) : List Pt := if right q then dP (Al q).toNat ++ tP (Al q).toNat (Al q).toNat ++ iP (Al q).toNat q.pa.toNat q.ar.toNat (Lv q) else []
theorem mem_dP {k : Nat} {x : Pt} : x ∈ dP k ↔ ∃ j : Nat, j < k ∧ x = ⟨⟨1, (j : Nat), 0, 0, 0⟩, (32 * j : Nat), 32⟩ := by
  simp only [dP, List.mem_map, List.mem_range]
  exact ⟨fun ⟨j, h, e⟩ => ⟨j, h, e.symm⟩, fun ⟨j, h, e⟩ => ⟨j, h, e.symm⟩⟩
theorem mem_tP {N k : Nat} {x : Pt} : x ∈ tP N k ↔ ∃ j : Nat, j < k ∧ x = ⟨⟨2, (j : Nat), 0, 0, 0⟩, (32 * N + 8 * j : Nat), 8⟩ := by
  simp only [tP, List.mem_map, List.mem_range]
  exact ⟨fun ⟨j, h, e⟩ => ⟨j, h, e.symm⟩, fun ⟨j, h, e⟩ => ⟨j, h, e.symm⟩⟩
theorem mem_iP {N n a L : Nat} {x : Pt} : x ∈ iP N n a L ↔ ∃ l j : Nat, l < L ∧ j < wid n a l ∧ x = ⟨⟨3, 0, (l : Nat), (j : Nat), 0⟩, (40 * N + 32 * (sw n a l + j) : Nat), 32⟩ := by
  induction L with
  | zero => simp [iP]
  | succ L ih =>
    rw [iP_succ, List.mem_append, ih]
    simp only [lP, List.mem_map, List.mem_range]
    constructor
    · rintro (⟨l, j, h1, h2, e⟩ | ⟨j, h, e⟩)
      · exact ⟨l, j, by omega, h2, e⟩
      · exact ⟨L, j, by omega, h, e.symm⟩
    · rintro ⟨l, j, h1, h2, e⟩
      rcases Nat.lt_or_ge l L with h3 | h3
      · exact .inl ⟨l, j, h3, h2, e⟩
      · obtain rfl : l = L := by omega
        exact .inr ⟨j, h2, e.symm⟩
/-- How many bytes the parts have. -/
def sumN : List Pt → Int
  | [] => 0
  | x :: r => x.n + sumN r
theorem sumN_append (xs ys : List Pt) : sumN (xs ++ ys) = sumN xs + sumN ys := by
  induction xs with
  | nil => simp [sumN]
  | cons x r ih => simp only [List.cons_append, sumN, ih]; omega
theorem sumN_dP (k : Nat) : sumN (dP k) = 32 * (k : Int) := by
  induction k with
  | zero => rfl
  | succ k ih => rw [dP_succ, sumN_append, ih]; simp only [sumN]; omega
theorem sumN_tP (N k : Nat) : sumN (tP N k) = 8 * (k : Int) := by
  induction k with
  | zero => rfl
  | succ k ih => rw [tP_succ, sumN_append, ih]; simp only [sumN]; omega
theorem sumN_lP (N s l k : Nat) : sumN (lP N s l k) = 32 * (k : Int) := by
  induction k with
  | zero => rfl
  | succ k ih => rw [lP_succ, sumN_append, ih]; simp only [sumN]; omega
theorem sumN_iP (N n a l : Nat) : sumN (iP N n a l) = 32 * (sw n a l : Int) := by
  induction l with
  | zero => rfl
  | succ l ih => rw [iP_succ, sumN_append, ih, sumN_lP, sw_succ]; omega
theorem sumN_pts (q : Pl) : sumN (pts q) = SzI q := by
  unfold pts SzI
  by_cases h : right q = true
  · obtain ⟨a0, -⟩ := Al_bounds q
    rw [if_pos h, if_pos h, sumN_append, sumN_append, sumN_dP, sumN_tP, sumN_iP]; omega
  · rw [if_neg h, if_neg h]; rfl
/-- The first part that p holds of. -/
def fstP (p : Pt → Bool) : List Pt → Option Pt
  | [] => none
  | x :: r => if p x then some x else fstP p r
theorem fstP_some {p : Pt → Bool} {xs : List Pt} {x : Pt} (h : fstP p xs = some x) : x ∈ xs ∧ p x = true := by
  induction xs with
  | nil => cases h
  | cons y r ih =>
    simp only [fstP] at h
    split at h
    · injection h with h; subst h; exact ⟨List.mem_cons_self, by assumption⟩
    · exact ⟨List.mem_cons_of_mem _ (ih h).1, (ih h).2⟩
theorem fstP_none {p : Pt → Bool} {xs : List Pt} (h : fstP p xs = none) : ∀ x ∈ xs, p x = false := by
  induction xs with
  | nil => simp
  | cons y r ih =>
    simp only [fstP] at h
    split at h
    · cases h
    · rename_i hy
      intro x hx
      rcases List.mem_cons.1 hx with rfl | hx
      · simpa using hy
      · exact ih h x hx
theorem fstP_at {p : Pt → Bool} {xs : List Pt} {x : Pt} {k : Nat} (hk : xs[k]? = some x) (h0 : ∀ i, i < k → ∀ y, xs[i]? = some y → p y = false) (hx : p x = true) : fstP p xs = some x := by
  induction xs generalizing k with
  | nil => simp at hk
  | cons y r ih =>
    cases k with
    | zero =>
      simp only [List.getElem?_cons_zero, Option.some.injEq] at hk
      subst hk
      simp [fstP, hx]
    | succ k =>
      have hy := h0 0 (by omega) y rfl
      simp only [fstP, hy, Bool.false_eq_true, if_false]
      exact ih (by simpa using hk) fun i hi z hz => h0 (i + 1) (by omega) z (by simpa using hz)
theorem fstP_no {p : Pt → Bool} {xs : List Pt} (h0 : ∀ i : Nat, ∀ y, xs[i]? = some y → p y = false) : fstP p xs = none := by
  induction xs with
  | nil => rfl
  | cons y r ih =>
    have hy := h0 0 y rfl
    simp only [fstP, hy, Bool.false_eq_true, if_false]
    exact ih fun i z hz => h0 (i + 1) z (by simpa using hz)
/-- A part that an address is in. -/
def inP (m : Int) (x : Pt) : Bool := decide (x.b ≤ m) && decide (m < x.b + x.n)
theorem inP_iff (m : Int) (x : Pt) : inP m x = true ↔ x.b ≤ m ∧ m < x.b + x.n := by simp [inP]
theorem mem_pts {q : Pl} (hq : right q = true) {x : Pt} : x ∈ pts q ↔ (∃ j : Nat, j < (Al q).toNat ∧ x = ⟨⟨1, (j : Nat), 0, 0, 0⟩, (32 * j : Nat), 32⟩) ∨ (∃ j : Nat, j < (Al q).toNat ∧ x = ⟨⟨2, (j : Nat), 0, 0, 0⟩, (32 * (Al q).toNat + 8 * j : Nat), 8⟩) ∨ (∃ l j : Nat, l < Lv q ∧ j < wid q.pa.toNat q.ar.toNat l ∧ x = ⟨⟨3, 0, (l : Nat), (j : Nat), 0⟩, (40 * (Al q).toNat + 32 * (sw q.pa.toNat q.ar.toNat l + j) : Nat), 32⟩) := by
  unfold pts
  rw [if_pos hq, List.mem_append, List.mem_append, mem_dP, mem_tP, mem_iP, or_assoc]
/-- What the document finds at an address. -/
theorem fst_place_some {q : Pl} {m : Int} {x : Pt} (h : fstP (inP m) (pts q) = some x) : hasP q m = true ∧ plAt q m = { x.c with o := m - x.b } := by
  obtain ⟨h1, h2⟩ := fstP_some h
  rw [inP_iff] at h2
  have hq : right q = true := by
    cases hq : right q
    · unfold pts at h1; rw [hq] at h1; simp at h1
    · rfl
  obtain ⟨a0, -⟩ := Al_bounds q
  rw [mem_pts hq] at h1
  rcases h1 with ⟨j, hj, rfl⟩ | ⟨j, hj, rfl⟩ | ⟨l, j, hl, hj, rfl⟩
  · simp only at h2
    obtain ⟨c, rfl⟩ : ∃ c : Nat, m = (c : Int) := ⟨m.toNat, by omega⟩
    obtain ⟨p1, p2, -⟩ := plAt_one (m := c) hq (by omega)
    refine ⟨p1, p2.trans ?_⟩
    simp only [Pc.mk.injEq, true_and]
    omega
  · simp only at h2
    obtain ⟨c, rfl⟩ : ∃ c : Nat, m = (c : Int) := ⟨m.toNat, by omega⟩
    obtain ⟨p1, p2, -⟩ := plAt_two (m := c) hq (by omega) (by omega)
    refine ⟨p1, p2.trans ?_⟩
    simp only [Pc.mk.injEq, true_and]
    omega
  · simp only at h2
    obtain ⟨c, rfl⟩ : ∃ c : Nat, m = (c : Int) := ⟨m.toNat, by omega⟩
    have s1 := sw_mono q.pa.toNat q.ar.toNat (show l + 1 ≤ Lv q from hl)
    rw [sw_succ] at s1
    have EZ : SzI q = 32 * Al q + 8 * Al q + 32 * (sw q.pa.toNat q.ar.toNat (Lv q) : Int) := by unfold SzI; rw [hq]; rfl
    obtain ⟨k, i, e0, p1, p2, -⟩ := plAt_three (m := c) hq (by omega) (by omega)
    rw [itAt_eq hl hj (by omega)] at e0
    injection e0 with e1 e2
    subst e1 e2
    refine ⟨p1, p2.trans ?_⟩
    simp only [Pc.mk.injEq, true_and]
    omega
theorem fst_place_none {q : Pl} {m : Int} (h : fstP (inP m) (pts q) = none) : hasP q m = false ∧ plAt q m = ⟨0, 0, 0, 0, 0⟩ := by
  have h0 := fstP_none h
  have key : hasP q m = false := by
    cases hp : hasP q m
    · rfl
    exfalso
    obtain ⟨g1, g2⟩ : 0 ≤ m ∧ m < SzI q := by
      unfold hasP at hp; simpa using hp
    have hq : right q = true := by
      cases hq : right q
      · unfold SzI at g2; rw [hq] at g2; simp at g2; omega
      · rfl
    obtain ⟨a0, -⟩ := Al_bounds q
    have EZ : SzI q = 32 * Al q + 8 * Al q + 32 * (sw q.pa.toNat q.ar.toNat (Lv q) : Int) := by unfold SzI; rw [hq]; rfl
    obtain ⟨c, rfl⟩ : ∃ c : Nat, m = (c : Int) := ⟨m.toNat, by omega⟩
    have use : ∀ x, x ∈ pts q → x.b ≤ (c : Int) → (c : Int) < x.b + x.n → False := fun x hx h1 h2 => by
      have := h0 x hx
      rw [(inP_iff _ _).2 ⟨h1, h2⟩] at this
      cases this
    by_cases k1 : (c : Int) < 32 * Al q
    · exact use ⟨⟨1, (c / 32 : Nat), 0, 0, 0⟩, (32 * (c / 32) : Nat), 32⟩ ((mem_pts hq).2 (.inl ⟨c / 32, by omega, rfl⟩)) (by simp only; omega) (by simp only; omega)
    by_cases k2 : (c : Int) < 40 * Al q
    · exact use ⟨⟨2, ((c - 32 * (Al q).toNat) / 8 : Nat), 0, 0, 0⟩, (32 * (Al q).toNat + 8 * ((c - 32 * (Al q).toNat) / 8) : Nat), 8⟩ ((mem_pts hq).2 (.inr (.inl ⟨_, by omega, rfl⟩))) (by simp only; omega) (by simp only; omega)
    obtain ⟨k, j, s1, s2, s3⟩ := itAt_ex q.pa.toNat q.ar.toNat (Lv q) ((c - 40 * (Al q).toNat) / 32) (by omega)
    exact use ⟨⟨3, 0, (k : Nat), (j : Nat), 0⟩, (40 * (Al q).toNat + 32 * (sw q.pa.toNat q.ar.toNat k + j) : Nat), 32⟩ ((mem_pts hq).2 (.inr (.inr ⟨k, j, s1, s2, rfl⟩))) (by simp only; omega) (by simp only; omega)
  refine ⟨key, ?_⟩
  unfold plAt
  rw [key]; rfl
/-- What the document finds of a place. -/
theorem fst_data (q : Pl) (n : Int) : (∃ x, fstP (fun y => y.c.same ⟨1, n, 0, 0, 0⟩) (pts q) = some x ∧ hasL q n = true ∧ DaI q n = x.b) ∨ (fstP (fun y => y.c.same ⟨1, n, 0, 0, 0⟩) (pts q) = none ∧ hasL q n = false ∧ DaI q n = 0) := by
  obtain ⟨a0, -⟩ := Al_bounds q
  cases h : fstP (fun y => y.c.same ⟨1, n, 0, 0, 0⟩) (pts q) with
  | some x =>
    obtain ⟨h1, h2⟩ := fstP_some h
    simp only [Pc.same_iff] at h2
    have hq : right q = true := by
      cases hq : right q
      · unfold pts at h1; rw [hq] at h1; simp at h1
      · rfl
    rw [mem_pts hq] at h1
    rcases h1 with ⟨j, hj, rfl⟩ | ⟨j, hj, rfl⟩ | ⟨l, j, hl, hj, rfl⟩
    · simp only [Pc.mk.injEq] at h2
      have hh : hasL q n = true := by unfold hasL; rw [hq, decide_eq_true (by omega), decide_eq_true (by omega)]; rfl
      refine .inl ⟨_, rfl, hh, ?_⟩
      unfold DaI; rw [if_pos hh]; simp only; omega
    · simp only [Pc.mk.injEq] at h2; omega
    · simp only [Pc.mk.injEq] at h2; omega
  | none =>
    have h0 := fstP_none h
    have key : hasL q n = false := by
      cases hp : hasL q n
      · rfl
      exfalso
      obtain ⟨hq, g1, g2⟩ : right q = true ∧ 0 ≤ n ∧ n < Al q := by unfold hasL at hp; simpa using hp
      have := h0 ⟨⟨1, (n.toNat : Nat), 0, 0, 0⟩, (32 * n.toNat : Nat), 32⟩ ((mem_pts hq).2 (.inl ⟨n.toNat, by omega, rfl⟩))
      simp only at this
      rw [(Pc.same_iff _ _).2 (by simp only [Pc.mk.injEq, true_and, and_true]; omega)] at this
      cases this
    refine .inr ⟨rfl, key, ?_⟩
    unfold DaI; rw [key]; rfl
theorem fst_tag (q : Pl) (n : Int) : (∃ x, fstP (fun y => y.c.same ⟨2, n, 0, 0, 0⟩) (pts q) = some x ∧ hasL q n = true ∧ TaI q n = x.b) ∨ (fstP (fun y => y.c.same ⟨2, n, 0, 0, 0⟩) (pts q) = none ∧ hasL q n = false ∧ TaI q n = 0) := by
  obtain ⟨a0, -⟩ := Al_bounds q
  cases h : fstP (fun y => y.c.same ⟨2, n, 0, 0, 0⟩) (pts q) with
  | some x =>
    obtain ⟨h1, h2⟩ := fstP_some h
    simp only [Pc.same_iff] at h2
    have hq : right q = true := by
      cases hq : right q
      · unfold pts at h1; rw [hq] at h1; simp at h1
      · rfl
    rw [mem_pts hq] at h1
    rcases h1 with ⟨j, hj, rfl⟩ | ⟨j, hj, rfl⟩ | ⟨l, j, hl, hj, rfl⟩
    · simp only [Pc.mk.injEq] at h2; omega
    · simp only [Pc.mk.injEq] at h2
      have hh : hasL q n = true := by unfold hasL; rw [hq, decide_eq_true (by omega), decide_eq_true (by omega)]; rfl
      refine .inl ⟨_, rfl, hh, ?_⟩
      unfold TaI; rw [if_pos hh]; simp only; omega
    · simp only [Pc.mk.injEq] at h2; omega
  | none =>
    have h0 := fstP_none h
    have key : hasL q n = false := by
      cases hp : hasL q n
      · rfl
      exfalso
      obtain ⟨hq, g1, g2⟩ : right q = true ∧ 0 ≤ n ∧ n < Al q := by unfold hasL at hp; simpa using hp
      have := h0 ⟨⟨2, (n.toNat : Nat), 0, 0, 0⟩, (32 * (Al q).toNat + 8 * n.toNat : Nat), 8⟩ ((mem_pts hq).2 (.inr (.inl ⟨n.toNat, by omega, rfl⟩)))
      simp only at this
      rw [(Pc.same_iff _ _).2 (by simp only [Pc.mk.injEq, true_and, and_true]; omega)] at this
      cases this
    refine .inr ⟨rfl, key, ?_⟩
    unfold TaI; rw [key]; rfl
theorem hasI_at {q : Pl} {l i : Int} (h : hasI q l i = true) : right q = true ∧ ∃ k j : Nat, l = (k : Int) ∧ i = (j : Int) ∧ k < Lv q ∧ j < wid q.pa.toNat q.ar.toNat k := by
  obtain ⟨hq, g1, g2⟩ : right q = true ∧ 0 ≤ i ∧ i < (Wd q l : Int) := by unfold hasI at h; simpa using h
  refine ⟨hq, l.toNat, i.toNat, ?_⟩
  unfold Wd at g2
  split at g2
  · rename_i hl
    exact ⟨by omega, by omega, by omega, by omega⟩
  · simp at g2; omega
theorem fst_item (q : Pl) (l i : Int) : (∃ x, fstP (fun y => y.c.same ⟨3, 0, l, i, 0⟩) (pts q) = some x ∧ hasI q l i = true ∧ ItI q l i = x.b) ∨ (fstP (fun y => y.c.same ⟨3, 0, l, i, 0⟩) (pts q) = none ∧ hasI q l i = false ∧ ItI q l i = 0) := by
  obtain ⟨a0, -⟩ := Al_bounds q
  cases h : fstP (fun y => y.c.same ⟨3, 0, l, i, 0⟩) (pts q) with
  | some x =>
    obtain ⟨h1, h2⟩ := fstP_some h
    simp only [Pc.same_iff] at h2
    have hq : right q = true := by
      cases hq : right q
      · unfold pts at h1; rw [hq] at h1; simp at h1
      · rfl
    rw [mem_pts hq] at h1
    rcases h1 with ⟨j, hj, rfl⟩ | ⟨j, hj, rfl⟩ | ⟨l', j, hl, hj, rfl⟩
    · simp only [Pc.mk.injEq] at h2; omega
    · simp only [Pc.mk.injEq] at h2; omega
    · simp only [Pc.mk.injEq, true_and, and_true] at h2
      obtain ⟨rfl, rfl⟩ := h2
      have hh := hasI_mk hq hl hj
      refine .inl ⟨_, rfl, hh, ?_⟩
      unfold ItI; rw [if_pos hh]
      have e : ((l' : Nat) : Int).toNat = l' := by omega
      rw [e]; simp only; omega
  | none =>
    have h0 := fstP_none h
    have key : hasI q l i = false := by
      cases hp : hasI q l i
      · rfl
      exfalso
      obtain ⟨hq, k, j, rfl, rfl, g1, g2⟩ := hasI_at hp
      have := h0 ⟨⟨3, 0, (k : Nat), (j : Nat), 0⟩, (40 * (Al q).toNat + 32 * (sw q.pa.toNat q.ar.toNat k + j) : Nat), 32⟩ ((mem_pts hq).2 (.inr (.inr ⟨k, j, g1, g2, rfl⟩)))
      simp only at this
      rw [(Pc.same_iff _ _).2 rfl] at this
      cases this
    refine .inr ⟨rfl, key, ?_⟩
    unfold ItI; rw [key]; rfl
/-- Each part's numbers are small. -/
theorem pts_small {q : Pl} {x : Pt} (h : x ∈ pts q) : 0 ≤ x.b ∧ x.b < 100000 ∧ 0 ≤ x.n ∧ x.n ≤ 32 := by
  have hq : right q = true := by
    cases hq : right q
    · unfold pts at h; rw [hq] at h; simp at h
    · rfl
  obtain ⟨a0, a1⟩ := Al_bounds q
  have sh := sh_of (right_facts hq).2.1
  have s0 := sw_le sh.n1 sh.n2 sh.a1 sh.a2 (Lv q) (by rw [sh.lv (right_facts hq).2.1]; exact Nat.le_refl _)
  rw [mem_pts hq] at h
  rcases h with ⟨j, hj, rfl⟩ | ⟨j, hj, rfl⟩ | ⟨l, j, hl, hj, rfl⟩
  · simp only; omega
  · simp only; omega
  · have s1 := sw_mono q.pa.toNat q.ar.toNat (show l + 1 ≤ Lv q from hl)
    rw [sw_succ] at s1
    simp only; omega
theorem pts_length {q : Pl} (hq : right q = true) : (pts q).length = (Al q).toNat + (Al q).toNat + sw q.pa.toNat q.ar.toNat (Lv q) := by
  unfold pts; rw [if_pos hq, List.length_append, List.length_append, dP_length, tP_length, iP_length]
theorem pts_few (q : Pl) : (pts q).length < 1000 := by
  by_cases hq : right q = true
  · obtain ⟨a0, a1⟩ := Al_bounds q
    have sh := sh_of (right_facts hq).2.1
    have s0 := sw_le sh.n1 sh.n2 sh.a1 sh.a2 (Lv q) (by rw [sh.lv (right_facts hq).2.1]; exact Nat.le_refl _)
    rw [pts_length hq]; omega
  · unfold pts; rw [if_neg hq]; simp
end Go.Proofs.Ytcbpnmcfiohndaa
