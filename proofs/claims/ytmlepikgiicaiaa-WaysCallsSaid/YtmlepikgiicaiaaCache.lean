/- A cache in memory: its block, its row of sets, each set's row. No statement is proved here. -/
import Derived.Test.YtmlepikgiicaiaaEnt
namespace Go.Proofs.Ytmlepikgiicaiaa
open Go.RowKit
set_option linter.unusedVariables false
set_option linter.unusedSimpArgs false

theorem flat_at {Bs : List Blks} {i : Nat} {B : Blks} (h : Bs[i]? = some B) : ∃ rest : Blks, Bs.flatten.Perm (B ++ rest) ∧ ∀ B', (Bs.set i B').flatten.Perm (B' ++ rest) := by
  induction Bs generalizing i with
  | nil => simp at h
  | cons C Bs ih =>
    cases i with
    | zero =>
      simp only [List.getElem?_cons_zero, Option.some.injEq] at h
      subst h
      exact ⟨Bs.flatten, by simp, fun B' => by simp⟩
    | succ i =>
      simp only [List.getElem?_cons_succ] at h
      obtain ⟨rest, h1, h2⟩ := ih h
      refine ⟨C ++ rest, ?_, fun B' => ?_⟩
      · rw [List.flatten_cons]
        exact (h1.append_left C).trans (List.perm_append_comm_assoc C B rest)
      · rw [List.set_cons_succ, List.flatten_cons]
        exact ((h2 B').append_left C).trans (List.perm_append_comm_assoc C B' rest)
/-- A cache's sets: the entries of each. -/
abbrev Cs := List (List Ent)
/-- The entries of a number's set; a number below 0 is of none. -/
def sof (c : Cs) (k : Int) : List Ent := if k < 0 then [] else c.getD (k.toNat % c.length) []
/-- The two cells of a cache: its ways, its row of sets. -/
def carr (n b S : Nat) : Array Value := #[.int .i64 (n : Int), .slice (some ⟨b, 0, none⟩) S S]
/-- The sets' rows are in memory: vs their values, Ms their blocks. -/
def Sets (c : Cs) (vs : List Value) (Ms : List Blks) : Prop :=
  vs.length = c.length ∧ Ms.length = c.length ∧ ∀ (i : Nat) (xs : List Ent), c[i]? = some xs → ∃ v M, vs[i]? = some v ∧ Ms[i]? = some M ∧ RL v xs M
/-- A cache (block g, its row of sets b) of n ways, with the entries c; L: the other blocks. -/
def WC (w W : World) (g b n : Nat) (c : Cs) (L : Blks) : Prop :=
  1 ≤ c.length ∧ c.length ≤ 64 ∧ ∃ vs Ms, Sets c vs Ms ∧ St w W (Ms.flatten ++ ((g, C 54 (carr n b c.length)) :: (b, C 55 vs.toArray) :: L))
theorem rl_cells {v : Value} {xs : List Ent} {M : Blks} (h : RL v xs M) : v.cells = #[v] ∧ v.oneCell' = true := by
  obtain ⟨A, c, rfl, _⟩ := h.form
  exact ⟨rfl, rfl⟩
section
variable {w W W' : World} {g b n : Nat} {c : Cs} {L M : Blks}
theorem WC.pos (h : WC w W g b n c L) : 1 ≤ c.length := h.1
theorem WC.s64 (h : WC w W g b n c L) : c.length ≤ 64 := h.2.1
theorem WC.lift (h : WC w W g b n c L) : ∃ Y : Blks, 2 ≤ Y.length ∧ (g, C 54 (carr n b c.length)) ∈ Y ∧ St w W (Y ++ L) ∧ ∀ W' M, St w W' (Y ++ M) → WC w W' g b n c M := by
  obtain ⟨h1, h2, vs, Ms, h3, hs⟩ := h
  refine ⟨Ms.flatten ++ [(g, C 54 (carr n b c.length)), (b, C 55 vs.toArray)], by simp, by simp, ?_, fun W' M h' => ⟨h1, h2, vs, Ms, h3, ?_⟩⟩
  · simpa [List.append_assoc] using hs
  · simpa [List.append_assoc] using h'
theorem WC.st (h : WC w W g b n c L) : St w W L := by
  obtain ⟨Y, _, _, hs, _⟩ := h.lift
  exact hs.sub (List.sublist_append_right Y L)
theorem WC.bel (h : WC w W g b n c L) : Below w.heap.size w W := h.st.bel
theorem WC.net (h : WC w W g b n c L) : At W g 54 (carr n b c.length) := by
  obtain ⟨Y, _, h1, hs, _⟩ := h.lift
  exact hs.at_ _ (List.mem_append_left L h1)
theorem WC.c0 (h : WC w W g b n c L) : W.cell? ⟨g, 0, none⟩ = some (.int .i64 (n : Int)) := h.net.cell 0
theorem WC.c1 (h : WC w W g b n c L) : W.cell? ⟨g, 1, none⟩ = some (.slice (some ⟨b, 0, none⟩) c.length c.length) := h.net.cell 1
theorem WC.drewN (h : WC w W g b n c L) (j : Nat) : WC w (W.drewN j) g b n c L := by
  obtain ⟨Y, _, _, hs, up⟩ := h.lift
  exact up _ _ (hs.drewN j)
theorem WC.call (h : WC w W g b n c L) (hb : Below W.heap.size W W') : WC w W' g b n c L := by
  obtain ⟨Y, _, _, hs, up⟩ := h.lift
  exact up _ _ (hs.call hb)
theorem WC.sub (h : WC w W g b n c L) (hs : M.Sublist L) : WC w W g b n c M := by
  obtain ⟨Y, _, _, hs', up⟩ := h.lift
  exact up _ _ (hs'.sub (hs.append_left Y))
theorem WC.perm (h : WC w W g b n c L) (hp : L.Perm M) : WC w W g b n c M := by
  obtain ⟨Y, _, _, hs', up⟩ := h.lift
  exact up _ _ (hs'.perm (hp.append_left Y))
theorem WC.tail {x : Nat × Obj} (h : WC w W g b n c (x :: L)) : WC w W g b n c L := h.sub (List.sublist_cons_self x L)
theorem WC.at2 (h : WC w W g b n c L) (i : Nat) {q : Nat} {t : TypeId} {arr : Array Value} (hi : L[i]? = some (q, C t arr)) : At W q t arr := h.st.get i hi
theorem WC.cell (h : WC w W g b n c L) (i : Nat) {q : Nat} {t : TypeId} {arr : Array Value} (hi : L[i]? = some (q, C t arr)) (j : Nat) (v : Value) (hv : arr[j]? = some v) : W.cell? ⟨q, j, none⟩ = some v := h.st.cell i hi j v hv
theorem WC.push (h : WC w W g b n c L) (o : Obj) : WC w (W.alloc o) g b n c ((W.heap.size, o) :: L) := by
  obtain ⟨Y, _, _, hs, up⟩ := h.lift
  refine up _ _ ((hs.pushO o).perm ?_)
  rw [List.append_assoc]
  exact (List.perm_append_singleton _ L).append_left Y
theorem WC.glt (h : WC w W g b n c L) : g < W.heap.size := h.net.lt
/-- A set's row: where it stands. -/
theorem WC.set_at (h : WC w W g b n c L) (i : Nat) (hi : i < c.length) : ∃ A p, W.cell? ⟨b, i, none⟩ = some (.slice A (c.getD i []).length p) ∧ ERow W W.heap.size A (c.getD i []).length p (c.getD i []) := by
  obtain ⟨h1, h2, vs, Ms, ⟨h3, h4, h5⟩, hs⟩ := h
  have e : c[i]? = some (c.getD i []) := by rw [List.getElem?_eq_getElem hi, List.getD_eq_getElem?_getD, List.getElem?_eq_getElem hi]; rfl
  obtain ⟨v, M, q1, q2, q3⟩ := h5 i _ e
  obtain ⟨A, p, e2, _⟩ := q3.form
  obtain ⟨rest, p1, p2⟩ := flat_at q2
  have hA : At W b 55 vs.toArray := hs.at_ (b, C 55 vs.toArray) (by simp)
  refine ⟨A, p, ?_, ?_⟩
  · rw [hA.cell, ← e2]
    simpa using q1
  · refine q3.row (L := rest ++ ((g, C 54 (carr n b c.length)) :: (b, C 55 vs.toArray) :: L)) (hs.perm ?_) e2
    rw [← List.append_assoc]
    exact p1.append_right _
/-- One set's row is taken out; and put back, changed or not. -/
theorem WC.open_ (h : WC w W g b n c L) (i : Nat) (hi : i < c.length) : ∃ (v : Value) (M Z : Blks) (vs : List Value), RL v (c.getD i []) M ∧ vs[i]? = some v ∧ St w W (M ++ ((g, C 54 (carr n b c.length)) :: (b, C 55 vs.toArray) :: (Z ++ L))) ∧
    ∀ W' v' xs' M' N, RL v' xs' M' → St w W' (M' ++ ((g, C 54 (carr n b c.length)) :: (b, C 55 (vs.set i v').toArray) :: (Z ++ N))) → WC w W' g b n (c.set i xs') N := by
  obtain ⟨h1, h2, vs, Ms, ⟨h3, h4, h5⟩, hs⟩ := h
  have e : c[i]? = some (c.getD i []) := by rw [List.getElem?_eq_getElem hi, List.getD_eq_getElem?_getD, List.getElem?_eq_getElem hi]; rfl
  obtain ⟨v, M, q1, q2, q3⟩ := h5 i _ e
  obtain ⟨rest, p1, p2⟩ := flat_at q2
  have mv : ∀ (x y : Nat × Obj) (N : Blks), (rest ++ (x :: y :: N)).Perm (x :: y :: (rest ++ N)) := fun x y N => List.perm_append_comm_assoc rest [x, y] N
  refine ⟨v, M, rest, vs, q3, q1, hs.perm ?_, fun W' v' xs' M' N hr h' => ⟨by simpa using h1, by simpa using h2, vs.set i v', Ms.set i M', ⟨by simpa using h3, by simpa using h4, fun j xs hj => ?_⟩, ?_⟩⟩
  · refine (p1.append_right _).trans ?_
    rw [List.append_assoc]
    exact (mv _ _ _).append_left M
  · by_cases hji : j = i
    · subst hji
      rw [List.getElem?_set_self hi] at hj
      injection hj with hj
      subst hj
      exact ⟨v', M', by rw [List.getElem?_set_self (by omega)], by rw [List.getElem?_set_self (by omega)], hr⟩
    · rw [List.getElem?_set_ne (Ne.symm hji)] at hj ⊢
      rw [List.getElem?_set_ne (Ne.symm hji)]
      exact h5 j xs hj
  · rw [List.length_set]
    refine h'.perm ?_
    refine List.Perm.trans ?_ ((p2 M').symm.append_right _)
    rw [List.append_assoc]
    exact (mv _ _ _).symm.append_left M'
end
end Go.Proofs.Ytmlepikgiicaiaa
