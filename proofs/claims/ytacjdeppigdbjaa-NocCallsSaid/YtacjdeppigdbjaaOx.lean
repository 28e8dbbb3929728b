/- A net beside a map from its links to rows. No statement is proved here. -/
import Derived.Test.YtacjdeppigdbjaaLMap
import Derived.Test.YtacjdeppigdbjaaORow
import Derived.Test.YtacjdeppigdbjaaNet8
namespace Go.Proofs.Ytacjdeppigdbjaa
open Go.RowKit Go.ChangeShapes Go.MapKept Go.ChangeMaps
set_option linter.unusedVariables false
set_option linter.unusedSimpArgs false

theorem flat_at {Bs : List Blks} {i : Nat} {B : Blks} (h : Bs[i]? = some B) : ∃ rest : Blks, Bs.flatten.Perm (B ++ rest) ∧ ∀ B', (Bs.set i B').flatten.Perm (B' ++ rest) := by
  induction Bs generalizing i with
  | nil => simp at h
  | cons C Bs ih =>
    cases i with
    | zero =>
      simp only [List.getElem?_cons_zero, Option.some.injEq] at h
      subst h
      exact ⟨Bs.flatten, by simp, fun B' => by simp⟩
    | succ i =>
      simp only [List.getElem?_cons_succ] at h
      obtain ⟨rest, h1, h2⟩ := ih h
      refine ⟨C ++ rest, ?_, fun B' => ?_⟩
      · rw [List.flatten_cons]
        exact (h1.append_left C).trans (List.perm_append_comm_assoc C B rest)
      · rw [List.set_cons_succ, List.flatten_cons]
        exact ((h2 B').append_left C).trans (List.perm_append_comm_assoc C B' rest)
def Rows10 (nn : Nat) (rr : Nat → List Msg) (f : Lk → Value) (Bs : List Blks) : Prop :=
  Bs.length = lks nn ∧ (∀ l, hasO nn l = true → ∃ B, Bs[idxL nn l]? = some B ∧ RO (f l) (rr (idxL nn l)) B) ∧ ∀ l, hasO nn l = false → f l = .slice none 0 0
theorem idxL_ne {nn : Nat} {l o : Lk} (hl : hasO nn l = true) (ho : hasO nn o = true) (h : o ≠ l) : idxL nn o ≠ idxL nn l := by
  obtain ⟨a, b, d, rfl, h1, h2, h3, e1⟩ := has_nat hl
  obtain ⟨a', b', d', rfl, h1', h2', h3', e2⟩ := has_nat ho
  rw [e1, e2]
  intro e
  obtain ⟨rfl, rfl, rfl⟩ := idx_inj h2' h3' h2 h3 e
  exact h rfl
theorem has_ok {nn : Nat} (h16 : nn ≤ 16) {l : Lk} (h : hasO nn l = true) : l.ok := by
  obtain ⟨a, b, d, rfl, h1, h2, h3, _⟩ := has_nat h
  refine ⟨?_, ?_, ?_⟩ <;> simp [Lit.wf, IntKind.min, IntKind.max, IntKind.bits, IntKind.signed] <;> omega
theorem has_lt {nn : Nat} {l : Lk} (h : hasO nn l = true) : idxL nn l < lks nn := by
  obtain ⟨a, b, d, rfl, h1, h2, h3, e⟩ := has_nat h
  rw [e]
  exact idx_lt h1 h2 h3
theorem Rows10.set {nn : Nat} {rr : Nat → List Msg} {f : Lk → Value} {Bs : List Blks} (h : Rows10 nn rr f Bs) {l : Lk} (hl : hasO nn l = true) {v : Value} {xs : List Msg} {B : Blks} (hr : RO v xs B) : Rows10 nn (upd rr (idxL nn l) xs) (setF f l v) (Bs.set (idxL nn l) B) := by
  obtain ⟨h1, h2, h3⟩ := h
  refine ⟨by simpa using h1, fun o ho => ?_, fun o ho => ?_⟩
  · unfold setF
    by_cases e : o = l
    · subst e
      rw [if_pos rfl]
      refine ⟨B, by rw [List.getElem?_set_self (by rw [h1]; exact has_lt hl)], ?_⟩
      unfold upd
      rw [if_pos rfl]
      exact hr
    · rw [if_neg e]
      have hne := idxL_ne hl ho e
      obtain ⟨B', h4, h5⟩ := h2 o ho
      refine ⟨B', by rw [List.getElem?_set_ne hne.symm]; exact h4, ?_⟩
      unfold upd
      rw [if_neg hne]
      exact h5
  · unfold setF
    rw [if_neg (fun e => by rw [e, hl] at ho; cases ho)]
    exact h3 o ho
section
variable {w W W' : World} {g q u nn R b N : Nat} {ps : List Nat} {cc rr : Nat → List Msg} {f : Lk → Value} {L M : Blks} {l : Lk} {st : Int} {v : Value} {xs : List Msg}
/-- A net, and a map (block b) whose rows are rr; L: the other blocks. -/
def OX (w W : World) (g q u nn R : Nat) (ps : List Nat) (cc rr : Nat → List Msg) (b N : Nat) (f : Lk → Value) (L : Blks) : Prop :=
  ∃ mo Bs, NX w W g q u nn R ps cc (L ++ ((b, mo) :: List.flatten Bs)) ∧ MO mo f N ∧ Rows10 nn rr f Bs
/-- .. while an entry of the map is being changed. -/
def OE (w W : World) (g q u nn R : Nat) (ps : List Nat) (cc rr : Nat → List Msg) (b N : Nat) (f : Lk → Value) (L : Blks) (l : Lk) (st : Int) (v : Value) (xs : List Msg) : Prop :=
  ∃ (mo : Obj) (Bs : List Blks) (rest B : Blks), NX w W g q u nn R ps cc (B ++ ((b, mo) :: (rest ++ L))) ∧ RO v xs B ∧ Rows10 nn rr f Bs ∧ (∀ B', (List.flatten (Bs.set (idxL nn l) B')).Perm (B' ++ rest)) ∧ hasO nn l = true ∧
    ∀ W2 v, W2.heap[b]? = some mo → ∃ o2, (Instr.entryStore 74 (.map (some b)) (goInt st) v).run Try.prog W2 = .ok () (setBlock W2 b o2) ∧ MO o2 (setF f l v) (N + 1)
theorem OX.lift (h : OX w W g q u nn R ps cc rr b N f L) : ∃ Z : Blks, NX w W g q u nn R ps cc (L ++ Z) ∧ ∀ W' ps' cc' M, NX w W' g q u nn R ps' cc' (M ++ Z) → OX w W' g q u nn R ps' cc' rr b N f M := by
  obtain ⟨mo, Bs, h1, h2, h3⟩ := h
  exact ⟨_, h1, fun W' ps' cc' M h' => ⟨mo, Bs, h', h2, h3⟩⟩
theorem OX.nx (h : OX w W g q u nn R ps cc rr b N f L) : NX w W g q u nn R ps cc L := by
  obtain ⟨Z, h1, _⟩ := h.lift
  exact h1.sub (List.sublist_append_left L Z)
theorem OX.bel (h : OX w W g q u nn R ps cc rr b N f L) : Below w.heap.size w W := h.nx.bel
theorem OX.drewN (h : OX w W g q u nn R ps cc rr b N f L) (j : Nat) : OX w (W.drewN j) g q u nn R ps cc rr b N f L := by
  obtain ⟨Z, h1, up⟩ := h.lift
  exact up _ _ _ _ (h1.drewN j)
theorem OX.sub (h : OX w W g q u nn R ps cc rr b N f L) (hs : M.Sublist L) : OX w W g q u nn R ps cc rr b N f M := by
  obtain ⟨Z, h1, up⟩ := h.lift
  exact up _ _ _ _ (h1.sub (hs.append_right Z))
theorem NX.setO {o o' : Obj} (h : NX w W g q u nn R ps cc ((b, o) :: L)) : NX w (setBlock W b o') g q u nn R ps cc ((b, o') :: L) := by
  obtain ⟨Y, _, _, _, hs, up⟩ := h.lift
  have hs' := hs.perm (List.perm_middle)
  have hb := heap_lt (hs'.get 0 rfl)
  have := hs'.putO (W' := setBlock W b o') 0 rfl (o' := o') (by simp [setBlock, hb]) ⟨rfl, rfl, rfl, by simp [setBlock], fun k _ hk => by simp only [setBlock]; rw [Array.getElem?_setIfInBounds_ne (fun e => hk (by rw [e]))]⟩
  exact up _ _ (this.perm (List.perm_middle).symm)
theorem NX.getO {o : Obj} (h : NX w W g q u nn R ps cc L) (hm : (b, o) ∈ L) : W.heap[b]? = some o := h.st.at_ _ hm
theorem OX.look (h : OX w W g q u nn R ps cc rr b N f L) (hl : l.ok) : (Instr.lookup 74 (.map (some b)) (lkv l) false).run Try.prog W = .ok (f l) W := by
  obtain ⟨mo, Bs, h1, h2, h3⟩ := h
  exact h2.look (h1.getO (b := b) (by simp)) hl
theorem OX.nil_ (h : OX w W g q u nn R ps cc rr b N f L) (hl : hasO nn l = false) : f l = .slice none 0 0 := by
  obtain ⟨mo, Bs, h1, h2, h3⟩ := h
  exact h3.2.2 l hl
theorem OX.row (h : OX w W g q u nn R ps cc rr b N f L) (hl : hasO nn l = true) : ∃ A c, f l = .slice A (rr (idxL nn l)).length c ∧ ERow W W.heap.size A (rr (idxL nn l)).length c (rr (idxL nn l)) := by
  obtain ⟨mo, Bs, h1, h2, h3⟩ := h
  obtain ⟨B, hB, hr⟩ := h3.2.1 l hl
  obtain ⟨rest, p1, p2⟩ := flat_at hB
  obtain ⟨A, c, e⟩ := hr.form
  have hp : (L ++ ((b, mo) :: Bs.flatten)).Perm (B ++ (L ++ ((b, mo) :: rest))) := by
    refine ((p1.cons (b, mo)).append_left L).trans ?_
    exact (List.Perm.append_left L (List.perm_middle.symm)).trans (List.perm_append_comm_assoc L B _)
  exact ⟨A, c, e, hr.row (h1.perm hp).st e⟩
/-- An entry is taken. -/
theorem OX.entry (h : OX w W g q u nn R ps cc rr b N f L) (hN : N ≤ 100000) (hl : hasO nn l = true) :
    ∃ st W', (Instr.mapEntry 74 (.map (some b)) (lkv l)).run Try.prog W = .ok (.tuple #[f l, goInt st]) W' ∧ OE w W' g q u nn R ps cc rr b N f L l st (f l) (rr (idxL nn l)) := by
  obtain ⟨mo, Bs, h1, h2, h3⟩ := h
  obtain ⟨B, hB, hr⟩ := h3.2.1 l hl
  obtain ⟨rest, p1, p2⟩ := flat_at hB
  have hp : (L ++ ((b, mo) :: Bs.flatten)).Perm ((b, mo) :: (B ++ (rest ++ L))) := by
    refine ((p1.cons (b, mo)).append_left L).trans ?_
    refine List.perm_append_comm.trans ?_
    rw [List.cons_append, List.append_assoc]
  have h4 := h1.perm hp
  obtain ⟨st, o1, r1, r2⟩ := h2.entry hN (h4.getO (b := b) (by simp)) (has_ok h1.n16 hl)
  exact ⟨st, _, r1, o1, Bs, rest, B, (h4.setO (o' := o1)).perm (List.perm_middle.symm), hr, h3, p2, hl, r2⟩
theorem OE.nx (h : OE w W g q u nn R ps cc rr b N f L l st v xs) : NX w W g q u nn R ps cc L := by
  obtain ⟨mo, Bs, rest, B, h1, _⟩ := h
  exact h1.sub (((List.sublist_append_right rest L).trans (List.sublist_cons_self _ _)).trans (List.sublist_append_right B _))
theorem OE.append (h : OE w W g q u nn R ps cc rr b N f L l st v xs) (m : Msg) (a : Addr) (c : Nat) (hn : ∀ j u, m.cs[j]? = some u → W.cell? (a.add j) = some u) (hl : xs.length ≤ 10000) (ty : TypeId) :
    ∃ v' W', (Builtin.append_ #[41, 41] ty #[v, .slice (some a) 1 c]).run Try.prog W = .ok v' W' ∧ OE w W' g q u nn R ps cc rr b N f L l st v' (xs ++ [m]) := by
  obtain ⟨mo, Bs, rest, B, h1, h2, h3, h4, h5, h6⟩ := h
  obtain ⟨Y, _, _, _, hs, up⟩ := h1.lift
  obtain ⟨v', W', B', r1, r2, r3⟩ := run_append_ro h2 (hs.perm (List.perm_append_comm_assoc Y B _)) m a c hn hl ty
  exact ⟨v', W', r1, mo, Bs, rest, B', up _ _ (r3.perm (List.perm_append_comm_assoc B' Y _)), r2, h3, h4, h5, h6⟩
theorem OE.store (h : OE w W g q u nn R ps cc rr b N f L l st v xs) : ∃ W', (Instr.entryStore 74 (.map (some b)) (goInt st) v).run Try.prog W = .ok () W' ∧ OX w W' g q u nn R ps cc (upd rr (idxL nn l) xs) b (N + 1) (setF f l v) L := by
  obtain ⟨mo, Bs, rest, B, h1, h2, h3, h4, h5, h6⟩ := h
  obtain ⟨o2, r1, r2⟩ := h6 W v (h1.getO (b := b) (by simp))
  refine ⟨_, r1, o2, Bs.set (idxL nn l) B, ?_, r2, h3.set h5 h2⟩
  have h7 := (h1.perm List.perm_middle).setO (o' := o2)
  refine h7.perm ?_
  refine List.Perm.trans ?_ List.perm_append_comm
  rw [List.cons_append]
  refine List.Perm.cons _ ?_
  rw [← List.append_assoc]
  exact (h4 B).symm.append_right L
/-- A row's first message is taken out of the map. -/
theorem OX.update (h : OX w W g q u nn R ps cc rr b N f L) (hl : hasO nn l = true) {A : Option Addr} {n c : Nat} (hv : f l = .slice A n c) (hn : 0 < n) :
    ∃ W', (Instr.mapUpdate 74 (.map (some b)) (lkv l) (.slice (dropA A c 1 38) (n - 1) (c - 1))).run Try.prog W = .ok () W' ∧ OX w W' g q u nn R ps cc (upd rr (idxL nn l) ((rr (idxL nn l)).drop 1)) b (N + 1) (setF f l (.slice (dropA A c 1 38) (n - 1) (c - 1))) L := by
  obtain ⟨mo, Bs, h1, h2, h3⟩ := h
  obtain ⟨B, hB, hr⟩ := h3.2.1 l hl
  obtain ⟨rest, p1, p2⟩ := flat_at hB
  obtain ⟨o', r1, r2⟩ := h2.update (h1.getO (b := b) (by simp)) (has_ok h1.n16 hl) (.slice (dropA A c 1 38) (n - 1) (c - 1))
  refine ⟨_, r1, o', Bs.set (idxL nn l) B, ?_, r2, h3.set hl (hr.rest hv hn)⟩
  have h4 := (h1.perm List.perm_middle).setO (o' := o')
  refine (h4.perm List.perm_middle.symm).perm ?_
  exact ((p1.trans (p2 B).symm).cons (b, o')).append_left L
end
end Go.Proofs.Ytacjdeppigdbjaa
