/- The caches in memory: their block, the row of banks, each bank's row. No statement is proved here. -/
import Derived.Test.YtnogmfpaipjdaaaEq
namespace Go.Proofs.Ytnogmfpaipjdaaa
open Go.RowKit
open P (vals Pl)
set_option linter.unusedVariables false
set_option linter.unusedSimpArgs false

theorem flat_at {Bs : List Blks} {i : Nat} {B : Blks} (h : Bs[i]? = some B) : ∃ rest : Blks, Bs.flatten.Perm (B ++ rest) ∧ ∀ B', (Bs.set i B').flatten.Perm (B' ++ rest) := by
  induction Bs generalizing i with
  | nil => simp at h
  | cons C Bs ih =>
    cases i with
    | zero =>
      simp only [List.getElem?_cons_zero, Option.some.injEq] at h
      subst h
      exact ⟨Bs.flatten, by simp, fun B' => by simp⟩
    | succ i =>
      simp only [List.getElem?_cons_succ] at h
      obtain ⟨rest, h1, h2⟩ := ih h
      refine ⟨C ++ rest, ?_, fun B' => ?_⟩
      · rw [List.flatten_cons]
        exact (h1.append_left C).trans (List.perm_append_comm_assoc C B rest)
      · rw [List.set_cons_succ, List.flatten_cons]
        exact ((h2 B').append_left C).trans (List.perm_append_comm_assoc C B' rest)
/-- The banks: what is cached of each. -/
abbrev Cs := List (List Cd)
/-- The cells of a plan, and one behind them. -/
def pcar (p : Pl) (v : Value) : Array Value := (p.cs ++ [v]).toArray
theorem Pl_arr (p : Pl) : p.arr = p.cs.toArray := by unfold Pl.arr; rfl
theorem pcar_size (p : Pl) (v : Value) : (pcar p v).size = 47 := by simp [pcar, p.cs_length]
theorem pcar_lt (p : Pl) (v : Value) (j : Nat) (h : j < 46) : (pcar p v)[j]? = p.arr[j]? := by
  unfold pcar
  rw [Pl_arr, List.getElem?_toArray, List.getElem?_toArray, List.getElem?_append_left (by rw [p.cs_length]; exact h)]
theorem pcar46 (p : Pl) (v : Value) : (pcar p v)[46]? = some v := by
  unfold pcar
  rw [List.getElem?_toArray, List.getElem?_append_right (by rw [p.cs_length]; omega), p.cs_length]; rfl
theorem pcar_set (p : Pl) (v u : Value) : (pcar p v).setIfInBounds 46 u = pcar p u := by
  unfold pcar
  rw [List.setIfInBounds_toArray, List.set_append_right _ _ (by rw [p.cs_length]; omega), p.cs_length]; rfl
theorem pcar_range {W : World} {g : Nat} {t : TypeId} {p : Pl} {v : Value} (h : At W g t (pcar p v)) : W.rangeAt g 0 p.cs := by
  intro j u hj
  have hl := (List.getElem?_eq_some_iff.1 hj).1
  rw [p.cs_length] at hl
  rw [Nat.zero_add, h.cell j, pcar_lt p v j hl, Pl_arr, List.getElem?_toArray, hj]
/-- The cells of the caches: the plan, the row of banks. -/
def carr (p : Pl) (b S : Nat) : Array Value := pcar p (.slice (some ⟨b, 0, none⟩) S S)
theorem carr_size (p : Pl) (b S : Nat) : (carr p b S).size = 47 := pcar_size _ _
theorem carr_lt (p : Pl) (b S j : Nat) (h : j < 46) : (carr p b S)[j]? = p.arr[j]? := pcar_lt _ _ j h
theorem carr46 (p : Pl) (b S : Nat) : (carr p b S)[46]? = some (.slice (some ⟨b, 0, none⟩) S S) := pcar46 _ _
theorem carr_range {W : World} {g b S : Nat} {p : Pl} (h : At W g 71 (carr p b S)) : W.rangeAt g 0 p.cs := pcar_range h
attribute [irreducible] carr
section
variable {ops : Array Oper} {rest : List Oper} {o : Oper} {a : Act} {W : World} {Q : Exit → Act → World → Prop}
theorem load_pl {b off : Nat} {p : Pl} (hr : W.rangeAt b off p.cs) : (loadVar 28 ⟨b, off, none⟩).run Try.prog W = .ok (.agg p.arr) W := by
  rw [Pl_arr]
  exact run_loadVar_mid (P := Try.prog) W b off 28 p.cs _ hr Try.underlying28 rfl (by rw [p.cs_length]; exact sz28)
theorem wpList_loadPl {b off : Nat} {p : Pl} (hr : W.rangeAt b off p.cs) (x : Operand) (ho : o.op = .load 28 x) (hw : Region.wanted o (yielded ops a.tmps) = true) (hx : a.eval x = .pointer (some ⟨b, off, none⟩))
    (k : wpList Try.prog ops Q rest (a.put o.dst (.agg p.arr)) W) : wpList Try.prog ops Q (o :: rest) a W := by
  unfold wpList
  rw [if_pos hw]
  refine .inl ?_
  unfold Oper.wp execOp
  simp only [ho, hx, Instr.loadAt, Instr.sureAddr, Sem.run_bind, Sem.run_pure, Result.andThen_ok, load_pl hr]
  exact k
theorem yields_pl {S : World → Prop} {b off : Nat} {p : Pl} (x : Operand) (ho : o.op = .load 28 x) (hw : Region.wanted o (yielded ops a.tmps) = true)
    (hx : a.eval x = .pointer (some ⟨b, off, none⟩)) (hS : ∀ W, S W → W.rangeAt b off p.cs) : YieldsIf Try.prog ops S o (.agg p.arr) a :=
  .inl ⟨hw, fun W hW => by
    unfold execOp
    simp only [ho, hx, Instr.loadAt, Instr.sureAddr, Sem.run_bind, Sem.run_pure, Result.andThen_ok, load_pl (hS W hW)]⟩
/-- An element of a row, loaded whole. -/
theorem load_cd {b off : Nat} {e : Cd} (hr : W.rangeAt b off (Elt.cs e)) : (loadVar 59 ⟨b, off, none⟩).run Try.prog W = .ok (.agg e.arr) W :=
  run_loadVar_mid (P := Try.prog) W b off 59 e.cs _ hr Try.underlying59 rfl (by rw [e.cs_length]; exact sz59)
theorem load_it {b off : Nat} {e : It} (hr : W.rangeAt b off (Elt.cs e)) : (loadVar 42 ⟨b, off, none⟩).run Try.prog W = .ok (.agg e.arr) W :=
  run_loadVar_mid (P := Try.prog) W b off 42 e.cs _ hr Try.underlying42 rfl sz42
theorem load_ln {b off : Nat} {xs : List Nat} (h : xs.length = 32) (hr : W.rangeAt b off (vals xs)) : (loadVar 44 ⟨b, off, none⟩).run Try.prog W = .ok (.agg (lnA xs)) W :=
  run_loadVar_mid (P := Try.prog) W b off 44 (vals xs) _ hr Try.underlying44 rfl (by rw [vals_length, h]; exact sz44)
theorem wpList_load_run {t : TypeId} {b off : Nat} {v : Value} (hl : (loadVar t ⟨b, off, none⟩).run Try.prog W = .ok v W) (x : Operand) (ho : o.op = .load t x) (hw : Region.wanted o (yielded ops a.tmps) = true) (hx : a.eval x = .pointer (some ⟨b, off, none⟩))
    (k : wpList Try.prog ops Q rest (a.put o.dst v) W) : wpList Try.prog ops Q (o :: rest) a W := by
  unfold wpList
  rw [if_pos hw]
  refine .inl ?_
  unfold Oper.wp execOp
  simp only [ho, hx, Instr.loadAt, Instr.sureAddr, Sem.run_bind, Sem.run_pure, Result.andThen_ok, hl]
  exact k
theorem wpList_loadCd {b off : Nat} {e : Cd} (hr : W.rangeAt b off (Elt.cs e)) (x : Operand) (ho : o.op = .load 59 x) (hw : Region.wanted o (yielded ops a.tmps) = true) (hx : a.eval x = .pointer (some ⟨b, off, none⟩))
    (k : wpList Try.prog ops Q rest (a.put o.dst (.agg e.arr)) W) : wpList Try.prog ops Q (o :: rest) a W := wpList_load_run (load_cd hr) x ho hw hx k
theorem wpList_loadIt {b off : Nat} {e : It} (hr : W.rangeAt b off (Elt.cs e)) (x : Operand) (ho : o.op = .load 42 x) (hw : Region.wanted o (yielded ops a.tmps) = true) (hx : a.eval x = .pointer (some ⟨b, off, none⟩))
    (k : wpList Try.prog ops Q rest (a.put o.dst (.agg e.arr)) W) : wpList Try.prog ops Q (o :: rest) a W := wpList_load_run (load_it hr) x ho hw hx k
theorem wpList_loadLn {b off : Nat} {xs : List Nat} (h : xs.length = 32) (hr : W.rangeAt b off (vals xs)) (x : Operand) (ho : o.op = .load 44 x) (hw : Region.wanted o (yielded ops a.tmps) = true) (hx : a.eval x = .pointer (some ⟨b, off, none⟩))
    (k : wpList Try.prog ops Q rest (a.put o.dst (.agg (lnA xs))) W) : wpList Try.prog ops Q (o :: rest) a W := wpList_load_run (load_ln h hr) x ho hw hx k
theorem yields_run {S : World → Prop} {t : TypeId} {b off : Nat} {v : Value} (x : Operand) (ho : o.op = .load t x) (hw : Region.wanted o (yielded ops a.tmps) = true)
    (hx : a.eval x = .pointer (some ⟨b, off, none⟩)) (hS : ∀ W, S W → (loadVar t ⟨b, off, none⟩).run Try.prog W = .ok v W) : YieldsIf Try.prog ops S o v a :=
  .inl ⟨hw, fun W hW => by
    unfold execOp
    simp only [ho, hx, Instr.loadAt, Instr.sureAddr, Sem.run_bind, Sem.run_pure, Result.andThen_ok, hS W hW]⟩
end
/-- The item, the bytes of what stands somewhere in memory. -/
theorem range_it {W : World} {b o : Nat} {e : Cd} (hr : W.rangeAt b o e.cs) : W.rangeAt b o (Elt.cs e.it) := fun j v hj => hr j v (e.cs_items j v hj)
theorem range_ln {W : World} {b o : Nat} {e : Cd} (hr : W.rangeAt b o e.cs) : W.rangeAt b (o + 3) (vals e.bs) := fun j v hj => by
  have := hr (3 + j) v (e.cs_bytes j v hj)
  rwa [show o + (3 + j) = o + 3 + j by omega] at this
theorem at_cd {W : World} {b : Nat} {t : TypeId} {e : Cd} (h : At W b t e.arr) : W.rangeAt b 0 e.cs := fun j v hj => by
  rw [h.cell, Nat.zero_add]; unfold Cd.arr; rw [List.getElem?_toArray, hj]
theorem at_it {W : World} {b : Nat} {t : TypeId} {e : It} (h : At W b t e.arr) : W.rangeAt b 0 (Elt.cs e) := fun j v hj => by
  rw [h.cell, Nat.zero_add, ← It.arr_eq]; rw [List.getElem?_toArray]; exact hj
theorem at_ln {W : World} {b : Nat} {t : TypeId} {xs : List Nat} (h : At W b t (lnA xs)) : W.rangeAt b 0 (vals xs) := fun j v hj => by
  rw [h.cell, Nat.zero_add]; unfold lnA; rw [List.getElem?_toArray, hj]
/-- The sets' rows are in memory: vs their values, Ms their blocks. -/
def Sets (c : Cs) (vs : List Value) (Ms : List Blks) : Prop :=
  vs.length = c.length ∧ Ms.length = c.length ∧ ∀ (i : Nat) (xs : List Cd), c[i]? = some xs → ∃ v M, vs[i]? = some v ∧ Ms[i]? = some M ∧ RL v xs M
/-- A cache (block g, its row of sets b) of the plan n, with the entries c; L: the other blocks. -/
def WC (w W : World) (g b : Nat) (n : Pl) (c : Cs) (L : Blks) : Prop :=
  1 ≤ c.length ∧ c.length ≤ 64 ∧ ∃ vs Ms, Sets c vs Ms ∧ St w W (Ms.flatten ++ ((g, C 71 (carr n b c.length)) :: (b, C 38 vs.toArray) :: L))
theorem rl_cells {v : Value} {xs : List Cd} {M : Blks} (h : RL v xs M) : v.cells = #[v] ∧ v.oneCell' = true := by
  obtain ⟨A, c, rfl, _⟩ := h.form
  exact ⟨rfl, rfl⟩
section
variable {w W W' : World} {g b : Nat} {n : Pl} {c : Cs} {L M : Blks}
theorem WC.pos (h : WC w W g b n c L) : 1 ≤ c.length := h.1
theorem WC.s64 (h : WC w W g b n c L) : c.length ≤ 64 := h.2.1
theorem WC.lift (h : WC w W g b n c L) : ∃ Y : Blks, 2 ≤ Y.length ∧ (g, C 71 (carr n b c.length)) ∈ Y ∧ St w W (Y ++ L) ∧ ∀ W' M, St w W' (Y ++ M) → WC w W' g b n c M := by
  obtain ⟨h1, h2, vs, Ms, h3, hs⟩ := h
  refine ⟨Ms.flatten ++ [(g, C 71 (carr n b c.length)), (b, C 38 vs.toArray)], by simp, by simp, ?_, fun W' M h' => ⟨h1, h2, vs, Ms, h3, ?_⟩⟩
  · simpa [List.append_assoc] using hs
  · simpa [List.append_assoc] using h'
theorem WC.st (h : WC w W g b n c L) : St w W L := by
  obtain ⟨Y, _, _, hs, _⟩ := h.lift
  exact hs.sub (List.sublist_append_right Y L)
theorem WC.bel (h : WC w W g b n c L) : Below w.heap.size w W := h.st.bel
theorem WC.net (h : WC w W g b n c L) : At W g 71 (carr n b c.length) := by
  obtain ⟨Y, _, h1, hs, _⟩ := h.lift
  exact hs.at_ _ (List.mem_append_left L h1)
theorem WC.cell46 (h : WC w W g b n c L) : W.cell? ⟨g, 46, none⟩ = some (.slice (some ⟨b, 0, none⟩) c.length c.length) := (h.net.cell 46).trans (carr46 n b c.length)
theorem WC.plan (h : WC w W g b n c L) : W.rangeAt g 0 n.cs := carr_range h.net
theorem WC.c1 (h : WC w W g b n c L) : W.cell? ⟨g, 1, none⟩ = some (.int .i64 n.ba) := (h.net.cell 1).trans ((carr_lt n b c.length 1 (by omega)).trans n.at1)
theorem WC.c4 (h : WC w W g b n c L) : W.cell? ⟨g, 4, none⟩ = some (.int .i64 n.ar) := (h.net.cell 4).trans ((carr_lt n b c.length 4 (by omega)).trans n.at4)
theorem WC.c11 (h : WC w W g b n c L) : W.cell? ⟨g, 11, none⟩ = some (.int .i64 n.me) := (h.net.cell 11).trans ((carr_lt n b c.length 11 (by omega)).trans n.at11)
theorem WC.drewN (h : WC w W g b n c L) (j : Nat) : WC w (W.drewN j) g b n c L := by
  obtain ⟨Y, _, _, hs, up⟩ := h.lift
  exact up _ _ (hs.drewN j)
theorem WC.call (h : WC w W g b n c L) (hb : Below W.heap.size W W') : WC w W' g b n c L := by
  obtain ⟨Y, _, _, hs, up⟩ := h.lift
  exact up _ _ (hs.call hb)
theorem WC.sub (h : WC w W g b n c L) (hs : M.Sublist L) : WC w W g b n c M := by
  obtain ⟨Y, _, _, hs', up⟩ := h.lift
  exact up _ _ (hs'.sub (hs.append_left Y))
theorem WC.perm (h : WC w W g b n c L) (hp : L.Perm M) : WC w W g b n c M := by
  obtain ⟨Y, _, _, hs', up⟩ := h.lift
  exact up _ _ (hs'.perm (hp.append_left Y))
theorem WC.tail {x : Nat × Obj} (h : WC w W g b n c (x :: L)) : WC w W g b n c L := h.sub (List.sublist_cons_self x L)
theorem WC.at2 (h : WC w W g b n c L) (i : Nat) {q : Nat} {t : TypeId} {arr : Array Value} (hi : L[i]? = some (q, C t arr)) : At W q t arr := h.st.get i hi
theorem WC.cell (h : WC w W g b n c L) (i : Nat) {q : Nat} {t : TypeId} {arr : Array Value} (hi : L[i]? = some (q, C t arr)) (j : Nat) (v : Value) (hv : arr[j]? = some v) : W.cell? ⟨q, j, none⟩ = some v := h.st.cell i hi j v hv
theorem WC.push (h : WC w W g b n c L) (o : Obj) : WC w (W.alloc o) g b n c ((W.heap.size, o) :: L) := by
  obtain ⟨Y, _, _, hs, up⟩ := h.lift
  refine up _ _ ((hs.pushO o).perm ?_)
  rw [List.append_assoc]
  exact (List.perm_append_singleton _ L).append_left Y
theorem WC.glt (h : WC w W g b n c L) : g < W.heap.size := h.net.lt
/-- A set's row: where it stands. -/
theorem WC.set_at (h : WC w W g b n c L) (i : Nat) (hi : i < c.length) : ∃ A p, W.cell? ⟨b, i, none⟩ = some (.slice A (c.getD i []).length p) ∧ ERow W W.heap.size A (c.getD i []).length p (c.getD i []) := by
  obtain ⟨h1, h2, vs, Ms, ⟨h3, h4, h5⟩, hs⟩ := h
  have e : c[i]? = some (c.getD i []) := by rw [List.getElem?_eq_getElem hi, List.getD_eq_getElem?_getD, List.getElem?_eq_getElem hi]; rfl
  obtain ⟨v, M, q1, q2, q3⟩ := h5 i _ e
  obtain ⟨A, p, e2, _⟩ := q3.form
  obtain ⟨rest, p1, p2⟩ := flat_at q2
  have hA : At W b 38 vs.toArray := hs.at_ (b, C 38 vs.toArray) (by simp)
  refine ⟨A, p, ?_, ?_⟩
  · rw [hA.cell, ← e2]
    simpa using q1
  · refine q3.row (L := rest ++ ((g, C 71 (carr n b c.length)) :: (b, C 38 vs.toArray) :: L)) (hs.perm ?_) e2
    rw [← List.append_assoc]
    exact p1.append_right _
/-- One set's row is taken out; and put back, changed or not. -/
theorem WC.open_ (h : WC w W g b n c L) (i : Nat) (hi : i < c.length) : ∃ (v : Value) (M Z : Blks) (vs : List Value), RL v (c.getD i []) M ∧ vs[i]? = some v ∧ St w W (M ++ ((g, C 71 (carr n b c.length)) :: (b, C 38 vs.toArray) :: (Z ++ L))) ∧
    ∀ W' v' xs' M' N, RL v' xs' M' → St w W' (M' ++ ((g, C 71 (carr n b c.length)) :: (b, C 38 (vs.set i v').toArray) :: (Z ++ N))) → WC w W' g b n (c.set i xs') N := by
  obtain ⟨h1, h2, vs, Ms, ⟨h3, h4, h5⟩, hs⟩ := h
  have e : c[i]? = some (c.getD i []) := by rw [List.getElem?_eq_getElem hi, List.getD_eq_getElem?_getD, List.getElem?_eq_getElem hi]; rfl
  obtain ⟨v, M, q1, q2, q3⟩ := h5 i _ e
  obtain ⟨rest, p1, p2⟩ := flat_at q2
  have mv : ∀ (x y : Nat × Obj) (N : Blks), (rest ++ (x :: y :: N)).Perm (x :: y :: (rest ++ N)) := fun x y N => List.perm_append_comm_assoc rest [x, y] N
  refine ⟨v, M, rest, vs, q3, q1, hs.perm ?_, fun W' v' xs' M' N hr h' => ⟨by simpa using h1, by simpa using h2, vs.set i v', Ms.set i M', ⟨by simpa using h3, by simpa using h4, fun j xs hj => ?_⟩, ?_⟩⟩
  · refine (p1.append_right _).trans ?_
    rw [List.append_assoc]
    exact (mv _ _ _).append_left M
  · by_cases hji : j = i
    · subst hji
      rw [List.getElem?_set_self hi] at hj
      injection hj with hj
      subst hj
      exact ⟨v', M', by rw [List.getElem?_set_self (by omega)], by rw [List.getElem?_set_self (by omega)], hr⟩
    · rw [List.getElem?_set_ne (Ne.symm hji)] at hj ⊢
      rw [List.getElem?_set_ne (Ne.symm hji)]
      exact h5 j xs hj
  · rw [List.length_set]
    refine h'.perm ?_
    refine List.Perm.trans ?_ ((p2 M').symm.append_right _)
    rw [List.append_assoc]
    exact (mv _ _ _).symm.append_left M'
end
end Go.Proofs.Ytnogmfpaipjdaaa
