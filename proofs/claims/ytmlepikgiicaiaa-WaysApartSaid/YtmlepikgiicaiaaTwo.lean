/- Two caches beside each other; what calls do to the set of one number. No statement is proved here. -/
import Derived.Test.YtmlepikgiicaiaaLawKit
import Derived.LaidEqlPtr
namespace Go.Proofs.Ytmlepikgiicaiaa
open Go.RowKit
set_option linter.unusedVariables false
set_option linter.unusedSimpArgs false

/-- Two caches (blocks ga, ba and gb, bb) of n ways; L: the other blocks. -/
def W2 (w W : World) (n ga ba : Nat) (ca : Cs) (gb bb : Nat) (cb : Cs) (L : Blks) : Prop :=
  ∃ Y : Blks, WC w W ga ba n ca (Y ++ L) ∧ (∃ arr t, (gb, C t arr) ∈ Y) ∧ ∀ W' M, St w W' (Y ++ M) → WC w W' gb bb n cb M
section
variable {w W W' : World} {n ga ba gb bb : Nat} {ca cb ca' cb' : Cs} {L M : Blks}
theorem W2.of (h : WC w W ga ba n ca L) : ∃ Y : Blks, St w W (Y ++ L) ∧ ∀ W' gb bb cb, WC w W' gb bb n cb (Y ++ L) → W2 w W' n gb bb cb ga ba ca L := by
  obtain ⟨Y, _, hm, hs, up⟩ := h.lift
  exact ⟨Y, hs, fun W' gb bb cb h' => ⟨Y, h', ⟨_, _, hm⟩, up⟩⟩
theorem W2.swap (h : W2 w W n ga ba ca gb bb cb L) : W2 w W n gb bb cb ga ba ca L := by
  obtain ⟨Y, h1, hm, up⟩ := h
  obtain ⟨Y1, _, hm1, hs, up1⟩ := h1.lift
  exact ⟨Y1, up W (Y1 ++ L) (hs.perm (List.perm_append_comm_assoc Y1 Y L)), ⟨_, _, hm1⟩, up1⟩
theorem W2.step (h : W2 w W n ga ba ca gb bb cb L) : ∃ X, WC w W ga ba n ca X ∧ ∀ W' ca', WC w W' ga ba n ca' X → W2 w W' n ga ba ca' gb bb cb L := by
  obtain ⟨Y, h1, hm, up⟩ := h
  exact ⟨_, h1, fun W' ca' h' => ⟨Y, h', hm, up⟩⟩
theorem W2.stepN (h : W2 w W n ga ba ca gb bb cb L) : ∃ X, WC w W ga ba n ca X ∧ ∀ W' x, WC w W' ga ba n ca (x :: X) → W2 w W' n ga ba ca gb bb cb (x :: L) := by
  obtain ⟨Y, h1, hm, up⟩ := h
  exact ⟨_, h1, fun W' x h' => ⟨Y, h'.perm List.perm_middle.symm, hm, up⟩⟩
theorem W2.call (h : W2 w W n ga ba ca gb bb cb L) (hb : Below W.heap.size W W') : W2 w W' n ga ba ca gb bb cb L := by
  obtain ⟨X, h1, up⟩ := h.step
  exact up _ _ (h1.call hb)
theorem W2.drewN (h : W2 w W n ga ba ca gb bb cb L) (j : Nat) : W2 w (W.drewN j) n ga ba ca gb bb cb L := by
  obtain ⟨X, h1, up⟩ := h.step
  exact up _ _ (h1.drewN j)
theorem W2.st (h : W2 w W n ga ba ca gb bb cb L) : St w W L := by
  obtain ⟨Y, h1, _⟩ := h
  exact h1.st.sub (List.sublist_append_right Y L)
theorem W2.bel (h : W2 w W n ga ba ca gb bb cb L) : Below w.heap.size w W := h.st.bel
theorem W2.cell (h : W2 w W n ga ba ca gb bb cb L) (i : Nat) {q : Nat} {t : TypeId} {arr : Array Value} (hi : L[i]? = some (q, C t arr)) (j : Nat) (v : Value) (hv : arr[j]? = some v) : W.cell? ⟨q, j, none⟩ = some v := h.st.cell i hi j v hv
theorem W2.at2 (h : W2 w W n ga ba ca gb bb cb L) (i : Nat) {q : Nat} {t : TypeId} {arr : Array Value} (hi : L[i]? = some (q, C t arr)) : At W q t arr := h.st.get i hi
theorem W2.sub (h : W2 w W n ga ba ca gb bb cb L) (hs : M.Sublist L) : W2 w W n ga ba ca gb bb cb M := by
  obtain ⟨Y, h1, hm, up⟩ := h
  exact ⟨Y, h1.sub (hs.append_left Y), hm, up⟩
theorem W2.tail {x : Nat × Obj} (h : W2 w W n ga ba ca gb bb cb (x :: L)) : W2 w W n ga ba ca gb bb cb L := h.sub (List.sublist_cons_self x L)
theorem W2.perm (h : W2 w W n ga ba ca gb bb cb L) (hp : L.Perm M) : W2 w W n ga ba ca gb bb cb M := by
  obtain ⟨Y, h1, hm, up⟩ := h
  exact ⟨Y, h1.perm (hp.append_left Y), hm, up⟩
theorem W2.ne (h : W2 w W n ga ba ca gb bb cb L) : ga ≠ gb := by
  obtain ⟨Y, h1, ⟨_, _, hm⟩, up⟩ := h
  obtain ⟨Y1, _, hm1, hs, up1⟩ := h1.lift
  have hp := hs.nd
  rw [List.pairwise_append] at hp
  exact hp.2.2 _ hm1 _ (List.mem_append_left L hm)
theorem info54 : ∃ j, Try.prog.info? 54 = some j ∧ j.size ≠ 0 := by
  obtain ⟨j, hj, he⟩ := Option.map_eq_some_iff.1 sz54
  exact ⟨j, hj, by omega⟩
theorem eqp_same (u : Nat) (W : World) : (binOp .eql 26 (.pointer (some ⟨u, 0, none⟩)) (.pointer (some ⟨u, 0, none⟩))).run Try.prog W = .ok (.bool true) W := by
  obtain ⟨j, hj, _⟩ := info54
  exact run_eql_ptr_same W _ Try.underlying26 hj
theorem eqp_ne (h : W2 w W n ga ba ca gb bb cb L) (m : Nat) : (binOp .eql 26 (.pointer (some ⟨ga, 0, none⟩)) (.pointer (some ⟨gb, 0, none⟩))).run Try.prog (W.drewN m) = .ok (.bool false) (W.drewN m) := by
  obtain ⟨j, hj, hz⟩ := info54
  have h' := h.drewN m
  obtain ⟨X, h1, _⟩ := h'.step
  obtain ⟨X2, h2, _⟩ := h'.swap.step
  exact run_eql_ptr_other (W.drewN m) Try.underlying26 hj hz (fun e => h.ne (by injection e)) h1.net h2.net
end
section
variable {w W : World} {n ga ba gb bb : Nat} {ca cb : Cs} {L : Blks} {ops : Array Oper} {rest : List Oper} {o : Oper} {a : Act} {Q : Exit → Act → World → Prop}
theorem wpList_alloc_w2 (h : W2 w W n ga ba ca gb bb cb L) (ty : TypeId) (ho : o.op = .alloc ty) (hw : Region.wanted o (yielded ops a.tmps) = true) (v : Value) (arr : Array Value) (hz : ∀ W, (zeroValue ty).run Try.prog W = .ok v W) (hx : v.cells = arr)
    (k : ∀ W', W2 w W' n ga ba ca gb bb cb ((W.heap.size, C ty arr) :: L) → wpList Try.prog ops Q rest (a.put o.dst (.pointer (some ⟨W.heap.size, 0, none⟩))) W') : wpList Try.prog ops Q (o :: rest) a W := by
  obtain ⟨X, h1, up⟩ := h.stepN
  exact wpList_alloc_wc h1 ty ho hw v arr hz hx fun W' h' _ => k W' (up _ _ h')
theorem wpList_store_w2 {q : Nat} {t : TypeId} {arr arr' : Array Value} (h : W2 w W n ga ba ca gb bb cb ((q, C t arr) :: L)) (ty : TypeId) (x y : Operand) (ho : o.op = .store ty x y) (hw : Region.wanted o (yielded ops a.tmps) = true)
    (hx : a.eval x = .pointer (some ⟨q, 0, none⟩)) (hy : a.eval y = .agg arr') (hs : (Try.prog.info? ty).map (·.size) = some arr'.size) (hl : arr'.size = arr.size) (h1 : arr'.all (·.oneCell') = true)
    (k : ∀ W', W2 w W' n ga ba ca gb bb cb ((q, C t arr') :: L) → wpList Try.prog ops Q rest (a.put o.dst undef) W') : wpList Try.prog ops Q (o :: rest) a W := by
  obtain ⟨Y, h2, hm, up⟩ := h
  exact wpList_store_wc (h2.perm List.perm_middle) ty x y ho hw hx hy hs hl h1 fun W' h' => k W' ⟨Y, h'.perm List.perm_middle.symm, hm, up⟩
theorem run_ptrs (p q : Nat) (W : World) : (Instr.buildSlice 51 2 #[(0, .pointer (some ⟨p, 0, none⟩)), (1, .pointer (some ⟨q, 0, none⟩))]).run Try.prog W = .ok (.slice (some ⟨W.heap.size, 0, none⟩) 2 2) (W.alloc (.cells #[.pointer (some ⟨p, 0, none⟩), .pointer (some ⟨q, 0, none⟩)] 26)) := by kernel_rfl
theorem wpList_ptrs_w2 (h : W2 w W n ga ba ca gb bb cb L) (x y : Operand) (ho : o.op = .buildSlice 51 2 #[(0, x), (1, y)]) (hw : Region.wanted o (yielded ops a.tmps) = true) (hx : a.eval x = .pointer (some ⟨ga, 0, none⟩)) (hy : a.eval y = .pointer (some ⟨gb, 0, none⟩))
    (k : ∀ W', W2 w W' n ga ba ca gb bb cb ((W.heap.size, C 26 #[.pointer (some ⟨ga, 0, none⟩), .pointer (some ⟨gb, 0, none⟩)]) :: L) → wpList Try.prog ops Q rest (a.put o.dst (.slice (some ⟨W.heap.size, 0, none⟩) 2 2)) W') : wpList Try.prog ops Q (o :: rest) a W := by
  obtain ⟨X, h1, up⟩ := h.stepN
  unfold wpList
  rw [if_pos hw]
  refine .inl ?_
  unfold Oper.wp execOp
  simp only [ho, Sem.run_bind, List.map_toArray, List.map_cons, List.map_nil, hx, hy, run_ptrs ga gb W, Result.andThen_ok]
  exact k _ (up _ _ (h1.push _))
theorem run_min (ty : TypeId) (ts : Array TypeId) (m r p : Int) (hr : min m p = r) (W : World) : (Builtin.min_ ts ty #[.int .i64 m, .int .i64 p]).run Try.prog W = .ok (.int .i64 r) W := by
  have : (if p < m then p else m) = r := by split <;> omega
  simp [Builtin.min_, Builtin.min2, this]
theorem run_max (ty : TypeId) (ts : Array TypeId) (m r p : Int) (hr : max m p = r) (W : World) : (Builtin.max_ ts ty #[.int .i64 m, .int .i64 p]).run Try.prog W = .ok (.int .i64 r) W := by
  have : (if p > m then p else m) = r := by split <;> omega
  simp [Builtin.max_, Builtin.max2, this]
theorem wpList_min (x : Operand) (m r : Int) (ho : o.op = .call { callee := .builtin .min, args := #[x, .const (.int .i64 64)], argTypes := #[3, 3] }) (hw : Region.wanted o (yielded ops a.tmps) = true) (hx : a.eval x = .int .i64 m) (hr : min m 64 = r)
    (k : wpList Try.prog ops Q rest (a.put o.dst (.int .i64 r)) W) : wpList Try.prog ops Q (o :: rest) a W := by
  have hy : a.eval (.const (.int .i64 64)) = .int .i64 64 := rfl
  unfold wpList
  rw [if_pos hw]
  refine .inl ?_
  unfold Oper.wp execOp
  simp only [ho, resolve, invoke, builtin, Sem.run_bind, Sem.run_pure, Result.andThen_ok, List.map_toArray, List.map_cons, List.map_nil, hx, hy, run_min _ _ m r 64 hr]
  exact k
theorem wpList_max (x : Operand) (m r : Int) (ho : o.op = .call { callee := .builtin .max, args := #[x, .const (.int .i64 1)], argTypes := #[3, 3] }) (hw : Region.wanted o (yielded ops a.tmps) = true) (hx : a.eval x = .int .i64 m) (hr : max m 1 = r)
    (k : wpList Try.prog ops Q rest (a.put o.dst (.int .i64 r)) W) : wpList Try.prog ops Q (o :: rest) a W := by
  have hy : a.eval (.const (.int .i64 1)) = .int .i64 1 := rfl
  unfold wpList
  rw [if_pos hw]
  refine .inl ?_
  unfold Oper.wp execOp
  simp only [ho, resolve, invoke, builtin, Sem.run_bind, Sem.run_pure, Result.andThen_ok, List.map_toArray, List.map_cons, List.map_nil, hx, hy, run_max _ _ m r 1 hr]
  exact k
end
/-- What a call does. -/
def opC (n : Nat) (c : Cs) (x : Cl) : Cs := if x.o = 0 then setC n c x.k x.v else if x.o = 1 then dropC c x.k else touchC c x.k
theorem Inv.op {n : Nat} {c : Cs} (h : Inv n c) (x : Cl) : Inv n (opC n c x) := by
  unfold opC
  split
  · exact h.setC _ _
  · split
    · exact h.drop _
    · exact h.touch _
theorem setC_len (n : Nat) (c : Cs) (k v : Int) : (setC n c k v).length = c.length := by
  unfold setC
  split
  · rfl
  · split
    · exact putC_len _ _ _
    · rfl
theorem touchC_len (c : Cs) (k : Int) : (touchC c k).length = c.length := by
  unfold touchC
  split
  · exact putC_len _ _ _
  · rfl
theorem opC_len (n : Nat) (c : Cs) (x : Cl) : (opC n c x).length = c.length := by
  unfold opC
  split
  · exact setC_len _ _ _ _
  · split
    · exact dropC_len _ _
    · exact touchC_len _ _
section
variable {n : Nat} {ca cb : Cs} {key k : Int}
theorem plc_len (h : ca.length = cb.length) (k : Int) : plc ca k = plc cb k := by unfold plc; rw [h]
theorem sof_plc {c : Cs} (h0 : 0 ≤ k) (h1 : 0 ≤ key) (h : plc c k = plc c key) : sof c k = sof c key := by rw [sof_nn h0, sof_nn h1, h]
/-- Calls of the same set do the same. -/
theorem op_same (ia : Inv n ca) (ib : Inv n cb) (hl : ca.length = cb.length) (h : sof ca key = sof cb key) (h1 : 0 ≤ key) (x : Cl) (h0 : 0 ≤ x.k) (hp : plc ca x.k = plc ca key) : sof (opC n ca x) key = sof (opC n cb x) key := by
  have hp2 : plc cb x.k = plc cb key := by rw [← plc_len hl, ← plc_len hl, hp]
  have e : sof ca x.k = sof cb x.k := by rw [sof_plc h0 h1 hp, sof_plc h0 h1 hp2, h]
  have eo : getO ca x.k = getO cb x.k := by unfold getO; rw [e]
  have ev : getV ca x.k = getV cb x.k := by unfold getV; rw [e]
  have er : room n ca x.k = room n cb x.k := by unfold room; rw [e, eo]
  have eput : ∀ v, sof (putC ca x.k v) key = sof (putC cb x.k v) key := fun v => by rw [sof_put ia h0, sof_put ib h0, h, if_pos ⟨h1, hp.symm⟩, if_pos ⟨h1, hp2.symm⟩]
  unfold opC
  split
  · unfold setC
    have hn : ¬ x.k < 0 := by omega
    simp only [if_neg hn, er]
    split
    · exact eput _
    · exact h
  · split
    · rw [sof_drop ia, sof_drop ib, h]
    · unfold touchC
      rw [eo, ev]
      split
      · exact eput _
      · exact h
/-- Calls of another set change nothing of one. -/
theorem op_other (ia : Inv n ca) (h1 : 0 ≤ key) (x : Cl) (hx : x.k < 0 ∨ plc ca x.k ≠ plc ca key) : sof (opC n ca x) key = sof ca key := by
  have fl : (sof ca key).filter (fun e => e.k ≠ x.k) = sof ca key := by
    refine List.filter_eq_self.2 (fun y hy => ?_)
    have h2 := (ia.sof key).2.2 y hy
    have : y.k ≠ x.k := by
      intro e
      rcases hx with hx | hx
      · omega
      · exact hx (by rw [← e, h2.2])
    simpa using this
  have eput : ∀ v, 0 ≤ x.k → sof (putC ca x.k v) key = sof ca key := fun v h0 => by
    rw [sof_put ia h0, fl, if_neg, List.append_nil]
    rintro ⟨_, h2⟩
    rcases hx with hx | hx
    · omega
    · exact hx h2.symm
  unfold opC
  split
  · unfold setC
    split
    · rfl
    · split
      · exact eput _ (by omega)
      · rfl
  · split
    · rw [sof_drop ia, fl]
    · unfold touchC
      split
      · rename_i ho; exact eput _ (getO_nn ho)
      · rfl
end
end Go.Proofs.Ytmlepikgiicaiaa
