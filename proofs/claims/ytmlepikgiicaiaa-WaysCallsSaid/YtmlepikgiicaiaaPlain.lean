/- What a cache's sets hold, and how calls change it: plain facts. No statement is proved here. -/
import Derived.Test.YtmlepikgiicaiaaSpeaks
namespace Go.Proofs.Ytmlepikgiicaiaa
set_option linter.unusedVariables false
set_option linter.unusedSimpArgs false

/-- What stands by k in a row. -/
def lookL (xs : List Ent) (k : Int) : Option Int := (xs.find? (fun e => e.k == k)).map (·.v)
theorem look_none {xs : List Ent} {k : Int} (h : fnd xs k = none) : lookL xs k = none := by
  unfold fnd at h
  rw [List.findIdx?_eq_none_iff] at h
  unfold lookL
  rw [List.find?_eq_none.2 (fun e he => by have := h e he; simpa using this)]
  rfl
theorem split_at {xs : List Ent} {i : Nat} {x : Ent} (h : xs[i]? = some x) : xs = xs.take i ++ x :: xs.drop (i + 1) := by
  obtain ⟨hi, rfl⟩ := List.getElem?_eq_some_iff.1 h
  rw [← List.drop_eq_getElem_cons hi, List.take_append_drop]
theorem take_ne {xs : List Ent} {k : Int} {i : Nat} (h : ∀ j y, j < i → xs[j]? = some y → y.k ≠ k) : ∀ e ∈ xs.take i, e.k ≠ k := by
  intro e he
  obtain ⟨j, hj⟩ := List.getElem?_of_mem he
  rw [List.getElem?_take] at hj
  split at hj
  · rename_i h1; exact h j e h1 hj
  · cases hj
theorem look_some {xs : List Ent} {k : Int} {i : Nat} (h : fnd xs k = some i) : lookL xs k = some (xs.getD i default).v := by
  obtain ⟨x, hx, hk, hall⟩ := fnd_spec h
  have e : xs.getD i default = x := by rw [List.getD_eq_getElem?_getD, hx]; rfl
  rw [e]
  unfold lookL
  rw [split_at hx, List.find?_append, List.find?_eq_none.2 (fun e he => by have := take_ne hall e he; simpa using this)]
  simp [hk]
theorem getO_look (c : Cs) (k : Int) : getO c k = (lookL (sof c k) k).isSome := by
  unfold getO
  cases h : fnd (sof c k) k with
  | none => rw [look_none h]; rfl
  | some i => rw [look_some h]; rfl
theorem getV_look (c : Cs) (k : Int) : getV c k = (lookL (sof c k) k).getD 0 := by
  unfold getV
  cases h : fnd (sof c k) k with
  | none => rw [look_none h]; rfl
  | some i => rw [look_some h]; rfl
theorem lookL_append (xs ys : List Ent) (k : Int) : lookL (xs ++ ys) k = (lookL xs k).or (lookL ys k) := by
  unfold lookL
  rw [List.find?_append]
  cases List.find? (fun e => e.k == k) xs <;> simp
theorem lookL_filter {xs : List Ent} {k j : Int} (h : j ≠ k) : lookL (xs.filter (fun e => e.k ≠ k)) j = lookL xs j := by
  unfold lookL
  rw [List.find?_filter]
  congr 2
  funext e
  by_cases he : e.k = j
  · simp [he, h]
  · simp [he]
theorem lookL_gone {xs : List Ent} {k : Int} : lookL (xs.filter (fun e => e.k ≠ k)) k = none := by
  unfold lookL
  rw [List.find?_eq_none.2]
  · rfl
  · intro e he
    have := (List.mem_filter.1 he).2
    simpa using this
/-- The sets hold at most n each, no number twice, each number in its own set. -/
structure Inv (n : Nat) (c : Cs) : Prop where
  pos : 1 ≤ c.length
  each : ∀ (i : Nat) (xs : List Ent), c[i]? = some xs → xs.length ≤ n ∧ (xs.map (·.k)).Nodup ∧ ∀ e ∈ xs, 0 ≤ e.k ∧ plc c e.k = i
theorem Inv.new (n S : Nat) (h : 1 ≤ S) : Inv n (List.replicate S []) := by
  refine ⟨by simpa using h, fun i xs hx => ?_⟩
  rw [List.getElem?_replicate] at hx
  split at hx
  · injection hx with hx; subst hx; simp
  · cases hx
section
variable {n : Nat} {c : Cs}
theorem plc_set (c : Cs) (i : Nat) (ys : List Ent) (k : Int) : plc (c.set i ys) k = plc c k := by unfold plc; rw [List.length_set]
theorem Inv.set (h : Inv n c) (i : Nat) (ys : List Ent) (h1 : ys.length ≤ n) (h2 : (ys.map (·.k)).Nodup) (h3 : ∀ e ∈ ys, 0 ≤ e.k ∧ plc c e.k = i) : Inv n (c.set i ys) := by
  refine ⟨by rw [List.length_set]; exact h.pos, fun j xs hj => ?_⟩
  simp only [plc_set]
  rw [List.getElem?_set] at hj
  split at hj
  · rename_i e
    subst e
    split at hj
    · injection hj with hj; subst hj; exact ⟨h1, h2, h3⟩
    · cases hj
  · exact h.each j xs hj
theorem at_plc (h : 1 ≤ c.length) (k : Int) : c[plc c k]? = some (c.getD (plc c k) []) := by
  have := plc_lt h k
  rw [List.getElem?_eq_getElem this, List.getD_eq_getElem?_getD, List.getElem?_eq_getElem this]
  rfl
theorem sof_nn {k : Int} (h : 0 ≤ k) : sof c k = c.getD (plc c k) [] := by unfold sof plc; rw [if_neg (by omega)]
theorem Inv.sof (h : Inv n c) (k : Int) : (sof c k).length ≤ n ∧ ((sof c k).map (·.k)).Nodup ∧ ∀ e ∈ sof c k, 0 ≤ e.k ∧ plc c e.k = plc c k := by
  rcases Int.lt_or_le k 0 with h0 | h0
  · rw [sof_neg h0]; simp
  · rw [sof_nn h0]; exact h.each _ _ (at_plc h.pos k)
theorem sof_set (i : Nat) (ys : List Ent) (hi : i < c.length) (j : Int) : sof (c.set i ys) j = if 0 ≤ j ∧ plc c j = i then ys else sof c j := by
  rcases Int.lt_or_le j 0 with h0 | h0
  · rw [sof_neg h0, sof_neg h0, if_neg (by omega)]
  · rw [sof_nn h0, sof_nn h0, plc_set]
    by_cases e : plc c j = i
    · rw [if_pos ⟨h0, e⟩, e, List.getD_eq_getElem?_getD, List.getElem?_set_self hi]; rfl
    · rw [if_neg (fun h => e h.2), List.getD_eq_getElem?_getD, List.getElem?_set_ne (Ne.symm e), List.getD_eq_getElem?_getD]
theorem cut_filter {xs : List Ent} {k : Int} {i : Nat} (hn : (xs.map (·.k)).Nodup) (h : fnd xs k = some i) : xs.take i ++ xs.drop (i + 1) = xs.filter (fun e => e.k ≠ k) := by
  obtain ⟨x, hx, hk, hall⟩ := fnd_spec h
  have e := split_at hx
  have hne : ∀ e ∈ xs.drop (i + 1), e.k ≠ k := by
    intro y hy hyk
    rw [e, List.map_append, List.map_cons, List.nodup_append, List.nodup_cons] at hn
    exact hn.2.1.1 (by rw [hk, ← hyk]; exact List.mem_map_of_mem hy)
  conv => rhs; rw [e]
  rw [List.filter_append, List.filter_cons, if_neg (by simpa using hk), List.filter_eq_self.2 (fun y hy => by simpa using take_ne hall y hy), List.filter_eq_self.2 (fun y hy => by simpa using hne y hy)]
theorem filter_none {xs : List Ent} {k : Int} (h : fnd xs k = none) : xs.filter (fun e => e.k ≠ k) = xs := by
  unfold fnd at h
  rw [List.findIdx?_eq_none_iff] at h
  exact List.filter_eq_self.2 (fun y hy => by have := h y hy; simpa using this)
/-- What Drop leaves of any set. -/
theorem sof_drop (h : Inv n c) (k j : Int) : sof (dropC c k) j = (sof c j).filter (fun e => e.k ≠ k) := by
  have other : ∀ j, ¬ (0 ≤ j ∧ plc c j = plc c k) → (sof c j).filter (fun e => e.k ≠ k) = sof c j := by
    intro j hj
    rcases Int.lt_or_le j 0 with h0 | h0
    · rw [sof_neg h0]; rfl
    · refine List.filter_eq_self.2 (fun y hy => ?_)
      have := (h.sof j).2.2 y hy
      have : y.k ≠ k := fun e => hj ⟨h0, by rw [← this.2, e]⟩
      simpa using this
  unfold dropC
  cases hf : fnd (sof c k) k with
  | none =>
    simp only
    by_cases hj : 0 ≤ j ∧ plc c j = plc c k
    · rcases Int.lt_or_le k 0 with h0 | h0
      · symm
        refine List.filter_eq_self.2 (fun y hy => ?_)
        have := ((h.sof j).2.2 y hy).1
        have : y.k ≠ k := by omega
        simpa using this
      · have e : sof c j = sof c k := by rw [sof_nn hj.1, sof_nn h0, hj.2]
        rw [e, filter_none hf]
    · exact (other j hj).symm
  | some i =>
    simp only
    rw [sof_set _ _ (plc_lt h.pos k)]
    split
    · rename_i hj
      have h0 : 0 ≤ k := by
        rcases Int.lt_or_le k 0 with h0 | h0
        · rw [sof_neg h0] at hf; simp [fnd] at hf
        · exact h0
      have e : sof c j = sof c k := by rw [sof_nn hj.1, sof_nn h0, hj.2]
      rw [e, cut_filter (h.sof k).2.1 hf]
    · rename_i hj
      exact (other j hj).symm
theorem drop_at (h : Inv n c) (k : Int) : dropC c k = if k < 0 then c else c.set (plc c k) ((sof c k).filter (fun e => e.k ≠ k)) := by
  by_cases h0 : k < 0
  · rw [if_pos h0]
    unfold dropC
    rw [sof_neg h0]
    rfl
  · rw [if_neg h0]
    unfold dropC
    cases hf : fnd (sof c k) k with
    | none =>
      simp only
      rw [filter_none hf, sof_nn (by omega)]
      have := at_plc h.pos k
      apply List.ext_getElem?
      intro i
      by_cases e : plc c k = i
      · subst e; rw [this, List.getElem?_set_self (plc_lt h.pos k)]
      · rw [List.getElem?_set_ne e]
    | some i => simp only; rw [cut_filter (h.sof k).2.1 hf]
theorem Inv.drop (h : Inv n c) (k : Int) : Inv n (dropC c k) := by
  rw [drop_at h k]
  split
  · exact h
  · obtain ⟨h1, h2, h3⟩ := h.sof k
    exact h.set _ _ (Nat.le_trans (List.length_filter_le _ _) h1) (h2.sublist (List.filter_sublist.map _)) (fun e he => h3 e (List.mem_filter.1 he).1)
theorem drop_room {k : Int} (h : Inv n c) (hr : room n c k = true) : 0 ≤ k ∧ ((sof c k).filter (fun e => e.k ≠ k)).length + 1 ≤ n := by
  unfold room at hr
  simp only [Bool.and_eq_true, Bool.or_eq_true, decide_eq_true_eq] at hr
  refine ⟨hr.1, ?_⟩
  rcases hr.2 with h1 | h1
  · have := List.length_filter_le (fun e : Ent => decide (e.k ≠ k)) (sof c k)
    omega
  · unfold getO at h1
    obtain ⟨i, hi⟩ := Option.isSome_iff_exists.1 h1
    rw [← cut_filter (h.sof k).2.1 hi]
    obtain ⟨x, hx, _⟩ := fnd_spec hi
    have := (List.getElem?_eq_some_iff.1 hx).1
    have h2 := (h.sof k).1
    simp only [List.length_append, List.length_take, List.length_drop]
    omega
theorem put_at (h : Inv n c) {k : Int} (h0 : 0 ≤ k) (v : Int) : putC c k v = c.set (plc c k) ((sof c k).filter (fun e => e.k ≠ k) ++ [⟨k, v⟩]) := by
  unfold putC
  rw [sof_drop h, drop_at h, if_neg (by omega), List.set_set]
theorem Inv.put (h : Inv n c) {k : Int} (hr : room n c k = true) (v : Int) : Inv n (putC c k v) := by
  obtain ⟨h0, hl⟩ := drop_room h hr
  rw [put_at h h0]
  obtain ⟨h1, h2, h3⟩ := h.sof k
  refine h.set _ _ (by simpa using hl) ?_ ?_
  · rw [List.map_append, List.nodup_append]
    refine ⟨h2.sublist (List.filter_sublist.map _), by simp, ?_⟩
    intro a ha b hb
    simp only [List.map_cons, List.map_nil, List.mem_singleton] at hb
    subst hb
    obtain ⟨e, he, rfl⟩ := List.mem_map.1 ha
    have := (List.mem_filter.1 he).2
    simpa using this
  · intro e he
    rcases List.mem_append.1 he with he | he
    · exact h3 e (List.mem_filter.1 he).1
    · rw [List.mem_singleton] at he; subst he; exact ⟨h0, rfl⟩
theorem sof_put (h : Inv n c) {k : Int} (h0 : 0 ≤ k) (v j : Int) : sof (putC c k v) j = (sof c j).filter (fun e => e.k ≠ k) ++ (if 0 ≤ j ∧ plc c j = plc c k then [⟨k, v⟩] else []) := by
  unfold putC
  rw [sof_set _ _ (by rw [dropC_len]; exact plc_lt h.pos k), plc_drop, sof_drop h, sof_drop h]
  split
  · rename_i hj
    have e : sof c j = sof c k := by rw [sof_nn hj.1, sof_nn h0, hj.2]
    rw [e]
  · rw [List.append_nil]
theorem Inv.setC (h : Inv n c) (k v : Int) : Inv n (setC n c k v) := by
  unfold Ytmlepikgiicaiaa.setC
  split
  · exact h
  · split
    · rename_i hr; exact h.put hr v
    · exact h
theorem Inv.touch (h : Inv n c) (k : Int) : Inv n (touchC c k) := by
  unfold touchC
  split
  · rename_i ho; exact h.put (getO_room ho) _
  · exact h
/-- Other numbers keep what stands by them. -/
theorem look_drop (h : Inv n c) {k j : Int} (hj : j ≠ k) : lookL (sof (dropC c k) j) j = lookL (sof c j) j := by
  rw [sof_drop h, lookL_filter hj]
theorem look_put (h : Inv n c) {k j : Int} (h0 : 0 ≤ k) (v : Int) (hj : j ≠ k) : lookL (sof (putC c k v) j) j = lookL (sof c j) j := by
  rw [sof_put h h0, lookL_append, lookL_filter hj]
  split
  · have : lookL [⟨k, v⟩] j = none := by
      unfold lookL
      rw [List.find?_eq_none.2]
      · rfl
      · intro e he; rw [List.mem_singleton] at he; subst he; simpa using Ne.symm hj
    rw [this]; simp
  · simp [lookL]
theorem look_put_self (h : Inv n c) {k : Int} (h0 : 0 ≤ k) (v : Int) : lookL (sof (putC c k v) k) k = some v := by
  rw [sof_put h h0, lookL_append, lookL_gone, if_pos ⟨h0, rfl⟩]
  simp [lookL]
theorem look_setC (h : Inv n c) {k j : Int} (v : Int) (hj : j ≠ k) : lookL (sof (setC n c k v) j) j = lookL (sof c j) j := by
  unfold setC
  split
  · rfl
  · split
    · exact look_put h (by omega) v hj
    · rfl
theorem look_touch (h : Inv n c) {k j : Int} (hj : j ≠ k) : lookL (sof (touchC c k) j) j = lookL (sof c j) j := by
  unfold touchC
  split
  · rename_i ho; exact look_put h (getO_nn ho) _ hj
  · rfl
theorem drop_len (h : Inv n c) (hn : n ≤ 64) (k : Int) : (sof (dropC c k) k).length ≤ 1000 := by
  have := ((h.drop k).sof k).1
  omega
theorem setK_room (n : Nat) (c : Cs) (k : Int) : (setK n c k == 0) = room n c k := by
  unfold setK
  split
  · rename_i h0
    unfold room
    rw [decide_eq_false (by omega)]
    rfl
  · cases room n c k <;> rfl
end
end Go.Proofs.Ytmlepikgiicaiaa
