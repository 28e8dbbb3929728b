/- The order of use, beside a map that notes when each number was used: plain facts. No statement is proved here. -/
import Derived.Test.YtmlepikgiicaiaaIMap
import Derived.Test.YtmlepikgiicaiaaKeysAll
namespace Go.Proofs.Ytmlepikgiicaiaa
set_option linter.unusedVariables false
set_option linter.unusedSimpArgs false

theorem has_iff (xs : List Ent) (k : Int) : (lookL xs k).isSome = true ↔ ∃ e ∈ xs, e.k = k := by
  unfold lookL
  rw [Option.isSome_map, List.find?_isSome]
  simp
theorem getO_iff {n : Nat} {c : Cs} (h : Inv n c) (k : Int) : getO c k = true ↔ k ∈ allK c := by
  rw [getO_look, has_iff]
  constructor
  · rintro ⟨e, he, rfl⟩
    have h0 := ((h.sof e.k).2.2 e he).1
    rw [sof_nn h0] at he
    have := at_plc h.pos e.k
    exact List.mem_flatMap.2 ⟨_, List.mem_of_getElem? this, List.mem_map.2 ⟨e, he, rfl⟩⟩
  · intro hk
    obtain ⟨xs, hx, hk⟩ := List.mem_flatMap.1 hk
    obtain ⟨e, he, rfl⟩ := List.mem_map.1 hk
    obtain ⟨i, hi⟩ := List.getElem?_of_mem hx
    obtain ⟨h0, hp⟩ := (h.each i xs hi).2.2 e he
    refine ⟨e, ?_, rfl⟩
    rw [sof_nn h0]
    have := at_plc h.pos e.k
    rw [hp, hi] at this
    injection this with this
    rw [hp, ← this]
    exact he
theorem allK_nodup {n : Nat} {c : Cs} (h : Inv n c) : (allK c).Nodup := by
  unfold allK
  rw [List.nodup_iff_pairwise_ne, List.pairwise_flatMap]
  refine ⟨fun xs hx => ?_, ?_⟩
  · obtain ⟨i, hi⟩ := List.getElem?_of_mem hx
    exact List.nodup_iff_pairwise_ne.1 (h.each i xs hi).2.1
  · rw [List.pairwise_iff_getElem]
    intro i j hi hj hij x hx y hy e
    obtain ⟨a, ha, rfl⟩ := List.mem_map.1 hx
    obtain ⟨b, hb, rfl⟩ := List.mem_map.1 hy
    have h1 := ((h.each i _ (List.getElem?_eq_getElem hi)).2.2 a ha).2
    have h2 := ((h.each j _ (List.getElem?_eq_getElem hj)).2.2 b hb).2
    rw [e] at h1
    omega
/-- When each number of the cache was used last stands in l; m calls were made. -/
structure OrdI (n : Nat) (c : Cs) (l : Prs) (m : Int) : Prop where
  inv : Inv n c
  m0 : 0 ≤ m
  a : ∀ k t, at_ l k = some t → getO c k = true ∧ 1 ≤ t ∧ t ≤ m
  b : ∀ k, getO c k = true → ∃ t, at_ l k = some t
  o : ∀ j, (sof c j).Pairwise (fun x y => (at_ l x.k).getD 0 < (at_ l y.k).getD 0)
section
variable {n : Nat} {c : Cs} {l l' : Prs} {m k : Int}
theorem OrdI.new (n S : Nat) (h : 1 ≤ S) : OrdI n (List.replicate S []) [] 0 := by
  have e : ∀ j, sof (List.replicate S ([] : List Ent)) j = [] := fun j => by
    rcases Int.lt_or_le j 0 with h0 | h0
    · exact sof_neg h0
    · rw [sof_nn h0, List.getD_eq_getElem?_getD, List.getElem?_replicate]
      split <;> rfl
  refine ⟨Inv.new n S h, Int.le_refl _, fun k t ht => (by simp [at_] at ht), fun k hk => ?_, fun j => by rw [e]; exact .nil⟩
  rw [getO_look, e] at hk
  simp [lookL] at hk
theorem OrdI.skip (h : OrdI n c l m) : OrdI n c l (m + 1) :=
  ⟨h.inv, by have := h.m0; omega, fun k t ht => by obtain ⟨h1, h2, h3⟩ := h.a k t ht; exact ⟨h1, h2, by omega⟩, h.b, h.o⟩
theorem OrdI.put (h : OrdI n c l m) (hr : room n c k = true) (v : Int) (hl : ∀ j, at_ l' j = if j = k then some (m + 1) else at_ l j) : OrdI n (putC c k v) l' (m + 1) := by
  have h0 := (drop_room h.inv hr).1
  have hm := h.m0
  refine ⟨h.inv.put hr v, by omega, fun j t ht => ?_, fun j hj => ?_, fun j => ?_⟩
  · rw [hl] at ht
    by_cases e : j = k
    · subst e
      rw [if_pos rfl] at ht
      injection ht with ht
      exact ⟨by rw [getO_look, look_put_self h.inv h0]; rfl, by omega, by omega⟩
    · rw [if_neg e] at ht
      obtain ⟨h1, h2, h3⟩ := h.a j t ht
      exact ⟨by rw [getO_look, look_put h.inv h0 v e, ← getO_look]; exact h1, h2, by omega⟩
  · rw [hl]
    by_cases e : j = k
    · rw [if_pos e]; exact ⟨_, rfl⟩
    · rw [if_neg e]
      rw [getO_look, look_put h.inv h0 v e, ← getO_look] at hj
      exact h.b j hj
  · rw [sof_put h.inv h0, List.pairwise_append]
    refine ⟨?_, by split <;> simp, fun x hx y hy => ?_⟩
    · refine List.Pairwise.imp_of_mem (fun {x y} hx hy hxy => ?_) ((h.o j).sublist List.filter_sublist)
      have e1 : x.k ≠ k := by simpa using (List.mem_filter.1 hx).2
      have e2 : y.k ≠ k := by simpa using (List.mem_filter.1 hy).2
      rw [hl, hl, if_neg e1, if_neg e2]
      exact hxy
    · split at hy
      · rw [List.mem_singleton] at hy
        subst hy
        have e1 : x.k ≠ k := by simpa using (List.mem_filter.1 hx).2
        rw [hl, hl, if_neg e1, if_pos rfl]
        cases ht : at_ l x.k with
        | none => simp; omega
        | some t => have := (h.a _ _ ht).2.2; simp; omega
      · cases hy
theorem OrdI.drop (h : OrdI n c l m) (hk : getO c k = true) (hl : ∀ j, at_ l' j = if j = k then none else at_ l j) : OrdI n (dropC c k) l' (m + 1) := by
  have hm := h.m0
  refine ⟨h.inv.drop k, by omega, fun j t ht => ?_, fun j hj => ?_, fun j => ?_⟩
  · rw [hl] at ht
    by_cases e : j = k
    · rw [if_pos e] at ht; cases ht
    · rw [if_neg e] at ht
      obtain ⟨h1, h2, h3⟩ := h.a j t ht
      exact ⟨by rw [getO_look, look_drop h.inv e, ← getO_look]; exact h1, h2, by omega⟩
  · rw [hl]
    by_cases e : j = k
    · subst e
      rw [getO_look, sof_drop h.inv, lookL_gone] at hj
      cases hj
    · rw [if_neg e]
      rw [getO_look, look_drop h.inv e, ← getO_look] at hj
      exact h.b j hj
  · rw [sof_drop h.inv]
    refine List.Pairwise.imp_of_mem (fun {x y} hx hy hxy => ?_) ((h.o j).sublist List.filter_sublist)
    have e1 : x.k ≠ k := by simpa using (List.mem_filter.1 hx).2
    have e2 : y.k ≠ k := by simpa using (List.mem_filter.1 hy).2
    rw [hl, hl, if_neg e1, if_neg e2]
    exact hxy
theorem drop_none (hk : getO c k = false) : dropC c k = c := by
  unfold getO at hk
  unfold dropC
  cases h : fnd (sof c k) k with
  | none => rfl
  | some i => rw [h] at hk; cases hk
theorem OrdI.count (h : OrdI n c l m) (hn : (l.map (·.1)).Nodup) : (allK c).length = l.length := by
  have hp : (allK c).Perm (l.map (·.1)) := by
    rw [List.perm_ext_iff_of_nodup (allK_nodup h.inv) hn]
    intro k
    rw [← getO_iff h.inv]
    constructor
    · intro hk
      obtain ⟨t, ht⟩ := h.b k hk
      unfold at_ at ht
      cases hf : List.find? (fun p => p.1 == k) l with
      | none => rw [hf] at ht; cases ht
      | some p =>
        have h1 := List.mem_of_find?_eq_some hf
        have h2 := List.find?_some hf
        simp only [beq_iff_eq] at h2
        exact List.mem_map.2 ⟨p, h1, h2⟩
    · intro hk
      obtain ⟨p, hp, rfl⟩ := List.mem_map.1 hk
      obtain ⟨j, hj⟩ := List.getElem?_of_mem hp
      exact (h.a p.1 p.2 (at_some hn hj)).1
  have := hp.length_eq
  rwa [List.length_map] at this
/-- The numbers of a set, in their order, were used one after the other. -/
theorem OrdI.rises (h : OrdI n c l m) (j : Int) (i : Nat) (e : Ent) (he : (sof c j)[i]? = some e) : 1 ≤ (at_ l e.k).getD 0 ∧ (at_ l e.k).getD 0 ≤ m ∧ 0 ≤ e.k ∧ ∀ e', (sof c j)[i + 1]? = some e' → (at_ l e.k).getD 0 < (at_ l e'.k).getD 0 := by
  have hm := List.mem_of_getElem? he
  have h0 := (h.inv.sof j).2.2 e hm
  have hg : getO c e.k = true := by
    have h2 := h.inv.sof j
    rcases Int.lt_or_le j 0 with hj | hj
    · rw [sof_neg hj] at hm; cases hm
    · rw [getO_look, has_iff]
      exact ⟨e, by rw [sof_nn h0.1, h0.2, ← sof_nn hj]; exact hm, rfl⟩
  obtain ⟨t, ht⟩ := h.b _ hg
  obtain ⟨_, h2, h3⟩ := h.a _ _ ht
  refine ⟨by rw [ht]; exact h2, by rw [ht]; exact h3, h0.1, fun e' he' => ?_⟩
  have hp := List.pairwise_iff_getElem.1 (h.o j)
  obtain ⟨hi, e1⟩ := List.getElem?_eq_some_iff.1 he
  obtain ⟨hi', e2⟩ := List.getElem?_eq_some_iff.1 he'
  have := hp i (i + 1) hi hi' (by omega)
  rwa [e1, e2] at this
end
end Go.Proofs.Ytmlepikgiicaiaa
