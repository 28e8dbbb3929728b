/- A map from numbers to numbers, as an object: its entries in their order. No statement is proved here. -/
import Derived.Test.YtmlepikgiicaiaaLawKit
import Derived.Maps.Keyed
import Derived.Maps.OwnSet
namespace Go.Proofs.Ytmlepikgiicaiaa
open Go.RowKit Go.ChangeShapes Go.MapKept Go.Maps Go.ChangeMaps
set_option linter.unusedVariables false
set_option linter.unusedSimpArgs false

theorem K3 : Keyed Try.prog 3 := int_keyed Try.underlying3
theorem key3 {n : Int} (h : (Lit.int .i64 n).wf = true) : keyOf Try.prog 3 (.int .i64 n) = some (.int .i64 n) := by
  simp [keyOf, mapKey, Try.underlying3, h]
abbrev Prs := List (Int × Int)
/-- The object is a map with just these entries, in this order. -/
def IM (o : Obj) (l : Prs) : Prop :=
  ∃ es clock, o = .map es clock ∧ Stamped es clock ∧ es.toList.map (fun x => (x.key, x.val)) = l.map (fun p => (Value.int .i64 p.1, Value.int .i64 p.2)) ∧ ∀ p ∈ l, (Lit.int .i64 p.1).wf = true
/-- What stands at a number. -/
def at_ (l : Prs) (k : Int) : Option Int := (l.find? (fun p => p.1 == k)).map (·.2)
theorem IM.made : IM (.map #[] 0) [] := ⟨#[], 0, rfl, stamped_empty 0, rfl, by simp⟩
section
variable {o : Obj} {l : Prs} {W : World} {b : Nat} {k : Int}
theorem IM.nodup (h : IM o l) : (l.map (·.1)).Nodup := by
  obtain ⟨es, clock, rfl, hs, he, hw⟩ := h
  have hp := ((stamped_iff es clock).1 hs).2.2
  have h1 : (es.toList.map (fun x => (x.key, x.val))).Pairwise (fun a b => a.1 ≠ b.1) := by
    rw [List.pairwise_map]; exact hp
  rw [he, List.pairwise_map] at h1
  rw [List.nodup_iff_pairwise_ne, List.pairwise_map]
  exact h1.imp fun h e => h (by rw [e])
/-- A key is looked for. -/
theorem IM.find (h : IM o l) (hk : (Lit.int .i64 k).wf = true) : ∃ es clock, o = .map es clock ∧ Stamped es clock ∧ es.toList.map (fun x => (x.key, x.val)) = l.map (fun p => (Value.int .i64 p.1, Value.int .i64 p.2)) ∧ (∀ p ∈ l, (Lit.int .i64 p.1).wf = true) ∧
    (((Instr.findKey 3 (.int .i64 k) es.toList).run Try.prog W = .ok none W ∧ (∀ e ∈ es.toList, e.key ≠ .int .i64 k) ∧ ∀ p ∈ l, p.1 ≠ k) ∨
     ∃ j e v, (Instr.findKey 3 (.int .i64 k) es.toList).run Try.prog W = .ok (some (j, .int .i64 v)) W ∧ es.toList[j]? = some e ∧ e.key = .int .i64 k ∧ e.val = .int .i64 v ∧ l[j]? = some (k, v)) := by
  obtain ⟨es, clock, rfl, hs, he, hw⟩ := h
  have hks : ∀ e ∈ es.toList, ∃ x, keyOf Try.prog 3 e.key = some x := fun e hm => by
    have : (e.key, e.val) ∈ es.toList.map (fun x => (x.key, x.val)) := List.mem_map.2 ⟨e, hm, rfl⟩
    rw [he] at this
    obtain ⟨p, hp, e2⟩ := List.mem_map.1 this
    injection e2 with e2 _
    rw [← e2]
    exact ⟨_, key3 (hw p hp)⟩
  refine ⟨es, clock, rfl, hs, he, hw, ?_⟩
  rcases K3.find W (key3 hk) es.toList hks with ⟨h1, h2⟩ | ⟨j, e0, h1, h2, h3⟩
  · refine .inl ⟨h1, h2, fun p hp e => ?_⟩
    have : (Value.int .i64 p.1, Value.int .i64 p.2) ∈ es.toList.map (fun x => (x.key, x.val)) := by rw [he]; exact List.mem_map.2 ⟨p, hp, rfl⟩
    obtain ⟨x, hx, e2⟩ := List.mem_map.1 this
    injection e2 with e2 _
    exact h2 x hx (by rw [e2, e])
  · have h4 : (es.toList.map (fun x => (x.key, x.val)))[j]? = some (e0.key, e0.val) := by rw [List.getElem?_map, h2]; rfl
    rw [he, List.getElem?_map] at h4
    cases hl : l[j]? with
    | none => rw [hl] at h4; cases h4
    | some p =>
      rw [hl] at h4
      simp only [Option.map_some, Option.some.injEq, Prod.mk.injEq] at h4
      obtain ⟨e1, e2⟩ := h4
      rw [h3] at e1
      injection e1 with _ e1
      refine .inr ⟨j, e0, p.2, by rw [h1, e2], h2, h3, e2.symm, ?_⟩
      rw [hl, ← e1]
theorem at_some {l : Prs} (hn : (l.map (·.1)).Nodup) {j : Nat} {k v : Int} (h : l[j]? = some (k, v)) : at_ l k = some v := by
  unfold at_
  obtain ⟨hj, e⟩ := List.getElem?_eq_some_iff.1 h
  have hs : l = l.take j ++ (k, v) :: l.drop (j + 1) := by rw [← e, ← List.drop_eq_getElem_cons hj, List.take_append_drop]
  rw [hs, List.map_append, List.nodup_append] at hn
  rw [hs, List.find?_append, List.find?_eq_none.2]
  · simp
  · intro p hp
    have := hn.2.2 p.1 (List.mem_map_of_mem hp) k (by simp)
    simpa using this
theorem at_none {l : Prs} {k : Int} (h : ∀ p ∈ l, p.1 ≠ k) : at_ l k = none := by
  unfold at_
  rw [List.find?_eq_none.2 (fun p hp => by simpa using h p hp)]
  rfl
theorem zeroI (w : World) : (zeroValue 3).run Try.prog w = .ok (.int .i64 0) w := by kernel_rfl
theorem IM.look (h : IM o l) (hb : W.heap[b]? = some o) (hk : (Lit.int .i64 k).wf = true) : (Instr.lookup 50 (.map (some b)) (.int .i64 k) false).run Try.prog W = .ok (.int .i64 ((at_ l k).getD 0)) W := by
  have hn := h.nodup
  obtain ⟨es, clock, rfl, hs, he, hw, hf⟩ := h.find (W := W) hk
  rcases hf with ⟨h1, h2, h3⟩ | ⟨j, e, v, h1, h2, h3, h4, h5⟩
  · rw [at_none h3]
    simp [Instr.lookup, run_underlying Try.underlying50, MapKept.run_getObj_map hb, K3.check W _ (key3 hk), h1, zeroI, Result.andThen]
  · rw [at_some hn h5]
    simp [Instr.lookup, run_underlying Try.underlying50, MapKept.run_getObj_map hb, K3.check W _ (key3 hk), h1, Result.andThen]
theorem at_append {l : Prs} {k v j : Int} (h : ∀ p ∈ l, p.1 ≠ k) : at_ (l ++ [(k, v)]) j = if j = k then some v else at_ l j := by
  unfold at_
  rw [List.find?_append]
  by_cases e : j = k
  · subst e
    rw [if_pos rfl, List.find?_eq_none.2 (fun p hp => by simpa using h p hp)]
    simp
  · rw [if_neg e]
    have : (k == j) = false := by simpa using Ne.symm e
    cases hf : List.find? (fun p => p.1 == j) l <;> simp [hf, this]
theorem at_set {l : Prs} (hn : (l.map (·.1)).Nodup) {i : Nat} {k v u j : Int} (h : l[i]? = some (k, u)) : at_ (l.set i (k, v)) j = if j = k then some v else at_ l j := by
  obtain ⟨hi, e⟩ := List.getElem?_eq_some_iff.1 h
  have hm : (l.set i (k, v)).map (·.1) = l.map (·.1) := by
    rw [List.map_set]
    apply List.ext_getElem?
    intro m
    by_cases em : i = m
    · subst em; rw [List.getElem?_set_self (by simpa using hi), List.getElem?_map, h]; rfl
    · rw [List.getElem?_set_ne em]
  by_cases ej : j = k
  · subst ej
    rw [if_pos rfl]
    exact at_some (j := i) (by rw [hm]; exact hn) (by rw [List.getElem?_set_self hi])
  · rw [if_neg ej]
    cases ha : at_ l j with
    | none =>
      refine at_none fun p hp => ?_
      rcases List.mem_or_eq_of_mem_set hp with hp | rfl
      · intro e2
        unfold at_ at ha
        cases hf : List.find? (fun p => p.1 == j) l with
        | none => exact List.find?_eq_none.1 hf p hp (by simpa using e2)
        | some q => rw [hf] at ha; cases ha
      · exact Ne.symm ej
    | some x =>
      unfold at_ at ha
      cases hf : List.find? (fun p => p.1 == j) l with
      | none => rw [hf] at ha; cases ha
      | some q =>
        rw [hf] at ha
        have hq := List.mem_of_find?_eq_some hf
        have hq1 := List.find?_some hf
        simp only [beq_iff_eq] at hq1
        simp only [Option.map_some, Option.some.injEq] at ha
        obtain ⟨m, hm1⟩ := List.getElem?_of_mem hq
        have hne : i ≠ m := fun e2 => by subst e2; rw [h] at hm1; injection hm1 with hm1; rw [← hm1] at hq1; exact ej hq1.symm
        refine at_some (j := m) (by rw [hm]; exact hn) ?_
        rw [List.getElem?_set_ne hne, hm1, ← hq1, ← ha]
theorem IM.update (h : IM o l) (hb : W.heap[b]? = some o) (hk : (Lit.int .i64 k).wf = true) (v : Int) :
    ∃ o' l', (Instr.mapUpdate 50 (.map (some b)) (.int .i64 k) (.int .i64 v)).run Try.prog W = .ok () (setBlock W b o') ∧ IM o' l' ∧ (∀ j, at_ l' j = if j = k then some v else at_ l j) ∧ l'.length ≤ l.length + 1 := by
  have hn := h.nodup
  obtain ⟨es, clock, rfl, hs, he, hw, hf⟩ := h.find (W := W) hk
  rcases hf with ⟨h1, h2, h3⟩ | ⟨j, e, u, h1, h2, h3, h4, h5⟩
  · refine ⟨.map (es.push ⟨.int .i64 k, .int .i64 v, clock⟩) (clock + 1), l ++ [(k, v)], ?_, ⟨_, _, rfl, stamped_push hs h2, ?_, ?_⟩, fun j => at_append h3, by simp⟩
    · simp [Instr.mapUpdate, run_underlying Try.underlying50, MapKept.run_getObj_map hb, K3.check W false (key3 hk), h1, MapKept.run_setObj_map _ hb, Result.andThen, setBlock]
    · rw [Array.toList_push, List.map_append, List.map_append, he]; rfl
    · intro p hp
      rcases List.mem_append.1 hp with hp | hp
      · exact hw p hp
      · rw [List.mem_singleton] at hp; subst hp; exact hk
  · have hj : es[j]? = some e := by simpa using h2
    have hkeyf : ∀ e' ∈ es.toList, es[j]? = some e' → ({ e' with key := .int .i64 k, val := .int .i64 v } : MapEntry).key = e'.key := fun e' _ he' => by rw [hj] at he'; cases he'; exact h3.symm
    have hlist : (es.modify j (fun e' => { e' with key := .int .i64 k, val := .int .i64 v })).toList = es.toList.set j { e with key := .int .i64 k, val := .int .i64 v } := by rw [Array.toList_modify, modify_eq_set _ _ _ _ h2]
    refine ⟨.map (es.modify j (fun e' => { e' with key := .int .i64 k, val := .int .i64 v })) clock, l.set j (k, v), ?_, ⟨_, _, rfl, stamped_modify hs _ _ (fun _ _ => rfl) hkeyf, ?_, ?_⟩, fun i => at_set hn h5, by simp⟩
    · have hst : (Instr.keyThatStays (.int .i64 k) (.int .i64 k)).run Try.prog W = .ok (.int .i64 k) W := K3.stays W (key3 hk)
      simp [Instr.mapUpdate, run_underlying Try.underlying50, MapKept.run_getObj_map hb, K3.check W false (key3 hk), h1, hj, h3, hst, MapKept.run_setObj_map _ hb, Result.andThen, setBlock]
    · rw [hlist, List.map_set, List.map_set, he]
    · intro p hp
      rcases List.mem_or_eq_of_mem_set hp with hp | rfl
      · exact hw p hp
      · exact hk
theorem at_erase {l : Prs} (hn : (l.map (·.1)).Nodup) {i : Nat} {k u j : Int} (h : l[i]? = some (k, u)) : at_ (l.eraseIdx i) j = if j = k then none else at_ l j := by
  obtain ⟨hi, e⟩ := List.getElem?_eq_some_iff.1 h
  have hs : l = l.take i ++ (k, u) :: l.drop (i + 1) := by rw [← e, ← List.drop_eq_getElem_cons hi, List.take_append_drop]
  have he : l.eraseIdx i = l.take i ++ l.drop (i + 1) := List.eraseIdx_eq_take_drop_succ ..
  have hn2 := hn
  rw [hs, List.map_append, List.map_cons, List.nodup_append, List.nodup_cons] at hn2
  by_cases ej : j = k
  · subst ej
    rw [if_pos rfl, he]
    refine at_none fun p hp => ?_
    rcases List.mem_append.1 hp with hp | hp
    · exact hn2.2.2 p.1 (List.mem_map_of_mem hp) j (by simp)
    · intro e2; exact hn2.2.1.1 (by have h9 : p.1 ∈ (l.drop (i + 1)).map (·.1) := List.mem_map_of_mem hp; rw [e2] at h9; exact h9)
  · rw [if_neg ej, he]
    conv => rhs; rw [hs]
    unfold at_
    have : (k == j) = false := by simpa using Ne.symm ej
    rw [List.find?_append, List.find?_append, List.find?_cons, this]
theorem IM.delete (h : IM o l) (hb : W.heap[b]? = some o) (hk : (Lit.int .i64 k).wf = true) (ty : TypeId) :
    ∃ o' l', (Builtin.delete_ #[50, 3] ty #[.map (some b), .int .i64 k]).run Try.prog W = .ok (.tuple #[]) (setBlock W b o') ∧ IM o' l' ∧ (∀ j, at_ l' j = if j = k then none else at_ l j) ∧ l'.length ≤ l.length + 1 := by
  have hn := h.nodup
  obtain ⟨es, clock, rfl, hs, he, hw, hf⟩ := h.find (W := W) hk
  rcases hf with ⟨h1, h2, h3⟩ | ⟨j, e, u, h1, h2, h3, h4, h5⟩
  · refine ⟨.map es clock, l, ?_, ⟨_, _, rfl, hs, he, hw⟩, fun j => ?_, by omega⟩
    · simp [Builtin.delete_, run_underlying Try.underlying50, MapKept.run_getObj_map hb, K3.check W _ (key3 hk), h1, MapKept.run_setObj_map _ hb, Result.andThen, setBlock]
    · split
      · rename_i e; subst e; exact at_none h3
      · rfl
  · have hjs : j < es.size := by have := (List.getElem?_eq_some_iff.1 h2).1; simpa using this
    have hsub : (es.eraseIdxIfInBounds j).toList = es.toList.eraseIdx j := by
      unfold Array.eraseIdxIfInBounds
      rw [dif_pos hjs]
      simp
    refine ⟨.map (es.eraseIdxIfInBounds j) clock, l.eraseIdx j, ?_, ⟨_, _, rfl, stamped_erase hs j, ?_, fun p hp => hw p ((List.eraseIdx_sublist _ _).subset hp)⟩, fun i => at_erase hn h5, ?_⟩
    · simp [Builtin.delete_, run_underlying Try.underlying50, MapKept.run_getObj_map hb, K3.check W _ (key3 hk), h1, MapKept.run_setObj_map _ hb, Result.andThen, setBlock]
    · rw [hsub, map_eraseIdx, map_eraseIdx, he]
    · have := (List.eraseIdx_sublist l j).length_le; omega
theorem IM.len (h : IM o l) (hb : W.heap[b]? = some o) (ty : TypeId) : (Builtin.len_ #[50] ty #[.map (some b)]).run Try.prog W = .ok (.int .i64 (l.length : Nat)) W := by
  obtain ⟨es, clock, rfl, hs, he, hw⟩ := h
  have hl : es.size = l.length := by have := congrArg List.length he; simpa using this
  simp [Builtin.len_, Builtin.lenOf, MapKept.run_getObj_map hb, hl, Result.andThen]
  rfl
end
end Go.Proofs.Ytmlepikgiicaiaa
