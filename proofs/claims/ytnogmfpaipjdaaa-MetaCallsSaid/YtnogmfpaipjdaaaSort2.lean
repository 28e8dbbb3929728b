/- A row of the call's own, sorted by its items. No statement is proved here. -/
import Derived.Test.YtnogmfpaipjdaaaSortC
namespace Go.Proofs.Ytnogmfpaipjdaaa
open Go.RowKit Go.Sort
open P (Pl right hasI vals)
set_option maxRecDepth 20000
set_option linter.unusedVariables false
set_option linter.unusedSimpArgs false

/-- The items' order. -/
def ltI (i j : It) : Prop := i.l < j.l ∨ (i.l = j.l ∧ i.x < j.x)
instance (i j : It) : Decidable (ltI i j) := by unfold ltI; infer_instance
theorem cmpI_lt (a b : Int) : cmpI a b < 0 ↔ a < b := by unfold cmpI; split <;> (try split) <;> omega
theorem cmpI_zero (a b : Int) : cmpI a b = 0 ↔ a = b := by unfold cmpI; split <;> (try split) <;> omega
theorem ltOf_cf (x y : Cd) : ltOf cfC x y = decide (ltI x.it y.it) := by
  unfold ltOf
  congr 1
  have h1 := cmpI_lt x.it.l y.it.l
  have h2 := cmpI_zero x.it.l y.it.l
  have h3 := cmpI_lt x.it.x y.it.x
  unfold cfC ltI
  apply propext
  by_cases h : cmpI x.it.l y.it.l = 0
  · rw [if_pos h, h3]
    have := h2.1 h
    omega
  · rw [if_neg h, h1]
    have : ¬ x.it.l = y.it.l := fun e => h (h2.2 e)
    omega
theorem swoC : SWO (ltOf cfC) where
  irrefl x := by rw [ltOf_cf]; simp [ltI]
  trans x y z h1 h2 := by rw [ltOf_cf, decide_eq_true_eq] at *; unfold ltI at *; omega
  ntrans x y z h1 h2 := by rw [ltOf_cf, decide_eq_false_iff_not] at *; unfold ltI at *; omega
theorem flat_eq (d : Array Cd) : flatK Cd.cs 36 d = (ecells d.toList).toArray := by
  apply Array.ext_getElem?
  intro t
  by_cases ht : t < d.size * 36
  · have h1 := get_flatK Cd.cs 36 d t ht
    rw [getElem!_pos _ t (by rw [size_flatK]; exact ht)] at h1
    rw [Array.getElem?_eq_getElem (by rw [size_flatK]; exact ht), h1, List.getElem?_toArray]
    have hq : t / 36 < d.size := by omega
    have hm : t % 36 < 36 := Nat.mod_lt _ (by omega)
    have he : d.toList[t / 36]? = some d[t / 36]! := by
      rw [getElem!_pos d _ hq, Array.getElem?_toList, Array.getElem?_eq_getElem hq]
    have hl : t % 36 < (Cd.cs d[t / 36]!).length := by rw [Cd.cs_length]; exact hm
    have h2 := ecells_at d.toList (t / 36) d[t / 36]! he (t % 36) _ (List.getElem?_eq_getElem hl)
    rw [show t / 36 * Elt.sz Cd + t % 36 = t by show t / 36 * 36 + t % 36 = t; omega] at h2
    rw [h2, getElem!_pos (Cd.cs d[t / 36]!) (t % 36) hl]
  · rw [Array.getElem?_eq_none (by rw [size_flatK]; omega), Array.getElem?_eq_none (by
      rw [List.size_toArray, ecells_length]
      show d.toList.length * 36 ≤ t
      rw [Array.length_toList]; omega)]
theorem holds_cd {W : World} {b : Nat} {cur : Array Value} {xs : List Cd} (hb : W.heap[b]? = some (.cells cur 59 (0, 0))) (ht : cur.toList.take (xs.length * 36) = ecells xs) : HoldsK Cd.cs 36 W b 0 xs.toArray := by
  intro j hj
  have e : xs.toArray.toList = xs := by simp
  rw [flat_eq, e] at hj ⊢
  have hj' : j < (ecells xs).length := by simpa using hj
  refine ⟨?_, by simp [World.frozen?, hb]⟩
  have h1 : cur[j]? = some ((ecells xs)[j]'hj') := by
    have : (cur.toList.take (xs.length * 36))[j]? = some ((ecells xs)[j]'hj') := by rw [ht, List.getElem?_eq_getElem hj']
    rw [List.getElem?_take] at this
    split at this
    · simpa using this
    · cases this
  rw [Nat.zero_add]
  refine ((show At W b 59 cur from hb).cell j).trans ?_
  rw [h1, getElem!_pos (ecells xs).toArray j hj]
  simp
theorem heap_sortedC {w : World} {g n : Nat} {os : Array Obj} {cur : Array Value} {e : TypeId} {fr : Nat × Nat} (F : Array Value) (hb : w.heap[g]? = some (.cells cur e fr)) :
    (grow (putRow id (Sort.ahead w n) g 0 F) os).heap[g]? = some (.cells (putCells id 0 F cur) e fr) := by
  have hg : g < w.heap.size := (Array.getElem?_eq_some_iff.1 hb).1
  rw [heap_grow_old _ _ (by simpa using hg)]
  simp [putRow, mapBlock, Sort.ahead, Array.getElem?_modify, hb, onCells]
theorem grownBy_sortedC {w : World} {g n : Nat} {os : Array Obj} (F : Array Value) : w.grownBy (grow (putRow id (Sort.ahead w n) g 0 F) os) (some g) := by
  refine ⟨rfl, rfl, rfl, by simp, fun k hk hne => ?_⟩
  rw [heap_grow_old _ _ (by simpa using hk)]
  have : g ≠ k := fun e => hne (by rw [e])
  simp [putRow, mapBlock, Sort.ahead, Array.getElem?_modify, this]
theorem take_putC (cur : Array Value) (ls : List Value) (h : ls.length ≤ cur.size) : (putCells id 0 ls.toArray cur).toList.take ls.length = ls := by
  apply List.ext_getElem?
  intro j
  by_cases hj : j < ls.length
  · rw [List.getElem?_take_of_lt hj, Array.getElem?_toList]
    simp [putCells, hj, show j < cur.size by omega]
  · rw [List.getElem?_take_eq_none (by omega), List.getElem?_eq_none (by omega)]
section
variable {w W : World} {L M : Blks} {v : Value} {xs : List Cd}
theorem sort_any (h : RL v xs M) (hs : St w W (M ++ L)) (hl : xs.length ≤ 100000) :
    Calls Try.prog 43 #[v, .func (.func 44) #[] #[]] W fun e W' => e = .returned (.tuple #[]) ∧ ∃ M' ys, RL v ys M' ∧ ys.Perm xs ∧ ys.Pairwise (fun a b => ¬ ltI b.it a.it) ∧ St w W' (M' ++ L) := by
  rcases h with ⟨rfl, rfl, rfl⟩ | ⟨b, cap, cur, rfl, rfl, h1, h2, h3, h4⟩
  · refine (AnyF.slices_SortFunc_none sortC none 0 (.func (.func 44) #[] #[]) W).mono ?_
    rintro e W' ⟨rfl, rfl⟩
    exact ⟨rfl, [], [], RL.nil_, .refl _, .nil, hs⟩
  · have hA : W.heap[b]? = some (.cells cur 59 (0, 0)) := hs.get 0 rfl
    have h4' : cur.toList.take (xs.length * 36) = ecells xs := h4
    have h3' : cur.size = cap * 36 := h3
    have eg : ∀ args w, (callFunc 44 args).run Try.prog w = .ok (.enter 44 args) w := enters_of Try.func44 (by kernel_rfl) rfl
    have cm : CmpLays Try.prog 44 #[] Cd.cs 36 cfC b 0 xs.toArray.size W := fun m os dk _ x y => cf_any x y _
    have hcon := AnyQ.slices_SortFunc sortC 36 Try.isAgg59 Try.sizeOf59 Cd.cs Cd.cs_length Cd.cs_one cfC swoC 44 #[] b 0 cap xs.toArray W eg cm (holds_cd hA h4') (heap_lt hA) (by simp; omega)
    have e0 : xs.toArray.size = xs.length := by simp
    rw [e0] at hcon
    refine hcon.mono ?_
    rintro e W' ⟨rfl, d', n, os, hp, hsd, rfl⟩
    have hsz : d'.size = xs.length := by have := hp.1; simpa using this
    have hperm : d'.toList.Perm xs := by
      have := hp.2.2
      rw [← hsz] at this
      simp only [Array.extract_size] at this
      have e2 : (xs.toArray.extract 0 d'.size) = xs.toArray := by rw [hsz, ← e0, Array.extract_size]
      rw [e2] at this
      simpa using this
    have hlen : (ecells d'.toList).length = xs.length * 36 := by
      rw [ecells_length, Array.length_toList, hsz]; rfl
    have hle : xs.length * 36 ≤ cap * 36 := Nat.mul_le_mul_right _ h1
    have hA' := heap_sortedC (n := n) (os := os) (ecells d'.toList).toArray hA
    have hg := grownBy_sortedC (w := W) (g := b) (n := n) (os := os) (ecells d'.toList).toArray
    have ew : sortWorldK Cd.cs 36 W b 0 n d' os = grow (putRow id (Sort.ahead W n) b 0 (ecells d'.toList).toArray) os := by
      unfold sortWorldK putRowK
      rw [flat_eq]
    rw [ew]
    have hdl : d'.toList.length = xs.length := by rw [Array.length_toList, hsz]
    refine ⟨rfl, [(b, C 59 (putCells id 0 (ecells d'.toList).toArray cur))], d'.toList, .inr ⟨b, cap, _, by rw [hdl], rfl, by rw [hdl]; exact h1, h2, by show (putCells id 0 _ cur).size = cap * 36; simp [putCells, h3'], ?_⟩, hperm, ?_, hs.putO 0 rfl hA' hg⟩
    · have := take_putC cur (ecells d'.toList) (by rw [hlen, h3']; exact hle)
      rw [hlen] at this
      rw [hdl]
      exact this
    · rw [List.pairwise_iff_getElem]
      intro i j hi hj hij
      have hi' : i < d'.size := by simpa using hi
      have hj' : j < d'.size := by simpa using hj
      have := hsd i j (Nat.zero_le _) hij (by omega)
      rw [ltOf_cf, getElem!_pos d' j hj', getElem!_pos d' i hi'] at this
      simpa using this
end
end Go.Proofs.Ytnogmfpaipjdaaa
