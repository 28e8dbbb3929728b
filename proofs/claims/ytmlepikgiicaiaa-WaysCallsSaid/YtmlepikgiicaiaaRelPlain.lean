/- The document's list beside a cache's sets: plain facts. No statement is proved here. -/
import Derived.Test.YtmlepikgiicaiaaRKeys
namespace Go.Proofs.Ytmlepikgiicaiaa
set_option linter.unusedVariables false
set_option linter.unusedSimpArgs false

/-- The sets hold what the document's list holds, each set in the list's order. -/
structure Rel (S N : Nat) (cc : Cs) (l : List Ent) : Prop where
  inv : Inv N cc
  len : cc.length = S
  nd : (l.map (·.k)).Nodup
  k0 : Keys0 l
  eq : ∀ j, 0 ≤ j → sof cc j = l.filter (fun e => e.k % (S : Int) == j % (S : Int))
theorem plc_mod {cc : Cs} {S : Nat} (hl : cc.length = S) {j k : Int} (hj : 0 ≤ j) (hk : 0 ≤ k) : plc cc j = plc cc k ↔ j % (S : Int) = k % (S : Int) := by
  obtain ⟨a, rfl⟩ : ∃ a : Nat, j = (a : Int) := ⟨j.toNat, by omega⟩
  obtain ⟨b, rfl⟩ : ∃ b : Nat, k = (b : Int) := ⟨k.toNat, by omega⟩
  unfold plc
  rw [hl, Int.toNat_natCast, Int.toNat_natCast, ← Int.natCast_emod, ← Int.natCast_emod]
  omega
section
variable {S N : Nat} {cc : Cs} {l : List Ent} {k v : Int}
theorem Rel.new (S N : Nat) (h : 1 ≤ S) : Rel S N (List.replicate S []) [] := by
  refine ⟨Inv.new N S h, by simp, by simp, fun e he => (by cases he), fun j hj => ?_⟩
  rw [sof_nn hj, List.getD_eq_getElem?_getD, List.getElem?_replicate]
  split <;> rfl
theorem Rel.look (h : Rel S N cc l) (k : Int) : lookL (sof cc k) k = lookL l k := by
  rcases Int.lt_or_le k 0 with h0 | h0
  · rw [sof_neg h0]
    have hn : l.find? (fun e => e.k == k) = none := List.find?_eq_none.2 (fun e he => by
      have := (h.k0 e he).1
      have : e.k ≠ k := by omega
      simpa using this)
    unfold lookL
    rw [hn]
    rfl
  · rw [h.eq k h0]
    unfold lookL
    rw [List.find?_filter]
    congr 2
    funext e
    by_cases he : e.k = k
    · simp [he]
    · simp [he]
theorem fnd_look (l : List Ent) (k : Int) : (fnd l k).isSome = (lookL l k).isSome := by
  cases h : fnd l k with
  | none => rw [look_none h]; rfl
  | some i => rw [look_some h]; rfl
theorem Rel.getO (h : Rel S N cc l) (k : Int) : getO cc k = (fnd l k).isSome := by rw [getO_look, h.look, fnd_look]
theorem Rel.getV (h : Rel S N cc l) {k : Int} {i : Nat} (hi : fnd l k = some i) : Ytmlepikgiicaiaa.getV cc k = (l.getD i default).v := by rw [getV_look, h.look, look_some hi]; rfl
theorem Rel.getV0 (h : Rel S N cc l) {k : Int} (hi : fnd l k = none) : Ytmlepikgiicaiaa.getV cc k = 0 := by rw [getV_look, h.look, look_none hi]; rfl
theorem Rel.old (h : Rel S N cc l) (k : Int) : oldR S l k = ks (sof cc k) := by
  unfold oldR
  split
  · rename_i h0; rw [sof_neg h0]; rfl
  · rw [h.eq k (by omega)]; rfl
theorem Rel.room (h : Rel S N cc l) (k : Int) : roomR S N l k = setK N cc k := by
  have e1 := h.getO k
  have e2 : (oldR S l k).length = (sof cc k).length := by rw [h.old, ks_length]
  unfold roomR setK Ytmlepikgiicaiaa.room
  rw [e1, e2]
  split
  · rfl
  · have h0 : decide (0 ≤ k) = true := decide_eq_true (by omega)
    rw [h0]
    cases hf : fnd l k with
    | none =>
      by_cases hN : N ≤ (sof cc k).length
      · rw [if_pos ⟨rfl, hN⟩, if_neg (by simp; omega)]
      · rw [if_neg (fun h => hN h.2), if_pos (by simp; omega)]
    | some i =>
      rw [if_neg (by simp), if_pos (by simp)]
theorem dropR_filter (hn : (l.map (·.k)).Nodup) (k : Int) : dropR l k = l.filter (fun e => e.k ≠ k) := by
  unfold dropR
  cases hf : fnd l k with
  | none => simp only; rw [filter_none hf]
  | some i => simp only; rw [cut_filter hn hf]
theorem Rel.drop (h : Rel S N cc l) (k : Int) : Rel S N (dropC cc k) (dropR l k) := by
  rw [dropR_filter h.nd]
  refine ⟨h.inv.drop k, by rw [dropC_len, h.len], h.nd.sublist (List.filter_sublist.map _), fun e he => h.k0 e (List.mem_filter.1 he).1, fun j hj => ?_⟩
  rw [sof_drop h.inv, h.eq j hj, List.filter_filter, List.filter_filter]
  congr 1
  funext e
  rw [Bool.and_comm]
theorem Rel.put (h : Rel S N cc l) (hr : Ytmlepikgiicaiaa.room N cc k = true) (hk : k ≤ 9223372036854775807) (v : Int) : Rel S N (putC cc k v) (dropR l k ++ [⟨k, v⟩]) := by
  have h0 := (drop_room h.inv hr).1
  have hd := h.drop k
  rw [dropR_filter h.nd] at hd ⊢
  refine ⟨h.inv.put hr v, by rw [putC_len, h.len], ?_, ?_, fun j hj => ?_⟩
  · rw [List.map_append, List.nodup_append]
    refine ⟨hd.nd, by simp, ?_⟩
    intro a ha b hb
    simp only [List.map_cons, List.map_nil, List.mem_singleton] at hb
    subst hb
    obtain ⟨e, he, rfl⟩ := List.mem_map.1 ha
    simpa using (List.mem_filter.1 he).2
  · intro e he
    rcases List.mem_append.1 he with he | he
    · exact hd.k0 e he
    · rw [List.mem_singleton] at he; subst he; exact ⟨h0, hk⟩
  · rw [sof_put h.inv h0, h.eq j hj, List.filter_append, List.filter_filter, List.filter_filter]
    congr 1
    · congr 1
      funext e
      rw [Bool.and_comm]
    · have := plc_mod h.len hj h0
      simp only [List.filter_cons, List.filter_nil]
      by_cases e : plc cc j = plc cc k
      · rw [if_pos ⟨hj, e⟩, if_pos (by have := this.1 e; simp [this])]
      · rw [if_neg (fun h => e h.2), if_neg (by
          have h2 : ¬ j % (S : Int) = k % (S : Int) := fun h2 => e (this.2 h2)
          simp; omega)]
theorem Rel.touch (h : Rel S N cc l) (hk : k ≤ 9223372036854775807) : Rel S N (touchC cc k) (match fnd l k with | some i => dropR l k ++ [l.getD i default] | none => l) := by
  have e1 := h.getO k
  unfold touchC
  cases hf : fnd l k with
  | none =>
    rw [hf] at e1
    rw [if_neg (by rw [e1]; simp)]
    exact h
  | some i =>
    rw [hf] at e1
    have e1 : Ytmlepikgiicaiaa.getO cc k = true := e1
    rw [if_pos e1]
    simp only
    obtain ⟨x, hx, hxk, _⟩ := fnd_spec hf
    have ex : l.getD i default = x := by rw [List.getD_eq_getElem?_getD, hx]; rfl
    have ev := h.getV hf
    rw [ex] at ev ⊢
    rw [ev]
    have := h.put (getO_room e1) hk x.v
    have e3 : (⟨k, x.v⟩ : Ent) = x := by rw [← hxk]
    rwa [e3] at this
theorem Rel.set (h : Rel S N cc l) (hk : k ≤ 9223372036854775807) (v : Int) : Rel S N (setC N cc k v) (if roomR S N l k = 0 then dropR l k ++ [⟨k, v⟩] else l) := by
  rw [h.room]
  have hr := setK_room N cc k
  unfold setC
  by_cases h0 : setK N cc k = 0
  · rw [if_pos h0]
    rw [h0] at hr
    have hr2 : Ytmlepikgiicaiaa.room N cc k = true := by rw [← hr]; rfl
    have := (drop_room h.inv hr2).1
    rw [if_neg (by omega), if_pos hr2]
    exact h.put hr2 hk v
  · rw [if_neg h0]
    have hr2 : Ytmlepikgiicaiaa.room N cc k = false := by rw [← hr]; simpa using h0
    split
    · exact h
    · rw [if_neg (by rw [hr2]; simp)]; exact h
theorem Rel.keys (h : Rel S N cc l) {out : List Int} (hs : out.Pairwise (· ≤ ·)) (hp : out.Perm (l.map (·.k))) : srt (allK cc) = out := by
  have hperm : (allK cc).Perm (l.map (·.k)) := by
    rw [List.perm_ext_iff_of_nodup (allK_nodup h.inv) h.nd]
    intro k
    rw [← getO_iff h.inv, h.getO, fnd_look, has_iff, List.mem_map]
  have h1 : (srt (allK cc)).Pairwise (· ≤ ·) := by
    have := List.pairwise_mergeSort (le := fun x y : Int => decide (x ≤ y)) (fun a b c h1 h2 => by simp at *; omega) (fun a b => by simp; omega) (allK cc)
    exact this.imp fun h => by simpa using h
  have h2 : (srt (allK cc)).Perm out := (List.mergeSort_perm (allK cc) _).trans (hperm.trans hp.symm)
  exact List.Perm.eq_of_pairwise (fun a b _ _ h3 h4 => by omega) h1 hs h2
end
end Go.Proofs.Ytmlepikgiicaiaa
