/- A row of the call's own that begins anywhere in its block. No statement is proved here. -/
import Derived.Test.YtacjdeppigdbjaaElt2
import Derived.Test.YtacjdeppigdbjaaSlc
import Derived.Laws.AppendOwn
namespace Go.Proofs.Ytacjdeppigdbjaa
open Go.RowKit
set_option linter.unusedVariables false
set_option linter.unusedSimpArgs false

section
variable {α : Type} [E : Elt α]
/-- A slice value of the call's own: nil, or a part of a block of just this kind; it reads as the elements xs; its block is all of M. -/
def RO (v : Value) (xs : List α) (M : Blks) : Prop :=
  (v = .slice none 0 0 ∧ xs = [] ∧ M = []) ∨ ∃ b off cap cur, v = .slice (some ⟨b, off, none⟩) xs.length cap ∧ M = [(b, C E.ty cur)] ∧ xs.length ≤ cap ∧ cap ≤ maxLen ∧ off + cap * E.sz ≤ cur.size ∧ (cur.toList.drop off).take (xs.length * E.sz) = ecells xs
variable {w W W' : World} {v v' : Value} {xs ys : List α} {M L : Blks}
theorem RO.nil_ : RO (.slice none 0 0) ([] : List α) [] := .inl ⟨rfl, rfl, rfl⟩
theorem RO.form (h : RO v xs M) : ∃ A c, v = .slice A xs.length c := by
  rcases h with ⟨rfl, rfl, rfl⟩ | ⟨b, off, cap, cur, rfl, _⟩
  · exact ⟨none, 0, rfl⟩
  · exact ⟨_, _, rfl⟩
theorem RO.row (h : RO v xs M) (hs : St w W (M ++ L)) {A : Option Addr} {n c : Nat} (hv : v = .slice A n c) : ERow W W.heap.size A n c xs := by
  rcases h with ⟨rfl, rfl, rfl⟩ | ⟨b, off, cap, cur, rfl, rfl, h1, h2, h3, h4⟩
  · injection hv with e1 e2 e3
    subst e1; subst e2; subst e3
    exact ERow.nil_ _ _
  · injection hv with e1 e2 e3
    subst e1; subst e2; subst e3
    have hA : At W b E.ty cur := hs.get 0 rfl
    refine ⟨rfl, h1, h2, (fun h => by cases h), fun a ha hn => ?_⟩
    injection ha with ha
    subst ha
    refine ⟨rfl, hA.lt, fun j m hj i u hi => ?_⟩
    rw [hA.cell]
    have hx := ecells_at xs j m hj i u hi
    rw [← h4] at hx
    rw [List.getElem?_take] at hx
    split at hx
    · rw [List.getElem?_drop] at hx
      rw [show off + j * E.sz + i = off + (j * E.sz + i) by omega]
      simpa using hx
    · cases hx
/-- Without the first one. -/
theorem RO.rest (h : RO v xs M) {A : Option Addr} {n c : Nat} (hv : v = .slice A n c) (hn : 0 < n) : RO (.slice (dropA A c 1 E.sz) (n - 1) (c - 1)) (xs.drop 1) M := by
  rcases h with ⟨rfl, rfl, rfl⟩ | ⟨b, off, cap, cur, rfl, rfl, h1, h2, h3, h4⟩
  · injection hv with e1 e2 e3
    omega
  · injection hv with e1 e2 e3
    subst e1; subst e2; subst e3
    have hp := E.pos
    have hl : (xs.drop 1).length = xs.length - 1 := by simp
    unfold dropA
    by_cases hc : cap = 1
    · subst hc
      have h0 : xs.drop 1 = [] := List.eq_nil_of_length_eq_zero (by omega)
      rw [if_pos rfl, h0]
      have e : xs.length - 1 = 0 := by omega
      rw [e]
      exact .inr ⟨b, off, 0, cur, rfl, rfl, Nat.le_refl _, by unfold maxLen; omega, by omega, by simp [ecells_nil]⟩
    · rw [if_neg hc]
      refine .inr ⟨b, off + 1 * E.sz, cap - 1, cur, ?_, rfl, by omega, by omega, ?_, ?_⟩
      · rw [hl, Option.map_some, Addr.add_lit]
      · have : (cap - 1) * E.sz + E.sz = cap * E.sz := by
          rw [← Nat.succ_mul]; congr 1; omega
        omega
      · have e : ecells xs = E.cs xs[0] ++ ecells (xs.drop 1) := by
          conv => lhs; rw [show xs = [xs[0]] ++ xs.drop 1 from by cases xs with | nil => simp at hn | cons a r => rfl]
          rw [ecells_append, ecells_single]
        have h5 := congrArg (List.drop E.sz) h4
        rw [e, List.drop_left' (E.len _), List.drop_take, List.drop_drop] at h5
        rw [← h5, Nat.one_mul, hl, Nat.sub_mul, Nat.one_mul]
theorem RO.blk_ne (h : RO v xs M) (hs : St w W (M ++ L)) : ∀ x ∈ L, v.ownBlock ≠ some x.1 := by
  intro x hx
  rcases h with ⟨rfl, rfl, rfl⟩ | ⟨b, off, cap, cur, rfl, rfl, h1, h2, h3, h4⟩
  · simp [Value.ownBlock]
  · have := hs.nd
    rw [List.pairwise_append] at this
    have := this.2.2 (b, C E.ty cur) (by simp) x hx
    simpa [Value.ownBlock] using this
/-- An element is put behind the others. -/
theorem run_append_ro (h : RO v xs M) (hs : St w W (M ++ L)) (m : α) (a : Addr) (c : Nat) (hnews : ∀ j u, (E.cs m)[j]? = some u → W.cell? (a.add j) = some u) (hl : xs.length ≤ 10000) (ty : TypeId) :
    ∃ v' W' M', (Builtin.append_ #[E.sl, E.sl] ty #[v, .slice (some a) 1 c]).run Try.prog W = .ok v' W' ∧ RO v' (xs ++ [m]) M' ∧ St w W' (M' ++ L) := by
  obtain ⟨i, hi, hz, h1, h2⟩ := E.inf
  have hf := E.few
  have hby : (xs.length + 1) * i.bytes ≤ 140737488355328 := by
    rw [h2]
    exact Nat.le_trans (Nat.mul_le_mul (by omega : xs.length + 1 ≤ 10001) hf) (by omega)
  have hlen : (xs ++ [m]).length = xs.length + 1 := by simp
  have hnl : (E.cs m).length = 1 * i.size := by rw [h1, E.len, Nat.one_mul]
  have hpl : (ecells xs ++ E.cs m) = ecells (xs ++ [m]) := by rw [ecells_append, ecells_single]
  have hL : St w W L := hs.sub (List.sublist_append_right M L)
  have front : ∀ o : Obj, St w (W.drew.alloc o) ([(W.heap.size, o)] ++ L) := fun o => (hL.drew.pushO o).perm (List.perm_append_comm)
  rcases h with ⟨rfl, rfl, rfl⟩ | ⟨b, off, cap, cur, rfl, rfl, g1, g2, g3, g4⟩
  · have hr := run_append_nil (P := Try.prog) W E.sl ty E.ty i E.zv E.und hi hz a 1 c (E.cs m) hnl hnews (by omega) (by omega) (by simp only [List.length_nil, Nat.zero_add] at hby; omega)
    refine ⟨_, _, _, hr, .inr ⟨W.heap.size, 0, grownCap W 1 0 E.ty, _, rfl, rfl, grownCap_ge W 1 0 E.ty, grownCap_le_maxLen W 1 0 E.ty (by unfold maxLen; omega), ?_, ?_⟩, front _⟩
    · have := grownCap_ge W 1 0 E.ty
      simp only [Array.size_append, List.size_toArray, size_zeroCells, E.zsz, E.len]
      have e : E.sz + (grownCap W 1 0 E.ty - 1) * E.sz = grownCap W 1 0 E.ty * E.sz := by
        rw [Nat.add_comm, ← Nat.succ_mul]; congr 1; omega
      omega
    · simp only [List.nil_append, List.length_singleton, Nat.one_mul, ecells_single, List.drop_zero, Array.toList_append]
      rw [← E.len m]
      exact List.take_left
  · have hA : W.heap[b]? = some (.cells cur E.ty (0, 0)) := hs.get 0 rfl
    have holds : ∀ j u, (ecells xs)[j]? = some u → W.cell? ((⟨b, off, none⟩ : Addr).add j) = some u := fun j u hu => by
      rw [Addr.add_lit, (show At W b E.ty cur from hA).cell]
      rw [← g4, List.getElem?_take] at hu
      split at hu
      · rw [List.getElem?_drop] at hu; simpa using hu
      · cases hu
    by_cases hroom : xs.length + 1 ≤ cap
    · have hcm : (xs.length + 1) * E.sz ≤ cap * E.sz := Nat.mul_le_mul_right _ hroom
      have hs1 : xs.length * E.sz + E.sz = (xs.length + 1) * E.sz := (Nat.succ_mul _ _).symm
      have hsz : off + xs.length * i.size + (E.cs m).length ≤ cur.size := by rw [h1, E.len]; omega
      have hfc := run_firstCells_some (P := Try.prog) W i.size 1 a 1 c (E.cs m) hnl hnews
      have hst := run_storeCells_at (P := Try.prog) b (off + xs.length * i.size) E.ty (E.cs m) 0 cur W hA (by omega) (E.one m)
      simp only [Nat.add_zero] at hst
      have hr : (Builtin.append_ #[E.sl, E.sl] ty #[.slice (some ⟨b, off, none⟩) xs.length cap, .slice (some a) 1 c]).run Try.prog W = .ok (.slice (some ⟨b, off, none⟩) (xs.length + 1) cap) (W.setRow b (cur.toList.take (off + xs.length * i.size) ++ E.cs m ++ cur.toList.drop (off + xs.length * i.size + (E.cs m).length)).toArray) := by
        simp [Builtin.append_, run_underlying E.und, sizeOf, typeInfo, hi, Builtin.lenOf, hroom, hfc, Addr.add_lit, hst]
      refine ⟨_, _, [(b, C E.ty _)], hr, .inr ⟨b, off, cap, _, by rw [hlen], rfl, by rw [hlen]; exact hroom, g2, ?_, ?_⟩, hs.putO 0 rfl (setRow_heap W b cur _ E.ty (0, 0) hA) ⟨rfl, rfl, rfl, by simp [World.setRow], fun k _ hk => setRow_other W b k _ (fun e => hk (by rw [e]))⟩⟩
      · simp only [List.size_toArray, List.length_append, List.length_take, List.length_drop, Array.length_toList]
        omega
      · simp only [List.append_assoc]
        rw [hlen, ← hs1, h1]
        have ht : (cur.toList.take (off + xs.length * E.sz)).length = off + xs.length * E.sz := by simp; rw [h1, E.len] at hsz; omega
        rw [List.drop_append_of_le_length (by rw [ht]; omega), List.drop_take, show off + xs.length * E.sz - off = xs.length * E.sz by omega, g4, ← List.append_assoc, hpl]
        refine List.take_left' ?_
        rw [ecells_length, hlen, hs1]
    · have hr := run_append_grow (P := Try.prog) W E.sl ty E.ty i E.zv E.und hi hz ⟨b, off, none⟩ xs.length cap (ecells xs) (by rw [ecells_length, h1]) holds a 1 c (E.cs m) hnl hnews (by omega) (by omega) (growslice_fits (by omega) hby)
      refine ⟨_, _, _, hr, .inr ⟨W.heap.size, 0, grownCap W (xs.length + 1) cap E.ty, _, by rw [hlen], rfl, by rw [hlen]; exact grownCap_ge W _ cap E.ty, grownCap_le_maxLen W _ cap E.ty (by unfold maxLen; omega), ?_, ?_⟩, front _⟩
      · have := grownCap_ge W (xs.length + 1) cap E.ty
        simp only [Array.size_append, List.size_toArray, size_zeroCells, E.zsz, E.len, ecells_length]
        have e : xs.length * E.sz + E.sz + (grownCap W (xs.length + 1) cap E.ty - (xs.length + 1)) * E.sz = grownCap W (xs.length + 1) cap E.ty * E.sz := by
          rw [← Nat.succ_mul, ← Nat.add_mul]; congr 1; omega
        omega
      · simp only [List.drop_zero, Array.toList_append]
        rw [hpl]
        refine List.take_left' ?_
        rw [ecells_length]
end
end Go.Proofs.Ytacjdeppigdbjaa
