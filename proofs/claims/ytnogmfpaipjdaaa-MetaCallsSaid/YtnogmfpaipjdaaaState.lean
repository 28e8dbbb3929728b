/- Worlds with known blocks of the call's own (of cells, or channels), in a row: what boxes, allocations, loads, stores and calls make of them. No statement is proved here. -/
import Derived.Test.YtnogmfpaipjdaaaKnown
import Derived.Laws.CopyOwn
namespace Go.Proofs.Ytnogmfpaipjdaaa
open Go.RowKit
set_option linter.unusedVariables false
set_option linter.unusedSimpArgs false

/-- A block of cells of a type. -/
abbrev C (t : TypeId) (arr : Array Value) : Obj := .cells arr t (0, 0)
/-- A channel that is open: its room, what is in it, how often it was sent to, and received from. -/
abbrev Ch (cap : Nat) (buf : Array Value) (s r : Nat) : Obj := .chan cap buf false s r false
/-- Blocks and what they are. -/
abbrev Blks := List (Nat × Obj)
/-- Since the world w nothing that was there has changed; the blocks of L are the call's own, and are just these. -/
structure St (w W : World) (L : Blks) : Prop where
  at_ : ∀ x ∈ L, W.heap[x.1]? = some x.2
  lo : ∀ x ∈ L, w.heap.size ≤ x.1
  nd : L.Pairwise (fun x y => x.1 ≠ y.1)
  bel : Below w.heap.size w W
theorem heap_lt {W : World} {g : Nat} {o : Obj} (h : W.heap[g]? = some o) : g < W.heap.size := by
  rcases Nat.lt_or_ge g W.heap.size with hlt | hge
  · exact hlt
  · rw [Array.getElem?_eq_none hge] at h; cases h
theorem grown_setCell (w : World) (g i : Nat) (v : Value) : w.grownBy (w.setCell ⟨g, i, none⟩ v) (some g) :=
  ⟨rfl, rfl, rfl, by simp, fun j hj hne => Below.heap_setCell w _ v j (fun h => hne (by simp only at h; rw [h]))⟩
theorem grown_setChan (W : World) (c cap : Nat) (buf : Array Value) (s r : Nat) : W.grownBy (W.setChan c cap buf false s r false) (some c) :=
  ⟨rfl, rfl, rfl, by simp [World.setChan], fun j hj hne => by
    simp only [World.setChan]
    rw [Array.getElem?_setIfInBounds_ne (by intro e; exact hne (by rw [e]))]⟩
section
variable {w W W' : World} {L : Blks}
theorem St.nil (w : World) : St w w [] := ⟨fun x h => (by cases h), fun x h => (by cases h), .nil, Below.refl _ _⟩
theorem St.get (h : St w W L) (i : Nat) {g : Nat} {o : Obj} (hi : L[i]? = some (g, o)) : W.heap[g]? = some o := h.at_ _ (List.mem_of_getElem? hi)
theorem St.cell (h : St w W L) (i : Nat) {g : Nat} {t : TypeId} {arr : Array Value} (hi : L[i]? = some (g, C t arr)) (j : Nat) (v : Value) (hv : arr[j]? = some v) : W.cell? ⟨g, j, none⟩ = some v := ((show At W g t arr from h.get i hi).cell j).trans hv
theorem St.pushO (h : St w W L) (o : Obj) : St w (W.alloc o) (L ++ [(W.heap.size, o)]) := by
  refine ⟨fun x hx => ?_, fun x hx => ?_, ?_, h.bel.alloc h.bel.size _⟩
  · rcases List.mem_append.1 hx with hx | hx
    · exact (Below.heap_alloc W o x.1 (heap_lt (h.at_ x hx))).trans (h.at_ x hx)
    · rw [List.mem_singleton] at hx; subst hx; exact heap_alloc_new W o
  · rcases List.mem_append.1 hx with hx | hx
    · exact h.lo x hx
    · rw [List.mem_singleton] at hx; subst hx; exact h.bel.size
  · rw [List.pairwise_append]
    refine ⟨h.nd, List.pairwise_singleton _ _, fun x hx y hy => ?_⟩
    rw [List.mem_singleton] at hy; subst hy
    have := heap_lt (h.at_ x hx)
    simp only; omega
theorem St.push (h : St w W L) (t : TypeId) (arr : Array Value) : St w (W.alloc (.cells arr t)) (L ++ [(W.heap.size, C t arr)]) := h.pushO _
theorem St.call (h : St w W L) (hb : Below W.heap.size W W') : St w W' L :=
  ⟨fun x hx => (hb.block x.1 (heap_lt (h.at_ x hx))).trans (h.at_ x hx), h.lo, h.nd, h.bel.trans (hb.mono h.bel.size)⟩
theorem St.drew (h : St w W L) : St w W.drew L := ⟨fun x hx => h.at_ x hx, h.lo, h.nd, h.bel.drew⟩
theorem below_drewN {B k : Nat} (h : Below B w W') : Below B w (W'.drewN k) := ⟨h.os, h.tape, h.output, h.size, h.block⟩
theorem St.drewN (h : St w W L) (n : Nat) : St w (W.drewN n) L := ⟨fun x hx => h.at_ x hx, h.lo, h.nd, below_drewN h.bel⟩
theorem St.grown {row : Option Nat} (h : St w W L) (hg : W.grownBy W' row) (hne : ∀ x ∈ L, row ≠ some x.1) (hlo : ∀ k, row = some k → w.heap.size ≤ k) : St w W' L :=
  ⟨fun x hx => (hg.block x.1 (heap_lt (h.at_ x hx)) (fun e => hne x hx e.symm)).trans (h.at_ x hx), h.lo, h.nd, h.bel.grown hg h.bel.size hlo⟩
theorem St.putO (h : St w W L) (i : Nat) {g : Nat} {o o' : Obj} (hi : L[i]? = some (g, o)) (hA : W'.heap[g]? = some o') (hg : W.grownBy W' (some g)) : St w W' (L.set i (g, o')) := by
  obtain ⟨hil, hie⟩ := List.getElem?_eq_some_iff.1 hi
  have hne : ∀ j x, L[j]? = some x → j ≠ i → x.1 ≠ g := by
    intro j x hj hji
    obtain ⟨hjl, hje⟩ := List.getElem?_eq_some_iff.1 hj
    have hp := List.pairwise_iff_getElem.1 h.nd
    rcases Nat.lt_or_gt_of_ne hji with hlt | hlt
    · have := hp j i hjl hil hlt; rw [hje, hie] at this; exact this
    · have := hp i j hil hjl hlt; rw [hje, hie] at this; exact fun e => this e.symm
  refine ⟨fun x hx => ?_, fun x hx => ?_, ?_, h.bel.grown hg h.bel.size (fun k hk => ?_)⟩
  · obtain ⟨j, hj⟩ := List.getElem?_of_mem hx
    rw [List.getElem?_set] at hj
    by_cases e : i = j
    · rw [if_pos e] at hj; subst e; rw [if_pos hil] at hj; injection hj with hj; subst hj; exact hA
    · rw [if_neg e] at hj
      have hm := h.at_ x (List.mem_of_getElem? hj)
      exact (hg.block x.1 (heap_lt hm) (fun he => hne j x hj (Ne.symm e) (by injection he))).trans hm
  · rcases List.mem_or_eq_of_mem_set hx with hx | rfl
    · exact h.lo x hx
    · exact h.lo (g, o) (List.mem_of_getElem? hi)
  · rw [List.pairwise_iff_getElem]
    intro a b ha hb hab
    rw [List.length_set] at ha hb
    have hp := List.pairwise_iff_getElem.1 h.nd a b ha hb hab
    simp only [List.getElem_set]
    have e0 : L[i].1 = g := by rw [hie]
    by_cases e1 : i = a
    · subst e1
      rw [if_pos rfl, if_neg (by omega)]
      rw [hie] at hp; exact hp
    · rw [if_neg e1]
      by_cases e2 : i = b
      · subst e2; rw [if_pos rfl]; rw [hie] at hp; exact hp
      · rw [if_neg e2]; exact hp
  · injection hk with hk; subst hk; exact h.lo (g, o) (List.mem_of_getElem? hi)
theorem St.put (h : St w W L) (i : Nat) {g : Nat} {t : TypeId} {arr arr' : Array Value} (hi : L[i]? = some (g, C t arr)) (hA : At W' g t arr') (hg : W.grownBy W' (some g)) : St w W' (L.set i (g, C t arr')) := h.putO i hi hA hg
theorem St.chan (h : St w W L) (i : Nat) {c cap s r : Nat} {buf : Array Value} (hi : L[i]? = some (c, Ch cap buf s r)) (buf' : Array Value) (s' r' : Nat) : St w (W.setChan c cap buf' false s' r' false) (L.set i (c, Ch cap buf' s' r')) :=
  h.putO i hi (Go.Conc.heap_setChan W c cap buf' false s' r' false (heap_lt (h.get i hi))) (grown_setChan W c cap buf' s' r')
theorem St.sub {M : Blks} (h : St w W L) (hs : M.Sublist L) : St w W M :=
  ⟨fun x hx => h.at_ x (hs.subset hx), fun x hx => h.lo x (hs.subset hx), h.nd.sublist hs, h.bel⟩
theorem St.pre {M : Blks} (h : St w W (L ++ M)) : St w W L := h.sub (List.sublist_append_left _ _)
theorem St.perm {M : Blks} (h : St w W L) (hp : L.Perm M) : St w W M :=
  ⟨fun x hx => h.at_ x (hp.mem_iff.2 hx), fun x hx => h.lo x (hp.mem_iff.2 hx), h.nd.perm hp (fun h => Ne.symm h), h.bel⟩
end
section
variable {ops : Array Oper} {rest : List Oper} {o : Oper} {a : Act} {w W : World} {Q : Exit → Act → World → Prop} {L : Blks}
theorem wpList_box_st (h : St w W L) (ty : TypeId) (x : Operand) (ho : o.op = .box ty x) (hw : Region.wanted o (yielded ops a.tmps) = true) (arr : Array Value) (hx : (a.eval x).cells = arr)
    (k : ∀ W', St w W' (L ++ [(W.heap.size, C ty arr)]) → Hid (W'.heap.size = W.heap.size + 1) → Below W.heap.size W W' → wpList Try.prog ops Q rest (a.put o.dst (.pointer (some ⟨W.heap.size, 0, none⟩))) W') : wpList Try.prog ops Q (o :: rest) a W := by
  subst hx
  unfold wpList
  rw [if_pos hw]
  refine .inl ?_
  have h1 := k _ (h.push ty (a.eval x).cells) (show _ = _ by simp) ((Below.refl _ _).alloc (Nat.le_refl _) _)
  unfold Oper.wp execOp
  simp only [ho]
  generalize a.eval x = v at *
  have e : ∀ v : Value, (Instr.box ty v).run Try.prog W = .ok (.pointer (some ⟨W.heap.size, 0, none⟩)) (W.alloc (.cells v.cells ty)) := fun v => by
    simp only [Instr.box, newVar]
    generalize v.cells = cs
    go_simp
  simp only [Sem.run_bind, e, Result.andThen_ok, Sem.run_pure]
  exact h1
theorem wpList_alloc_st (h : St w W L) (ty : TypeId) (ho : o.op = .alloc ty) (hw : Region.wanted o (yielded ops a.tmps) = true) (v : Value) (arr : Array Value) (hz : ∀ W, (zeroValue ty).run Try.prog W = .ok v W) (hx : v.cells = arr)
    (k : ∀ W', St w W' (L ++ [(W.heap.size, C ty arr)]) → Hid (W'.heap.size = W.heap.size + 1) → Below W.heap.size W W' → wpList Try.prog ops Q rest (a.put o.dst (.pointer (some ⟨W.heap.size, 0, none⟩))) W') : wpList Try.prog ops Q (o :: rest) a W := by
  subst hx
  unfold wpList
  rw [if_pos hw]
  refine .inl ?_
  have h1 := k _ (h.push ty v.cells) (show _ = _ by simp) ((Below.refl _ _).alloc (Nat.le_refl _) _)
  unfold Oper.wp execOp
  simp only [ho, Instr.alloc, Sem.run_bind, hz, Result.andThen_ok]
  go_simp
  exact h1
theorem wpList_load_st (h : St w W L) (i : Nat) {g : Nat} {t : TypeId} {arr : Array Value} (hi : L[i]? = some (g, C t arr)) (ty : TypeId) (d : TypeDesc) (x : Operand) (ho : o.op = .load ty x) (hw : Region.wanted o (yielded ops a.tmps) = true)
    (hx : a.eval x = .pointer (some ⟨g, 0, none⟩)) (hu : Try.prog.underlying ty = some d) (hd : d.isRow = true) (hs : (Try.prog.info? ty).map (·.size) = some arr.size) (k : wpList Try.prog ops Q rest (a.put o.dst (.agg arr)) W) : wpList Try.prog ops Q (o :: rest) a W :=
  wpList_load_at (h.get i hi) ty d x ho hw hx hu hd hs k
theorem wpList_store_st (h : St w W L) (i : Nat) {g : Nat} {t : TypeId} {arr arr' : Array Value} (hi : L[i]? = some (g, C t arr)) (ty : TypeId) (x y : Operand) (ho : o.op = .store ty x y) (hw : Region.wanted o (yielded ops a.tmps) = true)
    (hx : a.eval x = .pointer (some ⟨g, 0, none⟩)) (hy : a.eval y = .agg arr') (hs : (Try.prog.info? ty).map (·.size) = some arr'.size) (hl : arr'.size = arr.size) (h1 : arr'.all (·.oneCell') = true)
    (k : ∀ W', St w W' (L.set i (g, C t arr')) → W.grownBy W' (some g) → wpList Try.prog ops Q rest (a.put o.dst undef) W') : wpList Try.prog ops Q (o :: rest) a W :=
  wpList_store_all (h.get i hi) ty x y ho hx hw hy hs hl h1 fun W' hA hg => k W' (h.put i hi hA hg) hg
theorem wpList_cell_st (h : St w W L) (i : Nat) {g : Nat} {t : TypeId} {arr : Array Value} (hi : L[i]? = some (g, C t arr)) (ty : TypeId) (x y : Operand) (ho : o.op = .store ty x y) (hw : Region.wanted o (yielded ops a.tmps) = true)
    (m : Nat) (v : Value) (hx : a.eval x = .pointer (some ⟨g, m, none⟩)) (hy : a.eval y = v) (hm : m < arr.size) (hv : v.cells = #[v]) (h1 : v.oneCell' = true) (hs : (Try.prog.info? ty).map (·.size) = some 1)
    (k : ∀ W', St w W' (L.set i (g, C t (arr.setIfInBounds m v))) → W.grownBy W' (some g) → wpList Try.prog ops Q rest (a.put o.dst undef) W') : wpList Try.prog ops Q (o :: rest) a W := by
  have hA : At W g t arr := h.get i hi
  refine wpList_store_at (fun W' => St w W' (L.set i (g, C t (arr.setIfInBounds m v))) ∧ W.grownBy W' (some g)) x y ho hw hx hy hv h1 hs (by rw [hA.cell m, Array.getElem?_eq_getElem hm]; rfl) (hA.frozen m) ⟨h.put i hi (hA.set m v) (grown_setCell W g m v), grown_setCell W g m v⟩ fun W' hW => k W' hW.1 hW.2
theorem wpList_build_as (t : TypeId) (parts : Array (Nat × Operand)) (ho : o.op = .build t parts) (hw : Region.wanted o (yielded ops a.tmps) = true) (cells : Array Value)
    (hf : Try.prog.built t (parts.map fun (i, x) => (i, a.eval x)).toList = some cells) (k : wpList Try.prog ops Q rest (a.put o.dst (.agg cells)) W) : wpList Try.prog ops Q (o :: rest) a W := by
  unfold wpList
  rw [if_pos hw]
  refine .inl (wp_build t parts ho (by rw [hf]; rfl) ?_)
  rw [hf]
  exact k
end
theorem St.front {w W : World} {L : Blks} {x : Nat × Obj} (h : St w W (L ++ [x])) : St w W (x :: L) := h.perm (List.perm_append_singleton x L)
theorem St.tail {w W : World} {L : Blks} {x : Nat × Obj} (h : St w W (x :: L)) : St w W L := h.sub (List.sublist_cons_self x L)
theorem results_cell_tmp {P : Program} {fn : Func} {p q : Tmp} {ty : TypeId} (h : fn.results = #[.cell p ty, .tmp q]) (tmps : Array Value) (w : World) (g : Nat) (hp : tmps.getD p undef = .pointer (some ⟨g, 0, none⟩)) (v : Value)
    (hl : (loadVar ty ⟨g, 0, none⟩).run P w = .ok v w) : (results fn tmps).run P w = .ok (.tuple #[v, tmps.getD q undef]) w := by
  have hp' : tmps[p]?.getD undef = .pointer (some ⟨g, 0, none⟩) := by simpa using hp
  simp [results, h, hp', asAddr, hl]
theorem results_cell_tmp2 {P : Program} {fn : Func} {p q r : Tmp} {ty : TypeId} (h : fn.results = #[.cell p ty, .tmp q, .tmp r]) (tmps : Array Value) (w : World) (g : Nat) (hp : tmps.getD p undef = .pointer (some ⟨g, 0, none⟩)) (v : Value)
    (hl : (loadVar ty ⟨g, 0, none⟩).run P w = .ok v w) : (results fn tmps).run P w = .ok (.tuple #[v, tmps.getD q undef, tmps.getD r undef]) w := by
  have hp' : tmps[p]?.getD undef = .pointer (some ⟨g, 0, none⟩) := by simpa using hp
  simp [results, h, hp', asAddr, hl]
end Go.Proofs.Ytnogmfpaipjdaaa
