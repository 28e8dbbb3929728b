/- Worlds with known blocks of the call's own, in a row: what boxes, allocations, loads, stores and calls make of them. No statement is proved here. -/
import Derived.Test.YtbmdkmnkbchokaaKnown
import Derived.Laws.CopyOwn
namespace Go.Proofs.Ytbmdkmnkbchokaa
open Go.RowKit
set_option linter.unusedVariables false
set_option linter.unusedSimpArgs false

/-- Since the world w nothing that was there has changed; the blocks of L are the call's own, and are just these cells. -/
structure St (w W : World) (L : List (Nat × TypeId × Array Value)) : Prop where
  at_ : ∀ x ∈ L, At W x.1 x.2.1 x.2.2
  lo : ∀ x ∈ L, w.heap.size ≤ x.1
  nd : L.Pairwise (fun x y => x.1 ≠ y.1)
  bel : Below w.heap.size w W
section
variable {w W W' : World} {L : List (Nat × TypeId × Array Value)}
theorem St.nil (w : World) : St w w [] := ⟨fun x h => (by cases h), fun x h => (by cases h), .nil, Below.refl _ _⟩
theorem St.get (h : St w W L) (i : Nat) {g : Nat} {t : TypeId} {arr : Array Value} (hi : L[i]? = some (g, t, arr)) : At W g t arr := h.at_ _ (List.mem_of_getElem? hi)
theorem St.cell (h : St w W L) (i : Nat) {g : Nat} {t : TypeId} {arr : Array Value} (hi : L[i]? = some (g, t, arr)) (j : Nat) (v : Value) (hv : arr[j]? = some v) : W.cell? ⟨g, j, none⟩ = some v := ((h.get i hi).cell j).trans hv
theorem St.push (h : St w W L) (t : TypeId) (arr : Array Value) : St w (W.alloc (.cells arr t)) (L ++ [(W.heap.size, t, arr)]) := by
  refine ⟨fun x hx => ?_, fun x hx => ?_, ?_, h.bel.alloc h.bel.size _⟩
  · rcases List.mem_append.1 hx with hx | hx
    · exact (h.at_ x hx).alloc _
    · rw [List.mem_singleton] at hx; subst hx; exact At.new W t arr
  · rcases List.mem_append.1 hx with hx | hx
    · exact h.lo x hx
    · rw [List.mem_singleton] at hx; subst hx; exact h.bel.size
  · rw [List.pairwise_append]
    refine ⟨h.nd, List.pairwise_singleton _ _, fun x hx y hy => ?_⟩
    rw [List.mem_singleton] at hy; subst hy
    have := (h.at_ x hx).lt
    simp only; omega
theorem St.call (h : St w W L) (hb : Below W.heap.size W W') : St w W' L :=
  ⟨fun x hx => (h.at_ x hx).call hb, h.lo, h.nd, h.bel.trans (hb.mono h.bel.size)⟩
theorem St.drew (h : St w W L) : St w W.drew L := ⟨fun x hx => (h.at_ x hx).drew, h.lo, h.nd, h.bel.drew⟩
theorem St.drewN (h : St w W L) (n : Nat) : St w (W.drewN n) L := ⟨fun x hx => (h.at_ x hx).drewN n, h.lo, h.nd, below_drewN h.bel⟩
theorem St.grown {row : Option Nat} (h : St w W L) (hg : W.grownBy W' row) (hne : ∀ x ∈ L, row ≠ some x.1) (hlo : ∀ k, row = some k → w.heap.size ≤ k) : St w W' L :=
  ⟨fun x hx => (h.at_ x hx).grown hg (hne x hx), h.lo, h.nd, h.bel.grown hg h.bel.size hlo⟩
theorem St.put (h : St w W L) (i : Nat) {g : Nat} {t : TypeId} {arr arr' : Array Value} (hi : L[i]? = some (g, t, arr)) (hA : At W' g t arr') (hg : W.grownBy W' (some g)) : St w W' (L.set i (g, t, arr')) := by
  obtain ⟨hil, hie⟩ := List.getElem?_eq_some_iff.1 hi
  have hne : ∀ j x, L[j]? = some x → j ≠ i → x.1 ≠ g := by
    intro j x hj hji
    obtain ⟨hjl, hje⟩ := List.getElem?_eq_some_iff.1 hj
    have hp := List.pairwise_iff_getElem.1 h.nd
    rcases Nat.lt_or_gt_of_ne hji with hlt | hlt
    · have := hp j i hjl hil hlt; rw [hje, hie] at this; exact this
    · have := hp i j hil hjl hlt; rw [hje, hie] at this; exact fun e => this e.symm
  refine ⟨fun x hx => ?_, fun x hx => ?_, ?_, h.bel.grown hg h.bel.size (fun k hk => ?_)⟩
  · obtain ⟨j, hj⟩ := List.getElem?_of_mem hx
    rw [List.getElem?_set] at hj
    by_cases e : i = j
    · rw [if_pos e] at hj; subst e; rw [if_pos hil] at hj; injection hj with hj; subst hj; exact hA
    · rw [if_neg e] at hj
      exact (h.at_ x (List.mem_of_getElem? hj)).grown hg (fun he => hne j x hj (Ne.symm e) (by injection he with he; exact he.symm))
  · rcases List.mem_or_eq_of_mem_set hx with hx | rfl
    · exact h.lo x hx
    · exact h.lo (g, t, arr) (List.mem_of_getElem? hi)
  · rw [List.pairwise_iff_getElem]
    intro a b ha hb hab
    rw [List.length_set] at ha hb
    have hp := List.pairwise_iff_getElem.1 h.nd a b ha hb hab
    simp only [List.getElem_set]
    have e0 : L[i].1 = g := by rw [hie]
    by_cases e1 : i = a
    · subst e1
      rw [if_pos rfl, if_neg (by omega)]
      rw [hie] at hp; exact hp
    · rw [if_neg e1]
      by_cases e2 : i = b
      · subst e2; rw [if_pos rfl]; rw [hie] at hp; exact hp
      · rw [if_neg e2]; exact hp
  · injection hk with hk; subst hk; exact h.lo (g, t, arr) (List.mem_of_getElem? hi)
end
section
variable {ops : Array Oper} {rest : List Oper} {o : Oper} {a : Act} {w W : World} {Q : Exit → Act → World → Prop} {L : List (Nat × TypeId × Array Value)}
theorem wpList_box_st (h : St w W L) (ty : TypeId) (x : Operand) (ho : o.op = .box ty x) (hw : Region.wanted o (yielded ops a.tmps) = true) (arr : Array Value) (hx : (a.eval x).cells = arr)
    (k : ∀ W', St w W' (L ++ [(W.heap.size, ty, arr)]) → Hid (W'.heap.size = W.heap.size + 1) → Below W.heap.size W W' → wpList Try.prog ops Q rest (a.put o.dst (.pointer (some ⟨W.heap.size, 0, none⟩))) W') : wpList Try.prog ops Q (o :: rest) a W := by
  subst hx
  unfold wpList
  rw [if_pos hw]
  refine .inl ?_
  have h1 := k _ (h.push ty (a.eval x).cells) (show _ = _ by simp) ((Below.refl _ _).alloc (Nat.le_refl _) _)
  unfold Oper.wp execOp
  simp only [ho]
  generalize a.eval x = v at *
  have e : ∀ v : Value, (Instr.box ty v).run Try.prog W = .ok (.pointer (some ⟨W.heap.size, 0, none⟩)) (W.alloc (.cells v.cells ty)) := fun v => by
    simp only [Instr.box, newVar]
    generalize v.cells = cs
    go_simp
  simp only [Sem.run_bind, e, Result.andThen_ok, Sem.run_pure]
  exact h1
theorem wpList_alloc_st (h : St w W L) (ty : TypeId) (ho : o.op = .alloc ty) (hw : Region.wanted o (yielded ops a.tmps) = true) (v : Value) (arr : Array Value) (hz : ∀ W, (zeroValue ty).run Try.prog W = .ok v W) (hx : v.cells = arr)
    (k : ∀ W', St w W' (L ++ [(W.heap.size, ty, arr)]) → Hid (W'.heap.size = W.heap.size + 1) → Below W.heap.size W W' → wpList Try.prog ops Q rest (a.put o.dst (.pointer (some ⟨W.heap.size, 0, none⟩))) W') : wpList Try.prog ops Q (o :: rest) a W := by
  subst hx
  unfold wpList
  rw [if_pos hw]
  refine .inl ?_
  have h1 := k _ (h.push ty v.cells) (show _ = _ by simp) ((Below.refl _ _).alloc (Nat.le_refl _) _)
  unfold Oper.wp execOp
  simp only [ho, Instr.alloc, Sem.run_bind, hz, Result.andThen_ok]
  go_simp
  exact h1
theorem wpList_load_st (h : St w W L) (i : Nat) {g : Nat} {t : TypeId} {arr : Array Value} (hi : L[i]? = some (g, t, arr)) (ty : TypeId) (d : TypeDesc) (x : Operand) (ho : o.op = .load ty x) (hw : Region.wanted o (yielded ops a.tmps) = true)
    (hx : a.eval x = .pointer (some ⟨g, 0, none⟩)) (hu : Try.prog.underlying ty = some d) (hd : d.isRow = true) (hs : (Try.prog.info? ty).map (·.size) = some arr.size) (k : wpList Try.prog ops Q rest (a.put o.dst (.agg arr)) W) : wpList Try.prog ops Q (o :: rest) a W :=
  wpList_load_at (h.get i hi) ty d x ho hw hx hu hd hs k
theorem wpList_store_st (h : St w W L) (i : Nat) {g : Nat} {t : TypeId} {arr arr' : Array Value} (hi : L[i]? = some (g, t, arr)) (ty : TypeId) (x y : Operand) (ho : o.op = .store ty x y) (hw : Region.wanted o (yielded ops a.tmps) = true)
    (hx : a.eval x = .pointer (some ⟨g, 0, none⟩)) (hy : a.eval y = .agg arr') (hs : (Try.prog.info? ty).map (·.size) = some arr'.size) (hl : arr'.size = arr.size) (h1 : arr'.all (·.oneCell') = true)
    (k : ∀ W', St w W' (L.set i (g, t, arr')) → W.grownBy W' (some g) → wpList Try.prog ops Q rest (a.put o.dst undef) W') : wpList Try.prog ops Q (o :: rest) a W :=
  wpList_store_all (h.get i hi) ty x y ho hx hw hy hs hl h1 fun W' hA hg => k W' (h.put i hi hA hg) hg
theorem wpList_cell_st (h : St w W L) (i : Nat) {g : Nat} {t : TypeId} {arr : Array Value} (hi : L[i]? = some (g, t, arr)) (ty : TypeId) (x y : Operand) (ho : o.op = .store ty x y) (hw : Region.wanted o (yielded ops a.tmps) = true)
    (m : Nat) (v : Value) (hx : a.eval x = .pointer (some ⟨g, m, none⟩)) (hy : a.eval y = v) (hm : m < arr.size) (hv : v.cells = #[v]) (h1 : v.oneCell' = true) (hs : (Try.prog.info? ty).map (·.size) = some 1)
    (k : ∀ W', St w W' (L.set i (g, t, arr.setIfInBounds m v)) → W.grownBy W' (some g) → wpList Try.prog ops Q rest (a.put o.dst undef) W') : wpList Try.prog ops Q (o :: rest) a W := by
  have hA := h.get i hi
  refine wpList_store_at (fun W' => St w W' (L.set i (g, t, arr.setIfInBounds m v)) ∧ W.grownBy W' (some g)) x y ho hw hx hy hv h1 hs (by rw [hA.cell m, Array.getElem?_eq_getElem hm]; rfl) (hA.frozen m) ⟨h.put i hi (hA.set m v) (grown_setCell W g m v), grown_setCell W g m v⟩ fun W' hW => k W' hW.1 hW.2
theorem wpList_build_as (t : TypeId) (parts : Array (Nat × Operand)) (ho : o.op = .build t parts) (hw : Region.wanted o (yielded ops a.tmps) = true) (cells : Array Value)
    (hf : Try.prog.built t (parts.map fun (i, x) => (i, a.eval x)).toList = some cells) (k : wpList Try.prog ops Q rest (a.put o.dst (.agg cells)) W) : wpList Try.prog ops Q (o :: rest) a W := by
  unfold wpList
  rw [if_pos hw]
  refine .inl (wp_build t parts ho (by rw [hf]; rfl) ?_)
  rw [hf]
  exact k
/-- Bytes are copied over bytes of a block of the call's own. -/
theorem wpList_copy_st (h : St w W L) (i : Nat) {g : Nat} {t : TypeId} {xs : List Nat} (hi : L[i]? = some (g, t, arrV xs)) (d s : Operand) (dT : TypeId) (hgd : o.guard = none)
    (ho : o.op = .call { callee := .builtin .copy, args := #[d, s], argTypes := #[dT, dT] }) (hu : Try.prog.underlying dT = some (.slice 5)) (off n c c2 B : Nat) (A : Option Addr) (ys : List Nat)
    (hd : a.eval d = .slice (some ⟨g, off, none⟩) n c) (hs : a.eval s = .slice A n c2) (hr : Row W B A n c2 ys) (hn : 0 < n) (hfit : off + n ≤ xs.length)
    (k : ∀ W', St w W' (L.set i (g, t, arrV (xs.take off ++ ys ++ xs.drop (off + n)))) → W.grownBy W' (some g) → wpList Try.prog ops Q rest (a.put o.dst (.int .i64 (n : Int))) W') : wpList Try.prog ops Q (o :: rest) a W := by
  obtain ⟨b, o2, rfl, hb, hc⟩ := hr.at_ hn
  have hl := hr.len
  refine wpList_copy_own hgd d s dT dT ho 5 hu (by kernel_rfl) g off n c ⟨b, o2, none⟩ n c2 hd hs (arrV xs) t (h.get i hi) (vals ys) (by rw [vals_length, hl]; exact (Nat.min_self n).symm) ?_ (by rw [arrV_size, vals_length, hl]; exact hfit) (vals_one ys) ?_
  · intro j u hu
    have hj : j < ys.length := by
      rcases Nat.lt_or_ge j ys.length with h1 | h1
      · exact h1
      · rw [List.getElem?_eq_none (by rw [vals_length]; exact h1)] at hu; cases hu
    rw [vals_getElem? ys j hj] at hu
    injection hu with hu
    rw [Addr.add_lit, ← hu]
    exact hc j (by omega)
  · have e : ((arrV xs).toList.take off ++ (vals ys ++ (arrV xs).toList.drop (off + (vals ys).length))).toArray = arrV (xs.take off ++ ys ++ xs.drop (off + n)) := by
      rw [vals_length, hl]
      unfold arrV
      congr 1
      simp [vals, List.map_take, List.map_drop]
    rw [e, vals_length, hl]
    exact k _ (h.put i hi (h.get i hi).putAll (grown_setRow W g _)) (grown_setRow W g _)
end
theorem Row.beside {W W' : World} {g n c : Nat} {A : Option Addr} {xs : List Nat} (h : Row W g A n c xs) (hg : W.grownBy W' (some g)) (hs : g ≤ W.heap.size) : Row W' g A n c xs :=
  h.keep fun p hp => World.cell?_of_block (hg.block p.block (by omega) (by intro e; injection e with e; omega))
theorem sz5 : (Try.prog.info? 5).map (·.size) = some 1 := by kernel_rfl
theorem results_cell_tmp {P : Program} {fn : Func} {p q : Tmp} {ty : TypeId} (h : fn.results = #[.cell p ty, .tmp q]) (tmps : Array Value) (w : World) (g : Nat) (hp : tmps.getD p undef = .pointer (some ⟨g, 0, none⟩)) (v : Value)
    (hl : (loadVar ty ⟨g, 0, none⟩).run P w = .ok v w) : (results fn tmps).run P w = .ok (.tuple #[v, tmps.getD q undef]) w := by
  have hp' : tmps[p]?.getD undef = .pointer (some ⟨g, 0, none⟩) := by simpa using hp
  simp [results, h, hp', asAddr, hl]
theorem results_cell_tmp2 {P : Program} {fn : Func} {p q r : Tmp} {ty : TypeId} (h : fn.results = #[.cell p ty, .tmp q, .tmp r]) (tmps : Array Value) (w : World) (g : Nat) (hp : tmps.getD p undef = .pointer (some ⟨g, 0, none⟩)) (v : Value)
    (hl : (loadVar ty ⟨g, 0, none⟩).run P w = .ok v w) : (results fn tmps).run P w = .ok (.tuple #[v, tmps.getD q undef, tmps.getD r undef]) w := by
  have hp' : tmps[p]?.getD undef = .pointer (some ⟨g, 0, none⟩) := by simpa using hp
  simp [results, h, hp', asAddr, hl]
end Go.Proofs.Ytbmdkmnkbchokaa
