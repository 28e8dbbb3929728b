/- Known blocks of the call's own, more: rows of ints that are made, allocations in regions that draw their order. No statement is proved here. -/
import Derived.Test.YtcepncdolbfcfaaCnt3
namespace Go.Proofs.Ytcepncdolbfcfaa
open Go.RowKit
set_option linter.unusedVariables false
set_option linter.unusedSimpArgs false

/-- Ints as the cells of a block. -/
def iarr (xs : List Int) : Array Value := (ivals xs).toArray
theorem iarr_size (xs : List Int) : (iarr xs).size = xs.length := by simp [iarr, ivals]
theorem iarr_set (xs : List Int) (i : Nat) (d : Int) : (iarr xs).setIfInBounds i (.int .i64 d) = iarr (xs.set i d) := by
  unfold iarr; simp [ivals, List.map_set]
theorem At.irow {W : World} {g : Nat} {t : TypeId} {xs : List Int} (h : At W g t (iarr xs)) (hx : ∀ x ∈ xs, I64 x) (n : Nat) (hl : xs.length = n) (hn : n ≤ 1000000) : IRow W W.heap.size (some ⟨g, 0, none⟩) n n xs := by
  refine ⟨hl, hx, Nat.le_refl _, by unfold maxLen; omega, (fun h => by cases h), fun a ha _ => ?_⟩
  injection ha with ha
  subst ha
  refine ⟨rfl, h.lt, fun j hj => ?_⟩
  rw [Nat.zero_add, h.cell j]
  unfold iarr
  rw [List.getElem?_toArray]
  exact ivals_getElem? xs j (by omega)
theorem made_iarr (n : Nat) : madeCells (Value.int IntKind.i64 0).cells (n * 1) = iarr (List.replicate n 0) := by
  rw [← Array.toList_inj, show (Value.int IntKind.i64 0).cells = #[Value.int IntKind.i64 0] from rfl, toList_madeCells_one]
  simp [iarr, ivals]
section
variable {ops : Array Oper} {rest : List Oper} {o : Oper} {a : Act} {w W : World} {K : Act → World → Prop} {Q : Exit → Act → World → Prop} {L : List (Nat × TypeId × Array Value)}
theorem wp_make_st (h : St w W L) (l c : Operand) (ho : o.op = .makeSlice 29 l c) (n : Nat) (hl : a.eval l = .int .i64 (n : Int)) (hc : a.eval c = .int .i64 (n : Int)) (hn : n ≤ 1000000)
    (k : ∀ W', St w W' (L ++ [(W.heap.size, 3, iarr (List.replicate n 0))]) → Below W.heap.size W W' → K (a.put o.dst (.slice (some ⟨W.heap.size, 0, none⟩) n n)) W') : o.wp Try.prog a W K Q := by
  obtain ⟨i0, hi, hz0, hz1, hz2⟩ := info_parts info3
  have hrun := run_makeSlice (P := Try.prog) (w := W) 29 3 i0 (.int .i64 0) Try.underlying29 hi hz0 .i64 .i64 (n : Int) (n : Int) (by omega) (by omega) (by simp [hz1]; omega) (by rw [hz2]; omega) (by omega)
  have e : (W.alloc (.cells (madeCells (Value.int IntKind.i64 0).cells (((n : Int).toNat) * i0.size)) 3)) = W.alloc (.cells (iarr (List.replicate n 0)) 3) := by
    rw [hz1, Int.toNat_natCast, made_iarr]
  rw [e] at hrun
  unfold Oper.wp
  simp only [execOp, ho, hl, hc, Sem.run_bind, hrun, Result.andThen_ok, Sem.run_pure, Int.toNat_natCast]
  exact k _ (h.push 3 _) ((Below.refl _ _).alloc (Nat.le_refl _) _)
theorem wpList_make_st (h : St w W L) (l c : Operand) (ho : o.op = .makeSlice 29 l c) (hw : Region.wanted o (yielded ops a.tmps) = true) (n : Nat) (hl : a.eval l = .int .i64 (n : Int)) (hc : a.eval c = .int .i64 (n : Int)) (hn : n ≤ 1000000)
    (k : ∀ W', St w W' (L ++ [(W.heap.size, 3, iarr (List.replicate n 0))]) → Below W.heap.size W W' → wpList Try.prog ops Q rest (a.put o.dst (.slice (some ⟨W.heap.size, 0, none⟩) n n)) W') : wpList Try.prog ops Q (o :: rest) a W := by
  unfold wpList
  rw [if_pos hw]
  exact .inl (wp_make_st h l c ho n hl hc hn k)
theorem wp_alloc_st (h : St w W L) (ty : TypeId) (ho : o.op = .alloc ty) (v : Value) (arr : Array Value) (hz : ∀ W, (zeroValue ty).run Try.prog W = .ok v W) (hx : v.cells = arr)
    (k : ∀ W', St w W' (L ++ [(W.heap.size, ty, arr)]) → Below W.heap.size W W' → K (a.put o.dst (.pointer (some ⟨W.heap.size, 0, none⟩))) W') : o.wp Try.prog a W K Q := by
  subst hx
  have h1 := k _ (h.push ty v.cells) ((Below.refl _ _).alloc (Nat.le_refl _) _)
  unfold Oper.wp execOp
  simp only [ho, Instr.alloc, Sem.run_bind, hz, Result.andThen_ok]
  go_simp
  exact h1
theorem wp_store_st (h : St w W L) (i : Nat) {g : Nat} {t : TypeId} {arr arr' : Array Value} (hi : L[i]? = some (g, t, arr)) (ty : TypeId) (x y : Operand) (ho : o.op = .store ty x y)
    (hx : a.eval x = .pointer (some ⟨g, 0, none⟩)) (hy : a.eval y = .agg arr') (hs : (Try.prog.info? ty).map (·.size) = some arr'.size) (hl : arr'.size = arr.size) (h1 : arr'.all (·.oneCell') = true)
    (k : ∀ W', St w W' (L.set i (g, t, arr')) → W.grownBy W' (some g) → K (a.put o.dst undef) W') : o.wp Try.prog a W K Q :=
  wp_store_row ty x y ho g arr' hx hy t arr (h.get i hi) hs hl.symm h1 (k _ (h.put i hi (h.get i hi).putAll (grown_setRow W g arr')) (grown_setRow W g arr'))
end
theorem St.pre {w W : World} {L M : List (Nat × TypeId × Array Value)} (h : St w W (L ++ M)) : St w W L := h.sub (List.sublist_append_left _ _)
theorem St.perm {w W : World} {L M : List (Nat × TypeId × Array Value)} (h : St w W L) (hp : L.Perm M) : St w W M :=
  ⟨fun x hx => h.at_ x (hp.mem_iff.2 hx), fun x hx => h.lo x (hp.mem_iff.2 hx), h.nd.perm hp (fun h => Ne.symm h), h.bel⟩
theorem IRow.beside {W W' : World} {g n c : Nat} {A : Option Addr} {xs : List Int} (h : IRow W g A n c xs) (hg : W.grownBy W' (some g)) (hs : g ≤ W.heap.size) : IRow W' g A n c xs :=
  h.keep fun p hp => World.cell?_of_block (hg.block p.block (by omega) (by intro e; injection e with e; omega))
/-- The call hands back counters and a code, and nothing that was there is changed. -/
def GivesC (w : World) (M : Nat) (ms : List Int) (n : Nat) (code : Int) (e : Ending) (w' : World) : Prop :=
  ∃ A c, e = .returned (.tuple #[.agg #[.int .u64 M, .slice A n c], .int .i64 code]) ∧ IRow w' w'.heap.size A n c ms ∧ Below w.heap.size w w'
end Go.Proofs.Ytcepncdolbfcfaa
