/- Bytes, and bad events, copied into memory of their own. No statement is proved here. -/
import Derived.Test.YtpibmccofjpelaaIdealWalk
import Derived.Deep.CutRange
import Derived.Deep.RegionWith
namespace Go.Proofs.Ytpibmccofjpelaa
open Go.RowKit Go.Maps
set_option linter.unusedVariables false
set_option linter.unusedSimpArgs false

theorem nil_yes (W : World) : (binOp .eql 24 (.slice none 0 0) (.slice none 0 0)).run Try.prog W = .ok (.bool true) W := by kernel_rfl
theorem nil_no (a : Addr) (n c : Nat) (W : World) : (binOp .eql 24 (.slice (some a) n c) (.slice none 0 0)).run Try.prog W = .ok (.bool false) W := by kernel_rfl
set_option maxRecDepth 20000 in
set_option maxHeartbeats 1000000 in
theorem clone_any (A : Option Addr) (n c : Nat) (xs : List Nat) (B : Nat) (w : World) (hx : Row w B A n c xs) (hB : B ≤ w.heap.size) (hn : n ≤ 1000) :
    Calls Try.prog 48 #[.slice A n c] w fun e w' => ∃ A' c', e = .returned (.slice A' n c') ∧ Own w' w.heap.size A' n c' xs ∧ Below w.heap.size w w' := by
  cases A with
  | none =>
    have hc : c = 0 := hx.2.2.2.2.1 rfl
    have hr := hx.2.2.1
    obtain rfl : n = 0 := by omega
    subst hc
    have hl : xs = [] := List.eq_nil_of_length_eq_zero hx.len
    subst hl
    have e0 := nil_yes
    go_enter Try.func48, Try.ntmps48
    go_wp2
    go_ret
    exact ⟨none, 0, rfl, Own.nil_ _ _, Below.refl _ _⟩
  | some a =>
    have hO := Lib.hid (Own.empty (w := w) (Nat.le_refl w.heap.size))
    have hR := Lib.hid (hx.alloc hB (.cells #[] 5))
    clear hx
    have e0 := nil_no a n c
    go_enter Try.func48, Try.ntmps48
    go_wp2_with (first
      | (refine wpList_append_row (w.alloc (.cells #[] 5)) rfl _ _ rfl w.heap.size _ _ _ [] rfl hO.out B _ n c xs rfl hR.out (by omega) (by simp) ?_; intro A' c' W' ho hg _))
    go_ret
    refine ⟨A', c', by simp, by simpa using ho, ?_⟩
    exact ⟨hg.os, hg.tape, hg.output, by have := hg.size; simp at this; omega, fun i hi => (hg.block i (by simp; omega) (by intro e; injection e with e; have : i = w.heap.size := e; omega)).trans (Below.heap_alloc w _ i hi)⟩
/-- A bad event's value. -/
abbrev badV (k : Int) (s1 s2 : Value) (t : Int) : Array Value := #[.int .i64 k, s1, s2, .int .u64 t]
theorem sz62 : (Try.prog.info? 62).map (·.size) = some 4 := by kernel_rfl
theorem results_bad {fn : Func} {t1 : Tmp} (h : fn.results = #[.cell t1 62]) (tmps : Array Value) (W : World) (g : Nat) (hp : tmps.getD t1 undef = .pointer (some ⟨g, 0, none⟩)) (k : Int) (s1 s2 : Value) (t : Int) (hg : W.heap[g]? = some (.cells (badV k s1 s2 t) 62 (0, 0))) :
    (results fn tmps).run Try.prog W = .ok (.agg (badV k s1 s2 t)) W := by
  have hp' : tmps[t1]?.getD undef = .pointer (some ⟨g, 0, none⟩) := by simpa using hp
  have hl := run_loadVar_row (P := Try.prog) W g 62 62 (badV k s1 s2 t) (0, 0) _ hg Try.underlying62 rfl sz62
  simp [results, h, hp', asAddr, hl]
theorem below_low' {w w' : World} {B C : Nat} (h : Below C w w') (hB : B ≤ C) : Below B w w' := ⟨h.os, h.tape, h.output, h.size, fun i hi => h.block i (by omega)⟩
theorem heap_setRow_far (W : World) (g k : Nat) (cs : Array Value) (h : k ≠ g) : (W.setRow g cs).heap[k]? = W.heap[k]? := by
  simp [World.setRow, Array.getElem?_modify, Ne.symm h]
/-- A bad event in the block of an argument, and a zero one in the answer's. -/
structure CSt (w : World) (k : Int) (s1 s2 : Value) (t : Int) (W : World) : Prop where
  b0 : W.heap[w.heap.size]? = some (.cells (badV k s1 s2 t) 62 (0, 0))
  b1 : W.heap[w.heap.size + 1]? = some (.cells (badV 0 (.slice none 0 0) (.slice none 0 0) 0) 62 (0, 0))
  bel : Below w.heap.size w W
theorem heap_lt {W : World} {g : Nat} {o : Obj} (h : W.heap[g]? = some o) : g < W.heap.size := by
  rcases Nat.lt_or_ge g W.heap.size with h1 | h1
  · exact h1
  · rw [Array.getElem?_eq_none h1] at h; cases h
section
variable {w W W' : World} {k t : Int} {s1 s2 : Value}
theorem CSt.call (h : CSt w k s1 s2 t W) (hb : Below W.heap.size W W') : CSt w k s1 s2 t W' :=
  ⟨(hb.block _ (heap_lt h.b0)).trans h.b0, (hb.block _ (heap_lt h.b1)).trans h.b1, h.bel.trans (hb.mono h.bel.size)⟩
theorem CSt.drew (h : CSt w k s1 s2 t W) : CSt w k s1 s2 t W.drew := ⟨h.b0, h.b1, h.bel.drew⟩
theorem CSt.q1 (h : CSt w k s1 s2 t W) : W.cell? ⟨w.heap.size, 1, none⟩ = some s1 := by rw [cell_of_row W _ 1 _ _ _ h.b0]; rfl
theorem CSt.q2 (h : CSt w k s1 s2 t W) : W.cell? ⟨w.heap.size, 2, none⟩ = some s2 := by rw [cell_of_row W _ 2 _ _ _ h.b0]; rfl
theorem CSt.fz (h : CSt w k s1 s2 t W) (i : Nat) : W.frozen? ⟨w.heap.size, i, none⟩ = false := by have := h.b0; simp [World.frozen?, this]
theorem CSt.set (h : CSt w k s1 s2 t W) (u1 u2 : Value) : CSt w k u1 u2 t ((W.setCell ⟨w.heap.size, 1, none⟩ u1).setCell ⟨w.heap.size, 2, none⟩ u2) := by
  refine ⟨?_, ?_, ?_⟩
  · have := h.b0
    simp [World.setCell, Array.getElem?_modify, this]
  · have := h.b1
    simp [World.setCell, Array.getElem?_modify, this]
  · exact (h.bel.setCell (p := ⟨w.heap.size, 1, none⟩) (Nat.le_refl _) _).setCell (p := ⟨w.heap.size, 2, none⟩) (Nat.le_refl _) _
end
/-- A row of the call's own hangs on the blocks from its base on alone. -/
theorem Own.keep' {W W' : World} {base n c : Nat} {A : Option Addr} {xs : List Nat} (h : Own W base A n c xs) (hk : ∀ i, base ≤ i → W'.heap[i]? = W.heap[i]?) (hs : W'.heap.size = W.heap.size) : Own W' base A n c xs := by
  refine ⟨h.1, h.2.1, h.2.2.1, ?_⟩
  rcases h.2.2.2 with h0 | ⟨g, cap, cur, hv, hg, hb, r⟩
  · exact .inl h0
  · exact .inr ⟨g, cap, cur, hv, hg, (hk g hg).trans hb, r⟩
theorem Own.setB {W : World} {base n c : Nat} {A : Option Addr} {xs : List Nat} (h : Own W base A n c xs) {a : Addr} (ha : a.block < base) (u : Value) : Own (W.setCell a u) base A n c xs := ⟨h.1, h.2.1, ownsRow_setCell_below h.2.2 ha u⟩
theorem wpList_load_bad {W : World} {g : Nat} {k t : Int} {s1 s2 : Value} {ops : Array Oper} {rest : List Oper} {o : Oper} {a : Act} {Q : Exit → Act → World → Prop} (h : W.heap[g]? = some (.cells (badV k s1 s2 t) 62 (0, 0))) (x : Operand) (ho : o.op = .load 62 x) (hw : Region.wanted o (yielded ops a.tmps) = true) (hx : a.eval x = .pointer (some ⟨g, 0, none⟩))
    (kk : wpList Try.prog ops Q rest (a.put o.dst (.agg (badV k s1 s2 t))) W) : wpList Try.prog ops Q (o :: rest) a W := by
  unfold wpList
  rw [if_pos hw]
  exact .inl (wp_load_row 62 x ho g hx 62 (badV k s1 s2 t) (0, 0) _ h Try.underlying62 rfl sz62 kk)
theorem wpList_store_bad {W : World} {g : Nat} {k t k' t' : Int} {s1 s2 s1' s2' : Value} {ops : Array Oper} {rest : List Oper} {o : Oper} {a : Act} {Q : Exit → Act → World → Prop} (h : W.heap[g]? = some (.cells (badV k s1 s2 t) 62 (0, 0))) (u y : Operand) (ho : o.op = .store 62 u y) (hx : a.eval u = .pointer (some ⟨g, 0, none⟩)) (hw : Region.wanted o (yielded ops a.tmps) = true) (hy : a.eval y = .agg (badV k' s1' s2' t')) (h1 : s1'.oneCell' = true) (h2 : s2'.oneCell' = true)
    (kk : wpList Try.prog ops Q rest (a.put o.dst undef) (W.setRow g (badV k' s1' s2' t'))) : wpList Try.prog ops Q (o :: rest) a W := by
  unfold wpList
  rw [if_pos hw]
  exact .inl (wp_store_row 62 u y ho g (badV k' s1' s2' t') hx hy 62 (badV k s1 s2 t) h sz62 rfl (by simp [badV, h1, h2]; exact ⟨rfl, rfl⟩) kk)
set_option maxRecDepth 20000 in
set_option maxHeartbeats 2000000 in
theorem copied_any (k t : Int) (A1 A2 : Option Addr) (n1 c1 n2 c2 : Nat) (xs ys : List Nat) (B : Nat) (w : World) (hx : Row w B A1 n1 c1 xs) (hy : Row w B A2 n2 c2 ys) (hB : B ≤ w.heap.size) (hn1 : n1 ≤ 1000) (hn2 : n2 ≤ 1000) :
    Calls Try.prog 47 #[.agg (badV k (.slice A1 n1 c1) (.slice A2 n2 c2) t)] w fun e w' => ∃ A1' c1' A2' c2', e = .returned (.agg (badV k (.slice A1' n1 c1') (.slice A2' n2 c2') t)) ∧ Own w' w.heap.size A1' n1 c1' xs ∧ Own w' w.heap.size A2' n2 c2' ys ∧ Below w.heap.size w w' := by
  have CL1 := Lib.hid (fun W (h : Row W B A1 n1 c1 xs) (hb : B ≤ W.heap.size) => clone_any A1 n1 c1 xs B W h hb hn1)
  have CL2 := Lib.hid (fun W (h : Row W B A2 n2 c2 ys) (hb : B ≤ W.heap.size) => clone_any A2 n2 c2 ys B W h hb hn2)
  have H : Hid (CSt w k (.slice A1 n1 c1) (.slice A2 n2 c2) t ((w.alloc (.cells (badV k (.slice A1 n1 c1) (.slice A2 n2 c2) t) 62)).alloc (.cells (badV 0 (.slice none 0 0) (.slice none 0 0) 0) 62))) := ⟨(Below.heap_alloc _ _ _ (by simp)).trans (heap_alloc_new w _), heap_alloc2_new w _ _, ((Below.refl _ _).alloc (Nat.le_refl _) _).alloc (by simp) _⟩
  have HX := Lib.hid hx
  have HY := Lib.hid hy
  clear hx hy
  go_enter Try.func47, Try.ntmps47
  go_wp2
  generalize (w.alloc (.cells (badV k (.slice A1 n1 c1) (.slice A2 n2 c2) t) 62)).alloc (.cells (badV 0 (.slice none 0 0) (.slice none 0 0) 0) 62) = V at *
  have RX := Lib.hid (HX.out.below (below_low' H.out.bel hB))
  have RY := Lib.hid (HY.out.below (below_low' H.out.bel hB))
  have SZ := H.out.bel.size
  go_cut [] from 3 to 10 (fun wx => ∃ A1' c1' A2' c2', CSt w k (.slice A1' n1 c1') (.slice A2' n2 c2') t wx ∧ Own wx (w.heap.size + 2) A1' n1 c1' xs ∧ Own wx (w.heap.size + 2) A2' n2 c2' ys)
  case first =>
    have q1 := H.out.q1
    have q2 := H.out.q2
    go_region_with (first
      | (go_at_call_of 48 (Value.slice A1 n1 c1); refine (CL1.out _ RX.out.drew (by simp; omega)).mono ?_; rintro e X1 ⟨A1', c1', rfl, o1, hb1⟩; have H1 := Lib.hid (H.out.drew.call hb1); have y2 := H1.out.q2; have O1 := Lib.hid o1; have R1 := Lib.hid (RY.out.drew.below (below_low' hb1 (by simp; omega))); clear o1 hb1)
      | (have := H1; go_at_call_of 48 (Value.slice A2 n2 c2); refine (CL2.out _ R1.out (Nat.le_trans hB H1.out.bel.size)).mono ?_; rintro e X2 ⟨A2', c2', rfl, o2, hb2⟩; have H2 := Lib.hid (H1.out.call hb2); have O2 := Lib.hid (And.intro (O1.out.below hb2) o2); have f1 := H2.out.fz 1; have f2 := H2.out.fz 2; have v1 := H2.out.q1; have v2 := H2.out.q2; clear o2 hb2))
    all_goals
      (go_wp2_with fail
       go_meet
       refine ⟨A1', c1', A2', c2', H2.out.set _ _, ?_, ?_⟩
       · have z0 := heap_lt H.out.b1
         exact ((O2.out.1.lower (base' := w.heap.size + 2) (by simp; omega)).setB (by simp) _).setB (by simp) _
       · have z0 := heap_lt H1.out.b1
         exact ((O2.out.2.lower (base' := w.heap.size + 2) (by omega)).setB (by simp) _).setB (by simp) _)
  case rest =>
    obtain ⟨A1', c1', A2', c2', hC, o1, o2⟩ := hcut
    go_wp2_with (first
      | (refine wpList_load_bad hC.b0 _ rfl rfl rfl ?_)
      | (refine wpList_store_bad hC.b1 _ _ rfl rfl rfl rfl rfl rfl ?_))
    refine bodyPost_ret (results_bad Try.results47 _ _ (w.heap.size + 1) rfl k (.slice A1' n1 c1') (.slice A2' n2 c2') t ?_) rfl ⟨A1', c1', A2', c2', rfl, ?_, ?_, ?_⟩
    · have := hC.b1
      simp [World.setRow, Array.getElem?_modify, this]
    · exact (o1.keep' (fun i hi => heap_setRow_far _ _ i _ (by omega)) (by simp [World.setRow])).lower (by omega)
    · exact (o2.keep' (fun i hi => heap_setRow_far _ _ i _ (by omega)) (by simp [World.setRow])).lower (by omega)
    · exact hC.bel.trans ⟨rfl, rfl, rfl, by simp [World.setRow], fun i hi => heap_setRow_far _ _ i _ (by omega)⟩
end Go.Proofs.Ytpibmccofjpelaa
