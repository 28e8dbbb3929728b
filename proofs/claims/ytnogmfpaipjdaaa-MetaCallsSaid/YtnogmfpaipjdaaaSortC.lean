/- The library's sort, as this program bears it; a row of what is cached, sorted by its items. No statement is proved here. -/
import Derived.Test.YtnogmfpaipjdaaaOnw
import Derived.Shelf.SlSortCmp.NoneTotal
namespace Go.Proofs.Ytnogmfpaipjdaaa
open Go.RowKit Go.Sort
open P (Pl right hasI vals)
set_option maxRecDepth 20000
set_option linter.unusedVariables false
set_option linter.unusedSimpArgs false

def sortC_ren : Go.Shelf.Ren := ⟨fun | 6 => 43 | 15 => 58 | 14 => 57 | 28 => 77 | 29 => 78 | 20 => 69 | 21 => 70 | 22 => 71 | 23 => 72 | 24 => 73 | 25 => 74 | 26 => 75 | 27 => 76 | 46 => 82 | 47 => 83 | 48 => 84 | 49 => 85 | 50 => 86 | 57 => 87 | n => n, fun | 22 => 38 | 24 => 59 | 25 => 90 | 3 => 3 | 39 => 98 | 0 => 0 | 53 => 108 | 55 => 22 | 4 => 4 | 46 => 102 | 45 => 101 | 50 => 74 | 5 => 5 | 9 => 9 | 66 => 111 | 70 => 115 | 76 => 117 | 77 => 118 | n => n, fun | n => n⟩
theorem sortC : Go.Proofs.SlLaysF0.n6 Try.prog sortC_ren where
  mixed := by kernel_rfl
  f6 := ⟨ "slices.SortFunc[[]bastion/api.Cached,bastion/api.Cached]", by decide, Try.func43.trans (congrArg some (by kernel_rfl))⟩
  f14 := ⟨ "slices.pdqsortCmpFunc[bastion/api.Cached]", by decide, Try.func57.trans (congrArg some (by kernel_rfl))⟩
  f15 := Try.func58.trans (congrArg some (by kernel_rfl))
  f20 := ⟨ "slices.insertionSortCmpFunc[bastion/api.Cached]", by decide, Try.func69.trans (congrArg some (by kernel_rfl))⟩
  f21 := ⟨ "slices.heapSortCmpFunc[bastion/api.Cached]", by decide, Try.func70.trans (congrArg some (by kernel_rfl))⟩
  f22 := ⟨ "slices.breakPatternsCmpFunc[bastion/api.Cached]", by decide, Try.func71.trans (congrArg some (by kernel_rfl))⟩
  f23 := ⟨ "slices.choosePivotCmpFunc[bastion/api.Cached]", by decide, Try.func72.trans (congrArg some (by kernel_rfl))⟩
  f24 := ⟨ "slices.reverseRangeCmpFunc[bastion/api.Cached]", by decide, Try.func73.trans (congrArg some (by kernel_rfl))⟩
  f25 := ⟨ "slices.partialInsertionSortCmpFunc[bastion/api.Cached]", by decide, Try.func74.trans (congrArg some (by kernel_rfl))⟩
  f26 := ⟨ "slices.partitionEqualCmpFunc[bastion/api.Cached]", by decide, Try.func75.trans (congrArg some (by kernel_rfl))⟩
  f27 := ⟨ "slices.partitionCmpFunc[bastion/api.Cached]", by decide, Try.func76.trans (congrArg some (by kernel_rfl))⟩
  f28 := Try.func77.trans (congrArg some (by kernel_rfl))
  f29 := Try.func78.trans (congrArg some (by kernel_rfl))
  f46 := ⟨ "slices.siftDownCmpFunc[bastion/api.Cached]", by decide, Try.func82.trans (congrArg some (by kernel_rfl))⟩
  f47 := Try.func83.trans (congrArg some (by kernel_rfl))
  f48 := Try.func84.trans (congrArg some (by kernel_rfl))
  f49 := ⟨ "slices.medianAdjacentCmpFunc[bastion/api.Cached]", by decide, Try.func85.trans (congrArg some (by kernel_rfl))⟩
  f50 := ⟨ "slices.medianCmpFunc[bastion/api.Cached]", by decide, Try.func86.trans (congrArg some (by kernel_rfl))⟩
  f57 := ⟨ "slices.order2CmpFunc[bastion/api.Cached]", by decide, Try.func87.trans (congrArg some (by kernel_rfl))⟩
  t0 := Try.underlying0
  a0 := Try.isAgg0
  z0 := Try.sizeOf0
  v0 := Try.zeroValue0
  t3 := Try.underlying3
  a3 := Try.isAgg3
  z3 := Try.sizeOf3
  v3 := Try.zeroValue3
  t4 := Try.underlying4
  a4 := Try.isAgg4
  z4 := Try.sizeOf4
  v4 := Try.zeroValue4
  t5 := Try.underlying5
  a5 := Try.isAgg5
  z5 := Try.sizeOf5
  v5 := Try.zeroValue5
  t9 := Try.underlying9
  a9 := Try.isAgg9
  z9 := Try.sizeOf9
  v9 := Try.zeroValue9
  t22 := Try.underlying38
  a22 := Try.isAgg38
  z22 := Try.sizeOf38
  v22 := Try.zeroValue38
  t25 := Try.underlying90
  a25 := Try.isAgg90
  z25 := Try.sizeOf90
  v25 := Try.zeroValue90
  t39 := Try.underlying98
  a39 := Try.isAgg98
  z39 := Try.sizeOf98
  v39 := Try.zeroValue98
  t45 := Try.underlying101
  a45 := Try.isAgg101
  z45 := Try.sizeOf101
  v45 := Try.zeroValue101
  t46 := Try.underlying102
  a46 := Try.isAgg102
  z46 := Try.sizeOf102
  v46 := Try.zeroValue102
  t50 := Try.underlying74
  a50 := Try.isAgg74
  z50 := Try.sizeOf74
  v50 := Try.zeroValue74
  t53 := Try.underlying108
  a53 := Try.isAgg108
  z53 := Try.sizeOf108
  v53 := Try.zeroValue108
  t55 := Try.underlying22
  a55 := Try.isAgg22
  z55 := Try.sizeOf22
  v55 := Try.zeroValue22
  t66 := Try.underlying111
  a66 := Try.isAgg111
  z66 := Try.sizeOf111
  v66 := Try.zeroValue111
  t70 := Try.underlying115
  a70 := Try.isAgg115
  z70 := Try.sizeOf115
  v70 := Try.zeroValue115
  t76 := Try.underlying117
  a76 := Try.isAgg117
  z76 := Try.sizeOf117
  v76 := Try.zeroValue117
  t77 := Try.underlying118
  a77 := Try.isAgg118
  z77 := Try.sizeOf118
  v77 := Try.zeroValue118
/-- Blocks and draws alone have been added. -/
def Gr (W V : World) (L : Blks) : Prop := St W V L ∧ ∃ q os, V = grow (W.drewN q) os
theorem Gr.nil (W : World) : Gr W W [] := ⟨St.nil W, 0, #[], by rw [grow_empty]; rfl⟩
theorem Gr.alloc {W V : World} {L : Blks} (h : Gr W V L) (t : TypeId) (arr : Array Value) : Gr W (V.alloc (.cells arr t)) ((V.heap.size, C t arr) :: L) := by
  obtain ⟨h1, q, os, rfl⟩ := h
  refine ⟨(h1.push t arr).front, q, os ++ #[.cells arr t], ?_⟩
  rw [alloc_eq_grow, grow_grow]
theorem Gr.drew {W V : World} {L : Blks} (h : Gr W V L) : Gr W V.drew L := by
  obtain ⟨h1, q, os, rfl⟩ := h
  refine ⟨h1.drew, q + 1, os, ?_⟩
  rw [← World.drewN_drewN]; rfl
section
variable {ops : Array Oper} {rest : List Oper} {o : Oper} {a : Act} {W V : World} {K : Act → World → Prop} {Q : Exit → Act → World → Prop} {L : Blks}
theorem wpList_box_cdG (h : Gr W V L) (x : Cd) (y : Operand) (ho : o.op = .box 59 y) (hw : Region.wanted o (yielded ops a.tmps) = true) (hx : a.eval y = .agg x.arr)
    (k : ∀ W', Gr W W' ((V.heap.size, C 59 x.arr) :: L) → wpList Try.prog ops Q rest (a.put o.dst (.pointer (some ⟨V.heap.size, 0, none⟩))) W') : wpList Try.prog ops Q (o :: rest) a V := by
  unfold wpList
  rw [if_pos hw]
  refine .inl ?_
  have h1 := k _ (h.alloc 59 x.arr)
  unfold Oper.wp execOp
  simp only [ho, hx]
  have e : ∀ arr : Array Value, (Instr.box 59 (.agg arr)).run Try.prog V = .ok (.pointer (some ⟨V.heap.size, 0, none⟩)) (V.alloc (.cells arr 59)) := fun arr => by
    simp only [Instr.box, newVar, Value.cells]
    go_simp
  simp only [Sem.run_bind, e, Result.andThen_ok, Sem.run_pure]
  exact h1
theorem run_two (a b : Int) (W : World) : (Instr.buildSlice 72 2 #[(0, .int .i64 a), (1, .int .i64 b)]).run Try.prog W = .ok (.slice (some ⟨W.heap.size, 0, none⟩) 2 2) (W.alloc (.cells #[.int .i64 a, .int .i64 b] 3)) := by kernel_rfl
theorem wp_build2_G (h : Gr W V L) (x y : Operand) (m n : Int) (ho : o.op = .buildSlice 72 2 #[(0, x), (1, y)]) (hx : a.eval x = .int .i64 m) (hy : a.eval y = .int .i64 n)
    (k : ∀ W', Gr W W' ((V.heap.size, C 3 #[.int .i64 m, .int .i64 n]) :: L) → K (a.put o.dst (.slice (some ⟨V.heap.size, 0, none⟩) 2 2)) W') : o.wp Try.prog a V K Q := by
  unfold Oper.wp execOp
  simp only [ho, Sem.run_bind, List.map_toArray, List.map_cons, List.map_nil, hx, hy, run_two m n V, Result.andThen_ok]
  exact k _ (h.alloc 3 _)
end
/-- How two numbers compare; the first of two that isn't 0. -/
def cmpI (a b : Int) : Int := if a < b then -1 else if b < a then 1 else 0
def cfC (x y : Cd) : Int := if cmpI x.it.l y.it.l = 0 then cmpI x.it.x y.it.x else cmpI x.it.l y.it.l
theorem isNaN_any (x : Int) (W : World) : Calls Try.prog 59 #[.int .i64 x] W fun e W' => e = .returned (.bool false) ∧ W' = W := by
  go_enter Try.func59, Try.ntmps59
  go_wp2
  go_ret
  exact ⟨by simp, rfl⟩
theorem cmp_any (x y : Int) (W : World) : Calls Try.prog 46 #[.int .i64 x, .int .i64 y] W fun e W' => e = .returned (.int .i64 (cmpI x y)) ∧ W' = W := by
  have NN := Lib.hid (fun x V => isNaN_any x V)
  have E := Lib.hid (show cmpI x y = if x < y then -1 else if y < x then 1 else 0 from rfl)
  generalize cmpI x y = R at *
  by_cases h1 : x < y
  · have e : Hid (R = -1) := show _ = _ by rw [E.out, if_pos h1]
    have q : (x < y) = True := eq_true h1
    go_enter Try.func46, Try.ntmps46
    go_wp2_with (go_at_call 59; refine (NN.out _ _).mono ?_; rintro e W2 ⟨rfl, rfl⟩)
    go_ret
    exact ⟨by rw [e.out]; rfl, rfl⟩
  · have q : (x < y) = False := eq_false h1
    by_cases h2 : y < x
    · have e : Hid (R = 1) := show _ = _ by rw [E.out, if_neg h1, if_pos h2]
      have q2 : (x > y) = True := eq_true h2
      have q3 : (y < x) = True := eq_true h2
      go_enter Try.func46, Try.ntmps46
      go_wp2_with (go_at_call 59; refine (NN.out _ _).mono ?_; rintro e W2 ⟨rfl, rfl⟩)
      go_ret
      exact ⟨by rw [e.out]; rfl, rfl⟩
    · have e : Hid (R = 0) := show _ = _ by rw [E.out, if_neg h1, if_neg h2]
      have q2 : (x > y) = False := eq_false h2
      have q3 : (y < x) = False := eq_false h2
      go_enter Try.func46, Try.ntmps46
      go_wp2_with (go_at_call 59; refine (NN.out _ _).mono ?_; rintro e W2 ⟨rfl, rfl⟩)
      go_ret
      exact ⟨by rw [e.out]; rfl, rfl⟩
theorem or_any (b : Nat) (m n : Int) (W : World) (hA : W.heap[b]? = some (C 3 #[.int .i64 m, .int .i64 n])) : Calls Try.prog 45 #[.slice (some ⟨b, 0, none⟩) 2 2] W fun e W' => e = .returned (.int .i64 (if m = 0 then n else m)) ∧ W' = W := by
  have c0 : W.cell? ⟨b, 0, none⟩ = some (.int .i64 m) := (show At W b 3 _ from hA).cell 0
  have c1 : W.cell? ⟨b, 1, none⟩ = some (.int .i64 n) := (show At W b 3 _ from hA).cell 1
  have E := Lib.hid (show (if m = 0 then n else m) = if m = 0 then n else m from rfl)
  clear hA
  by_cases hm : m = 0
  · subst hm
    rw [if_pos rfl]
    clear E
    go_enter Try.func45, Try.ntmps45
    go_wp2
    refine wp_loop_rounds 3 ?_
    rw [rounds_succ]
    go_wp2
    rw [rounds_succ]
    by_cases hn : n = 0
    · subst hn
      go_wp2
      rw [rounds_succ]
      go_wp2
      go_ret
      exact ⟨rfl, rfl⟩
    · have q : (n != 0) = true := by simpa using hn
      have q2 : (n = 0) = False := eq_false hn
      go_wp2
      go_ret
      exact ⟨rfl, rfl⟩
  · rw [if_neg hm]
    clear E
    have q : (m != 0) = true := by simpa using hm
    have q2 : (m = 0) = False := eq_false hm
    go_enter Try.func45, Try.ntmps45
    go_wp2
    refine wp_loop_rounds 1 ?_
    rw [rounds_succ]
    go_wp2
    go_ret
    exact ⟨rfl, rfl⟩
attribute [local irreducible] It.arr Cd.arr cmpI
set_option maxHeartbeats 2000000 in
theorem cf_any (x y : Cd) (W : World) : Calls Try.prog 44 #[.agg x.arr, .agg y.arr] W fun e W' => e = .returned (.int .i64 (cfC x y)) ∧ ∃ q os', W' = grow (W.drewN q) os' := by
  have CM := Lib.hid (fun a b V => cmp_any a b V)
  have OR := Lib.hid (fun b V h => show Calls Try.prog 45 #[.slice (some ⟨b, 0, none⟩) 2 2] V fun e W' => e = .returned (.int .i64 (cfC x y)) ∧ W' = V from or_any b (cmpI x.it.l y.it.l) (cmpI x.it.x y.it.x) V h)
  generalize cfC x y = R at *
  have S0 := Gr.nil W
  go_enter Try.func44, Try.ntmps44
  go_wp2_with (first
    | (refine wpList_box_cdG S0 x _ rfl rfl rfl ?_; clear S0; intro W1 h1; generalize hxb : W.heap.size = xb at *)
    | (have _ := h1; refine wpList_box_cdG h1 y _ rfl rfl rfl ?_; clear h1; intro W2 h2; generalize W1.heap.size = yb at *))
  have HS0 := Lib.hid (show Gr W W2.drew _ from h2.drew)
  have CB := Lib.hid (fun (V : World) (X : Blks) (hs : St W V X) (m1 : (xb, C 59 x.arr) ∈ X) (m2 : (yb, C 59 y.arr) ∈ X) => show V.cell? ⟨xb, 0, none⟩ = some (.int .i64 x.it.l) ∧ V.cell? ⟨xb, 1, none⟩ = some (.int .i64 x.it.x) ∧ V.cell? ⟨yb, 0, none⟩ = some (.int .i64 y.it.l) ∧ V.cell? ⟨yb, 1, none⟩ = some (.int .i64 y.it.x) from by
    have a1 : At V xb 59 x.arr := hs.at_ _ m1
    have a2 : At V yb 59 y.arr := hs.at_ _ m2
    exact ⟨(a1.cell 0).trans x.at0, (a1.cell 1).trans x.at1, (a2.cell 0).trans y.at0, (a2.cell 1).trans y.at1⟩)
  have H0 := Lib.hid (CB.out _ _ HS0.out.1 (by simp) (by simp))
  clear h2 hxb
  refine wp_region_held_drew (S := fun W => W.cell? ⟨xb, 0, none⟩ = some (.int .i64 x.it.l) ∧ W.cell? ⟨xb, 1, none⟩ = some (.int .i64 x.it.x) ∧ W.cell? ⟨yb, 0, none⟩ = some (.int .i64 y.it.l) ∧ W.cell? ⟨yb, 1, none⟩ = some (.int .i64 y.it.x)) (by kernel_rfl) H0.out (fun _ => ?_)
  generalize W2.drew = V0 at *
  refine wpAnyH_take (i := 0) (v := .pointer (some ⟨xb, 0, none⟩)) rfl (by kernel_rfl) (by kernel_rfl) (by kernel_rfl) (fun _ _ _ h => h) (Or.inl ⟨by rfl, fun W hW => by clear hW; go_simp⟩) H0.out ?_
  try simp only [Act.put, List.getElem_toArray, List.getElem_cons_succ, List.getElem_cons_zero, List.setIfInBounds_toArray, List.set_cons_zero, List.set_cons_succ]
  refine wpAnyH_take (i := 1) (v := .pointer (some ⟨xb, 0, none⟩)) rfl (by kernel_rfl) (by kernel_rfl) (by kernel_rfl) (fun _ _ _ h => h) (Or.inl ⟨by rfl, fun W hW => by clear hW; go_simp⟩) H0.out ?_
  try simp only [Act.put, List.getElem_toArray, List.getElem_cons_succ, List.getElem_cons_zero, List.setIfInBounds_toArray, List.set_cons_zero, List.set_cons_succ]
  refine wpAnyH_take (i := 2) (v := .int .i64 x.it.l) rfl (by kernel_rfl) (by kernel_rfl) (by kernel_rfl) (fun _ _ _ h => h) (Or.inl ⟨by rfl, fun W hW => by have hc := (show W.cell? ⟨xb, 0, none⟩ = some (.int .i64 x.it.l) from hW.1); clear hW; go_simp⟩) H0.out ?_
  try simp only [Act.put, List.getElem_toArray, List.getElem_cons_succ, List.getElem_cons_zero, List.setIfInBounds_toArray, List.set_cons_zero, List.set_cons_succ]
  refine wpAnyH_take (i := 3) (v := .pointer (some ⟨yb, 0, none⟩)) rfl (by kernel_rfl) (by kernel_rfl) (by kernel_rfl) (fun _ _ _ h => h) (Or.inl ⟨by rfl, fun W hW => by clear hW; go_simp⟩) H0.out ?_
  try simp only [Act.put, List.getElem_toArray, List.getElem_cons_succ, List.getElem_cons_zero, List.setIfInBounds_toArray, List.set_cons_zero, List.set_cons_succ]
  refine wpAnyH_take (i := 4) (v := .pointer (some ⟨yb, 0, none⟩)) rfl (by kernel_rfl) (by kernel_rfl) (by kernel_rfl) (fun _ _ _ h => h) (Or.inl ⟨by rfl, fun W hW => by clear hW; go_simp⟩) H0.out ?_
  try simp only [Act.put, List.getElem_toArray, List.getElem_cons_succ, List.getElem_cons_zero, List.setIfInBounds_toArray, List.set_cons_zero, List.set_cons_succ]
  refine wpAnyH_take (i := 5) (v := .int .i64 y.it.l) rfl (by kernel_rfl) (by kernel_rfl) (by kernel_rfl) (fun _ _ _ h => h) (Or.inl ⟨by rfl, fun W hW => by have hc := (show W.cell? ⟨yb, 0, none⟩ = some (.int .i64 y.it.l) from hW.2.2.1); clear hW; go_simp⟩) H0.out ?_
  try simp only [Act.put, List.getElem_toArray, List.getElem_cons_succ, List.getElem_cons_zero, List.setIfInBounds_toArray, List.set_cons_zero, List.set_cons_succ]
  refine wpAnyH_take (i := 7) (v := .pointer (some ⟨xb, 0, none⟩)) rfl (by kernel_rfl) (by kernel_rfl) (by kernel_rfl) (fun _ _ _ h => h) (Or.inl ⟨by rfl, fun W hW => by clear hW; go_simp⟩) H0.out ?_
  try simp only [Act.put, List.getElem_toArray, List.getElem_cons_succ, List.getElem_cons_zero, List.setIfInBounds_toArray, List.set_cons_zero, List.set_cons_succ]
  refine wpAnyH_take (i := 8) (v := .pointer (some ⟨xb, 1, none⟩)) rfl (by kernel_rfl) (by kernel_rfl) (by kernel_rfl) (fun _ _ _ h => h) (Or.inl ⟨by rfl, fun W hW => by clear hW; go_simp⟩) H0.out ?_
  try simp only [Act.put, List.getElem_toArray, List.getElem_cons_succ, List.getElem_cons_zero, List.setIfInBounds_toArray, List.set_cons_zero, List.set_cons_succ]
  refine wpAnyH_take (i := 9) (v := .int .i64 x.it.x) rfl (by kernel_rfl) (by kernel_rfl) (by kernel_rfl) (fun _ _ _ h => h) (Or.inl ⟨by rfl, fun W hW => by have hc := (show W.cell? ⟨xb, 1, none⟩ = some (.int .i64 x.it.x) from hW.2.1); clear hW; go_simp⟩) H0.out ?_
  try simp only [Act.put, List.getElem_toArray, List.getElem_cons_succ, List.getElem_cons_zero, List.setIfInBounds_toArray, List.set_cons_zero, List.set_cons_succ]
  refine wpAnyH_take (i := 10) (v := .pointer (some ⟨yb, 0, none⟩)) rfl (by kernel_rfl) (by kernel_rfl) (by kernel_rfl) (fun _ _ _ h => h) (Or.inl ⟨by rfl, fun W hW => by clear hW; go_simp⟩) H0.out ?_
  try simp only [Act.put, List.getElem_toArray, List.getElem_cons_succ, List.getElem_cons_zero, List.setIfInBounds_toArray, List.set_cons_zero, List.set_cons_succ]
  refine wpAnyH_take (i := 11) (v := .pointer (some ⟨yb, 1, none⟩)) rfl (by kernel_rfl) (by kernel_rfl) (by kernel_rfl) (fun _ _ _ h => h) (Or.inl ⟨by rfl, fun W hW => by clear hW; go_simp⟩) H0.out ?_
  try simp only [Act.put, List.getElem_toArray, List.getElem_cons_succ, List.getElem_cons_zero, List.setIfInBounds_toArray, List.set_cons_zero, List.set_cons_succ]
  refine wpAnyH_take (i := 12) (v := .int .i64 y.it.x) rfl (by kernel_rfl) (by kernel_rfl) (by kernel_rfl) (fun _ _ _ h => h) (Or.inl ⟨by rfl, fun W hW => by have hc := (show W.cell? ⟨yb, 1, none⟩ = some (.int .i64 y.it.x) from hW.2.2.2); clear hW; go_simp⟩) H0.out ?_
  try simp only [Act.put, List.getElem_toArray, List.getElem_cons_succ, List.getElem_cons_zero, List.setIfInBounds_toArray, List.set_cons_zero, List.set_cons_succ]
  refine wpAnyH_ready (rs := [6]) (by kernel_rfl) (by simp) ?_
  refine AllReadyH.cons rfl (fun K hK => ?_) AllReadyH.nil
  go_simp
  go_at_call 46
  refine (CM.out x.it.l y.it.l _).mono ?_
  rintro e V1_ ⟨rfl, rfl⟩
  have H1_ := Lib.hid (H0.out)
  refine hK.out _ _ H1_.out (fun _ => ?_)
  clear hK K
  try simp only [Act.put, List.getElem_toArray, List.getElem_cons_succ, List.getElem_cons_zero, List.setIfInBounds_toArray, List.set_cons_zero, List.set_cons_succ]
  refine wpAnyH_ready (rs := [13]) (by kernel_rfl) (by simp) ?_
  refine AllReadyH.cons rfl (fun K hK => ?_) AllReadyH.nil
  go_simp
  go_at_call 46
  refine (CM.out x.it.x y.it.x _).mono ?_
  rintro e V2_ ⟨rfl, rfl⟩
  have H2_ := Lib.hid (H1_.out)
  refine hK.out _ _ H2_.out (fun _ => ?_)
  clear hK K
  try simp only [Act.put, List.getElem_toArray, List.getElem_cons_succ, List.getElem_cons_zero, List.setIfInBounds_toArray, List.set_cons_zero, List.set_cons_succ]
  refine wpAnyH_ready (rs := [14]) (by kernel_rfl) (by simp) ?_
  refine AllReadyH.cons rfl (fun K hK => ?_) AllReadyH.nil
  rw [if_pos (by rfl)]
  refine wp_build2_G HS0.out (.tmp 11) (.tmp 18) (cmpI x.it.l y.it.l) (cmpI x.it.x y.it.x) rfl rfl rfl ?_
  intro V1 h1
  have H3_ := Lib.hid (CB.out V1 _ h1.1 (by simp) (by simp))
  generalize V2_.heap.size = nw at *
  have HS1 := Lib.hid h1
  clear h1
  refine hK.out _ _ H3_.out (fun _ => ?_)
  clear hK K
  try simp only [Act.put, List.getElem_toArray, List.getElem_cons_succ, List.getElem_cons_zero, List.setIfInBounds_toArray, List.set_cons_zero, List.set_cons_succ]
  refine wpAnyH_ready (rs := [15]) (by kernel_rfl) (by simp) ?_
  refine AllReadyH.cons rfl (fun K hK => ?_) AllReadyH.nil
  go_simp
  go_at_call 45
  refine (OR.out _ _ (HS1.out.1.get 0 rfl)).mono ?_
  rintro e V3 ⟨rfl, rfl⟩
  have H3_ := Lib.hid (CB.out _ _ HS1.out.1 (by simp) (by simp))
  refine hK.out _ _ H3_.out (fun _ => ?_)
  clear hK K
  try simp only [Act.put, List.getElem_toArray, List.getElem_cons_succ, List.getElem_cons_zero, List.setIfInBounds_toArray, List.set_cons_zero, List.set_cons_succ]
  refine wpAnyH_take (i := 16) (v := .int .i64 R) rfl (by kernel_rfl) (by kernel_rfl) (by kernel_rfl) (fun _ _ _ h => h) (Or.inl ⟨by rfl, fun W hW => by clear hW; go_simp⟩) H3_.out ?_
  try simp only [Act.put, List.getElem_toArray, List.getElem_cons_succ, List.getElem_cons_zero, List.setIfInBounds_toArray, List.set_cons_zero, List.set_cons_succ]
  refine wpAnyH_done (by kernel_rfl) ?_ _
  go_wp2
  go_ret
  exact ⟨rfl, HS1.out.2⟩
end Go.Proofs.Ytnogmfpaipjdaaa
