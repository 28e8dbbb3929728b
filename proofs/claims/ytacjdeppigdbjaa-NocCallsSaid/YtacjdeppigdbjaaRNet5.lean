/- The document's net: what is sent. No statement is proved here. -/
import Derived.Test.YtacjdeppigdbjaaRNet4
namespace Go.Proofs.Ytacjdeppigdbjaa
open Go.RowKit
set_option linter.unusedVariables false
set_option linter.unusedSimpArgs false
theorem exec_buildP {o : Oper} {a : Act} {t : TypeId} {parts : Array (Nat × Operand)} {cells : Array Value} (ho : o.op = .build t parts) (hf : Try.prog.built t (parts.map fun (i, x) => (i, a.eval x)).toList = some cells) (W : World) : (execOp a.eval o).run Try.prog W = .ok (.value (.agg cells)) W := by
  unfold execOp
  simp only [ho, Sem.run_bind, run_build W t _ cells hf, Result.andThen_ok, Sem.run_pure]
theorem exec_build2 {o : Oper} {a : Act} {t : TypeId} {i j : Nat} {x y : Operand} {vx vy : Value} {cells : Array Value} (ho : o.op = .build t #[(i, x), (j, y)]) (hx : a.eval x = vx) (hy : a.eval y = vy) (hf : Try.prog.built t [(i, vx), (j, vy)] = some cells) (W : World) : (execOp a.eval o).run Try.prog W = .ok (.value (.agg cells)) W :=
  exec_buildP ho (by simp only [List.map_toArray, List.map_cons, List.map_nil, hx, hy]; exact hf) W
theorem sn_cells (s : Sn) : (Value.agg s.arr).cells = (Elt.cs s).toArray := rfl
theorem sz66 : (Try.prog.info? 66).map (·.size) = some 1 := by kernel_rfl
theorem rl_cellsS {v : Value} {xs : List Sn} {M : Blks} (h : RL v xs M) : v.cells = #[v] ∧ v.oneCell' = true := by
  obtain ⟨A, c, rfl, _⟩ := h.form
  exact ⟨rfl, rfl⟩
attribute [local irreducible] Msg.arr bufM marr Sn.arr isS msgsTo numsTo hasO
section
variable {w W : World} {g n R : Nat} {xs : List Sn} {L : Blks}
set_option maxHeartbeats 2000000 in
theorem rsend_full (h : RN w W g n R xs L) (a : Int) (m : Msg) (hlen : xs.length ≤ 1000) (ho : hasO n (lkOf a m) = true) (hf : R ≤ (msgsTo (lkOf a m) xs xs.length).length) :
    Calls Try.prog 28 #[.pointer (some ⟨g, 0, none⟩), .int .i64 a, .agg m.arr] W fun e W' => e = .returned (.int .i64 5) ∧ RN w W' g n R xs L := by
  have TH := Lib.hid (fun W L (h : RN w W g n R xs L) => rthere_rn h (lkOf a m))
  have AL := Lib.hid (fun W L (h : RN w W g n R xs L) => rall_any h (lkOf a m) hlen)
  rw [ho] at TH
  have lkd : lkOf a m = ⟨a, m.fr, m.to⟩ := rfl
  rw [lkd] at TH AL hf
  generalize hN : (msgsTo ⟨a, m.fr, m.to⟩ xs xs.length).length = N at *
  have NL := Lib.hid hN
  have q : ((R : Int) ≤ (N : Int)) = True := eq_true (by omega)
  have HL := Lib.hid hlen
  clear ho lkd hN hlen
  go_enter Try.func28, Try.ntmps28
  go_wp2_with (first
    | (refine wpList_box_rn h 31 _ rfl rfl m.arr rfl ?_; clear h; intro W1 h1; generalize W.heap.size = b5 at *; have e1 := h1.st.cell 0 rfl 1 (.int .i64 m.fr) (arr_fr m); have e2 := h1.st.cell 0 rfl 2 (.int .i64 m.to) (arr_to m))
    | (have _ := h1; refine wpList_alloc_rn h1 51 rfl rfl _ #[.int .i64 0, .int .i64 0, .int .i64 0] zero51 rfl ?_; clear h1 e1 e2; intro W2 h2; generalize W1.heap.size = b7 at *)
    | (have _ := h2; refine wpList_store_rn (arr' := #[.int .i64 a, .int .i64 m.fr, .int .i64 m.to]) h2 0 rfl 51 (.tmp 7) (.tmp 15) rfl rfl rfl rfl sz51 rfl (by simp [Value.oneCell']) ?_; clear h2; intro W3 h3; replace h3 : RN w W3 g n R xs ((b7, C 51 #[.int .i64 a, .int .i64 m.fr, .int .i64 m.to]) :: (b5, C 31 m.arr) :: L) := h3)
    | (have _ := h3; refine wpList_loadL (l := ⟨a, m.fr, m.to⟩) (b := b7) (off := 0) (box_rangeL (h3.st.get 0 rfl)) (.tmp 7) rfl rfl rfl ?_)
    | (have _ := h3; go_at_call 30; refine (TH.out _ _ h3).mono ?_; clear h3; rintro e W4 ⟨rfl, h4⟩)
    | (have _ := h4; refine wpList_loadL (l := ⟨a, m.fr, m.to⟩) (b := b7) (off := 0) (box_rangeL (h4.st.get 0 rfl)) (.tmp 7) rfl rfl rfl ?_)
    | (have _ := h4; go_at_call 29; refine (AL.out _ _ h4).mono ?_; clear h4; rintro e W5 ⟨v6, v7, M6, M7, rfl, r6, r7, h5⟩; obtain ⟨A6, c6, rfl, _⟩ := r6.form; rw [NL.out]; have c1 := h5.c1))
  go_ret
  exact ⟨rfl, h5.sub (((((List.sublist_cons_self _ _).trans (List.sublist_cons_self _ _)).trans (List.sublist_append_right M7 _)).trans (List.sublist_append_right M6 _)))⟩
set_option maxHeartbeats 2000000 in
theorem rsend_ok (h : RN w W g n R xs L) (a : Int) (m : Msg) (hlen : xs.length ≤ 1000) (ho : hasO n (lkOf a m) = true) (hf : (msgsTo (lkOf a m) xs xs.length).length < R) :
    Calls Try.prog 28 #[.pointer (some ⟨g, 0, none⟩), .int .i64 a, .agg m.arr] W fun e W' => e = .returned (.int .i64 0) ∧ RN w W' g n R (xs ++ [Sn.mk a m]) L := by
  have TH := Lib.hid (fun W L (h : RN w W g n R xs L) => rthere_rn h (lkOf a m))
  have AL := Lib.hid (fun W L (h : RN w W g n R xs L) => rall_any h (lkOf a m) hlen)
  rw [ho] at TH
  have lkd : lkOf a m = ⟨a, m.fr, m.to⟩ := rfl
  rw [lkd] at TH AL hf
  generalize hN : (msgsTo ⟨a, m.fr, m.to⟩ xs xs.length).length = N at *
  have NL := Lib.hid hN
  have q : ((R : Int) ≤ (N : Int)) = False := eq_false (by omega)
  have HL := Lib.hid hlen
  clear ho lkd hN hlen
  go_enter Try.func28, Try.ntmps28
  go_wp2_with (first
    | (refine wpList_box_rn h 31 _ rfl rfl m.arr rfl ?_; clear h; intro W1 h1; generalize W.heap.size = b5 at *; have e1 := h1.st.cell 0 rfl 1 (.int .i64 m.fr) (arr_fr m); have e2 := h1.st.cell 0 rfl 2 (.int .i64 m.to) (arr_to m))
    | (have _ := h1; refine wpList_alloc_rn h1 51 rfl rfl _ #[.int .i64 0, .int .i64 0, .int .i64 0] zero51 rfl ?_; clear h1 e1 e2; intro W2 h2; generalize W1.heap.size = b7 at *)
    | (have _ := h2; refine wpList_store_rn (arr' := #[.int .i64 a, .int .i64 m.fr, .int .i64 m.to]) h2 0 rfl 51 (.tmp 7) (.tmp 15) rfl rfl rfl rfl sz51 rfl (by simp [Value.oneCell']) ?_; clear h2; intro W3 h3; replace h3 : RN w W3 g n R xs ((b7, C 51 #[.int .i64 a, .int .i64 m.fr, .int .i64 m.to]) :: (b5, C 31 m.arr) :: L) := h3)
    | (have _ := h3; refine wpList_loadL (l := ⟨a, m.fr, m.to⟩) (b := b7) (off := 0) (box_rangeL (h3.st.get 0 rfl)) (.tmp 7) rfl rfl rfl ?_)
    | (have _ := h3; go_at_call 30; refine (TH.out _ _ h3).mono ?_; clear h3; rintro e W4 ⟨rfl, h4⟩)
    | (have _ := h4; refine wpList_loadL (l := ⟨a, m.fr, m.to⟩) (b := b7) (off := 0) (box_rangeL (h4.st.get 0 rfl)) (.tmp 7) rfl rfl rfl ?_)
    | (have _ := h4; go_at_call 29; refine (AL.out _ _ h4).mono ?_; clear h4; rintro e W5 ⟨v6, v7, M6, M7, rfl, r6, r7, h5⟩; obtain ⟨A6, c6, rfl, _⟩ := r6.form; rw [NL.out]; have c1 := h5.c1))
  replace h5 : RN w W5 g n R xs ((b5, C 31 m.arr) :: L) := h5.sub ((((List.sublist_cons_self _ _).trans (List.sublist_append_right M7 _)).trans (List.sublist_append_right M6 _)))
  have h6 : RN w W5.drew g n R xs ((b5, C 31 m.arr) :: L) := h5.drewN 1
  clear h5 c1 r6 r7
  obtain ⟨q1, q2, v, M, hrl, hs⟩ := h6
  obtain ⟨A, c, rfl, _⟩ := hrl.form
  replace hs := hs.perm (List.perm_middle (l₁ := (g, C 68 #[.int .i64 (n : Int), .int .i64 (R : Int), .slice A xs.length c]) :: M) (l₂ := L) (a := (b5, C 31 m.arr)))
  replace hrl := Lib.hid hrl
  have QQ1 := Lib.hid (And.intro q1 q2)
  clear q1 q2
  refine wp_region_last (fun W => At W g 68 #[.int .i64 (n : Int), .int .i64 (R : Int), .slice A xs.length c] ∧ At W b5 31 m.arr) 12 (by kernel_rfl) ?_
  generalize World.drew _ = V0 at *
  have H0 := Lib.hid (show At V0 g 68 #[.int .i64 (n : Int), .int .i64 (R : Int), .slice A xs.length c] ∧ At V0 b5 31 m.arr from ⟨hs.get 1 rfl, hs.get 0 rfl⟩)
  refine AnyT.take (i := 0) (v := .pointer (some ⟨g, 0, none⟩)) rfl (by kernel_rfl) (by kernel_rfl) (by kernel_rfl) (by kernel_rfl) (by decide) (fun _ _ _ h => h) (Or.inl ⟨by rfl, fun W hW => by clear hW; go_simp⟩) H0.out ?_
  try simp only [Act.put, List.getElem_toArray, List.getElem_cons_succ, List.getElem_cons_zero, List.setIfInBounds_toArray, List.set_cons_zero, List.set_cons_succ]
  refine AnyT.take (i := 1) (v := .pointer (some ⟨g, 0, none⟩)) rfl (by kernel_rfl) (by kernel_rfl) (by kernel_rfl) (by kernel_rfl) (by decide) (fun _ _ _ h => h) (Or.inl ⟨by rfl, fun W hW => by clear hW; go_simp⟩) H0.out ?_
  try simp only [Act.put, List.getElem_toArray, List.getElem_cons_succ, List.getElem_cons_zero, List.setIfInBounds_toArray, List.set_cons_zero, List.set_cons_succ]
  refine AnyT.take (i := 2) (v := .pointer (some ⟨g, 0, none⟩)) rfl (by kernel_rfl) (by kernel_rfl) (by kernel_rfl) (by kernel_rfl) (by decide) (fun _ _ _ h => h) (Or.inl ⟨by rfl, fun W hW => by clear hW; go_simp⟩) H0.out ?_
  try simp only [Act.put, List.getElem_toArray, List.getElem_cons_succ, List.getElem_cons_zero, List.setIfInBounds_toArray, List.set_cons_zero, List.set_cons_succ]
  refine AnyT.take (i := 3) (v := .pointer (some ⟨g, 2, none⟩)) rfl (by kernel_rfl) (by kernel_rfl) (by kernel_rfl) (by kernel_rfl) (by decide) (fun _ _ _ h => h) (Or.inl ⟨by rfl, fun W hW => by clear hW; go_simp⟩) H0.out ?_
  try simp only [Act.put, List.getElem_toArray, List.getElem_cons_succ, List.getElem_cons_zero, List.setIfInBounds_toArray, List.set_cons_zero, List.set_cons_succ]
  refine AnyT.take (i := 4) (v := .slice A xs.length c) rfl (by kernel_rfl) (by kernel_rfl) (by kernel_rfl) (by kernel_rfl) (by decide) (fun _ _ _ h => h) (Or.inl ⟨by rfl, fun W hW => by have hc := (show W.cell? ⟨g, 2, none⟩ = some (.slice A xs.length c) from hW.1.cell 2); clear hW; go_simp⟩) H0.out ?_
  try simp only [Act.put, List.getElem_toArray, List.getElem_cons_succ, List.getElem_cons_zero, List.setIfInBounds_toArray, List.set_cons_zero, List.set_cons_succ]
  refine AnyT.take (i := 5) (v := .int .i64 a) rfl (by kernel_rfl) (by kernel_rfl) (by kernel_rfl) (by kernel_rfl) (by decide) (fun _ _ _ h => h) (Or.inl ⟨by rfl, fun W hW => by clear hW; go_simp⟩) H0.out ?_
  try simp only [Act.put, List.getElem_toArray, List.getElem_cons_succ, List.getElem_cons_zero, List.setIfInBounds_toArray, List.set_cons_zero, List.set_cons_succ]
  refine AnyT.take (i := 6) (v := .agg m.arr) rfl (by kernel_rfl) (by kernel_rfl) (by kernel_rfl) (by kernel_rfl) (by decide) (fun _ _ _ h => h) (yields_at 31 _ _ rfl (by rfl) rfl Try.underlying31 rfl (by rw [Msg.arr_size]; exact sz31) (fun W hW => hW.2)) H0.out ?_
  try simp only [Act.put, List.getElem_toArray, List.getElem_cons_succ, List.getElem_cons_zero, List.setIfInBounds_toArray, List.set_cons_zero, List.set_cons_succ]
  refine AnyT.take (i := 7) (v := .agg (Sn.mk a m).arr) rfl (by kernel_rfl) (by kernel_rfl) (by kernel_rfl) (by kernel_rfl) (by decide) (fun _ _ _ h => h) (Or.inl ⟨by rfl, fun W hW => exec_build2 rfl rfl rfl (sn_built a m) W⟩) H0.out ?_
  try simp only [Act.put, List.getElem_toArray, List.getElem_cons_succ, List.getElem_cons_zero, List.setIfInBounds_toArray, List.set_cons_zero, List.set_cons_succ]
  refine AnyT.one (i := 8) (by kernel_rfl) rfl (fun K hK => ?_)
  rw [if_pos (by rfl)]
  refine wp_build1_st hs (.tmp 40) (Sn.mk a m) rfl (sn_cells _) ?_
  clear hs
  intro V1 h1
  have H1 := Lib.hid (show At V1 g 68 #[.int .i64 (n : Int), .int .i64 (R : Int), .slice A xs.length c] ∧ At V1 b5 31 m.arr from ⟨h1.get 2 rfl, h1.get 1 rfl⟩)
  generalize V0.heap.size = nb at *
  refine hK.out _ _ (fun _ => H1.out) ?_
  clear hK K
  try simp only [Act.put, List.getElem_toArray, List.getElem_cons_succ, List.getElem_cons_zero, List.setIfInBounds_toArray, List.set_cons_zero, List.set_cons_succ]
  refine AnyT.one (i := 9) (by kernel_rfl) rfl (fun K hK => ?_)
  rw [if_pos (by rfl)]
  refine wp_append_rl (ys := [Sn.mk a m]) hrl.out (St.swap (X := [_, _, _]) h1) (new_row h1) (.tmp 37) (.tmp 41) rfl rfl rfl (by have := HL.out; omega) ?_
  intro v' V2 M' hrl' h2
  replace h2 := St.swap (X := M') (M := [_, _, _]) h2
  have H2 := Lib.hid (show At V2 g 68 #[.int .i64 (n : Int), .int .i64 (R : Int), .slice A xs.length c] ∧ At V2 b5 31 m.arr from ⟨h2.get 2 rfl, h2.get 1 rfl⟩)
  clear h1 H1
  refine hK.out _ _ (fun _ => H2.out) ?_
  clear hK K
  try simp only [Act.put, List.getElem_toArray, List.getElem_cons_succ, List.getElem_cons_zero, List.setIfInBounds_toArray, List.set_cons_zero, List.set_cons_succ]
  refine AnyT.one (i := 10) (by kernel_rfl) rfl (fun K hK => ?_)
  go_simp
  refine hK.out _ _ (fun _ => H2.out) ?_
  clear hK K
  try simp only [Act.put, List.getElem_toArray, List.getElem_cons_succ, List.getElem_cons_zero, List.setIfInBounds_toArray, List.set_cons_zero, List.set_cons_succ]
  refine AnyT.take (i := 11) (v := .pointer (some ⟨g, 2, none⟩)) rfl (by kernel_rfl) (by kernel_rfl) (by kernel_rfl) (by kernel_rfl) (by decide) (fun _ _ _ h => h) (Or.inl ⟨by rfl, fun W hW => by clear hW; go_simp⟩) H2.out ?_
  try simp only [Act.put, List.getElem_toArray, List.getElem_cons_succ, List.getElem_cons_zero, List.setIfInBounds_toArray, List.set_cons_zero, List.set_cons_succ]
  refine AnyT.one (i := 12) (by kernel_rfl) rfl (fun K hK => ?_)
  rw [if_pos (by rfl)]
  refine wp_cell_st h2 2 rfl 66 (.tmp 44) (.tmp 42) rfl 2 v' rfl rfl (by simp) (rl_cellsS hrl').1 (rl_cellsS hrl').2 sz66 ?_
  intro V3 h3
  clear h2 H2
  refine hK.out _ _ (fun h => absurd rfl h) ?_
  clear hK K
  try simp only [Act.put, List.getElem_toArray, List.getElem_cons_succ, List.getElem_cons_zero, List.setIfInBounds_toArray, List.set_cons_zero, List.set_cons_succ]
  refine AnyT.done (by kernel_rfl) ?_ _
  go_wp2
  go_ret
  exact ⟨rfl, QQ1.out.1, QQ1.out.2, v', M', hrl', h3.tail.tail⟩
end
end Go.Proofs.Ytacjdeppigdbjaa
