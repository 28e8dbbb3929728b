/- The law of where all stands. No statement is proved here. -/
import Derived.Test.YtcbpnmcfiohndaaParts4
import Derived.Test.YtcbpnmcfiohndaaParts5
namespace Go.Proofs.Ytcbpnmcfiohndaa
open Go.RowKit
set_option linter.unusedVariables false
set_option linter.unusedSimpArgs false

theorem refFind_data (q : Pl) (n : Int) (w : World) : Calls Try.prog 29 #[.agg q.arr, .agg #[.int .i64 1, .int .i64 n, .int .i64 0, .int .i64 0, .int .i64 0]] w fun e w' => e = .returned (.tuple #[.int .i64 (DaI q n), .bool (hasL q n)]) ∧ Below w.heap.size w w' := by
  have h := refFind_any q ⟨1, n, 0, 0, 0⟩ w
  rcases fst_data q n with ⟨x, e1, e2, e3⟩ | ⟨e1, e2, e3⟩ <;> (rw [e1] at h; rw [e2, e3]; exact h)
theorem refFind_tag (q : Pl) (n : Int) (w : World) : Calls Try.prog 29 #[.agg q.arr, .agg #[.int .i64 2, .int .i64 n, .int .i64 0, .int .i64 0, .int .i64 0]] w fun e w' => e = .returned (.tuple #[.int .i64 (TaI q n), .bool (hasL q n)]) ∧ Below w.heap.size w w' := by
  have h := refFind_any q ⟨2, n, 0, 0, 0⟩ w
  rcases fst_tag q n with ⟨x, e1, e2, e3⟩ | ⟨e1, e2, e3⟩ <;> (rw [e1] at h; rw [e2, e3]; exact h)
theorem refFind_item (q : Pl) (l i : Int) (w : World) : Calls Try.prog 29 #[.agg q.arr, .agg #[.int .i64 3, .int .i64 0, .int .i64 l, .int .i64 i, .int .i64 0]] w fun e w' => e = .returned (.tuple #[.int .i64 (ItI q l i), .bool (hasI q l i)]) ∧ Below w.heap.size w w' := by
  have h := refFind_any q ⟨3, 0, l, i, 0⟩ w
  rcases fst_item q l i with ⟨x, e1, e2, e3⟩ | ⟨e1, e2, e3⟩ <;> (rw [e1] at h; rw [e2, e3]; exact h)
theorem wpList_load_I {w W : World} {p : Pl} {lv ix : Int} {ops : Array Oper} {rest : List Oper} {o : Oper} {a : Act} {Q : Exit → Act → World → Prop} (h : ISt w p lv ix W) (x : Operand) (ho : o.op = .load 39 x) (hw : Region.wanted o (yielded ops a.tmps) = true) (hx : a.eval x = .pointer (some ⟨w.heap.size + 1, 0, none⟩))
    (k : wpList Try.prog ops Q rest (a.put o.dst (.agg #[.int .i64 lv, .int .i64 ix])) W) : wpList Try.prog ops Q (o :: rest) a W := by
  unfold wpList
  rw [if_pos hw]
  exact .inl (wp_load_row 39 x ho (w.heap.size + 1) hx 39 #[.int .i64 lv, .int .i64 ix] (0, 0) _ h.it Try.underlying39 rfl sz39 k)
attribute [local irreducible] shaped Ls Lv Wd Al right bounded fitP sw wid hasI hasL itAt pts pvs SzI DaI TaI ItI Pc.same Pc.arr plAt hasP
set_option maxHeartbeats 4000000 in
set_option maxRecDepth 20000 in
theorem rplaces_any (p : Pl) (line lv ix m : Int) (w : World) : Calls Try.prog 7 #[.agg p.arr, .int .i64 line, .agg #[.int .i64 lv, .int .i64 ix], .int .i64 m] w fun e w' => e = .returned (.bool true) ∧ Below w.heap.size w w' := by
  have SP := Lib.hid (fun W => speaks6_true W)
  have N := Lib.hid (ISt.new w p lv ix)
  have SZ := Lib.hid (fun W => size_any p W)
  have SR := Lib.hid (fun W => refSize_any p W)
  have DA := Lib.hid (fun W => data_any p line W)
  have DR := Lib.hid (fun W => refFind_data p line W)
  have TA := Lib.hid (fun W => tag_any p line W)
  have TR := Lib.hid (fun W => refFind_tag p line W)
  have IA := Lib.hid (fun W => item_any p lv ix W)
  have IR := Lib.hid (fun W => refFind_item p lv ix W)
  have PA := Lib.hid (fun W => place_any p m W)
  have PR := Lib.hid (fun W => refPlace_any p m W)
  have Q1 := Lib.hid (fun W => eql44 (plAt p m) (plAt p m) W)
  rw [(Pc.same_iff (plAt p m) (plAt p m)).2 rfl] at Q1
  generalize SzI p = z at *
  generalize DaI p line = d1 at *
  generalize TaI p line = d2 at *
  generalize ItI p lv ix = d3 at *
  generalize hasL p line = b1 at *
  generalize hasI p lv ix = b3 at *
  generalize hasP p m = b4 at *
  generalize plAt p m = P at *
  go_enter Try.func7, Try.ntmps7
  go_wp2_with (first
    | (go_at_call 25; refine (SP.out _).mono ?_; rintro e X0 ⟨rfl, hb⟩; have hst := N.out.call hb; clear N hb))
  have H0 := Lib.hid hst.drew
  refine wp_region_held_drew (S := fun W => ISt w p lv ix W) (by kernel_rfl) H0.out (fun _ => ?_)
  generalize World.drew _ = V0 at *
  refine wpAnyH_take (i := 0) (v := .agg p.arr) rfl (by kernel_rfl) (by kernel_rfl) (by kernel_rfl) (fun _ _ _ h => h) (yields_plan _ rfl (by rfl) rfl (fun W hW => hW.st.blk)) H0.out ?_
  try simp only [Act.put, List.getElem_toArray, List.getElem_cons_succ, List.getElem_cons_zero, List.setIfInBounds_toArray, List.set_cons_zero, List.set_cons_succ]
  refine wpAnyH_take (i := 2) (v := .agg p.arr) rfl (by kernel_rfl) (by kernel_rfl) (by kernel_rfl) (fun _ _ _ h => h) (yields_plan _ rfl (by rfl) rfl (fun W hW => hW.st.blk)) H0.out ?_
  try simp only [Act.put, List.getElem_toArray, List.getElem_cons_succ, List.getElem_cons_zero, List.setIfInBounds_toArray, List.set_cons_zero, List.set_cons_succ]
  refine wpAnyH_ready (rs := [1]) (by kernel_rfl) (by simp) ?_
  refine AllReadyH.cons rfl (fun K hK => ?_) AllReadyH.nil
  go_simp
  go_at_call 26
  refine (SZ.out _).mono ?_
  rintro e V1_ ⟨rfl, hb1_⟩
  have H1_ := Lib.hid (H0.out.call hb1_)
  clear hb1_
  refine hK.out _ _ H1_.out (fun _ => ?_)
  clear hK K
  try simp only [Act.put, List.getElem_toArray, List.getElem_cons_succ, List.getElem_cons_zero, List.setIfInBounds_toArray, List.set_cons_zero, List.set_cons_succ]
  refine wpAnyH_ready (rs := [3]) (by kernel_rfl) (by simp) ?_
  refine AllReadyH.cons rfl (fun K hK => ?_) AllReadyH.nil
  go_simp
  go_at_call 27
  refine (SR.out _).mono ?_
  rintro e V2_ ⟨rfl, hb2_⟩
  have H2_ := Lib.hid (H1_.out.call hb2_)
  clear hb2_
  refine hK.out _ _ H2_.out (fun _ => ?_)
  clear hK K
  try simp only [Act.put, List.getElem_toArray, List.getElem_cons_succ, List.getElem_cons_zero, List.setIfInBounds_toArray, List.set_cons_zero, List.set_cons_succ]
  refine wpAnyH_take (i := 4) (v := .bool false) rfl (by kernel_rfl) (by kernel_rfl) (by kernel_rfl) (fun _ _ _ h => h) (Or.inl ⟨by rfl, fun W hW => by clear hW; go_simp⟩) H2_.out ?_
  try simp only [Act.put, List.getElem_toArray, List.getElem_cons_succ, List.getElem_cons_zero, List.setIfInBounds_toArray, List.set_cons_zero, List.set_cons_succ]
  refine wpAnyH_done (by kernel_rfl) ?_ _
  have h1 := H2_.out
  clear H0 H1_ H2_ hst SZ SR
  go_wp2_with (first
    | (refine wpList_load_plan h1.st.blk _ rfl rfl rfl ?_)
    | (have := h1; go_at_call 28; refine (DA.out _).mono ?_; rintro e X1 ⟨rfl, hb⟩; have h2 := h1.call hb; clear h1 hb)
    | (refine wpList_load_plan h2.st.blk _ rfl rfl rfl ?_)
    | (have := h2; go_at_call 29; refine (DR.out _).mono ?_; rintro e X2 ⟨rfl, hb⟩; have h3 := h2.call hb; clear h2 hb)
    | (refine wpList_load_plan h3.st.blk _ rfl rfl rfl ?_)
    | (have := h3; go_at_call 30; refine (TA.out _).mono ?_; rintro e X3 ⟨rfl, hb⟩; have h4 := h3.call hb; clear h3 hb)
    | (refine wpList_load_plan h4.st.blk _ rfl rfl rfl ?_)
    | (have := h4; go_at_call 29; refine (TR.out _).mono ?_; rintro e X4 ⟨rfl, hb⟩; have h5 := h4.call hb; clear h4 hb)
    | (refine wpList_load_plan h5.st.blk _ rfl rfl rfl ?_)
    | (refine wpList_load_I h5 _ rfl rfl rfl ?_)
    | (have := h5; go_at_call 31; refine (IA.out _).mono ?_; rintro e X5 ⟨rfl, hb⟩; have h6 := h5.call hb; clear h5 hb)
    | (refine wpList_load_plan h6.st.blk _ rfl rfl rfl ?_)
    | (refine wpList_load_I h6 _ rfl rfl rfl ?_)
    | (have := h6; go_at_call 29; refine (IR.out _).mono ?_; rintro e X6 ⟨rfl, hb⟩; have h7 := (h6.call hb).st; clear h6 hb)
    | (refine wpList_load_plan h7.blk _ rfl rfl rfl ?_)
    | (have := h7; go_at_call 32; refine (PA.out _).mono ?_; rintro e X7 ⟨rfl, hb⟩; have h8 := h7.call hb; clear h7 hb)
    | (refine wpList_newL h8 P _ _ rfl rfl rfl rfl ?_; clear h8; intro X8 h9; generalize X7.heap.size = g8 at *)
    | (refine wpList_load_plan h9.st.blk _ rfl rfl rfl ?_)
    | (have := h9; go_at_call 33; refine (PR.out _).mono ?_; rintro e X9 ⟨rfl, hb⟩; have h10 := h9.call hb; clear h9 hb)
    | (refine wpList_newB h10 P _ _ rfl rfl rfl rfl ?_; clear h10; intro X10 h11; generalize X9.heap.size = g10 at *; replace Q1 := Q1.out)
    | (refine wpList_load_P h11.l.bc _ rfl rfl rfl ?_)
    | (refine wpList_load_P h11.bx _ rfl rfl rfl ?_))
  go_ret
  exact ⟨rfl, h11.l.st.bel⟩
end Go.Proofs.Ytcbpnmcfiohndaa
