/- The law of the plans that are made. No statement is proved here. -/
import Derived.Test.YtcbpnmcfiohndaaRefFit2
namespace Go.Proofs.Ytcbpnmcfiohndaa
open Go.RowKit
set_option linter.unusedVariables false
set_option linter.unusedSimpArgs false

/-- Three plans in three blocks of the call's own. -/
structure Q3 (w : World) (g1 : Nat) (p : Pl) (g2 : Nat) (q : Pl) (g3 : Nat) (r : Pl) (W : World) : Prop where
  b1 : PBlk W g1 p
  b2 : PBlk W g2 q
  b3 : PBlk W g3 r
  bel : Below w.heap.size w W
  lo : w.heap.size ≤ g3
  n1 : g1 ≠ g3
  n2 : g2 ≠ g3
section
variable {w W W' : World} {g1 g2 g3 : Nat} {p q r r' : Pl}
theorem Q3.call (h : Q3 w g1 p g2 q g3 r W) (hb : Below W.heap.size W W') : Q3 w g1 p g2 q g3 r W' :=
  ⟨h.b1.below hb h.b1.lt, h.b2.below hb h.b2.lt, h.b3.below hb h.b3.lt, h.bel.trans (hb.mono h.bel.size), h.lo, h.n1, h.n2⟩
theorem Q3.drew (h : Q3 w g1 p g2 q g3 r W) : Q3 w g1 p g2 q g3 r W.drew := ⟨h.b1.drew, h.b2.drew, h.b3.drew, h.bel.drew, h.lo, h.n1, h.n2⟩
theorem Q3.put {i : Nat} {v : Value} (h : Q3 w g1 p g2 q g3 r W) (e : r'.arr = r.arr.setIfInBounds i v) : Q3 w g1 p g2 q g3 r' (W.setCell ⟨g3, i, none⟩ v) :=
  ⟨h.b1.far h.n1 v, h.b2.far h.n2 v, h.b3.put e, h.bel.setCell h.lo v, h.lo, h.n1, h.n2⟩
theorem PSt.two (h : PSt w g1 p W) (lo : w.heap.size ≤ g1) : P2 w g1 p W.heap.size Pl.zero (W.alloc (.cells Pl.zero.arr 28)) :=
  ⟨h.blk.alloc _, PBlk.new W Pl.zero, h.bel.alloc h.bel.size _, lo, h.bel.size, Nat.ne_of_lt h.blk.lt⟩
theorem P2.three (h : P2 w g1 p g2 q W) : Q3 w g1 p g2 q W.heap.size Pl.zero (W.alloc (.cells Pl.zero.arr 28)) :=
  ⟨h.b1.alloc _, h.b2.alloc _, PBlk.new W Pl.zero, h.bel.alloc h.bel.size _, h.bel.size, Nat.ne_of_lt h.b1.lt, Nat.ne_of_lt h.b2.lt⟩
theorem wpList_put4 {ops : Array Oper} {rest : List Oper} {o : Oper} {a : Act} {Q : Exit → Act → World → Prop} {i : Nat} {n : Int} (h : Q3 w g1 p g2 q g3 r W) (hi : i < 46) (e : r'.arr = r.arr.setIfInBounds i (.int .i64 n)) (x y : Operand) (ho : o.op = .store 3 x y) (hx : a.eval x = .pointer (some ⟨g3, i, none⟩)) (hw : Region.wanted o (yielded ops a.tmps) = true)
    (hy : a.eval y = .int .i64 n) (k : ∀ W', Q3 w g1 p g2 q g3 r' W' → wpList Try.prog ops Q rest (a.put o.dst undef) W') : wpList Try.prog ops Q (o :: rest) a W :=
  wpList_store_at _ x y ho hw hx hy rfl rfl sz3 (h.b3.some i hi) (h.b3.frozen i) (h.put e) k
theorem wpList_new4 {ops : Array Oper} {rest : List Oper} {o : Oper} {a : Act} {Q : Exit → Act → World → Prop} (h : Q3 w g1 p g2 q g3 r W) (x y : Operand) (ho : o.op = .store 28 x y) (hx : a.eval x = .pointer (some ⟨g3, 0, none⟩)) (hw : Region.wanted o (yielded ops a.tmps) = true)
    (hy : a.eval y = .agg r'.arr) (k : ∀ W', Q3 w g1 p g2 q g3 r' W' → wpList Try.prog ops Q rest (a.put o.dst undef) W') : wpList Try.prog ops Q (o :: rest) a W := by
  unfold wpList
  rw [if_pos hw]
  refine .inl (wp_store_row 28 x y ho g3 r'.arr hx hy 28 r.arr h.b3 (by rw [r'.arr_size]; exact sz28) (by rw [r'.arr_size, r.arr_size]) r'.arr_all (k _ ?_))
  have lo := h.lo
  exact ⟨(heap_setRow_far W _ _ _ h.n1).trans h.b1, (heap_setRow_far W _ _ _ h.n2).trans h.b2, h.b3.putAll, h.bel.trans ⟨rfl, rfl, rfl, by simp [World.setRow], fun k hk => heap_setRow_far W _ k _ (by omega)⟩, h.lo, h.n1, h.n2⟩
end
theorem fit_again (p : Pl) : ({ fitP (fitP p) with me := (fitP p).me } : Pl) = fitP p := by
  have e := bounded_fit p
  generalize fitP p = q at *
  have e2 : ({ fitP q with me := q.me } : Pl) = { bounded q with me := q.me } := by unfold fitP; rfl
  rw [e2, e]
attribute [local irreducible] shaped Ls Lv Wd Al right bounded fitP
set_option maxHeartbeats 4000000 in
set_option maxRecDepth 20000 in
theorem fits_any (p : Pl) (w : World) : Calls Try.prog 4 #[.agg p.arr] w fun e w' => e = .returned (.bool true) ∧ Below w.heap.size w w' := by
  have SP := Lib.hid (fun W => speaks5_true W)
  have F1 := Lib.hid (fun W => fit_any p W)
  have RF := Lib.hid (fun W => refFit_any p W)
  have F2 := Lib.hid (fun W => fit_any (fitP p) W)
  have CK := Lib.hid (fun W => check_any (fitP p) W)
  rw [fit_right p, if_pos rfl] at CK
  have ME : Hid ((fitP p).arr = (fitP (fitP p)).arr.setIfInBounds 11 (.int .i64 (fitP p).me)) := by rw [← Pl.set_me, fit_again]; exact rfl
  have N := Lib.hid (PSt.new w p)
  generalize fitP p = q at *
  generalize fitP q = q2 at *
  have q1 : ∀ W, (binOp .eql 28 (.agg q.arr) (.agg q.arr)).run Try.prog W = .ok (.bool true) W := fun W => by rw [eql_plan q q rfl W, (Pl.same_iff q q rfl).2 rfl]
  go_enter Try.func4, Try.ntmps4
  go_wp2_with (first
    | (go_at_call 12; refine (SP.out _).mono ?_; rintro e X0 ⟨rfl, hb⟩; have h1 := N.out.call hb; clear N hb)
    | (refine wpList_load_plan h1.blk _ rfl rfl rfl ?_)
    | (go_at_call 23; have _ := h1; refine (F1.out _).mono ?_; rintro e X1 ⟨rfl, hb⟩; have h2 := (h1.call hb).two (Nat.le_refl _); rw [zero_arr] at h2; clear h1 hb)
    | (refine wpList_putP h2 _ _ rfl rfl rfl rfl ?_; clear h2; intro X2 h3)
    | (refine wpList_load_plan h3.b2 _ rfl rfl rfl ?_)
    | (go_at_call 23; have _ := h3; refine (F2.out _).mono ?_; rintro e X3 ⟨rfl, hb⟩; have h4 := (h3.call hb).three; rw [zero_arr] at h4; clear h3 hb)
    | (refine wpList_new4 h4 _ _ rfl rfl rfl rfl ?_; clear h4; intro X4 h5; have d11 := h5.b2.c11)
    | (refine wpList_put4 h5 (by omega) ME.out _ _ rfl rfl rfl rfl ?_; clear d11 h5; intro X5 h6))
  have H0 := Lib.hid h6.drew
  clear h6
  refine wp_region_held_drew (S := fun W => Q3 w w.heap.size p X1.heap.size q X3.heap.size q W) (by kernel_rfl) H0.out (fun _ => ?_)
  generalize X5.drew = V0 at *
  refine wpAnyH_take (i := 0) (v := .agg q.arr) rfl (by kernel_rfl) (by kernel_rfl) (by kernel_rfl) (fun _ _ _ h => h) (yields_plan _ rfl (by rfl) rfl (fun W hW => hW.b2)) H0.out ?_
  try simp only [Act.put, List.getElem_toArray, List.getElem_cons_succ, List.getElem_cons_zero, List.setIfInBounds_toArray, List.set_cons_zero, List.set_cons_succ]
  refine wpAnyH_take (i := 1) (v := .agg p.arr) rfl (by kernel_rfl) (by kernel_rfl) (by kernel_rfl) (fun _ _ _ h => h) (yields_plan _ rfl (by rfl) rfl (fun W hW => hW.b1)) H0.out ?_
  try simp only [Act.put, List.getElem_toArray, List.getElem_cons_succ, List.getElem_cons_zero, List.setIfInBounds_toArray, List.set_cons_zero, List.set_cons_succ]
  refine wpAnyH_ready (rs := [2]) (by kernel_rfl) (by simp) ?_
  refine AllReadyH.cons rfl (fun K hK => ?_) AllReadyH.nil
  go_simp
  go_at_call 24
  refine (RF.out _).mono ?_
  rintro e V1_ ⟨rfl, hb1_⟩
  have H1_ := Lib.hid (H0.out.call hb1_)
  clear hb1_
  refine hK.out _ _ H1_.out (fun _ => ?_)
  clear hK K
  try simp only [Act.put, List.getElem_toArray, List.getElem_cons_succ, List.getElem_cons_zero, List.setIfInBounds_toArray, List.set_cons_zero, List.set_cons_succ]
  refine wpAnyH_take (i := 3) (v := .bool true) rfl (by kernel_rfl) (by kernel_rfl) (by kernel_rfl) (fun _ _ _ h => h) (Or.inl ⟨by rfl, fun W hW => by clear hW; go_simp⟩) H1_.out ?_
  try simp only [Act.put, List.getElem_toArray, List.getElem_cons_succ, List.getElem_cons_zero, List.setIfInBounds_toArray, List.set_cons_zero, List.set_cons_succ]
  refine wpAnyH_take (i := 4) (v := .bool true) rfl (by kernel_rfl) (by kernel_rfl) (by kernel_rfl) (fun _ _ _ h => h) (Or.inl ⟨by rfl, fun W hW => by clear hW; go_simp⟩) H1_.out ?_
  try simp only [Act.put, List.getElem_toArray, List.getElem_cons_succ, List.getElem_cons_zero, List.setIfInBounds_toArray, List.set_cons_zero, List.set_cons_succ]
  refine wpAnyH_take (i := 5) (v := .agg q.arr) rfl (by kernel_rfl) (by kernel_rfl) (by kernel_rfl) (fun _ _ _ h => h) (yields_plan _ rfl (by rfl) rfl (fun W hW => hW.b2)) H1_.out ?_
  try simp only [Act.put, List.getElem_toArray, List.getElem_cons_succ, List.getElem_cons_zero, List.setIfInBounds_toArray, List.set_cons_zero, List.set_cons_succ]
  refine wpAnyH_ready (rs := [6]) (by kernel_rfl) (by simp) ?_
  refine AllReadyH.cons rfl (fun K hK => ?_) AllReadyH.nil
  go_simp
  go_at_call 13
  refine (CK.out _).mono ?_
  rintro e V2_ ⟨rfl, hb2_⟩
  have H2_ := Lib.hid (H1_.out.call hb2_)
  clear hb2_
  refine hK.out _ _ H2_.out (fun _ => ?_)
  clear hK K
  try simp only [Act.put, List.getElem_toArray, List.getElem_cons_succ, List.getElem_cons_zero, List.setIfInBounds_toArray, List.set_cons_zero, List.set_cons_succ]
  refine wpAnyH_take (i := 7) (v := .bool true) rfl (by kernel_rfl) (by kernel_rfl) (by kernel_rfl) (fun _ _ _ h => h) (Or.inl ⟨by rfl, fun W hW => by clear hW; go_simp⟩) H2_.out ?_
  try simp only [Act.put, List.getElem_toArray, List.getElem_cons_succ, List.getElem_cons_zero, List.setIfInBounds_toArray, List.set_cons_zero, List.set_cons_succ]
  refine wpAnyH_take (i := 8) (v := .bool true) rfl (by kernel_rfl) (by kernel_rfl) (by kernel_rfl) (fun _ _ _ h => h) (Or.inl ⟨by rfl, fun W hW => by clear hW; go_simp⟩) H2_.out ?_
  try simp only [Act.put, List.getElem_toArray, List.getElem_cons_succ, List.getElem_cons_zero, List.setIfInBounds_toArray, List.set_cons_zero, List.set_cons_succ]
  refine wpAnyH_take (i := 9) (v := .bool true) rfl (by kernel_rfl) (by kernel_rfl) (by kernel_rfl) (fun _ _ _ h => h) (Or.inl ⟨by rfl, fun W hW => by clear hW; go_simp⟩) H2_.out ?_
  try simp only [Act.put, List.getElem_toArray, List.getElem_cons_succ, List.getElem_cons_zero, List.setIfInBounds_toArray, List.set_cons_zero, List.set_cons_succ]
  refine wpAnyH_take (i := 10) (v := .agg q.arr) rfl (by kernel_rfl) (by kernel_rfl) (by kernel_rfl) (fun _ _ _ h => h) (yields_plan _ rfl (by rfl) rfl (fun W hW => hW.b3)) H2_.out ?_
  try simp only [Act.put, List.getElem_toArray, List.getElem_cons_succ, List.getElem_cons_zero, List.setIfInBounds_toArray, List.set_cons_zero, List.set_cons_succ]
  refine wpAnyH_take (i := 11) (v := .agg q.arr) rfl (by kernel_rfl) (by kernel_rfl) (by kernel_rfl) (fun _ _ _ h => h) (yields_plan _ rfl (by rfl) rfl (fun W hW => hW.b2)) H2_.out ?_
  try simp only [Act.put, List.getElem_toArray, List.getElem_cons_succ, List.getElem_cons_zero, List.setIfInBounds_toArray, List.set_cons_zero, List.set_cons_succ]
  refine wpAnyH_take (i := 12) (v := .bool true) rfl (by kernel_rfl) (by kernel_rfl) (by kernel_rfl) (fun _ _ _ h => h) (Or.inl ⟨by rfl, fun W hW => by clear hW; go_simp⟩) H2_.out ?_
  try simp only [Act.put, List.getElem_toArray, List.getElem_cons_succ, List.getElem_cons_zero, List.setIfInBounds_toArray, List.set_cons_zero, List.set_cons_succ]
  refine wpAnyH_take (i := 13) (v := .bool true) rfl (by kernel_rfl) (by kernel_rfl) (by kernel_rfl) (fun _ _ _ h => h) (Or.inl ⟨by rfl, fun W hW => by clear hW; go_simp⟩) H2_.out ?_
  try simp only [Act.put, List.getElem_toArray, List.getElem_cons_succ, List.getElem_cons_zero, List.setIfInBounds_toArray, List.set_cons_zero, List.set_cons_succ]
  refine wpAnyH_take (i := 14) (v := .bool true) rfl (by kernel_rfl) (by kernel_rfl) (by kernel_rfl) (fun _ _ _ h => h) (Or.inl ⟨by rfl, fun W hW => by clear hW; go_simp⟩) H2_.out ?_
  try simp only [Act.put, List.getElem_toArray, List.getElem_cons_succ, List.getElem_cons_zero, List.setIfInBounds_toArray, List.set_cons_zero, List.set_cons_succ]
  refine wpAnyH_done (by kernel_rfl) ?_ _
  clear q1
  go_wp2
  go_ret
  exact ⟨rfl, H2_.out.bel⟩
end Go.Proofs.Ytcbpnmcfiohndaa
