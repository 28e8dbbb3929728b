/- Messages are taken out of a queue, and looked at; how many there are, and how many more there may be. No statement is proved here. -/
import Derived.Test.YtacjdeppigdbjaaQNew
namespace Go.Proofs.Ytacjdeppigdbjaa
open Go.RowKit
set_option linter.unusedVariables false
set_option linter.unusedSimpArgs false

theorem results_msg {fn : Func} {t1 t2 : Tmp} (h : fn.results = #[.cell t1 31, .tmp t2]) (tmps : Array Value) (W : World) (g : Nat) (hp : tmps.getD t1 undef = .pointer (some ⟨g, 0, none⟩)) (m : Msg) (hg : At W g 31 m.arr) :
    (results fn tmps).run Try.prog W = .ok (.tuple #[.agg m.arr, tmps.getD t2 undef]) W :=
  results_cell_tmp h tmps W g hp _ (hg.loadV 31 _ Try.underlying31 rfl (by rw [m.arr_size]; exact sz31))
theorem zarr_lit : zmsg.arr = #[.int .i64 0, .int .i64 0, .int .i64 0, .int .i64 0, .bool false, .bool false, .int .u8 0, .int .u8 0, .int .u8 0, .int .u8 0, .int .u8 0, .int .u8 0, .int .u8 0, .int .u8 0, .int .u8 0, .int .u8 0, .int .u8 0, .int .u8 0, .int .u8 0, .int .u8 0, .int .u8 0, .int .u8 0, .int .u8 0, .int .u8 0, .int .u8 0, .int .u8 0, .int .u8 0, .int .u8 0, .int .u8 0, .int .u8 0, .int .u8 0, .int .u8 0, .int .u8 0, .int .u8 0, .int .u8 0, .int .u8 0, .int .u8 0, .int .u8 0] := by rfl
theorem karr_lit (k f t : Int) : (kmsg k f t).arr = #[.int .i64 k, .int .i64 f, .int .i64 t, .int .i64 0, .bool false, .bool false, .int .u8 0, .int .u8 0, .int .u8 0, .int .u8 0, .int .u8 0, .int .u8 0, .int .u8 0, .int .u8 0, .int .u8 0, .int .u8 0, .int .u8 0, .int .u8 0, .int .u8 0, .int .u8 0, .int .u8 0, .int .u8 0, .int .u8 0, .int .u8 0, .int .u8 0, .int .u8 0, .int .u8 0, .int .u8 0, .int .u8 0, .int .u8 0, .int .u8 0, .int .u8 0, .int .u8 0, .int .u8 0, .int .u8 0, .int .u8 0, .int .u8 0, .int .u8 0] := by rfl
attribute [local irreducible] Msg.arr bufM
section
variable {w W : World} {L : Blks} {g h k p q s1 r1 s2 r2 : Nat} {R : Int} {A B : List Msg} {m x y : Msg}
set_option maxHeartbeats 1000000 in
theorem take_none (h0 : St w W ((g, C 79 #[.int .i64 R, .chan (some h), .chan (some k)]) :: (h, Ch p (bufM []) s1 r1) :: (k, Ch q (bufM B) s2 r2) :: L)) :
    Calls Try.prog 12 #[.pointer (some ⟨g, 0, none⟩)] W fun e W' => e = .returned (.tuple #[.agg zmsg.arr, .int .i64 6]) ∧ St w W' ((g, C 79 #[.int .i64 R, .chan (some h), .chan (some k)]) :: (h, Ch p (bufM []) s1 r1) :: (k, Ch q (bufM B) s2 r2) :: L) := by
  have c1 := h0.cell 0 rfl 1 (.chan (some h)) rfl
  go_enter Try.func12, Try.ntmps12
  go_wp2_with (first
    | (refine wpList_alloc_st h0 31 rfl rfl _ zmsg.arr zero31 rfl ?_; clear h0 c1; intro W1 h1 _ _; replace h1 := h1.front; generalize W.heap.size = b1 at *; have c1 := h1.cell 1 rfl 1 (.chan (some h)) rfl)
    | (have _ := h1; go_at_call 36; refine (recv_no h1 2 rfl).mono ?_; clear h1 c1; rintro e W2 ⟨rfl, h2⟩)
    | (have _ := h2; refine wpList_alloc_st h2 31 rfl rfl _ zmsg.arr zero31 rfl ?_; clear h2; intro W3 h3 _ _; replace h3 := h3.front; generalize W2.heap.size = b3 at *)
    | (have _ := h3; refine wpList_store_st h3 0 rfl 31 (.tmp 4) (.tmp 14) rfl rfl rfl rfl (by rw [Msg.arr_size]; exact sz31) (by simp only [Msg.arr_size]) (Msg.arr_one _) ?_; clear h3; intro W4 h4 _)
    | (have _ := h4; refine wpList_store_st (arr' := zmsg.arr) h4 1 rfl 31 (.tmp 2) (.tmp 18) rfl rfl rfl (by rw [zarr_lit]; rfl) (by rw [Msg.arr_size]; exact sz31) (by simp only [Msg.arr_size]) (Msg.arr_one _) ?_; clear h4; intro W5 h5 _))
  exact bodyPost_ret (results_msg Try.results12 _ _ b1 rfl zmsg (h5.get 1 rfl)) rfl ⟨rfl, h5.tail.tail⟩
set_option maxHeartbeats 1000000 in
theorem first_none (h0 : St w W ((g, C 79 #[.int .i64 R, .chan (some h), .chan (some k)]) :: (h, Ch p (bufM []) s1 r1) :: (k, Ch q (bufM B) s2 r2) :: L)) :
    Calls Try.prog 16 #[.pointer (some ⟨g, 0, none⟩)] W fun e W' => e = .returned (.tuple #[.agg zmsg.arr, .int .i64 6]) ∧ St w W' ((g, C 79 #[.int .i64 R, .chan (some h), .chan (some k)]) :: (h, Ch p (bufM []) s1 r1) :: (k, Ch q (bufM B) s2 r2) :: L) := by
  have c1 := h0.cell 0 rfl 1 (.chan (some h)) rfl
  go_enter Try.func16, Try.ntmps16
  go_wp2_with (first
    | (refine wpList_alloc_st h0 31 rfl rfl _ zmsg.arr zero31 rfl ?_; clear h0 c1; intro W1 h1 _ _; replace h1 := h1.front; generalize W.heap.size = b1 at *; have c1 := h1.cell 1 rfl 1 (.chan (some h)) rfl)
    | (have _ := h1; go_at_call 36; refine (recv_no h1 2 rfl).mono ?_; clear h1 c1; rintro e W2 ⟨rfl, h2⟩)
    | (have _ := h2; refine wpList_alloc_st h2 31 rfl rfl _ zmsg.arr zero31 rfl ?_; clear h2; intro W3 h3 _ _; replace h3 := h3.front; generalize W2.heap.size = b3 at *)
    | (have _ := h3; refine wpList_store_st h3 0 rfl 31 (.tmp 4) (.tmp 12) rfl rfl rfl rfl (by rw [Msg.arr_size]; exact sz31) (by simp only [Msg.arr_size]) (Msg.arr_one _) ?_; clear h3; intro W4 h4 _)
    | (have _ := h4; refine wpList_store_st (arr' := zmsg.arr) h4 1 rfl 31 (.tmp 2) (.tmp 16) rfl rfl rfl (by rw [zarr_lit]; rfl) (by rw [Msg.arr_size]; exact sz31) (by simp only [Msg.arr_size]) (Msg.arr_one _) ?_; clear h4; intro W5 h5 _))
  exact bodyPost_ret (results_msg Try.results16 _ _ b1 rfl zmsg (h5.get 1 rfl)) rfl ⟨rfl, h5.tail.tail⟩
set_option maxHeartbeats 1000000 in
theorem first_some (h0 : St w W ((g, C 79 #[.int .i64 R, .chan (some h), .chan (some k)]) :: (h, Ch p (bufM [x]) s1 r1) :: (k, Ch q (bufM B) s2 r2) :: L)) (hp : 0 < p) :
    Calls Try.prog 16 #[.pointer (some ⟨g, 0, none⟩)] W fun e W' => e = .returned (.tuple #[.agg x.arr, .int .i64 0]) ∧ St w W' ((g, C 79 #[.int .i64 R, .chan (some h), .chan (some k)]) :: (h, Ch p (bufM [x]) (s1 + 1) (r1 + 1)) :: (k, Ch q (bufM B) s2 r2) :: L) := by
  have c1 := h0.cell 0 rfl 1 (.chan (some h)) rfl
  replace hp := Lib.hid hp
  go_enter Try.func16, Try.ntmps16
  go_wp2_with (first
    | (refine wpList_alloc_st h0 31 rfl rfl _ zmsg.arr zero31 rfl ?_; clear h0 c1; intro W1 h1 _ _; replace h1 := h1.front; generalize W.heap.size = b1 at *; have c1 := h1.cell 1 rfl 1 (.chan (some h)) rfl)
    | (have _ := h1; go_at_call 36; refine (recv_yes h1 2 rfl).mono ?_; clear h1 c1; rintro e W2 ⟨rfl, h2⟩)
    | (have _ := h2; refine wpList_alloc_st h2 31 rfl rfl _ zmsg.arr zero31 rfl ?_; clear h2; intro W3 h3 _ _; replace h3 := h3.front; generalize W2.heap.size = b at *)
    | (have _ := h3; refine wpList_store_st h3 0 rfl 31 (.tmp 4) (.tmp 12) rfl rfl rfl rfl (by rw [Msg.arr_size]; exact sz31) (by simp only [Msg.arr_size]) (Msg.arr_one _) ?_; clear h3; intro W4 h4 _))
  have hl := h4.drew
  clear h4
  have HP := Lib.hid (show ([] : List Msg).length < p from hp.out)
  have H0 := Lib.hid (show At W4.drew g 79 #[.int .i64 R, .chan (some h), .chan (some k)] ∧ At W4.drew b 31 x.arr from ⟨hl.get 2 rfl, hl.get 0 rfl⟩)
  refine wp_region_held_drew (S := fun W => At W g 79 #[.int .i64 R, .chan (some h), .chan (some k)] ∧ At W b 31 x.arr) (by kernel_rfl) H0.out (fun _ => ?_)
  generalize W4.drew = V0 at *
  refine wpAnyH_take (i := 0) (v := .pointer (some ⟨g, 0, none⟩)) rfl (by kernel_rfl) (by kernel_rfl) (by kernel_rfl) (fun _ _ _ h => h) (Or.inl ⟨by rfl, fun W hW => by clear hW; go_simp⟩) H0.out ?_
  try simp only [Act.put, List.getElem_toArray, List.getElem_cons_succ, List.getElem_cons_zero, List.setIfInBounds_toArray, List.set_cons_zero, List.set_cons_succ]
  refine wpAnyH_take (i := 1) (v := .pointer (some ⟨g, 0, none⟩)) rfl (by kernel_rfl) (by kernel_rfl) (by kernel_rfl) (fun _ _ _ h => h) (Or.inl ⟨by rfl, fun W hW => by clear hW; go_simp⟩) H0.out ?_
  try simp only [Act.put, List.getElem_toArray, List.getElem_cons_succ, List.getElem_cons_zero, List.setIfInBounds_toArray, List.set_cons_zero, List.set_cons_succ]
  refine wpAnyH_take (i := 2) (v := .pointer (some ⟨g, 1, none⟩)) rfl (by kernel_rfl) (by kernel_rfl) (by kernel_rfl) (fun _ _ _ h => h) (Or.inl ⟨by rfl, fun W hW => by clear hW; go_simp⟩) H0.out ?_
  try simp only [Act.put, List.getElem_toArray, List.getElem_cons_succ, List.getElem_cons_zero, List.setIfInBounds_toArray, List.set_cons_zero, List.set_cons_succ]
  refine wpAnyH_take (i := 3) (v := .chan (some h)) rfl (by kernel_rfl) (by kernel_rfl) (by kernel_rfl) (fun _ _ _ h => h) (Or.inl ⟨by rfl, fun W hW => by have hc := (show W.cell? ⟨g, 1, none⟩ = some (.chan (some h)) from hW.1.cell 1); clear hW; go_simp⟩) H0.out ?_
  try simp only [Act.put, List.getElem_toArray, List.getElem_cons_succ, List.getElem_cons_zero, List.setIfInBounds_toArray, List.set_cons_zero, List.set_cons_succ]
  refine wpAnyH_take (i := 4) (v := .agg x.arr) rfl (by kernel_rfl) (by kernel_rfl) (by kernel_rfl) (fun _ _ _ h => h) (yields_at 31 _ _ rfl (by rfl) rfl Try.underlying31 rfl (by rw [Msg.arr_size]; exact sz31) (fun W hW => hW.2)) H0.out ?_
  try simp only [Act.put, List.getElem_toArray, List.getElem_cons_succ, List.getElem_cons_zero, List.setIfInBounds_toArray, List.set_cons_zero, List.set_cons_succ]
  refine wpAnyH_ready (rs := [5]) (by kernel_rfl) (by simp) ?_
  refine AllReadyH.cons rfl (fun K hK => ?_) AllReadyH.nil
  go_simp
  go_at_call 37
  refine (send_yes hl 3 rfl HP.out).mono ?_
  rintro e V1 ⟨rfl, hs⟩
  have H1_ := Lib.hid (show At V1 g 79 #[.int .i64 R, .chan (some h), .chan (some k)] ∧ At V1 b 31 x.arr from ⟨hs.get 2 rfl, hs.get 0 rfl⟩)
  clear hl
  refine hK.out _ _ H1_.out (fun _ => ?_)
  clear hK K
  try simp only [Act.put, List.getElem_toArray, List.getElem_cons_succ, List.getElem_cons_zero, List.setIfInBounds_toArray, List.set_cons_zero, List.set_cons_succ]
  refine wpAnyH_done (by kernel_rfl) ?_ _
  clear H0 H1_
  go_wp2_with (first
    | (refine wpList_load_st hs 0 rfl 31 _ (.tmp 4) rfl rfl rfl Try.underlying31 rfl (by rw [Msg.arr_size]; exact sz31) ?_)
    | (have _ := hs; refine wpList_store_st hs 1 rfl 31 (.tmp 2) (.tmp 23) rfl rfl rfl rfl (by rw [Msg.arr_size]; exact sz31) (by simp only [Msg.arr_size]) (Msg.arr_one _) ?_; clear hs; intro W5 h5 _))
  exact bodyPost_ret (results_msg Try.results16 _ _ b1 rfl x (h5.get 1 rfl)) rfl ⟨rfl, h5.tail.tail⟩
set_option maxHeartbeats 1000000 in
theorem take_one (h0 : St w W ((g, C 79 #[.int .i64 R, .chan (some h), .chan (some k)]) :: (h, Ch p (bufM [x]) s1 r1) :: (k, Ch q (bufM []) s2 r2) :: L)) :
    Calls Try.prog 12 #[.pointer (some ⟨g, 0, none⟩)] W fun e W' => e = .returned (.tuple #[.agg x.arr, .int .i64 0]) ∧ St w W' ((g, C 79 #[.int .i64 R, .chan (some h), .chan (some k)]) :: (h, Ch p (bufM []) s1 (r1 + 1)) :: (k, Ch q (bufM []) s2 r2) :: L) := by
  have c1 := h0.cell 0 rfl 1 (.chan (some h)) rfl

  go_enter Try.func12, Try.ntmps12
  go_wp2_with (first
    | (refine wpList_alloc_st h0 31 rfl rfl _ zmsg.arr zero31 rfl ?_; clear h0 c1; intro W1 h1 _ _; replace h1 := h1.front; generalize W.heap.size = b1 at *; have c1 := h1.cell 1 rfl 1 (.chan (some h)) rfl)
    | (have _ := h1; go_at_call 36; refine (recv_yes h1 2 rfl).mono ?_; clear h1 c1; rintro e W2 ⟨rfl, h2⟩)
    | (have _ := h2; refine wpList_alloc_st h2 31 rfl rfl _ zmsg.arr zero31 rfl ?_; clear h2; intro W3 h3 _ _; replace h3 := h3.front; generalize W2.heap.size = b4 at *)
    | (have _ := h3; refine wpList_store_st h3 0 rfl 31 (.tmp 4) (.tmp 14) rfl rfl rfl rfl (by rw [Msg.arr_size]; exact sz31) (by simp only [Msg.arr_size]) (Msg.arr_one _) ?_; clear h3; intro W4 h4 _; have c2 := h4.cell 2 rfl 2 (.chan (some k)) rfl)
    | (have _ := h4; go_at_call 36; refine (recv_no h4 4 rfl).mono ?_; clear h4 c2; rintro e W5 ⟨rfl, h5⟩)
    | (have _ := h5; refine wpList_alloc_st h5 31 rfl rfl _ zmsg.arr zero31 rfl ?_; clear h5; intro W6 h6 _ _; replace h6 := h6.front; generalize W5.heap.size = b at *)
    | (have _ := h6; refine wpList_store_st h6 0 rfl 31 (.tmp 6) (.tmp 25) rfl rfl rfl rfl (by rw [Msg.arr_size]; exact sz31) (by simp only [Msg.arr_size]) (Msg.arr_one _) ?_; clear h6; intro W7 h7 _)
    | (have _ := h7; refine wpList_load_st h7 1 rfl 31 _ (.tmp 4) rfl rfl rfl Try.underlying31 rfl (by rw [Msg.arr_size]; exact sz31) ?_)
    | (have _ := h7; refine wpList_store_st h7 2 rfl 31 (.tmp 2) (.tmp 34) rfl rfl rfl rfl (by rw [Msg.arr_size]; exact sz31) (by simp only [Msg.arr_size]) (Msg.arr_one _) ?_; clear h7; intro W9 h9 _))
  exact bodyPost_ret (results_msg Try.results12 _ _ b1 rfl x (h9.get 2 rfl)) rfl ⟨rfl, h9.tail.tail.tail⟩
set_option maxHeartbeats 1000000 in
theorem take_more (h0 : St w W ((g, C 79 #[.int .i64 R, .chan (some h), .chan (some k)]) :: (h, Ch p (bufM [x]) s1 r1) :: (k, Ch q (bufM (y :: B)) s2 r2) :: L)) (hp : 0 < p) :
    Calls Try.prog 12 #[.pointer (some ⟨g, 0, none⟩)] W fun e W' => e = .returned (.tuple #[.agg x.arr, .int .i64 0]) ∧ St w W' ((g, C 79 #[.int .i64 R, .chan (some h), .chan (some k)]) :: (h, Ch p (bufM [y]) (s1 + 1) (r1 + 1)) :: (k, Ch q (bufM B) s2 (r2 + 1)) :: L) := by
  have c1 := h0.cell 0 rfl 1 (.chan (some h)) rfl
  replace hp := Lib.hid hp
  go_enter Try.func12, Try.ntmps12
  go_wp2_with (first
    | (refine wpList_alloc_st h0 31 rfl rfl _ zmsg.arr zero31 rfl ?_; clear h0 c1; intro W1 h1 _ _; replace h1 := h1.front; generalize W.heap.size = b1 at *; have c1 := h1.cell 1 rfl 1 (.chan (some h)) rfl)
    | (have _ := h1; go_at_call 36; refine (recv_yes h1 2 rfl).mono ?_; clear h1 c1; rintro e W2 ⟨rfl, h2⟩)
    | (have _ := h2; refine wpList_alloc_st h2 31 rfl rfl _ zmsg.arr zero31 rfl ?_; clear h2; intro W3 h3 _ _; replace h3 := h3.front; generalize W2.heap.size = b4 at *)
    | (have _ := h3; refine wpList_store_st h3 0 rfl 31 (.tmp 4) (.tmp 14) rfl rfl rfl rfl (by rw [Msg.arr_size]; exact sz31) (by simp only [Msg.arr_size]) (Msg.arr_one _) ?_; clear h3; intro W4 h4 _; have c2 := h4.cell 2 rfl 2 (.chan (some k)) rfl)
    | (have _ := h4; go_at_call 36; refine (recv_yes h4 4 rfl).mono ?_; clear h4 c2; rintro e W5 ⟨rfl, h5⟩)
    | (have _ := h5; refine wpList_alloc_st h5 31 rfl rfl _ zmsg.arr zero31 rfl ?_; clear h5; intro W6 h6 _ _; replace h6 := h6.front; generalize W5.heap.size = b at *)
    | (have _ := h6; refine wpList_store_st h6 0 rfl 31 (.tmp 6) (.tmp 25) rfl rfl rfl rfl (by rw [Msg.arr_size]; exact sz31) (by simp only [Msg.arr_size]) (Msg.arr_one _) ?_; clear h6; intro W7 h7 _))
  have hl := h7.drew
  clear h7
  have HP := Lib.hid (show ([] : List Msg).length < p from hp.out)
  have H0 := Lib.hid (show At W7.drew g 79 #[.int .i64 R, .chan (some h), .chan (some k)] ∧ At W7.drew b 31 y.arr from ⟨hl.get 3 rfl, hl.get 0 rfl⟩)
  refine wp_region_held_drew (S := fun W => At W g 79 #[.int .i64 R, .chan (some h), .chan (some k)] ∧ At W b 31 y.arr) (by kernel_rfl) H0.out (fun _ => ?_)
  generalize W7.drew = V0 at *
  refine wpAnyH_take (i := 0) (v := .pointer (some ⟨g, 0, none⟩)) rfl (by kernel_rfl) (by kernel_rfl) (by kernel_rfl) (fun _ _ _ h => h) (Or.inl ⟨by rfl, fun W hW => by clear hW; go_simp⟩) H0.out ?_
  try simp only [Act.put, List.getElem_toArray, List.getElem_cons_succ, List.getElem_cons_zero, List.setIfInBounds_toArray, List.set_cons_zero, List.set_cons_succ]
  refine wpAnyH_take (i := 1) (v := .pointer (some ⟨g, 0, none⟩)) rfl (by kernel_rfl) (by kernel_rfl) (by kernel_rfl) (fun _ _ _ h => h) (Or.inl ⟨by rfl, fun W hW => by clear hW; go_simp⟩) H0.out ?_
  try simp only [Act.put, List.getElem_toArray, List.getElem_cons_succ, List.getElem_cons_zero, List.setIfInBounds_toArray, List.set_cons_zero, List.set_cons_succ]
  refine wpAnyH_take (i := 2) (v := .pointer (some ⟨g, 1, none⟩)) rfl (by kernel_rfl) (by kernel_rfl) (by kernel_rfl) (fun _ _ _ h => h) (Or.inl ⟨by rfl, fun W hW => by clear hW; go_simp⟩) H0.out ?_
  try simp only [Act.put, List.getElem_toArray, List.getElem_cons_succ, List.getElem_cons_zero, List.setIfInBounds_toArray, List.set_cons_zero, List.set_cons_succ]
  refine wpAnyH_take (i := 3) (v := .chan (some h)) rfl (by kernel_rfl) (by kernel_rfl) (by kernel_rfl) (fun _ _ _ h => h) (Or.inl ⟨by rfl, fun W hW => by have hc := (show W.cell? ⟨g, 1, none⟩ = some (.chan (some h)) from hW.1.cell 1); clear hW; go_simp⟩) H0.out ?_
  try simp only [Act.put, List.getElem_toArray, List.getElem_cons_succ, List.getElem_cons_zero, List.setIfInBounds_toArray, List.set_cons_zero, List.set_cons_succ]
  refine wpAnyH_take (i := 4) (v := .agg y.arr) rfl (by kernel_rfl) (by kernel_rfl) (by kernel_rfl) (fun _ _ _ h => h) (yields_at 31 _ _ rfl (by rfl) rfl Try.underlying31 rfl (by rw [Msg.arr_size]; exact sz31) (fun W hW => hW.2)) H0.out ?_
  try simp only [Act.put, List.getElem_toArray, List.getElem_cons_succ, List.getElem_cons_zero, List.setIfInBounds_toArray, List.set_cons_zero, List.set_cons_succ]
  refine wpAnyH_ready (rs := [5]) (by kernel_rfl) (by simp) ?_
  refine AllReadyH.cons rfl (fun K hK => ?_) AllReadyH.nil
  go_simp
  go_at_call 37
  refine (send_yes hl 4 rfl HP.out).mono ?_
  rintro e V1 ⟨rfl, hs⟩
  have H1_ := Lib.hid (show At V1 g 79 #[.int .i64 R, .chan (some h), .chan (some k)] ∧ At V1 b 31 y.arr from ⟨hs.get 3 rfl, hs.get 0 rfl⟩)
  clear hl
  refine hK.out _ _ H1_.out (fun _ => ?_)
  clear hK K
  try simp only [Act.put, List.getElem_toArray, List.getElem_cons_succ, List.getElem_cons_zero, List.setIfInBounds_toArray, List.set_cons_zero, List.set_cons_succ]
  refine wpAnyH_done (by kernel_rfl) ?_ _
  clear H0 H1_
  go_wp2_with (first
    | (have _ := hs; refine wpList_load_st hs 1 rfl 31 _ (.tmp 4) rfl rfl rfl Try.underlying31 rfl (by rw [Msg.arr_size]; exact sz31) ?_)
    | (have _ := hs; refine wpList_store_st hs 2 rfl 31 (.tmp 2) (.tmp 34) rfl rfl rfl rfl (by rw [Msg.arr_size]; exact sz31) (by simp only [Msg.arr_size]) (Msg.arr_one _) ?_; clear hs; intro W9 h9 _))
  exact bodyPost_ret (results_msg Try.results12 _ _ b1 rfl x (h9.get 2 rfl)) rfl ⟨rfl, h9.tail.tail.tail⟩
end
end Go.Proofs.Ytacjdeppigdbjaa
