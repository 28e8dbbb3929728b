/- The document's queue: it is made, messages are put into it, and taken out; whether two rows of messages are one. No statement is proved here. -/
import Derived.Test.YtacjdeppigdbjaaElt2
import Derived.Test.YtacjdeppigdbjaaLast
namespace Go.Proofs.Ytacjdeppigdbjaa
open Go.RowKit
set_option linter.unusedVariables false
set_option linter.unusedSimpArgs false

theorem msg_cells (m : Msg) : (Value.agg m.arr).cells = (Elt.cs m).toArray := rfl
theorem sz41 : (Try.prog.info? 41).map (·.size) = some 1 := by kernel_rfl
theorem rl_cells {v : Value} {xs : List Msg} {M : Blks} (h : RL v xs M) : v.cells = #[v] ∧ v.oneCell' = true := by
  obtain ⟨A, c, rfl, _⟩ := h.form
  exact ⟨rfl, rfl⟩
/-- The document's queue in memory. -/
def RQ (w W : World) (g R : Nat) (xs : List Msg) (L : Blks) : Prop :=
  xs.length ≤ R ∧ R ≤ 4096 ∧ ∃ v M, RL v xs M ∧ St w W ((g, C 43 #[v, .int .i64 (R : Int)]) :: (M ++ L))
theorem rnew_any {w W : World} {L : Blks} (room : Int) (h : St w W L) :
    Calls Try.prog 11 #[.int .i64 room] W fun e W' => ∃ g, e = .returned (.pointer (some ⟨g, 0, none⟩)) ∧ RQ w W' g (clampR room) [] L := by
  have fin : ∀ (R : Nat) W' g, R = clampR room → St w W' ((g, C 43 #[.slice none 0 0, .int .i64 (R : Int)]) :: L) → RQ w W' g (clampR room) [] L := fun R W' g hR hs => by
    subst hR
    exact ⟨Nat.zero_le _, by unfold clampR; omega, _, [], RL.nil_, hs⟩
  by_cases h0 : room < 0
  · have q0 : (room < 0) = True := eq_true h0
    have F := Lib.hid (fun W' g => fin 0 W' g (by unfold clampR; omega))
    clear fin
    go_enter Try.func11, Try.ntmps11
    go_wp2_with (refine wpList_box_st h 43 _ rfl rfl #[.slice none 0 0, .int .i64 0] rfl ?_; clear h; intro W1 h1 _ _)
    go_ret
    exact ⟨_, rfl, F.out _ _ h1.front⟩
  by_cases h3 : 4096 < room
  · have q0 : (room < 0) = False := eq_false h0
    have q1 : ((4096 : Int) < room) = True := eq_true h3
    have F := Lib.hid (fun W' g => fin 4096 W' g (by unfold clampR; omega))
    clear fin
    go_enter Try.func11, Try.ntmps11
    go_wp2_with (refine wpList_box_st h 43 _ rfl rfl #[.slice none 0 0, .int .i64 4096] rfl ?_; clear h; intro W1 h1 _ _)
    go_ret
    exact ⟨_, rfl, F.out _ _ h1.front⟩
  · obtain ⟨a, rfl⟩ : ∃ a : Nat, room = (a : Int) := ⟨room.toNat, by omega⟩
    have q0 : ((a : Int) < 0) = False := eq_false h0
    have q1 : ((4096 : Int) < (a : Int)) = False := eq_false h3
    have F := Lib.hid (fun W' g => fin a W' g (by unfold clampR; omega))
    clear fin
    go_enter Try.func11, Try.ntmps11
    go_wp2_with (refine wpList_box_st h 43 _ rfl rfl #[.slice none 0 0, .int .i64 (a : Int)] rfl ?_; clear h; intro W1 h1 _ _)
    go_ret
    exact ⟨_, rfl, F.out _ _ h1.front⟩
attribute [local irreducible] Msg.arr bufM marr
section
variable {w W : World} {L : Blks} {g R : Nat} {xs : List Msg} {m x : Msg}
set_option maxHeartbeats 1000000 in
theorem rput_full (h : RQ w W g R xs L) (hr : ¬ xs.length < R) :
    Calls Try.prog 15 #[.pointer (some ⟨g, 0, none⟩), .agg m.arr] W fun e W' => e = .returned (.int .i64 5) ∧ RQ w W' g R xs L := by
  obtain ⟨a1, a2, v, M, hrl, hs⟩ := h
  obtain ⟨A, c, rfl, _⟩ := hrl.form
  have q : ((xs.length : Int) == (R : Int)) = true := by simp; omega
  have fin : ∀ W' x, St w W' (x :: (g, C 43 #[.slice A xs.length c, .int .i64 (R : Int)]) :: (M ++ L)) → RQ w W' g R xs L := fun W' x h' => ⟨a1, a2, _, M, hrl, h'.tail⟩
  replace fin := Lib.hid fin
  clear hrl a1 a2 hr
  go_enter Try.func15, Try.ntmps15
  go_wp2_with (refine wpList_box_st hs 31 _ rfl rfl m.arr rfl ?_; clear hs; intro W1 h1 _ _; replace h1 := h1.front)
  have c0 := h1.cell 1 rfl 0 (.slice A xs.length c) rfl
  have c1 := h1.cell 1 rfl 1 (.int .i64 (R : Int)) rfl
  replace h1 := Lib.hid h1
  go_quiet (fail)
  go_wp2
  go_ret
  exact ⟨rfl, fin.out _ _ (h1.out.drewN _)⟩
set_option maxHeartbeats 1000000 in
theorem rput_ok (h : RQ w W g R xs L) (hr : xs.length < R) :
    Calls Try.prog 15 #[.pointer (some ⟨g, 0, none⟩), .agg m.arr] W fun e W' => e = .returned (.int .i64 0) ∧ RQ w W' g R (xs ++ [m]) L := by
  obtain ⟨a1, a2, v, M, hrl, hs⟩ := h
  obtain ⟨A, c, rfl, _⟩ := hrl.form
  have q : ((xs.length : Int) == (R : Int)) = false := by simp; omega
  have hlen : xs.length + 1 ≤ R ∧ R ≤ 4096 := ⟨by omega, a2⟩
  clear a1 a2 hr
  replace hlen := Lib.hid hlen
  replace hrl := Lib.hid hrl
  go_enter Try.func15, Try.ntmps15
  go_wp2_with (refine wpList_box_st hs 31 _ rfl rfl m.arr rfl ?_; clear hs; intro W1 h1 _ _; replace h1 := h1.front; generalize W.heap.size = b at *)
  have c0 := h1.cell 1 rfl 0 (.slice A xs.length c) rfl
  have c1 := h1.cell 1 rfl 1 (.int .i64 (R : Int)) rfl
  replace h1 := Lib.hid h1
  go_quiet (fail)
  replace h1 := h1.out.drewN nq
  clear c0 c1
  go_wp2
  have hs := h1.drew
  clear h1
  refine wp_region_last (fun W => At W g 43 #[.slice A xs.length c, .int .i64 (R : Int)] ∧ At W b 31 m.arr) 10 (by kernel_rfl) ?_
  generalize World.drew _ = V0 at *
  have H0 := Lib.hid (show At V0 g 43 #[.slice A xs.length c, .int .i64 (R : Int)] ∧ At V0 b 31 m.arr from ⟨hs.get 1 rfl, hs.get 0 rfl⟩)
  refine AnyT.take (i := 0) (v := .pointer (some ⟨g, 0, none⟩)) rfl (by kernel_rfl) (by kernel_rfl) (by kernel_rfl) (by kernel_rfl) (by decide) (fun _ _ _ h => h) (Or.inl ⟨by rfl, fun W hW => by clear hW; go_simp⟩) H0.out ?_
  try simp only [Act.put, List.getElem_toArray, List.getElem_cons_succ, List.getElem_cons_zero, List.setIfInBounds_toArray, List.set_cons_zero, List.set_cons_succ]
  refine AnyT.take (i := 1) (v := .pointer (some ⟨g, 0, none⟩)) rfl (by kernel_rfl) (by kernel_rfl) (by kernel_rfl) (by kernel_rfl) (by decide) (fun _ _ _ h => h) (Or.inl ⟨by rfl, fun W hW => by clear hW; go_simp⟩) H0.out ?_
  try simp only [Act.put, List.getElem_toArray, List.getElem_cons_succ, List.getElem_cons_zero, List.setIfInBounds_toArray, List.set_cons_zero, List.set_cons_succ]
  refine AnyT.take (i := 2) (v := .pointer (some ⟨g, 0, none⟩)) rfl (by kernel_rfl) (by kernel_rfl) (by kernel_rfl) (by kernel_rfl) (by decide) (fun _ _ _ h => h) (Or.inl ⟨by rfl, fun W hW => by clear hW; go_simp⟩) H0.out ?_
  try simp only [Act.put, List.getElem_toArray, List.getElem_cons_succ, List.getElem_cons_zero, List.setIfInBounds_toArray, List.set_cons_zero, List.set_cons_succ]
  refine AnyT.take (i := 3) (v := .pointer (some ⟨g, 0, none⟩)) rfl (by kernel_rfl) (by kernel_rfl) (by kernel_rfl) (by kernel_rfl) (by decide) (fun _ _ _ h => h) (Or.inl ⟨by rfl, fun W hW => by clear hW; go_simp⟩) H0.out ?_
  try simp only [Act.put, List.getElem_toArray, List.getElem_cons_succ, List.getElem_cons_zero, List.setIfInBounds_toArray, List.set_cons_zero, List.set_cons_succ]
  refine AnyT.take (i := 4) (v := .slice A xs.length c) rfl (by kernel_rfl) (by kernel_rfl) (by kernel_rfl) (by kernel_rfl) (by decide) (fun _ _ _ h => h) (Or.inl ⟨by rfl, fun W hW => by have hc := (show W.cell? ⟨g, 0, none⟩ = some (.slice A xs.length c) from hW.1.cell 0); clear hW; go_simp⟩) H0.out ?_
  try simp only [Act.put, List.getElem_toArray, List.getElem_cons_succ, List.getElem_cons_zero, List.setIfInBounds_toArray, List.set_cons_zero, List.set_cons_succ]
  refine AnyT.take (i := 5) (v := .agg m.arr) rfl (by kernel_rfl) (by kernel_rfl) (by kernel_rfl) (by kernel_rfl) (by decide) (fun _ _ _ h => h) (yields_at 31 _ _ rfl (by rfl) rfl Try.underlying31 rfl (by rw [Msg.arr_size]; exact sz31) (fun W hW => hW.2)) H0.out ?_
  try simp only [Act.put, List.getElem_toArray, List.getElem_cons_succ, List.getElem_cons_zero, List.setIfInBounds_toArray, List.set_cons_zero, List.set_cons_succ]
  refine AnyT.one (i := 6) (by kernel_rfl) rfl (fun K hK => ?_)
  rw [if_pos (by rfl)]
  refine wp_build1_st hs (.tmp 20) m rfl (msg_cells m) ?_
  clear hs
  intro V1 h1
  have H1 := Lib.hid (show At V1 g 43 #[.slice A xs.length c, .int .i64 (R : Int)] ∧ At V1 b 31 m.arr from ⟨h1.get 2 rfl, h1.get 1 rfl⟩)
  generalize V0.heap.size = nb at *
  refine hK.out _ _ (fun _ => H1.out) ?_
  clear hK K
  try simp only [Act.put, List.getElem_toArray, List.getElem_cons_succ, List.getElem_cons_zero, List.setIfInBounds_toArray, List.set_cons_zero, List.set_cons_succ]
  refine AnyT.one (i := 7) (by kernel_rfl) rfl (fun K hK => ?_)
  rw [if_pos (by rfl)]
  refine wp_append_rl (ys := [m]) hrl.out (St.swap (X := [_, _, _]) h1) (new_row h1) (.tmp 19) (.tmp 21) rfl rfl rfl (by have := hlen.out; omega) ?_
  intro v' V2 M' hrl' h2
  replace h2 := St.swap (X := M') (M := [_, _, _]) h2
  have H2 := Lib.hid (show At V2 g 43 #[.slice A xs.length c, .int .i64 (R : Int)] ∧ At V2 b 31 m.arr from ⟨h2.get 2 rfl, h2.get 1 rfl⟩)
  clear h1 H1
  refine hK.out _ _ (fun _ => H2.out) ?_
  clear hK K
  try simp only [Act.put, List.getElem_toArray, List.getElem_cons_succ, List.getElem_cons_zero, List.setIfInBounds_toArray, List.set_cons_zero, List.set_cons_succ]
  refine AnyT.one (i := 8) (by kernel_rfl) rfl (fun K hK => ?_)
  go_simp
  refine hK.out _ _ (fun _ => H2.out) ?_
  clear hK K
  try simp only [Act.put, List.getElem_toArray, List.getElem_cons_succ, List.getElem_cons_zero, List.setIfInBounds_toArray, List.set_cons_zero, List.set_cons_succ]
  refine AnyT.take (i := 9) (v := .pointer (some ⟨g, 0, none⟩)) rfl (by kernel_rfl) (by kernel_rfl) (by kernel_rfl) (by kernel_rfl) (by decide) (fun _ _ _ h => h) (Or.inl ⟨by rfl, fun W hW => by clear hW; go_simp⟩) H2.out ?_
  try simp only [Act.put, List.getElem_toArray, List.getElem_cons_succ, List.getElem_cons_zero, List.setIfInBounds_toArray, List.set_cons_zero, List.set_cons_succ]
  refine AnyT.one (i := 10) (by kernel_rfl) rfl (fun K hK => ?_)
  rw [if_pos (by rfl)]
  refine wp_cell_st h2 2 rfl 41 (.tmp 24) (.tmp 22) rfl 0 v' rfl rfl (by simp) (rl_cells hrl').1 (rl_cells hrl').2 sz41 ?_
  intro V3 h3
  clear h2 H2
  refine hK.out _ _ (fun h => absurd rfl h) ?_
  clear hK K
  try simp only [Act.put, List.getElem_toArray, List.getElem_cons_succ, List.getElem_cons_zero, List.setIfInBounds_toArray, List.set_cons_zero, List.set_cons_succ]
  refine AnyT.done (by kernel_rfl) ?_ _
  go_wp2
  go_ret
  exact ⟨rfl, by rw [List.length_append]; exact hlen.out.1, hlen.out.2, v', M', hrl', h3.tail.tail⟩
theorem at_row {w W : World} {A : Option Addr} {n c : Nat} {xs : List Msg} {M L : Blks} (h : RL (.slice A n c) xs M) (hs : St w W (M ++ L)) : ERow W W.heap.size A n c xs := h.row hs rfl
theorem head_range {W : World} {B n c bb off : Nat} {x : Msg} {xs : List Msg} (h : ERow W B (some ⟨bb, off, none⟩) n c (x :: xs)) : W.rangeAt bb off x.cs := by
  obtain ⟨b, o, e, _, hr⟩ := h.at_ 0 x rfl
  injection e with e
  injection e with e1 e2
  subst e1; subst e2
  rw [Nat.zero_mul, Nat.add_zero] at hr
  exact hr
theorem tail_row {W : World} {B n c bb off k : Nat} {x : Msg} {xs : List Msg} (hk : n - 1 = k) (h : ERow W B (some ⟨bb, off, none⟩) n c (x :: xs)) : ERow W B (some ⟨bb, off + 38, none⟩) k (c - 1) xs := by
  subst hk
  have := h.drop 1 (by have := h.len; simp at this; omega)
  rw [Nat.one_mul] at this
  exact this
theorem tail_row1 {W : World} {B n bb off : Nat} {x : Msg} {xs : List Msg} (h : ERow W B (some ⟨bb, off, none⟩) n 1 (x :: xs)) : ERow W B (some ⟨bb, off, none⟩) 0 0 xs := by
  have h1 := h.len
  have h2 := h.2.1
  simp only [List.length_cons] at h1
  have : xs = [] := List.eq_nil_of_length_eq_zero (by omega)
  subst this
  exact ⟨rfl, Nat.le_refl _, by unfold maxLen; omega, (fun h => by cases h), fun a ha hn => by omega⟩
theorem drop_mid {w W : World} {x : Nat × Obj} {M M2 L : Blks} (h : St w W (x :: (M2 ++ (M ++ L)))) : St w W (x :: (M2 ++ L)) := h.sub (((List.sublist_append_right M L).append_left M2).cons_cons x)
theorem perm5 (a b c : Nat × Obj) (M M2 L : Blks) : ([a, b, c] ++ (M2 ++ (M ++ L))).Perm (M ++ ([a, b, c] ++ (M2 ++ L))) := by
  refine List.Perm.trans ?_ (List.perm_append_comm_assoc [a, b, c] M (M2 ++ L))
  exact (List.perm_append_comm_assoc M2 M L).append_left _
theorem rtake_nil (h : RQ w W g R [] L) :
    Calls Try.prog 13 #[.pointer (some ⟨g, 0, none⟩)] W fun e W' => e = .returned (.tuple #[.agg zmsg.arr, .int .i64 6]) ∧ RQ w W' g R [] L := by
  obtain ⟨a1, a2, v, M, hrl, h0⟩ := h
  obtain ⟨A, c, rfl, _⟩ := hrl.form
  have c0 := h0.cell 0 rfl 0 (.slice A 0 c) rfl
  replace hrl := Lib.hid hrl
  go_enter Try.func13, Try.ntmps13
  go_wp2_with (first
    | (refine wpList_alloc_st h0 31 rfl rfl _ zmsg.arr zero31 rfl ?_; clear h0 c0; intro W1 h1 _ _; replace h1 := h1.front; generalize W.heap.size = b1 at *; have c0 := h1.cell 1 rfl 0 (.slice A 0 c) rfl)
    | (have _ := h1; refine wpList_store_st (arr' := zmsg.arr) h1 0 rfl 31 (.tmp 2) (.tmp 11) rfl rfl rfl (by rw [zarr_lit]; rfl) (by rw [Msg.arr_size]; exact sz31) (by simp only [Msg.arr_size]) (Msg.arr_one _) ?_; clear h1 c0; intro W5 h5 _))
  exact bodyPost_ret (results_msg Try.results13 _ _ b1 rfl zmsg (h5.get 0 rfl)) rfl ⟨rfl, a1, a2, _, M, hrl.out, h5.tail⟩
set_option maxRecDepth 20000 in
set_option maxHeartbeats 1000000 in
theorem rtake_cons (h : RQ w W g R (x :: xs) L) :
    Calls Try.prog 13 #[.pointer (some ⟨g, 0, none⟩)] W fun e W' => e = .returned (.tuple #[.agg x.arr, .int .i64 0]) ∧ RQ w W' g R xs L := by
  obtain ⟨a1, a2, v, M, hrl, h0⟩ := h
  obtain ⟨A, c, rfl, hA⟩ := hrl.form
  cases A with
  | none => have := (hA rfl).1; cases this
  | some ad =>
  obtain ⟨bb, off, spot⟩ := ad
  have hrow := at_row hrl (h0.swap (X := [_]))
  obtain ⟨_, _, e1, _, _⟩ := hrow.at_ 0 x rfl
  injection e1 with e1
  injection e1 with e1 e2 e3
  subst e3
  have hnc : xs.length + 1 ≤ c := hrow.2.1
  have hcm : c ≤ 9223372036854775807 := hrow.2.2.1
  clear hrow e1 e2 hA
  have hlen : xs.length ≤ R ∧ R ≤ 4096 ∧ xs.length ≤ 4096 := ⟨by simp at a1; omega, a2, by simp at a1; omega⟩
  have n1 : ((xs.length + 1 : Nat) == 0) = false := by simp
  simp only [List.length_cons] at hrl h0
  have hN : 1 ≤ xs.length + 1 := by omega
  have hN2 : xs.length + 1 - 1 = xs.length := by omega
  generalize hNN : xs.length + 1 = N at *
  have hN3 : N ≤ 5000 := by omega
  replace hNN := Lib.hid hNN
  replace hN2 := Lib.hid hN2
  replace hlen := Lib.hid hlen
  clear a1 a2
  have q0 : ((N : Int) == 0) = false := by simp; omega
  by_cases hc1 : c = 1
  · subst hc1
    have c0 := h0.cell 0 rfl 0 (.slice (some ⟨bb, off, none⟩) N 1) rfl
    replace hrl := Lib.hid hrl
    go_enter Try.func13, Try.ntmps13
    go_wp2_with (first
      | (refine wpList_alloc_st h0 31 rfl rfl _ zmsg.arr zero31 rfl ?_; clear h0 c0; intro W1 h1 _ _; replace h1 := h1.front; generalize W.heap.size = b1 at *; have c0 := h1.cell 1 rfl 0 (.slice (some ⟨bb, off, none⟩) N 1) rfl)
      | (have _ := h1; refine wpList_loadM (m := x) (head_range (at_row hrl.out (h1.swap (X := [_, _])))) (.tmp 16) rfl rfl rfl ?_)
      | (have _ := h1; refine wpList_alloc_st h1 31 rfl rfl _ zmsg.arr zero31 rfl ?_; clear h1 c0; intro W2 h2 _ _; replace h2 := h2.front; generalize W1.heap.size = b4 at *; have c0 := h2.cell 2 rfl 0 (.slice (some ⟨bb, off, none⟩) N 1) rfl)
      | (have _ := h2; refine wpList_store_st (arr' := x.arr) h2 0 rfl 31 (.tmp 4) (.tmp 17) rfl rfl rfl rfl (by rw [Msg.arr_size]; exact sz31) (by simp only [Msg.arr_size]) (Msg.arr_one _) ?_; clear h2 c0; intro W3 h3 _; have c0 := h3.cell 2 rfl 0 (.slice (some ⟨bb, off, none⟩) N 1) rfl)
      | (have _ := h3; refine wpList_build0_st (α := Msg) h3 rfl rfl ?_; clear h3 c0; intro W4 v4 M4 hv4 r4 h4 _; replace h4 := St.swap (X := M4) (M := [_, _, _]) h4; have c0 := h4.cell 2 rfl 0 (.slice (some ⟨bb, off, none⟩) N 1) rfl; replace hv4 := Lib.hid hv4)
      | (have _ := h4; refine wpList_append_rl r4 (St.swap (X := [_, _, _]) h4) (tail_row1 (at_row hrl.out (St.perm h4 (perm5 _ _ _ _ _ _)))) (.tmp 19) (.tmp 24) rfl rfl rfl rfl (by simp only [List.length_nil]; omega) ?_; clear h4 c0; intro v5 W5 M5 r5 h5; replace h5 := St.swap (X := M5) (M := [_, _, _]) h5)
      | (have _ := h5; refine wpList_cell_st h5 2 rfl 41 (.tmp 27) (.tmp 25) rfl rfl 0 v5 rfl rfl (by simp) (rl_cells r5).1 (rl_cells r5).2 sz41 ?_; clear h5; intro W6 h6 _)
      | (have _ := h6; refine wpList_load_st h6 0 rfl 31 _ (.tmp 4) rfl rfl rfl Try.underlying31 rfl (by rw [Msg.arr_size]; exact sz31) ?_)
      | (have _ := h6; refine wpList_store_st (arr' := x.arr) h6 1 rfl 31 (.tmp 2) (.tmp 28) rfl rfl rfl rfl (by rw [Msg.arr_size]; exact sz31) (by simp only [Msg.arr_size]) (Msg.arr_one _) ?_; clear h6; intro W7 h7 _))
    exact bodyPost_ret (results_msg Try.results13 _ _ b1 rfl x (h7.get 1 rfl)) rfl ⟨rfl, hlen.out.1, hlen.out.2.1, v5, M5, r5, drop_mid h7.tail.tail⟩
  · have k1 : (c = 1) = False := eq_false hc1
    have c0 := h0.cell 0 rfl 0 (.slice (some ⟨bb, off, none⟩) N c) rfl
    replace hrl := Lib.hid hrl
    go_enter Try.func13, Try.ntmps13
    go_wp2_with (first
      | (refine wpList_alloc_st h0 31 rfl rfl _ zmsg.arr zero31 rfl ?_; clear h0 c0; intro W1 h1 _ _; replace h1 := h1.front; generalize W.heap.size = b1 at *; have c0 := h1.cell 1 rfl 0 (.slice (some ⟨bb, off, none⟩) N c) rfl)
      | (have _ := h1; refine wpList_loadM (m := x) (head_range (at_row hrl.out (h1.swap (X := [_, _])))) (.tmp 16) rfl rfl rfl ?_)
      | (have _ := h1; refine wpList_alloc_st h1 31 rfl rfl _ zmsg.arr zero31 rfl ?_; clear h1 c0; intro W2 h2 _ _; replace h2 := h2.front; generalize W1.heap.size = b4 at *; have c0 := h2.cell 2 rfl 0 (.slice (some ⟨bb, off, none⟩) N c) rfl)
      | (have _ := h2; refine wpList_store_st (arr' := x.arr) h2 0 rfl 31 (.tmp 4) (.tmp 17) rfl rfl rfl rfl (by rw [Msg.arr_size]; exact sz31) (by simp only [Msg.arr_size]) (Msg.arr_one _) ?_; clear h2 c0; intro W3 h3 _; have c0 := h3.cell 2 rfl 0 (.slice (some ⟨bb, off, none⟩) N c) rfl)
      | (have _ := h3; refine wpList_build0_st (α := Msg) h3 rfl rfl ?_; clear h3 c0; intro W4 v4 M4 hv4 r4 h4 _; replace h4 := St.swap (X := M4) (M := [_, _, _]) h4; have c0 := h4.cell 2 rfl 0 (.slice (some ⟨bb, off, none⟩) N c) rfl; replace hv4 := Lib.hid hv4)
      | (have _ := h4; refine wpList_append_rl r4 (St.swap (X := [_, _, _]) h4) (tail_row rfl (at_row hrl.out (St.perm h4 (perm5 _ _ _ _ _ _)))) (.tmp 19) (.tmp 24) rfl rfl rfl rfl (by simp only [List.length_nil]; omega) ?_; clear h4 c0; intro v5 W5 M5 r5 h5; replace h5 := St.swap (X := M5) (M := [_, _, _]) h5)
      | (have _ := h5; refine wpList_cell_st h5 2 rfl 41 (.tmp 27) (.tmp 25) rfl rfl 0 v5 rfl rfl (by simp) (rl_cells r5).1 (rl_cells r5).2 sz41 ?_; clear h5; intro W6 h6 _)
      | (have _ := h6; refine wpList_load_st h6 0 rfl 31 _ (.tmp 4) rfl rfl rfl Try.underlying31 rfl (by rw [Msg.arr_size]; exact sz31) ?_)
      | (have _ := h6; refine wpList_store_st (arr' := x.arr) h6 1 rfl 31 (.tmp 2) (.tmp 28) rfl rfl rfl rfl (by rw [Msg.arr_size]; exact sz31) (by simp only [Msg.arr_size]) (Msg.arr_one _) ?_; clear h6; intro W7 h7 _))
    exact bodyPost_ret (results_msg Try.results13 _ _ b1 rfl x (h7.get 1 rfl)) rfl ⟨rfl, hlen.out.1, hlen.out.2.1, v5, M5, r5, drop_mid h7.tail.tail⟩
end
end Go.Proofs.Ytacjdeppigdbjaa
