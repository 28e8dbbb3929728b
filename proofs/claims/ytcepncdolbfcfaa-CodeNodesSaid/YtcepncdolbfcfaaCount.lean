/- The counters that bytes tell, the program's. No statement is proved here. -/
import Derived.Test.YtcepncdolbfcfaaState2
import Derived.Test.YtcepncdolbfcfaaRefGet
import Derived.Deep.CutRange
namespace Go.Proofs.Ytcepncdolbfcfaa
open Go.RowKit
set_option linter.unusedVariables false
set_option linter.unusedSimpArgs false
attribute [local irreducible] arrV shaped Ls right putN iarr

/-- The Minors that bytes tell. -/
def cnL (xs : List Nat) (m n : Nat) : List Int := (List.range n).map fun j => ((getN xs (64 + j * m) m : Nat) : Int)
theorem cnL_len (xs : List Nat) (m n : Nat) : (cnL xs m n).length = n := by simp [cnL]
theorem cnL_succ (xs : List Nat) (m n : Nat) : cnL xs m (n + 1) = cnL xs m n ++ [((getN xs (64 + n * m) m : Nat) : Int)] := by simp [cnL, List.range_succ]
theorem cell2 (M : Int) (A : Option Addr) (n c : Nat) : (#[.int .u64 M, .slice A n c] : Array Value).all (·.oneCell') = true := by simp [Value.oneCell']
theorem St.swap5 {w W : World} {a b c d e : Nat × TypeId × Array Value} (h : St w W [a, b, c, d, e]) : St w W [a, b, c, e, d] := h.perm ((((List.Perm.swap e d []).cons c).cons b).cons a)
def cnP (xs : List Nat) (m n j : Nat) : List Int := cnL xs m j ++ List.replicate (n - j) 0
theorem cnP_step (xs : List Nat) (m n j : Nat) (h : j < n) : (cnP xs m n j).set j ((getN xs (64 + j * m) m : Nat) : Int) = cnP xs m n (j + 1) := by
  unfold cnP
  rw [List.set_append_right _ _ (by rw [cnL_len]; omega), cnL_len, Nat.sub_self, cnL_succ]
  obtain ⟨k, hk⟩ : ∃ k, n - j = k + 1 := ⟨n - j - 1, by omega⟩
  rw [hk, List.replicate_succ, List.set_cons_zero, show n - (j + 1) = k by omega]
  simp
theorem cnP_len (xs : List Nat) (m n j : Nat) (h : j ≤ n) : (cnP xs m n j).length = n := by unfold cnP; simp [cnL_len]; omega
theorem cnL_i64 (xs : List Nat) (m n : Nat) (hm : m ≤ 8) : ∀ x ∈ cnL xs m n, I64 x := by
  intro x hx
  simp only [cnL, List.mem_map] at hx
  obtain ⟨j, _, rfl⟩ := hx
  have h1 := getN_lt xs (64 + j * m) m
  have h2 : 2 ^ m ≤ 2 ^ 8 := Nat.pow_le_pow_right (by omega) hm
  unfold I64; omega
set_option maxHeartbeats 2000000 in
theorem count_no (p : Pl) (xs : List Nat) (w : World) (hp : right p = false) :
    Calls Try.prog 12 #[.agg p.arr, .agg (arrV xs)] w (GivesC w 0 [] 0 4) := by
  have C := Lib.hid (fun W => check_any p W)
  have SP := Lib.hid (show (Try.prog.info? 28).map (·.size) = some p.arr.size by rw [p.arr_size]; exact sz28)
  have h0 := St.nil w
  rw [hp] at C
  clear hp
  go_enter Try.func12, Try.ntmps12
  go_wp2_with (first
    | (refine wpList_box_st h0 28 _ rfl rfl p.arr rfl ?_; clear h0; intro W1 h1 _ _)
    | (refine wpList_box_st h1 33 _ rfl rfl (arrV xs) rfl ?_; clear h1; intro W2 h2 _ _)
    | (refine wpList_alloc_st h2 31 rfl rfl _ #[.int .u64 0, .slice none 0 0] zv31 rfl ?_; clear h2; intro W3 h3 _ _)
    | (refine wpList_load_st h3 0 rfl 28 _ _ rfl rfl rfl Try.underlying28 rfl SP.out ?_)
    | (go_at_call 33; refine (C.out _).mono ?_; rintro e W4 ⟨rfl, hb⟩; have h4 := h3.call hb; clear h3 hb)
    | (refine wpList_store_st h4 2 rfl 31 _ _ rfl rfl rfl rfl sz31 rfl (cell2 _ _ _ _) ?_; clear h4; intro W5 h5 _))
  refine bodyPost_ret (results_cell_tmp Try.results12 _ _ _ rfl _ ((h5.get 2 rfl).loadV 31 _ Try.underlying31 rfl sz31)) rfl ?_
  exact ⟨none, 0, rfl, IRow.nil_ _ _, h5.bel⟩
def CoRel (w : World) (p : Pl) (xs : List Nat) (W1 W2 : Nat) (g1 g2 R n m : Nat) (i : Value) (wr : World) : Prop :=
  ∃ j, j ≤ n ∧ i = .int .i64 (j : Nat) ∧ St w wr [(w.heap.size, 28, p.arr), (W1, 33, arrV xs), (W2, 31, #[.int .u64 0, .slice none 0 0]), (g2, 31, #[.int .u64 (R : Int), .slice (some ⟨g1, 0, none⟩) n n]), (g1, 3, iarr (cnP xs m n j))]
set_option maxHeartbeats 4000000 in
set_option maxRecDepth 20000 in
theorem count_yes (p : Pl) (xs : List Nat) (n m : Nat) (w : World) (hp : right p = true) (hl : xs.length = 32) (hb : ∀ x ∈ xs, x < 256) (hp3 : p.li = (n : Int)) (hp5 : p.mi = (m : Int)) :
    Calls Try.prog 12 #[.agg p.arr, .agg (arrV xs)] w (GivesC w (le (xs.take 8)) (cnL xs m n) n 0) := by
  have hmi := right_mi hp
  have hli := right_li hp
  have p5 : p.arr[5]? = some (.int .i64 (m : Int)) := by rw [p.at5, hp5]
  have p3 : p.arr[3]? = some (.int .i64 (n : Int)) := by rw [p.at3, hp3]
  have hm8 : m ≤ 8 := by omega
  have hn8 : n ≤ 8 := by omega
  have C := Lib.hid (fun W => check_any p W)
  have MA0 := Lib.hid (fun s hs W => minorAt_any p m s hp5 hm8 hs W)
  have SP := Lib.hid (show (Try.prog.info? 28).map (·.size) = some p.arr.size by rw [p.arr_size]; exact sz28)
  have XL := Lib.hid hl
  have XB := Lib.hid hb
  have RD0 : Hid (∀ g W, Row W W.heap.size (some ⟨g, 0, none⟩) 32 32 ((xs.drop 0).take 32) → Calls Try.prog 34 #[.slice (some ⟨g, 0, none⟩) 32 32] W fun e w' => e = .returned (.int .u64 (le (xs.take 8) : Nat)) ∧ W = w') := fun g W h => by
    have := read_any _ _ _ _ _ W h
    rw [List.drop_zero, List.take_take] at this
    exact this
  generalize le (xs.take 8) = R at *
  have P5 := Lib.hid p5
  have P3 := Lib.hid p3
  have h0 := St.nil w
  rw [hp] at C
  clear hp3 hp5 p5 p3 hp hl hb
  go_enter Try.func12, Try.ntmps12
  go_upto_region 4 with (first
    | (refine wpList_box_st h0 28 _ rfl rfl p.arr rfl ?_; clear h0; intro W1 h1 _ _)
    | (refine wpList_box_st h1 33 _ rfl rfl (arrV xs) rfl ?_; clear h1; intro W2 h2 _ _)
    | (refine wpList_alloc_st h2 31 rfl rfl _ #[.int .u64 0, .slice none 0 0] zv31 rfl ?_; clear h2; intro W3 h3 _ _)
    | (refine wpList_load_st h3 0 rfl 28 _ _ rfl rfl rfl Try.underlying28 rfl SP.out ?_)
    | (go_at_call 33; refine (C.out _).mono ?_; rintro e W4 ⟨rfl, hb⟩; have h4 := h3.call hb; clear h3 hb))
  go_cut [7] from 17 to 46 (fun s7 wx => ∃ g1 g2 : Nat, s7 = .pointer (some ⟨g2, 0, none⟩) ∧ St w wx ([(w.heap.size, 28, p.arr), (W1.heap.size, 33, arrV xs), (W2.heap.size, 31, #[.int .u64 0, .slice none 0 0])] ++ [(g2, 31, #[.int .u64 (R : Int), .slice (some ⟨g1, 0, none⟩) n n])] ++ [(g1, 3, iarr (List.replicate n 0))]))
  case first =>
    have H0 := Lib.hid h4.drew
    have p3 := P3.out
    have RD := Lib.hid (RD0.out W1.heap.size)
    refine wp_region_held_drew (S := fun W => St w W [(w.heap.size, 28, p.arr), (W1.heap.size, 33, arrV xs), (W2.heap.size, 31, #[.int .u64 0, .slice none 0 0])]) (by kernel_rfl) H0.out (fun _ => ?_)
    generalize W4.drew = V0 at *
    have ROW := Lib.hid (Blk.row (H0.out.get 1 rfl) XB.out 0 32 32 (by rw [XL.out]; omega) (by omega) (by omega))
    clear h4
    refine wpAnyH_take (i := 0) (v := .slice (some ⟨W1.heap.size, 0, none⟩) 32 32) rfl (by kernel_rfl) (by kernel_rfl) (by kernel_rfl) (fun _ _ _ h => h) (Or.inl ⟨by rfl, fun W hW => by clear hW; go_simp⟩) H0.out ?_
    try simp only [Act.put, List.getElem_toArray, List.getElem_cons_succ, List.getElem_cons_zero, List.setIfInBounds_toArray, List.set_cons_zero, List.set_cons_succ]
    refine wpAnyH_take (i := 2) (v := .pointer (some ⟨w.heap.size, 3, none⟩)) rfl (by kernel_rfl) (by kernel_rfl) (by kernel_rfl) (fun _ _ _ h => h) (Or.inl ⟨by rfl, fun W hW => by clear hW; go_simp⟩) H0.out ?_
    try simp only [Act.put, List.getElem_toArray, List.getElem_cons_succ, List.getElem_cons_zero, List.setIfInBounds_toArray, List.set_cons_zero, List.set_cons_succ]
    refine wpAnyH_take (i := 3) (v := .int .i64 (n : Int)) rfl (by kernel_rfl) (by kernel_rfl) (by kernel_rfl) (fun _ _ _ h => h) (Or.inl ⟨by rfl, fun W hW => by have hc := (hW.cell 0 rfl 3 (.int .i64 (n : Int)) p3); clear hW; go_simp⟩) H0.out ?_
    try simp only [Act.put, List.getElem_toArray, List.getElem_cons_succ, List.getElem_cons_zero, List.setIfInBounds_toArray, List.set_cons_zero, List.set_cons_succ]
    refine wpAnyH_ready (rs := [1, 4, 6]) (by kernel_rfl) (by simp) ?_
    refine (AllReadyH.cons rfl (fun K hK => ?_) (AllReadyH.cons rfl (fun K hK => ?_) (AllReadyH.cons rfl (fun K hK => ?_) AllReadyH.nil)))
    · go_simp
      go_at_call 34
      refine (RD.out _ ROW.out).mono ?_
      rintro e VR ⟨rfl, rfl⟩
      refine hK.out _ _ (H0.out) (fun _ => ?_)
      clear hK K
      try simp only [Act.put, List.getElem_toArray, List.getElem_cons_succ, List.getElem_cons_zero, List.setIfInBounds_toArray, List.set_cons_zero, List.set_cons_succ]
      refine wpAnyH_ready (rs := [4, 6]) (by kernel_rfl) (by simp) ?_
      refine (AllReadyH.cons rfl (fun K hK => ?_) (AllReadyH.cons rfl (fun K hK => ?_) AllReadyH.nil))
      · rw [if_pos (by rfl)]
        refine wp_make_st H0.out _ _ rfl n rfl rfl (by omega) ?_
        intro V1 F1 B1
        refine hK.out _ _ (F1.pre) (fun _ => ?_)
        clear hK K
        try simp only [Act.put, List.getElem_toArray, List.getElem_cons_succ, List.getElem_cons_zero, List.setIfInBounds_toArray, List.set_cons_zero, List.set_cons_succ]
        refine wpAnyH_take (i := 5) (v := .agg #[.int .u64 (R : Int), .slice (some ⟨V0.heap.size, 0, none⟩) n n]) rfl (by kernel_rfl) (by kernel_rfl) (by kernel_rfl) (fun _ _ _ h => h) (Or.inl ⟨by rfl, fun W hW => by clear hW; go_simp⟩) F1.pre ?_
        try simp only [Act.put, List.getElem_toArray, List.getElem_cons_succ, List.getElem_cons_zero, List.setIfInBounds_toArray, List.set_cons_zero, List.set_cons_succ]
        refine wpAnyH_ready (rs := [6]) (by kernel_rfl) (by simp) ?_
        refine (AllReadyH.cons rfl (fun K hK => ?_) AllReadyH.nil)
        rw [if_pos (by rfl)]
        refine wp_alloc_st F1 31 rfl _ #[.int .u64 0, .slice none 0 0] zv31 rfl ?_
        intro V2 F2 B2
        refine hK.out _ _ (F2.pre.pre) (fun _ => ?_)
        clear hK K
        try simp only [Act.put, List.getElem_toArray, List.getElem_cons_succ, List.getElem_cons_zero, List.setIfInBounds_toArray, List.set_cons_zero, List.set_cons_succ]
        refine wpAnyH_ready (rs := [7]) (by kernel_rfl) (by simp) ?_
        refine (AllReadyH.cons rfl (fun K hK => ?_) AllReadyH.nil)
        rw [if_pos (by rfl)]
        refine wp_store_st F2 4 rfl 31 _ _ rfl rfl rfl sz31 rfl (cell2 _ _ _ _) ?_
        intro V3 F3 B3
        refine hK.out _ _ (F3.sub (by exact List.sublist_append_left _ _)) (fun _ => ?_)
        clear hK K
        try simp only [Act.put, List.getElem_toArray, List.getElem_cons_succ, List.getElem_cons_zero, List.setIfInBounds_toArray, List.set_cons_zero, List.set_cons_succ]
        refine wpAnyH_done (by kernel_rfl) ?_ _
        go_wp2_with fail
        go_meet
        exact ⟨V0.heap.size, V1.heap.size, rfl, St.swap5 F3⟩
      · rw [if_pos (by rfl)]
        refine wp_alloc_st H0.out 31 rfl _ #[.int .u64 0, .slice none 0 0] zv31 rfl ?_
        intro V4 F4 B4
        refine hK.out _ _ (F4.pre) (fun _ => ?_)
        clear hK K
        try simp only [Act.put, List.getElem_toArray, List.getElem_cons_succ, List.getElem_cons_zero, List.setIfInBounds_toArray, List.set_cons_zero, List.set_cons_succ]
        refine wpAnyH_ready (rs := [4]) (by kernel_rfl) (by simp) ?_
        refine (AllReadyH.cons rfl (fun K hK => ?_) AllReadyH.nil)
        rw [if_pos (by rfl)]
        refine wp_make_st F4 _ _ rfl n rfl rfl (by omega) ?_
        intro V5 F5 B5
        refine hK.out _ _ (F5.pre.pre) (fun _ => ?_)
        clear hK K
        try simp only [Act.put, List.getElem_toArray, List.getElem_cons_succ, List.getElem_cons_zero, List.setIfInBounds_toArray, List.set_cons_zero, List.set_cons_succ]
        refine wpAnyH_take (i := 5) (v := .agg #[.int .u64 (R : Int), .slice (some ⟨V4.heap.size, 0, none⟩) n n]) rfl (by kernel_rfl) (by kernel_rfl) (by kernel_rfl) (fun _ _ _ h => h) (Or.inl ⟨by rfl, fun W hW => by clear hW; go_simp⟩) F5.pre.pre ?_
        try simp only [Act.put, List.getElem_toArray, List.getElem_cons_succ, List.getElem_cons_zero, List.setIfInBounds_toArray, List.set_cons_zero, List.set_cons_succ]
        refine wpAnyH_ready (rs := [7]) (by kernel_rfl) (by simp) ?_
        refine (AllReadyH.cons rfl (fun K hK => ?_) AllReadyH.nil)
        rw [if_pos (by rfl)]
        refine wp_store_st F5 3 rfl 31 _ _ rfl rfl rfl sz31 rfl (cell2 _ _ _ _) ?_
        intro V6 F6 B6
        refine hK.out _ _ (F6.sub (by exact List.sublist_append_left _ _)) (fun _ => ?_)
        clear hK K
        try simp only [Act.put, List.getElem_toArray, List.getElem_cons_succ, List.getElem_cons_zero, List.setIfInBounds_toArray, List.set_cons_zero, List.set_cons_succ]
        refine wpAnyH_done (by kernel_rfl) ?_ _
        go_wp2_with fail
        go_meet
        exact ⟨V4.heap.size, V0.heap.size, rfl, F6⟩
    · rw [if_pos (by rfl)]
      refine wp_make_st H0.out _ _ rfl n rfl rfl (by omega) ?_
      intro V7 F7 B7
      refine hK.out _ _ (F7.pre) (fun _ => ?_)
      clear hK K
      try simp only [Act.put, List.getElem_toArray, List.getElem_cons_succ, List.getElem_cons_zero, List.setIfInBounds_toArray, List.set_cons_zero, List.set_cons_succ]
      refine wpAnyH_ready (rs := [1, 6]) (by kernel_rfl) (by simp) ?_
      refine (AllReadyH.cons rfl (fun K hK => ?_) (AllReadyH.cons rfl (fun K hK => ?_) AllReadyH.nil))
      · go_simp
        go_at_call 34
        refine (RD.out _ ((Blk.row (F7.get 1 rfl) XB.out 0 32 32 (by rw [XL.out]; omega) (by omega) (by omega)))).mono ?_
        rintro e VR ⟨rfl, rfl⟩
        refine hK.out _ _ (F7.pre) (fun _ => ?_)
        clear hK K
        try simp only [Act.put, List.getElem_toArray, List.getElem_cons_succ, List.getElem_cons_zero, List.setIfInBounds_toArray, List.set_cons_zero, List.set_cons_succ]
        refine wpAnyH_take (i := 5) (v := .agg #[.int .u64 (R : Int), .slice (some ⟨V0.heap.size, 0, none⟩) n n]) rfl (by kernel_rfl) (by kernel_rfl) (by kernel_rfl) (fun _ _ _ h => h) (Or.inl ⟨by rfl, fun W hW => by clear hW; go_simp⟩) F7.pre ?_
        try simp only [Act.put, List.getElem_toArray, List.getElem_cons_succ, List.getElem_cons_zero, List.setIfInBounds_toArray, List.set_cons_zero, List.set_cons_succ]
        refine wpAnyH_ready (rs := [6]) (by kernel_rfl) (by simp) ?_
        refine (AllReadyH.cons rfl (fun K hK => ?_) AllReadyH.nil)
        rw [if_pos (by rfl)]
        refine wp_alloc_st F7 31 rfl _ #[.int .u64 0, .slice none 0 0] zv31 rfl ?_
        intro V8 F8 B8
        refine hK.out _ _ (F8.pre.pre) (fun _ => ?_)
        clear hK K
        try simp only [Act.put, List.getElem_toArray, List.getElem_cons_succ, List.getElem_cons_zero, List.setIfInBounds_toArray, List.set_cons_zero, List.set_cons_succ]
        refine wpAnyH_ready (rs := [7]) (by kernel_rfl) (by simp) ?_
        refine (AllReadyH.cons rfl (fun K hK => ?_) AllReadyH.nil)
        rw [if_pos (by rfl)]
        refine wp_store_st F8 4 rfl 31 _ _ rfl rfl rfl sz31 rfl (cell2 _ _ _ _) ?_
        intro V9 F9 B9
        refine hK.out _ _ (F9.sub (by exact List.sublist_append_left _ _)) (fun _ => ?_)
        clear hK K
        try simp only [Act.put, List.getElem_toArray, List.getElem_cons_succ, List.getElem_cons_zero, List.setIfInBounds_toArray, List.set_cons_zero, List.set_cons_succ]
        refine wpAnyH_done (by kernel_rfl) ?_ _
        go_wp2_with fail
        go_meet
        exact ⟨V0.heap.size, V7.heap.size, rfl, St.swap5 F9⟩
      · rw [if_pos (by rfl)]
        refine wp_alloc_st F7 31 rfl _ #[.int .u64 0, .slice none 0 0] zv31 rfl ?_
        intro V10 F10 B10
        refine hK.out _ _ (F10.pre.pre) (fun _ => ?_)
        clear hK K
        try simp only [Act.put, List.getElem_toArray, List.getElem_cons_succ, List.getElem_cons_zero, List.setIfInBounds_toArray, List.set_cons_zero, List.set_cons_succ]
        refine wpAnyH_ready (rs := [1]) (by kernel_rfl) (by simp) ?_
        refine (AllReadyH.cons rfl (fun K hK => ?_) AllReadyH.nil)
        go_simp
        go_at_call 34
        refine (RD.out _ ((Blk.row (F10.get 1 rfl) XB.out 0 32 32 (by rw [XL.out]; omega) (by omega) (by omega)))).mono ?_
        rintro e VR ⟨rfl, rfl⟩
        refine hK.out _ _ (F10.pre.pre) (fun _ => ?_)
        clear hK K
        try simp only [Act.put, List.getElem_toArray, List.getElem_cons_succ, List.getElem_cons_zero, List.setIfInBounds_toArray, List.set_cons_zero, List.set_cons_succ]
        refine wpAnyH_take (i := 5) (v := .agg #[.int .u64 (R : Int), .slice (some ⟨V0.heap.size, 0, none⟩) n n]) rfl (by kernel_rfl) (by kernel_rfl) (by kernel_rfl) (fun _ _ _ h => h) (Or.inl ⟨by rfl, fun W hW => by clear hW; go_simp⟩) F10.pre.pre ?_
        try simp only [Act.put, List.getElem_toArray, List.getElem_cons_succ, List.getElem_cons_zero, List.setIfInBounds_toArray, List.set_cons_zero, List.set_cons_succ]
        refine wpAnyH_ready (rs := [7]) (by kernel_rfl) (by simp) ?_
        refine (AllReadyH.cons rfl (fun K hK => ?_) AllReadyH.nil)
        rw [if_pos (by rfl)]
        refine wp_store_st F10 4 rfl 31 _ _ rfl rfl rfl sz31 rfl (cell2 _ _ _ _) ?_
        intro V11 F11 B11
        refine hK.out _ _ (F11.sub (by exact List.sublist_append_left _ _)) (fun _ => ?_)
        clear hK K
        try simp only [Act.put, List.getElem_toArray, List.getElem_cons_succ, List.getElem_cons_zero, List.setIfInBounds_toArray, List.set_cons_zero, List.set_cons_succ]
        refine wpAnyH_done (by kernel_rfl) ?_ _
        go_wp2_with fail
        go_meet
        exact ⟨V0.heap.size, V7.heap.size, rfl, St.swap5 F11⟩
    · rw [if_pos (by rfl)]
      refine wp_alloc_st H0.out 31 rfl _ #[.int .u64 0, .slice none 0 0] zv31 rfl ?_
      intro V12 F12 B12
      refine hK.out _ _ (F12.pre) (fun _ => ?_)
      clear hK K
      try simp only [Act.put, List.getElem_toArray, List.getElem_cons_succ, List.getElem_cons_zero, List.setIfInBounds_toArray, List.set_cons_zero, List.set_cons_succ]
      refine wpAnyH_ready (rs := [1, 4]) (by kernel_rfl) (by simp) ?_
      refine (AllReadyH.cons rfl (fun K hK => ?_) (AllReadyH.cons rfl (fun K hK => ?_) AllReadyH.nil))
      · go_simp
        go_at_call 34
        refine (RD.out _ ((Blk.row (F12.get 1 rfl) XB.out 0 32 32 (by rw [XL.out]; omega) (by omega) (by omega)))).mono ?_
        rintro e VR ⟨rfl, rfl⟩
        refine hK.out _ _ (F12.pre) (fun _ => ?_)
        clear hK K
        try simp only [Act.put, List.getElem_toArray, List.getElem_cons_succ, List.getElem_cons_zero, List.setIfInBounds_toArray, List.set_cons_zero, List.set_cons_succ]
        refine wpAnyH_ready (rs := [4]) (by kernel_rfl) (by simp) ?_
        refine (AllReadyH.cons rfl (fun K hK => ?_) AllReadyH.nil)
        rw [if_pos (by rfl)]
        refine wp_make_st F12 _ _ rfl n rfl rfl (by omega) ?_
        intro V13 F13 B13
        refine hK.out _ _ (F13.pre.pre) (fun _ => ?_)
        clear hK K
        try simp only [Act.put, List.getElem_toArray, List.getElem_cons_succ, List.getElem_cons_zero, List.setIfInBounds_toArray, List.set_cons_zero, List.set_cons_succ]
        refine wpAnyH_take (i := 5) (v := .agg #[.int .u64 (R : Int), .slice (some ⟨V12.heap.size, 0, none⟩) n n]) rfl (by kernel_rfl) (by kernel_rfl) (by kernel_rfl) (fun _ _ _ h => h) (Or.inl ⟨by rfl, fun W hW => by clear hW; go_simp⟩) F13.pre.pre ?_
        try simp only [Act.put, List.getElem_toArray, List.getElem_cons_succ, List.getElem_cons_zero, List.setIfInBounds_toArray, List.set_cons_zero, List.set_cons_succ]
        refine wpAnyH_ready (rs := [7]) (by kernel_rfl) (by simp) ?_
        refine (AllReadyH.cons rfl (fun K hK => ?_) AllReadyH.nil)
        rw [if_pos (by rfl)]
        refine wp_store_st F13 3 rfl 31 _ _ rfl rfl rfl sz31 rfl (cell2 _ _ _ _) ?_
        intro V14 F14 B14
        refine hK.out _ _ (F14.sub (by exact List.sublist_append_left _ _)) (fun _ => ?_)
        clear hK K
        try simp only [Act.put, List.getElem_toArray, List.getElem_cons_succ, List.getElem_cons_zero, List.setIfInBounds_toArray, List.set_cons_zero, List.set_cons_succ]
        refine wpAnyH_done (by kernel_rfl) ?_ _
        go_wp2_with fail
        go_meet
        exact ⟨V12.heap.size, V0.heap.size, rfl, F14⟩
      · rw [if_pos (by rfl)]
        refine wp_make_st F12 _ _ rfl n rfl rfl (by omega) ?_
        intro V15 F15 B15
        refine hK.out _ _ (F15.pre.pre) (fun _ => ?_)
        clear hK K
        try simp only [Act.put, List.getElem_toArray, List.getElem_cons_succ, List.getElem_cons_zero, List.setIfInBounds_toArray, List.set_cons_zero, List.set_cons_succ]
        refine wpAnyH_ready (rs := [1]) (by kernel_rfl) (by simp) ?_
        refine (AllReadyH.cons rfl (fun K hK => ?_) AllReadyH.nil)
        go_simp
        go_at_call 34
        refine (RD.out _ ((Blk.row (F15.get 1 rfl) XB.out 0 32 32 (by rw [XL.out]; omega) (by omega) (by omega)))).mono ?_
        rintro e VR ⟨rfl, rfl⟩
        refine hK.out _ _ (F15.pre.pre) (fun _ => ?_)
        clear hK K
        try simp only [Act.put, List.getElem_toArray, List.getElem_cons_succ, List.getElem_cons_zero, List.setIfInBounds_toArray, List.set_cons_zero, List.set_cons_succ]
        refine wpAnyH_take (i := 5) (v := .agg #[.int .u64 (R : Int), .slice (some ⟨V12.heap.size, 0, none⟩) n n]) rfl (by kernel_rfl) (by kernel_rfl) (by kernel_rfl) (fun _ _ _ h => h) (Or.inl ⟨by rfl, fun W hW => by clear hW; go_simp⟩) F15.pre.pre ?_
        try simp only [Act.put, List.getElem_toArray, List.getElem_cons_succ, List.getElem_cons_zero, List.setIfInBounds_toArray, List.set_cons_zero, List.set_cons_succ]
        refine wpAnyH_ready (rs := [7]) (by kernel_rfl) (by simp) ?_
        refine (AllReadyH.cons rfl (fun K hK => ?_) AllReadyH.nil)
        rw [if_pos (by rfl)]
        refine wp_store_st F15 3 rfl 31 _ _ rfl rfl rfl sz31 rfl (cell2 _ _ _ _) ?_
        intro V16 F16 B16
        refine hK.out _ _ (F16.sub (by exact List.sublist_append_left _ _)) (fun _ => ?_)
        clear hK K
        try simp only [Act.put, List.getElem_toArray, List.getElem_cons_succ, List.getElem_cons_zero, List.setIfInBounds_toArray, List.set_cons_zero, List.set_cons_succ]
        refine wpAnyH_done (by kernel_rfl) ?_ _
        go_wp2_with fail
        go_meet
        exact ⟨V12.heap.size, V0.heap.size, rfl, F16⟩

  case rest =>
    obtain ⟨g1, g2, rfl, hS⟩ := hcut
    clear h4 RD0 C
    have hS' : St w wc [(w.heap.size, 28, p.arr), (W1.heap.size, 33, arrV xs), (W2.heap.size, 31, #[.int .u64 0, .slice none 0 0]), (g2, 31, #[.int .u64 (R : Int), .slice (some ⟨g1, 0, none⟩) n n]), (g1, 3, iarr (cnP xs m n 0))] := by
      have e : cnP xs m n 0 = List.replicate n 0 := by unfold cnP cnL; simp
      rw [e]; exact hS
    have d1 := hS'.cell 3 rfl 1 (.slice (some ⟨g1, 0, none⟩) n n) rfl
    clear hS
    go_wp2
    go_loopw [26] (CoRel w p xs W1.heap.size W2.heap.size g1 g2 R n m) (fun i _ => n - (intOf i).toNat)
    case atStart => exact ⟨0, by omega, rfl, hS'⟩
    case round =>
      obtain ⟨j, hj, rfl, h6⟩ := hrel
      clear hS' d1
      by_cases hlt : j < n
      · have GT := Lib.hid (fun W h => get_yes (some ⟨W1.heap.size, 0, none⟩) 32 32 (64 + j * m) m xs W.heap.size W h (by omega) (by omega) (by have := Nat.mul_le_mul (show j + 1 ≤ 8 by omega) hm8; rw [Nat.add_mul, Nat.one_mul] at this; omega))
        have hq := getN_lt xs (64 + j * m) m
        have h28 : 2 ^ m ≤ 2 ^ 8 := Nat.pow_le_pow_right (by omega) hm8
        have ql : getN xs (64 + j * m) m < 256 := by omega
        have ST := Lib.hid (cnP_step xs m n j hlt)
        have MA := Lib.hid (fun W => MA0.out j (by omega) W)
        clear hq h28
        generalize getN xs (64 + j * m) m = q at *
        generalize 64 + j * m = y at *
        have ew : IntKind.i64.wrap (q : Int) = (q : Int) := i64_small q (by omega)
        have EX : Hid ((xs.drop 0).take 32 = xs) := by rw [List.drop_zero, List.take_of_length_le (by rw [XL.out]; omega)]; exact rfl
        go_wp2
        have H0 := Lib.hid h6.drew
        refine wp_region_held_drew (S := fun W => St w W [(w.heap.size, 28, p.arr), (W1.heap.size, 33, arrV xs), (W2.heap.size, 31, #[.int .u64 0, .slice none 0 0]), (g2, 31, #[.int .u64 (R : Int), .slice (some ⟨g1, 0, none⟩) n n]), (g1, 3, iarr (cnP xs m n j))]) (by kernel_rfl) H0.out (fun _ => ?_)
        generalize wr.drew = V0 at *
        have p5 := P5.out
        clear h6
        refine wpAnyH_take (i := 0) (v := .slice (some ⟨W1.heap.size, 0, none⟩) 32 32) rfl (by kernel_rfl) (by kernel_rfl) (by kernel_rfl) (fun _ _ _ h => h) (Or.inl ⟨by rfl, fun W hW => by clear hW; go_simp⟩) H0.out ?_
        try simp only [Act.put, List.getElem_toArray, List.getElem_cons_succ, List.getElem_cons_zero, List.setIfInBounds_toArray, List.set_cons_zero, List.set_cons_succ]
        refine wpAnyH_take (i := 1) (v := .agg p.arr) rfl (by kernel_rfl) (by kernel_rfl) (by kernel_rfl) (fun _ _ _ h => h) (yields_at 28 _ _ rfl (by rfl) rfl Try.underlying28 rfl SP.out (fun W hW => hW.get 0 rfl)) H0.out ?_
        try simp only [Act.put, List.getElem_toArray, List.getElem_cons_succ, List.getElem_cons_zero, List.setIfInBounds_toArray, List.set_cons_zero, List.set_cons_succ]
        refine wpAnyH_take (i := 2) (v := .int .i64 (j : Int)) rfl (by kernel_rfl) (by kernel_rfl) (by kernel_rfl) (fun _ _ _ h => h) (Or.inl ⟨by rfl, fun W hW => by clear hW; go_simp⟩) H0.out ?_
        try simp only [Act.put, List.getElem_toArray, List.getElem_cons_succ, List.getElem_cons_zero, List.setIfInBounds_toArray, List.set_cons_zero, List.set_cons_succ]
        refine wpAnyH_take (i := 4) (v := .pointer (some ⟨w.heap.size, 5, none⟩)) rfl (by kernel_rfl) (by kernel_rfl) (by kernel_rfl) (fun _ _ _ h => h) (Or.inl ⟨by rfl, fun W hW => by clear hW; go_simp⟩) H0.out ?_
        try simp only [Act.put, List.getElem_toArray, List.getElem_cons_succ, List.getElem_cons_zero, List.setIfInBounds_toArray, List.set_cons_zero, List.set_cons_succ]
        refine wpAnyH_take (i := 5) (v := .int .i64 (m : Int)) rfl (by kernel_rfl) (by kernel_rfl) (by kernel_rfl) (fun _ _ _ h => h) (Or.inl ⟨by rfl, fun W hW => by have hc := (hW.cell 0 rfl 5 (.int .i64 (m : Int)) p5); clear hW; go_simp⟩) H0.out ?_
        try simp only [Act.put, List.getElem_toArray, List.getElem_cons_succ, List.getElem_cons_zero, List.setIfInBounds_toArray, List.set_cons_zero, List.set_cons_succ]
        refine wpAnyH_ready (rs := [3]) (by kernel_rfl) (by simp) ?_
        refine AllReadyH.cons rfl (fun K hK => ?_) AllReadyH.nil
        go_simp
        go_at_call 30
        refine (MA.out _).mono ?_
        rintro e V1 ⟨rfl, hb1⟩
        have H1_ := Lib.hid (H0.out.call hb1)
        refine hK.out _ _ H1_.out (fun _ => ?_)
        clear hK K
        try simp only [Act.put, List.getElem_toArray, List.getElem_cons_succ, List.getElem_cons_zero, List.setIfInBounds_toArray, List.set_cons_zero, List.set_cons_succ]
        refine wpAnyH_ready (rs := [6]) (by kernel_rfl) (by simp) ?_
        refine AllReadyH.cons rfl (fun K hK => ?_) AllReadyH.nil
        go_simp
        go_at_call 35
        refine (GT.out _ (EX.out ▸ Blk.row (H1_.out.get 1 rfl) XB.out 0 32 32 (by rw [XL.out]; omega) (by omega) (by omega))).mono ?_
        rintro e V2_ ⟨rfl, rfl⟩
        have H2_ := Lib.hid (H1_.out)
        refine hK.out _ _ H2_.out (fun _ => ?_)
        clear hK K
        try simp only [Act.put, List.getElem_toArray, List.getElem_cons_succ, List.getElem_cons_zero, List.setIfInBounds_toArray, List.set_cons_zero, List.set_cons_succ]
        refine wpAnyH_take (i := 7) (v := .tuple #[.int .u64 (q : Int), .int .i64 0]) rfl (by kernel_rfl) (by kernel_rfl) (by kernel_rfl) (fun _ _ _ h => h) (Or.inl ⟨by rfl, fun W hW => by clear hW; go_simp⟩) H2_.out ?_
        try simp only [Act.put, List.getElem_toArray, List.getElem_cons_succ, List.getElem_cons_zero, List.setIfInBounds_toArray, List.set_cons_zero, List.set_cons_succ]
        refine wpAnyH_take (i := 8) (v := .int .u64 (q : Int)) rfl (by kernel_rfl) (by kernel_rfl) (by kernel_rfl) (fun _ _ _ h => h) (Or.inl ⟨by rfl, fun W hW => by clear hW; go_simp⟩) H2_.out ?_
        try simp only [Act.put, List.getElem_toArray, List.getElem_cons_succ, List.getElem_cons_zero, List.setIfInBounds_toArray, List.set_cons_zero, List.set_cons_succ]
        refine wpAnyH_take (i := 9) (v := .int .i64 0) rfl (by kernel_rfl) (by kernel_rfl) (by kernel_rfl) (fun _ _ _ h => h) (Or.inl ⟨by rfl, fun W hW => by clear hW; go_simp⟩) H2_.out ?_
        try simp only [Act.put, List.getElem_toArray, List.getElem_cons_succ, List.getElem_cons_zero, List.setIfInBounds_toArray, List.set_cons_zero, List.set_cons_succ]
        refine wpAnyH_take (i := 10) (v := .int .u64 (q : Int)) rfl (by kernel_rfl) (by kernel_rfl) (by kernel_rfl) (fun _ _ _ h => h) (Or.inl ⟨by rfl, fun W hW => by clear hW; go_simp⟩) H2_.out ?_
        try simp only [Act.put, List.getElem_toArray, List.getElem_cons_succ, List.getElem_cons_zero, List.setIfInBounds_toArray, List.set_cons_zero, List.set_cons_succ]
        refine wpAnyH_take (i := 11) (v := .int .i64 0) rfl (by kernel_rfl) (by kernel_rfl) (by kernel_rfl) (fun _ _ _ h => h) (Or.inl ⟨by rfl, fun W hW => by clear hW; go_simp⟩) H2_.out ?_
        try simp only [Act.put, List.getElem_toArray, List.getElem_cons_succ, List.getElem_cons_zero, List.setIfInBounds_toArray, List.set_cons_zero, List.set_cons_succ]
        refine wpAnyH_done (by kernel_rfl) ?_ _

        clear p5
        have d1 := H2_.out.cell 3 rfl 1 (.slice (some ⟨g1, 0, none⟩) n n) rfl
        have hm : Hid (j < (iarr (cnP xs m n j)).size) := by rw [iarr_size, cnP_len xs m n j (by omega)]; exact hlt
        go_wp2_with (refine wpList_cell_st H2_.out 4 rfl 3 _ _ rfl rfl j (.int .i64 (q : Int)) rfl rfl hm.out rfl rfl sz3 ?_; intro W9 h9 _)
        go_roundw
        case rel =>
          refine ⟨j + 1, by omega, by go_num, ?_⟩
          rw [iarr_set, ST.out] at h9
          exact h9
        case measure => simp [intOf]; omega
      · obtain rfl : j = n := by omega
        go_wp2_with (first
          | (refine wpList_load_st h6 3 rfl 31 _ _ rfl rfl rfl Try.underlying31 rfl sz31 ?_)
          | (refine wpList_store_st h6 2 rfl 31 _ _ rfl rfl rfl rfl sz31 rfl (cell2 _ _ _ _) ?_; clear h6; intro W8 h8 _))
        refine bodyPost_ret (results_cell_tmp Try.results12 _ _ _ rfl _ ((h8.get 2 rfl).loadV 31 _ Try.underlying31 rfl sz31)) rfl ?_
        have e : cnP xs m j j = cnL xs m j := by unfold cnP; simp
        have A8 := h8.get 4 rfl
        rw [e] at A8
        exact ⟨_, _, rfl, A8.irow (cnL_i64 xs m j hm8) j (cnL_len xs m j) (by omega), h8.bel⟩
end Go.Proofs.Ytcepncdolbfcfaa
