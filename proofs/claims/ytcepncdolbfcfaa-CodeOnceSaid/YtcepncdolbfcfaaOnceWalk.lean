/- The law that counters have their bytes once. No statement is proved here. -/
import Derived.Test.YtcepncdolbfcfaaCodePlain
namespace Go.Proofs.Ytcepncdolbfcfaa
open Go.RowKit
set_option linter.unusedVariables false
set_option linter.unusedSimpArgs false
attribute [local irreducible] arrV shaped Ls right putN iarr cb fitP

set_option maxHeartbeats 4000000 in
set_option maxRecDepth 20000 in
theorem once_any (p : Pl) (M N n1 n2 c1 c2 : Nat) (A1 A2 : Option Addr) (ms ns : List Int) (w : World) (hr1 : IRow w w.heap.size A1 n1 c1 ms) (hr2 : IRow w w.heap.size A2 n2 c2 ns) :
    Calls Try.prog 8 #[.agg p.arr, .agg #[.int .u64 M, .slice A1 n1 c1], .agg #[.int .u64 N, .slice A2 n2 c2]] w fun e w' => e = .returned (.bool true) ∧ Below w.heap.size w w' := by
  have SK := Lib.hid (fun W => speaks_true W)
  have SP := Lib.hid (show (Try.prog.info? 28).map (·.size) = some p.arr.size by rw [p.arr_size]; exact sz28)
  have h0 := St.nil w
  have R1 := Lib.hid hr1
  have R2 := Lib.hid hr2
  have mx1 := hr1.max
  have mx2 := hr2.max
  have hl1 := hr1.len
  have hl2 := hr2.len
  clear hr1 hr2
  by_cases h1 : 60 < n1
  · go_enter Try.func8, Try.ntmps8
    go_wp2_with (first
      | (refine wpList_box_st h0 28 _ rfl rfl p.arr rfl ?_; clear h0; intro W1 h1 _ _)
      | (refine wpList_box_st h1 31 _ rfl rfl #[.int .u64 (M : Int), .slice A1 n1 c1] rfl ?_; clear h1; intro W2 h2 _ _)
      | (refine wpList_box_st h2 31 _ rfl rfl #[.int .u64 (N : Int), .slice A2 n2 c2] rfl ?_; clear h2; intro W3 h3 _ _)
      | (go_at_call 9; refine (SK.out _).mono ?_; rintro e W4 ⟨rfl, hb⟩; have h4 := h3.call hb; clear h3 hb; have d1 := h4.cell 1 rfl 1 (.slice A1 n1 c1) rfl; have d2 := h4.cell 2 rfl 1 (.slice A2 n2 c2) rfl)
      | (refine wpList_load_st h4 0 rfl 28 _ _ rfl rfl rfl Try.underlying28 rfl SP.out ?_)
      | (refine wpList_load_st h4 1 rfl 31 _ _ rfl rfl rfl Try.underlying31 rfl sz31 ?_)
      | (refine wpList_load_st h4 2 rfl 31 _ _ rfl rfl rfl Try.underlying31 rfl sz31 ?_)
      | (go_at_call 11; have _ := h4; refine (WA.out _ ((R1.out.below h4.bel).wider h4.bel.size)).mono ?_; rintro e W5 ⟨rfl, hb⟩; have h5 := h4.call hb; clear h4 hb d1 d2)
      | (refine wpList_load_st h5 0 rfl 28 _ _ rfl rfl rfl Try.underlying28 rfl SP.out ?_)
      | (refine wpList_load_st h5 2 rfl 31 _ _ rfl rfl rfl Try.underlying31 rfl sz31 ?_)
      | (go_at_call 11; have _ := h5; refine (WB.out _ ((R2.out.below h5.bel).wider h5.bel.size)).mono ?_; rintro e W6 ⟨rfl, hb⟩; have h6 := h5.call hb; clear h5 hb))
    go_ret
    exact ⟨rfl, h4.bel⟩
  by_cases h2 : 60 < n2
  · go_enter Try.func8, Try.ntmps8
    go_wp2_with (first
      | (refine wpList_box_st h0 28 _ rfl rfl p.arr rfl ?_; clear h0; intro W1 h1 _ _)
      | (refine wpList_box_st h1 31 _ rfl rfl #[.int .u64 (M : Int), .slice A1 n1 c1] rfl ?_; clear h1; intro W2 h2 _ _)
      | (refine wpList_box_st h2 31 _ rfl rfl #[.int .u64 (N : Int), .slice A2 n2 c2] rfl ?_; clear h2; intro W3 h3 _ _)
      | (go_at_call 9; refine (SK.out _).mono ?_; rintro e W4 ⟨rfl, hb⟩; have h4 := h3.call hb; clear h3 hb; have d1 := h4.cell 1 rfl 1 (.slice A1 n1 c1) rfl; have d2 := h4.cell 2 rfl 1 (.slice A2 n2 c2) rfl)
      | (refine wpList_load_st h4 0 rfl 28 _ _ rfl rfl rfl Try.underlying28 rfl SP.out ?_)
      | (refine wpList_load_st h4 1 rfl 31 _ _ rfl rfl rfl Try.underlying31 rfl sz31 ?_)
      | (refine wpList_load_st h4 2 rfl 31 _ _ rfl rfl rfl Try.underlying31 rfl sz31 ?_)
      | (go_at_call 11; have _ := h4; refine (WA.out _ ((R1.out.below h4.bel).wider h4.bel.size)).mono ?_; rintro e W5 ⟨rfl, hb⟩; have h5 := h4.call hb; clear h4 hb d1 d2)
      | (refine wpList_load_st h5 0 rfl 28 _ _ rfl rfl rfl Try.underlying28 rfl SP.out ?_)
      | (refine wpList_load_st h5 2 rfl 31 _ _ rfl rfl rfl Try.underlying31 rfl sz31 ?_)
      | (go_at_call 11; have _ := h5; refine (WB.out _ ((R2.out.below h5.bel).wider h5.bel.size)).mono ?_; rintro e W6 ⟨rfl, hb⟩; have h6 := h5.call hb; clear h5 hb))
    go_ret
    exact ⟨rfl, h4.bel⟩
  have gn1 : decide ((60 : Int) < (n1 : Int)) = false := by simp; omega
  have gn2 : decide ((60 : Int) < (n2 : Int)) = false := by simp; omega
  have WA := Lib.hid (fun W h => refWrong_any p M A1 n1 c1 ms W h (by omega))
  have WB := Lib.hid (fun W h => refWrong_any p N A2 n2 c2 ns W h (by omega))
  by_cases e1 : wrg p M ms = 0
  · by_cases e2 : wrg p N ns = 0
    · obtain ⟨n, m, hg1, hp3, hp5, -, -, -⟩ := wrg_good e1
      obtain ⟨n', m', hg2, hq3, hq5, -, -, -⟩ := wrg_good e2
      obtain rfl : n = n' := by omega
      obtain rfl : m = m' := by omega
      have en := hg1.len
      obtain rfl : n1 = n := by omega
      obtain rfl : n1 = n2 := by have := hg2.len; omega
      have CA := Lib.hid (fun W h => counters_yes p M n1 m c1 A1 ms W h hg1 hp3 hp5 e1)
      have CB := Lib.hid (fun W h => counters_yes p N n1 m c2 A2 ns W h hg2 hp3 hp5 e2)
      rw [e1] at WA
      rw [e2] at WB
      have q1 := fun W => eql_line (cb M ms m n1) (cb N ns m n1) (cb_line _ _ _ _) (cb_line _ _ _ _) W
      have SM := Lib.hid (fun W h1 h2 => refSame_any M N n1 n1 c1 c2 A1 A2 ms ns W h1 h2)
      have DE : decide (cb M ms m n1 = cb N ns m n1) = decide (M = N ∧ ms = ns) := by
        rw [Bool.eq_iff_iff, decide_eq_true_eq, decide_eq_true_eq]; exact cb_inj hg1 hg2
      rw [DE] at q1
      have lx := cb_len M ms m n1
      have ly := cb_len N ns m n1
      generalize cb M ms m n1 = xs at *
      generalize cb N ns m n1 = ys at *
      generalize decide (M = N ∧ ms = ns) = d at *
      have SX := Lib.hid (sz33 lx)
      have SY := Lib.hid (sz33 ly)
      have SXz : Hid ((arrV xs).size = (arrV zeros).size) := by rw [arrV_size, arrV_size, lx]; exact rfl
      have SYz : Hid ((arrV ys).size = (arrV zeros).size) := by rw [arrV_size, arrV_size, ly]; exact rfl
      have SXa := Lib.hid (arrV_all xs)
      have SYa := Lib.hid (arrV_all ys)
      have dd : (d == d) = true := by simp
      clear e1 e2 hg1 hg2 hp3 hp5 hq3 hq5 DE lx ly
      go_enter Try.func8, Try.ntmps8
      go_wp2_with (first
        | (refine wpList_box_st h0 28 _ rfl rfl p.arr rfl ?_; clear h0; intro W1 h1 _ _)
        | (refine wpList_box_st h1 31 _ rfl rfl #[.int .u64 (M : Int), .slice A1 n1 c1] rfl ?_; clear h1; intro W2 h2 _ _)
        | (refine wpList_box_st h2 31 _ rfl rfl #[.int .u64 (N : Int), .slice A2 n1 c2] rfl ?_; clear h2; intro W3 h3 _ _)
        | (go_at_call 9; refine (SK.out _).mono ?_; rintro e W4 ⟨rfl, hb⟩; have h4 := h3.call hb; clear h3 hb; have d1 := h4.cell 1 rfl 1 (.slice A1 n1 c1) rfl; have d2 := h4.cell 2 rfl 1 (.slice A2 n1 c2) rfl)
        | (refine wpList_load_st h4 0 rfl 28 _ _ rfl rfl rfl Try.underlying28 rfl SP.out ?_)
        | (refine wpList_load_st h4 1 rfl 31 _ _ rfl rfl rfl Try.underlying31 rfl sz31 ?_)
        | (refine wpList_load_st h4 2 rfl 31 _ _ rfl rfl rfl Try.underlying31 rfl sz31 ?_)
        | (go_at_call 11; have _ := h4; refine (WA.out _ ((R1.out.below h4.bel).wider h4.bel.size)).mono ?_; rintro e W5 ⟨rfl, hb⟩; have h5 := h4.call hb; clear h4 hb d1 d2)
        | (refine wpList_load_st h5 0 rfl 28 _ _ rfl rfl rfl Try.underlying28 rfl SP.out ?_)
        | (refine wpList_load_st h5 2 rfl 31 _ _ rfl rfl rfl Try.underlying31 rfl sz31 ?_)
        | (go_at_call 11; have _ := h5; refine (WB.out _ ((R2.out.below h5.bel).wider h5.bel.size)).mono ?_; rintro e W6 ⟨rfl, hb⟩; have h6 := h5.call hb; clear h5 hb)
        | (refine wpList_load_st h6 0 rfl 28 _ _ rfl rfl rfl Try.underlying28 rfl SP.out ?_)
        | (refine wpList_load_st h6 1 rfl 31 _ _ rfl rfl rfl Try.underlying31 rfl sz31 ?_)
        | (go_at_call 10; have _ := h6; refine (CA.out _ ((R1.out.below h6.bel).wider h6.bel.size)).mono ?_; rintro e W7 ⟨rfl, hb⟩; have h7 := h6.call hb; clear h6 hb)
        | (refine wpList_alloc_st h7 33 rfl rfl _ (arrV zeros) zv33 rfl ?_; clear h7; intro W8 h8 _ _)
        | (refine wpList_store_st h8 3 rfl 33 _ _ rfl rfl rfl rfl SX.out SXz.out SXa.out ?_; clear h8; intro W9 h9 _)
        | (refine wpList_load_st h9 0 rfl 28 _ _ rfl rfl rfl Try.underlying28 rfl SP.out ?_)
        | (refine wpList_load_st h9 2 rfl 31 _ _ rfl rfl rfl Try.underlying31 rfl sz31 ?_)
        | (go_at_call 10; have _ := h9; refine (CB.out _ ((R2.out.below h9.bel).wider h9.bel.size)).mono ?_; rintro e W10 ⟨rfl, hb⟩; have h10 := h9.call hb; clear h9 hb)
        | (refine wpList_alloc_st h10 33 rfl rfl _ (arrV zeros) zv33 rfl ?_; clear h10; intro W11 h11 _ _)
        | (refine wpList_store_st h11 4 rfl 33 _ _ rfl rfl rfl rfl SY.out SYz.out SYa.out ?_; clear h11; intro W12 h12 _))
      have H0 := Lib.hid h12.drew
      refine wp_region_held_drew (S := fun W => St w W [(w.heap.size, 28, p.arr), (W1.heap.size, 31, #[.int .u64 (M : Int), .slice A1 n1 c1]), (W2.heap.size, 31, #[.int .u64 (N : Int), .slice A2 n1 c2]), (W7.heap.size, 33, arrV xs), (W10.heap.size, 33, arrV ys)]) (by kernel_rfl) H0.out (fun _ => ?_)
      generalize W12.drew = V0 at *
      generalize W7.heap.size = g1 at *
      generalize W10.heap.size = g2 at *
      clear h12
      refine wpAnyH_take (i := 0) (v := .int .i64 0) rfl (by kernel_rfl) (by kernel_rfl) (by kernel_rfl) (fun _ _ _ h => h) (Or.inl ⟨by rfl, fun W hW => by clear hW; go_simp⟩) H0.out ?_
      try simp only [Act.put, List.getElem_toArray, List.getElem_cons_succ, List.getElem_cons_zero, List.setIfInBounds_toArray, List.set_cons_zero, List.set_cons_succ]
      refine wpAnyH_take (i := 1) (v := .bool true) rfl (by kernel_rfl) (by kernel_rfl) (by kernel_rfl) (fun _ _ _ h => h) (Or.inl ⟨by rfl, fun W hW => by clear hW; go_simp⟩) H0.out ?_
      try simp only [Act.put, List.getElem_toArray, List.getElem_cons_succ, List.getElem_cons_zero, List.setIfInBounds_toArray, List.set_cons_zero, List.set_cons_succ]
      refine wpAnyH_take (i := 2) (v := .bool true) rfl (by kernel_rfl) (by kernel_rfl) (by kernel_rfl) (fun _ _ _ h => h) (Or.inl ⟨by rfl, fun W hW => by clear hW; go_simp⟩) H0.out ?_
      try simp only [Act.put, List.getElem_toArray, List.getElem_cons_succ, List.getElem_cons_zero, List.setIfInBounds_toArray, List.set_cons_zero, List.set_cons_succ]
      refine wpAnyH_take (i := 3) (v := .int .i64 0) rfl (by kernel_rfl) (by kernel_rfl) (by kernel_rfl) (fun _ _ _ h => h) (Or.inl ⟨by rfl, fun W hW => by clear hW; go_simp⟩) H0.out ?_
      try simp only [Act.put, List.getElem_toArray, List.getElem_cons_succ, List.getElem_cons_zero, List.setIfInBounds_toArray, List.set_cons_zero, List.set_cons_succ]
      refine wpAnyH_take (i := 4) (v := .bool true) rfl (by kernel_rfl) (by kernel_rfl) (by kernel_rfl) (fun _ _ _ h => h) (Or.inl ⟨by rfl, fun W hW => by clear hW; go_simp⟩) H0.out ?_
      try simp only [Act.put, List.getElem_toArray, List.getElem_cons_succ, List.getElem_cons_zero, List.setIfInBounds_toArray, List.set_cons_zero, List.set_cons_succ]
      refine wpAnyH_take (i := 5) (v := .bool true) rfl (by kernel_rfl) (by kernel_rfl) (by kernel_rfl) (fun _ _ _ h => h) (Or.inl ⟨by rfl, fun W hW => by clear hW; go_simp⟩) H0.out ?_
      try simp only [Act.put, List.getElem_toArray, List.getElem_cons_succ, List.getElem_cons_zero, List.setIfInBounds_toArray, List.set_cons_zero, List.set_cons_succ]
      refine wpAnyH_take (i := 6) (v := .bool true) rfl (by kernel_rfl) (by kernel_rfl) (by kernel_rfl) (fun _ _ _ h => h) (Or.inl ⟨by rfl, fun W hW => by clear hW; go_simp⟩) H0.out ?_
      try simp only [Act.put, List.getElem_toArray, List.getElem_cons_succ, List.getElem_cons_zero, List.setIfInBounds_toArray, List.set_cons_zero, List.set_cons_succ]
      refine wpAnyH_take (i := 7) (v := .agg (arrV xs)) rfl (by kernel_rfl) (by kernel_rfl) (by kernel_rfl) (fun _ _ _ h => h) (yields_at 33 _ _ rfl (by rfl) rfl Try.underlying33 rfl SX.out (fun W hW => hW.get 3 rfl)) H0.out ?_
      try simp only [Act.put, List.getElem_toArray, List.getElem_cons_succ, List.getElem_cons_zero, List.setIfInBounds_toArray, List.set_cons_zero, List.set_cons_succ]
      refine wpAnyH_take (i := 8) (v := .agg (arrV ys)) rfl (by kernel_rfl) (by kernel_rfl) (by kernel_rfl) (fun _ _ _ h => h) (yields_at 33 _ _ rfl (by rfl) rfl Try.underlying33 rfl SY.out (fun W hW => hW.get 4 rfl)) H0.out ?_
      try simp only [Act.put, List.getElem_toArray, List.getElem_cons_succ, List.getElem_cons_zero, List.setIfInBounds_toArray, List.set_cons_zero, List.set_cons_succ]
      refine wpAnyH_take (i := 9) (v := .bool d) rfl (by kernel_rfl) (by kernel_rfl) (by kernel_rfl) (fun _ _ _ h => h) (Or.inl ⟨by rfl, fun W hW => by clear hW; go_simp⟩) H0.out ?_
      try simp only [Act.put, List.getElem_toArray, List.getElem_cons_succ, List.getElem_cons_zero, List.setIfInBounds_toArray, List.set_cons_zero, List.set_cons_succ]
      refine wpAnyH_take (i := 10) (v := .agg #[.int .u64 (M : Int), .slice A1 n1 c1]) rfl (by kernel_rfl) (by kernel_rfl) (by kernel_rfl) (fun _ _ _ h => h) (yields_at 31 _ _ rfl (by rfl) rfl Try.underlying31 rfl sz31 (fun W hW => hW.get 1 rfl)) H0.out ?_
      try simp only [Act.put, List.getElem_toArray, List.getElem_cons_succ, List.getElem_cons_zero, List.setIfInBounds_toArray, List.set_cons_zero, List.set_cons_succ]
      refine wpAnyH_take (i := 11) (v := .agg #[.int .u64 (N : Int), .slice A2 n1 c2]) rfl (by kernel_rfl) (by kernel_rfl) (by kernel_rfl) (fun _ _ _ h => h) (yields_at 31 _ _ rfl (by rfl) rfl Try.underlying31 rfl sz31 (fun W hW => hW.get 2 rfl)) H0.out ?_
      try simp only [Act.put, List.getElem_toArray, List.getElem_cons_succ, List.getElem_cons_zero, List.setIfInBounds_toArray, List.set_cons_zero, List.set_cons_succ]
      refine wpAnyH_ready (rs := [12]) (by kernel_rfl) (by simp) ?_
      refine AllReadyH.cons rfl (fun K hK => ?_) AllReadyH.nil
      go_simp
      go_at_call 13
      refine (SM.out _ ((R1.out.below H0.out.bel).wider H0.out.bel.size) ((R2.out.below H0.out.bel).wider H0.out.bel.size)).mono ?_
      rintro e V1_ ⟨rfl, hb1_⟩
      have H1_ := Lib.hid (H0.out.call hb1_)
      clear hb1_
      refine hK.out _ _ H1_.out (fun _ => ?_)
      clear hK K
      try simp only [Act.put, List.getElem_toArray, List.getElem_cons_succ, List.getElem_cons_zero, List.setIfInBounds_toArray, List.set_cons_zero, List.set_cons_succ]
      refine wpAnyH_take (i := 13) (v := .bool true) rfl (by kernel_rfl) (by kernel_rfl) (by kernel_rfl) (fun _ _ _ h => h) (Or.inl ⟨by rfl, fun W hW => by clear hW; go_simp⟩) H1_.out ?_
      try simp only [Act.put, List.getElem_toArray, List.getElem_cons_succ, List.getElem_cons_zero, List.setIfInBounds_toArray, List.set_cons_zero, List.set_cons_succ]
      refine wpAnyH_take (i := 14) (v := .bool true) rfl (by kernel_rfl) (by kernel_rfl) (by kernel_rfl) (fun _ _ _ h => h) (Or.inl ⟨by rfl, fun W hW => by clear hW; go_simp⟩) H1_.out ?_
      try simp only [Act.put, List.getElem_toArray, List.getElem_cons_succ, List.getElem_cons_zero, List.setIfInBounds_toArray, List.set_cons_zero, List.set_cons_succ]
      refine wpAnyH_take (i := 15) (v := .bool true) rfl (by kernel_rfl) (by kernel_rfl) (by kernel_rfl) (fun _ _ _ h => h) (Or.inl ⟨by rfl, fun W hW => by clear hW; go_simp⟩) H1_.out ?_
      try simp only [Act.put, List.getElem_toArray, List.getElem_cons_succ, List.getElem_cons_zero, List.setIfInBounds_toArray, List.set_cons_zero, List.set_cons_succ]
      refine wpAnyH_done (by kernel_rfl) ?_ _
      clear q1
      go_wp2
      go_ret
      exact ⟨rfl, H1_.out.bel⟩
    · rw [e1] at WA
      generalize wrg p N ns = k at *
      have g1 : (k == 0) = false := by simpa using e2
      have g2 : (k != 0) = true := by simpa using e2
      go_enter Try.func8, Try.ntmps8
      go_wp2_with (first
        | (refine wpList_box_st h0 28 _ rfl rfl p.arr rfl ?_; clear h0; intro W1 h1 _ _)
        | (refine wpList_box_st h1 31 _ rfl rfl #[.int .u64 (M : Int), .slice A1 n1 c1] rfl ?_; clear h1; intro W2 h2 _ _)
        | (refine wpList_box_st h2 31 _ rfl rfl #[.int .u64 (N : Int), .slice A2 n2 c2] rfl ?_; clear h2; intro W3 h3 _ _)
        | (go_at_call 9; refine (SK.out _).mono ?_; rintro e W4 ⟨rfl, hb⟩; have h4 := h3.call hb; clear h3 hb; have d1 := h4.cell 1 rfl 1 (.slice A1 n1 c1) rfl; have d2 := h4.cell 2 rfl 1 (.slice A2 n2 c2) rfl)
        | (refine wpList_load_st h4 0 rfl 28 _ _ rfl rfl rfl Try.underlying28 rfl SP.out ?_)
        | (refine wpList_load_st h4 1 rfl 31 _ _ rfl rfl rfl Try.underlying31 rfl sz31 ?_)
        | (refine wpList_load_st h4 2 rfl 31 _ _ rfl rfl rfl Try.underlying31 rfl sz31 ?_)
        | (go_at_call 11; have _ := h4; refine (WA.out _ ((R1.out.below h4.bel).wider h4.bel.size)).mono ?_; rintro e W5 ⟨rfl, hb⟩; have h5 := h4.call hb; clear h4 hb d1 d2)
        | (refine wpList_load_st h5 0 rfl 28 _ _ rfl rfl rfl Try.underlying28 rfl SP.out ?_)
        | (refine wpList_load_st h5 2 rfl 31 _ _ rfl rfl rfl Try.underlying31 rfl sz31 ?_)
        | (go_at_call 11; have _ := h5; refine (WB.out _ ((R2.out.below h5.bel).wider h5.bel.size)).mono ?_; rintro e W6 ⟨rfl, hb⟩; have h6 := h5.call hb; clear h5 hb))
      go_ret
      exact ⟨rfl, h6.bel⟩
  · generalize wrg p M ms = k at *
    have g1 : (k == 0) = false := by simpa using e1
    have g2 : (k != 0) = true := by simpa using e1
    go_enter Try.func8, Try.ntmps8
    go_wp2_with (first
      | (refine wpList_box_st h0 28 _ rfl rfl p.arr rfl ?_; clear h0; intro W1 h1 _ _)
      | (refine wpList_box_st h1 31 _ rfl rfl #[.int .u64 (M : Int), .slice A1 n1 c1] rfl ?_; clear h1; intro W2 h2 _ _)
      | (refine wpList_box_st h2 31 _ rfl rfl #[.int .u64 (N : Int), .slice A2 n2 c2] rfl ?_; clear h2; intro W3 h3 _ _)
      | (go_at_call 9; refine (SK.out _).mono ?_; rintro e W4 ⟨rfl, hb⟩; have h4 := h3.call hb; clear h3 hb; have d1 := h4.cell 1 rfl 1 (.slice A1 n1 c1) rfl; have d2 := h4.cell 2 rfl 1 (.slice A2 n2 c2) rfl)
      | (refine wpList_load_st h4 0 rfl 28 _ _ rfl rfl rfl Try.underlying28 rfl SP.out ?_)
      | (refine wpList_load_st h4 1 rfl 31 _ _ rfl rfl rfl Try.underlying31 rfl sz31 ?_)
      | (refine wpList_load_st h4 2 rfl 31 _ _ rfl rfl rfl Try.underlying31 rfl sz31 ?_)
      | (go_at_call 11; have _ := h4; refine (WA.out _ ((R1.out.below h4.bel).wider h4.bel.size)).mono ?_; rintro e W5 ⟨rfl, hb⟩; have h5 := h4.call hb; clear h4 hb d1 d2)
      | (refine wpList_load_st h5 0 rfl 28 _ _ rfl rfl rfl Try.underlying28 rfl SP.out ?_)
      | (refine wpList_load_st h5 2 rfl 31 _ _ rfl rfl rfl Try.underlying31 rfl sz31 ?_)
      | (go_at_call 11; have _ := h5; refine (WB.out _ ((R2.out.below h5.bel).wider h5.bel.size)).mono ?_; rintro e W6 ⟨rfl, hb⟩; have h6 := h5.call hb; clear h5 hb))
    go_ret
    exact ⟨rfl, h5.bel⟩
end Go.Proofs.Ytcepncdolbfcfaa
