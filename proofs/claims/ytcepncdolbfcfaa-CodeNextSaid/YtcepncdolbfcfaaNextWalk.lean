/- The law of the counters behind a write. No statement is proved here. -/
import Derived.Test.YtcepncdolbfcfaaCodePlain
namespace Go.Proofs.Ytcepncdolbfcfaa
open Go.RowKit
set_option linter.unusedVariables false
set_option linter.unusedSimpArgs false
attribute [local irreducible] arrV shaped Ls right putN iarr cb fitP

theorem nxt_cases (p : Pl) (M : Nat) (ms : List Int) (s : Int) : (∃ k, k ≠ 0 ∧ nxt p M ms s = ⟨0, [], false, k⟩) ∨ (∃ j : Nat, s = (j : Int) ∧ j < ms.length ∧ ms.getD j 0 < 1000 ∧ 0 ≤ ms.getD j 0 ∧ nxt p M ms s = ⟨M, ms.set j (ms.getD j 0 + 1), false, 0⟩) ∨ (nxt p M ms s = ⟨M + 1, List.replicate ms.length 0, true, 0⟩) := by
  by_cases hw : wrg p M ms = 0
  · obtain ⟨n, m, hg, hp3, hp5, hpr, hM, hn1⟩ := wrg_good hw
    by_cases hs : s < 0 ∨ p.li ≤ s
    · exact .inl ⟨2, by omega, by unfold nxt; rw [if_neg (by rw [hw]; simp), if_pos hs]⟩
    · obtain ⟨j, rfl⟩ : ∃ k : Nat, s = (k : Int) := ⟨s.toNat, by omega⟩
      by_cases hx : ms.getD j 0 < mst p.mi.toNat
      · refine .inr (.inl ⟨j, rfl, by have := hg.len; omega, ?_, (hg.mn j (by omega)).1, ?_⟩)
        · have h1 := (hg.mn j (by omega)).2
          have h2 := (mst_bd m hg.m8).2
          omega
        · unfold nxt; rw [if_neg (by rw [hw]; simp), if_neg hs, Int.toNat_natCast, if_pos hx]
      · by_cases hm : (M : Int) = p.ma
        · exact .inl ⟨21, by omega, by unfold nxt; rw [if_neg (by rw [hw]; simp), if_neg hs, Int.toNat_natCast, if_neg hx, if_pos hm]⟩
        · exact .inr (.inr (by unfold nxt; rw [if_neg (by rw [hw]; simp), if_neg hs, Int.toNat_natCast, if_neg hx, if_neg hm]))
  · exact .inl ⟨wrg p M ms, hw, by unfold nxt; rw [if_pos hw]⟩
set_option maxHeartbeats 4000000 in
set_option maxRecDepth 20000 in
theorem nextLaw_any (p : Pl) (M n c : Nat) (A : Option Addr) (ms : List Int) (s : Int) (w : World) (hr : IRow w w.heap.size A n c ms) :
    Calls Try.prog 6 #[.agg p.arr, .agg #[.int .u64 M, .slice A n c], .int .i64 s] w fun e w' => e = .returned (.bool true) ∧ Below w.heap.size w w' := by
  have SK := Lib.hid (fun W => speaks_true W)
  have SP := Lib.hid (show (Try.prog.info? 28).map (·.size) = some p.arr.size by rw [p.arr_size]; exact sz28)
  have h0 := St.nil w
  have mx := hr.max
  have hl := hr.len
  have HR := Lib.hid hr
  clear hr
  by_cases h1 : 60 < n
  · go_enter Try.func6, Try.ntmps6
    go_wp2_with (first
      | (refine wpList_box_st h0 28 _ rfl rfl p.arr rfl ?_; clear h0; intro W1 h1 _ _)
      | (refine wpList_box_st h1 31 _ rfl rfl #[.int .u64 (M : Int), .slice A n c] rfl ?_; clear h1; intro W2 h2 _ _)
      | (go_at_call 9; refine (SK.out _).mono ?_; rintro e W3 ⟨rfl, hb⟩; have h3 := h2.call hb; clear h2 hb; have d1 := h3.cell 1 rfl 1 (.slice A n c) rfl))
    go_ret
    exact ⟨rfl, h3.bel⟩
  rcases nxt_cases p M ms s with ⟨k, hk, E⟩ | ⟨s, rfl, hs, hx0, hx1, E⟩ | E
  · have g1 : (k == 0) = false := by simpa using hk
    have g2 : (k != 0) = true := by simpa using hk
    have g3 : (k == k) = true := by simp
    have SM : Hid (∀ A1 A2 c1 c2 W, IRow W W.heap.size A1 0 c1 ([]) → IRow W W.heap.size A2 0 c2 ([]) → Calls Try.prog 13 #[.agg #[.int .u64 0, .slice A1 0 c1], .agg #[.int .u64 0, .slice A2 0 c2]] W fun e w' => e = .returned (.bool true) ∧ Below W.heap.size W w') := fun A1 A2 c1 c2 W h1 h2 => by
      have := refSame_any 0 0 0 0 c1 c2 A1 A2 ([]) ([]) W h1 h2
      rw [decide_eq_true ⟨rfl, rfl⟩] at this
      exact this
    have NX : Hid (∀ W, IRow W W.heap.size A n c ms → Calls Try.prog 25 #[.agg p.arr, .agg #[.int .u64 M, .slice A n c], .int .i64 s] W (Gives1 W 0 ([]) 0 false k)) := fun W h => by
      have := next_any p M A n c ms s W h (by omega)
      rw [E] at this
      exact this
    have RN : Hid (∀ W, IRow W W.heap.size A n c ms → Calls Try.prog 26 #[.agg p.arr, .agg #[.int .u64 M, .slice A n c], .int .i64 s] W (Gives1 W 0 ([]) 0 false k)) := fun W h => by
      have := refNext_any p M A n c ms s W h (by omega)
      rw [E] at this
      exact this
    clear E hk
    go_enter Try.func6, Try.ntmps6
    go_wp2_with (first
      | (refine wpList_box_st h0 28 _ rfl rfl p.arr rfl ?_; clear h0; intro W1 h1 _ _)
      | (refine wpList_box_st h1 31 _ rfl rfl #[.int .u64 (M : Int), .slice A n c] rfl ?_; clear h1; intro W2 h2 _ _)
      | (go_at_call 9; refine (SK.out _).mono ?_; rintro e W3 ⟨rfl, hb⟩; have h3 := h2.call hb; clear h2 hb; have d1 := h3.cell 1 rfl 1 (.slice A n c) rfl)
      | (refine wpList_load_st h3 0 rfl 28 _ _ rfl rfl rfl Try.underlying28 rfl SP.out ?_)
      | (refine wpList_load_st h3 1 rfl 31 _ _ rfl rfl rfl Try.underlying31 rfl sz31 ?_)
      | (go_at_call 25; refine (NX.out _ ((HR.out.below h3.bel).wider h3.bel.size)).mono ?_; rintro e W4 ⟨A4, c4, rfl, hr4, hb⟩; have h4 := h3.call hb; clear h3 hb d1)
      | (refine wpList_alloc_st h4 31 rfl rfl _ #[.int .u64 0, .slice none 0 0] zv31 rfl ?_; clear h4; intro W5 h5 _ b5; have hr5 := hr4.below b5; have z5 := b5.size; clear hr4 b5)
      | (refine wpList_store_st h5 2 rfl 31 _ _ rfl rfl rfl rfl sz31 rfl (cell2 _ _ _ _) ?_; intro W6 h6 hg6; have hr6 := (hr5.beside hg6 z5).wider (Nat.le_trans z5 hg6.size); clear h5 hr5 hg6 z5)
      | (refine wpList_load_st h6 0 rfl 28 _ _ rfl rfl rfl Try.underlying28 rfl SP.out ?_)
      | (refine wpList_load_st h6 1 rfl 31 _ _ rfl rfl rfl Try.underlying31 rfl sz31 ?_)
      | (go_at_call 26; refine (RN.out _ ((HR.out.below h6.bel).wider h6.bel.size)).mono ?_; rintro e W7 ⟨A7, c7, rfl, hr7, hb⟩; have h7 := h6.call hb; have hs7 := (hr6.below hb).wider hb.size; clear h6 hb hr6)
      | (refine wpList_alloc_st h7 31 rfl rfl _ #[.int .u64 0, .slice none 0 0] zv31 rfl ?_; clear h7; intro W8 h8 _ b8; have hr8 := hr7.below b8; have hs8 := hs7.below b8; have z8 := b8.size; clear hr7 hs7 b8)
      | (refine wpList_store_st h8 3 rfl 31 _ _ rfl rfl rfl rfl sz31 rfl (cell2 _ _ _ _) ?_; intro W9 h9 hg9; have hr9 := (hr8.beside hg9 z8).wider (Nat.le_trans z8 hg9.size); have hs9 := (hs8.beside hg9 z8).wider (Nat.le_trans z8 hg9.size); clear h8 hr8 hs8 hg9 z8)
      | (refine wpList_load_st h9 2 rfl 31 _ _ rfl rfl rfl Try.underlying31 rfl sz31 ?_)
      | (refine wpList_load_st h9 3 rfl 31 _ _ rfl rfl rfl Try.underlying31 rfl sz31 ?_)
      | (go_at_call 13; refine (SM.out _ _ _ _ _ hs9 hr9).mono ?_; rintro e W10 ⟨rfl, hb⟩; have h10 := h9.call hb; have hs10 := (hs9.below hb).wider hb.size; clear h9 hb hr9 hs9))
    have H0 := Lib.hid h10.drew
    refine wp_region_held_drew (S := fun W => St w W [(w.heap.size, 28, p.arr), (W1.heap.size, 31, #[.int .u64 (M : Int), .slice A n c])]) (by kernel_rfl) (H0.out.sub (by exact List.sublist_append_left _ _)) (fun _ => ?_)
    generalize W10.drew = V0 at *
    replace H0 := Lib.hid (show St w V0 [(w.heap.size, 28, p.arr), (W1.heap.size, 31, #[.int .u64 (M : Int), .slice A n c])] from H0.out.sub (by exact List.sublist_append_left _ _))
    generalize W4.heap.size = g1 at *
    clear h10
    refine wpAnyH_take (i := 0) (v := .int .i64 k) rfl (by kernel_rfl) (by kernel_rfl) (by kernel_rfl) (fun _ _ _ h => h) (Or.inl ⟨by rfl, fun W hW => by clear hW; go_simp⟩) H0.out ?_
    try simp only [Act.put, List.getElem_toArray, List.getElem_cons_succ, List.getElem_cons_zero, List.setIfInBounds_toArray, List.set_cons_zero, List.set_cons_succ]
    refine wpAnyH_take (i := 1) (v := .bool true) rfl (by kernel_rfl) (by kernel_rfl) (by kernel_rfl) (fun _ _ _ h => h) (Or.inl ⟨by rfl, fun W hW => by clear hW; go_simp⟩) H0.out ?_
    try simp only [Act.put, List.getElem_toArray, List.getElem_cons_succ, List.getElem_cons_zero, List.setIfInBounds_toArray, List.set_cons_zero, List.set_cons_succ]
    refine wpAnyH_take (i := 2) (v := .bool true) rfl (by kernel_rfl) (by kernel_rfl) (by kernel_rfl) (fun _ _ _ h => h) (Or.inl ⟨by rfl, fun W hW => by clear hW; go_simp⟩) H0.out ?_
    try simp only [Act.put, List.getElem_toArray, List.getElem_cons_succ, List.getElem_cons_zero, List.setIfInBounds_toArray, List.set_cons_zero, List.set_cons_succ]
    refine wpAnyH_take (i := 3) (v := undef) rfl (by kernel_rfl) (by kernel_rfl) (by kernel_rfl) (fun _ _ _ h => h) (Or.inr ⟨by rfl, rfl⟩) H0.out ?_
    try simp only [Act.put, List.getElem_toArray, List.getElem_cons_succ, List.getElem_cons_zero, List.setIfInBounds_toArray, List.set_cons_zero, List.set_cons_succ]
    refine wpAnyH_take (i := 4) (v := undef) rfl (by kernel_rfl) (by kernel_rfl) (by kernel_rfl) (fun _ _ _ h => h) (Or.inr ⟨by rfl, rfl⟩) H0.out ?_
    try simp only [Act.put, List.getElem_toArray, List.getElem_cons_succ, List.getElem_cons_zero, List.setIfInBounds_toArray, List.set_cons_zero, List.set_cons_succ]
    refine wpAnyH_take (i := 5) (v := undef) rfl (by kernel_rfl) (by kernel_rfl) (by kernel_rfl) (fun _ _ _ h => h) (Or.inr ⟨by rfl, rfl⟩) H0.out ?_
    try simp only [Act.put, List.getElem_toArray, List.getElem_cons_succ, List.getElem_cons_zero, List.setIfInBounds_toArray, List.set_cons_zero, List.set_cons_succ]
    refine wpAnyH_take (i := 6) (v := undef) rfl (by kernel_rfl) (by kernel_rfl) (by kernel_rfl) (fun _ _ _ h => h) (Or.inr ⟨by rfl, rfl⟩) H0.out ?_
    try simp only [Act.put, List.getElem_toArray, List.getElem_cons_succ, List.getElem_cons_zero, List.setIfInBounds_toArray, List.set_cons_zero, List.set_cons_succ]
    refine wpAnyH_take (i := 7) (v := undef) rfl (by kernel_rfl) (by kernel_rfl) (by kernel_rfl) (fun _ _ _ h => h) (Or.inr ⟨by rfl, rfl⟩) H0.out ?_
    try simp only [Act.put, List.getElem_toArray, List.getElem_cons_succ, List.getElem_cons_zero, List.setIfInBounds_toArray, List.set_cons_zero, List.set_cons_succ]
    refine wpAnyH_take (i := 8) (v := .bool true) rfl (by kernel_rfl) (by kernel_rfl) (by kernel_rfl) (fun _ _ _ h => h) (Or.inl ⟨by rfl, fun W hW => by clear hW; go_simp⟩) H0.out ?_
    try simp only [Act.put, List.getElem_toArray, List.getElem_cons_succ, List.getElem_cons_zero, List.setIfInBounds_toArray, List.set_cons_zero, List.set_cons_succ]
    refine wpAnyH_take (i := 9) (v := .bool true) rfl (by kernel_rfl) (by kernel_rfl) (by kernel_rfl) (fun _ _ _ h => h) (Or.inl ⟨by rfl, fun W hW => by clear hW; go_simp⟩) H0.out ?_
    try simp only [Act.put, List.getElem_toArray, List.getElem_cons_succ, List.getElem_cons_zero, List.setIfInBounds_toArray, List.set_cons_zero, List.set_cons_succ]
    refine wpAnyH_take (i := 10) (v := undef) rfl (by kernel_rfl) (by kernel_rfl) (by kernel_rfl) (fun _ _ _ h => h) (Or.inr ⟨by rfl, rfl⟩) H0.out ?_
    try simp only [Act.put, List.getElem_toArray, List.getElem_cons_succ, List.getElem_cons_zero, List.setIfInBounds_toArray, List.set_cons_zero, List.set_cons_succ]
    refine wpAnyH_take (i := 11) (v := undef) rfl (by kernel_rfl) (by kernel_rfl) (by kernel_rfl) (fun _ _ _ h => h) (Or.inr ⟨by rfl, rfl⟩) H0.out ?_
    try simp only [Act.put, List.getElem_toArray, List.getElem_cons_succ, List.getElem_cons_zero, List.setIfInBounds_toArray, List.set_cons_zero, List.set_cons_succ]
    refine wpAnyH_take (i := 12) (v := undef) rfl (by kernel_rfl) (by kernel_rfl) (by kernel_rfl) (fun _ _ _ h => h) (Or.inr ⟨by rfl, rfl⟩) H0.out ?_
    try simp only [Act.put, List.getElem_toArray, List.getElem_cons_succ, List.getElem_cons_zero, List.setIfInBounds_toArray, List.set_cons_zero, List.set_cons_succ]
    refine wpAnyH_take (i := 13) (v := undef) rfl (by kernel_rfl) (by kernel_rfl) (by kernel_rfl) (fun _ _ _ h => h) (Or.inr ⟨by rfl, rfl⟩) H0.out ?_
    try simp only [Act.put, List.getElem_toArray, List.getElem_cons_succ, List.getElem_cons_zero, List.setIfInBounds_toArray, List.set_cons_zero, List.set_cons_succ]
    refine wpAnyH_take (i := 14) (v := undef) rfl (by kernel_rfl) (by kernel_rfl) (by kernel_rfl) (fun _ _ _ h => h) (Or.inr ⟨by rfl, rfl⟩) H0.out ?_
    try simp only [Act.put, List.getElem_toArray, List.getElem_cons_succ, List.getElem_cons_zero, List.setIfInBounds_toArray, List.set_cons_zero, List.set_cons_succ]
    refine wpAnyH_take (i := 15) (v := undef) rfl (by kernel_rfl) (by kernel_rfl) (by kernel_rfl) (fun _ _ _ h => h) (Or.inr ⟨by rfl, rfl⟩) H0.out ?_
    try simp only [Act.put, List.getElem_toArray, List.getElem_cons_succ, List.getElem_cons_zero, List.setIfInBounds_toArray, List.set_cons_zero, List.set_cons_succ]
    refine wpAnyH_take (i := 16) (v := undef) rfl (by kernel_rfl) (by kernel_rfl) (by kernel_rfl) (fun _ _ _ h => h) (Or.inr ⟨by rfl, rfl⟩) H0.out ?_
    try simp only [Act.put, List.getElem_toArray, List.getElem_cons_succ, List.getElem_cons_zero, List.setIfInBounds_toArray, List.set_cons_zero, List.set_cons_succ]
    refine wpAnyH_take (i := 17) (v := undef) rfl (by kernel_rfl) (by kernel_rfl) (by kernel_rfl) (fun _ _ _ h => h) (Or.inr ⟨by rfl, rfl⟩) H0.out ?_
    try simp only [Act.put, List.getElem_toArray, List.getElem_cons_succ, List.getElem_cons_zero, List.setIfInBounds_toArray, List.set_cons_zero, List.set_cons_succ]
    refine wpAnyH_take (i := 18) (v := undef) rfl (by kernel_rfl) (by kernel_rfl) (by kernel_rfl) (fun _ _ _ h => h) (Or.inr ⟨by rfl, rfl⟩) H0.out ?_
    try simp only [Act.put, List.getElem_toArray, List.getElem_cons_succ, List.getElem_cons_zero, List.setIfInBounds_toArray, List.set_cons_zero, List.set_cons_succ]
    refine wpAnyH_take (i := 19) (v := undef) rfl (by kernel_rfl) (by kernel_rfl) (by kernel_rfl) (fun _ _ _ h => h) (Or.inr ⟨by rfl, rfl⟩) H0.out ?_
    try simp only [Act.put, List.getElem_toArray, List.getElem_cons_succ, List.getElem_cons_zero, List.setIfInBounds_toArray, List.set_cons_zero, List.set_cons_succ]
    refine wpAnyH_take (i := 20) (v := undef) rfl (by kernel_rfl) (by kernel_rfl) (by kernel_rfl) (fun _ _ _ h => h) (Or.inr ⟨by rfl, rfl⟩) H0.out ?_
    try simp only [Act.put, List.getElem_toArray, List.getElem_cons_succ, List.getElem_cons_zero, List.setIfInBounds_toArray, List.set_cons_zero, List.set_cons_succ]
    refine wpAnyH_take (i := 21) (v := undef) rfl (by kernel_rfl) (by kernel_rfl) (by kernel_rfl) (fun _ _ _ h => h) (Or.inr ⟨by rfl, rfl⟩) H0.out ?_
    try simp only [Act.put, List.getElem_toArray, List.getElem_cons_succ, List.getElem_cons_zero, List.setIfInBounds_toArray, List.set_cons_zero, List.set_cons_succ]
    refine wpAnyH_take (i := 22) (v := undef) rfl (by kernel_rfl) (by kernel_rfl) (by kernel_rfl) (fun _ _ _ h => h) (Or.inr ⟨by rfl, rfl⟩) H0.out ?_
    try simp only [Act.put, List.getElem_toArray, List.getElem_cons_succ, List.getElem_cons_zero, List.setIfInBounds_toArray, List.set_cons_zero, List.set_cons_succ]
    refine wpAnyH_take (i := 23) (v := undef) rfl (by kernel_rfl) (by kernel_rfl) (by kernel_rfl) (fun _ _ _ h => h) (Or.inr ⟨by rfl, rfl⟩) H0.out ?_
    try simp only [Act.put, List.getElem_toArray, List.getElem_cons_succ, List.getElem_cons_zero, List.setIfInBounds_toArray, List.set_cons_zero, List.set_cons_succ]
    refine wpAnyH_take (i := 24) (v := undef) rfl (by kernel_rfl) (by kernel_rfl) (by kernel_rfl) (fun _ _ _ h => h) (Or.inr ⟨by rfl, rfl⟩) H0.out ?_
    try simp only [Act.put, List.getElem_toArray, List.getElem_cons_succ, List.getElem_cons_zero, List.setIfInBounds_toArray, List.set_cons_zero, List.set_cons_succ]
    refine wpAnyH_take (i := 25) (v := undef) rfl (by kernel_rfl) (by kernel_rfl) (by kernel_rfl) (fun _ _ _ h => h) (Or.inr ⟨by rfl, rfl⟩) H0.out ?_
    try simp only [Act.put, List.getElem_toArray, List.getElem_cons_succ, List.getElem_cons_zero, List.setIfInBounds_toArray, List.set_cons_zero, List.set_cons_succ]
    refine wpAnyH_take (i := 26) (v := undef) rfl (by kernel_rfl) (by kernel_rfl) (by kernel_rfl) (fun _ _ _ h => h) (Or.inr ⟨by rfl, rfl⟩) H0.out ?_
    try simp only [Act.put, List.getElem_toArray, List.getElem_cons_succ, List.getElem_cons_zero, List.setIfInBounds_toArray, List.set_cons_zero, List.set_cons_succ]
    refine wpAnyH_take (i := 27) (v := undef) rfl (by kernel_rfl) (by kernel_rfl) (by kernel_rfl) (fun _ _ _ h => h) (Or.inr ⟨by rfl, rfl⟩) H0.out ?_
    try simp only [Act.put, List.getElem_toArray, List.getElem_cons_succ, List.getElem_cons_zero, List.setIfInBounds_toArray, List.set_cons_zero, List.set_cons_succ]
    refine wpAnyH_take (i := 28) (v := .bool true) rfl (by kernel_rfl) (by kernel_rfl) (by kernel_rfl) (fun _ _ _ h => h) (Or.inl ⟨by rfl, fun W hW => by clear hW; go_simp⟩) H0.out ?_
    try simp only [Act.put, List.getElem_toArray, List.getElem_cons_succ, List.getElem_cons_zero, List.setIfInBounds_toArray, List.set_cons_zero, List.set_cons_succ]
    refine wpAnyH_take (i := 29) (v := .bool true) rfl (by kernel_rfl) (by kernel_rfl) (by kernel_rfl) (fun _ _ _ h => h) (Or.inl ⟨by rfl, fun W hW => by clear hW; go_simp⟩) H0.out ?_
    try simp only [Act.put, List.getElem_toArray, List.getElem_cons_succ, List.getElem_cons_zero, List.setIfInBounds_toArray, List.set_cons_zero, List.set_cons_succ]
    refine wpAnyH_done (by kernel_rfl) ?_ _
    go_wp2
    go_ret
    exact ⟨rfl, H0.out.bel⟩
  · obtain ⟨b, off, rfl, hb, hcs⟩ := HR.out.at_ (by omega)
    have hcw := hcs s (by omega)
    have el : (ms.set s (ms.getD s 0 + 1)).length = n := by rw [List.length_set]; exact hl
    have tv : (ms.set s (ms.getD s 0 + 1)).getD s 0 = ms.getD s 0 + 1 := by rw [List.getD_eq_getElem?_getD, List.getElem?_set_self hs]; rfl
    have hsn : s < n := by omega
    have SM : Hid (∀ A1 A2 c1 c2 W, IRow W W.heap.size A1 n c1 (ms.set s (ms.getD s 0 + 1)) → IRow W W.heap.size A2 n c2 (ms.set s (ms.getD s 0 + 1)) → Calls Try.prog 13 #[.agg #[.int .u64 (M : Int), .slice A1 n c1], .agg #[.int .u64 (M : Int), .slice A2 n c2]] W fun e w' => e = .returned (.bool true) ∧ Below W.heap.size W w') := fun A1 A2 c1 c2 W h1 h2 => by
      have := refSame_any M M n n c1 c2 A1 A2 (ms.set s (ms.getD s 0 + 1)) (ms.set s (ms.getD s 0 + 1)) W h1 h2
      rw [decide_eq_true ⟨rfl, rfl⟩] at this
      exact this
    have NX : Hid (∀ W, IRow W W.heap.size (some ⟨b, off, none⟩) n c ms → Calls Try.prog 25 #[.agg p.arr, .agg #[.int .u64 M, .slice (some ⟨b, off, none⟩) n c], .int .i64 (s : Int)] W (Gives1 W (M : Int) (ms.set s (ms.getD s 0 + 1)) n false 0)) := fun W h => by
      have := next_any p M (some ⟨b, off, none⟩) n c ms (s : Int) W h (by omega)
      rw [E] at this
      unfold GivesN at this; simp only [el] at this; exact this
    have RN : Hid (∀ W, IRow W W.heap.size (some ⟨b, off, none⟩) n c ms → Calls Try.prog 26 #[.agg p.arr, .agg #[.int .u64 M, .slice (some ⟨b, off, none⟩) n c], .int .i64 (s : Int)] W (Gives1 W (M : Int) (ms.set s (ms.getD s 0 + 1)) n false 0)) := fun W h => by
      have := refNext_any p M (some ⟨b, off, none⟩) n c ms (s : Int) W h (by omega)
      rw [E] at this
      unfold GivesN at this; simp only [el] at this; exact this
    generalize hgx : ms.getD s 0 = x at *
    have TV := Lib.hid tv
    generalize ms.set s (x + 1) = T at *
    have g4 : ((M : Int) == (M : Int)) = true := by simp
    have g6 : ((M : Int) < (M : Int)) = False := eq_false (by omega)
    have g7 : (x < x + 1) = True := eq_true (by omega)
    clear E hcs tv el hgx
    go_enter Try.func6, Try.ntmps6
    go_wp2_with (first
      | (refine wpList_box_st h0 28 _ rfl rfl p.arr rfl ?_; clear h0; intro W1 h1 _ _)
      | (refine wpList_box_st h1 31 _ rfl rfl #[.int .u64 (M : Int), .slice (some ⟨b, off, none⟩) n c] rfl ?_; clear h1; intro W2 h2 _ _)
      | (go_at_call 9; refine (SK.out _).mono ?_; rintro e W3 ⟨rfl, hb⟩; have h3 := h2.call hb; clear h2 hb; have d1 := h3.cell 1 rfl 1 (.slice (some ⟨b, off, none⟩) n c) rfl)
      | (refine wpList_load_st h3 0 rfl 28 _ _ rfl rfl rfl Try.underlying28 rfl SP.out ?_)
      | (refine wpList_load_st h3 1 rfl 31 _ _ rfl rfl rfl Try.underlying31 rfl sz31 ?_)
      | (go_at_call 25; refine (NX.out _ ((HR.out.below h3.bel).wider h3.bel.size)).mono ?_; rintro e W4 ⟨A4, c4, rfl, hr4, hb⟩; have h4 := h3.call hb; clear h3 hb d1)
      | (refine wpList_alloc_st h4 31 rfl rfl _ #[.int .u64 0, .slice none 0 0] zv31 rfl ?_; clear h4; intro W5 h5 _ b5; have hr5 := hr4.below b5; have z5 := b5.size; clear hr4 b5)
      | (refine wpList_store_st h5 2 rfl 31 _ _ rfl rfl rfl rfl sz31 rfl (cell2 _ _ _ _) ?_; intro W6 h6 hg6; have hr6 := (hr5.beside hg6 z5).wider (Nat.le_trans z5 hg6.size); clear h5 hr5 hg6 z5)
      | (refine wpList_load_st h6 0 rfl 28 _ _ rfl rfl rfl Try.underlying28 rfl SP.out ?_)
      | (refine wpList_load_st h6 1 rfl 31 _ _ rfl rfl rfl Try.underlying31 rfl sz31 ?_)
      | (go_at_call 26; refine (RN.out _ ((HR.out.below h6.bel).wider h6.bel.size)).mono ?_; rintro e W7 ⟨A7, c7, rfl, hr7, hb⟩; have h7 := h6.call hb; have hs7 := (hr6.below hb).wider hb.size; clear h6 hb hr6)
      | (refine wpList_alloc_st h7 31 rfl rfl _ #[.int .u64 0, .slice none 0 0] zv31 rfl ?_; clear h7; intro W8 h8 _ b8; have hr8 := hr7.below b8; have hs8 := hs7.below b8; have z8 := b8.size; clear hr7 hs7 b8)
      | (refine wpList_store_st h8 3 rfl 31 _ _ rfl rfl rfl rfl sz31 rfl (cell2 _ _ _ _) ?_; intro W9 h9 hg9; have hr9 := (hr8.beside hg9 z8).wider (Nat.le_trans z8 hg9.size); have hs9 := (hs8.beside hg9 z8).wider (Nat.le_trans z8 hg9.size); clear h8 hr8 hs8 hg9 z8)
      | (refine wpList_load_st h9 2 rfl 31 _ _ rfl rfl rfl Try.underlying31 rfl sz31 ?_)
      | (refine wpList_load_st h9 3 rfl 31 _ _ rfl rfl rfl Try.underlying31 rfl sz31 ?_)
      | (go_at_call 13; refine (SM.out _ _ _ _ _ hs9 hr9).mono ?_; rintro e W10 ⟨rfl, hb⟩; have h10 := h9.call hb; have hs10 := (hs9.below hb).wider hb.size; clear h9 hb hr9 hs9))
    obtain ⟨b2, o2, rfl, hb2, hc2⟩ := hs10.at_ (by omega)
    have hck := hc2 s hsn
    rw [TV.out] at hck
    have H0 : Hid (St w W10.drew [(w.heap.size, 28, p.arr), (W1.heap.size, 31, #[.int .u64 (M : Int), .slice (some ⟨b, off, none⟩) n c]), (W4.heap.size, 31, #[.int .u64 (M : Int), .slice (some ⟨b2, o2, none⟩) n c4])] ∧ W10.drew.cell? ⟨b2, o2 + s, none⟩ = some (.int .i64 (x + 1))) := ⟨h10.drew.sub (by exact List.sublist_append_left _ _), hck⟩
    refine wp_region_held_drew (S := fun W => St w W [(w.heap.size, 28, p.arr), (W1.heap.size, 31, #[.int .u64 (M : Int), .slice (some ⟨b, off, none⟩) n c]), (W4.heap.size, 31, #[.int .u64 (M : Int), .slice (some ⟨b2, o2, none⟩) n c4])] ∧ W.cell? ⟨b2, o2 + s, none⟩ = some (.int .i64 (x + 1))) (by kernel_rfl) H0.out (fun _ => ?_)
    generalize W10.drew = V0 at *
    generalize W4.heap.size = g1 at *
    clear h10 hs10 hc2
    refine wpAnyH_take (i := 0) (v := .int .i64 0) rfl (by kernel_rfl) (by kernel_rfl) (by kernel_rfl) (fun _ _ _ h => h) (Or.inl ⟨by rfl, fun W hW => by clear hW; go_simp⟩) H0.out ?_
    try simp only [Act.put, List.getElem_toArray, List.getElem_cons_succ, List.getElem_cons_zero, List.setIfInBounds_toArray, List.set_cons_zero, List.set_cons_succ]
    refine wpAnyH_take (i := 1) (v := .bool false) rfl (by kernel_rfl) (by kernel_rfl) (by kernel_rfl) (fun _ _ _ h => h) (Or.inl ⟨by rfl, fun W hW => by clear hW; go_simp⟩) H0.out ?_
    try simp only [Act.put, List.getElem_toArray, List.getElem_cons_succ, List.getElem_cons_zero, List.setIfInBounds_toArray, List.set_cons_zero, List.set_cons_succ]
    refine wpAnyH_take (i := 2) (v := .bool false) rfl (by kernel_rfl) (by kernel_rfl) (by kernel_rfl) (fun _ _ _ h => h) (Or.inl ⟨by rfl, fun W hW => by clear hW; go_simp⟩) H0.out ?_
    try simp only [Act.put, List.getElem_toArray, List.getElem_cons_succ, List.getElem_cons_zero, List.setIfInBounds_toArray, List.set_cons_zero, List.set_cons_succ]
    refine wpAnyH_take (i := 3) (v := .pointer (some ⟨g1, 0, none⟩)) rfl (by kernel_rfl) (by kernel_rfl) (by kernel_rfl) (fun _ _ _ h => h) (Or.inl ⟨by rfl, fun W hW => by clear hW; go_simp⟩) H0.out ?_
    try simp only [Act.put, List.getElem_toArray, List.getElem_cons_succ, List.getElem_cons_zero, List.setIfInBounds_toArray, List.set_cons_zero, List.set_cons_succ]
    refine wpAnyH_take (i := 4) (v := .int .u64 (M : Int)) rfl (by kernel_rfl) (by kernel_rfl) (by kernel_rfl) (fun _ _ _ h => h) (Or.inl ⟨by rfl, fun W hW => by have hc := hW.1.cell 2 rfl 0 (.int .u64 (M : Int)) rfl; clear hW; go_simp⟩) H0.out ?_
    try simp only [Act.put, List.getElem_toArray, List.getElem_cons_succ, List.getElem_cons_zero, List.setIfInBounds_toArray, List.set_cons_zero, List.set_cons_succ]
    refine wpAnyH_take (i := 5) (v := .pointer (some ⟨W1.heap.size, 0, none⟩)) rfl (by kernel_rfl) (by kernel_rfl) (by kernel_rfl) (fun _ _ _ h => h) (Or.inl ⟨by rfl, fun W hW => by clear hW; go_simp⟩) H0.out ?_
    try simp only [Act.put, List.getElem_toArray, List.getElem_cons_succ, List.getElem_cons_zero, List.setIfInBounds_toArray, List.set_cons_zero, List.set_cons_succ]
    refine wpAnyH_take (i := 6) (v := .int .u64 (M : Int)) rfl (by kernel_rfl) (by kernel_rfl) (by kernel_rfl) (fun _ _ _ h => h) (Or.inl ⟨by rfl, fun W hW => by have hc := hW.1.cell 1 rfl 0 (.int .u64 (M : Int)) rfl; clear hW; go_simp⟩) H0.out ?_
    try simp only [Act.put, List.getElem_toArray, List.getElem_cons_succ, List.getElem_cons_zero, List.setIfInBounds_toArray, List.set_cons_zero, List.set_cons_succ]
    refine wpAnyH_take (i := 7) (v := .bool false) rfl (by kernel_rfl) (by kernel_rfl) (by kernel_rfl) (fun _ _ _ h => h) (Or.inl ⟨by rfl, fun W hW => by clear hW; go_simp⟩) H0.out ?_
    try simp only [Act.put, List.getElem_toArray, List.getElem_cons_succ, List.getElem_cons_zero, List.setIfInBounds_toArray, List.set_cons_zero, List.set_cons_succ]
    refine wpAnyH_take (i := 8) (v := .bool false) rfl (by kernel_rfl) (by kernel_rfl) (by kernel_rfl) (fun _ _ _ h => h) (Or.inl ⟨by rfl, fun W hW => by clear hW; go_simp⟩) H0.out ?_
    try simp only [Act.put, List.getElem_toArray, List.getElem_cons_succ, List.getElem_cons_zero, List.setIfInBounds_toArray, List.set_cons_zero, List.set_cons_succ]
    refine wpAnyH_take (i := 9) (v := .bool false) rfl (by kernel_rfl) (by kernel_rfl) (by kernel_rfl) (fun _ _ _ h => h) (Or.inl ⟨by rfl, fun W hW => by clear hW; go_simp⟩) H0.out ?_
    try simp only [Act.put, List.getElem_toArray, List.getElem_cons_succ, List.getElem_cons_zero, List.setIfInBounds_toArray, List.set_cons_zero, List.set_cons_succ]
    refine wpAnyH_take (i := 10) (v := .pointer (some ⟨g1, 0, none⟩)) rfl (by kernel_rfl) (by kernel_rfl) (by kernel_rfl) (fun _ _ _ h => h) (Or.inl ⟨by rfl, fun W hW => by clear hW; go_simp⟩) H0.out ?_
    try simp only [Act.put, List.getElem_toArray, List.getElem_cons_succ, List.getElem_cons_zero, List.setIfInBounds_toArray, List.set_cons_zero, List.set_cons_succ]
    refine wpAnyH_take (i := 11) (v := .int .u64 (M : Int)) rfl (by kernel_rfl) (by kernel_rfl) (by kernel_rfl) (fun _ _ _ h => h) (Or.inl ⟨by rfl, fun W hW => by have hc := hW.1.cell 2 rfl 0 (.int .u64 (M : Int)) rfl; clear hW; go_simp⟩) H0.out ?_
    try simp only [Act.put, List.getElem_toArray, List.getElem_cons_succ, List.getElem_cons_zero, List.setIfInBounds_toArray, List.set_cons_zero, List.set_cons_succ]
    refine wpAnyH_take (i := 12) (v := .pointer (some ⟨W1.heap.size, 0, none⟩)) rfl (by kernel_rfl) (by kernel_rfl) (by kernel_rfl) (fun _ _ _ h => h) (Or.inl ⟨by rfl, fun W hW => by clear hW; go_simp⟩) H0.out ?_
    try simp only [Act.put, List.getElem_toArray, List.getElem_cons_succ, List.getElem_cons_zero, List.setIfInBounds_toArray, List.set_cons_zero, List.set_cons_succ]
    refine wpAnyH_take (i := 13) (v := .int .u64 (M : Int)) rfl (by kernel_rfl) (by kernel_rfl) (by kernel_rfl) (fun _ _ _ h => h) (Or.inl ⟨by rfl, fun W hW => by have hc := hW.1.cell 1 rfl 0 (.int .u64 (M : Int)) rfl; clear hW; go_simp⟩) H0.out ?_
    try simp only [Act.put, List.getElem_toArray, List.getElem_cons_succ, List.getElem_cons_zero, List.setIfInBounds_toArray, List.set_cons_zero, List.set_cons_succ]
    refine wpAnyH_take (i := 14) (v := .bool true) rfl (by kernel_rfl) (by kernel_rfl) (by kernel_rfl) (fun _ _ _ h => h) (Or.inl ⟨by rfl, fun W hW => by clear hW; go_simp⟩) H0.out ?_
    try simp only [Act.put, List.getElem_toArray, List.getElem_cons_succ, List.getElem_cons_zero, List.setIfInBounds_toArray, List.set_cons_zero, List.set_cons_succ]
    refine wpAnyH_take (i := 15) (v := .bool true) rfl (by kernel_rfl) (by kernel_rfl) (by kernel_rfl) (fun _ _ _ h => h) (Or.inl ⟨by rfl, fun W hW => by clear hW; go_simp⟩) H0.out ?_
    try simp only [Act.put, List.getElem_toArray, List.getElem_cons_succ, List.getElem_cons_zero, List.setIfInBounds_toArray, List.set_cons_zero, List.set_cons_succ]
    refine wpAnyH_take (i := 16) (v := .pointer (some ⟨g1, 1, none⟩)) rfl (by kernel_rfl) (by kernel_rfl) (by kernel_rfl) (fun _ _ _ h => h) (Or.inl ⟨by rfl, fun W hW => by clear hW; go_simp⟩) H0.out ?_
    try simp only [Act.put, List.getElem_toArray, List.getElem_cons_succ, List.getElem_cons_zero, List.setIfInBounds_toArray, List.set_cons_zero, List.set_cons_succ]
    refine wpAnyH_take (i := 17) (v := .slice (some ⟨b2, o2, none⟩) n c4) rfl (by kernel_rfl) (by kernel_rfl) (by kernel_rfl) (fun _ _ _ h => h) (Or.inl ⟨by rfl, fun W hW => by have hc := hW.1.cell 2 rfl 1 (.slice (some ⟨b2, o2, none⟩) n c4) rfl; clear hW; go_simp⟩) H0.out ?_
    try simp only [Act.put, List.getElem_toArray, List.getElem_cons_succ, List.getElem_cons_zero, List.setIfInBounds_toArray, List.set_cons_zero, List.set_cons_succ]
    refine wpAnyH_take (i := 18) (v := .int .i64 (s : Int)) rfl (by kernel_rfl) (by kernel_rfl) (by kernel_rfl) (fun _ _ _ h => h) (Or.inl ⟨by rfl, fun W hW => by clear hW; go_simp⟩) H0.out ?_
    try simp only [Act.put, List.getElem_toArray, List.getElem_cons_succ, List.getElem_cons_zero, List.setIfInBounds_toArray, List.set_cons_zero, List.set_cons_succ]
    refine wpAnyH_take (i := 19) (v := .pointer (some ⟨b2, o2 + s, none⟩)) rfl (by kernel_rfl) (by kernel_rfl) (by kernel_rfl) (fun _ _ _ h => h) (Or.inl ⟨by rfl, fun W hW => by clear hW; go_simp⟩) H0.out ?_
    try simp only [Act.put, List.getElem_toArray, List.getElem_cons_succ, List.getElem_cons_zero, List.setIfInBounds_toArray, List.set_cons_zero, List.set_cons_succ]
    refine wpAnyH_take (i := 20) (v := .int .i64 (x + 1)) rfl (by kernel_rfl) (by kernel_rfl) (by kernel_rfl) (fun _ _ _ h => h) (Or.inl ⟨by rfl, fun W hW => by have hc := hW.2; clear hW; go_simp⟩) H0.out ?_
    try simp only [Act.put, List.getElem_toArray, List.getElem_cons_succ, List.getElem_cons_zero, List.setIfInBounds_toArray, List.set_cons_zero, List.set_cons_succ]
    refine wpAnyH_take (i := 21) (v := .pointer (some ⟨W1.heap.size, 1, none⟩)) rfl (by kernel_rfl) (by kernel_rfl) (by kernel_rfl) (fun _ _ _ h => h) (Or.inl ⟨by rfl, fun W hW => by clear hW; go_simp⟩) H0.out ?_
    try simp only [Act.put, List.getElem_toArray, List.getElem_cons_succ, List.getElem_cons_zero, List.setIfInBounds_toArray, List.set_cons_zero, List.set_cons_succ]
    refine wpAnyH_take (i := 22) (v := .slice (some ⟨b, off, none⟩) n c) rfl (by kernel_rfl) (by kernel_rfl) (by kernel_rfl) (fun _ _ _ h => h) (Or.inl ⟨by rfl, fun W hW => by have hc := hW.1.cell 1 rfl 1 (.slice (some ⟨b, off, none⟩) n c) rfl; clear hW; go_simp⟩) H0.out ?_
    try simp only [Act.put, List.getElem_toArray, List.getElem_cons_succ, List.getElem_cons_zero, List.setIfInBounds_toArray, List.set_cons_zero, List.set_cons_succ]
    refine wpAnyH_take (i := 23) (v := .int .i64 (s : Int)) rfl (by kernel_rfl) (by kernel_rfl) (by kernel_rfl) (fun _ _ _ h => h) (Or.inl ⟨by rfl, fun W hW => by clear hW; go_simp⟩) H0.out ?_
    try simp only [Act.put, List.getElem_toArray, List.getElem_cons_succ, List.getElem_cons_zero, List.setIfInBounds_toArray, List.set_cons_zero, List.set_cons_succ]
    refine wpAnyH_take (i := 24) (v := .pointer (some ⟨b, off + s, none⟩)) rfl (by kernel_rfl) (by kernel_rfl) (by kernel_rfl) (fun _ _ _ h => h) (Or.inl ⟨by rfl, fun W hW => by clear hW; go_simp⟩) H0.out ?_
    try simp only [Act.put, List.getElem_toArray, List.getElem_cons_succ, List.getElem_cons_zero, List.setIfInBounds_toArray, List.set_cons_zero, List.set_cons_succ]
    refine wpAnyH_take (i := 25) (v := .int .i64 x) rfl (by kernel_rfl) (by kernel_rfl) (by kernel_rfl) (fun _ _ _ h => h) (Or.inl ⟨by rfl, fun W hW => by have hc := (hW.1.bel.cell (p := ⟨b, off + s, none⟩) hb).trans hcw; clear hW; go_simp⟩) H0.out ?_
    try simp only [Act.put, List.getElem_toArray, List.getElem_cons_succ, List.getElem_cons_zero, List.setIfInBounds_toArray, List.set_cons_zero, List.set_cons_succ]
    refine wpAnyH_take (i := 26) (v := .bool true) rfl (by kernel_rfl) (by kernel_rfl) (by kernel_rfl) (fun _ _ _ h => h) (Or.inl ⟨by rfl, fun W hW => by clear hW; go_simp⟩) H0.out ?_
    try simp only [Act.put, List.getElem_toArray, List.getElem_cons_succ, List.getElem_cons_zero, List.setIfInBounds_toArray, List.set_cons_zero, List.set_cons_succ]
    refine wpAnyH_take (i := 27) (v := .bool true) rfl (by kernel_rfl) (by kernel_rfl) (by kernel_rfl) (fun _ _ _ h => h) (Or.inl ⟨by rfl, fun W hW => by clear hW; go_simp⟩) H0.out ?_
    try simp only [Act.put, List.getElem_toArray, List.getElem_cons_succ, List.getElem_cons_zero, List.setIfInBounds_toArray, List.set_cons_zero, List.set_cons_succ]
    refine wpAnyH_take (i := 28) (v := .bool true) rfl (by kernel_rfl) (by kernel_rfl) (by kernel_rfl) (fun _ _ _ h => h) (Or.inl ⟨by rfl, fun W hW => by clear hW; go_simp⟩) H0.out ?_
    try simp only [Act.put, List.getElem_toArray, List.getElem_cons_succ, List.getElem_cons_zero, List.setIfInBounds_toArray, List.set_cons_zero, List.set_cons_succ]
    refine wpAnyH_take (i := 29) (v := .bool true) rfl (by kernel_rfl) (by kernel_rfl) (by kernel_rfl) (fun _ _ _ h => h) (Or.inl ⟨by rfl, fun W hW => by clear hW; go_simp⟩) H0.out ?_
    try simp only [Act.put, List.getElem_toArray, List.getElem_cons_succ, List.getElem_cons_zero, List.setIfInBounds_toArray, List.set_cons_zero, List.set_cons_succ]
    refine wpAnyH_done (by kernel_rfl) ?_ _
    go_wp2
    go_ret
    exact ⟨rfl, H0.out.1.bel⟩
  · have el : (List.replicate ms.length (0 : Int)).length = n := by simp [hl]
    have SM : Hid (∀ A1 A2 c1 c2 W, IRow W W.heap.size A1 n c1 (List.replicate ms.length 0) → IRow W W.heap.size A2 n c2 (List.replicate ms.length 0) → Calls Try.prog 13 #[.agg #[.int .u64 ((M + 1 : Nat) : Int), .slice A1 n c1], .agg #[.int .u64 ((M + 1 : Nat) : Int), .slice A2 n c2]] W fun e w' => e = .returned (.bool true) ∧ Below W.heap.size W w') := fun A1 A2 c1 c2 W h1 h2 => by
      have := refSame_any (M + 1) (M + 1) n n c1 c2 A1 A2 (List.replicate ms.length 0) (List.replicate ms.length 0) W h1 h2
      rw [decide_eq_true ⟨rfl, rfl⟩] at this
      exact this
    have NX : Hid (∀ W, IRow W W.heap.size A n c ms → Calls Try.prog 25 #[.agg p.arr, .agg #[.int .u64 M, .slice A n c], .int .i64 s] W (Gives1 W ((M + 1 : Nat) : Int) (List.replicate ms.length 0) n true 0)) := fun W h => by
      have := next_any p M A n c ms s W h (by omega)
      rw [E] at this
      unfold GivesN at this; simp only [el] at this; exact this
    have RN : Hid (∀ W, IRow W W.heap.size A n c ms → Calls Try.prog 26 #[.agg p.arr, .agg #[.int .u64 M, .slice A n c], .int .i64 s] W (Gives1 W ((M + 1 : Nat) : Int) (List.replicate ms.length 0) n true 0)) := fun W h => by
      have := refNext_any p M A n c ms s W h (by omega)
      rw [E] at this
      unfold GivesN at this; simp only [el] at this; exact this
    generalize List.replicate ms.length (0 : Int) = T at *
    have g6 : ((M : Int) < ((M + 1 : Nat) : Int)) = True := eq_true (by omega)
    generalize M + 1 = M' at *
    clear E el
    go_enter Try.func6, Try.ntmps6
    go_wp2_with (first
      | (refine wpList_box_st h0 28 _ rfl rfl p.arr rfl ?_; clear h0; intro W1 h1 _ _)
      | (refine wpList_box_st h1 31 _ rfl rfl #[.int .u64 (M : Int), .slice A n c] rfl ?_; clear h1; intro W2 h2 _ _)
      | (go_at_call 9; refine (SK.out _).mono ?_; rintro e W3 ⟨rfl, hb⟩; have h3 := h2.call hb; clear h2 hb; have d1 := h3.cell 1 rfl 1 (.slice A n c) rfl)
      | (refine wpList_load_st h3 0 rfl 28 _ _ rfl rfl rfl Try.underlying28 rfl SP.out ?_)
      | (refine wpList_load_st h3 1 rfl 31 _ _ rfl rfl rfl Try.underlying31 rfl sz31 ?_)
      | (go_at_call 25; refine (NX.out _ ((HR.out.below h3.bel).wider h3.bel.size)).mono ?_; rintro e W4 ⟨A4, c4, rfl, hr4, hb⟩; have h4 := h3.call hb; clear h3 hb d1)
      | (refine wpList_alloc_st h4 31 rfl rfl _ #[.int .u64 0, .slice none 0 0] zv31 rfl ?_; clear h4; intro W5 h5 _ b5; have hr5 := hr4.below b5; have z5 := b5.size; clear hr4 b5)
      | (refine wpList_store_st h5 2 rfl 31 _ _ rfl rfl rfl rfl sz31 rfl (cell2 _ _ _ _) ?_; intro W6 h6 hg6; have hr6 := (hr5.beside hg6 z5).wider (Nat.le_trans z5 hg6.size); clear h5 hr5 hg6 z5)
      | (refine wpList_load_st h6 0 rfl 28 _ _ rfl rfl rfl Try.underlying28 rfl SP.out ?_)
      | (refine wpList_load_st h6 1 rfl 31 _ _ rfl rfl rfl Try.underlying31 rfl sz31 ?_)
      | (go_at_call 26; refine (RN.out _ ((HR.out.below h6.bel).wider h6.bel.size)).mono ?_; rintro e W7 ⟨A7, c7, rfl, hr7, hb⟩; have h7 := h6.call hb; have hs7 := (hr6.below hb).wider hb.size; clear h6 hb hr6)
      | (refine wpList_alloc_st h7 31 rfl rfl _ #[.int .u64 0, .slice none 0 0] zv31 rfl ?_; clear h7; intro W8 h8 _ b8; have hr8 := hr7.below b8; have hs8 := hs7.below b8; have z8 := b8.size; clear hr7 hs7 b8)
      | (refine wpList_store_st h8 3 rfl 31 _ _ rfl rfl rfl rfl sz31 rfl (cell2 _ _ _ _) ?_; intro W9 h9 hg9; have hr9 := (hr8.beside hg9 z8).wider (Nat.le_trans z8 hg9.size); have hs9 := (hs8.beside hg9 z8).wider (Nat.le_trans z8 hg9.size); clear h8 hr8 hs8 hg9 z8)
      | (refine wpList_load_st h9 2 rfl 31 _ _ rfl rfl rfl Try.underlying31 rfl sz31 ?_)
      | (refine wpList_load_st h9 3 rfl 31 _ _ rfl rfl rfl Try.underlying31 rfl sz31 ?_)
      | (go_at_call 13; refine (SM.out _ _ _ _ _ hs9 hr9).mono ?_; rintro e W10 ⟨rfl, hb⟩; have h10 := h9.call hb; have hs10 := (hs9.below hb).wider hb.size; clear h9 hb hr9 hs9))
    have H0 : Hid (St w W10.drew [(w.heap.size, 28, p.arr), (W1.heap.size, 31, #[.int .u64 (M : Int), .slice A n c]), (W4.heap.size, 31, #[.int .u64 (M' : Int), .slice A4 n c4])]) := h10.drew.sub (by exact List.sublist_append_left _ _)
    refine wp_region_held_drew (S := fun W => St w W [(w.heap.size, 28, p.arr), (W1.heap.size, 31, #[.int .u64 (M : Int), .slice A n c]), (W4.heap.size, 31, #[.int .u64 (M' : Int), .slice A4 n c4])]) (by kernel_rfl) H0.out (fun _ => ?_)
    generalize W10.drew = V0 at *
    generalize W4.heap.size = g1 at *
    clear h10
    refine wpAnyH_take (i := 0) (v := .int .i64 0) rfl (by kernel_rfl) (by kernel_rfl) (by kernel_rfl) (fun _ _ _ h => h) (Or.inl ⟨by rfl, fun W hW => by clear hW; go_simp⟩) H0.out ?_
    try simp only [Act.put, List.getElem_toArray, List.getElem_cons_succ, List.getElem_cons_zero, List.setIfInBounds_toArray, List.set_cons_zero, List.set_cons_succ]
    refine wpAnyH_take (i := 1) (v := .bool false) rfl (by kernel_rfl) (by kernel_rfl) (by kernel_rfl) (fun _ _ _ h => h) (Or.inl ⟨by rfl, fun W hW => by clear hW; go_simp⟩) H0.out ?_
    try simp only [Act.put, List.getElem_toArray, List.getElem_cons_succ, List.getElem_cons_zero, List.setIfInBounds_toArray, List.set_cons_zero, List.set_cons_succ]
    refine wpAnyH_take (i := 2) (v := .bool false) rfl (by kernel_rfl) (by kernel_rfl) (by kernel_rfl) (fun _ _ _ h => h) (Or.inl ⟨by rfl, fun W hW => by clear hW; go_simp⟩) H0.out ?_
    try simp only [Act.put, List.getElem_toArray, List.getElem_cons_succ, List.getElem_cons_zero, List.setIfInBounds_toArray, List.set_cons_zero, List.set_cons_succ]
    refine wpAnyH_take (i := 3) (v := .pointer (some ⟨g1, 0, none⟩)) rfl (by kernel_rfl) (by kernel_rfl) (by kernel_rfl) (fun _ _ _ h => h) (Or.inl ⟨by rfl, fun W hW => by clear hW; go_simp⟩) H0.out ?_
    try simp only [Act.put, List.getElem_toArray, List.getElem_cons_succ, List.getElem_cons_zero, List.setIfInBounds_toArray, List.set_cons_zero, List.set_cons_succ]
    refine wpAnyH_take (i := 4) (v := .int .u64 (M' : Int)) rfl (by kernel_rfl) (by kernel_rfl) (by kernel_rfl) (fun _ _ _ h => h) (Or.inl ⟨by rfl, fun W hW => by have hc := hW.cell 2 rfl 0 (.int .u64 (M' : Int)) rfl; clear hW; go_simp⟩) H0.out ?_
    try simp only [Act.put, List.getElem_toArray, List.getElem_cons_succ, List.getElem_cons_zero, List.setIfInBounds_toArray, List.set_cons_zero, List.set_cons_succ]
    refine wpAnyH_take (i := 5) (v := .pointer (some ⟨W1.heap.size, 0, none⟩)) rfl (by kernel_rfl) (by kernel_rfl) (by kernel_rfl) (fun _ _ _ h => h) (Or.inl ⟨by rfl, fun W hW => by clear hW; go_simp⟩) H0.out ?_
    try simp only [Act.put, List.getElem_toArray, List.getElem_cons_succ, List.getElem_cons_zero, List.setIfInBounds_toArray, List.set_cons_zero, List.set_cons_succ]
    refine wpAnyH_take (i := 6) (v := .int .u64 (M : Int)) rfl (by kernel_rfl) (by kernel_rfl) (by kernel_rfl) (fun _ _ _ h => h) (Or.inl ⟨by rfl, fun W hW => by have hc := hW.cell 1 rfl 0 (.int .u64 (M : Int)) rfl; clear hW; go_simp⟩) H0.out ?_
    try simp only [Act.put, List.getElem_toArray, List.getElem_cons_succ, List.getElem_cons_zero, List.setIfInBounds_toArray, List.set_cons_zero, List.set_cons_succ]
    refine wpAnyH_take (i := 7) (v := .bool true) rfl (by kernel_rfl) (by kernel_rfl) (by kernel_rfl) (fun _ _ _ h => h) (Or.inl ⟨by rfl, fun W hW => by clear hW; go_simp⟩) H0.out ?_
    try simp only [Act.put, List.getElem_toArray, List.getElem_cons_succ, List.getElem_cons_zero, List.setIfInBounds_toArray, List.set_cons_zero, List.set_cons_succ]
    refine wpAnyH_take (i := 8) (v := .bool true) rfl (by kernel_rfl) (by kernel_rfl) (by kernel_rfl) (fun _ _ _ h => h) (Or.inl ⟨by rfl, fun W hW => by clear hW; go_simp⟩) H0.out ?_
    try simp only [Act.put, List.getElem_toArray, List.getElem_cons_succ, List.getElem_cons_zero, List.setIfInBounds_toArray, List.set_cons_zero, List.set_cons_succ]
    refine wpAnyH_take (i := 9) (v := .bool true) rfl (by kernel_rfl) (by kernel_rfl) (by kernel_rfl) (fun _ _ _ h => h) (Or.inl ⟨by rfl, fun W hW => by clear hW; go_simp⟩) H0.out ?_
    try simp only [Act.put, List.getElem_toArray, List.getElem_cons_succ, List.getElem_cons_zero, List.setIfInBounds_toArray, List.set_cons_zero, List.set_cons_succ]
    refine wpAnyH_take (i := 10) (v := undef) rfl (by kernel_rfl) (by kernel_rfl) (by kernel_rfl) (fun _ _ _ h => h) (Or.inr ⟨by rfl, rfl⟩) H0.out ?_
    try simp only [Act.put, List.getElem_toArray, List.getElem_cons_succ, List.getElem_cons_zero, List.setIfInBounds_toArray, List.set_cons_zero, List.set_cons_succ]
    refine wpAnyH_take (i := 11) (v := undef) rfl (by kernel_rfl) (by kernel_rfl) (by kernel_rfl) (fun _ _ _ h => h) (Or.inr ⟨by rfl, rfl⟩) H0.out ?_
    try simp only [Act.put, List.getElem_toArray, List.getElem_cons_succ, List.getElem_cons_zero, List.setIfInBounds_toArray, List.set_cons_zero, List.set_cons_succ]
    refine wpAnyH_take (i := 12) (v := undef) rfl (by kernel_rfl) (by kernel_rfl) (by kernel_rfl) (fun _ _ _ h => h) (Or.inr ⟨by rfl, rfl⟩) H0.out ?_
    try simp only [Act.put, List.getElem_toArray, List.getElem_cons_succ, List.getElem_cons_zero, List.setIfInBounds_toArray, List.set_cons_zero, List.set_cons_succ]
    refine wpAnyH_take (i := 13) (v := undef) rfl (by kernel_rfl) (by kernel_rfl) (by kernel_rfl) (fun _ _ _ h => h) (Or.inr ⟨by rfl, rfl⟩) H0.out ?_
    try simp only [Act.put, List.getElem_toArray, List.getElem_cons_succ, List.getElem_cons_zero, List.setIfInBounds_toArray, List.set_cons_zero, List.set_cons_succ]
    refine wpAnyH_take (i := 14) (v := undef) rfl (by kernel_rfl) (by kernel_rfl) (by kernel_rfl) (fun _ _ _ h => h) (Or.inr ⟨by rfl, rfl⟩) H0.out ?_
    try simp only [Act.put, List.getElem_toArray, List.getElem_cons_succ, List.getElem_cons_zero, List.setIfInBounds_toArray, List.set_cons_zero, List.set_cons_succ]
    refine wpAnyH_take (i := 15) (v := undef) rfl (by kernel_rfl) (by kernel_rfl) (by kernel_rfl) (fun _ _ _ h => h) (Or.inr ⟨by rfl, rfl⟩) H0.out ?_
    try simp only [Act.put, List.getElem_toArray, List.getElem_cons_succ, List.getElem_cons_zero, List.setIfInBounds_toArray, List.set_cons_zero, List.set_cons_succ]
    refine wpAnyH_take (i := 16) (v := undef) rfl (by kernel_rfl) (by kernel_rfl) (by kernel_rfl) (fun _ _ _ h => h) (Or.inr ⟨by rfl, rfl⟩) H0.out ?_
    try simp only [Act.put, List.getElem_toArray, List.getElem_cons_succ, List.getElem_cons_zero, List.setIfInBounds_toArray, List.set_cons_zero, List.set_cons_succ]
    refine wpAnyH_take (i := 17) (v := undef) rfl (by kernel_rfl) (by kernel_rfl) (by kernel_rfl) (fun _ _ _ h => h) (Or.inr ⟨by rfl, rfl⟩) H0.out ?_
    try simp only [Act.put, List.getElem_toArray, List.getElem_cons_succ, List.getElem_cons_zero, List.setIfInBounds_toArray, List.set_cons_zero, List.set_cons_succ]
    refine wpAnyH_take (i := 18) (v := undef) rfl (by kernel_rfl) (by kernel_rfl) (by kernel_rfl) (fun _ _ _ h => h) (Or.inr ⟨by rfl, rfl⟩) H0.out ?_
    try simp only [Act.put, List.getElem_toArray, List.getElem_cons_succ, List.getElem_cons_zero, List.setIfInBounds_toArray, List.set_cons_zero, List.set_cons_succ]
    refine wpAnyH_take (i := 19) (v := undef) rfl (by kernel_rfl) (by kernel_rfl) (by kernel_rfl) (fun _ _ _ h => h) (Or.inr ⟨by rfl, rfl⟩) H0.out ?_
    try simp only [Act.put, List.getElem_toArray, List.getElem_cons_succ, List.getElem_cons_zero, List.setIfInBounds_toArray, List.set_cons_zero, List.set_cons_succ]
    refine wpAnyH_take (i := 20) (v := undef) rfl (by kernel_rfl) (by kernel_rfl) (by kernel_rfl) (fun _ _ _ h => h) (Or.inr ⟨by rfl, rfl⟩) H0.out ?_
    try simp only [Act.put, List.getElem_toArray, List.getElem_cons_succ, List.getElem_cons_zero, List.setIfInBounds_toArray, List.set_cons_zero, List.set_cons_succ]
    refine wpAnyH_take (i := 21) (v := undef) rfl (by kernel_rfl) (by kernel_rfl) (by kernel_rfl) (fun _ _ _ h => h) (Or.inr ⟨by rfl, rfl⟩) H0.out ?_
    try simp only [Act.put, List.getElem_toArray, List.getElem_cons_succ, List.getElem_cons_zero, List.setIfInBounds_toArray, List.set_cons_zero, List.set_cons_succ]
    refine wpAnyH_take (i := 22) (v := undef) rfl (by kernel_rfl) (by kernel_rfl) (by kernel_rfl) (fun _ _ _ h => h) (Or.inr ⟨by rfl, rfl⟩) H0.out ?_
    try simp only [Act.put, List.getElem_toArray, List.getElem_cons_succ, List.getElem_cons_zero, List.setIfInBounds_toArray, List.set_cons_zero, List.set_cons_succ]
    refine wpAnyH_take (i := 23) (v := undef) rfl (by kernel_rfl) (by kernel_rfl) (by kernel_rfl) (fun _ _ _ h => h) (Or.inr ⟨by rfl, rfl⟩) H0.out ?_
    try simp only [Act.put, List.getElem_toArray, List.getElem_cons_succ, List.getElem_cons_zero, List.setIfInBounds_toArray, List.set_cons_zero, List.set_cons_succ]
    refine wpAnyH_take (i := 24) (v := undef) rfl (by kernel_rfl) (by kernel_rfl) (by kernel_rfl) (fun _ _ _ h => h) (Or.inr ⟨by rfl, rfl⟩) H0.out ?_
    try simp only [Act.put, List.getElem_toArray, List.getElem_cons_succ, List.getElem_cons_zero, List.setIfInBounds_toArray, List.set_cons_zero, List.set_cons_succ]
    refine wpAnyH_take (i := 25) (v := undef) rfl (by kernel_rfl) (by kernel_rfl) (by kernel_rfl) (fun _ _ _ h => h) (Or.inr ⟨by rfl, rfl⟩) H0.out ?_
    try simp only [Act.put, List.getElem_toArray, List.getElem_cons_succ, List.getElem_cons_zero, List.setIfInBounds_toArray, List.set_cons_zero, List.set_cons_succ]
    refine wpAnyH_take (i := 26) (v := undef) rfl (by kernel_rfl) (by kernel_rfl) (by kernel_rfl) (fun _ _ _ h => h) (Or.inr ⟨by rfl, rfl⟩) H0.out ?_
    try simp only [Act.put, List.getElem_toArray, List.getElem_cons_succ, List.getElem_cons_zero, List.setIfInBounds_toArray, List.set_cons_zero, List.set_cons_succ]
    refine wpAnyH_take (i := 27) (v := undef) rfl (by kernel_rfl) (by kernel_rfl) (by kernel_rfl) (fun _ _ _ h => h) (Or.inr ⟨by rfl, rfl⟩) H0.out ?_
    try simp only [Act.put, List.getElem_toArray, List.getElem_cons_succ, List.getElem_cons_zero, List.setIfInBounds_toArray, List.set_cons_zero, List.set_cons_succ]
    refine wpAnyH_take (i := 28) (v := .bool true) rfl (by kernel_rfl) (by kernel_rfl) (by kernel_rfl) (fun _ _ _ h => h) (Or.inl ⟨by rfl, fun W hW => by clear hW; go_simp⟩) H0.out ?_
    try simp only [Act.put, List.getElem_toArray, List.getElem_cons_succ, List.getElem_cons_zero, List.setIfInBounds_toArray, List.set_cons_zero, List.set_cons_succ]
    refine wpAnyH_take (i := 29) (v := .bool true) rfl (by kernel_rfl) (by kernel_rfl) (by kernel_rfl) (fun _ _ _ h => h) (Or.inl ⟨by rfl, fun W hW => by clear hW; go_simp⟩) H0.out ?_
    try simp only [Act.put, List.getElem_toArray, List.getElem_cons_succ, List.getElem_cons_zero, List.setIfInBounds_toArray, List.set_cons_zero, List.set_cons_succ]
    refine wpAnyH_done (by kernel_rfl) ?_ _
    go_wp2
    go_ret
    exact ⟨rfl, H0.out.bel⟩
end Go.Proofs.Ytcepncdolbfcfaa
