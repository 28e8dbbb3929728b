/- The law of counters' bytes. No statement is proved here. -/
import Derived.Test.YtcepncdolbfcfaaCodePlain
namespace Go.Proofs.Ytcepncdolbfcfaa
open Go.RowKit
set_option linter.unusedVariables false
set_option linter.unusedSimpArgs false
attribute [local irreducible] arrV shaped Ls right putN iarr cb fitP cnL

theorem yields_build33 {ops : Array Oper} {S : World → Prop} {o : Oper} {a : Act} (ho : o.op = .build 33 #[]) (hw : Region.wanted o (yielded ops a.tmps) = true) : YieldsIf Try.prog ops S o (.agg (arrV zeros)) a :=
  .inl ⟨hw, fun W hW => by
    unfold execOp
    have := run_build (P := Try.prog) W 33 #[] (arrV zeros) build33
    simp only [ho, Sem.run_bind, Result.andThen_ok, Sem.run_pure]
    simp [this]⟩
theorem wrg_one {p : Pl} {M : Nat} {ms : List Int} (hp : right p = true) (h : wrg p M ms ≠ 0) : wrg p M ms = 1 := by
  unfold wrg at *
  rw [hp] at *
  simp only [if_true] at *
  by_cases hc : (M : Int) ≤ p.ma ∧ (ms.length : Int) = p.li ∧ ms.any (bad (mst p.mi.toNat)) = false
  · rw [if_pos hc] at h; exact absurd rfl h
  · rw [if_neg hc]
theorem wrg_four {p : Pl} {M : Nat} {ms : List Int} (hp : right p = false) : wrg p M ms = 4 := by unfold wrg; rw [hp]; rfl
set_option maxHeartbeats 8000000 in
set_option maxRecDepth 20000 in
theorem countersLaw_any (p : Pl) (M n c : Nat) (A : Option Addr) (ms : List Int) (bs : List Nat) (w : World) (hr : IRow w w.heap.size A n c ms) (hb : IsLine bs) :
    Calls Try.prog 3 #[.agg p.arr, .agg #[.int .u64 M, .slice A n c], .agg (arrV bs)] w fun e w' => e = .returned (.bool true) ∧ Below w.heap.size w w' := by
  have SK := Lib.hid (fun W => speaks_true W)
  have SP := Lib.hid (show (Try.prog.info? 28).map (·.size) = some p.arr.size by rw [p.arr_size]; exact sz28)
  have SB := Lib.hid (sz33 hb.len)
  have h0 := St.nil w
  have mx := hr.max
  have hl := hr.len
  have HR := Lib.hid hr
  clear hr
  by_cases h1 : 60 < n
  · go_enter Try.func3, Try.ntmps3
    go_wp2_with (first
      | (refine wpList_box_st h0 28 _ rfl rfl p.arr rfl ?_; clear h0; intro W1 h1 _ _)
      | (refine wpList_box_st h1 31 _ rfl rfl #[.int .u64 (M : Int), .slice A n c] rfl ?_; clear h1; intro W2 h2 _ _)
      | (refine wpList_box_st h2 33 _ rfl rfl (arrV bs) rfl ?_; clear h2; intro W3 h3 _ _)
      | (go_at_call 9; refine (SK.out _).mono ?_; rintro e W4 ⟨rfl, hb⟩; have h4 := h3.call hb; clear h3 hb; have d1 := h4.cell 1 rfl 1 (.slice A n c) rfl))
    go_ret
    exact ⟨rfl, h4.bel⟩
  have RW := Lib.hid (fun W h => refWrong_any p M A n c ms W h (by omega))
  cases hp : right p
  · have hw := wrg_four (M := M) (ms := ms) hp
    have CC := Lib.hid (fun W h => counters_no p M A n c ms W h (by omega) (by rw [hw]; decide))
    have CN := Lib.hid (fun W => count_no p bs W hp)
    rw [hw] at RW CC
    have SX := Lib.hid (sz33 zeros_len)
    have SXa := Lib.hid (arrV_all zeros)
    have q1 := fun W => eql_line zeros zeros zeros_line zeros_line W
    rw [decide_eq_true rfl] at q1
    have SM : Hid (∀ A1 c1 W, IRow W W.heap.size A1 0 c1 [] → Calls Try.prog 13 #[.agg #[.int .u64 0, .slice A1 0 c1], .agg #[.int .u64 0, .slice none 0 0]] W fun e w' => e = .returned (.bool true) ∧ Below W.heap.size W w') := fun A1 c1 W h1 => by
      have := refSame_any 0 0 0 0 c1 0 A1 none [] [] W h1 (IRow.nil_ _ _)
      rw [decide_eq_true ⟨rfl, rfl⟩] at this
      exact this
    clear hw hp
    go_enter Try.func3, Try.ntmps3
    go_wp2_with (first
      | (refine wpList_box_st h0 28 _ rfl rfl p.arr rfl ?_; clear h0; intro W1 h1 _ _)
      | (refine wpList_box_st h1 31 _ rfl rfl #[.int .u64 (M : Int), .slice A n c] rfl ?_; clear h1; intro W2 h2 _ _)
      | (refine wpList_box_st h2 33 _ rfl rfl (arrV bs) rfl ?_; clear h2; intro W3 h3 _ _)
      | (go_at_call 9; refine (SK.out _).mono ?_; rintro e W4 ⟨rfl, hb⟩; have h4 := h3.call hb; clear h3 hb; have d1 := h4.cell 1 rfl 1 (.slice A n c) rfl)
      | (refine wpList_load_st h4 0 rfl 28 _ _ rfl rfl rfl Try.underlying28 rfl SP.out ?_)
      | (refine wpList_load_st h4 1 rfl 31 _ _ rfl rfl rfl Try.underlying31 rfl sz31 ?_)
      | (go_at_call 10; refine (CC.out _ ((HR.out.below h4.bel).wider h4.bel.size)).mono ?_; rintro e W5 ⟨rfl, hb⟩; have h5 := h4.call hb; clear h4 hb d1)
      | (refine wpList_alloc_st h5 33 rfl rfl _ (arrV zeros) zv33 rfl ?_; clear h5; intro W6 h6 _ _)
      | (refine wpList_store_st h6 3 rfl 33 _ _ rfl rfl rfl rfl SX.out rfl SXa.out ?_; clear h6; intro W7 h7 _)
      | (refine wpList_load_st h7 0 rfl 28 _ _ rfl rfl rfl Try.underlying28 rfl SP.out ?_)
      | (refine wpList_load_st h7 1 rfl 31 _ _ rfl rfl rfl Try.underlying31 rfl sz31 ?_)
      | (go_at_call 11; refine (RW.out _ ((HR.out.below h7.bel).wider h7.bel.size)).mono ?_; rintro e W8 ⟨rfl, hb⟩; have h8 := h7.call hb; clear h7 hb)
      | (refine wpList_load_st h8 0 rfl 28 _ _ rfl rfl rfl Try.underlying28 rfl SP.out ?_)
      | (refine wpList_load_st h8 2 rfl 33 _ _ rfl rfl rfl Try.underlying33 rfl SB.out ?_)
      | (go_at_call 12; have _ := h8; refine (CN.out _).mono ?_; rintro e W9 ⟨A8, c8, rfl, hr8, hb⟩; have h9 := h8.call hb; clear h8 hb)
      | (refine wpList_alloc_st h9 31 rfl rfl _ #[.int .u64 0, .slice none 0 0] zv31 rfl ?_; clear h9; intro W10 h10 _ b10; replace hr8 := hr8.below b10; have z10 := b10.size; clear b10)
      | (refine wpList_store_st h10 4 rfl 31 _ _ rfl rfl rfl rfl sz31 rfl (cell2 _ _ _ _) ?_; intro W11 h11 hg11; replace hr8 := (hr8.beside hg11 z10).wider (Nat.le_trans z10 hg11.size); clear h10 hg11 z10)
      | (refine wpList_load_st h11 3 rfl 33 _ _ rfl rfl rfl Try.underlying33 rfl SX.out ?_)
      | (refine wpList_build_as 33 #[] rfl rfl (arrV zeros) (by simpa using build33) ?_)
      | (refine wpList_load_st h11 4 rfl 31 _ _ rfl rfl rfl Try.underlying31 rfl sz31 ?_)
      | (go_at_call 13; refine (SM.out _ _ _ hr8).mono ?_; rintro e W12 ⟨rfl, hb2⟩; have h12 := h11.call hb2))
    go_ret
    exact ⟨rfl, h12.bel⟩
  have hmi := right_mi hp
  have hli := right_li hp
  obtain ⟨n0, hp3⟩ : ∃ k : Nat, p.li = (k : Int) := ⟨p.li.toNat, by omega⟩
  obtain ⟨m, hp5⟩ : ∃ k : Nat, p.mi = (k : Int) := ⟨p.mi.toNat, by omega⟩
  by_cases hw : wrg p M ms = 0
  · obtain ⟨n', m', hg, hq3, hq5, -, -, -⟩ := wrg_good hw
    obtain rfl : n0 = n' := by omega
    obtain rfl : m = m' := by omega
    have en := hg.len
    obtain rfl : n = n0 := by omega
    have SM : Hid (∀ A1 A2 c1 c2 W, IRow W W.heap.size A1 n c1 (cnL bs m n) → IRow W W.heap.size A2 n c2 (cnL bs m n) → Calls Try.prog 13 #[.agg #[.int .u64 (le (bs.take 8) : Nat), .slice A1 n c1], .agg #[.int .u64 (le (bs.take 8) : Nat), .slice A2 n c2]] W fun e w' => e = .returned (.bool true) ∧ Below W.heap.size W w') := fun A1 A2 c1 c2 W h1 h2 => by
      have := refSame_any (le (bs.take 8)) (le (bs.take 8)) n n c1 c2 A1 A2 (cnL bs m n) (cnL bs m n) W h1 h2
      rw [decide_eq_true ⟨rfl, rfl⟩] at this
      exact this
    have RC := Lib.hid (fun W => refCount_any p bs n m W hp hb.len hb.lt hp3 hp5)
    have CN := Lib.hid (fun W => count_yes p bs n m W hp hb.len hb.lt hp3 hp5)
    have CC := Lib.hid (fun W h => counters_yes p M n m c A ms W h hg hp3 hp5 hw)
    have RX := Lib.hid (fun W h => refCounters_any p M n m c A ms W h hg hp3 hp5)
    have hx := cb_line M ms m n
    have CB : Hid (∀ W, Calls Try.prog 12 #[.agg p.arr, .agg (arrV (cb M ms m n))] W (GivesC W M ms n 0)) := fun W => by
      have := count_yes p (cb M ms m n) n m W hp hx.len hx.lt hp3 hp5
      rw [cb_major M ms m n hg.M64, cnL_cb M n m ms hg] at this
      exact this
    have SB2 : Hid (∀ A1 A2 c1 c2 W, IRow W W.heap.size A1 n c1 ms → IRow W W.heap.size A2 n c2 ms → Calls Try.prog 13 #[.agg #[.int .u64 M, .slice A1 n c1], .agg #[.int .u64 M, .slice A2 n c2]] W fun e w' => e = .returned (.bool true) ∧ Below W.heap.size W w') := fun A1 A2 c1 c2 W h1 h2 => by
      have := refSame_any M M n n c1 c2 A1 A2 ms ms W h1 h2
      rw [decide_eq_true ⟨rfl, rfl⟩] at this
      exact this
    rw [hw] at RW
    have q1 := fun W => eql_line (cb M ms m n) (cb M ms m n) hx hx W
    rw [decide_eq_true rfl] at q1
    have lx := hx.len
    generalize cb M ms m n = xs at *
    generalize le (bs.take 8) = R at *
    generalize cnL bs m n = cs at *
    have SX := Lib.hid (sz33 lx)
    have SXz : Hid ((arrV xs).size = (arrV zeros).size) := by rw [arrV_size, arrV_size, lx]; exact rfl
    have SXa := Lib.hid (arrV_all xs)
    clear hw hg hq3 hq5 hp hp3 hp5 hx lx en hmi hli hb
    go_enter Try.func3, Try.ntmps3
    go_wp2_with (first
      | (refine wpList_box_st h0 28 _ rfl rfl p.arr rfl ?_; clear h0; intro W1 h1 _ _)
      | (refine wpList_box_st h1 31 _ rfl rfl #[.int .u64 (M : Int), .slice A n c] rfl ?_; clear h1; intro W2 h2 _ _)
      | (refine wpList_box_st h2 33 _ rfl rfl (arrV bs) rfl ?_; clear h2; intro W3 h3 _ _)
      | (go_at_call 9; refine (SK.out _).mono ?_; rintro e W4 ⟨rfl, hb⟩; have h4 := h3.call hb; clear h3 hb; have d1 := h4.cell 1 rfl 1 (.slice A n c) rfl)
      | (refine wpList_load_st h4 0 rfl 28 _ _ rfl rfl rfl Try.underlying28 rfl SP.out ?_)
      | (refine wpList_load_st h4 1 rfl 31 _ _ rfl rfl rfl Try.underlying31 rfl sz31 ?_)
      | (go_at_call 10; refine (CC.out _ ((HR.out.below h4.bel).wider h4.bel.size)).mono ?_; rintro e W5 ⟨rfl, hb⟩; have h5 := h4.call hb; clear h4 hb d1)
      | (refine wpList_alloc_st h5 33 rfl rfl _ (arrV zeros) zv33 rfl ?_; clear h5; intro W6 h6 _ _)
      | (refine wpList_store_st h6 3 rfl 33 _ _ rfl rfl rfl rfl SX.out SXz.out SXa.out ?_; clear h6; intro W7 h7 _)
      | (refine wpList_load_st h7 0 rfl 28 _ _ rfl rfl rfl Try.underlying28 rfl SP.out ?_)
      | (refine wpList_load_st h7 1 rfl 31 _ _ rfl rfl rfl Try.underlying31 rfl sz31 ?_)
      | (go_at_call 11; refine (RW.out _ ((HR.out.below h7.bel).wider h7.bel.size)).mono ?_; rintro e W8 ⟨rfl, hb⟩; have h8 := h7.call hb; clear h7 hb)
      | (refine wpList_load_st h8 0 rfl 28 _ _ rfl rfl rfl Try.underlying28 rfl SP.out ?_)
      | (refine wpList_load_st h8 2 rfl 33 _ _ rfl rfl rfl Try.underlying33 rfl SB.out ?_)
      | (go_at_call 12; have _ := h8; refine (CN.out _).mono ?_; rintro e W9 ⟨A8, c8, rfl, hr8, hb⟩; have h9 := h8.call hb; clear h8 hb)
      | (refine wpList_alloc_st h9 31 rfl rfl _ #[.int .u64 0, .slice none 0 0] zv31 rfl ?_; clear h9; intro W10 h10 _ b10; replace hr8 := hr8.below b10; have z10 := b10.size; clear b10)
      | (refine wpList_store_st h10 4 rfl 31 _ _ rfl rfl rfl rfl sz31 rfl (cell2 _ _ _ _) ?_; intro W11 h11 hg11; replace hr8 := (hr8.beside hg11 z10).wider (Nat.le_trans z10 hg11.size); clear h10 hg11 z10))
    have H0 := Lib.hid h11.drew
    have e11 : IRow W11.drew W11.drew.heap.size A8 n c8 cs := hr8
    refine wp_region_held_drew (S := fun W => St w W [(w.heap.size, 28, p.arr), (W1.heap.size, 31, #[.int .u64 (M : Int), .slice A n c]), (W2.heap.size, 33, arrV bs), (W5.heap.size, 33, arrV xs), (W9.heap.size, 31, #[.int .u64 (R : Int), .slice A8 n c8])]) (by kernel_rfl) H0.out (fun _ => ?_)
    clear hr8
    have hr8 := e11
    clear e11
    generalize W11.drew = V0 at *
    generalize W5.heap.size = g7 at *
    generalize W9.heap.size = g10 at *
    clear h11
    refine wpAnyH_take (i := 0) (v := .int .i64 0) rfl (by kernel_rfl) (by kernel_rfl) (by kernel_rfl) (fun _ _ _ h => h) (Or.inl ⟨by rfl, fun W hW => by clear hW; go_simp⟩) H0.out ?_
    try simp only [Act.put, List.getElem_toArray, List.getElem_cons_succ, List.getElem_cons_zero, List.setIfInBounds_toArray, List.set_cons_zero, List.set_cons_succ]
    refine wpAnyH_take (i := 1) (v := .bool false) rfl (by kernel_rfl) (by kernel_rfl) (by kernel_rfl) (fun _ _ _ h => h) (Or.inl ⟨by rfl, fun W hW => by clear hW; go_simp⟩) H0.out ?_
    try simp only [Act.put, List.getElem_toArray, List.getElem_cons_succ, List.getElem_cons_zero, List.setIfInBounds_toArray, List.set_cons_zero, List.set_cons_succ]
    refine wpAnyH_take (i := 2) (v := .bool false) rfl (by kernel_rfl) (by kernel_rfl) (by kernel_rfl) (fun _ _ _ h => h) (Or.inl ⟨by rfl, fun W hW => by clear hW; go_simp⟩) H0.out ?_
    try simp only [Act.put, List.getElem_toArray, List.getElem_cons_succ, List.getElem_cons_zero, List.setIfInBounds_toArray, List.set_cons_zero, List.set_cons_succ]
    refine wpAnyH_take (i := 3) (v := .agg #[.int .u64 (R : Int), .slice A8 n c8]) rfl (by kernel_rfl) (by kernel_rfl) (by kernel_rfl) (fun _ _ _ h => h) (yields_at 31 _ _ rfl (by rfl) rfl Try.underlying31 rfl sz31 (fun W hW => hW.get 4 rfl)) H0.out ?_
    try simp only [Act.put, List.getElem_toArray, List.getElem_cons_succ, List.getElem_cons_zero, List.setIfInBounds_toArray, List.set_cons_zero, List.set_cons_succ]
    refine wpAnyH_take (i := 4) (v := .agg p.arr) rfl (by kernel_rfl) (by kernel_rfl) (by kernel_rfl) (fun _ _ _ h => h) (yields_at 28 _ _ rfl (by rfl) rfl Try.underlying28 rfl SP.out (fun W hW => hW.get 0 rfl)) H0.out ?_
    try simp only [Act.put, List.getElem_toArray, List.getElem_cons_succ, List.getElem_cons_zero, List.setIfInBounds_toArray, List.set_cons_zero, List.set_cons_succ]
    refine wpAnyH_take (i := 5) (v := .agg (arrV bs)) rfl (by kernel_rfl) (by kernel_rfl) (by kernel_rfl) (fun _ _ _ h => h) (yields_at 33 _ _ rfl (by rfl) rfl Try.underlying33 rfl SB.out (fun W hW => hW.get 2 rfl)) H0.out ?_
    try simp only [Act.put, List.getElem_toArray, List.getElem_cons_succ, List.getElem_cons_zero, List.setIfInBounds_toArray, List.set_cons_zero, List.set_cons_succ]
    refine wpAnyH_ready (rs := [6]) (by kernel_rfl) (by simp) ?_
    refine AllReadyH.cons rfl (fun K hK => ?_) AllReadyH.nil
    go_simp
    go_at_call 14
    refine (RC.out _).mono ?_
    rintro e V1 ⟨A9, c9, rfl, hr9, hb⟩
    have H1_ := Lib.hid (H0.out.call hb)
    replace hr8 := (hr8.below hb).wider hb.size
    clear hb
    refine hK.out _ _ H1_.out (fun _ => ?_)
    clear hK K
    try simp only [Act.put, List.getElem_toArray, List.getElem_cons_succ, List.getElem_cons_zero, List.setIfInBounds_toArray, List.set_cons_zero, List.set_cons_succ]
    refine wpAnyH_ready (rs := [7]) (by kernel_rfl) (by simp) ?_
    refine AllReadyH.cons rfl (fun K hK => ?_) AllReadyH.nil
    go_simp
    go_at_call 13
    refine (SM.out _ _ _ _ _ hr8 hr9).mono ?_
    rintro e V2 ⟨rfl, hb⟩
    have H2_ := Lib.hid (H1_.out.call hb)
    clear hb
    refine hK.out _ _ H2_.out (fun _ => ?_)
    clear hK K
    try simp only [Act.put, List.getElem_toArray, List.getElem_cons_succ, List.getElem_cons_zero, List.setIfInBounds_toArray, List.set_cons_zero, List.set_cons_succ]
    refine wpAnyH_take (i := 8) (v := .bool false) rfl (by kernel_rfl) (by kernel_rfl) (by kernel_rfl) (fun _ _ _ h => h) (Or.inl ⟨by rfl, fun W hW => by clear hW; go_simp⟩) H2_.out ?_
    try simp only [Act.put, List.getElem_toArray, List.getElem_cons_succ, List.getElem_cons_zero, List.setIfInBounds_toArray, List.set_cons_zero, List.set_cons_succ]
    refine wpAnyH_take (i := 9) (v := .bool false) rfl (by kernel_rfl) (by kernel_rfl) (by kernel_rfl) (fun _ _ _ h => h) (Or.inl ⟨by rfl, fun W hW => by clear hW; go_simp⟩) H2_.out ?_
    try simp only [Act.put, List.getElem_toArray, List.getElem_cons_succ, List.getElem_cons_zero, List.setIfInBounds_toArray, List.set_cons_zero, List.set_cons_succ]
    refine wpAnyH_take (i := 10) (v := .bool false) rfl (by kernel_rfl) (by kernel_rfl) (by kernel_rfl) (fun _ _ _ h => h) (Or.inl ⟨by rfl, fun W hW => by clear hW; go_simp⟩) H2_.out ?_
    try simp only [Act.put, List.getElem_toArray, List.getElem_cons_succ, List.getElem_cons_zero, List.setIfInBounds_toArray, List.set_cons_zero, List.set_cons_succ]
    refine wpAnyH_take (i := 11) (v := .int .i64 0) rfl (by kernel_rfl) (by kernel_rfl) (by kernel_rfl) (fun _ _ _ h => h) (Or.inl ⟨by rfl, fun W hW => by clear hW; go_simp⟩) H2_.out ?_
    try simp only [Act.put, List.getElem_toArray, List.getElem_cons_succ, List.getElem_cons_zero, List.setIfInBounds_toArray, List.set_cons_zero, List.set_cons_succ]
    refine wpAnyH_take (i := 12) (v := .int .i64 0) rfl (by kernel_rfl) (by kernel_rfl) (by kernel_rfl) (fun _ _ _ h => h) (Or.inl ⟨by rfl, fun W hW => by clear hW; go_simp⟩) H2_.out ?_
    try simp only [Act.put, List.getElem_toArray, List.getElem_cons_succ, List.getElem_cons_zero, List.setIfInBounds_toArray, List.set_cons_zero, List.set_cons_succ]
    refine wpAnyH_take (i := 13) (v := .bool false) rfl (by kernel_rfl) (by kernel_rfl) (by kernel_rfl) (fun _ _ _ h => h) (Or.inl ⟨by rfl, fun W hW => by clear hW; go_simp⟩) H2_.out ?_
    try simp only [Act.put, List.getElem_toArray, List.getElem_cons_succ, List.getElem_cons_zero, List.setIfInBounds_toArray, List.set_cons_zero, List.set_cons_succ]
    refine wpAnyH_take (i := 14) (v := .bool false) rfl (by kernel_rfl) (by kernel_rfl) (by kernel_rfl) (fun _ _ _ h => h) (Or.inl ⟨by rfl, fun W hW => by clear hW; go_simp⟩) H2_.out ?_
    try simp only [Act.put, List.getElem_toArray, List.getElem_cons_succ, List.getElem_cons_zero, List.setIfInBounds_toArray, List.set_cons_zero, List.set_cons_succ]
    refine wpAnyH_take (i := 15) (v := .bool false) rfl (by kernel_rfl) (by kernel_rfl) (by kernel_rfl) (fun _ _ _ h => h) (Or.inl ⟨by rfl, fun W hW => by clear hW; go_simp⟩) H2_.out ?_
    try simp only [Act.put, List.getElem_toArray, List.getElem_cons_succ, List.getElem_cons_zero, List.setIfInBounds_toArray, List.set_cons_zero, List.set_cons_succ]
    refine wpAnyH_take (i := 16) (v := .int .i64 0) rfl (by kernel_rfl) (by kernel_rfl) (by kernel_rfl) (fun _ _ _ h => h) (Or.inl ⟨by rfl, fun W hW => by clear hW; go_simp⟩) H2_.out ?_
    try simp only [Act.put, List.getElem_toArray, List.getElem_cons_succ, List.getElem_cons_zero, List.setIfInBounds_toArray, List.set_cons_zero, List.set_cons_succ]
    refine wpAnyH_take (i := 17) (v := .bool false) rfl (by kernel_rfl) (by kernel_rfl) (by kernel_rfl) (fun _ _ _ h => h) (Or.inl ⟨by rfl, fun W hW => by clear hW; go_simp⟩) H2_.out ?_
    try simp only [Act.put, List.getElem_toArray, List.getElem_cons_succ, List.getElem_cons_zero, List.setIfInBounds_toArray, List.set_cons_zero, List.set_cons_succ]
    refine wpAnyH_take (i := 18) (v := .bool false) rfl (by kernel_rfl) (by kernel_rfl) (by kernel_rfl) (fun _ _ _ h => h) (Or.inl ⟨by rfl, fun W hW => by clear hW; go_simp⟩) H2_.out ?_
    try simp only [Act.put, List.getElem_toArray, List.getElem_cons_succ, List.getElem_cons_zero, List.setIfInBounds_toArray, List.set_cons_zero, List.set_cons_succ]
    refine wpAnyH_take (i := 19) (v := undef) rfl (by kernel_rfl) (by kernel_rfl) (by kernel_rfl) (fun _ _ _ h => h) (Or.inr ⟨by rfl, rfl⟩) H2_.out ?_
    try simp only [Act.put, List.getElem_toArray, List.getElem_cons_succ, List.getElem_cons_zero, List.setIfInBounds_toArray, List.set_cons_zero, List.set_cons_succ]
    refine wpAnyH_take (i := 20) (v := undef) rfl (by kernel_rfl) (by kernel_rfl) (by kernel_rfl) (fun _ _ _ h => h) (Or.inr ⟨by rfl, rfl⟩) H2_.out ?_
    try simp only [Act.put, List.getElem_toArray, List.getElem_cons_succ, List.getElem_cons_zero, List.setIfInBounds_toArray, List.set_cons_zero, List.set_cons_succ]
    refine wpAnyH_take (i := 21) (v := undef) rfl (by kernel_rfl) (by kernel_rfl) (by kernel_rfl) (fun _ _ _ h => h) (Or.inr ⟨by rfl, rfl⟩) H2_.out ?_
    try simp only [Act.put, List.getElem_toArray, List.getElem_cons_succ, List.getElem_cons_zero, List.setIfInBounds_toArray, List.set_cons_zero, List.set_cons_succ]
    refine wpAnyH_take (i := 22) (v := .bool false) rfl (by kernel_rfl) (by kernel_rfl) (by kernel_rfl) (fun _ _ _ h => h) (Or.inl ⟨by rfl, fun W hW => by clear hW; go_simp⟩) H2_.out ?_
    try simp only [Act.put, List.getElem_toArray, List.getElem_cons_succ, List.getElem_cons_zero, List.setIfInBounds_toArray, List.set_cons_zero, List.set_cons_succ]
    refine wpAnyH_take (i := 23) (v := .bool false) rfl (by kernel_rfl) (by kernel_rfl) (by kernel_rfl) (fun _ _ _ h => h) (Or.inl ⟨by rfl, fun W hW => by clear hW; go_simp⟩) H2_.out ?_
    try simp only [Act.put, List.getElem_toArray, List.getElem_cons_succ, List.getElem_cons_zero, List.setIfInBounds_toArray, List.set_cons_zero, List.set_cons_succ]
    refine wpAnyH_done (by kernel_rfl) ?_ _
    have h12 := H2_.out
    clear H0 H1_ H2_
    go_wp2_with (first
      | (refine wpList_load_st h12 0 rfl 28 _ _ rfl rfl rfl Try.underlying28 rfl SP.out ?_)
      | (refine wpList_load_st h12 3 rfl 33 _ _ rfl rfl rfl Try.underlying33 rfl SX.out ?_)
      | (go_at_call 12; refine (CB.out _).mono ?_; rintro e W14 ⟨A12, c12, rfl, hr12, hb⟩; have h13 := h12.call hb; clear h12 hb)
      | (refine wpList_alloc_st h13 31 rfl rfl _ #[.int .u64 0, .slice none 0 0] zv31 rfl ?_; clear h13; intro W15 h14 _ b14; replace hr12 := hr12.below b14; have z14 := b14.size; clear b14)
      | (refine wpList_store_st h14 5 rfl 31 _ _ rfl rfl rfl rfl sz31 rfl (cell2 _ _ _ _) ?_; intro W16 h15 hg15; replace hr12 := (hr12.beside hg15 z14).wider (Nat.le_trans z14 hg15.size); clear h14 hg15 z14))
    have H0 := Lib.hid h15.drew
    have e12 : IRow W16.drew W16.drew.heap.size A12 n c12 ms := hr12
    refine wp_region_held_drew (S := fun W => St w W [(w.heap.size, 28, p.arr), (W1.heap.size, 31, #[.int .u64 (M : Int), .slice A n c]), (W2.heap.size, 33, arrV bs), (g7, 33, arrV xs), (g10, 31, #[.int .u64 (R : Int), .slice A8 n c8]), (W14.heap.size, 31, #[.int .u64 (M : Int), .slice A12 n c12])]) (by kernel_rfl) H0.out (fun _ => ?_)
    clear hr12
    have hr12 := e12
    clear e12
    generalize W16.drew = V0 at *
    generalize W14.heap.size = g12 at *
    clear h15
    refine wpAnyH_take (i := 0) (v := .agg (arrV xs)) rfl (by kernel_rfl) (by kernel_rfl) (by kernel_rfl) (fun _ _ _ h => h) (yields_at 33 _ _ rfl (by rfl) rfl Try.underlying33 rfl SX.out (fun W hW => hW.get 3 rfl)) H0.out ?_
    try simp only [Act.put, List.getElem_toArray, List.getElem_cons_succ, List.getElem_cons_zero, List.setIfInBounds_toArray, List.set_cons_zero, List.set_cons_succ]
    refine wpAnyH_take (i := 1) (v := .agg p.arr) rfl (by kernel_rfl) (by kernel_rfl) (by kernel_rfl) (fun _ _ _ h => h) (yields_at 28 _ _ rfl (by rfl) rfl Try.underlying28 rfl SP.out (fun W hW => hW.get 0 rfl)) H0.out ?_
    try simp only [Act.put, List.getElem_toArray, List.getElem_cons_succ, List.getElem_cons_zero, List.setIfInBounds_toArray, List.set_cons_zero, List.set_cons_succ]
    refine wpAnyH_take (i := 2) (v := .agg #[.int .u64 (M : Int), .slice A n c]) rfl (by kernel_rfl) (by kernel_rfl) (by kernel_rfl) (fun _ _ _ h => h) (yields_at 31 _ _ rfl (by rfl) rfl Try.underlying31 rfl sz31 (fun W hW => hW.get 1 rfl)) H0.out ?_
    try simp only [Act.put, List.getElem_toArray, List.getElem_cons_succ, List.getElem_cons_zero, List.setIfInBounds_toArray, List.set_cons_zero, List.set_cons_succ]
    refine wpAnyH_ready (rs := [3]) (by kernel_rfl) (by simp) ?_
    refine AllReadyH.cons rfl (fun K hK => ?_) AllReadyH.nil
    go_simp
    go_at_call 15
    refine (RX.out _ ((HR.out.below H0.out.bel).wider H0.out.bel.size)).mono ?_
    rintro e V1 ⟨rfl, hb⟩
    have H1_ := Lib.hid (H0.out.call hb)
    replace hr12 := (hr12.below hb).wider hb.size
    clear hb
    refine hK.out _ _ H1_.out (fun _ => ?_)
    clear hK K
    try simp only [Act.put, List.getElem_toArray, List.getElem_cons_succ, List.getElem_cons_zero, List.setIfInBounds_toArray, List.set_cons_zero, List.set_cons_succ]
    refine wpAnyH_take (i := 4) (v := .bool true) rfl (by kernel_rfl) (by kernel_rfl) (by kernel_rfl) (fun _ _ _ h => h) (Or.inl ⟨by rfl, fun W hW => by clear hW; go_simp⟩) H1_.out ?_
    try simp only [Act.put, List.getElem_toArray, List.getElem_cons_succ, List.getElem_cons_zero, List.setIfInBounds_toArray, List.set_cons_zero, List.set_cons_succ]
    refine wpAnyH_take (i := 5) (v := .bool true) rfl (by kernel_rfl) (by kernel_rfl) (by kernel_rfl) (fun _ _ _ h => h) (Or.inl ⟨by rfl, fun W hW => by clear hW; go_simp⟩) H1_.out ?_
    try simp only [Act.put, List.getElem_toArray, List.getElem_cons_succ, List.getElem_cons_zero, List.setIfInBounds_toArray, List.set_cons_zero, List.set_cons_succ]
    refine wpAnyH_take (i := 6) (v := .int .i64 0) rfl (by kernel_rfl) (by kernel_rfl) (by kernel_rfl) (fun _ _ _ h => h) (Or.inl ⟨by rfl, fun W hW => by clear hW; go_simp⟩) H1_.out ?_
    try simp only [Act.put, List.getElem_toArray, List.getElem_cons_succ, List.getElem_cons_zero, List.setIfInBounds_toArray, List.set_cons_zero, List.set_cons_succ]
    refine wpAnyH_take (i := 7) (v := .bool true) rfl (by kernel_rfl) (by kernel_rfl) (by kernel_rfl) (fun _ _ _ h => h) (Or.inl ⟨by rfl, fun W hW => by clear hW; go_simp⟩) H1_.out ?_
    try simp only [Act.put, List.getElem_toArray, List.getElem_cons_succ, List.getElem_cons_zero, List.setIfInBounds_toArray, List.set_cons_zero, List.set_cons_succ]
    refine wpAnyH_take (i := 8) (v := .bool true) rfl (by kernel_rfl) (by kernel_rfl) (by kernel_rfl) (fun _ _ _ h => h) (Or.inl ⟨by rfl, fun W hW => by clear hW; go_simp⟩) H1_.out ?_
    try simp only [Act.put, List.getElem_toArray, List.getElem_cons_succ, List.getElem_cons_zero, List.setIfInBounds_toArray, List.set_cons_zero, List.set_cons_succ]
    refine wpAnyH_take (i := 9) (v := .bool true) rfl (by kernel_rfl) (by kernel_rfl) (by kernel_rfl) (fun _ _ _ h => h) (Or.inl ⟨by rfl, fun W hW => by clear hW; go_simp⟩) H1_.out ?_
    try simp only [Act.put, List.getElem_toArray, List.getElem_cons_succ, List.getElem_cons_zero, List.setIfInBounds_toArray, List.set_cons_zero, List.set_cons_succ]
    refine wpAnyH_take (i := 10) (v := .agg #[.int .u64 (M : Int), .slice A12 n c12]) rfl (by kernel_rfl) (by kernel_rfl) (by kernel_rfl) (fun _ _ _ h => h) (yields_at 31 _ _ rfl (by rfl) rfl Try.underlying31 rfl sz31 (fun W hW => hW.get 5 rfl)) H1_.out ?_
    try simp only [Act.put, List.getElem_toArray, List.getElem_cons_succ, List.getElem_cons_zero, List.setIfInBounds_toArray, List.set_cons_zero, List.set_cons_succ]
    refine wpAnyH_take (i := 11) (v := .agg #[.int .u64 (M : Int), .slice A n c]) rfl (by kernel_rfl) (by kernel_rfl) (by kernel_rfl) (fun _ _ _ h => h) (yields_at 31 _ _ rfl (by rfl) rfl Try.underlying31 rfl sz31 (fun W hW => hW.get 1 rfl)) H1_.out ?_
    try simp only [Act.put, List.getElem_toArray, List.getElem_cons_succ, List.getElem_cons_zero, List.setIfInBounds_toArray, List.set_cons_zero, List.set_cons_succ]
    refine wpAnyH_ready (rs := [12]) (by kernel_rfl) (by simp) ?_
    refine AllReadyH.cons rfl (fun K hK => ?_) AllReadyH.nil
    go_simp
    go_at_call 13
    refine (SB2.out _ _ _ _ _ hr12 ((HR.out.below H1_.out.bel).wider H1_.out.bel.size)).mono ?_
    rintro e V2 ⟨rfl, hb⟩
    have H2_ := Lib.hid (H1_.out.call hb)
    clear hb
    refine hK.out _ _ H2_.out (fun _ => ?_)
    clear hK K
    try simp only [Act.put, List.getElem_toArray, List.getElem_cons_succ, List.getElem_cons_zero, List.setIfInBounds_toArray, List.set_cons_zero, List.set_cons_succ]
    refine wpAnyH_take (i := 13) (v := .bool true) rfl (by kernel_rfl) (by kernel_rfl) (by kernel_rfl) (fun _ _ _ h => h) (Or.inl ⟨by rfl, fun W hW => by clear hW; go_simp⟩) H2_.out ?_
    try simp only [Act.put, List.getElem_toArray, List.getElem_cons_succ, List.getElem_cons_zero, List.setIfInBounds_toArray, List.set_cons_zero, List.set_cons_succ]
    refine wpAnyH_take (i := 14) (v := .bool true) rfl (by kernel_rfl) (by kernel_rfl) (by kernel_rfl) (fun _ _ _ h => h) (Or.inl ⟨by rfl, fun W hW => by clear hW; go_simp⟩) H2_.out ?_
    try simp only [Act.put, List.getElem_toArray, List.getElem_cons_succ, List.getElem_cons_zero, List.setIfInBounds_toArray, List.set_cons_zero, List.set_cons_succ]
    refine wpAnyH_done (by kernel_rfl) ?_ _
    clear q1
    go_wp2
    go_ret
    exact ⟨rfl, H2_.out.bel⟩
  · have hw1 := wrg_one hp hw
    have SM : Hid (∀ A1 A2 c1 c2 W, IRow W W.heap.size A1 n0 c1 (cnL bs m n0) → IRow W W.heap.size A2 n0 c2 (cnL bs m n0) → Calls Try.prog 13 #[.agg #[.int .u64 (le (bs.take 8) : Nat), .slice A1 n0 c1], .agg #[.int .u64 (le (bs.take 8) : Nat), .slice A2 n0 c2]] W fun e w' => e = .returned (.bool true) ∧ Below W.heap.size W w') := fun A1 A2 c1 c2 W h1 h2 => by
      have := refSame_any (le (bs.take 8)) (le (bs.take 8)) n0 n0 c1 c2 A1 A2 (cnL bs m n0) (cnL bs m n0) W h1 h2
      rw [decide_eq_true ⟨rfl, rfl⟩] at this
      exact this
    have RC := Lib.hid (fun W => refCount_any p bs n0 m W hp hb.len hb.lt hp3 hp5)
    have CN := Lib.hid (fun W => count_yes p bs n0 m W hp hb.len hb.lt hp3 hp5)
    have CC := Lib.hid (fun W h => counters_no p M A n c ms W h (by omega) hw)
    rw [hw1] at RW CC
    have SX := Lib.hid (sz33 zeros_len)
    have SXa := Lib.hid (arrV_all zeros)
    have q1 := fun W => neq_line zeros zeros zeros_line zeros_line W
    rw [decide_eq_true rfl] at q1
    generalize le (bs.take 8) = R at *
    generalize cnL bs m n0 = cs at *
    clear hw hw1 hp hp3 hp5 hmi hli hb
    go_enter Try.func3, Try.ntmps3
    go_wp2_with (first
      | (refine wpList_box_st h0 28 _ rfl rfl p.arr rfl ?_; clear h0; intro W1 h1 _ _)
      | (refine wpList_box_st h1 31 _ rfl rfl #[.int .u64 (M : Int), .slice A n c] rfl ?_; clear h1; intro W2 h2 _ _)
      | (refine wpList_box_st h2 33 _ rfl rfl (arrV bs) rfl ?_; clear h2; intro W3 h3 _ _)
      | (go_at_call 9; refine (SK.out _).mono ?_; rintro e W4 ⟨rfl, hb⟩; have h4 := h3.call hb; clear h3 hb; have d1 := h4.cell 1 rfl 1 (.slice A n c) rfl)
      | (refine wpList_load_st h4 0 rfl 28 _ _ rfl rfl rfl Try.underlying28 rfl SP.out ?_)
      | (refine wpList_load_st h4 1 rfl 31 _ _ rfl rfl rfl Try.underlying31 rfl sz31 ?_)
      | (go_at_call 10; refine (CC.out _ ((HR.out.below h4.bel).wider h4.bel.size)).mono ?_; rintro e W5 ⟨rfl, hb⟩; have h5 := h4.call hb; clear h4 hb d1)
      | (refine wpList_alloc_st h5 33 rfl rfl _ (arrV zeros) zv33 rfl ?_; clear h5; intro W6 h6 _ _)
      | (refine wpList_store_st h6 3 rfl 33 _ _ rfl rfl rfl rfl SX.out rfl SXa.out ?_; clear h6; intro W7 h7 _)
      | (refine wpList_load_st h7 0 rfl 28 _ _ rfl rfl rfl Try.underlying28 rfl SP.out ?_)
      | (refine wpList_load_st h7 1 rfl 31 _ _ rfl rfl rfl Try.underlying31 rfl sz31 ?_)
      | (go_at_call 11; refine (RW.out _ ((HR.out.below h7.bel).wider h7.bel.size)).mono ?_; rintro e W8 ⟨rfl, hb⟩; have h8 := h7.call hb; clear h7 hb)
      | (refine wpList_load_st h8 0 rfl 28 _ _ rfl rfl rfl Try.underlying28 rfl SP.out ?_)
      | (refine wpList_load_st h8 2 rfl 33 _ _ rfl rfl rfl Try.underlying33 rfl SB.out ?_)
      | (go_at_call 12; have _ := h8; refine (CN.out _).mono ?_; rintro e W9 ⟨A8, c8, rfl, hr8, hb⟩; have h9 := h8.call hb; clear h8 hb)
      | (refine wpList_alloc_st h9 31 rfl rfl _ #[.int .u64 0, .slice none 0 0] zv31 rfl ?_; clear h9; intro W10 h10 _ b10; replace hr8 := hr8.below b10; have z10 := b10.size; clear b10)
      | (refine wpList_store_st h10 4 rfl 31 _ _ rfl rfl rfl rfl sz31 rfl (cell2 _ _ _ _) ?_; intro W11 h11 hg11; replace hr8 := (hr8.beside hg11 z10).wider (Nat.le_trans z10 hg11.size); clear h10 hg11 z10))
    have H0 := Lib.hid h11.drew
    have e11 : IRow W11.drew W11.drew.heap.size A8 n0 c8 cs := hr8
    refine wp_region_held_drew (S := fun W => St w W [(w.heap.size, 28, p.arr), (W1.heap.size, 31, #[.int .u64 (M : Int), .slice A n c]), (W2.heap.size, 33, arrV bs), (W5.heap.size, 33, arrV zeros), (W9.heap.size, 31, #[.int .u64 (R : Int), .slice A8 n0 c8])]) (by kernel_rfl) H0.out (fun _ => ?_)
    clear hr8
    have hr8 := e11
    clear e11
    generalize W11.drew = V0 at *
    generalize W5.heap.size = g7 at *
    generalize W9.heap.size = g10 at *
    clear h11
    refine wpAnyH_take (i := 0) (v := .int .i64 0) rfl (by kernel_rfl) (by kernel_rfl) (by kernel_rfl) (fun _ _ _ h => h) (Or.inl ⟨by rfl, fun W hW => by clear hW; go_simp⟩) H0.out ?_
    try simp only [Act.put, List.getElem_toArray, List.getElem_cons_succ, List.getElem_cons_zero, List.setIfInBounds_toArray, List.set_cons_zero, List.set_cons_succ]
    refine wpAnyH_take (i := 1) (v := .bool false) rfl (by kernel_rfl) (by kernel_rfl) (by kernel_rfl) (fun _ _ _ h => h) (Or.inl ⟨by rfl, fun W hW => by clear hW; go_simp⟩) H0.out ?_
    try simp only [Act.put, List.getElem_toArray, List.getElem_cons_succ, List.getElem_cons_zero, List.setIfInBounds_toArray, List.set_cons_zero, List.set_cons_succ]
    refine wpAnyH_take (i := 2) (v := .bool false) rfl (by kernel_rfl) (by kernel_rfl) (by kernel_rfl) (fun _ _ _ h => h) (Or.inl ⟨by rfl, fun W hW => by clear hW; go_simp⟩) H0.out ?_
    try simp only [Act.put, List.getElem_toArray, List.getElem_cons_succ, List.getElem_cons_zero, List.setIfInBounds_toArray, List.set_cons_zero, List.set_cons_succ]
    refine wpAnyH_take (i := 3) (v := .agg #[.int .u64 (R : Int), .slice A8 n0 c8]) rfl (by kernel_rfl) (by kernel_rfl) (by kernel_rfl) (fun _ _ _ h => h) (yields_at 31 _ _ rfl (by rfl) rfl Try.underlying31 rfl sz31 (fun W hW => hW.get 4 rfl)) H0.out ?_
    try simp only [Act.put, List.getElem_toArray, List.getElem_cons_succ, List.getElem_cons_zero, List.setIfInBounds_toArray, List.set_cons_zero, List.set_cons_succ]
    refine wpAnyH_take (i := 4) (v := .agg p.arr) rfl (by kernel_rfl) (by kernel_rfl) (by kernel_rfl) (fun _ _ _ h => h) (yields_at 28 _ _ rfl (by rfl) rfl Try.underlying28 rfl SP.out (fun W hW => hW.get 0 rfl)) H0.out ?_
    try simp only [Act.put, List.getElem_toArray, List.getElem_cons_succ, List.getElem_cons_zero, List.setIfInBounds_toArray, List.set_cons_zero, List.set_cons_succ]
    refine wpAnyH_take (i := 5) (v := .agg (arrV bs)) rfl (by kernel_rfl) (by kernel_rfl) (by kernel_rfl) (fun _ _ _ h => h) (yields_at 33 _ _ rfl (by rfl) rfl Try.underlying33 rfl SB.out (fun W hW => hW.get 2 rfl)) H0.out ?_
    try simp only [Act.put, List.getElem_toArray, List.getElem_cons_succ, List.getElem_cons_zero, List.setIfInBounds_toArray, List.set_cons_zero, List.set_cons_succ]
    refine wpAnyH_ready (rs := [6]) (by kernel_rfl) (by simp) ?_
    refine AllReadyH.cons rfl (fun K hK => ?_) AllReadyH.nil
    go_simp
    go_at_call 14
    refine (RC.out _).mono ?_
    rintro e V1 ⟨A9, c9, rfl, hr9, hb⟩
    have H1_ := Lib.hid (H0.out.call hb)
    replace hr8 := (hr8.below hb).wider hb.size
    clear hb
    refine hK.out _ _ H1_.out (fun _ => ?_)
    clear hK K
    try simp only [Act.put, List.getElem_toArray, List.getElem_cons_succ, List.getElem_cons_zero, List.setIfInBounds_toArray, List.set_cons_zero, List.set_cons_succ]
    refine wpAnyH_ready (rs := [7]) (by kernel_rfl) (by simp) ?_
    refine AllReadyH.cons rfl (fun K hK => ?_) AllReadyH.nil
    go_simp
    go_at_call 13
    refine (SM.out _ _ _ _ _ hr8 hr9).mono ?_
    rintro e V2 ⟨rfl, hb⟩
    have H2_ := Lib.hid (H1_.out.call hb)
    clear hb
    refine hK.out _ _ H2_.out (fun _ => ?_)
    clear hK K
    try simp only [Act.put, List.getElem_toArray, List.getElem_cons_succ, List.getElem_cons_zero, List.setIfInBounds_toArray, List.set_cons_zero, List.set_cons_succ]
    refine wpAnyH_take (i := 8) (v := .bool false) rfl (by kernel_rfl) (by kernel_rfl) (by kernel_rfl) (fun _ _ _ h => h) (Or.inl ⟨by rfl, fun W hW => by clear hW; go_simp⟩) H2_.out ?_
    try simp only [Act.put, List.getElem_toArray, List.getElem_cons_succ, List.getElem_cons_zero, List.setIfInBounds_toArray, List.set_cons_zero, List.set_cons_succ]
    refine wpAnyH_take (i := 9) (v := .bool false) rfl (by kernel_rfl) (by kernel_rfl) (by kernel_rfl) (fun _ _ _ h => h) (Or.inl ⟨by rfl, fun W hW => by clear hW; go_simp⟩) H2_.out ?_
    try simp only [Act.put, List.getElem_toArray, List.getElem_cons_succ, List.getElem_cons_zero, List.setIfInBounds_toArray, List.set_cons_zero, List.set_cons_succ]
    refine wpAnyH_take (i := 10) (v := .bool false) rfl (by kernel_rfl) (by kernel_rfl) (by kernel_rfl) (fun _ _ _ h => h) (Or.inl ⟨by rfl, fun W hW => by clear hW; go_simp⟩) H2_.out ?_
    try simp only [Act.put, List.getElem_toArray, List.getElem_cons_succ, List.getElem_cons_zero, List.setIfInBounds_toArray, List.set_cons_zero, List.set_cons_succ]
    refine wpAnyH_take (i := 11) (v := .int .i64 1) rfl (by kernel_rfl) (by kernel_rfl) (by kernel_rfl) (fun _ _ _ h => h) (Or.inl ⟨by rfl, fun W hW => by clear hW; go_simp⟩) H2_.out ?_
    try simp only [Act.put, List.getElem_toArray, List.getElem_cons_succ, List.getElem_cons_zero, List.setIfInBounds_toArray, List.set_cons_zero, List.set_cons_succ]
    refine wpAnyH_take (i := 12) (v := .int .i64 1) rfl (by kernel_rfl) (by kernel_rfl) (by kernel_rfl) (fun _ _ _ h => h) (Or.inl ⟨by rfl, fun W hW => by clear hW; go_simp⟩) H2_.out ?_
    try simp only [Act.put, List.getElem_toArray, List.getElem_cons_succ, List.getElem_cons_zero, List.setIfInBounds_toArray, List.set_cons_zero, List.set_cons_succ]
    refine wpAnyH_take (i := 13) (v := .bool false) rfl (by kernel_rfl) (by kernel_rfl) (by kernel_rfl) (fun _ _ _ h => h) (Or.inl ⟨by rfl, fun W hW => by clear hW; go_simp⟩) H2_.out ?_
    try simp only [Act.put, List.getElem_toArray, List.getElem_cons_succ, List.getElem_cons_zero, List.setIfInBounds_toArray, List.set_cons_zero, List.set_cons_succ]
    refine wpAnyH_take (i := 14) (v := .bool false) rfl (by kernel_rfl) (by kernel_rfl) (by kernel_rfl) (fun _ _ _ h => h) (Or.inl ⟨by rfl, fun W hW => by clear hW; go_simp⟩) H2_.out ?_
    try simp only [Act.put, List.getElem_toArray, List.getElem_cons_succ, List.getElem_cons_zero, List.setIfInBounds_toArray, List.set_cons_zero, List.set_cons_succ]
    refine wpAnyH_take (i := 15) (v := .bool false) rfl (by kernel_rfl) (by kernel_rfl) (by kernel_rfl) (fun _ _ _ h => h) (Or.inl ⟨by rfl, fun W hW => by clear hW; go_simp⟩) H2_.out ?_
    try simp only [Act.put, List.getElem_toArray, List.getElem_cons_succ, List.getElem_cons_zero, List.setIfInBounds_toArray, List.set_cons_zero, List.set_cons_succ]
    refine wpAnyH_take (i := 16) (v := .int .i64 1) rfl (by kernel_rfl) (by kernel_rfl) (by kernel_rfl) (fun _ _ _ h => h) (Or.inl ⟨by rfl, fun W hW => by clear hW; go_simp⟩) H2_.out ?_
    try simp only [Act.put, List.getElem_toArray, List.getElem_cons_succ, List.getElem_cons_zero, List.setIfInBounds_toArray, List.set_cons_zero, List.set_cons_succ]
    refine wpAnyH_take (i := 17) (v := .bool true) rfl (by kernel_rfl) (by kernel_rfl) (by kernel_rfl) (fun _ _ _ h => h) (Or.inl ⟨by rfl, fun W hW => by clear hW; go_simp⟩) H2_.out ?_
    try simp only [Act.put, List.getElem_toArray, List.getElem_cons_succ, List.getElem_cons_zero, List.setIfInBounds_toArray, List.set_cons_zero, List.set_cons_succ]
    refine wpAnyH_take (i := 18) (v := .bool true) rfl (by kernel_rfl) (by kernel_rfl) (by kernel_rfl) (fun _ _ _ h => h) (Or.inl ⟨by rfl, fun W hW => by clear hW; go_simp⟩) H2_.out ?_
    try simp only [Act.put, List.getElem_toArray, List.getElem_cons_succ, List.getElem_cons_zero, List.setIfInBounds_toArray, List.set_cons_zero, List.set_cons_succ]
    refine wpAnyH_take (i := 19) (v := .agg (arrV zeros)) rfl (by kernel_rfl) (by kernel_rfl) (by kernel_rfl) (fun _ _ _ h => h) (yields_at 33 _ _ rfl (by rfl) rfl Try.underlying33 rfl SX.out (fun W hW => hW.get 3 rfl)) H2_.out ?_
    try simp only [Act.put, List.getElem_toArray, List.getElem_cons_succ, List.getElem_cons_zero, List.setIfInBounds_toArray, List.set_cons_zero, List.set_cons_succ]
    refine wpAnyH_take (i := 20) (v := .agg (arrV zeros)) rfl (by kernel_rfl) (by kernel_rfl) (by kernel_rfl) (fun _ _ _ h => h) (yields_build33 rfl (by rfl)) H2_.out ?_
    try simp only [Act.put, List.getElem_toArray, List.getElem_cons_succ, List.getElem_cons_zero, List.setIfInBounds_toArray, List.set_cons_zero, List.set_cons_succ]
    refine wpAnyH_take (i := 21) (v := .bool false) rfl (by kernel_rfl) (by kernel_rfl) (by kernel_rfl) (fun _ _ _ h => h) (Or.inl ⟨by rfl, fun W hW => by clear hW; go_simp⟩) H2_.out ?_
    try simp only [Act.put, List.getElem_toArray, List.getElem_cons_succ, List.getElem_cons_zero, List.setIfInBounds_toArray, List.set_cons_zero, List.set_cons_succ]
    refine wpAnyH_take (i := 22) (v := .bool false) rfl (by kernel_rfl) (by kernel_rfl) (by kernel_rfl) (fun _ _ _ h => h) (Or.inl ⟨by rfl, fun W hW => by clear hW; go_simp⟩) H2_.out ?_
    try simp only [Act.put, List.getElem_toArray, List.getElem_cons_succ, List.getElem_cons_zero, List.setIfInBounds_toArray, List.set_cons_zero, List.set_cons_succ]
    refine wpAnyH_take (i := 23) (v := .bool false) rfl (by kernel_rfl) (by kernel_rfl) (by kernel_rfl) (fun _ _ _ h => h) (Or.inl ⟨by rfl, fun W hW => by clear hW; go_simp⟩) H2_.out ?_
    try simp only [Act.put, List.getElem_toArray, List.getElem_cons_succ, List.getElem_cons_zero, List.setIfInBounds_toArray, List.set_cons_zero, List.set_cons_succ]
    refine wpAnyH_done (by kernel_rfl) ?_ _
    clear q1
    go_wp2
    go_ret
    exact ⟨rfl, H2_.out.bel⟩
end Go.Proofs.Ytcepncdolbfcfaa
