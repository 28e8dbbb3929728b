/- Whether counters are right for a plan, the program's and the document's. No statement is proved here. -/
import Derived.Test.YtcepncdolbfcfaaCnt1
namespace Go.Proofs.Ytcepncdolbfcfaa
open Go.RowKit
set_option linter.unusedVariables false
set_option linter.unusedSimpArgs false
attribute [local irreducible] arrV shaped Ls right

/-- What is wrong with counters for a plan; 0: nothing. -/
def wrg (p : Pl) (M : Nat) (ms : List Int) : Int := if right p then (if (M : Int) ≤ p.ma ∧ (ms.length : Int) = p.li ∧ ms.any (bad (mst p.mi.toNat)) = false then 0 else 1) else 4
theorem right_mi {p : Pl} (h : right p = true) : 1 ≤ p.mi ∧ p.mi ≤ 8 := ((right_iff p).1 h).2.2.1
theorem right_li {p : Pl} (h : right p = true) : 1 ≤ p.li ∧ p.li ≤ 8 := ((shaped_iff p).1 ((right_iff p).1 h).2.1).2.1
theorem right_ma {p : Pl} (h : right p = true) : p.ma ≤ 4294967296 := ((right_iff p).1 h).2.2.2.1
theorem zv3 (W : World) : (zeroValue 3).run Try.prog W = .ok (.int .i64 0) W := by kernel_rfl
set_option maxHeartbeats 2000000 in
theorem codeCheck_any (p : Pl) (M : Nat) (A : Option Addr) (n c : Nat) (ms : List Int) (w : World) (hr : IRow w w.heap.size A n c ms) (hn : n ≤ 60) :
    Calls Try.prog 28 #[.agg p.arr, .agg #[.int .u64 M, .slice A n c]] w fun e w' => e = .returned (.int .i64 (wrg p M ms)) ∧ Below w.heap.size w w' := by
  have C := Lib.hid (fun W => check_any p W)
  have h0 := St.nil w
  have hl := hr.len
  have HR := Lib.hid hr
  have SP := Lib.hid (show (Try.prog.info? 28).map (·.size) = some p.arr.size by rw [p.arr_size]; exact sz28)
  clear hr
  cases hp : right p
  · have E : Hid (wrg p M ms = 4) := by unfold wrg; rw [hp]; exact rfl
    rw [hp] at C
    generalize wrg p M ms = X at *
    clear hp
    go_enter Try.func28, Try.ntmps28
    go_wp2_with (first
      | (refine wpList_box_st h0 28 _ rfl rfl p.arr rfl ?_; clear h0; intro W1 h1 _ _)
      | (refine wpList_box_st h1 31 _ rfl rfl #[.int .u64 M, .slice A n c] rfl ?_; clear h1; intro W2 h2 _ _)
      | (refine wpList_load_st h2 0 rfl 28 _ _ rfl rfl rfl Try.underlying28 rfl SP.out ?_)
      | (go_at_call 33; refine (C.out _).mono ?_; rintro e W3 ⟨rfl, hb⟩; have h3 := h2.call hb; clear h2 hb))
    go_ret
    exact ⟨by rw [E.out]; rfl, h3.bel⟩
  have hmi := right_mi hp
  obtain ⟨k, hk⟩ : ∃ k : Nat, p.mi = (k : Int) := ⟨p.mi.toNat, by omega⟩
  have MM := Lib.hid (fun W => mostMinor_any p k hk (by omega) W)
  have CF := Lib.hid (fun B b W h1 h2 => containsFunc_any A n c ms B b (mst k) W h1 hn h2)
  have E : Hid (wrg p M ms = if (M : Int) ≤ p.ma ∧ (ms.length : Int) = p.li ∧ ms.any (bad (mst k)) = false then 0 else 1) := by unfold wrg; rw [hp, hk]; exact rfl
  rw [hp] at C
  generalize wrg p M ms = X at *
  have HK := Lib.hid hk
  clear hp hk hmi
  generalize mst k = mk at *
  by_cases h1 : p.ma < (M : Int)
  · go_enter Try.func28, Try.ntmps28
    go_wp2_with (first
      | (refine wpList_box_st h0 28 _ rfl rfl p.arr rfl ?_; clear h0; intro W1 h1 _ _)
      | (refine wpList_box_st h1 31 _ rfl rfl #[.int .u64 M, .slice A n c] rfl ?_; clear h1; intro W2 h2 _ _)
      | (refine wpList_load_st h2 0 rfl 28 _ _ rfl rfl rfl Try.underlying28 rfl SP.out ?_)
      | (go_at_call 33; refine (C.out _).mono ?_; rintro e W3 ⟨rfl, hb⟩; have h3 := h2.call hb; clear h2 hb; have c6 := PBlk.c6 (h3.get 0 rfl); have d0 := h3.cell 1 rfl 0 (.int .u64 M) rfl; have d1 := h3.cell 1 rfl 1 (.slice A n c) rfl))
    go_ret
    exact ⟨by rw [E.out, if_neg (by omega)]; rfl, h3.bel⟩
  by_cases h2 : (n : Int) = p.li
  · cases ha : ms.any (bad mk)
    all_goals
      rw [ha] at CF
      go_enter Try.func28, Try.ntmps28
      go_wp2_with (first
        | (refine wpList_box_st h0 28 _ rfl rfl p.arr rfl ?_; clear h0; intro W1 h1 _ _)
        | (refine wpList_box_st h1 31 _ rfl rfl #[.int .u64 M, .slice A n c] rfl ?_; clear h1; intro W2 h2 _ _)
        | (refine wpList_load_st h2 0 rfl 28 _ _ rfl rfl rfl Try.underlying28 rfl SP.out ?_)
        | (go_at_call 33; refine (C.out _).mono ?_; rintro e W3 ⟨rfl, hb⟩; have h3 := h2.call hb; clear h2 hb; have c6 := PBlk.c6 (h3.get 0 rfl); have c3 := PBlk.c3 (h3.get 0 rfl); have d0 := h3.cell 1 rfl 0 (.int .u64 M) rfl; have d1 := h3.cell 1 rfl 1 (.slice A n c) rfl)
        | (refine wpList_load_st h3 0 rfl 28 _ _ rfl rfl rfl Try.underlying28 rfl SP.out ?_)
        | (go_at_call 44; refine (MM.out _).mono ?_; rintro e W4 ⟨rfl, hb⟩; have h4 := h3.call hb; clear h3 c6 c3 d0 d1 hb)
        | (refine wpList_alloc_st h4 3 rfl rfl _ #[.int .i64 0] zv3 rfl ?_; clear h4; intro W5 h5 _ _)
        | (refine wpList_cell_st h5 2 rfl 3 _ _ rfl rfl 0 (.int .i64 mk) rfl rfl (by decide) rfl rfl sz3 ?_; clear h5; intro W6 h6 _; have d1 := h6.cell 1 rfl 1 (.slice A n c) rfl)
        | (go_at_call 48; refine (CF.out _ _ _ (HR.out.below h6.bel) (h6.cell 2 rfl 0 (.int .i64 mk) rfl)).mono ?_; rintro e W7 ⟨rfl, rfl⟩))
      go_ret
      refine ⟨?_, h6.bel⟩
      first
        | (rw [E.out, if_pos ⟨h1, by rw [hl]; exact h2, ha⟩]; rfl)
        | (rw [E.out, if_neg (fun h => by rw [ha] at h; exact absurd h.2.2 (by decide))]; rfl)
  · have hne : ((n : Int) == p.li) = false := by simpa using h2
    have hne2 : ((n : Int) != p.li) = true := by simpa using h2
    go_enter Try.func28, Try.ntmps28
    go_wp2_with (first
      | (refine wpList_box_st h0 28 _ rfl rfl p.arr rfl ?_; clear h0; intro W1 h1 _ _)
      | (refine wpList_box_st h1 31 _ rfl rfl #[.int .u64 M, .slice A n c] rfl ?_; clear h1; intro W2 h2 _ _)
      | (refine wpList_load_st h2 0 rfl 28 _ _ rfl rfl rfl Try.underlying28 rfl SP.out ?_)
      | (go_at_call 33; refine (C.out _).mono ?_; rintro e W3 ⟨rfl, hb⟩; have h3 := h2.call hb; clear h2 hb; have c6 := PBlk.c6 (h3.get 0 rfl); have c3 := PBlk.c3 (h3.get 0 rfl); have d0 := h3.cell 1 rfl 0 (.int .u64 M) rfl; have d1 := h3.cell 1 rfl 1 (.slice A n c) rfl))
    go_ret
    exact ⟨by rw [E.out, if_neg (fun h => by have := h.2.1; rw [hl] at this; exact absurd this (by assumption))]; rfl, h3.bel⟩
def WrRel (w : World) (p : Pl) (M : Nat) (A : Option Addr) (n c : Nat) (ms : List Int) (mk : Int) (g : Nat) (i : Value) (wr : World) : Prop :=
  ∃ j : Nat, j ≤ n ∧ i = .int .i64 (j : Nat) ∧ (∀ l, l < j → bad mk (ms.getD l 0) = false) ∧ St w wr [(w.heap.size, 28, p.arr), (g, 31, #[.int .u64 M, .slice A n c])]
set_option maxHeartbeats 2000000 in
theorem refWrong_any (p : Pl) (M : Nat) (A : Option Addr) (n c : Nat) (ms : List Int) (w : World) (hr : IRow w w.heap.size A n c ms) (hn : n ≤ 60) :
    Calls Try.prog 11 #[.agg p.arr, .agg #[.int .u64 M, .slice A n c]] w fun e w' => e = .returned (.int .i64 (wrg p M ms)) ∧ Below w.heap.size w w' := by
  have C := Lib.hid (fun W => refRight_any p W)
  have h0 := St.nil w
  have hl := hr.len
  have HR := Lib.hid hr
  have SP := Lib.hid (show (Try.prog.info? 28).map (·.size) = some p.arr.size by rw [p.arr_size]; exact sz28)
  clear hr
  cases hp : right p
  · have E : Hid (wrg p M ms = 4) := by unfold wrg; rw [hp]; exact rfl
    rw [hp] at C
    generalize wrg p M ms = X at *
    clear hp
    go_enter Try.func11, Try.ntmps11
    go_wp2_with (first
      | (refine wpList_box_st h0 28 _ rfl rfl p.arr rfl ?_; clear h0; intro W1 h1 _ _)
      | (refine wpList_box_st h1 31 _ rfl rfl #[.int .u64 M, .slice A n c] rfl ?_; clear h1; intro W2 h2 _ _)
      | (refine wpList_load_st h2 0 rfl 28 _ _ rfl rfl rfl Try.underlying28 rfl SP.out ?_)
      | (go_at_call 31; refine (C.out _).mono ?_; rintro e W3 ⟨rfl, hb⟩; have h3 := h2.call hb; clear h2 hb))
    go_ret
    exact ⟨by rw [E.out]; rfl, h3.bel⟩
  have hmi := right_mi hp
  obtain ⟨k, hk⟩ : ∃ k : Nat, p.mi = (k : Int) := ⟨p.mi.toNat, by omega⟩
  have MM := Lib.hid (fun W => refMost_any p k hk (by omega) W)
  have E : Hid (wrg p M ms = if (M : Int) ≤ p.ma ∧ (ms.length : Int) = p.li ∧ ms.any (bad (mst k)) = false then 0 else 1) := by unfold wrg; rw [hp, hk]; exact rfl
  rw [hp] at C
  generalize wrg p M ms = X at *
  have HK := Lib.hid hk
  clear hp hk hmi
  generalize mst k = mk at *
  by_cases h1 : p.ma < (M : Int)
  · go_enter Try.func11, Try.ntmps11
    go_wp2_with (first
      | (refine wpList_box_st h0 28 _ rfl rfl p.arr rfl ?_; clear h0; intro W1 h1 _ _)
      | (refine wpList_box_st h1 31 _ rfl rfl #[.int .u64 M, .slice A n c] rfl ?_; clear h1; intro W2 h2 _ _)
      | (refine wpList_load_st h2 0 rfl 28 _ _ rfl rfl rfl Try.underlying28 rfl SP.out ?_)
      | (go_at_call 31; refine (C.out _).mono ?_; rintro e W3 ⟨rfl, hb⟩; have h3 := h2.call hb; clear h2 hb; have c6 := PBlk.c6 (h3.get 0 rfl); have d0 := h3.cell 1 rfl 0 (.int .u64 M) rfl; have d1 := h3.cell 1 rfl 1 (.slice A n c) rfl))
    go_ret
    exact ⟨by rw [E.out, if_neg (by omega)]; rfl, h3.bel⟩
  by_cases h2 : (n : Int) = p.li
  · go_enter Try.func11, Try.ntmps11
    go_wp2_with (first
      | (refine wpList_box_st h0 28 _ rfl rfl p.arr rfl ?_; clear h0; intro W1 h1 _ _)
      | (refine wpList_box_st h1 31 _ rfl rfl #[.int .u64 M, .slice A n c] rfl ?_; clear h1; intro W2 h2 _ _)
      | (refine wpList_load_st h2 0 rfl 28 _ _ rfl rfl rfl Try.underlying28 rfl SP.out ?_)
      | (go_at_call 31; refine (C.out _).mono ?_; rintro e W3 ⟨rfl, hb⟩; have h3 := h2.call hb; clear h2 hb; have c6 := PBlk.c6 (h3.get 0 rfl); have c3 := PBlk.c3 (h3.get 0 rfl); have d0 := h3.cell 1 rfl 0 (.int .u64 M) rfl; have d1 := h3.cell 1 rfl 1 (.slice A n c) rfl))
    clear c6 c3 d0 d1
    have H1 := Lib.hid h1
    have H2 := Lib.hid h2
    clear h1 h2 C
    go_loopw [5] (WrRel w p M A n c ms mk W1.heap.size) (fun i _ => n - (intOf i).toNat)
    case atStart => exact ⟨0, by omega, rfl, fun l hl => absurd hl (by omega), h3⟩
    case round =>
      obtain ⟨j, hj, rfl, hall, h4⟩ := hrel
      have HA := Lib.hid hall
      clear hall h3
      have d1 := h4.cell 1 rfl 1 (.slice A n c) rfl
      by_cases hlt : j < n
      · obtain ⟨b, off, rfl, hb, hcs⟩ := HR.out.at_ (by omega)
        have hcw := hcs j (by omega)
        clear hcs
        generalize hgx2 : ms.getD j 0 = x at *
        have HG := Lib.hid hgx2
        clear hgx2
        go_wp2
        have H0 := Lib.hid h4.drew
        refine wp_region_held_drew (S := fun W => St w W [(w.heap.size, 28, p.arr), (W1.heap.size, 31, #[.int .u64 M, .slice (some ⟨b, off, none⟩) n c])]) (by kernel_rfl) H0.out (fun _ => ?_)
        generalize wr.drew = V0 at *
        clear d1 h4
        by_cases hx0 : x < 0
        · have g0 : (x < 0) = True := eq_true hx0
          refine wpAnyH_take (i := 0) (v := .pointer (some ⟨W1.heap.size, 1, none⟩)) rfl (by kernel_rfl) (by kernel_rfl) (by kernel_rfl) (fun _ _ _ h => h) (Or.inl ⟨by rfl, fun W hW => by clear hW; go_simp⟩) H0.out ?_
          try simp only [Act.put, List.getElem_toArray, List.getElem_cons_succ, List.getElem_cons_zero, List.setIfInBounds_toArray, List.set_cons_zero, List.set_cons_succ]
          refine wpAnyH_take (i := 1) (v := .slice (some ⟨b, off, none⟩) n c) rfl (by kernel_rfl) (by kernel_rfl) (by kernel_rfl) (fun _ _ _ h => h) (Or.inl ⟨by rfl, fun W hW => by have hc := hW.cell 1 rfl 1 (.slice (some ⟨b, off, none⟩) n c) rfl; clear hW; go_simp⟩) H0.out ?_
          try simp only [Act.put, List.getElem_toArray, List.getElem_cons_succ, List.getElem_cons_zero, List.setIfInBounds_toArray, List.set_cons_zero, List.set_cons_succ]
          refine wpAnyH_take (i := 2) (v := .int .i64 (j : Int)) rfl (by kernel_rfl) (by kernel_rfl) (by kernel_rfl) (fun _ _ _ h => h) (Or.inl ⟨by rfl, fun W hW => by clear hW; go_simp⟩) H0.out ?_
          try simp only [Act.put, List.getElem_toArray, List.getElem_cons_succ, List.getElem_cons_zero, List.setIfInBounds_toArray, List.set_cons_zero, List.set_cons_succ]
          refine wpAnyH_take (i := 3) (v := .pointer (some ⟨b, off + j, none⟩)) rfl (by kernel_rfl) (by kernel_rfl) (by kernel_rfl) (fun _ _ _ h => h) (Or.inl ⟨by rfl, fun W hW => by clear hW; go_simp⟩) H0.out ?_
          try simp only [Act.put, List.getElem_toArray, List.getElem_cons_succ, List.getElem_cons_zero, List.setIfInBounds_toArray, List.set_cons_zero, List.set_cons_succ]
          refine wpAnyH_take (i := 4) (v := .int .i64 x) rfl (by kernel_rfl) (by kernel_rfl) (by kernel_rfl) (fun _ _ _ h => h) (Or.inl ⟨by rfl, fun W hW => by have hc := (hW.bel.cell (p := ⟨b, off + j, none⟩) hb).trans hcw; clear hW; go_simp⟩) H0.out ?_
          try simp only [Act.put, List.getElem_toArray, List.getElem_cons_succ, List.getElem_cons_zero, List.setIfInBounds_toArray, List.set_cons_zero, List.set_cons_succ]
          refine wpAnyH_take (i := 5) (v := .bool true) rfl (by kernel_rfl) (by kernel_rfl) (by kernel_rfl) (fun _ _ _ h => h) (Or.inl ⟨by rfl, fun W hW => by clear hW; go_simp⟩) H0.out ?_
          try simp only [Act.put, List.getElem_toArray, List.getElem_cons_succ, List.getElem_cons_zero, List.setIfInBounds_toArray, List.set_cons_zero, List.set_cons_succ]
          refine wpAnyH_take (i := 6) (v := .bool true) rfl (by kernel_rfl) (by kernel_rfl) (by kernel_rfl) (fun _ _ _ h => h) (Or.inl ⟨by rfl, fun W hW => by clear hW; go_simp⟩) H0.out ?_
          try simp only [Act.put, List.getElem_toArray, List.getElem_cons_succ, List.getElem_cons_zero, List.setIfInBounds_toArray, List.set_cons_zero, List.set_cons_succ]
          refine wpAnyH_take (i := 7) (v := undef) rfl (by kernel_rfl) (by kernel_rfl) (by kernel_rfl) (fun _ _ _ h => h) (Or.inr ⟨by rfl, rfl⟩) H0.out ?_
          try simp only [Act.put, List.getElem_toArray, List.getElem_cons_succ, List.getElem_cons_zero, List.setIfInBounds_toArray, List.set_cons_zero, List.set_cons_succ]
          refine wpAnyH_take (i := 8) (v := undef) rfl (by kernel_rfl) (by kernel_rfl) (by kernel_rfl) (fun _ _ _ h => h) (Or.inr ⟨by rfl, rfl⟩) H0.out ?_
          try simp only [Act.put, List.getElem_toArray, List.getElem_cons_succ, List.getElem_cons_zero, List.setIfInBounds_toArray, List.set_cons_zero, List.set_cons_succ]
          refine wpAnyH_take (i := 9) (v := undef) rfl (by kernel_rfl) (by kernel_rfl) (by kernel_rfl) (fun _ _ _ h => h) (Or.inr ⟨by rfl, rfl⟩) H0.out ?_
          try simp only [Act.put, List.getElem_toArray, List.getElem_cons_succ, List.getElem_cons_zero, List.setIfInBounds_toArray, List.set_cons_zero, List.set_cons_succ]
          refine wpAnyH_take (i := 10) (v := undef) rfl (by kernel_rfl) (by kernel_rfl) (by kernel_rfl) (fun _ _ _ h => h) (Or.inr ⟨by rfl, rfl⟩) H0.out ?_
          try simp only [Act.put, List.getElem_toArray, List.getElem_cons_succ, List.getElem_cons_zero, List.setIfInBounds_toArray, List.set_cons_zero, List.set_cons_succ]
          refine wpAnyH_take (i := 11) (v := undef) rfl (by kernel_rfl) (by kernel_rfl) (by kernel_rfl) (fun _ _ _ h => h) (Or.inr ⟨by rfl, rfl⟩) H0.out ?_
          try simp only [Act.put, List.getElem_toArray, List.getElem_cons_succ, List.getElem_cons_zero, List.setIfInBounds_toArray, List.set_cons_zero, List.set_cons_succ]
          refine wpAnyH_take (i := 12) (v := undef) rfl (by kernel_rfl) (by kernel_rfl) (by kernel_rfl) (fun _ _ _ h => h) (Or.inr ⟨by rfl, rfl⟩) H0.out ?_
          try simp only [Act.put, List.getElem_toArray, List.getElem_cons_succ, List.getElem_cons_zero, List.setIfInBounds_toArray, List.set_cons_zero, List.set_cons_succ]
          refine wpAnyH_take (i := 13) (v := undef) rfl (by kernel_rfl) (by kernel_rfl) (by kernel_rfl) (fun _ _ _ h => h) (Or.inr ⟨by rfl, rfl⟩) H0.out ?_
          try simp only [Act.put, List.getElem_toArray, List.getElem_cons_succ, List.getElem_cons_zero, List.setIfInBounds_toArray, List.set_cons_zero, List.set_cons_succ]
          refine wpAnyH_take (i := 14) (v := undef) rfl (by kernel_rfl) (by kernel_rfl) (by kernel_rfl) (fun _ _ _ h => h) (Or.inr ⟨by rfl, rfl⟩) H0.out ?_
          try simp only [Act.put, List.getElem_toArray, List.getElem_cons_succ, List.getElem_cons_zero, List.setIfInBounds_toArray, List.set_cons_zero, List.set_cons_succ]
          refine wpAnyH_take (i := 15) (v := .bool true) rfl (by kernel_rfl) (by kernel_rfl) (by kernel_rfl) (fun _ _ _ h => h) (Or.inl ⟨by rfl, fun W hW => by clear hW; go_simp⟩) H0.out ?_
          try simp only [Act.put, List.getElem_toArray, List.getElem_cons_succ, List.getElem_cons_zero, List.setIfInBounds_toArray, List.set_cons_zero, List.set_cons_succ]
          refine wpAnyH_done (by kernel_rfl) ?_ _
          go_wp2
          go_ret
          have hbd : bad mk x = true := by simp [bad, hx0]
          exact ⟨by rw [E.out, if_neg (fun h => by rw [(findIdx_at (bad mk) ms j (by omega) HA.out (by rw [HG.out, hbd])).1] at h; exact absurd h.2.2 (by decide))]; rfl, H0.out.bel⟩
        · have g0 : (x < 0) = False := eq_false hx0
          by_cases hx1 : mk < x
          · have g1 : (mk < x) = True := eq_true hx1
            refine wpAnyH_take (i := 0) (v := .pointer (some ⟨W1.heap.size, 1, none⟩)) rfl (by kernel_rfl) (by kernel_rfl) (by kernel_rfl) (fun _ _ _ h => h) (Or.inl ⟨by rfl, fun W hW => by clear hW; go_simp⟩) H0.out ?_
            try simp only [Act.put, List.getElem_toArray, List.getElem_cons_succ, List.getElem_cons_zero, List.setIfInBounds_toArray, List.set_cons_zero, List.set_cons_succ]
            refine wpAnyH_take (i := 1) (v := .slice (some ⟨b, off, none⟩) n c) rfl (by kernel_rfl) (by kernel_rfl) (by kernel_rfl) (fun _ _ _ h => h) (Or.inl ⟨by rfl, fun W hW => by have hc := hW.cell 1 rfl 1 (.slice (some ⟨b, off, none⟩) n c) rfl; clear hW; go_simp⟩) H0.out ?_
            try simp only [Act.put, List.getElem_toArray, List.getElem_cons_succ, List.getElem_cons_zero, List.setIfInBounds_toArray, List.set_cons_zero, List.set_cons_succ]
            refine wpAnyH_take (i := 2) (v := .int .i64 (j : Int)) rfl (by kernel_rfl) (by kernel_rfl) (by kernel_rfl) (fun _ _ _ h => h) (Or.inl ⟨by rfl, fun W hW => by clear hW; go_simp⟩) H0.out ?_
            try simp only [Act.put, List.getElem_toArray, List.getElem_cons_succ, List.getElem_cons_zero, List.setIfInBounds_toArray, List.set_cons_zero, List.set_cons_succ]
            refine wpAnyH_take (i := 3) (v := .pointer (some ⟨b, off + j, none⟩)) rfl (by kernel_rfl) (by kernel_rfl) (by kernel_rfl) (fun _ _ _ h => h) (Or.inl ⟨by rfl, fun W hW => by clear hW; go_simp⟩) H0.out ?_
            try simp only [Act.put, List.getElem_toArray, List.getElem_cons_succ, List.getElem_cons_zero, List.setIfInBounds_toArray, List.set_cons_zero, List.set_cons_succ]
            refine wpAnyH_take (i := 4) (v := .int .i64 x) rfl (by kernel_rfl) (by kernel_rfl) (by kernel_rfl) (fun _ _ _ h => h) (Or.inl ⟨by rfl, fun W hW => by have hc := (hW.bel.cell (p := ⟨b, off + j, none⟩) hb).trans hcw; clear hW; go_simp⟩) H0.out ?_
            try simp only [Act.put, List.getElem_toArray, List.getElem_cons_succ, List.getElem_cons_zero, List.setIfInBounds_toArray, List.set_cons_zero, List.set_cons_succ]
            refine wpAnyH_take (i := 5) (v := .bool false) rfl (by kernel_rfl) (by kernel_rfl) (by kernel_rfl) (fun _ _ _ h => h) (Or.inl ⟨by rfl, fun W hW => by clear hW; go_simp⟩) H0.out ?_
            try simp only [Act.put, List.getElem_toArray, List.getElem_cons_succ, List.getElem_cons_zero, List.setIfInBounds_toArray, List.set_cons_zero, List.set_cons_succ]
            refine wpAnyH_take (i := 6) (v := .bool false) rfl (by kernel_rfl) (by kernel_rfl) (by kernel_rfl) (fun _ _ _ h => h) (Or.inl ⟨by rfl, fun W hW => by clear hW; go_simp⟩) H0.out ?_
            try simp only [Act.put, List.getElem_toArray, List.getElem_cons_succ, List.getElem_cons_zero, List.setIfInBounds_toArray, List.set_cons_zero, List.set_cons_succ]
            refine wpAnyH_take (i := 7) (v := .pointer (some ⟨W1.heap.size, 1, none⟩)) rfl (by kernel_rfl) (by kernel_rfl) (by kernel_rfl) (fun _ _ _ h => h) (Or.inl ⟨by rfl, fun W hW => by clear hW; go_simp⟩) H0.out ?_
            try simp only [Act.put, List.getElem_toArray, List.getElem_cons_succ, List.getElem_cons_zero, List.setIfInBounds_toArray, List.set_cons_zero, List.set_cons_succ]
            refine wpAnyH_take (i := 8) (v := .slice (some ⟨b, off, none⟩) n c) rfl (by kernel_rfl) (by kernel_rfl) (by kernel_rfl) (fun _ _ _ h => h) (Or.inl ⟨by rfl, fun W hW => by have hc := hW.cell 1 rfl 1 (.slice (some ⟨b, off, none⟩) n c) rfl; clear hW; go_simp⟩) H0.out ?_
            try simp only [Act.put, List.getElem_toArray, List.getElem_cons_succ, List.getElem_cons_zero, List.setIfInBounds_toArray, List.set_cons_zero, List.set_cons_succ]
            refine wpAnyH_take (i := 9) (v := .int .i64 (j : Int)) rfl (by kernel_rfl) (by kernel_rfl) (by kernel_rfl) (fun _ _ _ h => h) (Or.inl ⟨by rfl, fun W hW => by clear hW; go_simp⟩) H0.out ?_
            try simp only [Act.put, List.getElem_toArray, List.getElem_cons_succ, List.getElem_cons_zero, List.setIfInBounds_toArray, List.set_cons_zero, List.set_cons_succ]
            refine wpAnyH_take (i := 10) (v := .pointer (some ⟨b, off + j, none⟩)) rfl (by kernel_rfl) (by kernel_rfl) (by kernel_rfl) (fun _ _ _ h => h) (Or.inl ⟨by rfl, fun W hW => by clear hW; go_simp⟩) H0.out ?_
            try simp only [Act.put, List.getElem_toArray, List.getElem_cons_succ, List.getElem_cons_zero, List.setIfInBounds_toArray, List.set_cons_zero, List.set_cons_succ]
            refine wpAnyH_take (i := 11) (v := .int .i64 x) rfl (by kernel_rfl) (by kernel_rfl) (by kernel_rfl) (fun _ _ _ h => h) (Or.inl ⟨by rfl, fun W hW => by have hc := (hW.bel.cell (p := ⟨b, off + j, none⟩) hb).trans hcw; clear hW; go_simp⟩) H0.out ?_
            try simp only [Act.put, List.getElem_toArray, List.getElem_cons_succ, List.getElem_cons_zero, List.setIfInBounds_toArray, List.set_cons_zero, List.set_cons_succ]
            refine wpAnyH_take (i := 12) (v := .agg p.arr) rfl (by kernel_rfl) (by kernel_rfl) (by kernel_rfl) (fun _ _ _ h => h) (yields_at 28 _ _ rfl (by rfl) rfl Try.underlying28 rfl SP.out (fun W hW => hW.get 0 rfl)) H0.out ?_
            try simp only [Act.put, List.getElem_toArray, List.getElem_cons_succ, List.getElem_cons_zero, List.setIfInBounds_toArray, List.set_cons_zero, List.set_cons_succ]
            refine wpAnyH_ready (rs := [13]) (by kernel_rfl) (by simp) ?_
            refine AllReadyH.cons rfl (fun K hK => ?_) AllReadyH.nil
            go_simp
            go_at_call 32
            refine (MM.out _).mono ?_
            rintro e V1_ ⟨rfl, hb1_⟩
            have H1_ := Lib.hid (H0.out.call hb1_)
            clear hb1_
            refine hK.out _ _ H1_.out (fun _ => ?_)
            clear hK K
            try simp only [Act.put, List.getElem_toArray, List.getElem_cons_succ, List.getElem_cons_zero, List.setIfInBounds_toArray, List.set_cons_zero, List.set_cons_succ]
            refine wpAnyH_take (i := 14) (v := .bool true) rfl (by kernel_rfl) (by kernel_rfl) (by kernel_rfl) (fun _ _ _ h => h) (Or.inl ⟨by rfl, fun W hW => by clear hW; go_simp⟩) H1_.out ?_
            try simp only [Act.put, List.getElem_toArray, List.getElem_cons_succ, List.getElem_cons_zero, List.setIfInBounds_toArray, List.set_cons_zero, List.set_cons_succ]
            refine wpAnyH_take (i := 15) (v := .bool true) rfl (by kernel_rfl) (by kernel_rfl) (by kernel_rfl) (fun _ _ _ h => h) (Or.inl ⟨by rfl, fun W hW => by clear hW; go_simp⟩) H1_.out ?_
            try simp only [Act.put, List.getElem_toArray, List.getElem_cons_succ, List.getElem_cons_zero, List.setIfInBounds_toArray, List.set_cons_zero, List.set_cons_succ]
            refine wpAnyH_done (by kernel_rfl) ?_ _
            go_wp2
            go_ret
            have hbd : bad mk x = true := by simp [bad, hx1]
            exact ⟨by rw [E.out, if_neg (fun h => by rw [(findIdx_at (bad mk) ms j (by omega) HA.out (by rw [HG.out, hbd])).1] at h; exact absurd h.2.2 (by decide))]; rfl, H1_.out.bel⟩
          · have g1 : (mk < x) = False := eq_false hx1
            refine wpAnyH_take (i := 0) (v := .pointer (some ⟨W1.heap.size, 1, none⟩)) rfl (by kernel_rfl) (by kernel_rfl) (by kernel_rfl) (fun _ _ _ h => h) (Or.inl ⟨by rfl, fun W hW => by clear hW; go_simp⟩) H0.out ?_
            try simp only [Act.put, List.getElem_toArray, List.getElem_cons_succ, List.getElem_cons_zero, List.setIfInBounds_toArray, List.set_cons_zero, List.set_cons_succ]
            refine wpAnyH_take (i := 1) (v := .slice (some ⟨b, off, none⟩) n c) rfl (by kernel_rfl) (by kernel_rfl) (by kernel_rfl) (fun _ _ _ h => h) (Or.inl ⟨by rfl, fun W hW => by have hc := hW.cell 1 rfl 1 (.slice (some ⟨b, off, none⟩) n c) rfl; clear hW; go_simp⟩) H0.out ?_
            try simp only [Act.put, List.getElem_toArray, List.getElem_cons_succ, List.getElem_cons_zero, List.setIfInBounds_toArray, List.set_cons_zero, List.set_cons_succ]
            refine wpAnyH_take (i := 2) (v := .int .i64 (j : Int)) rfl (by kernel_rfl) (by kernel_rfl) (by kernel_rfl) (fun _ _ _ h => h) (Or.inl ⟨by rfl, fun W hW => by clear hW; go_simp⟩) H0.out ?_
            try simp only [Act.put, List.getElem_toArray, List.getElem_cons_succ, List.getElem_cons_zero, List.setIfInBounds_toArray, List.set_cons_zero, List.set_cons_succ]
            refine wpAnyH_take (i := 3) (v := .pointer (some ⟨b, off + j, none⟩)) rfl (by kernel_rfl) (by kernel_rfl) (by kernel_rfl) (fun _ _ _ h => h) (Or.inl ⟨by rfl, fun W hW => by clear hW; go_simp⟩) H0.out ?_
            try simp only [Act.put, List.getElem_toArray, List.getElem_cons_succ, List.getElem_cons_zero, List.setIfInBounds_toArray, List.set_cons_zero, List.set_cons_succ]
            refine wpAnyH_take (i := 4) (v := .int .i64 x) rfl (by kernel_rfl) (by kernel_rfl) (by kernel_rfl) (fun _ _ _ h => h) (Or.inl ⟨by rfl, fun W hW => by have hc := (hW.bel.cell (p := ⟨b, off + j, none⟩) hb).trans hcw; clear hW; go_simp⟩) H0.out ?_
            try simp only [Act.put, List.getElem_toArray, List.getElem_cons_succ, List.getElem_cons_zero, List.setIfInBounds_toArray, List.set_cons_zero, List.set_cons_succ]
            refine wpAnyH_take (i := 5) (v := .bool false) rfl (by kernel_rfl) (by kernel_rfl) (by kernel_rfl) (fun _ _ _ h => h) (Or.inl ⟨by rfl, fun W hW => by clear hW; go_simp⟩) H0.out ?_
            try simp only [Act.put, List.getElem_toArray, List.getElem_cons_succ, List.getElem_cons_zero, List.setIfInBounds_toArray, List.set_cons_zero, List.set_cons_succ]
            refine wpAnyH_take (i := 6) (v := .bool false) rfl (by kernel_rfl) (by kernel_rfl) (by kernel_rfl) (fun _ _ _ h => h) (Or.inl ⟨by rfl, fun W hW => by clear hW; go_simp⟩) H0.out ?_
            try simp only [Act.put, List.getElem_toArray, List.getElem_cons_succ, List.getElem_cons_zero, List.setIfInBounds_toArray, List.set_cons_zero, List.set_cons_succ]
            refine wpAnyH_take (i := 7) (v := .pointer (some ⟨W1.heap.size, 1, none⟩)) rfl (by kernel_rfl) (by kernel_rfl) (by kernel_rfl) (fun _ _ _ h => h) (Or.inl ⟨by rfl, fun W hW => by clear hW; go_simp⟩) H0.out ?_
            try simp only [Act.put, List.getElem_toArray, List.getElem_cons_succ, List.getElem_cons_zero, List.setIfInBounds_toArray, List.set_cons_zero, List.set_cons_succ]
            refine wpAnyH_take (i := 8) (v := .slice (some ⟨b, off, none⟩) n c) rfl (by kernel_rfl) (by kernel_rfl) (by kernel_rfl) (fun _ _ _ h => h) (Or.inl ⟨by rfl, fun W hW => by have hc := hW.cell 1 rfl 1 (.slice (some ⟨b, off, none⟩) n c) rfl; clear hW; go_simp⟩) H0.out ?_
            try simp only [Act.put, List.getElem_toArray, List.getElem_cons_succ, List.getElem_cons_zero, List.setIfInBounds_toArray, List.set_cons_zero, List.set_cons_succ]
            refine wpAnyH_take (i := 9) (v := .int .i64 (j : Int)) rfl (by kernel_rfl) (by kernel_rfl) (by kernel_rfl) (fun _ _ _ h => h) (Or.inl ⟨by rfl, fun W hW => by clear hW; go_simp⟩) H0.out ?_
            try simp only [Act.put, List.getElem_toArray, List.getElem_cons_succ, List.getElem_cons_zero, List.setIfInBounds_toArray, List.set_cons_zero, List.set_cons_succ]
            refine wpAnyH_take (i := 10) (v := .pointer (some ⟨b, off + j, none⟩)) rfl (by kernel_rfl) (by kernel_rfl) (by kernel_rfl) (fun _ _ _ h => h) (Or.inl ⟨by rfl, fun W hW => by clear hW; go_simp⟩) H0.out ?_
            try simp only [Act.put, List.getElem_toArray, List.getElem_cons_succ, List.getElem_cons_zero, List.setIfInBounds_toArray, List.set_cons_zero, List.set_cons_succ]
            refine wpAnyH_take (i := 11) (v := .int .i64 x) rfl (by kernel_rfl) (by kernel_rfl) (by kernel_rfl) (fun _ _ _ h => h) (Or.inl ⟨by rfl, fun W hW => by have hc := (hW.bel.cell (p := ⟨b, off + j, none⟩) hb).trans hcw; clear hW; go_simp⟩) H0.out ?_
            try simp only [Act.put, List.getElem_toArray, List.getElem_cons_succ, List.getElem_cons_zero, List.setIfInBounds_toArray, List.set_cons_zero, List.set_cons_succ]
            refine wpAnyH_take (i := 12) (v := .agg p.arr) rfl (by kernel_rfl) (by kernel_rfl) (by kernel_rfl) (fun _ _ _ h => h) (yields_at 28 _ _ rfl (by rfl) rfl Try.underlying28 rfl SP.out (fun W hW => hW.get 0 rfl)) H0.out ?_
            try simp only [Act.put, List.getElem_toArray, List.getElem_cons_succ, List.getElem_cons_zero, List.setIfInBounds_toArray, List.set_cons_zero, List.set_cons_succ]
            refine wpAnyH_ready (rs := [13]) (by kernel_rfl) (by simp) ?_
            refine AllReadyH.cons rfl (fun K hK => ?_) AllReadyH.nil
            go_simp
            go_at_call 32
            refine (MM.out _).mono ?_
            rintro e V1_ ⟨rfl, hb1_⟩
            have H1_ := Lib.hid (H0.out.call hb1_)
            clear hb1_
            refine hK.out _ _ H1_.out (fun _ => ?_)
            clear hK K
            try simp only [Act.put, List.getElem_toArray, List.getElem_cons_succ, List.getElem_cons_zero, List.setIfInBounds_toArray, List.set_cons_zero, List.set_cons_succ]
            refine wpAnyH_take (i := 14) (v := .bool false) rfl (by kernel_rfl) (by kernel_rfl) (by kernel_rfl) (fun _ _ _ h => h) (Or.inl ⟨by rfl, fun W hW => by clear hW; go_simp⟩) H1_.out ?_
            try simp only [Act.put, List.getElem_toArray, List.getElem_cons_succ, List.getElem_cons_zero, List.setIfInBounds_toArray, List.set_cons_zero, List.set_cons_succ]
            refine wpAnyH_take (i := 15) (v := .bool false) rfl (by kernel_rfl) (by kernel_rfl) (by kernel_rfl) (fun _ _ _ h => h) (Or.inl ⟨by rfl, fun W hW => by clear hW; go_simp⟩) H1_.out ?_
            try simp only [Act.put, List.getElem_toArray, List.getElem_cons_succ, List.getElem_cons_zero, List.setIfInBounds_toArray, List.set_cons_zero, List.set_cons_succ]
            refine wpAnyH_done (by kernel_rfl) ?_ _
            go_wp2
            go_roundw
            case rel =>
              refine ⟨j + 1, by omega, by go_num, fun l hl2 => ?_, H1_.out⟩
              rcases Nat.lt_or_ge l j with h | h
              · exact HA.out l h
              · obtain rfl : l = j := by omega
                rw [HG.out]
                simp only [bad, g0, g1, decide_false, Bool.or_self]
            case measure => simp [intOf]; omega
      · obtain rfl : j = n := by omega
        go_wp2
        go_ret
        exact ⟨by rw [E.out, if_pos ⟨H1.out, by rw [hl]; exact H2.out, any_none (bad mk) ms (by rw [hl]; exact HA.out)⟩]; rfl, h4.bel⟩
  · have hne : ((n : Int) == p.li) = false := by simpa using h2
    have hne2 : ((n : Int) != p.li) = true := by simpa using h2
    go_enter Try.func11, Try.ntmps11
    go_wp2_with (first
      | (refine wpList_box_st h0 28 _ rfl rfl p.arr rfl ?_; clear h0; intro W1 h1 _ _)
      | (refine wpList_box_st h1 31 _ rfl rfl #[.int .u64 M, .slice A n c] rfl ?_; clear h1; intro W2 h2 _ _)
      | (refine wpList_load_st h2 0 rfl 28 _ _ rfl rfl rfl Try.underlying28 rfl SP.out ?_)
      | (go_at_call 31; refine (C.out _).mono ?_; rintro e W3 ⟨rfl, hb⟩; have h3 := h2.call hb; clear h2 hb; have c6 := PBlk.c6 (h3.get 0 rfl); have c3 := PBlk.c3 (h3.get 0 rfl); have d0 := h3.cell 1 rfl 0 (.int .u64 M) rfl; have d1 := h3.cell 1 rfl 1 (.slice A n c) rfl))
    go_ret
    exact ⟨by rw [E.out, if_neg (fun h => by have := h.2.1; rw [hl] at this; exact absurd this (by assumption))]; rfl, h3.bel⟩
end Go.Proofs.Ytcepncdolbfcfaa
