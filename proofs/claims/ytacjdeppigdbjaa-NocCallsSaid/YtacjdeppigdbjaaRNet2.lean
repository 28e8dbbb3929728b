/- The document's net: whether a link is there. No statement is proved here. -/
import Derived.Test.YtacjdeppigdbjaaRNet1
namespace Go.Proofs.Ytacjdeppigdbjaa
open Go.RowKit
set_option linter.unusedVariables false
set_option linter.unusedSimpArgs false
set_option maxHeartbeats 2000000 in
theorem rthere_any (g n : Nat) (a b c : Int) (W : World) (c0 : W.cell? ⟨g, 0, none⟩ = some (.int .i64 (n : Int))) (hg : g < W.heap.size) :
    Calls Try.prog 30 #[.pointer (some ⟨g, 0, none⟩), .agg #[.int .i64 a, .int .i64 b, .int .i64 c]] W fun e W' => e = .returned (.bool (hasL n a b c)) ∧ Below W.heap.size W W' := by
  have h0 := St.nil W
  by_cases q0 : 0 ≤ a
  · have p0 : decide (0 ≤ a) = true := decide_eq_true q0
    by_cases q1 : a < 3
    · have p1 : decide (a < 3) = true := decide_eq_true q1
      by_cases q2 : 0 ≤ b
      · have p2 : decide (0 ≤ b) = true := decide_eq_true q2
        by_cases q3 : b < (n : Int)
        · have p3 : decide (b < (n : Int)) = true := decide_eq_true q3
          by_cases q4 : 0 ≤ c
          · have p4 : decide (0 ≤ c) = true := decide_eq_true q4
            by_cases q5 : c < (n : Int)
            · have p5 : decide (c < (n : Int)) = true := decide_eq_true q5
              have E : hasL n a b c = true := by simp [hasL, hasN]; omega
              rw [E]
              clear E
              go_enter Try.func30, Try.ntmps30
              go_wp2_with (refine wpList_box_st h0 51 _ rfl rfl #[.int .i64 a, .int .i64 b, .int .i64 c] rfl ?_; clear h0; intro W1 h1 _ hb1; have d0 := h1.cell 0 rfl 0 (.int .i64 a) rfl; have d1 := h1.cell 0 rfl 1 (.int .i64 b) rfl; have d2 := h1.cell 0 rfl 2 (.int .i64 c) rfl; have e0 := (hb1.cell (p := ⟨g, 0, none⟩) hg).trans c0; clear c0)
              replace h1 := Lib.hid h1
              go_quiet (fail)
              go_wp2
              go_ret
              exact ⟨rfl, (h1.out.drewN _).bel⟩
            · have p5 : decide (c < (n : Int)) = false := decide_eq_false q5
              have E : hasL n a b c = false := by simp [hasL, hasN]; omega
              rw [E]
              clear E
              go_enter Try.func30, Try.ntmps30
              go_wp2_with (refine wpList_box_st h0 51 _ rfl rfl #[.int .i64 a, .int .i64 b, .int .i64 c] rfl ?_; clear h0; intro W1 h1 _ hb1; have d0 := h1.cell 0 rfl 0 (.int .i64 a) rfl; have d1 := h1.cell 0 rfl 1 (.int .i64 b) rfl; have d2 := h1.cell 0 rfl 2 (.int .i64 c) rfl; have e0 := (hb1.cell (p := ⟨g, 0, none⟩) hg).trans c0; clear c0)
              replace h1 := Lib.hid h1
              go_quiet (fail)
              go_wp2
              go_ret
              exact ⟨rfl, (h1.out.drewN _).bel⟩
          · have p4 : decide (0 ≤ c) = false := decide_eq_false q4
            have E : hasL n a b c = false := by simp [hasL, hasN]; omega
            rw [E]
            clear E
            go_enter Try.func30, Try.ntmps30
            go_wp2_with (refine wpList_box_st h0 51 _ rfl rfl #[.int .i64 a, .int .i64 b, .int .i64 c] rfl ?_; clear h0; intro W1 h1 _ hb1; have d0 := h1.cell 0 rfl 0 (.int .i64 a) rfl; have d1 := h1.cell 0 rfl 1 (.int .i64 b) rfl; have d2 := h1.cell 0 rfl 2 (.int .i64 c) rfl; have e0 := (hb1.cell (p := ⟨g, 0, none⟩) hg).trans c0; clear c0)
            replace h1 := Lib.hid h1
            go_quiet (fail)
            go_wp2
            go_ret
            exact ⟨rfl, (h1.out.drewN _).bel⟩
        · have p3 : decide (b < (n : Int)) = false := decide_eq_false q3
          have E : hasL n a b c = false := by simp [hasL, hasN]; omega
          rw [E]
          clear E
          go_enter Try.func30, Try.ntmps30
          go_wp2_with (refine wpList_box_st h0 51 _ rfl rfl #[.int .i64 a, .int .i64 b, .int .i64 c] rfl ?_; clear h0; intro W1 h1 _ hb1; have d0 := h1.cell 0 rfl 0 (.int .i64 a) rfl; have d1 := h1.cell 0 rfl 1 (.int .i64 b) rfl; have d2 := h1.cell 0 rfl 2 (.int .i64 c) rfl; have e0 := (hb1.cell (p := ⟨g, 0, none⟩) hg).trans c0; clear c0)
          replace h1 := Lib.hid h1
          go_quiet (fail)
          go_wp2
          go_ret
          exact ⟨rfl, (h1.out.drewN _).bel⟩
      · have p2 : decide (0 ≤ b) = false := decide_eq_false q2
        have E : hasL n a b c = false := by simp [hasL, hasN]; omega
        rw [E]
        clear E
        go_enter Try.func30, Try.ntmps30
        go_wp2_with (refine wpList_box_st h0 51 _ rfl rfl #[.int .i64 a, .int .i64 b, .int .i64 c] rfl ?_; clear h0; intro W1 h1 _ hb1; have d0 := h1.cell 0 rfl 0 (.int .i64 a) rfl; have d1 := h1.cell 0 rfl 1 (.int .i64 b) rfl; have d2 := h1.cell 0 rfl 2 (.int .i64 c) rfl; have e0 := (hb1.cell (p := ⟨g, 0, none⟩) hg).trans c0; clear c0)
        replace h1 := Lib.hid h1
        go_quiet (fail)
        go_wp2
        go_ret
        exact ⟨rfl, (h1.out.drewN _).bel⟩
    · have p1 : decide (a < 3) = false := decide_eq_false q1
      have E : hasL n a b c = false := by simp [hasL, hasN]; omega
      rw [E]
      clear E
      go_enter Try.func30, Try.ntmps30
      go_wp2_with (refine wpList_box_st h0 51 _ rfl rfl #[.int .i64 a, .int .i64 b, .int .i64 c] rfl ?_; clear h0; intro W1 h1 _ hb1; have d0 := h1.cell 0 rfl 0 (.int .i64 a) rfl; have d1 := h1.cell 0 rfl 1 (.int .i64 b) rfl; have d2 := h1.cell 0 rfl 2 (.int .i64 c) rfl; have e0 := (hb1.cell (p := ⟨g, 0, none⟩) hg).trans c0; clear c0)
      replace h1 := Lib.hid h1
      go_quiet (fail)
      go_wp2
      go_ret
      exact ⟨rfl, (h1.out.drewN _).bel⟩
  · have p0 : decide (0 ≤ a) = false := decide_eq_false q0
    have E : hasL n a b c = false := by simp [hasL, hasN]; omega
    rw [E]
    clear E
    go_enter Try.func30, Try.ntmps30
    go_wp2_with (refine wpList_box_st h0 51 _ rfl rfl #[.int .i64 a, .int .i64 b, .int .i64 c] rfl ?_; clear h0; intro W1 h1 _ hb1; have d0 := h1.cell 0 rfl 0 (.int .i64 a) rfl; have d1 := h1.cell 0 rfl 1 (.int .i64 b) rfl; have d2 := h1.cell 0 rfl 2 (.int .i64 c) rfl; have e0 := (hb1.cell (p := ⟨g, 0, none⟩) hg).trans c0; clear c0)
    replace h1 := Lib.hid h1
    go_quiet (fail)
    go_wp2
    go_ret
    exact ⟨rfl, (h1.out.drewN _).bel⟩
theorem rthere_rn {w W : World} {g n R : Nat} {xs : List Sn} {L : Blks} (h : RN w W g n R xs L) (l : Lk) :
    Calls Try.prog 30 #[.pointer (some ⟨g, 0, none⟩), .agg #[.int .i64 l.a, .int .i64 l.b, .int .i64 l.d]] W fun e W' => e = .returned (.bool (hasO n l)) ∧ RN w W' g n R xs L := by
  obtain ⟨h1, h2, v, M, hr, hs⟩ := h
  have hA : At W g 68 #[.int .i64 (n : Int), .int .i64 (R : Int), v] := hs.get 0 rfl
  refine (rthere_any g n l.a l.b l.d W (hA.cell 0) (heap_lt hA)).mono ?_
  rintro e W' ⟨rfl, hb⟩
  exact ⟨rfl, h1, h2, v, M, hr, hs.call hb⟩
end Go.Proofs.Ytacjdeppigdbjaa
