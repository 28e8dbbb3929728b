/- The law of memory's use. No statement is proved here. -/
import Derived.Test.YtbmdkmnkbchokaaUsePlain
namespace Go.Proofs.Ytbmdkmnkbchokaa
open Go.RowKit
set_option linter.unusedVariables false
set_option linter.unusedSimpArgs false
attribute [local irreducible] arrV Mm.arr Mm.fresh stR stW opsU
/-- Memory is made, of N noughts. -/
def News (w : World) (s : Int) (N : Nat) : Prop := ∀ W, St w W [] → Calls Try.prog 7 #[.int .i64 s, .slice none 0 0] W fun e W' => ∃ g b, e = .returned (.pointer (some ⟨g, 0, none⟩)) ∧ St w W' [(g, 45, (Mm.fresh (List.replicate N 0)).arr b), (b, 5, arrV (List.replicate N 0))]
theorem stR_xs (a n N j : Nat) : (stR a n N j).xs = List.replicate N 0 := by unfold stR; rfl
theorem stW_xs (a n N j : Nat) : (stW a n N j).xs = List.replicate N 0 := by unfold stW; rfl
theorem fresh_xsU (xs : List Nat) : (Mm.fresh xs).xs = xs := by unfold Mm.fresh; rfl
theorem fresh_okU (N : Nat) (hN : N ≤ 5000) : (Mm.fresh (List.replicate N 0)).Ok := by rw [← stR_zero 0 0 N]; exact stR_ok 0 0 N 0 (by omega) hN (by omega)
theorem store34 (x y z : Int) : (#[.int .i64 x, .int .i64 y, .int .i64 z] : Array Value).all (·.oneCell') = true := cell3 x y z

def Rel_ok_read (w : World) (g b a n N : Nat) (e i : Value) (wr : World) : Prop :=
  ∃ j : Nat, j ≤ 2 ∧ i = .int .i64 ((j : Int) + 1) ∧ e = .int .i64 0 ∧ St w wr [(g, 45, (stR a n N j).arr b), (b, 5, arrV (List.replicate N 0))]
set_option maxRecDepth 20000 in
set_option maxHeartbeats 8000000 in
theorem use_ok_read (s : Int) (a n N : Nat) (w : World) (NW : News w s N) (hs : s ≤ 5000) (hn : n ≤ 5000) (hN : N ≤ 5000) (hf : a + n ≤ N) :
    Calls Try.prog 5 #[.int .i64 s, .int .i64 (a : Int), .int .i64 n, .bool false] w fun e w' => e = .returned (.bool true) ∧ Below w.heap.size w w' := by
  have SK := Lib.hid (fun W => speaks_true W)
  have h0 := St.nil w
  have N0 := Lib.hid NW
  clear NW
  have g1 : (5000 < s) = False := eq_false (by omega)
  have g2 : (5000 < (n : Int)) = False := eq_false (by omega)
  have Z0 : Hid (Mm.fresh (List.replicate N 0) = stR a n N 0) := (stR_zero a n N).symm
  go_enter Try.func5, Try.ntmps5
  go_wp2_with (first
    | (go_at_call 6; refine (SK.out _).mono ?_; rintro e W1 ⟨rfl, hb⟩; have h1 := h0.call hb; clear h0 hb SK)
    | (go_at_call 7; refine (N0.out _ h1).mono ?_; rintro e W2 ⟨g, b, rfl, h2⟩; clear h1))
  rw [Z0.out] at h2
  clear N0 Z0
  go_loopw [10, 11] (Rel_ok_read w g b a n N) (fun _ i _ => 3 - (intOf i).toNat)
  case atStart => exact ⟨0, by omega, rfl, rfl, h2⟩
  case round =>
    obtain ⟨j, hj, rfl, rfl, h4⟩ := hrel
    clear h2
    have F2 := field34_2
    by_cases hlt : j < 2
    · have gl : ((j : Int) + 1 ≤ 2) = True := eq_true (by omega)
      have ub := opsU_up a n j
      have u0 := opsU_bd a n (by omega) j
      have us := opsU_same a n
      have U0 : Hid (∀ W, St w W [(g, 45, (stR a n N j).arr b), (b, 5, arrV (List.replicate N 0))] → Calls Try.prog 12 #[.pointer (some ⟨g, 0, none⟩)] W fun e W' => e = .returned (.agg #[.int .i64 (stR a n N j).rd, .int .i64 (stR a n N j).wr, .int .i64 (opsU a n j).2]) ∧ St w W' [(g, 45, (stR a n N j).arr b), (b, 5, arrV (List.replicate N 0))]) := fun W h => by
        have := use_any h
        rw [show (stR a n N j).op = (opsU a n j).2 by unfold stR; rfl] at this
        exact this
      have U1 : Hid (∀ r W, St w W [(g, 45, (stR a n N (j + 1)).arr b), (b, 5, arrV (List.replicate N 0)), (r, 5, arrV (List.replicate n 0))] → Calls Try.prog 12 #[.pointer (some ⟨g, 0, none⟩)] W fun e W' => e = .returned (.agg #[.int .i64 ((j : Int) + 1), .int .i64 0, .int .i64 (opsU a n (j + 1)).2]) ∧ St w W' [(g, 45, (stR a n N (j + 1)).arr b), (b, 5, arrV (List.replicate N 0)), (r, 5, arrV (List.replicate n 0))]) := fun r W h => by
        have := use_any h
        rw [show (stR a n N (j + 1)).op = (opsU a n (j + 1)).2 by unfold stR; rfl, show (stR a n N (j + 1)).rd = ((j : Int) + 1) by unfold stR; rfl, show (stR a n N (j + 1)).wr = 0 by unfold stR; rfl] at this
        exact this
      have DO : Hid (∀ W, St w W [(g, 45, (stR a n N j).arr b), (b, 5, arrV (List.replicate N 0))] → Calls Try.prog 14 #[.pointer (some ⟨g, 0, none⟩), .int .i64 (a : Int), .int .i64 (n : Int)] W fun e W' => ∃ r, e = .returned (.tuple #[.slice (some ⟨r, 0, none⟩) n n, .int .i64 0]) ∧ St w W' [(g, 45, (stR a n N (j + 1)).arr b), (b, 5, arrV (List.replicate N 0)), (r, 5, arrV (List.replicate n 0))]) := fun W h => by
        have := read_yes a n (by rw [stR_xs]; exact h) (stR_ok a n N j (by omega) hN (by omega)) (by unfold stR; simp only; omega) (by rw [stR_xs]; simpa using hf)
        rw [stR_step a n N j, stR_xs, List.drop_replicate, List.take_replicate, Nat.min_eq_left (by omega)] at this
        exact this
      have gd : ((n : Int) / 64 + 2 < (opsU a n (j + 1)).2 - (opsU a n j).2) = False := eq_false (by omega)
      by_cases h1j : j = 1
      · have q2 : ((j : Int) + 1 == 2) = true := by subst h1j; rfl
        by_cases h64 : (n : Int) ≤ 64
        · have eo : (opsU a n (j + 1)).2 = (opsU a n j).2 := by subst h1j; exact us (by omega)
          have q4 : ((opsU a n (j + 1)).2 != (opsU a n j).2) = false := by rw [eo]; simp
          have HJ := Lib.hid h1j
          clear us h1j eo
          generalize (opsU a n (j + 1)).2 = o2 at *
          generalize (opsU a n j).2 = o1 at *
          go_wp2_with (first
        | (go_at_call 12; have _ := h4; refine (U0.out _ h4).mono ?_; rintro e W5 ⟨rfl, h5⟩; clear h4)
        | (go_at_call 14; refine (DO.out _ h5).mono ?_; rintro e W6 ⟨r, rfl, h6⟩; clear h5)
        | (go_at_call 12; have _ := h6; refine (U1.out _ _ h6).mono ?_; rintro e W7 ⟨rfl, h7⟩; clear h6)
        | (refine wpList_alloc_st h7 34 rfl rfl _ #[.int .i64 0, .int .i64 0, .int .i64 0] zv34 rfl ?_; clear h7; intro W8 h8 _ _)
        | (refine wpList_store_st h8 3 rfl 34 (.tmp 13) (.tmp 46) rfl rfl rfl rfl sz34 rfl (cell3 _ _ _) ?_; clear h8; intro W9 h9 _; have c0 := h9.cell 3 rfl 0 _ rfl; have c1 := h9.cell 3 rfl 1 _ rfl; have c2 := h9.cell 3 rfl 2 _ rfl)
        | (refine wpList_load_st h9 3 rfl 34 _ (.tmp 13) rfl rfl rfl Try.underlying34 rfl sz34 ?_))
          go_roundw
          case rel => exact ⟨j + 1, by omega, by go_num, rfl, h9.sub (by simp)⟩
          case measure => simp [intOf]; omega
        · clear us h1j
          generalize (opsU a n (j + 1)).2 = o2 at *
          generalize (opsU a n j).2 = o1 at *
          go_wp2_with (first
        | (go_at_call 12; have _ := h4; refine (U0.out _ h4).mono ?_; rintro e W5 ⟨rfl, h5⟩; clear h4)
        | (go_at_call 14; refine (DO.out _ h5).mono ?_; rintro e W6 ⟨r, rfl, h6⟩; clear h5)
        | (go_at_call 12; have _ := h6; refine (U1.out _ _ h6).mono ?_; rintro e W7 ⟨rfl, h7⟩; clear h6)
        | (refine wpList_alloc_st h7 34 rfl rfl _ #[.int .i64 0, .int .i64 0, .int .i64 0] zv34 rfl ?_; clear h7; intro W8 h8 _ _)
        | (refine wpList_store_st h8 3 rfl 34 (.tmp 13) (.tmp 46) rfl rfl rfl rfl sz34 rfl (cell3 _ _ _) ?_; clear h8; intro W9 h9 _; have c0 := h9.cell 3 rfl 0 _ rfl; have c1 := h9.cell 3 rfl 1 _ rfl; have c2 := h9.cell 3 rfl 2 _ rfl)
        | (refine wpList_load_st h9 3 rfl 34 _ (.tmp 13) rfl rfl rfl Try.underlying34 rfl sz34 ?_))
          go_roundw
          case rel => exact ⟨j + 1, by omega, by go_num, rfl, h9.sub (by simp)⟩
          case measure => simp [intOf]; omega
      · have q2 : ((j : Int) + 1 == 2) = false := by simp; omega
        clear us h1j
        generalize (opsU a n (j + 1)).2 = o2 at *
        generalize (opsU a n j).2 = o1 at *
        go_wp2_with (first
        | (go_at_call 12; have _ := h4; refine (U0.out _ h4).mono ?_; rintro e W5 ⟨rfl, h5⟩; clear h4)
        | (go_at_call 14; refine (DO.out _ h5).mono ?_; rintro e W6 ⟨r, rfl, h6⟩; clear h5)
        | (go_at_call 12; have _ := h6; refine (U1.out _ _ h6).mono ?_; rintro e W7 ⟨rfl, h7⟩; clear h6)
        | (refine wpList_alloc_st h7 34 rfl rfl _ #[.int .i64 0, .int .i64 0, .int .i64 0] zv34 rfl ?_; clear h7; intro W8 h8 _ _)
        | (refine wpList_store_st h8 3 rfl 34 (.tmp 13) (.tmp 46) rfl rfl rfl rfl sz34 rfl (cell3 _ _ _) ?_; clear h8; intro W9 h9 _; have c0 := h9.cell 3 rfl 0 _ rfl; have c1 := h9.cell 3 rfl 1 _ rfl; have c2 := h9.cell 3 rfl 2 _ rfl)
        | (refine wpList_load_st h9 3 rfl 34 _ (.tmp 13) rfl rfl rfl Try.underlying34 rfl sz34 ?_))
        go_roundw
        case rel => exact ⟨j + 1, by omega, by go_num, rfl, h9.sub (by simp)⟩
        case measure => simp [intOf]; omega
    · have gl : ((j : Int) + 1 ≤ 2) = False := eq_false (by omega)
      go_wp2
      go_ret
      exact ⟨rfl, h4.bel⟩

def Rel_ok_write (w : World) (g b a n N : Nat) (e i : Value) (wr : World) : Prop :=
  ∃ j : Nat, j ≤ 2 ∧ i = .int .i64 ((j : Int) + 1) ∧ e = .int .i64 0 ∧ St w wr [(g, 45, (stW a n N j).arr b), (b, 5, arrV (List.replicate N 0))]
set_option maxRecDepth 20000 in
set_option maxHeartbeats 8000000 in
theorem use_ok_write (s : Int) (a n N : Nat) (w : World) (NW : News w s N) (hs : s ≤ 5000) (hn : n ≤ 5000) (hN : N ≤ 5000) (hf : a + n ≤ N) :
    Calls Try.prog 5 #[.int .i64 s, .int .i64 (a : Int), .int .i64 n, .bool true] w fun e w' => e = .returned (.bool true) ∧ Below w.heap.size w w' := by
  have SK := Lib.hid (fun W => speaks_true W)
  have h0 := St.nil w
  have N0 := Lib.hid NW
  clear NW
  have g1 : (5000 < s) = False := eq_false (by omega)
  have g2 : (5000 < (n : Int)) = False := eq_false (by omega)
  have Z0 : Hid (Mm.fresh (List.replicate N 0) = stW a n N 0) := (stW_zero a n N).symm
  go_enter Try.func5, Try.ntmps5
  go_wp2_with (first
    | (go_at_call 6; refine (SK.out _).mono ?_; rintro e W1 ⟨rfl, hb⟩; have h1 := h0.call hb; clear h0 hb SK)
    | (go_at_call 7; refine (N0.out _ h1).mono ?_; rintro e W2 ⟨g, b, rfl, h2⟩; clear h1))
  rw [Z0.out] at h2
  clear N0 Z0
  go_loopw [10, 11] (Rel_ok_write w g b a n N) (fun _ i _ => 3 - (intOf i).toNat)
  case atStart => exact ⟨0, by omega, rfl, rfl, h2⟩
  case round =>
    obtain ⟨j, hj, rfl, rfl, h4⟩ := hrel
    clear h2
    have F2 := field34_2
    by_cases hlt : j < 2
    · have gl : ((j : Int) + 1 ≤ 2) = True := eq_true (by omega)
      have ub := opsU_up a n j
      have u0 := opsU_bd a n (by omega) j
      have us := opsU_same a n
      have U0 : Hid (∀ W, St w W [(g, 45, (stW a n N j).arr b), (b, 5, arrV (List.replicate N 0))] → Calls Try.prog 12 #[.pointer (some ⟨g, 0, none⟩)] W fun e W' => e = .returned (.agg #[.int .i64 (stW a n N j).rd, .int .i64 (stW a n N j).wr, .int .i64 (opsU a n j).2]) ∧ St w W' [(g, 45, (stW a n N j).arr b), (b, 5, arrV (List.replicate N 0))]) := fun W h => by
        have := use_any h
        rw [show (stW a n N j).op = (opsU a n j).2 by unfold stW; rfl] at this
        exact this
      have U1 : Hid (∀ r W, St w W [(g, 45, (stW a n N (j + 1)).arr b), (b, 5, arrV (List.replicate N 0)), (r, 5, arrV (List.replicate n 0))] → Calls Try.prog 12 #[.pointer (some ⟨g, 0, none⟩)] W fun e W' => e = .returned (.agg #[.int .i64 0, .int .i64 ((j : Int) + 1), .int .i64 (opsU a n (j + 1)).2]) ∧ St w W' [(g, 45, (stW a n N (j + 1)).arr b), (b, 5, arrV (List.replicate N 0)), (r, 5, arrV (List.replicate n 0))]) := fun r W h => by
        have := use_any h
        rw [show (stW a n N (j + 1)).op = (opsU a n (j + 1)).2 by unfold stW; rfl, show (stW a n N (j + 1)).rd = 0 by unfold stW; rfl, show (stW a n N (j + 1)).wr = ((j : Int) + 1) by unfold stW; rfl] at this
        exact this
      have DO : Hid (∀ r W, St w W [(g, 45, (stW a n N j).arr b), (b, 5, arrV (List.replicate N 0)), (r, 5, arrV (List.replicate n 0))] → Calls Try.prog 10 #[.pointer (some ⟨g, 0, none⟩), .int .i64 (a : Int), .slice (some ⟨r, 0, none⟩) n n] W fun e W' => e = .returned (.int .i64 0) ∧ St w W' [(g, 45, (stW a n N (j + 1)).arr b), (b, 5, arrV (List.replicate N 0)), (r, 5, arrV (List.replicate n 0))]) := fun r W h => by
        have := write_yes a n n r 0 (List.replicate n 0) (by rw [stW_xs]; exact h) rfl (by simp) (rep_lt _) (by omega) (by omega) (stW_ok a n N j (by omega) hN (by omega)) (by unfold stW; simp only; omega) (by rw [stW_xs]; simpa using hf)
        rw [stW_step a n N j hf, stW_xs] at this
        exact this
      have gd : ((n : Int) / 64 + 2 < (opsU a n (j + 1)).2 - (opsU a n j).2) = False := eq_false (by omega)
      by_cases h1j : j = 1
      · have q2 : ((j : Int) + 1 == 2) = true := by subst h1j; rfl
        by_cases h64 : (n : Int) ≤ 64
        · have eo : (opsU a n (j + 1)).2 = (opsU a n j).2 := by subst h1j; exact us (by omega)
          have q4 : ((opsU a n (j + 1)).2 != (opsU a n j).2) = false := by rw [eo]; simp
          have HJ := Lib.hid h1j
          clear us h1j eo
          generalize (opsU a n (j + 1)).2 = o2 at *
          generalize (opsU a n j).2 = o1 at *
          go_wp2_with (first
        | (go_at_call 12; have _ := h4; refine (U0.out _ h4).mono ?_; rintro e W5 ⟨rfl, h5⟩; clear h4)
        | (refine wpList_makeB_st h5 _ _ rfl rfl n rfl rfl (by omega) ?_; clear h5; intro W51 h51 b51)
        | (go_at_call 10; refine (DO.out _ _ h51).mono ?_; rintro e W6 ⟨rfl, h6⟩; clear h51)
        | (go_at_call 12; have _ := h6; refine (U1.out _ _ h6).mono ?_; rintro e W7 ⟨rfl, h7⟩; clear h6)
        | (refine wpList_alloc_st h7 34 rfl rfl _ #[.int .i64 0, .int .i64 0, .int .i64 0] zv34 rfl ?_; clear h7; intro W8 h8 _ _)
        | (refine wpList_store_st h8 3 rfl 34 (.tmp 13) (.tmp 46) rfl rfl rfl rfl sz34 rfl (cell3 _ _ _) ?_; clear h8; intro W9 h9 _; have c0 := h9.cell 3 rfl 0 _ rfl; have c1 := h9.cell 3 rfl 1 _ rfl; have c2 := h9.cell 3 rfl 2 _ rfl)
        | (refine wpList_load_st h9 3 rfl 34 _ (.tmp 13) rfl rfl rfl Try.underlying34 rfl sz34 ?_))
          go_roundw
          case rel => exact ⟨j + 1, by omega, by go_num, rfl, h9.sub (by simp)⟩
          case measure => simp [intOf]; omega
        · clear us h1j
          generalize (opsU a n (j + 1)).2 = o2 at *
          generalize (opsU a n j).2 = o1 at *
          go_wp2_with (first
        | (go_at_call 12; have _ := h4; refine (U0.out _ h4).mono ?_; rintro e W5 ⟨rfl, h5⟩; clear h4)
        | (refine wpList_makeB_st h5 _ _ rfl rfl n rfl rfl (by omega) ?_; clear h5; intro W51 h51 b51)
        | (go_at_call 10; refine (DO.out _ _ h51).mono ?_; rintro e W6 ⟨rfl, h6⟩; clear h51)
        | (go_at_call 12; have _ := h6; refine (U1.out _ _ h6).mono ?_; rintro e W7 ⟨rfl, h7⟩; clear h6)
        | (refine wpList_alloc_st h7 34 rfl rfl _ #[.int .i64 0, .int .i64 0, .int .i64 0] zv34 rfl ?_; clear h7; intro W8 h8 _ _)
        | (refine wpList_store_st h8 3 rfl 34 (.tmp 13) (.tmp 46) rfl rfl rfl rfl sz34 rfl (cell3 _ _ _) ?_; clear h8; intro W9 h9 _; have c0 := h9.cell 3 rfl 0 _ rfl; have c1 := h9.cell 3 rfl 1 _ rfl; have c2 := h9.cell 3 rfl 2 _ rfl)
        | (refine wpList_load_st h9 3 rfl 34 _ (.tmp 13) rfl rfl rfl Try.underlying34 rfl sz34 ?_))
          go_roundw
          case rel => exact ⟨j + 1, by omega, by go_num, rfl, h9.sub (by simp)⟩
          case measure => simp [intOf]; omega
      · have q2 : ((j : Int) + 1 == 2) = false := by simp; omega
        clear us h1j
        generalize (opsU a n (j + 1)).2 = o2 at *
        generalize (opsU a n j).2 = o1 at *
        go_wp2_with (first
        | (go_at_call 12; have _ := h4; refine (U0.out _ h4).mono ?_; rintro e W5 ⟨rfl, h5⟩; clear h4)
        | (refine wpList_makeB_st h5 _ _ rfl rfl n rfl rfl (by omega) ?_; clear h5; intro W51 h51 b51)
        | (go_at_call 10; refine (DO.out _ _ h51).mono ?_; rintro e W6 ⟨rfl, h6⟩; clear h51)
        | (go_at_call 12; have _ := h6; refine (U1.out _ _ h6).mono ?_; rintro e W7 ⟨rfl, h7⟩; clear h6)
        | (refine wpList_alloc_st h7 34 rfl rfl _ #[.int .i64 0, .int .i64 0, .int .i64 0] zv34 rfl ?_; clear h7; intro W8 h8 _ _)
        | (refine wpList_store_st h8 3 rfl 34 (.tmp 13) (.tmp 46) rfl rfl rfl rfl sz34 rfl (cell3 _ _ _) ?_; clear h8; intro W9 h9 _; have c0 := h9.cell 3 rfl 0 _ rfl; have c1 := h9.cell 3 rfl 1 _ rfl; have c2 := h9.cell 3 rfl 2 _ rfl)
        | (refine wpList_load_st h9 3 rfl 34 _ (.tmp 13) rfl rfl rfl Try.underlying34 rfl sz34 ?_))
        go_roundw
        case rel => exact ⟨j + 1, by omega, by go_num, rfl, h9.sub (by simp)⟩
        case measure => simp [intOf]; omega
    · have gl : ((j : Int) + 1 ≤ 2) = False := eq_false (by omega)
      go_wp2
      go_ret
      exact ⟨rfl, h4.bel⟩

def Rel_ok_write_neg (w : World) (g b a N : Nat) (e i : Value) (wr : World) : Prop :=
  ∃ j : Nat, j ≤ 2 ∧ i = .int .i64 ((j : Int) + 1) ∧ e = .int .i64 0 ∧ St w wr [(g, 45, (stW a 0 N j).arr b), (b, 5, arrV (List.replicate N 0))]
set_option maxRecDepth 20000 in
set_option maxHeartbeats 8000000 in
theorem use_ok_write_neg (s : Int) (a : Nat) (n : Int) (N : Nat) (w : World) (NW : News w s N) (hs : s ≤ 5000) (hn : n < 0) (n0 : -9223372036854775808 ≤ n) (hN : N ≤ 5000) (hf : a + 0 ≤ N) :
    Calls Try.prog 5 #[.int .i64 s, .int .i64 (a : Int), .int .i64 n, .bool true] w fun e w' => e = .returned (.bool true) ∧ Below w.heap.size w w' := by
  have SK := Lib.hid (fun W => speaks_true W)
  have h0 := St.nil w
  have N0 := Lib.hid NW
  clear NW
  have g1 : (5000 < s) = False := eq_false (by omega)
  have g2 : (5000 < n) = False := eq_false (by omega)
  have Z0 : Hid (Mm.fresh (List.replicate N 0) = stW a 0 N 0) := (stW_zero a 0 N).symm
  go_enter Try.func5, Try.ntmps5
  go_wp2_with (first
    | (go_at_call 6; refine (SK.out _).mono ?_; rintro e W1 ⟨rfl, hb⟩; have h1 := h0.call hb; clear h0 hb SK)
    | (go_at_call 7; refine (N0.out _ h1).mono ?_; rintro e W2 ⟨g, b, rfl, h2⟩; clear h1))
  rw [Z0.out] at h2
  clear N0 Z0
  go_loopw [10, 11] (Rel_ok_write_neg w g b a N) (fun _ i _ => 3 - (intOf i).toNat)
  case atStart => exact ⟨0, by omega, rfl, rfl, h2⟩
  case round =>
    obtain ⟨j, hj, rfl, rfl, h4⟩ := hrel
    clear h2
    have F2 := field34_2
    by_cases hlt : j < 2
    · have gl : ((j : Int) + 1 ≤ 2) = True := eq_true (by omega)
      have ub := opsU_up a 0 j
      have u0 := opsU_bd a 0 (by omega) j
      have us := opsU_same a 0
      have U0 : Hid (∀ W, St w W [(g, 45, (stW a 0 N j).arr b), (b, 5, arrV (List.replicate N 0))] → Calls Try.prog 12 #[.pointer (some ⟨g, 0, none⟩)] W fun e W' => e = .returned (.agg #[.int .i64 (stW a 0 N j).rd, .int .i64 (stW a 0 N j).wr, .int .i64 (opsU a 0 j).2]) ∧ St w W' [(g, 45, (stW a 0 N j).arr b), (b, 5, arrV (List.replicate N 0))]) := fun W h => by
        have := use_any h
        rw [show (stW a 0 N j).op = (opsU a 0 j).2 by unfold stW; rfl] at this
        exact this
      have U1 : Hid (∀ r W, St w W [(g, 45, (stW a 0 N (j + 1)).arr b), (b, 5, arrV (List.replicate N 0)), (r, 5, arrV (List.replicate 0 0))] → Calls Try.prog 12 #[.pointer (some ⟨g, 0, none⟩)] W fun e W' => e = .returned (.agg #[.int .i64 0, .int .i64 ((j : Int) + 1), .int .i64 (opsU a 0 (j + 1)).2]) ∧ St w W' [(g, 45, (stW a 0 N (j + 1)).arr b), (b, 5, arrV (List.replicate N 0)), (r, 5, arrV (List.replicate 0 0))]) := fun r W h => by
        have := use_any h
        rw [show (stW a 0 N (j + 1)).op = (opsU a 0 (j + 1)).2 by unfold stW; rfl, show (stW a 0 N (j + 1)).rd = 0 by unfold stW; rfl, show (stW a 0 N (j + 1)).wr = ((j : Int) + 1) by unfold stW; rfl] at this
        exact this
      have DO : Hid (∀ r W, St w W [(g, 45, (stW a 0 N j).arr b), (b, 5, arrV (List.replicate N 0)), (r, 5, arrV (List.replicate 0 0))] → Calls Try.prog 10 #[.pointer (some ⟨g, 0, none⟩), .int .i64 (a : Int), .slice (some ⟨r, 0, none⟩) 0 0] W fun e W' => e = .returned (.int .i64 0) ∧ St w W' [(g, 45, (stW a 0 N (j + 1)).arr b), (b, 5, arrV (List.replicate N 0)), (r, 5, arrV (List.replicate 0 0))]) := fun r W h => by
        have := write_yes a 0 0 r 0 (List.replicate 0 0) (by rw [stW_xs]; exact h) rfl (by simp) (rep_lt _) (by omega) (by omega) (stW_ok a 0 N j (by omega) hN (by omega)) (by unfold stW; simp only; omega) (by rw [stW_xs]; simpa using hf)
        rw [stW_step a 0 N j hf, stW_xs] at this
        exact this
      have gd : ((2 : Int) < (opsU a 0 (j + 1)).2 - (opsU a 0 j).2) = False := eq_false (by omega)
      by_cases h1j : j = 1
      · have q2 : ((j : Int) + 1 == 2) = true := by subst h1j; rfl
        by_cases h64 : n ≤ 64
        · have eo : (opsU a 0 (j + 1)).2 = (opsU a 0 j).2 := by subst h1j; exact us (by omega)
          have q4 : ((opsU a 0 (j + 1)).2 != (opsU a 0 j).2) = false := by rw [eo]; simp
          have HJ := Lib.hid h1j
          clear us h1j eo
          generalize (opsU a 0 (j + 1)).2 = o2 at *
          generalize (opsU a 0 j).2 = o1 at *
          go_wp2_with (first
        | (go_at_call 12; have _ := h4; refine (U0.out _ h4).mono ?_; rintro e W5 ⟨rfl, h5⟩; clear h4)
        | (refine wpList_makeB_st h5 _ _ rfl rfl 0 rfl rfl (by omega) ?_; clear h5; intro W51 h51 b51)
        | (go_at_call 10; refine (DO.out _ _ h51).mono ?_; rintro e W6 ⟨rfl, h6⟩; clear h51)
        | (go_at_call 12; have _ := h6; refine (U1.out _ _ h6).mono ?_; rintro e W7 ⟨rfl, h7⟩; clear h6)
        | (refine wpList_alloc_st h7 34 rfl rfl _ #[.int .i64 0, .int .i64 0, .int .i64 0] zv34 rfl ?_; clear h7; intro W8 h8 _ _)
        | (refine wpList_store_st h8 3 rfl 34 (.tmp 13) (.tmp 46) rfl rfl rfl rfl sz34 rfl (cell3 _ _ _) ?_; clear h8; intro W9 h9 _; have c0 := h9.cell 3 rfl 0 _ rfl; have c1 := h9.cell 3 rfl 1 _ rfl; have c2 := h9.cell 3 rfl 2 _ rfl)
        | (refine wpList_load_st h9 3 rfl 34 _ (.tmp 13) rfl rfl rfl Try.underlying34 rfl sz34 ?_))
          go_roundw
          case rel => exact ⟨j + 1, by omega, by go_num, rfl, h9.sub (by simp)⟩
          case measure => simp [intOf]; omega
        · omega
      · have q2 : ((j : Int) + 1 == 2) = false := by simp; omega
        clear us h1j
        generalize (opsU a 0 (j + 1)).2 = o2 at *
        generalize (opsU a 0 j).2 = o1 at *
        go_wp2_with (first
        | (go_at_call 12; have _ := h4; refine (U0.out _ h4).mono ?_; rintro e W5 ⟨rfl, h5⟩; clear h4)
        | (refine wpList_makeB_st h5 _ _ rfl rfl 0 rfl rfl (by omega) ?_; clear h5; intro W51 h51 b51)
        | (go_at_call 10; refine (DO.out _ _ h51).mono ?_; rintro e W6 ⟨rfl, h6⟩; clear h51)
        | (go_at_call 12; have _ := h6; refine (U1.out _ _ h6).mono ?_; rintro e W7 ⟨rfl, h7⟩; clear h6)
        | (refine wpList_alloc_st h7 34 rfl rfl _ #[.int .i64 0, .int .i64 0, .int .i64 0] zv34 rfl ?_; clear h7; intro W8 h8 _ _)
        | (refine wpList_store_st h8 3 rfl 34 (.tmp 13) (.tmp 46) rfl rfl rfl rfl sz34 rfl (cell3 _ _ _) ?_; clear h8; intro W9 h9 _; have c0 := h9.cell 3 rfl 0 _ rfl; have c1 := h9.cell 3 rfl 1 _ rfl; have c2 := h9.cell 3 rfl 2 _ rfl)
        | (refine wpList_load_st h9 3 rfl 34 _ (.tmp 13) rfl rfl rfl Try.underlying34 rfl sz34 ?_))
        go_roundw
        case rel => exact ⟨j + 1, by omega, by go_num, rfl, h9.sub (by simp)⟩
        case measure => simp [intOf]; omega
    · have gl : ((j : Int) + 1 ≤ 2) = False := eq_false (by omega)
      go_wp2
      go_ret
      exact ⟨rfl, h4.bel⟩
end Go.Proofs.Ytbmdkmnkbchokaa
