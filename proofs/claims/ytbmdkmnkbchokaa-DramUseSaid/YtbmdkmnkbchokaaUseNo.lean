/- The law of memory's use. No statement is proved here. -/
import Derived.Test.YtbmdkmnkbchokaaUseWalk
namespace Go.Proofs.Ytbmdkmnkbchokaa
open Go.RowKit
set_option linter.unusedVariables false
set_option linter.unusedSimpArgs false
attribute [local irreducible] arrV Mm.arr Mm.fresh stR stW opsU
theorem St.any {w W : World} {L : List (Nat × TypeId × Array Value)} (h : St w W L) (o : Obj) : St w (W.alloc o) L := ⟨fun x hx => (h.at_ x hx).alloc o, h.lo, h.nd, h.bel.alloc h.bel.size o⟩

def Rel_no_read (w : World) (g b N : Nat) (e i : Value) (wr : World) : Prop :=
  ∃ (j : Nat) (c : Int), j ≤ 2 ∧ i = .int .i64 ((j : Int) + 1) ∧ (c = 0 ∨ c = 2) ∧ e = .int .i64 c ∧ St w wr [(g, 45, (Mm.fresh (List.replicate N 0)).arr b), (b, 5, arrV (List.replicate N 0))]
set_option maxRecDepth 20000 in
set_option maxHeartbeats 8000000 in
theorem use_no_read (s a n : Int) (N : Nat) (w : World) (NW : News w s N) (hs : s ≤ 5000) (hn : n ≤ 5000) (n0 : -9223372036854775808 ≤ n) (hN : N ≤ 5000) (a0 : -9223372036854775808 ≤ a) (a1 : a ≤ 9223372036854775807) (hf : hasB N a n = false) :
    Calls Try.prog 5 #[.int .i64 s, .int .i64 a, .int .i64 n, .bool false] w fun e w' => e = .returned (.bool true) ∧ Below w.heap.size w w' := by
  have SK := Lib.hid (fun W => speaks_true W)
  have h0 := St.nil w
  have N0 := Lib.hid NW
  have HF := Lib.hid hf
  clear NW hf
  have g1 : (5000 < s) = False := eq_false (by omega)
  have g2 : (5000 < n) = False := eq_false (by omega)
  go_enter Try.func5, Try.ntmps5
  go_wp2_with (first
    | (go_at_call 6; refine (SK.out _).mono ?_; rintro e W1 ⟨rfl, hb⟩; have h1 := h0.call hb; clear h0 hb SK)
    | (go_at_call 7; refine (N0.out _ h1).mono ?_; rintro e W2 ⟨g, b, rfl, h2⟩; clear h1))
  clear N0
  go_loopw [10, 11] (Rel_no_read w g b N) (fun _ i _ => 3 - (intOf i).toNat)
  case atStart => exact ⟨0, 0, by omega, rfl, .inl rfl, rfl, h2⟩
  case round =>
    obtain ⟨j, c, hj, rfl, hc, rfl, h4⟩ := hrel
    clear h2
    have F2 := field34_2
    by_cases hlt : j < 2
    · have gl : ((j : Int) + 1 ≤ 2) = True := eq_true (by omega)
      have U0 : Hid (∀ W, St w W [(g, 45, (Mm.fresh (List.replicate N 0)).arr b), (b, 5, arrV (List.replicate N 0))] → Calls Try.prog 12 #[.pointer (some ⟨g, 0, none⟩)] W fun e W' => e = .returned (.agg #[.int .i64 0, .int .i64 0, .int .i64 0]) ∧ St w W' [(g, 45, (Mm.fresh (List.replicate N 0)).arr b), (b, 5, arrV (List.replicate N 0))]) := fun W h => by
        have := use_any h
        unfold Mm.fresh at this ⊢
        exact this
      have DO : Hid (∀ W, St w W [(g, 45, (Mm.fresh (List.replicate N 0)).arr b), (b, 5, arrV (List.replicate N 0))] → Calls Try.prog 14 #[.pointer (some ⟨g, 0, none⟩), .int .i64 a, .int .i64 n] W fun e W' => e = .returned (.tuple #[.slice none 0 0, .int .i64 2]) ∧ W = W') := fun W h => read_no a n h (fresh_okU N hN) a0 a1 n0 (by omega) (by rw [fresh_xsU, List.length_replicate]; exact HF.out)
      go_wp2_with (first
        | (go_at_call 12; have _ := h4; refine (U0.out _ h4).mono ?_; rintro e W5 ⟨rfl, h5⟩; clear h4)
        | (go_at_call 14; refine (DO.out _ h5).mono ?_; rintro e W6 ⟨rfl, rfl⟩; have h6 := h5; clear h5)
        | (go_at_call 12; have _ := h6; refine (U0.out _ h6).mono ?_; rintro e W7 ⟨rfl, h7⟩; clear h6))
      go_roundw
      case rel => exact ⟨j + 1, 2, by omega, by go_num, .inr rfl, rfl, (h7.push 34 _).sub (by simp)⟩
      case measure => simp [intOf]; omega
    · have gl : ((j : Int) + 1 ≤ 2) = False := eq_false (by omega)
      rcases hc with rfl | rfl
      · go_wp2
        go_ret
        exact ⟨rfl, h4.bel⟩
      · go_wp2
        go_ret
        exact ⟨rfl, h4.bel⟩

def Rel_no_write (w : World) (g b N : Nat) (e i : Value) (wr : World) : Prop :=
  ∃ (j : Nat) (c : Int), j ≤ 2 ∧ i = .int .i64 ((j : Int) + 1) ∧ (c = 0 ∨ c = 2) ∧ e = .int .i64 c ∧ St w wr [(g, 45, (Mm.fresh (List.replicate N 0)).arr b), (b, 5, arrV (List.replicate N 0))]
set_option maxRecDepth 20000 in
set_option maxHeartbeats 8000000 in
theorem use_no_write (s a : Int) (n N : Nat) (w : World) (NW : News w s N) (hs : s ≤ 5000) (hn : n ≤ 5000) (hN : N ≤ 5000) (a0 : -9223372036854775808 ≤ a) (a1 : a ≤ 9223372036854775807) (hf : hasB N a n = false) :
    Calls Try.prog 5 #[.int .i64 s, .int .i64 a, .int .i64 n, .bool true] w fun e w' => e = .returned (.bool true) ∧ Below w.heap.size w w' := by
  have SK := Lib.hid (fun W => speaks_true W)
  have h0 := St.nil w
  have N0 := Lib.hid NW
  have HF := Lib.hid hf
  clear NW hf
  have g1 : (5000 < s) = False := eq_false (by omega)
  have g2 : (5000 < (n : Int)) = False := eq_false (by omega)
  go_enter Try.func5, Try.ntmps5
  go_wp2_with (first
    | (go_at_call 6; refine (SK.out _).mono ?_; rintro e W1 ⟨rfl, hb⟩; have h1 := h0.call hb; clear h0 hb SK)
    | (go_at_call 7; refine (N0.out _ h1).mono ?_; rintro e W2 ⟨g, b, rfl, h2⟩; clear h1))
  clear N0
  go_loopw [10, 11] (Rel_no_write w g b N) (fun _ i _ => 3 - (intOf i).toNat)
  case atStart => exact ⟨0, 0, by omega, rfl, .inl rfl, rfl, h2⟩
  case round =>
    obtain ⟨j, c, hj, rfl, hc, rfl, h4⟩ := hrel
    clear h2
    have F2 := field34_2
    by_cases hlt : j < 2
    · have gl : ((j : Int) + 1 ≤ 2) = True := eq_true (by omega)
      have U0 : Hid (∀ W, St w W [(g, 45, (Mm.fresh (List.replicate N 0)).arr b), (b, 5, arrV (List.replicate N 0))] → Calls Try.prog 12 #[.pointer (some ⟨g, 0, none⟩)] W fun e W' => e = .returned (.agg #[.int .i64 0, .int .i64 0, .int .i64 0]) ∧ St w W' [(g, 45, (Mm.fresh (List.replicate N 0)).arr b), (b, 5, arrV (List.replicate N 0))]) := fun W h => by
        have := use_any h
        unfold Mm.fresh at this ⊢
        exact this
      have DO : Hid (∀ A W, St w W [(g, 45, (Mm.fresh (List.replicate N 0)).arr b), (b, 5, arrV (List.replicate N 0))] → Calls Try.prog 10 #[.pointer (some ⟨g, 0, none⟩), .int .i64 a, .slice A n n] W fun e W' => e = .returned (.int .i64 2) ∧ W = W') := fun A W h => write_no a A n n h (fresh_okU N hN) a0 a1 (by omega) (by rw [fresh_xsU, List.length_replicate]; exact HF.out)
      go_wp2_with (first
        | (go_at_call 12; have _ := h4; refine (U0.out _ h4).mono ?_; rintro e W5 ⟨rfl, h5⟩; clear h4)
        | (have _ := h5; refine wpList_makeB_st h5 _ _ rfl rfl n rfl rfl (by omega) ?_; clear h5; intro W51 h51 b51; have h6 : St w W51 [(g, 45, (Mm.fresh (List.replicate N 0)).arr b), (b, 5, arrV (List.replicate N 0))] := h51.sub (by simp); clear h51)
        | (go_at_call 10; refine (DO.out _ _ h6).mono ?_; rintro e W6 ⟨rfl, rfl⟩)
        | (go_at_call 12; have _ := h6; refine (U0.out _ h6).mono ?_; rintro e W7 ⟨rfl, h7⟩; clear h6))
      go_roundw
      case rel => exact ⟨j + 1, 2, by omega, by go_num, .inr rfl, rfl, (h7.push 34 _).sub (by simp)⟩
      case measure => simp [intOf]; omega
    · have gl : ((j : Int) + 1 ≤ 2) = False := eq_false (by omega)
      rcases hc with rfl | rfl
      · go_wp2
        go_ret
        exact ⟨rfl, h4.bel⟩
      · go_wp2
        go_ret
        exact ⟨rfl, h4.bel⟩

def Rel_no_write_neg (w : World) (g b N : Nat) (e i : Value) (wr : World) : Prop :=
  ∃ (j : Nat) (c : Int), j ≤ 2 ∧ i = .int .i64 ((j : Int) + 1) ∧ (c = 0 ∨ c = 2) ∧ e = .int .i64 c ∧ St w wr [(g, 45, (Mm.fresh (List.replicate N 0)).arr b), (b, 5, arrV (List.replicate N 0))]
set_option maxRecDepth 20000 in
set_option maxHeartbeats 8000000 in
theorem use_no_write_neg (s a n : Int) (N : Nat) (w : World) (NW : News w s N) (hs : s ≤ 5000) (hn : n < 0) (n0 : -9223372036854775808 ≤ n) (hN : N ≤ 5000) (a0 : -9223372036854775808 ≤ a) (a1 : a ≤ 9223372036854775807) (hf : hasB N a 0 = false) :
    Calls Try.prog 5 #[.int .i64 s, .int .i64 a, .int .i64 n, .bool true] w fun e w' => e = .returned (.bool true) ∧ Below w.heap.size w w' := by
  have SK := Lib.hid (fun W => speaks_true W)
  have h0 := St.nil w
  have N0 := Lib.hid NW
  have HF := Lib.hid hf
  clear NW hf
  have g1 : (5000 < s) = False := eq_false (by omega)
  have g2 : (5000 < n) = False := eq_false (by omega)
  go_enter Try.func5, Try.ntmps5
  go_wp2_with (first
    | (go_at_call 6; refine (SK.out _).mono ?_; rintro e W1 ⟨rfl, hb⟩; have h1 := h0.call hb; clear h0 hb SK)
    | (go_at_call 7; refine (N0.out _ h1).mono ?_; rintro e W2 ⟨g, b, rfl, h2⟩; clear h1))
  clear N0
  go_loopw [10, 11] (Rel_no_write_neg w g b N) (fun _ i _ => 3 - (intOf i).toNat)
  case atStart => exact ⟨0, 0, by omega, rfl, .inl rfl, rfl, h2⟩
  case round =>
    obtain ⟨j, c, hj, rfl, hc, rfl, h4⟩ := hrel
    clear h2
    have F2 := field34_2
    by_cases hlt : j < 2
    · have gl : ((j : Int) + 1 ≤ 2) = True := eq_true (by omega)
      have U0 : Hid (∀ W, St w W [(g, 45, (Mm.fresh (List.replicate N 0)).arr b), (b, 5, arrV (List.replicate N 0))] → Calls Try.prog 12 #[.pointer (some ⟨g, 0, none⟩)] W fun e W' => e = .returned (.agg #[.int .i64 0, .int .i64 0, .int .i64 0]) ∧ St w W' [(g, 45, (Mm.fresh (List.replicate N 0)).arr b), (b, 5, arrV (List.replicate N 0))]) := fun W h => by
        have := use_any h
        unfold Mm.fresh at this ⊢
        exact this
      have DO : Hid (∀ A W, St w W [(g, 45, (Mm.fresh (List.replicate N 0)).arr b), (b, 5, arrV (List.replicate N 0))] → Calls Try.prog 10 #[.pointer (some ⟨g, 0, none⟩), .int .i64 a, .slice A 0 0] W fun e W' => e = .returned (.int .i64 2) ∧ W = W') := fun A W h => write_no a A 0 0 h (fresh_okU N hN) a0 a1 (by omega) (by rw [fresh_xsU, List.length_replicate]; exact HF.out)
      go_wp2_with (first
        | (go_at_call 12; have _ := h4; refine (U0.out _ h4).mono ?_; rintro e W5 ⟨rfl, h5⟩; clear h4)
        | (have _ := h5; refine wpList_makeB_st h5 _ _ rfl rfl 0 rfl rfl (by omega) ?_; clear h5; intro W51 h51 b51; have h6 : St w W51 [(g, 45, (Mm.fresh (List.replicate N 0)).arr b), (b, 5, arrV (List.replicate N 0))] := h51.sub (by simp); clear h51)
        | (go_at_call 10; refine (DO.out _ _ h6).mono ?_; rintro e W6 ⟨rfl, rfl⟩)
        | (go_at_call 12; have _ := h6; refine (U0.out _ h6).mono ?_; rintro e W7 ⟨rfl, h7⟩; clear h6))
      go_roundw
      case rel => exact ⟨j + 1, 2, by omega, by go_num, .inr rfl, rfl, (h7.push 34 _).sub (by simp)⟩
      case measure => simp [intOf]; omega
    · have gl : ((j : Int) + 1 ≤ 2) = False := eq_false (by omega)
      rcases hc with rfl | rfl
      · go_wp2
        go_ret
        exact ⟨rfl, h4.bel⟩
      · go_wp2
        go_ret
        exact ⟨rfl, h4.bel⟩
end Go.Proofs.Ytbmdkmnkbchokaa
