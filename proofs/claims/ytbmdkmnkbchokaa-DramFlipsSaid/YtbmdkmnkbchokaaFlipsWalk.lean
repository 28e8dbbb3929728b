/- The law of bits that are turned. No statement is proved here. -/
import Derived.Test.YtbmdkmnkbchokaaDropsWalk
import Derived.Test.YtbmdkmnkbchokaaSame
namespace Go.Proofs.Ytbmdkmnkbchokaa
open Go.RowKit
set_option linter.unusedVariables false
set_option linter.unusedSimpArgs false

theorem fresh_ok {xs : List Nat} (h : ∀ x ∈ xs, x < 256) (hl : xs.length ≤ 5000) : (Mm.fresh xs).Ok := ⟨rfl, h, hl, by simp [Mm.fresh], by simp [Mm.fresh], by simp [Mm.fresh], by simp [Mm.fresh], by simp [Mm.fresh], by simp [Mm.fresh], by simp [Mm.fresh], by simp [Mm.fresh]⟩
theorem xor_test (u s : Nat) (hu : u < 256) (hs : s < 8) : (((u ^^^ 2 ^ s : Nat) : Int) != bits BinOp.xor IntKind.u8 (u : Int) ((2 : Int) ^ s % 256)) = false := by
  have hp : 2 ^ s ≤ 2 ^ 7 := Nat.pow_le_pow_right (by omega) (by omega)
  have e : ((2 : Int) ^ s) % 256 = ((2 ^ s : Nat) : Int) := by
    rw [show ((2 : Int) ^ s) = ((2 ^ s : Nat) : Int) by simp]
    generalize 2 ^ s = z at *
    omega
  rw [e, u8_xor_nat u (2 ^ s) hu (by omega)]
  simp
attribute [local irreducible] arrV Mm.arr turn Mm.fresh
theorem St.brow {w W : World} {L : List (Nat × TypeId × Array Value)} (h : St w W L) {A : Option Addr} {n c : Nat} {xs : List Nat} (hr : Row w w.heap.size A n c xs) : Row W W.heap.size A n c xs := (hr.below h.bel).wider h.bel.size
def FRel (w : World) (g b r n : Nat) (zs : List Nat) (i : Value) (wr : World) : Prop :=
  ∃ j : Nat, j ≤ n ∧ i = .int .i64 (j : Nat) ∧ St w wr [(g, 45, (Mm.fresh zs).arr b), (b, 5, arrV zs), (r, 5, arrV zs)]
theorem fresh_xs (xs : List Nat) : (Mm.fresh xs).xs = xs := by unfold Mm.fresh; rfl
theorem fresh_turn (xs : List Nat) (k : Nat) : ({ Mm.fresh xs with xs := turn xs k } : Mm) = Mm.fresh (turn xs k) := by unfold Mm.fresh; rfl
set_option maxRecDepth 20000 in
set_option maxHeartbeats 4000000 in
theorem flips_walk (A : Option Addr) (n c : Nat) (xs : List Nat) (bit : Int) (w : World) (hr : Row w w.heap.size A n c xs) (b0 : -9223372036854775808 ≤ bit) (b1 : bit ≤ 9223372036854775807) :
    Calls Try.prog 4 #[.slice A n c, .int .i64 bit] w fun e w' => e = .returned (.bool true) ∧ Below w.heap.size w w' := by
  have SK := Lib.hid (fun W => speaks_true W)
  have hmax := hr.max
  have h0 := St.nil w
  by_cases hn : 500 < n
  · have hd : (500 < (n : Int)) = True := eq_true (by omega)
    go_enter Try.func4, Try.ntmps4
    go_wp2_with (go_at_call 6; refine (SK.out _).mono ?_; rintro e W1 ⟨rfl, hb⟩)
    go_ret
    exact ⟨rfl, hb⟩
  · have hd : (500 < (n : Int)) = False := eq_false (by omega)
    have hl := hr.len
    have hbx := hr.bytes
    have N : Hid (∀ W, St w W [] → Calls Try.prog 7 #[.int .i64 n, .slice A n c] W fun e W' => ∃ g b, e = .returned (.pointer (some ⟨g, 0, none⟩)) ∧ St w W' [(g, 45, (Mm.fresh xs).arr b), (b, 5, arrV xs)]) := fun W h => by
      have := new_nat n n c n A xs h (by omega) rfl (h.brow hr)
      rw [List.take_of_length_le (by omega), over_all _ _ (by simpa using hl)] at this
      exact this
    have SM : Hid (∀ r W, St w W r → ∀ B ys, Row W W.heap.size B ys.length ys.length ys → ys = xs → Calls Try.prog 13 #[.slice B n n, .slice A n c] W fun e W' => e = .returned (.bool true) ∧ St w W' r) := fun r W h B ys hy he => by
      subst he
      rw [hl] at hy
      refine (same_any B A n n n c ys ys W.heap.size W hy (h.brow hr)).mono ?_
      rintro e W' ⟨rfl, k, rfl⟩
      exact ⟨by simp, h.drewN k⟩
    by_cases hin : 0 ≤ bit ∧ bit < 8 * n
    · obtain ⟨k, rfl⟩ := Int.eq_ofNat_of_zero_le hin.1
      have hk : k < 8 * n := by omega
      have tl : (turn xs k).length = n := by rw [turn_len, hl]
      have tb := turn_lt xs k hbx
      have T : Hid (∀ g b W, St w W [(g, 45, (Mm.fresh xs).arr b), (b, 5, arrV xs)] → Calls Try.prog 8 #[.pointer (some ⟨g, 0, none⟩), .agg #[.int .i64 2, .int .i64 k, .int .i64 0, .int .i64 0, .slice none 0 0]] W fun e W' => e = .returned (.int .i64 0) ∧ St w W' [(g, 45, (Mm.fresh (turn xs k)).arr b), (b, 5, arrV (turn xs k))]) := fun g b W h => by
        have := tamper_yes k 0 0 none 0 0 (by rw [fresh_xs]; exact h) (fresh_ok hbx (by omega)) (by rw [fresh_xs]; omega) (by rw [fresh_xs]; omega)
        rw [fresh_xs, fresh_turn] at this
        exact this
      have BY : Hid (∀ g b W, St w W [(g, 45, (Mm.fresh (turn xs k)).arr b), (b, 5, arrV (turn xs k))] → Calls Try.prog 11 #[.pointer (some ⟨g, 0, none⟩)] W fun e W' => e = .returned (.slice (some ⟨W.heap.size, 0, none⟩) n n) ∧ St w W' [(g, 45, (Mm.fresh (turn xs k)).arr b), (b, 5, arrV (turn xs k)), (W.heap.size, 5, arrV (turn xs k))]) := fun g b W h => by
        have := bytes_any (by rw [fresh_xs]; exact h) (fresh_ok tb (by omega))
        rw [fresh_xs, tl] at this
        exact this
      have T2 : Hid (∀ g b r W, St w W [(g, 45, (Mm.fresh (turn xs k)).arr b), (b, 5, arrV (turn xs k)), (r, 5, arrV (turn xs k))] → Calls Try.prog 8 #[.pointer (some ⟨g, 0, none⟩), .agg #[.int .i64 2, .int .i64 k, .int .i64 0, .int .i64 0, .slice none 0 0]] W fun e W' => e = .returned (.int .i64 0) ∧ St w W' [(g, 45, (Mm.fresh xs).arr b), (b, 5, arrV xs), (r, 5, arrV (turn xs k))]) := fun g b r W h => by
        have := tamper_yes k 0 0 none 0 0 (by rw [fresh_xs]; exact h) (fresh_ok tb (by omega)) (by rw [fresh_xs]; omega) (by rw [fresh_xs]; omega)
        rw [fresh_xs, fresh_turn, turn_turn xs k (by omega)] at this
        exact this
      have B2 : Hid (∀ g b r W, St w W [(g, 45, (Mm.fresh xs).arr b), (b, 5, arrV xs), (r, 5, arrV (turn xs k))] → Calls Try.prog 11 #[.pointer (some ⟨g, 0, none⟩)] W fun e W' => e = .returned (.slice (some ⟨W.heap.size, 0, none⟩) n n) ∧ St w W' [(g, 45, (Mm.fresh xs).arr b), (b, 5, arrV xs), (r, 5, arrV (turn xs k)), (W.heap.size, 5, arrV xs)]) := fun g b r W h => by
        have := bytes_any (by rw [fresh_xs]; exact h) (fresh_ok hbx (by omega))
        rw [fresh_xs, hl] at this
        exact this
      have US : Hid (∀ g b r q W, St w W [(g, 45, (Mm.fresh xs).arr b), (b, 5, arrV xs), (r, 5, arrV (turn xs k)), (q, 5, arrV xs)] → Calls Try.prog 12 #[.pointer (some ⟨g, 0, none⟩)] W fun e W' => e = .returned (.agg #[.int .i64 0, .int .i64 0, .int .i64 0]) ∧ St w W' [(g, 45, (Mm.fresh xs).arr b), (b, 5, arrV xs), (r, 5, arrV (turn xs k)), (q, 5, arrV xs)]) := fun g b r q W h => by
        have := use_any h
        unfold Mm.fresh at this ⊢
        exact this
      have TC : Hid (∀ j, j < n → (arrV (turn xs k))[j]? = some (.int .u8 ((turn xs k).getD j 0 : Nat))) := fun j hj => arrV_at _ j (by omega)
      have TA : Hid (∀ j, (turn xs k).getD j 0 = if k / 8 = j then xs.getD j 0 ^^^ 2 ^ (k % 8) else xs.getD j 0) := fun j => turn_at xs k j (by omega)
      obtain ⟨fb, fo, rfl, hfb, hfc⟩ := hr.at_ (by omega)
      have FC : Hid (∀ W, Below w.heap.size w W → ∀ j, j < n → W.cell? ⟨fb, fo + j, none⟩ = some (.int .u8 ((xs.getD j 0 : Nat) : Int))) := fun W hb j hj => (hb.cell (p := ⟨fb, fo + j, none⟩) hfb).trans (hfc j hj)
      have HL := Lib.hid hl
      have HB := Lib.hid hbx
      have XB := Lib.hid (fun j => getD_lt xs hbx j)
      have q8 : (k : Int) / 8 = ((k / 8 : Nat) : Int) := by omega
      have r8 : (k : Int) % 8 = ((k % 8 : Nat) : Int) := by omega
      have hk8 : k / 8 < n := by omega
      have hr8 : k % 8 < 8 := by omega
      have g1 : (8 * (n : Int) ≤ (k : Int)) = False := eq_false (by omega)
      have g0 : ((k : Int) < 0) = False := eq_false (by omega)
      generalize turn xs k = zs at *
      generalize k / 8 = q at *
      generalize k % 8 = s at *
      clear hl hbx hmax hfc hr tl tb
      go_enter Try.func4, Try.ntmps4
      go_wp2_with (first
        | (go_at_call 6; refine (SK.out _).mono ?_; rintro e W1 ⟨rfl, hb⟩; have h1 := h0.call hb; clear h0 hb SK)
        | (go_at_call 7; refine (N.out _ h1).mono ?_; rintro e W2 ⟨g, b, rfl, h2⟩; clear h1)
        | (go_at_call 8; refine (T.out _ _ _ h2).mono ?_; rintro e W3 ⟨rfl, h3⟩; clear h2)
        | (go_at_call 11; refine (BY.out _ _ _ h3).mono ?_; rintro e W4 ⟨rfl, h4⟩; clear h3))
      generalize W3.heap.size = r at *
      clear N T BY
      go_loopw [44] (FRel w g b r n zs) (fun i _ => n - (intOf i).toNat)
      case atStart => exact ⟨0, by omega, rfl, h4⟩
      case round =>
        obtain ⟨j, hj, rfl, h5⟩ := hrel
        clear h4
        by_cases hlt : j < n
        · have cz := h5.cell 2 rfl j _ (TC.out j hlt)
          have cf := FC.out _ h5.bel j hlt
          have xb := XB.out j
          rw [TA.out j] at cz
          by_cases hq : q = j
          · subst hq
            rw [if_pos rfl] at cz
            generalize xs.getD q 0 = u at *
            have e1 : ((q : Int) == (q : Int)) = true := by simp
            have ex := xor_test u s xb hr8
            generalize u ^^^ 2 ^ s = v at *
            go_wp2
            go_roundw
            case rel => exact ⟨q + 1, by omega, by go_num, h5⟩
            case measure => simp [intOf]; omega
          · rw [if_neg hq] at cz
            generalize xs.getD j 0 = u at *
            have e1 : ((j : Int) == (q : Int)) = false := by simp; omega
            have e2 : ((u : Int) != (u : Int)) = false := by simp
            go_wp2
            go_roundw
            case rel => exact ⟨j + 1, by omega, by go_num, h5⟩
            case measure => simp [intOf]; omega
        · obtain rfl : j = n := by omega
          go_wp2_with (first
            | (go_at_call 8; refine (T2.out _ _ _ _ h5).mono ?_; rintro e W6 ⟨rfl, h6⟩; clear h5)
            | (go_at_call 11; refine (B2.out _ _ _ _ h6).mono ?_; rintro e W7 ⟨rfl, h7⟩; clear h6)
            | (go_at_call 13; refine (SM.out _ _ h7 _ xs ((h7.get 3 rfl).brow0 HB.out (by rw [HL.out]; omega)) rfl).mono ?_; rintro e W8 ⟨rfl, h8⟩; clear h7)
            | (go_at_call 12; refine (US.out _ _ _ _ _ h8).mono ?_; rintro e W9 ⟨rfl, h9⟩; clear h8))
          go_ret
          exact ⟨rfl, h9.bel⟩
    · have T : Hid (∀ g b W, St w W [(g, 45, (Mm.fresh xs).arr b), (b, 5, arrV xs)] → Calls Try.prog 8 #[.pointer (some ⟨g, 0, none⟩), .agg #[.int .i64 2, .int .i64 bit, .int .i64 0, .int .i64 0, .slice none 0 0]] W fun e W' => e = .returned (.int .i64 2) ∧ St w W' [(g, 45, (Mm.fresh xs).arr b), (b, 5, arrV xs)]) := fun g b W h => tamper_no bit 0 0 none 0 0 h (by rw [fresh_xs]; omega) b0 b1 (by rw [fresh_xs]; unfold fits; simp only [decide_eq_false_iff_not]; omega)
      have BY : Hid (∀ g b W, St w W [(g, 45, (Mm.fresh xs).arr b), (b, 5, arrV xs)] → Calls Try.prog 11 #[.pointer (some ⟨g, 0, none⟩)] W fun e W' => e = .returned (.slice (some ⟨W.heap.size, 0, none⟩) n n) ∧ St w W' [(g, 45, (Mm.fresh xs).arr b), (b, 5, arrV xs), (W.heap.size, 5, arrV xs)]) := fun g b W h => by
        have := bytes_any (by rw [fresh_xs]; exact h) (fresh_ok hbx (by omega))
        rw [fresh_xs, hl] at this
        exact this
      have HL := Lib.hid hl
      have HB := Lib.hid hbx
      clear hl hbx hmax
      by_cases hneg : bit < 0
      · go_enter Try.func4, Try.ntmps4
        go_wp2_with (first
          | (go_at_call 6; refine (SK.out _).mono ?_; rintro e W1 ⟨rfl, hb⟩; have h1 := h0.call hb; clear h0 hb SK)
          | (go_at_call 7; refine (N.out _ h1).mono ?_; rintro e W2 ⟨g, b, rfl, h2⟩; clear h1)
          | (go_at_call 8; refine (T.out _ _ _ h2).mono ?_; rintro e W3 ⟨rfl, h3⟩; clear h2)
          | (go_at_call 11; refine (BY.out _ _ _ h3).mono ?_; rintro e W4 ⟨rfl, h4⟩; clear h3)
          | (go_at_call 13; refine (SM.out _ _ h4 _ xs ((h4.get 2 rfl).brow0 HB.out (by rw [HL.out]; omega)) rfl).mono ?_; rintro e W5 ⟨rfl, h5⟩; clear h4))
        go_ret
        exact ⟨rfl, h5.bel⟩
      · have hge : (8 * (n : Int) ≤ bit) = True := eq_true (by omega)
        go_enter Try.func4, Try.ntmps4
        go_wp2_with (first
          | (go_at_call 6; refine (SK.out _).mono ?_; rintro e W1 ⟨rfl, hb⟩; have h1 := h0.call hb; clear h0 hb SK)
          | (go_at_call 7; refine (N.out _ h1).mono ?_; rintro e W2 ⟨g, b, rfl, h2⟩; clear h1)
          | (go_at_call 8; refine (T.out _ _ _ h2).mono ?_; rintro e W3 ⟨rfl, h3⟩; clear h2)
          | (go_at_call 11; refine (BY.out _ _ _ h3).mono ?_; rintro e W4 ⟨rfl, h4⟩; clear h3)
          | (go_at_call 13; refine (SM.out _ _ h4 _ xs ((h4.get 2 rfl).brow0 HB.out (by rw [HL.out]; omega)) rfl).mono ?_; rintro e W5 ⟨rfl, h5⟩; clear h4))
        go_ret
        exact ⟨rfl, h5.bel⟩
end Go.Proofs.Ytbmdkmnkbchokaa
