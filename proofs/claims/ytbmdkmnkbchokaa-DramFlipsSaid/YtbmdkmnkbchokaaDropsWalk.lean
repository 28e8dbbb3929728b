/- The law of writes that are dropped. No statement is proved here. -/
import Derived.Test.YtbmdkmnkbchokaaSpeaks8
namespace Go.Proofs.Ytbmdkmnkbchokaa
open Go.RowKit
set_option linter.unusedVariables false
set_option linter.unusedSimpArgs false

theorem and31 (a : Int) : ∃ k : Nat, k ≤ 31 ∧ bits .and .i64 a 31 = (k : Int) := by
  refine ⟨(BitVec.ofInt 64 a).toNat % 32, by omega, ?_⟩
  show IntKind.i64.wrap ((BitVec.ofInt 64 a &&& BitVec.ofInt 64 31).toNat : Int) = _
  rw [BitVec.toNat_and, show (BitVec.ofInt 64 31).toNat = 31 from rfl, nat_mask5]
  have hz : (BitVec.ofInt 64 a).toNat % 32 < 32 := by omega
  generalize (BitVec.ofInt 64 a).toNat % 32 = z at *
  exact IntWalk.i64_in _ (by omega)
/-- The bytes behind i writes of 7, of which the first n were dropped. -/
def xsD (n i : Nat) : List Nat := (List.range 64).map fun j => if n ≤ j ∧ j < i then 7 else 0
/-- Memory behind i writes. -/
def stD (n i : Nat) : Mm := ⟨xsD n i, ((n - i : Nat) : Int), 0, (i : Int), if i = 0 then 0 else 1, if i = 0 then [0, 0, 0, 0] else [1, 0, 0, 0]⟩
theorem xsD_len (n i : Nat) : (xsD n i).length = 64 := by simp [xsD]
theorem xsD_at (n i j : Nat) (h : j < 64) : (xsD n i).getD j 0 = if n ≤ j ∧ j < i then 7 else 0 := by
  unfold xsD; rw [List.getD_eq_getElem?_getD, List.getElem?_map, List.getElem?_range h]; rfl
theorem xsD_lt (n i : Nat) : ∀ x ∈ xsD n i, x < 256 := by
  intro x hx; unfold xsD at hx
  obtain ⟨j, _, rfl⟩ := List.mem_map.1 hx
  split <;> omega
theorem xsD_stay (n i : Nat) (h : i < n) : xsD n i = xsD n (i + 1) := by
  unfold xsD
  refine List.map_congr_left fun j _ => ?_
  rw [if_neg (by omega), if_neg (by omega)]
theorem xsD_step (n i : Nat) (h : n ≤ i) (hi : i < 64) : over (xsD n i) i [7] = xsD n (i + 1) := by
  refine List.ext_getElem? fun j => ?_
  unfold over
  have hl := xsD_len n i
  rcases Nat.lt_trichotomy j i with hj | hj | hj
  · rw [List.append_assoc, List.getElem?_append_left (by simp; omega), List.getElem?_take_of_lt hj]
    unfold xsD
    rw [List.getElem?_map, List.getElem?_map, List.getElem?_range (by omega)]
    simp only [Option.map_some]
    congr 1
    by_cases h2 : n ≤ j
    · rw [if_pos (by omega), if_pos (by omega)]
    · rw [if_neg (by omega), if_neg (by omega)]
  · subst hj
    rw [List.append_assoc, List.getElem?_append_right (by simp; omega), List.length_take, hl, Nat.min_eq_left (by omega), Nat.sub_self]
    unfold xsD
    rw [List.getElem?_map, List.getElem?_range (by omega)]
    simp [h]
  · rw [List.getElem?_append_right (by simp; omega)]
    simp only [List.length_append, List.length_take, hl, List.length_cons, List.length_nil, List.getElem?_drop, Nat.min_eq_left (show i ≤ 64 by omega)]
    rw [show i + (0 + 1) + (j - (i + (0 + 1))) = j by omega]
    unfold xsD
    rw [List.getElem?_map, List.getElem?_map]
    by_cases h64 : j < 64
    · rw [List.getElem?_range h64]
      simp only [Option.map_some]
      congr 1
      rw [if_neg (by omega), if_neg (by omega)]
    · rw [List.getElem?_eq_none (by simp; omega)]; rfl
theorem opened_one (m : Mm) (i : Nat) (hi : i < 64) : m.opened i 1 = { m with os := (opn 0 (m.os, m.op)).1, op := (opn 0 (m.os, m.op)).2 } := by
  unfold Mm.opened rowsOf
  rw [if_neg (by omega), show i / 64 = 0 by omega, show (i + 1 - 1) / 64 - 0 + 1 = 1 by omega]
  rfl
theorem stD_step (n i : Nat) (hi : i < 64) : (stD n i).write i [7] = stD n (i + 1) := by
  have hop : opn 0 ((if i = 0 then [0, 0, 0, 0] else [1, 0, 0, 0] : List Int), (if i = 0 then 0 else 1 : Int)) = ([1, 0, 0, 0], 1) := by
    by_cases h : i = 0
    · rw [if_pos h, if_pos h]; rfl
    · rw [if_neg h, if_neg h]; rfl
  unfold Mm.write
  rw [show ([7] : List Nat).length = 1 from rfl, opened_one _ _ hi]
  unfold stD
  simp only [hop]
  rw [if_neg (show ¬ i + 1 = 0 by omega), if_neg (show ¬ i + 1 = 0 by omega)]
  by_cases h : i < n
  · rw [if_pos (by omega), xsD_stay n i h]
    congr 1
    omega
  · rw [if_neg (by omega), xsD_step n i (by omega) hi]
    congr 1
    omega
theorem stD_zero (n : Nat) : stD n 0 = { Mm.fresh (List.replicate 64 0) with dr := (n : Int) } := by
  unfold stD Mm.fresh
  have : xsD n 0 = List.replicate 64 0 := by
    unfold xsD
    refine List.eq_replicate_iff.2 ⟨by simp, fun x hx => ?_⟩
    obtain ⟨j, _, rfl⟩ := List.mem_map.1 hx
    rw [if_neg (by omega)]
  rw [this]
  simp
theorem stD_ok (n i : Nat) (hn : n ≤ 31) (hi : i ≤ 64) : (stD n i).Ok := by
  refine ⟨?_, xsD_lt n i, by unfold stD; simp only; rw [xsD_len]; omega, ?_, ?_, ?_, ?_, ?_, ?_, ?_, ?_⟩ <;> unfold stD <;> simp only
  · split <;> rfl
  all_goals (try split) <;> omega
theorem arr7 : (#[.int .u8 7] : Array Value) = arrV [7] := rfl
theorem z64_new : over (List.replicate 64 0) 0 (([] : List Nat).take 64) = List.replicate 64 0 := by rw [show ([] : List Nat).take 64 = [] from rfl, over_nil]
theorem z64_ok : (Mm.fresh (List.replicate 64 0)).Ok := ⟨rfl, fun x hx => by rw [List.eq_of_mem_replicate hx]; omega, by decide, by decide, by decide, by decide, by decide, by decide, by decide, by decide, by decide⟩
attribute [local irreducible] arrV Mm.arr xsD stD
def DRel (w : World) (g b n k : Nat) (i : Value) (wr : World) : Prop :=
  ∃ j : Nat, j ≤ k ∧ i = .int .i64 (j : Nat) ∧ St w wr [(g, 45, (stD n j).arr b), (b, 5, arrV (xsD n j))]
def BRel (w : World) (g b r n k : Nat) (i : Value) (wr : World) : Prop :=
  ∃ j : Nat, j ≤ 64 ∧ i = .int .i64 (j : Nat) ∧ St w wr [(g, 45, (stD n k).arr b), (b, 5, arrV (xsD n k)), (r, 5, arrV (xsD n k))]
theorem arrV_at (xs : List Nat) (i : Nat) (h : i < xs.length) : (arrV xs)[i]? = some (.int .u8 (xs.getD i 0 : Nat)) := by
  unfold arrV; rw [List.getElem?_toArray, vals_getElem? xs i h]
theorem xsD_cell (n i j : Nat) (h : j < 64) : (arrV (xsD n i))[j]? = some (.int .u8 (if n ≤ j ∧ j < i then 7 else 0)) := by
  rw [arrV_at _ _ (by rw [xsD_len]; exact h), xsD_at n i j h]
  split <;> rfl
theorem stD_xs (n i : Nat) : (stD n i).xs = xsD n i := by unfold stD; rfl
theorem stD_dr (n i : Nat) : (stD n i).dr = ((n - i : Nat) : Int) := by unfold stD; rfl
theorem stD_wr (n i : Nat) : (stD n i).wr = (i : Int) := by unfold stD; rfl
set_option maxRecDepth 20000 in
set_option maxHeartbeats 4000000 in
theorem drops_walk (x y : Int) (w : World) : Calls Try.prog 3 #[.int .i64 x, .int .i64 y] w fun e w' => e = .returned (.bool true) ∧ Below w.heap.size w w' := by
  have SK := Lib.hid (fun W => speaks_true W)
  have N := Lib.hid (fun W (h : St w W []) => new_nat (W := W) 64 0 0 64 none [] h (by omega) rfl (Row.nil_ _ _))
  rw [z64_new] at N
  obtain ⟨n, hn, e1⟩ := and31 x
  obtain ⟨k, hk, e2⟩ := and31 y
  have T : Hid (∀ g b W, St w W [(g, 45, (Mm.fresh (List.replicate 64 0)).arr b), (b, 5, arrV (List.replicate 64 0))] → Calls Try.prog 8 #[.pointer (some ⟨g, 0, none⟩), .agg #[.int .i64 6, .int .i64 0, .int .i64 0, .int .i64 n, .slice none 0 0]] W fun e W' => e = .returned (.int .i64 0) ∧ St w W' [(g, 45, (stD n 0).arr b), (b, 5, arrV (xsD n 0))]) := fun g b W h => by
    have := tamper_drop (n : Int) 0 0 none 0 0 (by omega) h z64_ok
    rw [← stD_zero n] at this
    have e : xsD n 0 = List.replicate 64 0 := by rw [← stD_xs, stD_zero]; rfl
    rw [e]; exact this
  generalize List.replicate 64 0 = z at *
  have h0 := St.nil w
  go_enter Try.func3, Try.ntmps3
  go_wp2_with (first
    | (go_at_call 6; refine (SK.out _).mono ?_; rintro e W1 ⟨rfl, hb⟩; have h1 := h0.call hb; clear h0 hb SK)
    | (go_at_call 7; refine (N.out _ h1).mono ?_; rintro e W2 ⟨g, b, rfl, h2⟩; clear h1)
    | (go_at_call 8; refine (T.out _ _ _ h2).mono ?_; rintro e W3 ⟨rfl, h3⟩; clear h2))
  clear e1 e2 N T
  go_loopw [6] (DRel w g b n (n + k)) (fun i _ => n + k - (intOf i).toNat)
  case atStart => exact ⟨0, by omega, rfl, h3⟩
  case round =>
    obtain ⟨j, hj, rfl, h4⟩ := hrel
    clear h3
    by_cases hlt : j < n + k
    · have hlt2 : ((j : Int) < (n : Int) + (k : Int)) = True := eq_true (by omega)
      have hw : Hid (∀ r W, St w W [(g, 45, (stD n j).arr b), (b, 5, arrV (xsD n j)), (r, 5, arrV [7])] → Calls Try.prog 10 #[.pointer (some ⟨g, 0, none⟩), .int .i64 j, .slice (some ⟨r, 0, none⟩) 1 1] W fun e W' => e = .returned (.int .i64 0) ∧ St w W' [(g, 45, (stD n (j + 1)).arr b), (b, 5, arrV (xsD n (j + 1))), (r, 5, arrV [7])]) := fun r W h => by
        have := write_yes j 1 1 r 0 [7] (by rw [stD_xs]; exact h) rfl rfl (by simp) (by omega) (by omega) (stD_ok n j hn (by omega)) (by rw [stD_wr]; omega) (by rw [stD_xs, xsD_len]; omega)
        rw [stD_step n j (by omega), stD_xs] at this
        exact this
      by_cases hjn : j ≤ n
      · have DR : Hid (∀ W, St w W [(g, 45, (stD n j).arr b), (b, 5, arrV (xsD n j))] → Calls Try.prog 9 #[.pointer (some ⟨g, 0, none⟩)] W fun e W' => e = .returned (.int .i64 ((n : Int) - (j : Int))) ∧ W = W') := fun W h => by
          have := drops_any h
          rw [stD_dr, show ((n - j : Nat) : Int) = (n : Int) - (j : Int) by omega] at this
          exact this
        go_wp2_with (first
          | (go_at_call 9; refine (DR.out _ h4).mono ?_; rintro e W5 ⟨rfl, rfl⟩)
          | (go_at_call 10; refine (hw.out _ _ (by rw [arr7]; exact h4.push 5 _)).mono ?_; rintro e W6 ⟨rfl, h6⟩; clear h4))
        go_roundw
        case rel => exact ⟨j + 1, by omega, by go_num, h6.sub (by simp)⟩
        case measure => simp [intOf]; omega
      · have DR : Hid (∀ W, St w W [(g, 45, (stD n j).arr b), (b, 5, arrV (xsD n j))] → Calls Try.prog 9 #[.pointer (some ⟨g, 0, none⟩)] W fun e W' => e = .returned (.int .i64 0) ∧ W = W') := fun W h => by
          have := drops_any h
          rw [stD_dr, show ((n - j : Nat) : Int) = 0 by omega] at this
          exact this
        go_wp2_with (first
          | (go_at_call 9; refine (DR.out _ h4).mono ?_; rintro e W5 ⟨rfl, rfl⟩)
          | (go_at_call 10; refine (hw.out _ _ (by rw [arr7]; exact h4.push 5 _)).mono ?_; rintro e W6 ⟨rfl, h6⟩; clear h4))
        go_roundw
        case rel => exact ⟨j + 1, by omega, by go_num, h6.sub (by simp)⟩
        case measure => simp [intOf]; omega
    · obtain rfl : j = n + k := by omega
      have hlt2 : ((n : Int) + (k : Int) < (n : Int) + (k : Int)) = False := eq_false (by omega)
      have BY : Hid (∀ W, St w W [(g, 45, (stD n (n + k)).arr b), (b, 5, arrV (xsD n (n + k)))] → Calls Try.prog 11 #[.pointer (some ⟨g, 0, none⟩)] W fun e W' => e = .returned (.slice (some ⟨W.heap.size, 0, none⟩) 64 64) ∧ St w W' [(g, 45, (stD n (n + k)).arr b), (b, 5, arrV (xsD n (n + k))), (W.heap.size, 5, arrV (xsD n (n + k)))]) := fun W h => by
        have := bytes_any (by rw [stD_xs]; exact h) (stD_ok n (n + k) hn (by omega))
        rw [stD_xs, xsD_len] at this
        exact this
      have US : Hid (∀ r W, St w W [(g, 45, (stD n (n + k)).arr b), (b, 5, arrV (xsD n (n + k))), (r, 5, arrV (xsD n (n + k)))] → Calls Try.prog 12 #[.pointer (some ⟨g, 0, none⟩)] W fun e W' => e = .returned (.agg #[.int .i64 (stD n (n + k)).rd, .int .i64 ((n : Int) + (k : Int)), .int .i64 (stD n (n + k)).op]) ∧ St w W' [(g, 45, (stD n (n + k)).arr b), (b, 5, arrV (xsD n (n + k))), (r, 5, arrV (xsD n (n + k)))]) := fun r W h => by
        have := use_any h
        rw [stD_wr, show ((n + k : Nat) : Int) = (n : Int) + (k : Int) by omega] at this
        exact this
      have F1 := field34_1
      go_wp2_with (go_at_call 11; refine (BY.out _ h4).mono ?_; rintro e W5 ⟨rfl, h5⟩; clear h4)
      generalize wr.heap.size = r at *
      go_loopw [8] (BRel w g b r n (n + k)) (fun i _ => 64 - (intOf i).toNat)
      case atStart => exact ⟨0, by omega, rfl, h5⟩
      case round =>
        obtain ⟨j, hj, rfl, h6⟩ := hrel
        clear h5 BY
        by_cases h64 : j < 64
        · have cj := h6.cell 2 rfl j _ (xsD_cell n (n + k) j h64)
          rcases (show j < n ∨ (n ≤ j ∧ j < n + k) ∨ n + k ≤ j by omega) with h | h | h
          · have g1 : decide ((n : Int) ≤ (j : Int)) = false := decide_eq_false (by omega)
            have g2 : decide (n ≤ j) = false := decide_eq_false (by omega)
            rw [if_neg (show ¬ (n ≤ j ∧ j < n + k) by omega)] at cj
            go_wp2
            go_roundw
            case rel => exact ⟨j + 1, by omega, by go_num, h6⟩
            case measure => simp [intOf]; omega
          · have g1 : decide ((n : Int) ≤ (j : Int)) = true := decide_eq_true (by omega)
            have g2 : decide (n ≤ j) = true := decide_eq_true (by omega)
            have g3 : decide ((j : Int) < (n : Int) + (k : Int)) = true := decide_eq_true (by omega)
            rw [if_pos h] at cj
            go_wp2
            go_roundw
            case rel => exact ⟨j + 1, by omega, by go_num, h6⟩
            case measure => simp [intOf]; omega
          · have g1 : decide ((n : Int) ≤ (j : Int)) = true := decide_eq_true (by omega)
            have g2 : decide (n ≤ j) = true := decide_eq_true (by omega)
            have g3 : decide ((j : Int) < (n : Int) + (k : Int)) = false := decide_eq_false (by omega)
            rw [if_neg (show ¬ (n ≤ j ∧ j < n + k) by omega)] at cj
            go_wp2
            go_roundw
            case rel => exact ⟨j + 1, by omega, by go_num, h6⟩
            case measure => simp [intOf]; omega
        · obtain rfl : j = 64 := by omega
          go_wp2_with (go_at_call 12; refine (US.out _ _ h6).mono ?_; rintro e W7 ⟨rfl, h7⟩; clear h6)
          go_ret
          exact ⟨by simp, h7.bel⟩
end Go.Proofs.Ytbmdkmnkbchokaa
