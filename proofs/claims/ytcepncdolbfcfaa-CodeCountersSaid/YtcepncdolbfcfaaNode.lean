/- The tags of a node's children: Tag and With, the program's and the document's. No statement is proved here. -/
import Derived.Test.YtcepncdolbfcfaaState
import Derived.Laws.CopyOwn
import Derived.Test.YtcepncdolbfcfaaNumber
import Derived.Test.YtcepncdolbfcfaaRefNumber
import Derived.Test.YtcepncdolbfcfaaRead
namespace Go.Proofs.Ytcepncdolbfcfaa
open Go.RowKit
set_option linter.unusedVariables false
set_option linter.unusedSimpArgs false
attribute [local irreducible] arrV

def kid (k : Int) : Bool := decide (0 ≤ k) && decide (k < 4)
theorem hasChild_any (k : Int) (w : World) : Calls Try.prog 41 #[.int .i64 k] w fun e w' => e = .returned (.bool (kid k)) ∧ w = w' := by
  by_cases h1 : 0 ≤ k
  · by_cases h2 : k < 4
    · go_enter Try.func41, Try.ntmps41
      go_wp2
      go_ret
      exact ⟨ret_bool (by simp [kid, h1, h2]), rfl⟩
    · go_enter Try.func41, Try.ntmps41
      go_wp2
      go_ret
      exact ⟨ret_bool (by simp [kid, h1, h2]), rfl⟩
  · go_enter Try.func41, Try.ntmps41
    go_wp2
    go_ret
    exact ⟨ret_bool (by simp only [kid, decide_eq_false (show ¬ 0 ≤ k by omega), Bool.false_and]), rfl⟩
theorem tagOf_any (g k : Nat) (hk : k < 4) (w : World) : Calls Try.prog 42 #[.slice (some ⟨g, 0, none⟩) 32 32, .int .i64 (k : Int)] w fun e w' => e = .returned (.slice (some ⟨g, 8 * k, none⟩) 8 8) ∧ w = w' := by
  rcases (show k = 0 ∨ k = 1 ∨ k = 2 ∨ k = 3 by omega) with rfl | rfl | rfl | rfl
  all_goals
    go_enter Try.func42, Try.ntmps42
    go_wp2
    go_ret
    exact ⟨rfl, rfl⟩
/-- The tag of child k. -/
def tagN (xs : List Nat) (k : Nat) : Nat := le ((xs.drop (8 * k)).take 8)
/-- The bytes with another tag of child k. -/
def withN (xs : List Nat) (k v : Nat) : List Nat := xs.take (8 * k) ++ nb v 8 ++ xs.drop (8 * k + 8)
set_option maxHeartbeats 1000000 in
theorem tag_no (xs : List Nat) (k : Int) (hk : kid k = false) (w : World) : Calls Try.prog 16 #[.agg (arrV xs), .int .i64 k] w fun e w' => e = .returned (.tuple #[.int .u64 0, .int .i64 2]) ∧ Below w.heap.size w w' := by
  have H := Lib.hid (fun W => hasChild_any k W)
  rw [hk] at H
  go_enter Try.func16, Try.ntmps16
  go_wp2_with (go_at_call 41; refine (H.out _).mono ?_; rintro e W1 ⟨rfl, rfl⟩)
  go_ret2
  exact ⟨rfl, (Below.refl _ _).alloc (Nat.le_refl _) _⟩
set_option maxHeartbeats 1000000 in
theorem tag_yes (xs : List Nat) (k : Nat) (hl : xs.length = 32) (hb : ∀ x ∈ xs, x < 256) (hk : k < 4) (w : World) : Calls Try.prog 16 #[.agg (arrV xs), .int .i64 k] w fun e w' => e = .returned (.tuple #[.int .u64 (tagN xs k : Nat), .int .i64 0]) ∧ Below w.heap.size w w' := by
  have H := Lib.hid (fun W => hasChild_any k W)
  have T := Lib.hid (fun g W => tagOf_any g k hk W)
  have R := Lib.hid ((Blk.new w 33 xs).row hb (8 * k) 8 8 (by omega) (by omega) (by omega))
  have ht : Hid (tagN xs k = le (((xs.drop (8 * k)).take 8).take 8)) := by unfold tagN; rw [List.take_take]; exact rfl
  generalize tagN xs k = t at *
  rw [show kid k = true by simp [kid]; omega] at H
  go_enter Try.func16, Try.ntmps16
  go_wp2_with (first
    | (go_at_call 41; refine (H.out _).mono ?_; rintro e W1 ⟨rfl, rfl⟩)
    | (go_at_call 42; refine (T.out _ _).mono ?_; rintro e W1 ⟨rfl, rfl⟩)
    | (go_at_call 34; refine (read_any _ _ _ _ _ _ R.out).mono ?_; rintro e W1 ⟨rfl, rfl⟩))
  go_ret2
  exact ⟨by rw [ht.out]; rfl, (Below.refl _ _).alloc (Nat.le_refl _) _⟩
theorem zeros_len : zeros.length = 32 := rfl
/-- The call hands back a line and a code, and nothing that was there is changed. -/
def GivesL (w : World) (ys : List Nat) (c : Int) (e : Ending) (w' : World) : Prop := e = .returned (.tuple #[.agg (arrV ys), .int .i64 c]) ∧ Below w.heap.size w w'
set_option maxHeartbeats 1000000 in
theorem with_no (xs : List Nat) (k : Int) (v : Int) (hk : kid k = false) (w : World) : Calls Try.prog 17 #[.agg (arrV xs), .int .i64 k, .int .u64 v] w (GivesL w zeros 2) := by
  have H := Lib.hid (fun W => hasChild_any k W)
  rw [hk] at H
  have S := Lib.hid (sz33 zeros_len)
  have S2 := Lib.hid (arrV_all zeros)
  have h0 := St.nil w
  go_enter Try.func17, Try.ntmps17
  go_wp2_with (first
    | (refine wpList_box_st h0 33 _ rfl rfl (arrV xs) rfl ?_; clear h0; intro W1 h1 _ _)
    | (refine wpList_alloc_st h1 33 rfl rfl _ (arrV zeros) zv33 rfl ?_; clear h1; intro W2 h2 _ _)
    | (refine wpList_build_as 33 #[] rfl rfl (arrV zeros) (by simpa using build33) ?_)
    | (go_at_call 41; refine (H.out _).mono ?_; rintro e W3 ⟨rfl, rfl⟩)
    | (refine wpList_store_st h2 1 rfl 33 _ _ rfl rfl rfl rfl S.out rfl S2.out ?_; clear h2; intro W4 h3 hg))
  refine bodyPost_ret (results_cell_tmp Try.results17 _ _ _ rfl _ ((h3.get 1 rfl).loadV 33 _ Try.underlying33 rfl S.out)) rfl ?_
  exact ⟨rfl, h3.bel⟩
theorem withN_len (xs : List Nat) (k v : Nat) (hl : xs.length = 32) (hk : k < 4) : (withN xs k v).length = 32 := by
  unfold withN; simp [nb_length]; omega
set_option maxHeartbeats 1000000 in
theorem with_yes (xs : List Nat) (k v : Nat) (hl : xs.length = 32) (hk : k < 4) (hv : v < 18446744073709551616) (w : World) : Calls Try.prog 17 #[.agg (arrV xs), .int .i64 k, .int .u64 v] w (GivesL w (withN xs k v) 0) := by
  have H := Lib.hid (fun W => hasChild_any k W)
  have T := Lib.hid (fun g W => tagOf_any g k hk W)
  have N := Lib.hid (fun W => number_any none 0 0 [] v 8 W (Row.nil_ _ _) (by omega) hv (by omega) (by omega))
  rw [show kid k = true by simp [kid]; omega] at H
  have wl := withN_len xs k v hl hk
  have S := Lib.hid (sz33 wl)
  have S1 : Hid ((arrV (withN xs k v)).size = (arrV zeros).size) := by rw [arrV_size, arrV_size, wl]; exact rfl
  have S2 := Lib.hid (arrV_all (withN xs k v))
  have HL := Lib.hid hl
  have h0 := St.nil w
  clear wl hl
  go_enter Try.func17, Try.ntmps17
  go_wp2_with (first
    | (refine wpList_box_st h0 33 _ rfl rfl (arrV xs) rfl ?_; clear h0; intro W1 h1 _ _)
    | (refine wpList_alloc_st h1 33 rfl rfl _ (arrV zeros) zv33 rfl ?_; clear h1; intro W2 h2 _ _)
    | (go_at_call 41; refine (H.out _).mono ?_; rintro e W3 ⟨rfl, rfl⟩)
    | (go_at_call 42; refine (T.out _ _).mono ?_; rintro e W3 ⟨rfl, rfl⟩)
    | (go_at_call 43; refine (N.out _).mono ?_; intro e W3 hN; obtain ⟨A, c, rfl, hO, hb1⟩ := GivesRow.out (N := 8) hN rfl; have h3 := h2.call hb1; clear h2 hN hb1)
    | (refine wpList_copy_st h3 0 rfl _ _ 53 rfl rfl Try.underlying53 (8 * k) 8 8 c _ A _ rfl rfl hO.row (by omega) (by rw [HL.out]; omega) ?_; clear h3; intro W4 h4 _)
    | (refine wpList_load_st h4 0 rfl 33 _ _ rfl rfl rfl Try.underlying33 rfl S.out ?_)
    | (refine wpList_store_st h4 1 rfl 33 _ _ rfl rfl rfl rfl S.out S1.out S2.out ?_; clear h4; intro W5 h5 _))
  refine bodyPost_ret (results_cell_tmp Try.results17 _ _ _ rfl _ ((h5.get 1 rfl).loadV 33 _ Try.underlying33 rfl S.out)) rfl ?_
  exact ⟨rfl, h5.bel⟩
set_option maxHeartbeats 1000000 in
theorem refTag_any (xs : List Nat) (k : Nat) (hl : xs.length = 32) (hb : ∀ x ∈ xs, x < 256) (hk : k < 4) (w : World) : Calls Try.prog 18 #[.agg (arrV xs), .int .i64 k] w fun e w' => e = .returned (.int .u64 (tagN xs k : Nat)) ∧ Below w.heap.size w w' := by
  have R := Lib.hid ((Blk.new w 33 xs).row hb (8 * k) 8 (32 - 8 * k) (by omega) (by omega) (by omega))
  have ht : Hid (tagN xs k = le (((xs.drop (8 * k)).take 8).take 8)) := by unfold tagN; rw [List.take_take]; exact rfl
  generalize tagN xs k = t at *
  rcases (show k = 0 ∨ k = 1 ∨ k = 2 ∨ k = 3 by omega) with rfl | rfl | rfl | rfl
  all_goals
    go_enter Try.func18, Try.ntmps18
    go_wp2_with (go_at_call 36; refine (refRead_any _ _ _ _ _ _ R.out).mono ?_; rintro e W1 ⟨rfl, rfl⟩)
    go_ret
    exact ⟨by rw [ht.out]; rfl, (Below.refl _ _).alloc (Nat.le_refl _) _⟩
theorem set_byte (xs : List Nat) (i d : Nat) : (arrV xs).setIfInBounds i (.int .u8 (d : Int)) = arrV (xs.set i d) := by
  unfold arrV; simp [vals, List.map_set]
/-- The document's With: the first j bytes of the tag have been put. -/
def wpart (xs ts : List Nat) (k j : Nat) : List Nat := xs.take (8 * k) ++ ts.take j ++ xs.drop (8 * k + j)
theorem wpart_step (xs ts : List Nat) (k j : Nat) (hl : xs.length = 32) (ht : ts.length = 8) (hk : k < 4) (hj : j < 8) : (wpart xs ts k j).set (8 * k + j) (ts.getD j 0) = wpart xs ts k (j + 1) := by
  unfold wpart
  have e1 : (xs.take (8 * k) ++ ts.take j).length = 8 * k + j := by simp; omega
  rw [List.set_append_right _ _ (by omega), e1, Nat.sub_self]
  have e2 : xs.drop (8 * k + j) = xs[8 * k + j] :: xs.drop (8 * k + j + 1) := List.drop_eq_getElem_cons (by omega)
  have e3 : ts.take (j + 1) = ts.take j ++ [ts[j]] := List.take_succ_eq_append_getElem (by omega)
  rw [e2, List.set_cons_zero, e3, List.getD_eq_getElem?_getD, List.getElem?_eq_getElem (show j < ts.length by omega)]
  simp only [Option.getD_some, List.append_assoc, List.cons_append, List.nil_append, Nat.add_assoc]
theorem wpart_len (xs ts : List Nat) (k j : Nat) (hl : xs.length = 32) (ht : ts.length = 8) (hk : k < 4) (hj : j ≤ 8) : (wpart xs ts k j).length = 32 := by
  unfold wpart; simp; omega
def WRel (w : World) (g gx gz : Nat) (xs ts : List Nat) (k : Nat) (A : Option Addr) (c : Nat) (i : Value) (wr : World) : Prop :=
  ∃ j, j ≤ 8 ∧ i = .int .i64 (j : Nat) ∧ St w wr [(gx, 33, arrV xs), (gz, 33, arrV zeros), (g, 33, arrV (wpart xs ts k j))] ∧ Row wr g A 8 c ts
set_option maxRecDepth 20000 in
set_option maxHeartbeats 1000000 in
theorem refWith_any (xs : List Nat) (k v : Nat) (hl : xs.length = 32) (hk : k < 4) (hv : v < 18446744073709551616) (w : World) : Calls Try.prog 19 #[.agg (arrV xs), .int .i64 k, .int .u64 v] w fun e w' => e = .returned (.agg (arrV (withN xs k v))) ∧ Below w.heap.size w w' := by
  have N := Lib.hid (fun W A n c xs h1 h2 => refNumber_any A n c xs v 8 W h1 h2 hv (by omega) (by omega))
  have S0 := Lib.hid (sz33 hl)
  have Sz : Hid ((arrV xs).size = (arrV zeros).size) := by rw [arrV_size, arrV_size, hl]; exact rfl
  have Sx := Lib.hid (arrV_all xs)
  have HL := Lib.hid hl
  have h0 := St.nil w
  have HE : Hid (withN xs k v = wpart xs (nb v 8) k 8) := by unfold withN wpart; rw [List.take_of_length_le (l := nb v 8) (by rw [nb_length]; omega)]; exact rfl
  generalize withN xs k v = R at *
  clear hl
  go_enter Try.func19, Try.ntmps19
  go_wp2_with (first
    | (refine wpList_box_st h0 33 _ rfl rfl (arrV xs) rfl ?_; clear h0; intro W1 h1 _ _)
    | (refine wpList_alloc_st h1 33 rfl rfl _ (arrV zeros) zv33 rfl ?_; clear h1; intro W2 h2 _ _)
    | (go_at_call 38; refine (N.out _ _ _ _ [] (Own.empty (Nat.le_refl _)).row (by omega)).mono ?_; intro e W3 hN; obtain ⟨A, c, rfl, hO, hb1⟩ := GivesRow.out (N := 8) hN rfl; have h3 := h2.call (((Below.refl _ _).alloc (Nat.le_refl _) _).trans (hb1.mono (by simp))); clear h2 hN hb1)
    | (refine wpList_load_st h3 0 rfl 33 _ _ rfl rfl rfl Try.underlying33 rfl S0.out ?_)
    | (refine wpList_alloc_st h3 33 rfl rfl _ (arrV zeros) zv33 rfl ?_; clear h3; intro W4 h4 _ hb4)
    | (refine wpList_store_st h4 2 rfl 33 _ _ rfl rfl rfl rfl S0.out Sz.out Sx.out ?_; clear h4; intro W5 h5 hg5))
  have hr : Row W5 W3.heap.size A 8 c (nb v 8) := (hO.row.below hb4).beside hg5 hb4.size
  have h5' : St w W5 [(w.heap.size, 33, arrV xs), (W1.heap.size, 33, arrV zeros), (W3.heap.size, 33, arrV (wpart xs (nb v 8) k 0))] := by
    have e : wpart xs (nb v 8) k 0 = xs := by unfold wpart; simp
    rw [e]; exact h5
  clear h5 hO hb4 hg5
  generalize w.heap.size = gx at *
  generalize W1.heap.size = gz at *
  generalize W3.heap.size = g at *
  have HT := Lib.hid (nb_length v 8)
  generalize nb v 8 = ts at *
  go_loopw [9] (WRel w g gx gz xs ts k A c) (fun i _ => 8 - (intOf i).toNat)
  case atStart => exact ⟨0, by omega, rfl, h5', hr⟩
  case round =>
    obtain ⟨j, hj, rfl, h6, hr6⟩ := hrel
    clear h5' hr
    by_cases hlt : j < 8
    · obtain ⟨b, off, rfl, hb, hc⟩ := hr6.at_ (by omega)
      have hcj := hc j (by omega)
      have hby := hr6.lt j
      clear hc
      have hST := Lib.hid (wpart_step xs ts k j HL.out HT.out hk hlt)
      generalize ts.getD j 0 = u at *
      have hm : Hid (8 * k + j < (arrV (wpart xs ts k j)).size) := by rw [arrV_size, wpart_len xs ts k j HL.out HT.out hk (by omega)]; exact (by omega : 8 * k + j < 32)
      go_wp2_with (refine wpList_cell_st h6 2 rfl 5 _ _ rfl rfl (8 * k + j) (.int .u8 (u : Int)) rfl rfl hm.out rfl rfl sz5 ?_; intro W7 h7 hg7)
      go_roundw
      case rel =>
        refine ⟨j + 1, by omega, by go_num, ?_, hr6.beside hg7 (by have := (h6.get 2 rfl).lt; omega)⟩
        rw [set_byte, hST.out] at h7
        exact h7
      case measure => simp [intOf]; omega
    · obtain rfl : j = 8 := by omega
      have S8 := Lib.hid (sz33 (wpart_len xs ts k 8 HL.out HT.out hk (by omega)))
      have Sz8 : Hid ((arrV (wpart xs ts k 8)).size = (arrV zeros).size) := by rw [arrV_size, arrV_size, wpart_len xs ts k 8 HL.out HT.out hk (by omega)]; exact rfl
      have Sx8 := Lib.hid (arrV_all (wpart xs ts k 8))
      have G : gx = gx := rfl
      clear hlt G
      generalize wpart xs ts k 8 = Y at *
      go_wp2_with (first
        | (refine wpList_load_st h6 2 rfl 33 _ _ rfl rfl rfl Try.underlying33 rfl S8.out ?_)
        | (refine wpList_store_st h6 1 rfl 33 _ _ rfl rfl rfl rfl S8.out Sz8.out Sx8.out ?_; clear h6; intro W7 h7 _))
      refine bodyPost_ret (results_arr Try.results19 _ _ _ rfl _ ((h7.get 1 rfl).loadV 33 _ Try.underlying33 rfl S8.out)) rfl ?_
      exact ⟨by rw [HE.out], h7.bel⟩
end Go.Proofs.Ytcepncdolbfcfaa
