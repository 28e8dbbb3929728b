/- The document's line, and the bytes of counters, the document's. No statement is proved here. -/
import Derived.Test.YtcepncdolbfcfaaRefPut
import Derived.Test.YtcepncdolbfcfaaNode
import Derived.Test.YtcepncdolbfcfaaCnt2
namespace Go.Proofs.Ytcepncdolbfcfaa
open Go.RowKit
set_option linter.unusedVariables false
set_option linter.unusedSimpArgs false
attribute [local irreducible] arrV shaped Ls right

/-- The first j bytes of a row, and noughts. -/
def lpart (xs : List Nat) (j : Nat) : List Nat := xs.take j ++ List.replicate (32 - j) 0
theorem lpart_step (xs : List Nat) (j : Nat) (hl : xs.length = 32) (hj : j < 32) : (lpart xs j).set j (xs.getD j 0) = lpart xs (j + 1) := by
  unfold lpart
  have e1 : (xs.take j).length = j := by simp; omega
  rw [List.set_append_right _ _ (by omega), e1, Nat.sub_self]
  obtain ⟨m, hm⟩ : ∃ m, 32 - j = m + 1 := ⟨31 - j, by omega⟩
  have e3 : xs.take (j + 1) = xs.take j ++ [xs[j]] := List.take_succ_eq_append_getElem (by omega)
  rw [hm, List.replicate_succ, List.set_cons_zero, e3, show 32 - (j + 1) = m by omega, List.getD_eq_getElem?_getD, List.getElem?_eq_getElem (show j < xs.length by omega)]
  simp only [Option.getD_some, List.append_assoc, List.cons_append, List.nil_append]
theorem lpart_len (xs : List Nat) (j : Nat) (hl : xs.length = 32) (hj : j ≤ 32) : (lpart xs j).length = 32 := by
  unfold lpart; simp; omega
def LRel (w : World) (g g2 : Nat) (xs : List Nat) (i : Value) (wr : World) : Prop :=
  ∃ j, j ≤ 32 ∧ i = .int .i64 (j : Nat) ∧ St w wr [(g, 33, arrV zeros), (g2, 33, arrV (lpart xs j))]
set_option maxRecDepth 20000 in
set_option maxHeartbeats 1000000 in
theorem line_any (A : Option Addr) (c : Nat) (xs : List Nat) (w : World) (hx : Row w w.heap.size A 32 c xs) : Calls Try.prog 40 #[.slice A 32 c] w fun e w' => e = .returned (.agg (arrV xs)) ∧ Below w.heap.size w w' := by
  have hl := hx.len
  have S0 := Lib.hid (sz33 zeros_len)
  have S2 := Lib.hid (arrV_all zeros)
  have HL := Lib.hid hl
  have h0 := St.nil w
  have HX := Lib.hid hx
  clear hl hx
  go_enter Try.func40, Try.ntmps40
  go_wp2_with (first
    | (refine wpList_alloc_st h0 33 rfl rfl _ (arrV zeros) zv33 rfl ?_; clear h0; intro W1 h1 _ _)
    | (refine wpList_build_as 33 #[] rfl rfl (arrV zeros) (by simpa using build33) ?_)
    | (refine wpList_alloc_st h1 33 rfl rfl _ (arrV zeros) zv33 rfl ?_; clear h1; intro W2 h2 _ _)
    | (refine wpList_store_st h2 1 rfl 33 _ _ rfl rfl rfl rfl S0.out rfl S2.out ?_; clear h2; intro W3 h3 _))
  go_loopw [4] (LRel w w.heap.size W1.heap.size xs) (fun i _ => 32 - (intOf i).toNat)
  case atStart =>
    refine ⟨0, by omega, rfl, ?_⟩
    have e : lpart xs 0 = zeros := by unfold lpart zeros; simp
    rw [e]; exact h3
  case round =>
    obtain ⟨j, hj, rfl, h6⟩ := hrel
    clear h3
    by_cases hlt : j < 32
    · obtain ⟨b, off, rfl, hb, hc⟩ := (HX.out.below h6.bel).at_ (by omega)
      have hcj := hc j (by omega)
      have hby := HX.out.lt j
      clear hc
      have hST := Lib.hid (lpart_step xs j HL.out hlt)
      have hm : Hid (j < (arrV (lpart xs j)).size) := by rw [arrV_size, lpart_len xs j HL.out (by omega)]; exact hlt
      generalize xs.getD j 0 = u at *
      go_wp2_with (refine wpList_cell_st h6 1 rfl 5 _ _ rfl rfl j (.int .u8 (u : Int)) rfl rfl hm.out rfl rfl sz5 ?_; intro W7 h7 hg7)
      go_roundw
      case rel =>
        refine ⟨j + 1, by omega, by go_num, ?_⟩
        rw [set_byte, hST.out] at h7
        exact h7
      case measure => simp [intOf]; omega
    · obtain rfl : j = 32 := by omega
      have e : lpart xs 32 = xs := by unfold lpart; rw [List.take_of_length_le (by rw [HL.out]; omega)]; simp
      rw [e] at h6
      have S8 := Lib.hid (sz33 HL.out)
      have Sz8 : Hid ((arrV xs).size = (arrV zeros).size) := by rw [arrV_size, arrV_size, HL.out]; exact rfl
      have Sx8 := Lib.hid (arrV_all xs)
      clear hlt e
      go_wp2_with (first
        | (refine wpList_load_st h6 1 rfl 33 _ _ rfl rfl rfl Try.underlying33 rfl S8.out ?_)
        | (refine wpList_store_st h6 0 rfl 33 _ _ rfl rfl rfl rfl S8.out Sz8.out Sx8.out ?_; clear h6; intro W7 h7 _))
      refine bodyPost_ret (results_arr Try.results40 _ _ _ rfl _ ((h7.get 0 rfl).loadV 33 _ Try.underlying33 rfl S8.out)) rfl ?_
      exact ⟨rfl, h7.bel⟩
end Go.Proofs.Ytcepncdolbfcfaa
