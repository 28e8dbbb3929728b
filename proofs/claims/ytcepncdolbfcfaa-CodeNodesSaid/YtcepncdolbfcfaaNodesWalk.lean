/- The law of nodes' tags. No statement is proved here. -/
import Derived.Test.YtcepncdolbfcfaaCodePlain
namespace Go.Proofs.Ytcepncdolbfcfaa
open Go.RowKit
set_option linter.unusedVariables false
set_option linter.unusedSimpArgs false
attribute [local irreducible] arrV tagN withN

theorem kid_iff (k : Int) : kid k = true ↔ 0 ≤ k ∧ k < 4 := by simp [kid]
/-- What Tag answers for any child. -/
def tgV (xs : List Nat) (k : Int) : Nat := if kid k then tagN xs k.toNat else 0
def tgE (k : Int) : Int := if kid k then 0 else 2
theorem tag_any (xs : List Nat) (k : Int) (h : IsLine xs) (w : World) : Calls Try.prog 16 #[.agg (arrV xs), .int .i64 k] w fun e w' => e = .returned (.tuple #[.int .u64 (tgV xs k : Nat), .int .i64 (tgE k)]) ∧ Below w.heap.size w w' := by
  unfold tgV tgE
  cases hk : kid k
  · exact tag_no xs k hk w
  · obtain ⟨h1, h2⟩ := (kid_iff k).1 hk
    obtain ⟨j, rfl⟩ := Int.eq_ofNat_of_zero_le h1
    exact tag_yes xs j h.len h.lt (by omega) w
set_option maxHeartbeats 4000000 in
set_option maxRecDepth 20000 in
theorem nodes_any (xs : List Nat) (child other : Int) (v : Nat) (hx : IsLine xs) (hv : v < 18446744073709551616) (w : World) :
    Calls Try.prog 4 #[.agg (arrV xs), .int .i64 child, .int .i64 other, .int .u64 v] w fun e w' => e = .returned (.bool true) ∧ Below w.heap.size w w' := by
  have SK := Lib.hid (fun W => speaks_true W)
  have SX := Lib.hid (sz33 hx.len)
  have h0 := St.nil w
  cases hk : kid child
  · have T1 := Lib.hid (fun W => tag_no xs child hk W)
    have WI := Lib.hid (fun W => with_no xs child v hk W)
    have SY := Lib.hid (sz33 zeros_len)
    have SA := Lib.hid (arrV_all zeros)
    have q1 := fun W => eql_line zeros zeros zeros_line zeros_line W
    rw [decide_eq_true rfl] at q1
    have hc : child < 0 ∨ 3 < child := by
      have : ¬ (0 ≤ child ∧ child < 4) := fun h => by rw [(kid_iff child).2 h] at hk; cases hk
      omega
    clear hk
    rcases hc with hc | hc
    · go_enter Try.func4, Try.ntmps4
      go_wp2_with (first
        | (refine wpList_box_st h0 33 _ rfl rfl (arrV xs) rfl ?_; clear h0; intro W1 h1 _ _)
        | (go_at_call 9; refine (SK.out _).mono ?_; rintro e W2 ⟨rfl, hb⟩; have h2 := h1.call hb; clear h1 hb)
        | (refine wpList_load_st h2 0 rfl 33 _ _ rfl rfl rfl Try.underlying33 rfl SX.out ?_)
        | (go_at_call 16; have _ := h2; refine (T1.out _).mono ?_; rintro e W3 ⟨rfl, hb⟩; have h3 := h2.call hb; clear h2 hb)
        | (refine wpList_load_st h3 0 rfl 33 _ _ rfl rfl rfl Try.underlying33 rfl SX.out ?_)
        | (go_at_call 17; refine (WI.out _).mono ?_; rintro e W4 ⟨rfl, hb⟩; have h4 := h3.call hb; clear h3 hb)
        | (refine wpList_alloc_st h4 33 rfl rfl _ (arrV zeros) zv33 rfl ?_; clear h4; intro W5 h5 _ _)
        | (refine wpList_store_st h5 1 rfl 33 _ _ rfl rfl rfl rfl SY.out rfl SA.out ?_; clear h5; intro W6 h6 _)
        | (refine wpList_load_st h6 1 rfl 33 _ _ rfl rfl rfl Try.underlying33 rfl SY.out ?_)
        | (refine wpList_build_as 33 #[] rfl rfl (arrV zeros) (by simpa using build33) ?_))
      go_ret
      exact ⟨rfl, h6.bel⟩
    · have hc0 : ¬ child < 0 := by omega
      go_enter Try.func4, Try.ntmps4
      go_wp2_with (first
        | (refine wpList_box_st h0 33 _ rfl rfl (arrV xs) rfl ?_; clear h0; intro W1 h1 _ _)
        | (go_at_call 9; refine (SK.out _).mono ?_; rintro e W2 ⟨rfl, hb⟩; have h2 := h1.call hb; clear h1 hb)
        | (refine wpList_load_st h2 0 rfl 33 _ _ rfl rfl rfl Try.underlying33 rfl SX.out ?_)
        | (go_at_call 16; have _ := h2; refine (T1.out _).mono ?_; rintro e W3 ⟨rfl, hb⟩; have h3 := h2.call hb; clear h2 hb)
        | (refine wpList_load_st h3 0 rfl 33 _ _ rfl rfl rfl Try.underlying33 rfl SX.out ?_)
        | (go_at_call 17; refine (WI.out _).mono ?_; rintro e W4 ⟨rfl, hb⟩; have h4 := h3.call hb; clear h3 hb)
        | (refine wpList_alloc_st h4 33 rfl rfl _ (arrV zeros) zv33 rfl ?_; clear h4; intro W5 h5 _ _)
        | (refine wpList_store_st h5 1 rfl 33 _ _ rfl rfl rfl rfl SY.out rfl SA.out ?_; clear h5; intro W6 h6 _)
        | (refine wpList_load_st h6 1 rfl 33 _ _ rfl rfl rfl Try.underlying33 rfl SY.out ?_)
        | (refine wpList_build_as 33 #[] rfl rfl (arrV zeros) (by simpa using build33) ?_))
      go_ret
      exact ⟨rfl, h6.bel⟩
  · obtain ⟨k1, k2⟩ := (kid_iff child).1 hk
    obtain ⟨k, rfl⟩ := Int.eq_ofNat_of_zero_le k1
    have hk4 : k < 4 := by omega
    have hy := withN_line hx k v hk4
    have T1 := Lib.hid (fun W => tag_yes xs k hx.len hx.lt hk4 W)
    have WI := Lib.hid (fun W => with_yes xs k v hx.len hk4 hv W)
    have RT := Lib.hid (fun W => refTag_any xs k hx.len hx.lt hk4 W)
    have RW := Lib.hid (fun W => refWith_any xs k v hx.len hk4 hv W)
    have U1 := Lib.hid (fun W => tag_any (withN xs k v) other hy W)
    have U2 := Lib.hid (fun W => tag_any xs other hx W)
    have FQ : Hid (other = (k : Int) → tgV (withN xs k v) other = v ∧ tgE other = 0) := fun e => by
      subst e
      unfold tgV tgE
      rw [hk]
      exact ⟨tag_with xs k v hx.len hk4 hv, rfl⟩
    have FN : Hid (other ≠ (k : Int) → tgV (withN xs k v) other = tgV xs other) := fun hne => by
      unfold tgV
      cases ho : kid other
      · rfl
      · obtain ⟨o1, o2⟩ := (kid_iff other).1 ho
        simp only [if_true]
        exact tag_other xs k other.toNat v hx.len hk4 (by omega) (by omega)
    have SY := Lib.hid (sz33 hy.len)
    have SZ : Hid ((arrV (withN xs k v)).size = (arrV zeros).size) := by rw [arrV_size, arrV_size, hy.len]; exact rfl
    have SA := Lib.hid (arrV_all (withN xs k v))
    have q1 := fun W => neq_line (withN xs k v) (withN xs k v) hy hy W
    rw [decide_eq_true rfl] at q1
    have q2 : ∀ a : Nat, ((a : Int) != (a : Int)) = false := fun a => by simp
    generalize withN xs k v = ys at *
    generalize tagN xs k = t at *
    generalize tgV ys other = u at *
    generalize tgV xs other = z at *
    generalize tgE other = eo at *
    clear hk hx hy k1 k2
    have g0 : ¬ (k : Int) < 0 := by omega
    have g1 : ¬ 3 < (k : Int) := by omega
    go_enter Try.func4, Try.ntmps4
    go_wp2_with (first
      | (refine wpList_box_st h0 33 _ rfl rfl (arrV xs) rfl ?_; clear h0; intro W1 h1 _ _)
      | (go_at_call 9; refine (SK.out _).mono ?_; rintro e W2 ⟨rfl, hb⟩; have h2 := h1.call hb; clear h1 hb)
      | (refine wpList_load_st h2 0 rfl 33 _ _ rfl rfl rfl Try.underlying33 rfl SX.out ?_)
      | (go_at_call 16; have _ := h2; refine (T1.out _).mono ?_; rintro e W3 ⟨rfl, hb⟩; have h3 := h2.call hb; clear h2 hb)
      | (refine wpList_load_st h3 0 rfl 33 _ _ rfl rfl rfl Try.underlying33 rfl SX.out ?_)
      | (go_at_call 17; refine (WI.out _).mono ?_; rintro e W4 ⟨rfl, hb⟩; have h4 := h3.call hb; clear h3 hb)
      | (refine wpList_alloc_st h4 33 rfl rfl _ (arrV zeros) zv33 rfl ?_; clear h4; intro W5 h5 _ _)
      | (refine wpList_store_st h5 1 rfl 33 _ _ rfl rfl rfl rfl SY.out SZ.out SA.out ?_; clear h5; intro W6 h6 _))
    have H0 := Lib.hid h6.drew
    refine wp_region_held_drew (S := fun W => St w W [(w.heap.size, 33, arrV xs), (W4.heap.size, 33, arrV ys)]) (by kernel_rfl) H0.out (fun _ => ?_)
    generalize W6.drew = V0 at *
    generalize W4.heap.size = g at *
    clear h6
    refine wpAnyH_take (i := 0) (v := .int .i64 0) rfl (by kernel_rfl) (by kernel_rfl) (by kernel_rfl) (fun _ _ _ h => h) (Or.inl ⟨by rfl, fun W hW => by clear hW; go_simp⟩) H0.out ?_
    try simp only [Act.put, List.getElem_toArray, List.getElem_cons_succ, List.getElem_cons_zero, List.setIfInBounds_toArray, List.set_cons_zero, List.set_cons_succ]
    refine wpAnyH_take (i := 1) (v := .bool false) rfl (by kernel_rfl) (by kernel_rfl) (by kernel_rfl) (fun _ _ _ h => h) (Or.inl ⟨by rfl, fun W hW => by clear hW; go_simp⟩) H0.out ?_
    try simp only [Act.put, List.getElem_toArray, List.getElem_cons_succ, List.getElem_cons_zero, List.setIfInBounds_toArray, List.set_cons_zero, List.set_cons_succ]
    refine wpAnyH_take (i := 2) (v := .bool false) rfl (by kernel_rfl) (by kernel_rfl) (by kernel_rfl) (fun _ _ _ h => h) (Or.inl ⟨by rfl, fun W hW => by clear hW; go_simp⟩) H0.out ?_
    try simp only [Act.put, List.getElem_toArray, List.getElem_cons_succ, List.getElem_cons_zero, List.setIfInBounds_toArray, List.set_cons_zero, List.set_cons_succ]
    refine wpAnyH_take (i := 3) (v := .int .i64 0) rfl (by kernel_rfl) (by kernel_rfl) (by kernel_rfl) (fun _ _ _ h => h) (Or.inl ⟨by rfl, fun W hW => by clear hW; go_simp⟩) H0.out ?_
    try simp only [Act.put, List.getElem_toArray, List.getElem_cons_succ, List.getElem_cons_zero, List.setIfInBounds_toArray, List.set_cons_zero, List.set_cons_succ]
    refine wpAnyH_take (i := 4) (v := .bool false) rfl (by kernel_rfl) (by kernel_rfl) (by kernel_rfl) (fun _ _ _ h => h) (Or.inl ⟨by rfl, fun W hW => by clear hW; go_simp⟩) H0.out ?_
    try simp only [Act.put, List.getElem_toArray, List.getElem_cons_succ, List.getElem_cons_zero, List.setIfInBounds_toArray, List.set_cons_zero, List.set_cons_succ]
    refine wpAnyH_take (i := 5) (v := .bool false) rfl (by kernel_rfl) (by kernel_rfl) (by kernel_rfl) (fun _ _ _ h => h) (Or.inl ⟨by rfl, fun W hW => by clear hW; go_simp⟩) H0.out ?_
    try simp only [Act.put, List.getElem_toArray, List.getElem_cons_succ, List.getElem_cons_zero, List.setIfInBounds_toArray, List.set_cons_zero, List.set_cons_succ]
    refine wpAnyH_take (i := 6) (v := .bool false) rfl (by kernel_rfl) (by kernel_rfl) (by kernel_rfl) (fun _ _ _ h => h) (Or.inl ⟨by rfl, fun W hW => by clear hW; go_simp⟩) H0.out ?_
    try simp only [Act.put, List.getElem_toArray, List.getElem_cons_succ, List.getElem_cons_zero, List.setIfInBounds_toArray, List.set_cons_zero, List.set_cons_succ]
    refine wpAnyH_take (i := 7) (v := .int .u64 (t : Int)) rfl (by kernel_rfl) (by kernel_rfl) (by kernel_rfl) (fun _ _ _ h => h) (Or.inl ⟨by rfl, fun W hW => by clear hW; go_simp⟩) H0.out ?_
    try simp only [Act.put, List.getElem_toArray, List.getElem_cons_succ, List.getElem_cons_zero, List.setIfInBounds_toArray, List.set_cons_zero, List.set_cons_succ]
    refine wpAnyH_take (i := 8) (v := .agg (arrV xs)) rfl (by kernel_rfl) (by kernel_rfl) (by kernel_rfl) (fun _ _ _ h => h) (yields_at 33 _ _ rfl (by rfl) rfl Try.underlying33 rfl SX.out (fun W hW => hW.get 0 rfl)) H0.out ?_
    try simp only [Act.put, List.getElem_toArray, List.getElem_cons_succ, List.getElem_cons_zero, List.setIfInBounds_toArray, List.set_cons_zero, List.set_cons_succ]
    refine wpAnyH_take (i := 9) (v := .int .i64 (k : Int)) rfl (by kernel_rfl) (by kernel_rfl) (by kernel_rfl) (fun _ _ _ h => h) (Or.inl ⟨by rfl, fun W hW => by clear hW; go_simp⟩) H0.out ?_
    try simp only [Act.put, List.getElem_toArray, List.getElem_cons_succ, List.getElem_cons_zero, List.setIfInBounds_toArray, List.set_cons_zero, List.set_cons_succ]
    refine wpAnyH_ready (rs := [10]) (by kernel_rfl) (by simp) ?_
    refine AllReadyH.cons rfl (fun K hK => ?_) AllReadyH.nil
    go_simp
    go_at_call 18
    refine (RT.out _).mono ?_
    rintro e V1_ ⟨rfl, hb1_⟩
    have H1_ := Lib.hid (H0.out.call hb1_)
    clear hb1_
    refine hK.out _ _ H1_.out (fun _ => ?_)
    clear hK K
    try simp only [Act.put, List.getElem_toArray, List.getElem_cons_succ, List.getElem_cons_zero, List.setIfInBounds_toArray, List.set_cons_zero, List.set_cons_succ]
    refine wpAnyH_take (i := 11) (v := .bool false) rfl (by kernel_rfl) (by kernel_rfl) (by kernel_rfl) (fun _ _ _ h => h) (Or.inl ⟨by rfl, fun W hW => by clear hW; go_simp⟩) H1_.out ?_
    try simp only [Act.put, List.getElem_toArray, List.getElem_cons_succ, List.getElem_cons_zero, List.setIfInBounds_toArray, List.set_cons_zero, List.set_cons_succ]
    refine wpAnyH_take (i := 12) (v := .bool false) rfl (by kernel_rfl) (by kernel_rfl) (by kernel_rfl) (fun _ _ _ h => h) (Or.inl ⟨by rfl, fun W hW => by clear hW; go_simp⟩) H1_.out ?_
    try simp only [Act.put, List.getElem_toArray, List.getElem_cons_succ, List.getElem_cons_zero, List.setIfInBounds_toArray, List.set_cons_zero, List.set_cons_succ]
    refine wpAnyH_take (i := 13) (v := .bool false) rfl (by kernel_rfl) (by kernel_rfl) (by kernel_rfl) (fun _ _ _ h => h) (Or.inl ⟨by rfl, fun W hW => by clear hW; go_simp⟩) H1_.out ?_
    try simp only [Act.put, List.getElem_toArray, List.getElem_cons_succ, List.getElem_cons_zero, List.setIfInBounds_toArray, List.set_cons_zero, List.set_cons_succ]
    refine wpAnyH_take (i := 14) (v := .agg (arrV ys)) rfl (by kernel_rfl) (by kernel_rfl) (by kernel_rfl) (fun _ _ _ h => h) (yields_at 33 _ _ rfl (by rfl) rfl Try.underlying33 rfl SY.out (fun W hW => hW.get 1 rfl)) H1_.out ?_
    try simp only [Act.put, List.getElem_toArray, List.getElem_cons_succ, List.getElem_cons_zero, List.setIfInBounds_toArray, List.set_cons_zero, List.set_cons_succ]
    refine wpAnyH_take (i := 15) (v := .agg (arrV xs)) rfl (by kernel_rfl) (by kernel_rfl) (by kernel_rfl) (fun _ _ _ h => h) (yields_at 33 _ _ rfl (by rfl) rfl Try.underlying33 rfl SX.out (fun W hW => hW.get 0 rfl)) H1_.out ?_
    try simp only [Act.put, List.getElem_toArray, List.getElem_cons_succ, List.getElem_cons_zero, List.setIfInBounds_toArray, List.set_cons_zero, List.set_cons_succ]
    refine wpAnyH_take (i := 16) (v := .int .i64 (k : Int)) rfl (by kernel_rfl) (by kernel_rfl) (by kernel_rfl) (fun _ _ _ h => h) (Or.inl ⟨by rfl, fun W hW => by clear hW; go_simp⟩) H1_.out ?_
    try simp only [Act.put, List.getElem_toArray, List.getElem_cons_succ, List.getElem_cons_zero, List.setIfInBounds_toArray, List.set_cons_zero, List.set_cons_succ]
    refine wpAnyH_take (i := 17) (v := .int .u64 (v : Int)) rfl (by kernel_rfl) (by kernel_rfl) (by kernel_rfl) (fun _ _ _ h => h) (Or.inl ⟨by rfl, fun W hW => by clear hW; go_simp⟩) H1_.out ?_
    try simp only [Act.put, List.getElem_toArray, List.getElem_cons_succ, List.getElem_cons_zero, List.setIfInBounds_toArray, List.set_cons_zero, List.set_cons_succ]
    refine wpAnyH_ready (rs := [18]) (by kernel_rfl) (by simp) ?_
    refine AllReadyH.cons rfl (fun K hK => ?_) AllReadyH.nil
    go_simp
    go_at_call 19
    refine (RW.out _).mono ?_
    rintro e V2_ ⟨rfl, hb2_⟩
    have H2_ := Lib.hid (H1_.out.call hb2_)
    clear hb2_
    refine hK.out _ _ H2_.out (fun _ => ?_)
    clear hK K
    try simp only [Act.put, List.getElem_toArray, List.getElem_cons_succ, List.getElem_cons_zero, List.setIfInBounds_toArray, List.set_cons_zero, List.set_cons_succ]
    refine wpAnyH_take (i := 19) (v := .bool false) rfl (by kernel_rfl) (by kernel_rfl) (by kernel_rfl) (fun _ _ _ h => h) (Or.inl ⟨by rfl, fun W hW => by clear hW; go_simp⟩) H2_.out ?_
    try simp only [Act.put, List.getElem_toArray, List.getElem_cons_succ, List.getElem_cons_zero, List.setIfInBounds_toArray, List.set_cons_zero, List.set_cons_succ]
    refine wpAnyH_take (i := 20) (v := .bool false) rfl (by kernel_rfl) (by kernel_rfl) (by kernel_rfl) (fun _ _ _ h => h) (Or.inl ⟨by rfl, fun W hW => by clear hW; go_simp⟩) H2_.out ?_
    try simp only [Act.put, List.getElem_toArray, List.getElem_cons_succ, List.getElem_cons_zero, List.setIfInBounds_toArray, List.set_cons_zero, List.set_cons_succ]
    refine wpAnyH_done (by kernel_rfl) ?_ _
    have h7 := H2_.out
    clear q1 q2
    by_cases he : other = (k : Int)
    · obtain ⟨e1, e2⟩ := FQ.out he
      have q3 : (other == (k : Int)) = true := by simpa using he
      subst e1 e2
      clear FQ FN he
      go_wp2_with (first
        | (refine wpList_load_st h7 1 rfl 33 _ _ rfl rfl rfl Try.underlying33 rfl SY.out ?_)
        | (go_at_call 16; have _ := h7; refine (U1.out _).mono ?_; rintro e W8 ⟨rfl, hb⟩; have h8 := h7.call hb; clear h7 hb)
        | (refine wpList_load_st h8 0 rfl 33 _ _ rfl rfl rfl Try.underlying33 rfl SX.out ?_)
        | (go_at_call 16; have _ := h8; refine (U2.out _).mono ?_; rintro e W9 ⟨rfl, hb⟩; have h9 := h8.call hb; clear h8 hb))
      go_ret
      exact ⟨rfl, h9.bel⟩
    · have e1 := FN.out he
      have q3 : (other == (k : Int)) = false := by simpa using he
      subst e1
      clear FQ FN he
      have q4 : (eo == eo) = true := by simp
      go_wp2_with (first
        | (refine wpList_load_st h7 1 rfl 33 _ _ rfl rfl rfl Try.underlying33 rfl SY.out ?_)
        | (go_at_call 16; have _ := h7; refine (U1.out _).mono ?_; rintro e W8 ⟨rfl, hb⟩; have h8 := h7.call hb; clear h7 hb)
        | (refine wpList_load_st h8 0 rfl 33 _ _ rfl rfl rfl Try.underlying33 rfl SX.out ?_)
        | (go_at_call 16; have _ := h8; refine (U2.out _).mono ?_; rintro e W9 ⟨rfl, hb⟩; have h9 := h8.call hb; clear h8 hb))
      go_ret
      exact ⟨rfl, h9.bel⟩
end Go.Proofs.Ytcepncdolbfcfaa
