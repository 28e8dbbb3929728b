/- The law SipSums returns true whatever comes in, and nothing that was there is changed. -/
import Derived.Test.YtpibmccofjpelaaUnlike
import Derived.Deep.RegionHeld3
namespace Go.Proofs.Ytpibmccofjpelaa
open Go.RowKit
set_option linter.unusedVariables false
set_option linter.unusedSimpArgs false

/-- What came in, as the law reads it. -/
structure SSt (w : World) (key : List Nat) (a b c d : Nat) (A : Option Addr) (n cap : Nat) (xs : List Nat) (V : World) : Prop where
  hk : Blk V w.heap.size 23 key
  hv : Blk4 V (w.heap.size + 1) a b c d
  hx : Row V w.heap.size A n cap xs
  hw : Below w.heap.size w V
section
variable {w : World} {key : List Nat} {a b c d : Nat} {A : Option Addr} {n cap : Nat} {xs : List Nat} {V V2 : World}
theorem SSt.call (h : SSt w key a b c d A n cap xs V) (hb : Below V.heap.size V V2) : SSt w key a b c d A n cap xs V2 :=
  ⟨h.hk.below hb h.hk.lt, h.hv.below hb h.hv.lt, h.hx.below (hb.mono h.hw.size), h.hw.trans (hb.mono h.hw.size)⟩
theorem SSt.drew (h : SSt w key a b c d A n cap xs V) : SSt w key a b c d A n cap xs V.drew := ⟨h.hk, h.hv, h.hx.drew, below_drewN (k := 1) h.hw⟩
theorem SSt.row (h : SSt w key a b c d A n cap xs V) : Row V V.heap.size A n cap xs := h.hx.wider h.hw.size
theorem SSt.start (w : World) (key : List Nat) (a b c d : Nat) (A : Option Addr) (n cap : Nat) (xs : List Nat) (hx : Row w w.heap.size A n cap xs) : SSt w key a b c d A n cap xs ((w.alloc (.cells (arrV key) 23)).alloc (.cells #[.int .u64 (a : Int), .int .u64 (b : Int), .int .u64 (c : Int), .int .u64 (d : Int)] 26)) := by
  have e1 : (w.alloc (.cells (arrV key) 23)).heap.size = w.heap.size + 1 := by simp
  have h1 := Blk4.new (w.alloc (.cells (arrV key) 23)) a b c d
  rw [e1] at h1
  have hb : Below w.heap.size w ((w.alloc (.cells (arrV key) 23)).alloc (.cells #[.int .u64 (a : Int), .int .u64 (b : Int), .int .u64 (c : Int), .int .u64 (d : Int)] 26)) := ((Below.refl _ _).alloc (Nat.le_refl _) _).alloc (by simp) _
  exact ⟨(Blk.new w 23 key).alloc _, h1, hx.below hb, hb⟩
end
attribute [local irreducible] rnd ssum rsum

set_option maxRecDepth 20000 in
set_option maxHeartbeats 2000000 in
theorem sums_walk (key : List Nat) (A : Option Addr) (n cap : Nat) (xs : List Nat) (a b c d : Nat) (lk : key.length = 16) (bk : ∀ x ∈ key, x < 256) (hv : (V.mk a b c d).ok) (w : World) (hx : Row w w.heap.size A n cap xs) :
    Calls Try.prog 3 #[.agg (arrV key), .slice A n cap, .agg #[.int .u64 a, .int .u64 b, .int .u64 c, .int .u64 d]] w fun e w' => e = .returned (.bool true) ∧ Below w.heap.size w w' := by
  have hmax := hx.max
  have HX := Lib.hid hx
  have S0 := Lib.hid (SSt.start w key a b c d A n cap xs hx)
  have SP := Lib.hid (fun W => speaks_any W)
  have LK := Lib.hid lk
  have RL : Hid (∀ V, Row V V.heap.size A n cap xs → Calls Try.prog 13 #[.agg (vals key).toArray, .slice A n cap] V fun e w' => e = .returned (.int .u64 (ssum key xs : Nat)) ∧ Below V.heap.size V w') := fun V h => sipSum_any key A n cap xs V lk bk h
  have EQ := Lib.hid (ssum_eq key xs lk bk hx.bytes)
  by_cases hn : 2000 < n
  · go_enter Try.func3, Try.ntmps3
    go_wp2_with (go_at_call 12; refine (SP.out _).mono ?_; rintro e X1 ⟨rfl, hb1⟩; have S1 := Lib.hid (S0.out.call hb1); clear hb1)
    go_ret
    exact ⟨rfl, S1.out.hw⟩
  · have RR : Hid (∀ V, Row V V.heap.size A n cap xs → Calls Try.prog 14 #[.agg (vals key).toArray, .slice A n cap] V fun e w' => e = .returned (.int .u64 (ssum key xs : Nat)) ∧ Below V.heap.size V w') := by rw [EQ.out]; exact fun V h => refSum_any key A n cap xs V lk bk h (by omega)
    generalize hrv : rnd (V.mk a b c d) = rv
    obtain ⟨ra, rb, rc, rd⟩ := rv
    have C1 := Lib.hid (fun W => round_lit hv hrv W)
    have C2 := Lib.hid (fun W => refRound_lit hv hrv W)
    have q1 := fun W => eql_lit ra rb rc rd ra rb rc rd true (decide_eq_true rfl) W
    generalize ssum key xs = N at *
    have f1 : ((N : Int) == (N : Int)) = true := by simp
    clear EQ hrv hv lk bk hx
    go_enter Try.func3, Try.ntmps3
    go_wp2_with (go_at_call 12; refine (SP.out _).mono ?_; rintro e X1 ⟨rfl, hb1⟩; have S1 := Lib.hid (S0.out.call hb1); clear hb1)
    have H0 := Lib.hid S1.out.drew
    clear S0 S1
    refine wp_region_held_drew (S := fun W => SSt w key a b c d A n cap xs W) (by kernel_rfl) H0.out (fun _ => ?_)
    generalize X1.drew = V0 at *
    refine wpAnyH_take (i := 0) rfl (by kernel_rfl) (by kernel_rfl) (by kernel_rfl) (fun _ _ _ h => h) (yieldsIf_load_mid (by rfl) _ _ rfl _ _ rfl _ _ (fun W hW => whole_range hW.hk LK.out) Try.underlying23 rfl (sz16 key LK.out)) H0.out ?_
    try simp only [Act.put, List.getElem_toArray, List.getElem_cons_succ, List.getElem_cons_zero, List.setIfInBounds_toArray, List.set_cons_zero, List.set_cons_succ]
    refine wpAnyH_take (i := 1) (v := .slice A n cap) rfl (by kernel_rfl) (by kernel_rfl) (by kernel_rfl) (fun _ _ _ h => h) (Or.inl ⟨by rfl, fun W hW => by clear hW; go_simp⟩) H0.out ?_
    try simp only [Act.put, List.getElem_toArray, List.getElem_cons_succ, List.getElem_cons_zero, List.setIfInBounds_toArray, List.set_cons_zero, List.set_cons_succ]
    refine wpAnyH_take (i := 3) rfl (by kernel_rfl) (by kernel_rfl) (by kernel_rfl) (fun _ _ _ h => h) (yieldsIf_load_mid (by rfl) _ _ rfl _ _ rfl _ _ (fun W hW => whole_range hW.hk LK.out) Try.underlying23 rfl (sz16 key LK.out)) H0.out ?_
    try simp only [Act.put, List.getElem_toArray, List.getElem_cons_succ, List.getElem_cons_zero, List.setIfInBounds_toArray, List.set_cons_zero, List.set_cons_succ]
    refine wpAnyH_take (i := 4) (v := .slice A n cap) rfl (by kernel_rfl) (by kernel_rfl) (by kernel_rfl) (fun _ _ _ h => h) (Or.inl ⟨by rfl, fun W hW => by clear hW; go_simp⟩) H0.out ?_
    try simp only [Act.put, List.getElem_toArray, List.getElem_cons_succ, List.getElem_cons_zero, List.setIfInBounds_toArray, List.set_cons_zero, List.set_cons_succ]
    refine wpAnyH_ready (rs := [2]) (by kernel_rfl) (by simp) ?_
    refine AllReadyH.cons rfl (fun K hK => ?_) AllReadyH.nil
    go_simp
    go_at_call 13
    refine (RL.out _ H0.out.row).mono ?_
    rintro e V_2 ⟨rfl, hb_1⟩
    have H_3 := Lib.hid (H0.out.call hb_1)
    clear hb_1
    refine hK.out _ _ H_3.out (fun _ => ?_)
    clear hK K
    try simp only [Act.put, List.getElem_toArray, List.getElem_cons_succ, List.getElem_cons_zero, List.setIfInBounds_toArray, List.set_cons_zero, List.set_cons_succ]
    refine wpAnyH_ready (rs := [5]) (by kernel_rfl) (by simp) ?_
    refine AllReadyH.cons rfl (fun K hK => ?_) AllReadyH.nil
    go_simp
    go_at_call 14
    refine (RR.out _ H_3.out.row).mono ?_
    rintro e V_5 ⟨rfl, hb_4⟩
    have H_6 := Lib.hid (H_3.out.call hb_4)
    clear hb_4
    refine hK.out _ _ H_6.out (fun _ => ?_)
    clear hK K
    try simp only [Act.put, List.getElem_toArray, List.getElem_cons_succ, List.getElem_cons_zero, List.setIfInBounds_toArray, List.set_cons_zero, List.set_cons_succ]
    refine wpAnyH_take (i := 6) (v := .bool true) rfl (by kernel_rfl) (by kernel_rfl) (by kernel_rfl) (fun _ _ _ h => h) (Or.inl ⟨by rfl, fun W hW => by clear hW; go_simp⟩) H_6.out ?_
    try simp only [Act.put, List.getElem_toArray, List.getElem_cons_succ, List.getElem_cons_zero, List.setIfInBounds_toArray, List.set_cons_zero, List.set_cons_succ]
    refine wpAnyH_take (i := 7) (v := .bool true) rfl (by kernel_rfl) (by kernel_rfl) (by kernel_rfl) (fun _ _ _ h => h) (Or.inl ⟨by rfl, fun W hW => by clear hW; go_simp⟩) H_6.out ?_
    try simp only [Act.put, List.getElem_toArray, List.getElem_cons_succ, List.getElem_cons_zero, List.setIfInBounds_toArray, List.set_cons_zero, List.set_cons_succ]
    refine wpAnyH_take (i := 8) rfl (by kernel_rfl) (by kernel_rfl) (by kernel_rfl) (fun _ _ _ h => h) (yieldsIf_load_mid (by rfl) _ _ rfl _ _ rfl _ _ (fun W hW => hW.hv.range) Try.underlying26 rfl size26) H_6.out ?_
    try simp only [Act.put, List.getElem_toArray, List.getElem_cons_succ, List.getElem_cons_zero, List.setIfInBounds_toArray, List.set_cons_zero, List.set_cons_succ]
    refine wpAnyH_take (i := 10) rfl (by kernel_rfl) (by kernel_rfl) (by kernel_rfl) (fun _ _ _ h => h) (yieldsIf_load_mid (by rfl) _ _ rfl _ _ rfl _ _ (fun W hW => hW.hv.range) Try.underlying26 rfl size26) H_6.out ?_
    try simp only [Act.put, List.getElem_toArray, List.getElem_cons_succ, List.getElem_cons_zero, List.setIfInBounds_toArray, List.set_cons_zero, List.set_cons_succ]
    refine wpAnyH_ready (rs := [9]) (by kernel_rfl) (by simp) ?_
    refine AllReadyH.cons rfl (fun K hK => ?_) AllReadyH.nil
    go_simp
    go_at_call 15
    refine (C1.out _).mono ?_
    rintro e V_8 ⟨rfl, hb_7⟩
    have H_9 := Lib.hid (H_6.out.call hb_7)
    clear hb_7
    refine hK.out _ _ H_9.out (fun _ => ?_)
    clear hK K
    try simp only [Act.put, List.getElem_toArray, List.getElem_cons_succ, List.getElem_cons_zero, List.setIfInBounds_toArray, List.set_cons_zero, List.set_cons_succ]
    refine wpAnyH_ready (rs := [11]) (by kernel_rfl) (by simp) ?_
    refine AllReadyH.cons rfl (fun K hK => ?_) AllReadyH.nil
    go_simp
    go_at_call 16
    refine (C2.out _).mono ?_
    rintro e V_11 ⟨rfl, hb_10⟩
    have H_12 := Lib.hid (H_9.out.call hb_10)
    clear hb_10
    refine hK.out _ _ H_12.out (fun _ => ?_)
    clear hK K
    try simp only [Act.put, List.getElem_toArray, List.getElem_cons_succ, List.getElem_cons_zero, List.setIfInBounds_toArray, List.set_cons_zero, List.set_cons_succ]
    refine wpAnyH_take (i := 12) (v := .bool true) rfl (by kernel_rfl) (by kernel_rfl) (by kernel_rfl) (fun _ _ _ h => h) (Or.inl ⟨by rfl, fun W hW => by clear hW; go_simp⟩) H_12.out ?_
    try simp only [Act.put, List.getElem_toArray, List.getElem_cons_succ, List.getElem_cons_zero, List.setIfInBounds_toArray, List.set_cons_zero, List.set_cons_succ]
    refine wpAnyH_take (i := 13) (v := .bool true) rfl (by kernel_rfl) (by kernel_rfl) (by kernel_rfl) (fun _ _ _ h => h) (Or.inl ⟨by rfl, fun W hW => by clear hW; go_simp⟩) H_12.out ?_
    try simp only [Act.put, List.getElem_toArray, List.getElem_cons_succ, List.getElem_cons_zero, List.setIfInBounds_toArray, List.set_cons_zero, List.set_cons_succ]
    refine wpAnyH_take (i := 14) (v := .bool true) rfl (by kernel_rfl) (by kernel_rfl) (by kernel_rfl) (fun _ _ _ h => h) (Or.inl ⟨by rfl, fun W hW => by clear hW; go_simp⟩) H_12.out ?_
    try simp only [Act.put, List.getElem_toArray, List.getElem_cons_succ, List.getElem_cons_zero, List.setIfInBounds_toArray, List.set_cons_zero, List.set_cons_succ]
    refine wpAnyH_done (by kernel_rfl) ?_ _
    clear q1
    go_wp2
    go_ret
    exact ⟨rfl, H_12.out.hw⟩
end Go.Proofs.Ytpibmccofjpelaa
