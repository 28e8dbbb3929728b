/- For every input the law AesKeys returns true. No condition. -/
import Derived.Test.YtmmfigdmdamnlabKeysInj
import Derived.Test.YtmmfigdmdamnlabUnlikeWalk
namespace Go.Proofs.Ytmmfigdmdamnlab
open Go.RowKit
set_option linter.unusedVariables false
set_option linter.unusedSimpArgs false

/-- The blocks that came in. -/
structure KI (w : World) (a b : List Nat) (V : World) : Prop where
  ha : Blk V w.heap.size 27 a
  hb : Blk V (w.heap.size + 1) 27 b
  hw : Below w.heap.size w V
theorem KI.call {w : World} {a b : List Nat} {V V2 : World} (h : KI w a b V) (hb : Below V.heap.size V V2) : KI w a b V2 := ⟨h.ha.below hb h.ha.lt, h.hb.below hb h.hb.lt, h.hw.trans (hb.mono h.hw.size)⟩
theorem KI.drew {w : World} {a b : List Nat} {V : World} (h : KI w a b V) : KI w a b V.drew := ⟨h.ha, h.hb, h.hw.drew⟩
theorem KI.start (w : World) (a b : List Nat) : KI w a b ((w.alloc (.cells (arrV a) 27)).alloc (.cells (arrV b) 27)) := by
  have e1 : (w.alloc (.cells (arrV a) 27)).heap.size = w.heap.size + 1 := by simp
  have h1 := Blk.new (w.alloc (.cells (arrV a) 27)) 27 b
  rw [e1] at h1
  exact ⟨(Blk.new w 27 a).alloc _, h1, ((Below.refl _ _).alloc (Nat.le_refl _) _).alloc (by simp) _⟩

theorem there176 {V : World} {g : Nat} {t : TypeId} {xs ys : List Nat} (h : Blk V g t xs) (hl : xs.length = 176) (hy : ys.length = 176) : V.there g 0 (vals ys).toArray.size := by rw [List.size_toArray, vals_length, hy]; exact h.there 0 176 (by rw [hl]; omega)
theorem sz176 (xs : List Nat) (h : xs.length = 176) : (Try.prog.info? 35).map (·.size) = some (vals xs).toArray.size := by rw [List.size_toArray, vals_length, h]; exact size35
theorem below_all (V : World) (o : Obj) : Below V.heap.size V (V.alloc o) := (Below.refl _ _).alloc (Nat.le_refl _) _
theorem rk_range {V : World} {g : Nat} {t : TypeId} {xs : List Nat} (h : Blk V g t xs) (hl : xs.length = 176) (r : Nat) (hr : r ≤ 10) : V.rangeAt g (r * 16) (vals (rk xs r)) := by
  rw [Nat.mul_comm, rk_eq]; exact h.range (16 * r) 16 (by rw [hl]; omega)
/-- The blocks that the loop reads. -/
structure KS (w : World) (a b X Y : List Nat) (p q : Nat) (V : World) : Prop where
  ki : KI w a b V
  hx : Blk V p 35 X
  hy : Blk V q 35 Y
theorem KS.drew {w : World} {a b X Y : List Nat} {p q : Nat} {V : World} (h : KS w a b X Y p q V) : KS w a b X Y p q V.drew := ⟨h.ki.drew, h.hx, h.hy⟩

set_option maxRecDepth 20000 in
set_option maxHeartbeats 10000000 in
theorem keys_any (a b : List Nat) (la : a.length = 16) (ba : ∀ x ∈ a, x < 256) (lb : b.length = 16) (bb : ∀ x ∈ b, x < 256) (w : World) : Calls Try.prog 8 #[.agg (arrV a), .agg (arrV b)] w fun e w' => e = .returned (.bool true) ∧ Below w.heap.size w w' := by
  have LA := Lib.hid la
  have LB := Lib.hid lb
  have BA := Lib.hid ba
  have BB := Lib.hid bb
  have NA : Hid (∀ W : World, Calls Try.prog 15 #[.agg (vals a).toArray] W (GivesCipher W a)) := fun W => new_any a W la ba
  have NB : Hid (∀ W : World, Calls Try.prog 15 #[.agg (vals b).toArray] W (GivesCipher W b)) := fun W => new_any b W lb bb
  have RA : Hid (∀ (g : Nat) (W : World), Blk W g 49 (cells a) → Calls Try.prog 16 #[.pointer (some ⟨g, 0, none⟩)] W (GivesL W ((cells a).take 176))) := fun g W h => rounds_any g (cells a) W h (cells_length a la ba)
  have RB : Hid (∀ (g : Nat) (W : World), Blk W g 49 (cells b) → Calls Try.prog 16 #[.pointer (some ⟨g, 0, none⟩)] W (GivesL W ((cells b).take 176))) := fun g W h => rounds_any g (cells b) W h (cells_length b lb bb)
  have LX : Hid (((cells a).take 176).length = 176 ∧ ∀ x ∈ (cells a).take 176, x < 256) := by rw [rounds_eq a la ba]; exact ⟨ex_len a la ba 40 (by omega), (exTo_ok _ _ fresh_lt la ba 40 (by omega)).2.1⟩
  have LY : Hid (((cells b).take 176).length = 176 ∧ ∀ x ∈ (cells b).take 176, x < 256) := by rw [rounds_eq b lb bb]; exact ⟨ex_len b lb bb 40 (by omega), (exTo_ok _ _ fresh_lt lb bb 40 (by omega)).2.1⟩
  have XY := Lib.hid (show a = b → (cells a).take 176 = (cells b).take 176 from fun e => by rw [e])
  have KK := Lib.hid (show ∀ r, r ≤ 10 → rk ((cells a).take 176) r = rk ((cells b).take 176) r → a = b by rw [rounds_eq a la ba, rounds_eq b lb bb]; exact fun r hr h => rk_key a b la lb ba bb r hr h)
  generalize (cells a).take 176 = X at *
  generalize (cells b).take 176 = Y at *
  clear la lb ba bb
  go_enter Try.func8, Try.ntmps8
  go_wp2_with (first
    | (go_at_call 9; refine (speaks_any _).mono ?_; rintro e W2 ⟨rfl, hb1⟩; have J2 := Lib.hid ((KI.start w a b).call hb1); clear hb1)
    | fail)
  next =>
    rename_i Q0 K0 hK0
    have rest : ∀ (p q g1 g2 : Nat) (V : World), KS w a b X Y p q V → K0 ⟨#[.agg (arrV a), .agg (arrV b), .pointer (some ⟨w.heap.size, 0, none⟩), .pointer (some ⟨w.heap.size + 1, 0, none⟩), .bool false, .pointer (some ⟨p, 0, none⟩), .pointer (some ⟨q, 0, none⟩), undef, .bool true, .bool false, .agg (vals a).toArray, .pointer (some ⟨g1, 0, none⟩), .agg (vals X).toArray, .agg (vals b).toArray, .pointer (some ⟨g2, 0, none⟩), .agg (vals Y).toArray, undef, undef, undef, undef, undef, undef, undef, undef, undef, undef, undef, undef, undef, undef, undef], []⟩ V := by
      intro p q g1 g2 V hV
      refine hK0 _ _ ?_
      have HV := Lib.hid hV
      clear hV J2
      go_wp2
      go_loopw [7] (fun i wr => ∃ k : Nat, k ≤ 11 ∧ i = .int .i64 k ∧ KS w a b X Y p q wr) (fun i _ => 11 - (intOf i).toNat)
      case atStart => exact ⟨0, by omega, rfl, HV.out⟩
      case round =>
        clear HV
        obtain ⟨k, hk, rfl, hV⟩ := hrel
        have HV := Lib.hid hV
        clear hV
        by_cases hlt : k < 11
        · have w2 : (0 : Int) ≤ (k : Int) ∧ (k : Int) < 11 := by omega
          have RX := Lib.hid (rk_length X k (by rw [LX.out.1]; omega))
          have RY := Lib.hid (rk_length Y k (by rw [LY.out.1]; omega))
          have Q1 := eqlL (rk X k) (rk Y k) RX.out RY.out (rk_lt X k LX.out.2) (rk_lt Y k LY.out.2)
          have Q2 := eqlL a b LA.out LB.out BA.out BB.out
          have QI : Hid (rk X k = rk Y k ↔ a = b) := ⟨fun h => KK.out k (by omega) h, fun e => by rw [XY.out e]⟩
          go_wp2
          have H0 := Lib.hid HV.out.drew
          refine wp_region_held_drew (S := fun W => KS w a b X Y p q W) (by kernel_rfl) H0.out (fun _ => ?_)
          refine wpAnyH_take (i := 0) (v := .int .i64 (k : Int)) rfl (by kernel_rfl) (by kernel_rfl) (by kernel_rfl) (fun _ _ _ h => h) (Or.inl ⟨by rfl, fun W hW => by clear hW; go_simp⟩) H0.out ?_
          try simp only [Act.put, List.getElem_toArray, List.getElem_cons_succ, List.getElem_cons_zero, List.setIfInBounds_toArray, List.set_cons_zero, List.set_cons_succ]
          refine wpAnyH_take (i := 1) (v := .pointer (some ⟨p, k * 16, none⟩)) rfl (by kernel_rfl) (by kernel_rfl) (by kernel_rfl) (fun _ _ _ h => h) (Or.inl ⟨by rfl, fun W hW => by clear hW; go_simp⟩) H0.out ?_
          try simp only [Act.put, List.getElem_toArray, List.getElem_cons_succ, List.getElem_cons_zero, List.setIfInBounds_toArray, List.set_cons_zero, List.set_cons_succ]
          refine wpAnyH_take (i := 2) rfl (by kernel_rfl) (by kernel_rfl) (by kernel_rfl) (fun _ _ _ h => h) (yieldsIf_load_mid (by rfl) _ _ rfl _ _ rfl _ _ (fun W hW => rk_range hW.hx LX.out.1 k (by omega)) Try.underlying27 rfl (sz16 _ RX.out)) H0.out ?_
          try simp only [Act.put, List.getElem_toArray, List.getElem_cons_succ, List.getElem_cons_zero, List.setIfInBounds_toArray, List.set_cons_zero, List.set_cons_succ]
          refine wpAnyH_take (i := 3) (v := .int .i64 (k : Int)) rfl (by kernel_rfl) (by kernel_rfl) (by kernel_rfl) (fun _ _ _ h => h) (Or.inl ⟨by rfl, fun W hW => by clear hW; go_simp⟩) H0.out ?_
          try simp only [Act.put, List.getElem_toArray, List.getElem_cons_succ, List.getElem_cons_zero, List.setIfInBounds_toArray, List.set_cons_zero, List.set_cons_succ]
          refine wpAnyH_take (i := 4) (v := .pointer (some ⟨q, k * 16, none⟩)) rfl (by kernel_rfl) (by kernel_rfl) (by kernel_rfl) (fun _ _ _ h => h) (Or.inl ⟨by rfl, fun W hW => by clear hW; go_simp⟩) H0.out ?_
          try simp only [Act.put, List.getElem_toArray, List.getElem_cons_succ, List.getElem_cons_zero, List.setIfInBounds_toArray, List.set_cons_zero, List.set_cons_succ]
          refine wpAnyH_take (i := 5) rfl (by kernel_rfl) (by kernel_rfl) (by kernel_rfl) (fun _ _ _ h => h) (yieldsIf_load_mid (by rfl) _ _ rfl _ _ rfl _ _ (fun W hW => rk_range hW.hy LY.out.1 k (by omega)) Try.underlying27 rfl (sz16 _ RY.out)) H0.out ?_
          try simp only [Act.put, List.getElem_toArray, List.getElem_cons_succ, List.getElem_cons_zero, List.setIfInBounds_toArray, List.set_cons_zero, List.set_cons_succ]
          refine wpAnyH_take (i := 6) (v := .bool (decide (rk X k = rk Y k))) rfl (by kernel_rfl) (by kernel_rfl) (by kernel_rfl) (fun _ _ _ h => h) (Or.inl ⟨by rfl, fun W hW => by clear hW; go_simp⟩) H0.out ?_
          try simp only [Act.put, List.getElem_toArray, List.getElem_cons_succ, List.getElem_cons_zero, List.setIfInBounds_toArray, List.set_cons_zero, List.set_cons_succ]
          refine wpAnyH_take (i := 7) rfl (by kernel_rfl) (by kernel_rfl) (by kernel_rfl) (fun _ _ _ h => h) (yieldsIf_load_mid (by rfl) _ _ rfl _ _ rfl _ _ (fun W hW => whole_range hW.ki.ha LA.out) Try.underlying27 rfl (sz16 a LA.out)) H0.out ?_
          try simp only [Act.put, List.getElem_toArray, List.getElem_cons_succ, List.getElem_cons_zero, List.setIfInBounds_toArray, List.set_cons_zero, List.set_cons_succ]
          refine wpAnyH_take (i := 8) rfl (by kernel_rfl) (by kernel_rfl) (by kernel_rfl) (fun _ _ _ h => h) (yieldsIf_load_mid (by rfl) _ _ rfl _ _ rfl _ _ (fun W hW => whole_range hW.ki.hb LB.out) Try.underlying27 rfl (sz16 b LB.out)) H0.out ?_
          try simp only [Act.put, List.getElem_toArray, List.getElem_cons_succ, List.getElem_cons_zero, List.setIfInBounds_toArray, List.set_cons_zero, List.set_cons_succ]
          refine wpAnyH_take (i := 9) (v := .bool (decide (a = b))) rfl (by kernel_rfl) (by kernel_rfl) (by kernel_rfl) (fun _ _ _ h => h) (Or.inl ⟨by rfl, fun W hW => by clear hW; go_simp⟩) H0.out ?_
          try simp only [Act.put, List.getElem_toArray, List.getElem_cons_succ, List.getElem_cons_zero, List.setIfInBounds_toArray, List.set_cons_zero, List.set_cons_succ]
          refine wpAnyH_take (i := 10) (v := .bool false) rfl (by kernel_rfl) (by kernel_rfl) (by kernel_rfl) (fun _ _ _ h => h) (Or.inl ⟨by rfl, fun W hW => by clear hW; go_simp; exact QI.out⟩) H0.out ?_
          try simp only [Act.put, List.getElem_toArray, List.getElem_cons_succ, List.getElem_cons_zero, List.setIfInBounds_toArray, List.set_cons_zero, List.set_cons_succ]
          refine wpAnyH_done (by kernel_rfl) ?_ _
          clear Q1 Q2
          go_wp2
          go_roundw
          case rel => exact ⟨k + 1, by omega, by go_num, H0.out⟩
          case measure => simp [intOf]; omega
        · go_wp2
          go_ret
          exact ⟨rfl, HV.out.ki.hw⟩
    have H0 := Lib.hid J2.out.drew
    have Z35 := zero35
    clear J2
    refine wp_region_held_drew (S := fun W => KI w a b W) (by kernel_rfl) H0.out (fun _ => ?_)
    generalize W2.drew = V0 at *
    refine wpAnyH_take (i := 0) rfl (by kernel_rfl) (by kernel_rfl) (by kernel_rfl) (fun _ _ _ h => h) (yieldsIf_load_mid (by rfl) _ _ rfl _ _ rfl _ _ (fun W hW => whole_range hW.ha LA.out) Try.underlying27 rfl (sz16 a LA.out)) H0.out ?_
    try simp only [Act.put, List.getElem_toArray, List.getElem_cons_succ, List.getElem_cons_zero, List.setIfInBounds_toArray, List.set_cons_zero, List.set_cons_succ]
    refine wpAnyH_take (i := 3) rfl (by kernel_rfl) (by kernel_rfl) (by kernel_rfl) (fun _ _ _ h => h) (yieldsIf_load_mid (by rfl) _ _ rfl _ _ rfl _ _ (fun W hW => whole_range hW.hb LB.out) Try.underlying27 rfl (sz16 b LB.out)) H0.out ?_
    try simp only [Act.put, List.getElem_toArray, List.getElem_cons_succ, List.getElem_cons_zero, List.setIfInBounds_toArray, List.set_cons_zero, List.set_cons_succ]
    refine wpAnyH_ready (rs := [1, 6, 7]) (by kernel_rfl) (by simp) ?_
    refine AllReadyH.cons rfl (fun K hK => ?_) ?_
    next =>
      go_simp
      go_at_call 15
      refine (NA.out _).mono ?_
      rintro e V1 ⟨g1, rfl, hg_1, hc_1, hb_1⟩
      have J1 := Lib.hid (H0.out.call hb_1)
      have C1 := Lib.hid hc_1
      clear hg_1 hc_1 hb_1
      refine hK.out _ _ J1.out (fun _ => ?_)
      clear hK K
      try simp only [Act.put, List.getElem_toArray, List.getElem_cons_succ, List.getElem_cons_zero, List.setIfInBounds_toArray, List.set_cons_zero, List.set_cons_succ]
      refine wpAnyH_ready (rs := [2, 6, 7]) (by kernel_rfl) (by simp) ?_
      refine AllReadyH.cons rfl (fun K hK => ?_) ?_
      next =>
        go_simp
        go_at_call 16
        refine (RA.out _ _ C1.out).mono ?_
        rintro e V2 ⟨rfl, hb_2⟩
        have J2 := Lib.hid (J1.out.call hb_2)
        clear hb_2
        refine hK.out _ _ J2.out (fun _ => ?_)
        clear hK K
        try simp only [Act.put, List.getElem_toArray, List.getElem_cons_succ, List.getElem_cons_zero, List.setIfInBounds_toArray, List.set_cons_zero, List.set_cons_succ]
        refine wpAnyH_ready (rs := [4, 6, 7]) (by kernel_rfl) (by simp) ?_
        refine AllReadyH.cons rfl (fun K hK => ?_) ?_
        next =>
          go_simp
          go_at_call 15
          refine (NB.out _).mono ?_
          rintro e V3 ⟨g2, rfl, hg_3, hc_3, hb_3⟩
          have J3 := Lib.hid (J2.out.call hb_3)
          have C3 := Lib.hid hc_3
          clear hg_3 hc_3 hb_3
          refine hK.out _ _ J3.out (fun _ => ?_)
          clear hK K
          try simp only [Act.put, List.getElem_toArray, List.getElem_cons_succ, List.getElem_cons_zero, List.setIfInBounds_toArray, List.set_cons_zero, List.set_cons_succ]
          refine wpAnyH_ready (rs := [5, 6, 7]) (by kernel_rfl) (by simp) ?_
          refine AllReadyH.cons rfl (fun K hK => ?_) ?_
          next =>
            go_simp
            go_at_call 16
            refine (RB.out _ _ C3.out).mono ?_
            rintro e V4 ⟨rfl, hb_4⟩
            have J4 := Lib.hid (J3.out.call hb_4)
            clear hb_4
            refine hK.out _ _ J4.out (fun _ => ?_)
            clear hK K
            try simp only [Act.put, List.getElem_toArray, List.getElem_cons_succ, List.getElem_cons_zero, List.setIfInBounds_toArray, List.set_cons_zero, List.set_cons_succ]
            refine wpAnyH_ready (rs := [6, 7]) (by kernel_rfl) (by simp) ?_
            refine AllReadyH.cons rfl (fun K hK => ?_) ?_
            next =>
              go_simp
              have hb_5 := below_all V4 (.cells (arrV (noughts 176)) 35)
              have hn_5 := Blk.new V4 35 (noughts 176)
              have hge_5 : w.heap.size + 1 < V4.heap.size := J4.out.hb.lt
              obtain ⟨V5, hV_5⟩ : ∃ V, V4.alloc (.cells (arrV (noughts 176)) 35) = V := ⟨_, rfl⟩
              rw [hV_5] at hb_5 hn_5 ⊢
              have J5 := Lib.hid (J4.out.call hb_5)
              have P5_5 := Lib.hid hn_5
              clear hV_5 hb_5 hn_5
              refine hK.out _ _ J5.out (fun _ => ?_)
              clear hK K
              try simp only [Act.put, List.getElem_toArray, List.getElem_cons_succ, List.getElem_cons_zero, List.setIfInBounds_toArray, List.set_cons_zero, List.set_cons_succ]
              refine wpAnyH_ready (rs := [7]) (by kernel_rfl) (by simp) ?_
              refine AllReadyH.cons rfl (fun K hK => ?_) ?_
              next =>
                go_simp
                have hb_6 := below_all V5 (.cells (arrV (noughts 176)) 35)
                have hn_6 := Blk.new V5 35 (noughts 176)
                have hpq : V4.heap.size ≠ V5.heap.size := Nat.ne_of_lt P5_5.out.lt
                have hge_6 : w.heap.size + 1 < V5.heap.size := J5.out.hb.lt
                obtain ⟨V6, hV_6⟩ : ∃ V, V5.alloc (.cells (arrV (noughts 176)) 35) = V := ⟨_, rfl⟩
                rw [hV_6] at hb_6 hn_6 ⊢
                have J6 := Lib.hid (J5.out.call hb_6)
                have P5_6 := Lib.hid (P5_5.out.below hb_6 P5_5.out.lt)
                have P6_6 := Lib.hid hn_6
                clear hV_6 hb_6 hn_6
                refine hK.out _ _ J6.out (fun _ => ?_)
                clear hK K
                try simp only [Act.put, List.getElem_toArray, List.getElem_cons_succ, List.getElem_cons_zero, List.setIfInBounds_toArray, List.set_cons_zero, List.set_cons_succ]
                refine wpAnyH_ready (rs := [8]) (by kernel_rfl) (by simp) ?_
                refine AllReadyH.cons rfl (fun K hK => ?_) AllReadyH.nil
                rw [if_pos (by rfl)]
                refine wp_store_mid _ _ _ rfl _ _ (List.toArray _) rfl rfl (there176 P5_6.out (noughts_length 176) LX.out.1) (sz176 _ LX.out.1) (all_oneCell_toArray (vals_one _)) ?_
                try simp only [List.toList_toArray]
                have hs1 := Lib.hid (P5_6.out.storeAll (ys := X) (by rw [LX.out.1, noughts_length]))
                have hs2 := Lib.hid (P6_6.out.farCells (Ne.symm hpq) (vals X) 0)
                have hs3 := Lib.hid (KI.mk (J6.out.ha.farCells (b := V4.heap.size) (by omega) (vals X) 0) (J6.out.hb.farCells (b := V4.heap.size) (by omega) (vals X) 0) (below_setCells (g := V4.heap.size) J6.out.hw (by omega) (vals X) 0))
                refine hK.out _ _ hs3.out (fun _ => ?_)
                clear hK K
                try simp only [Act.put, List.getElem_toArray, List.getElem_cons_succ, List.getElem_cons_zero, List.setIfInBounds_toArray, List.set_cons_zero, List.set_cons_succ]
                refine wpAnyH_ready (rs := [9]) (by kernel_rfl) (by simp) ?_
                refine AllReadyH.cons rfl (fun K hK => ?_) AllReadyH.nil
                rw [if_pos (by rfl)]
                refine wp_store_mid _ _ _ rfl _ _ (List.toArray _) rfl rfl (there176 hs2.out (noughts_length 176) LY.out.1) (sz176 _ LY.out.1) (all_oneCell_toArray (vals_one _)) ?_
                try simp only [List.toList_toArray]
                have ht2 := Lib.hid (hs2.out.storeAll (ys := Y) (by rw [LY.out.1, noughts_length]))
                have ht1 := Lib.hid (hs1.out.farCells hpq (vals Y) 0)
                have ht3 := Lib.hid (KI.mk (hs3.out.ha.farCells (b := V5.heap.size) (by omega) (vals Y) 0) (hs3.out.hb.farCells (b := V5.heap.size) (by omega) (vals Y) 0) (below_setCells (g := V5.heap.size) hs3.out.hw (by omega) (vals Y) 0))
                refine hK.out _ _ ht3.out (fun _ => ?_)
                clear hK K
                try simp only [Act.put, List.getElem_toArray, List.getElem_cons_succ, List.getElem_cons_zero, List.setIfInBounds_toArray, List.set_cons_zero, List.set_cons_succ]
                refine wpAnyH_done (by kernel_rfl) ?_ _
                exact rest _ _ _ _ _ ⟨ht3.out, ht1.out, ht2.out⟩
              exact AllReadyH.nil
            refine AllReadyH.cons rfl (fun K hK => ?_) ?_
            next =>
              go_simp
              have hb_8 := below_all V4 (.cells (arrV (noughts 176)) 35)
              have hn_8 := Blk.new V4 35 (noughts 176)
              have hge_8 : w.heap.size + 1 < V4.heap.size := J4.out.hb.lt
              obtain ⟨V8, hV_8⟩ : ∃ V, V4.alloc (.cells (arrV (noughts 176)) 35) = V := ⟨_, rfl⟩
              rw [hV_8] at hb_8 hn_8 ⊢
              have J8 := Lib.hid (J4.out.call hb_8)
              have P6_8 := Lib.hid hn_8
              clear hV_8 hb_8 hn_8
              refine hK.out _ _ J8.out (fun _ => ?_)
              clear hK K
              try simp only [Act.put, List.getElem_toArray, List.getElem_cons_succ, List.getElem_cons_zero, List.setIfInBounds_toArray, List.set_cons_zero, List.set_cons_succ]
              refine wpAnyH_ready (rs := [6]) (by kernel_rfl) (by simp) ?_
              refine AllReadyH.cons rfl (fun K hK => ?_) ?_
              next =>
                go_simp
                have hb_9 := below_all V8 (.cells (arrV (noughts 176)) 35)
                have hn_9 := Blk.new V8 35 (noughts 176)
                have hpq : V8.heap.size ≠ V4.heap.size := Nat.ne_of_gt P6_8.out.lt
                have hge_9 : w.heap.size + 1 < V8.heap.size := J8.out.hb.lt
                obtain ⟨V9, hV_9⟩ : ∃ V, V8.alloc (.cells (arrV (noughts 176)) 35) = V := ⟨_, rfl⟩
                rw [hV_9] at hb_9 hn_9 ⊢
                have J9 := Lib.hid (J8.out.call hb_9)
                have P6_9 := Lib.hid (P6_8.out.below hb_9 P6_8.out.lt)
                have P5_9 := Lib.hid hn_9
                clear hV_9 hb_9 hn_9
                refine hK.out _ _ J9.out (fun _ => ?_)
                clear hK K
                try simp only [Act.put, List.getElem_toArray, List.getElem_cons_succ, List.getElem_cons_zero, List.setIfInBounds_toArray, List.set_cons_zero, List.set_cons_succ]
                refine wpAnyH_ready (rs := [8]) (by kernel_rfl) (by simp) ?_
                refine AllReadyH.cons rfl (fun K hK => ?_) AllReadyH.nil
                rw [if_pos (by rfl)]
                refine wp_store_mid _ _ _ rfl _ _ (List.toArray _) rfl rfl (there176 P5_9.out (noughts_length 176) LX.out.1) (sz176 _ LX.out.1) (all_oneCell_toArray (vals_one _)) ?_
                try simp only [List.toList_toArray]
                have hs1 := Lib.hid (P5_9.out.storeAll (ys := X) (by rw [LX.out.1, noughts_length]))
                have hs2 := Lib.hid (P6_9.out.farCells (Ne.symm hpq) (vals X) 0)
                have hs3 := Lib.hid (KI.mk (J9.out.ha.farCells (b := V8.heap.size) (by omega) (vals X) 0) (J9.out.hb.farCells (b := V8.heap.size) (by omega) (vals X) 0) (below_setCells (g := V8.heap.size) J9.out.hw (by omega) (vals X) 0))
                refine hK.out _ _ hs3.out (fun _ => ?_)
                clear hK K
                try simp only [Act.put, List.getElem_toArray, List.getElem_cons_succ, List.getElem_cons_zero, List.setIfInBounds_toArray, List.set_cons_zero, List.set_cons_succ]
                refine wpAnyH_ready (rs := [9]) (by kernel_rfl) (by simp) ?_
                refine AllReadyH.cons rfl (fun K hK => ?_) AllReadyH.nil
                rw [if_pos (by rfl)]
                refine wp_store_mid _ _ _ rfl _ _ (List.toArray _) rfl rfl (there176 hs2.out (noughts_length 176) LY.out.1) (sz176 _ LY.out.1) (all_oneCell_toArray (vals_one _)) ?_
                try simp only [List.toList_toArray]
                have ht2 := Lib.hid (hs2.out.storeAll (ys := Y) (by rw [LY.out.1, noughts_length]))
                have ht1 := Lib.hid (hs1.out.farCells hpq (vals Y) 0)
                have ht3 := Lib.hid (KI.mk (hs3.out.ha.farCells (b := V4.heap.size) (by omega) (vals Y) 0) (hs3.out.hb.farCells (b := V4.heap.size) (by omega) (vals Y) 0) (below_setCells (g := V4.heap.size) hs3.out.hw (by omega) (vals Y) 0))
                refine hK.out _ _ ht3.out (fun _ => ?_)
                clear hK K
                try simp only [Act.put, List.getElem_toArray, List.getElem_cons_succ, List.getElem_cons_zero, List.setIfInBounds_toArray, List.set_cons_zero, List.set_cons_succ]
                refine wpAnyH_done (by kernel_rfl) ?_ _
                exact rest _ _ _ _ _ ⟨ht3.out, ht1.out, ht2.out⟩
              exact AllReadyH.nil
            exact AllReadyH.nil
          refine AllReadyH.cons rfl (fun K hK => ?_) ?_
          next =>
            go_simp
            have hb_11 := below_all V3 (.cells (arrV (noughts 176)) 35)
            have hn_11 := Blk.new V3 35 (noughts 176)
            have hge_11 : w.heap.size + 1 < V3.heap.size := J3.out.hb.lt
            obtain ⟨V11, hV_11⟩ : ∃ V, V3.alloc (.cells (arrV (noughts 176)) 35) = V := ⟨_, rfl⟩
            rw [hV_11] at hb_11 hn_11 ⊢
            have J11 := Lib.hid (J3.out.call hb_11)
            have C11 := Lib.hid (C3.out.below hb_11 C3.out.lt)
            have P5_11 := Lib.hid hn_11
            clear hV_11 hb_11 hn_11
            refine hK.out _ _ J11.out (fun _ => ?_)
            clear hK K
            try simp only [Act.put, List.getElem_toArray, List.getElem_cons_succ, List.getElem_cons_zero, List.setIfInBounds_toArray, List.set_cons_zero, List.set_cons_succ]
            refine wpAnyH_ready (rs := [5, 7]) (by kernel_rfl) (by simp) ?_
            refine AllReadyH.cons rfl (fun K hK => ?_) ?_
            next =>
              go_simp
              go_at_call 16
              refine (RB.out _ _ C11.out).mono ?_
              rintro e V12 ⟨rfl, hb_12⟩
              have J12 := Lib.hid (J11.out.call hb_12)
              have P5_12 := Lib.hid (P5_11.out.below hb_12 P5_11.out.lt)
              clear hb_12
              refine hK.out _ _ J12.out (fun _ => ?_)
              clear hK K
              try simp only [Act.put, List.getElem_toArray, List.getElem_cons_succ, List.getElem_cons_zero, List.setIfInBounds_toArray, List.set_cons_zero, List.set_cons_succ]
              refine wpAnyH_ready (rs := [7]) (by kernel_rfl) (by simp) ?_
              refine AllReadyH.cons rfl (fun K hK => ?_) ?_
              next =>
                go_simp
                have hb_13 := below_all V12 (.cells (arrV (noughts 176)) 35)
                have hn_13 := Blk.new V12 35 (noughts 176)
                have hpq : V3.heap.size ≠ V12.heap.size := Nat.ne_of_lt P5_12.out.lt
                have hge_13 : w.heap.size + 1 < V12.heap.size := J12.out.hb.lt
                obtain ⟨V13, hV_13⟩ : ∃ V, V12.alloc (.cells (arrV (noughts 176)) 35) = V := ⟨_, rfl⟩
                rw [hV_13] at hb_13 hn_13 ⊢
                have J13 := Lib.hid (J12.out.call hb_13)
                have P5_13 := Lib.hid (P5_12.out.below hb_13 P5_12.out.lt)
                have P6_13 := Lib.hid hn_13
                clear hV_13 hb_13 hn_13
                refine hK.out _ _ J13.out (fun _ => ?_)
                clear hK K
                try simp only [Act.put, List.getElem_toArray, List.getElem_cons_succ, List.getElem_cons_zero, List.setIfInBounds_toArray, List.set_cons_zero, List.set_cons_succ]
                refine wpAnyH_ready (rs := [8]) (by kernel_rfl) (by simp) ?_
                refine AllReadyH.cons rfl (fun K hK => ?_) AllReadyH.nil
                rw [if_pos (by rfl)]
                refine wp_store_mid _ _ _ rfl _ _ (List.toArray _) rfl rfl (there176 P5_13.out (noughts_length 176) LX.out.1) (sz176 _ LX.out.1) (all_oneCell_toArray (vals_one _)) ?_
                try simp only [List.toList_toArray]
                have hs1 := Lib.hid (P5_13.out.storeAll (ys := X) (by rw [LX.out.1, noughts_length]))
                have hs2 := Lib.hid (P6_13.out.farCells (Ne.symm hpq) (vals X) 0)
                have hs3 := Lib.hid (KI.mk (J13.out.ha.farCells (b := V3.heap.size) (by omega) (vals X) 0) (J13.out.hb.farCells (b := V3.heap.size) (by omega) (vals X) 0) (below_setCells (g := V3.heap.size) J13.out.hw (by omega) (vals X) 0))
                refine hK.out _ _ hs3.out (fun _ => ?_)
                clear hK K
                try simp only [Act.put, List.getElem_toArray, List.getElem_cons_succ, List.getElem_cons_zero, List.setIfInBounds_toArray, List.set_cons_zero, List.set_cons_succ]
                refine wpAnyH_ready (rs := [9]) (by kernel_rfl) (by simp) ?_
                refine AllReadyH.cons rfl (fun K hK => ?_) AllReadyH.nil
                rw [if_pos (by rfl)]
                refine wp_store_mid _ _ _ rfl _ _ (List.toArray _) rfl rfl (there176 hs2.out (noughts_length 176) LY.out.1) (sz176 _ LY.out.1) (all_oneCell_toArray (vals_one _)) ?_
                try simp only [List.toList_toArray]
                have ht2 := Lib.hid (hs2.out.storeAll (ys := Y) (by rw [LY.out.1, noughts_length]))
                have ht1 := Lib.hid (hs1.out.farCells hpq (vals Y) 0)
                have ht3 := Lib.hid (KI.mk (hs3.out.ha.farCells (b := V12.heap.size) (by omega) (vals Y) 0) (hs3.out.hb.farCells (b := V12.heap.size) (by omega) (vals Y) 0) (below_setCells (g := V12.heap.size) hs3.out.hw (by omega) (vals Y) 0))
                refine hK.out _ _ ht3.out (fun _ => ?_)
                clear hK K
                try simp only [Act.put, List.getElem_toArray, List.getElem_cons_succ, List.getElem_cons_zero, List.setIfInBounds_toArray, List.set_cons_zero, List.set_cons_succ]
                refine wpAnyH_done (by kernel_rfl) ?_ _
                exact rest _ _ _ _ _ ⟨ht3.out, ht1.out, ht2.out⟩
              exact AllReadyH.nil
            refine AllReadyH.cons rfl (fun K hK => ?_) ?_
            next =>
              go_simp
              have hb_15 := below_all V11 (.cells (arrV (noughts 176)) 35)
              have hn_15 := Blk.new V11 35 (noughts 176)
              have hpq : V3.heap.size ≠ V11.heap.size := Nat.ne_of_lt P5_11.out.lt
              have hge_15 : w.heap.size + 1 < V11.heap.size := J11.out.hb.lt
              obtain ⟨V15, hV_15⟩ : ∃ V, V11.alloc (.cells (arrV (noughts 176)) 35) = V := ⟨_, rfl⟩
              rw [hV_15] at hb_15 hn_15 ⊢
              have J15 := Lib.hid (J11.out.call hb_15)
              have P5_15 := Lib.hid (P5_11.out.below hb_15 P5_11.out.lt)
              have C15 := Lib.hid (C11.out.below hb_15 C11.out.lt)
              have P6_15 := Lib.hid hn_15
              clear hV_15 hb_15 hn_15
              refine hK.out _ _ J15.out (fun _ => ?_)
              clear hK K
              try simp only [Act.put, List.getElem_toArray, List.getElem_cons_succ, List.getElem_cons_zero, List.setIfInBounds_toArray, List.set_cons_zero, List.set_cons_succ]
              refine wpAnyH_ready (rs := [5]) (by kernel_rfl) (by simp) ?_
              refine AllReadyH.cons rfl (fun K hK => ?_) ?_
              next =>
                go_simp
                go_at_call 16
                refine (RB.out _ _ C15.out).mono ?_
                rintro e V16 ⟨rfl, hb_16⟩
                have J16 := Lib.hid (J15.out.call hb_16)
                have P5_16 := Lib.hid (P5_15.out.below hb_16 P5_15.out.lt)
                have P6_16 := Lib.hid (P6_15.out.below hb_16 P6_15.out.lt)
                clear hb_16
                refine hK.out _ _ J16.out (fun _ => ?_)
                clear hK K
                try simp only [Act.put, List.getElem_toArray, List.getElem_cons_succ, List.getElem_cons_zero, List.setIfInBounds_toArray, List.set_cons_zero, List.set_cons_succ]
                refine wpAnyH_ready (rs := [8]) (by kernel_rfl) (by simp) ?_
                refine AllReadyH.cons rfl (fun K hK => ?_) AllReadyH.nil
                rw [if_pos (by rfl)]
                refine wp_store_mid _ _ _ rfl _ _ (List.toArray _) rfl rfl (there176 P5_16.out (noughts_length 176) LX.out.1) (sz176 _ LX.out.1) (all_oneCell_toArray (vals_one _)) ?_
                try simp only [List.toList_toArray]
                have hs1 := Lib.hid (P5_16.out.storeAll (ys := X) (by rw [LX.out.1, noughts_length]))
                have hs2 := Lib.hid (P6_16.out.farCells (Ne.symm hpq) (vals X) 0)
                have hs3 := Lib.hid (KI.mk (J16.out.ha.farCells (b := V3.heap.size) (by omega) (vals X) 0) (J16.out.hb.farCells (b := V3.heap.size) (by omega) (vals X) 0) (below_setCells (g := V3.heap.size) J16.out.hw (by omega) (vals X) 0))
                refine hK.out _ _ hs3.out (fun _ => ?_)
                clear hK K
                try simp only [Act.put, List.getElem_toArray, List.getElem_cons_succ, List.getElem_cons_zero, List.setIfInBounds_toArray, List.set_cons_zero, List.set_cons_succ]
                refine wpAnyH_ready (rs := [9]) (by kernel_rfl) (by simp) ?_
                refine AllReadyH.cons rfl (fun K hK => ?_) AllReadyH.nil
                rw [if_pos (by rfl)]
                refine wp_store_mid _ _ _ rfl _ _ (List.toArray _) rfl rfl (there176 hs2.out (noughts_length 176) LY.out.1) (sz176 _ LY.out.1) (all_oneCell_toArray (vals_one _)) ?_
                try simp only [List.toList_toArray]
                have ht2 := Lib.hid (hs2.out.storeAll (ys := Y) (by rw [LY.out.1, noughts_length]))
                have ht1 := Lib.hid (hs1.out.farCells hpq (vals Y) 0)
                have ht3 := Lib.hid (KI.mk (hs3.out.ha.farCells (b := V11.heap.size) (by omega) (vals Y) 0) (hs3.out.hb.farCells (b := V11.heap.size) (by omega) (vals Y) 0) (below_setCells (g := V11.heap.size) hs3.out.hw (by omega) (vals Y) 0))
                refine hK.out _ _ ht3.out (fun _ => ?_)
                clear hK K
                try simp only [Act.put, List.getElem_toArray, List.getElem_cons_succ, List.getElem_cons_zero, List.setIfInBounds_toArray, List.set_cons_zero, List.set_cons_succ]
                refine wpAnyH_done (by kernel_rfl) ?_ _
                exact rest _ _ _ _ _ ⟨ht3.out, ht1.out, ht2.out⟩
              exact AllReadyH.nil
            exact AllReadyH.nil
          refine AllReadyH.cons rfl (fun K hK => ?_) ?_
          next =>
            go_simp
            have hb_18 := below_all V3 (.cells (arrV (noughts 176)) 35)
            have hn_18 := Blk.new V3 35 (noughts 176)
            have hge_18 : w.heap.size + 1 < V3.heap.size := J3.out.hb.lt
            obtain ⟨V18, hV_18⟩ : ∃ V, V3.alloc (.cells (arrV (noughts 176)) 35) = V := ⟨_, rfl⟩
            rw [hV_18] at hb_18 hn_18 ⊢
            have J18 := Lib.hid (J3.out.call hb_18)
            have C18 := Lib.hid (C3.out.below hb_18 C3.out.lt)
            have P6_18 := Lib.hid hn_18
            clear hV_18 hb_18 hn_18
            refine hK.out _ _ J18.out (fun _ => ?_)
            clear hK K
            try simp only [Act.put, List.getElem_toArray, List.getElem_cons_succ, List.getElem_cons_zero, List.setIfInBounds_toArray, List.set_cons_zero, List.set_cons_succ]
            refine wpAnyH_ready (rs := [5, 6]) (by kernel_rfl) (by simp) ?_
            refine AllReadyH.cons rfl (fun K hK => ?_) ?_
            next =>
              go_simp
              go_at_call 16
              refine (RB.out _ _ C18.out).mono ?_
              rintro e V19 ⟨rfl, hb_19⟩
              have J19 := Lib.hid (J18.out.call hb_19)
              have P6_19 := Lib.hid (P6_18.out.below hb_19 P6_18.out.lt)
              clear hb_19
              refine hK.out _ _ J19.out (fun _ => ?_)
              clear hK K
              try simp only [Act.put, List.getElem_toArray, List.getElem_cons_succ, List.getElem_cons_zero, List.setIfInBounds_toArray, List.set_cons_zero, List.set_cons_succ]
              refine wpAnyH_ready (rs := [6]) (by kernel_rfl) (by simp) ?_
              refine AllReadyH.cons rfl (fun K hK => ?_) ?_
              next =>
                go_simp
                have hb_20 := below_all V19 (.cells (arrV (noughts 176)) 35)
                have hn_20 := Blk.new V19 35 (noughts 176)
                have hpq : V19.heap.size ≠ V3.heap.size := Nat.ne_of_gt P6_19.out.lt
                have hge_20 : w.heap.size + 1 < V19.heap.size := J19.out.hb.lt
                obtain ⟨V20, hV_20⟩ : ∃ V, V19.alloc (.cells (arrV (noughts 176)) 35) = V := ⟨_, rfl⟩
                rw [hV_20] at hb_20 hn_20 ⊢
                have J20 := Lib.hid (J19.out.call hb_20)
                have P6_20 := Lib.hid (P6_19.out.below hb_20 P6_19.out.lt)
                have P5_20 := Lib.hid hn_20
                clear hV_20 hb_20 hn_20
                refine hK.out _ _ J20.out (fun _ => ?_)
                clear hK K
                try simp only [Act.put, List.getElem_toArray, List.getElem_cons_succ, List.getElem_cons_zero, List.setIfInBounds_toArray, List.set_cons_zero, List.set_cons_succ]
                refine wpAnyH_ready (rs := [8]) (by kernel_rfl) (by simp) ?_
                refine AllReadyH.cons rfl (fun K hK => ?_) AllReadyH.nil
                rw [if_pos (by rfl)]
                refine wp_store_mid _ _ _ rfl _ _ (List.toArray _) rfl rfl (there176 P5_20.out (noughts_length 176) LX.out.1) (sz176 _ LX.out.1) (all_oneCell_toArray (vals_one _)) ?_
                try simp only [List.toList_toArray]
                have hs1 := Lib.hid (P5_20.out.storeAll (ys := X) (by rw [LX.out.1, noughts_length]))
                have hs2 := Lib.hid (P6_20.out.farCells (Ne.symm hpq) (vals X) 0)
                have hs3 := Lib.hid (KI.mk (J20.out.ha.farCells (b := V19.heap.size) (by omega) (vals X) 0) (J20.out.hb.farCells (b := V19.heap.size) (by omega) (vals X) 0) (below_setCells (g := V19.heap.size) J20.out.hw (by omega) (vals X) 0))
                refine hK.out _ _ hs3.out (fun _ => ?_)
                clear hK K
                try simp only [Act.put, List.getElem_toArray, List.getElem_cons_succ, List.getElem_cons_zero, List.setIfInBounds_toArray, List.set_cons_zero, List.set_cons_succ]
                refine wpAnyH_ready (rs := [9]) (by kernel_rfl) (by simp) ?_
                refine AllReadyH.cons rfl (fun K hK => ?_) AllReadyH.nil
                rw [if_pos (by rfl)]
                refine wp_store_mid _ _ _ rfl _ _ (List.toArray _) rfl rfl (there176 hs2.out (noughts_length 176) LY.out.1) (sz176 _ LY.out.1) (all_oneCell_toArray (vals_one _)) ?_
                try simp only [List.toList_toArray]
                have ht2 := Lib.hid (hs2.out.storeAll (ys := Y) (by rw [LY.out.1, noughts_length]))
                have ht1 := Lib.hid (hs1.out.farCells hpq (vals Y) 0)
                have ht3 := Lib.hid (KI.mk (hs3.out.ha.farCells (b := V3.heap.size) (by omega) (vals Y) 0) (hs3.out.hb.farCells (b := V3.heap.size) (by omega) (vals Y) 0) (below_setCells (g := V3.heap.size) hs3.out.hw (by omega) (vals Y) 0))
                refine hK.out _ _ ht3.out (fun _ => ?_)
                clear hK K
                try simp only [Act.put, List.getElem_toArray, List.getElem_cons_succ, List.getElem_cons_zero, List.setIfInBounds_toArray, List.set_cons_zero, List.set_cons_succ]
                refine wpAnyH_done (by kernel_rfl) ?_ _
                exact rest _ _ _ _ _ ⟨ht3.out, ht1.out, ht2.out⟩
              exact AllReadyH.nil
            refine AllReadyH.cons rfl (fun K hK => ?_) ?_
            next =>
              go_simp
              have hb_22 := below_all V18 (.cells (arrV (noughts 176)) 35)
              have hn_22 := Blk.new V18 35 (noughts 176)
              have hpq : V18.heap.size ≠ V3.heap.size := Nat.ne_of_gt P6_18.out.lt
              have hge_22 : w.heap.size + 1 < V18.heap.size := J18.out.hb.lt
              obtain ⟨V22, hV_22⟩ : ∃ V, V18.alloc (.cells (arrV (noughts 176)) 35) = V := ⟨_, rfl⟩
              rw [hV_22] at hb_22 hn_22 ⊢
              have J22 := Lib.hid (J18.out.call hb_22)
              have P6_22 := Lib.hid (P6_18.out.below hb_22 P6_18.out.lt)
              have C22 := Lib.hid (C18.out.below hb_22 C18.out.lt)
              have P5_22 := Lib.hid hn_22
              clear hV_22 hb_22 hn_22
              refine hK.out _ _ J22.out (fun _ => ?_)
              clear hK K
              try simp only [Act.put, List.getElem_toArray, List.getElem_cons_succ, List.getElem_cons_zero, List.setIfInBounds_toArray, List.set_cons_zero, List.set_cons_succ]
              refine wpAnyH_ready (rs := [5]) (by kernel_rfl) (by simp) ?_
              refine AllReadyH.cons rfl (fun K hK => ?_) ?_
              next =>
                go_simp
                go_at_call 16
                refine (RB.out _ _ C22.out).mono ?_
                rintro e V23 ⟨rfl, hb_23⟩
                have J23 := Lib.hid (J22.out.call hb_23)
                have P5_23 := Lib.hid (P5_22.out.below hb_23 P5_22.out.lt)
                have P6_23 := Lib.hid (P6_22.out.below hb_23 P6_22.out.lt)
                clear hb_23
                refine hK.out _ _ J23.out (fun _ => ?_)
                clear hK K
                try simp only [Act.put, List.getElem_toArray, List.getElem_cons_succ, List.getElem_cons_zero, List.setIfInBounds_toArray, List.set_cons_zero, List.set_cons_succ]
                refine wpAnyH_ready (rs := [8]) (by kernel_rfl) (by simp) ?_
                refine AllReadyH.cons rfl (fun K hK => ?_) AllReadyH.nil
                rw [if_pos (by rfl)]
                refine wp_store_mid _ _ _ rfl _ _ (List.toArray _) rfl rfl (there176 P5_23.out (noughts_length 176) LX.out.1) (sz176 _ LX.out.1) (all_oneCell_toArray (vals_one _)) ?_
                try simp only [List.toList_toArray]
                have hs1 := Lib.hid (P5_23.out.storeAll (ys := X) (by rw [LX.out.1, noughts_length]))
                have hs2 := Lib.hid (P6_23.out.farCells (Ne.symm hpq) (vals X) 0)
                have hs3 := Lib.hid (KI.mk (J23.out.ha.farCells (b := V18.heap.size) (by omega) (vals X) 0) (J23.out.hb.farCells (b := V18.heap.size) (by omega) (vals X) 0) (below_setCells (g := V18.heap.size) J23.out.hw (by omega) (vals X) 0))
                refine hK.out _ _ hs3.out (fun _ => ?_)
                clear hK K
                try simp only [Act.put, List.getElem_toArray, List.getElem_cons_succ, List.getElem_cons_zero, List.setIfInBounds_toArray, List.set_cons_zero, List.set_cons_succ]
                refine wpAnyH_ready (rs := [9]) (by kernel_rfl) (by simp) ?_
                refine AllReadyH.cons rfl (fun K hK => ?_) AllReadyH.nil
                rw [if_pos (by rfl)]
                refine wp_store_mid _ _ _ rfl _ _ (List.toArray _) rfl rfl (there176 hs2.out (noughts_length 176) LY.out.1) (sz176 _ LY.out.1) (all_oneCell_toArray (vals_one _)) ?_
                try simp only [List.toList_toArray]
                have ht2 := Lib.hid (hs2.out.storeAll (ys := Y) (by rw [LY.out.1, noughts_length]))
                have ht1 := Lib.hid (hs1.out.farCells hpq (vals Y) 0)
                have ht3 := Lib.hid (KI.mk (hs3.out.ha.farCells (b := V3.heap.size) (by omega) (vals Y) 0) (hs3.out.hb.farCells (b := V3.heap.size) (by omega) (vals Y) 0) (below_setCells (g := V3.heap.size) hs3.out.hw (by omega) (vals Y) 0))
                refine hK.out _ _ ht3.out (fun _ => ?_)
                clear hK K
                try simp only [Act.put, List.getElem_toArray, List.getElem_cons_succ, List.getElem_cons_zero, List.setIfInBounds_toArray, List.set_cons_zero, List.set_cons_succ]
                refine wpAnyH_done (by kernel_rfl) ?_ _
                exact rest _ _ _ _ _ ⟨ht3.out, ht1.out, ht2.out⟩
              exact AllReadyH.nil
            exact AllReadyH.nil
          exact AllReadyH.nil
        refine AllReadyH.cons rfl (fun K hK => ?_) ?_
        next =>
          go_simp
          have hb_25 := below_all V2 (.cells (arrV (noughts 176)) 35)
          have hn_25 := Blk.new V2 35 (noughts 176)
          have hge_25 : w.heap.size + 1 < V2.heap.size := J2.out.hb.lt
          obtain ⟨V25, hV_25⟩ : ∃ V, V2.alloc (.cells (arrV (noughts 176)) 35) = V := ⟨_, rfl⟩
          rw [hV_25] at hb_25 hn_25 ⊢
          have J25 := Lib.hid (J2.out.call hb_25)
          have P5_25 := Lib.hid hn_25
          clear hV_25 hb_25 hn_25
          refine hK.out _ _ J25.out (fun _ => ?_)
          clear hK K
          try simp only [Act.put, List.getElem_toArray, List.getElem_cons_succ, List.getElem_cons_zero, List.setIfInBounds_toArray, List.set_cons_zero, List.set_cons_succ]
          refine wpAnyH_ready (rs := [4, 7]) (by kernel_rfl) (by simp) ?_
          refine AllReadyH.cons rfl (fun K hK => ?_) ?_
          next =>
            go_simp
            go_at_call 15
            refine (NB.out _).mono ?_
            rintro e V26 ⟨g2, rfl, hg_26, hc_26, hb_26⟩
            have J26 := Lib.hid (J25.out.call hb_26)
            have P5_26 := Lib.hid (P5_25.out.below hb_26 P5_25.out.lt)
            have C26 := Lib.hid hc_26
            clear hg_26 hc_26 hb_26
            refine hK.out _ _ J26.out (fun _ => ?_)
            clear hK K
            try simp only [Act.put, List.getElem_toArray, List.getElem_cons_succ, List.getElem_cons_zero, List.setIfInBounds_toArray, List.set_cons_zero, List.set_cons_succ]
            refine wpAnyH_ready (rs := [5, 7]) (by kernel_rfl) (by simp) ?_
            refine AllReadyH.cons rfl (fun K hK => ?_) ?_
            next =>
              go_simp
              go_at_call 16
              refine (RB.out _ _ C26.out).mono ?_
              rintro e V27 ⟨rfl, hb_27⟩
              have J27 := Lib.hid (J26.out.call hb_27)
              have P5_27 := Lib.hid (P5_26.out.below hb_27 P5_26.out.lt)
              clear hb_27
              refine hK.out _ _ J27.out (fun _ => ?_)
              clear hK K
              try simp only [Act.put, List.getElem_toArray, List.getElem_cons_succ, List.getElem_cons_zero, List.setIfInBounds_toArray, List.set_cons_zero, List.set_cons_succ]
              refine wpAnyH_ready (rs := [7]) (by kernel_rfl) (by simp) ?_
              refine AllReadyH.cons rfl (fun K hK => ?_) ?_
              next =>
                go_simp
                have hb_28 := below_all V27 (.cells (arrV (noughts 176)) 35)
                have hn_28 := Blk.new V27 35 (noughts 176)
                have hpq : V2.heap.size ≠ V27.heap.size := Nat.ne_of_lt P5_27.out.lt
                have hge_28 : w.heap.size + 1 < V27.heap.size := J27.out.hb.lt
                obtain ⟨V28, hV_28⟩ : ∃ V, V27.alloc (.cells (arrV (noughts 176)) 35) = V := ⟨_, rfl⟩
                rw [hV_28] at hb_28 hn_28 ⊢
                have J28 := Lib.hid (J27.out.call hb_28)
                have P5_28 := Lib.hid (P5_27.out.below hb_28 P5_27.out.lt)
                have P6_28 := Lib.hid hn_28
                clear hV_28 hb_28 hn_28
                refine hK.out _ _ J28.out (fun _ => ?_)
                clear hK K
                try simp only [Act.put, List.getElem_toArray, List.getElem_cons_succ, List.getElem_cons_zero, List.setIfInBounds_toArray, List.set_cons_zero, List.set_cons_succ]
                refine wpAnyH_ready (rs := [8]) (by kernel_rfl) (by simp) ?_
                refine AllReadyH.cons rfl (fun K hK => ?_) AllReadyH.nil
                rw [if_pos (by rfl)]
                refine wp_store_mid _ _ _ rfl _ _ (List.toArray _) rfl rfl (there176 P5_28.out (noughts_length 176) LX.out.1) (sz176 _ LX.out.1) (all_oneCell_toArray (vals_one _)) ?_
                try simp only [List.toList_toArray]
                have hs1 := Lib.hid (P5_28.out.storeAll (ys := X) (by rw [LX.out.1, noughts_length]))
                have hs2 := Lib.hid (P6_28.out.farCells (Ne.symm hpq) (vals X) 0)
                have hs3 := Lib.hid (KI.mk (J28.out.ha.farCells (b := V2.heap.size) (by omega) (vals X) 0) (J28.out.hb.farCells (b := V2.heap.size) (by omega) (vals X) 0) (below_setCells (g := V2.heap.size) J28.out.hw (by omega) (vals X) 0))
                refine hK.out _ _ hs3.out (fun _ => ?_)
                clear hK K
                try simp only [Act.put, List.getElem_toArray, List.getElem_cons_succ, List.getElem_cons_zero, List.setIfInBounds_toArray, List.set_cons_zero, List.set_cons_succ]
                refine wpAnyH_ready (rs := [9]) (by kernel_rfl) (by simp) ?_
                refine AllReadyH.cons rfl (fun K hK => ?_) AllReadyH.nil
                rw [if_pos (by rfl)]
                refine wp_store_mid _ _ _ rfl _ _ (List.toArray _) rfl rfl (there176 hs2.out (noughts_length 176) LY.out.1) (sz176 _ LY.out.1) (all_oneCell_toArray (vals_one _)) ?_
                try simp only [List.toList_toArray]
                have ht2 := Lib.hid (hs2.out.storeAll (ys := Y) (by rw [LY.out.1, noughts_length]))
                have ht1 := Lib.hid (hs1.out.farCells hpq (vals Y) 0)
                have ht3 := Lib.hid (KI.mk (hs3.out.ha.farCells (b := V27.heap.size) (by omega) (vals Y) 0) (hs3.out.hb.farCells (b := V27.heap.size) (by omega) (vals Y) 0) (below_setCells (g := V27.heap.size) hs3.out.hw (by omega) (vals Y) 0))
                refine hK.out _ _ ht3.out (fun _ => ?_)
                clear hK K
                try simp only [Act.put, List.getElem_toArray, List.getElem_cons_succ, List.getElem_cons_zero, List.setIfInBounds_toArray, List.set_cons_zero, List.set_cons_succ]
                refine wpAnyH_done (by kernel_rfl) ?_ _
                exact rest _ _ _ _ _ ⟨ht3.out, ht1.out, ht2.out⟩
              exact AllReadyH.nil
            refine AllReadyH.cons rfl (fun K hK => ?_) ?_
            next =>
              go_simp
              have hb_30 := below_all V26 (.cells (arrV (noughts 176)) 35)
              have hn_30 := Blk.new V26 35 (noughts 176)
              have hpq : V2.heap.size ≠ V26.heap.size := Nat.ne_of_lt P5_26.out.lt
              have hge_30 : w.heap.size + 1 < V26.heap.size := J26.out.hb.lt
              obtain ⟨V30, hV_30⟩ : ∃ V, V26.alloc (.cells (arrV (noughts 176)) 35) = V := ⟨_, rfl⟩
              rw [hV_30] at hb_30 hn_30 ⊢
              have J30 := Lib.hid (J26.out.call hb_30)
              have P5_30 := Lib.hid (P5_26.out.below hb_30 P5_26.out.lt)
              have C30 := Lib.hid (C26.out.below hb_30 C26.out.lt)
              have P6_30 := Lib.hid hn_30
              clear hV_30 hb_30 hn_30
              refine hK.out _ _ J30.out (fun _ => ?_)
              clear hK K
              try simp only [Act.put, List.getElem_toArray, List.getElem_cons_succ, List.getElem_cons_zero, List.setIfInBounds_toArray, List.set_cons_zero, List.set_cons_succ]
              refine wpAnyH_ready (rs := [5]) (by kernel_rfl) (by simp) ?_
              refine AllReadyH.cons rfl (fun K hK => ?_) ?_
              next =>
                go_simp
                go_at_call 16
                refine (RB.out _ _ C30.out).mono ?_
                rintro e V31 ⟨rfl, hb_31⟩
                have J31 := Lib.hid (J30.out.call hb_31)
                have P5_31 := Lib.hid (P5_30.out.below hb_31 P5_30.out.lt)
                have P6_31 := Lib.hid (P6_30.out.below hb_31 P6_30.out.lt)
                clear hb_31
                refine hK.out _ _ J31.out (fun _ => ?_)
                clear hK K
                try simp only [Act.put, List.getElem_toArray, List.getElem_cons_succ, List.getElem_cons_zero, List.setIfInBounds_toArray, List.set_cons_zero, List.set_cons_succ]
                refine wpAnyH_ready (rs := [8]) (by kernel_rfl) (by simp) ?_
                refine AllReadyH.cons rfl (fun K hK => ?_) AllReadyH.nil
                rw [if_pos (by rfl)]
                refine wp_store_mid _ _ _ rfl _ _ (List.toArray _) rfl rfl (there176 P5_31.out (noughts_length 176) LX.out.1) (sz176 _ LX.out.1) (all_oneCell_toArray (vals_one _)) ?_
                try simp only [List.toList_toArray]
                have hs1 := Lib.hid (P5_31.out.storeAll (ys := X) (by rw [LX.out.1, noughts_length]))
                have hs2 := Lib.hid (P6_31.out.farCells (Ne.symm hpq) (vals X) 0)
                have hs3 := Lib.hid (KI.mk (J31.out.ha.farCells (b := V2.heap.size) (by omega) (vals X) 0) (J31.out.hb.farCells (b := V2.heap.size) (by omega) (vals X) 0) (below_setCells (g := V2.heap.size) J31.out.hw (by omega) (vals X) 0))
                refine hK.out _ _ hs3.out (fun _ => ?_)
                clear hK K
                try simp only [Act.put, List.getElem_toArray, List.getElem_cons_succ, List.getElem_cons_zero, List.setIfInBounds_toArray, List.set_cons_zero, List.set_cons_succ]
                refine wpAnyH_ready (rs := [9]) (by kernel_rfl) (by simp) ?_
                refine AllReadyH.cons rfl (fun K hK => ?_) AllReadyH.nil
                rw [if_pos (by rfl)]
                refine wp_store_mid _ _ _ rfl _ _ (List.toArray _) rfl rfl (there176 hs2.out (noughts_length 176) LY.out.1) (sz176 _ LY.out.1) (all_oneCell_toArray (vals_one _)) ?_
                try simp only [List.toList_toArray]
                have ht2 := Lib.hid (hs2.out.storeAll (ys := Y) (by rw [LY.out.1, noughts_length]))
                have ht1 := Lib.hid (hs1.out.farCells hpq (vals Y) 0)
                have ht3 := Lib.hid (KI.mk (hs3.out.ha.farCells (b := V26.heap.size) (by omega) (vals Y) 0) (hs3.out.hb.farCells (b := V26.heap.size) (by omega) (vals Y) 0) (below_setCells (g := V26.heap.size) hs3.out.hw (by omega) (vals Y) 0))
                refine hK.out _ _ ht3.out (fun _ => ?_)
                clear hK K
                try simp only [Act.put, List.getElem_toArray, List.getElem_cons_succ, List.getElem_cons_zero, List.setIfInBounds_toArray, List.set_cons_zero, List.set_cons_succ]
                refine wpAnyH_done (by kernel_rfl) ?_ _
                exact rest _ _ _ _ _ ⟨ht3.out, ht1.out, ht2.out⟩
              exact AllReadyH.nil
            exact AllReadyH.nil
          refine AllReadyH.cons rfl (fun K hK => ?_) ?_
          next =>
            go_simp
            have hb_33 := below_all V25 (.cells (arrV (noughts 176)) 35)
            have hn_33 := Blk.new V25 35 (noughts 176)
            have hpq : V2.heap.size ≠ V25.heap.size := Nat.ne_of_lt P5_25.out.lt
            have hge_33 : w.heap.size + 1 < V25.heap.size := J25.out.hb.lt
            obtain ⟨V33, hV_33⟩ : ∃ V, V25.alloc (.cells (arrV (noughts 176)) 35) = V := ⟨_, rfl⟩
            rw [hV_33] at hb_33 hn_33 ⊢
            have J33 := Lib.hid (J25.out.call hb_33)
            have P5_33 := Lib.hid (P5_25.out.below hb_33 P5_25.out.lt)
            have P6_33 := Lib.hid hn_33
            clear hV_33 hb_33 hn_33
            refine hK.out _ _ J33.out (fun _ => ?_)
            clear hK K
            try simp only [Act.put, List.getElem_toArray, List.getElem_cons_succ, List.getElem_cons_zero, List.setIfInBounds_toArray, List.set_cons_zero, List.set_cons_succ]
            refine wpAnyH_ready (rs := [4]) (by kernel_rfl) (by simp) ?_
            refine AllReadyH.cons rfl (fun K hK => ?_) ?_
            next =>
              go_simp
              go_at_call 15
              refine (NB.out _).mono ?_
              rintro e V34 ⟨g2, rfl, hg_34, hc_34, hb_34⟩
              have J34 := Lib.hid (J33.out.call hb_34)
              have P5_34 := Lib.hid (P5_33.out.below hb_34 P5_33.out.lt)
              have P6_34 := Lib.hid (P6_33.out.below hb_34 P6_33.out.lt)
              have C34 := Lib.hid hc_34
              clear hg_34 hc_34 hb_34
              refine hK.out _ _ J34.out (fun _ => ?_)
              clear hK K
              try simp only [Act.put, List.getElem_toArray, List.getElem_cons_succ, List.getElem_cons_zero, List.setIfInBounds_toArray, List.set_cons_zero, List.set_cons_succ]
              refine wpAnyH_ready (rs := [5]) (by kernel_rfl) (by simp) ?_
              refine AllReadyH.cons rfl (fun K hK => ?_) ?_
              next =>
                go_simp
                go_at_call 16
                refine (RB.out _ _ C34.out).mono ?_
                rintro e V35 ⟨rfl, hb_35⟩
                have J35 := Lib.hid (J34.out.call hb_35)
                have P5_35 := Lib.hid (P5_34.out.below hb_35 P5_34.out.lt)
                have P6_35 := Lib.hid (P6_34.out.below hb_35 P6_34.out.lt)
                clear hb_35
                refine hK.out _ _ J35.out (fun _ => ?_)
                clear hK K
                try simp only [Act.put, List.getElem_toArray, List.getElem_cons_succ, List.getElem_cons_zero, List.setIfInBounds_toArray, List.set_cons_zero, List.set_cons_succ]
                refine wpAnyH_ready (rs := [8]) (by kernel_rfl) (by simp) ?_
                refine AllReadyH.cons rfl (fun K hK => ?_) AllReadyH.nil
                rw [if_pos (by rfl)]
                refine wp_store_mid _ _ _ rfl _ _ (List.toArray _) rfl rfl (there176 P5_35.out (noughts_length 176) LX.out.1) (sz176 _ LX.out.1) (all_oneCell_toArray (vals_one _)) ?_
                try simp only [List.toList_toArray]
                have hs1 := Lib.hid (P5_35.out.storeAll (ys := X) (by rw [LX.out.1, noughts_length]))
                have hs2 := Lib.hid (P6_35.out.farCells (Ne.symm hpq) (vals X) 0)
                have hs3 := Lib.hid (KI.mk (J35.out.ha.farCells (b := V2.heap.size) (by omega) (vals X) 0) (J35.out.hb.farCells (b := V2.heap.size) (by omega) (vals X) 0) (below_setCells (g := V2.heap.size) J35.out.hw (by omega) (vals X) 0))
                refine hK.out _ _ hs3.out (fun _ => ?_)
                clear hK K
                try simp only [Act.put, List.getElem_toArray, List.getElem_cons_succ, List.getElem_cons_zero, List.setIfInBounds_toArray, List.set_cons_zero, List.set_cons_succ]
                refine wpAnyH_ready (rs := [9]) (by kernel_rfl) (by simp) ?_
                refine AllReadyH.cons rfl (fun K hK => ?_) AllReadyH.nil
                rw [if_pos (by rfl)]
                refine wp_store_mid _ _ _ rfl _ _ (List.toArray _) rfl rfl (there176 hs2.out (noughts_length 176) LY.out.1) (sz176 _ LY.out.1) (all_oneCell_toArray (vals_one _)) ?_
                try simp only [List.toList_toArray]
                have ht2 := Lib.hid (hs2.out.storeAll (ys := Y) (by rw [LY.out.1, noughts_length]))
                have ht1 := Lib.hid (hs1.out.farCells hpq (vals Y) 0)
                have ht3 := Lib.hid (KI.mk (hs3.out.ha.farCells (b := V25.heap.size) (by omega) (vals Y) 0) (hs3.out.hb.farCells (b := V25.heap.size) (by omega) (vals Y) 0) (below_setCells (g := V25.heap.size) hs3.out.hw (by omega) (vals Y) 0))
                refine hK.out _ _ ht3.out (fun _ => ?_)
                clear hK K
                try simp only [Act.put, List.getElem_toArray, List.getElem_cons_succ, List.getElem_cons_zero, List.setIfInBounds_toArray, List.set_cons_zero, List.set_cons_succ]
                refine wpAnyH_done (by kernel_rfl) ?_ _
                exact rest _ _ _ _ _ ⟨ht3.out, ht1.out, ht2.out⟩
              exact AllReadyH.nil
            exact AllReadyH.nil
          exact AllReadyH.nil
        refine AllReadyH.cons rfl (fun K hK => ?_) ?_
        next =>
          go_simp
          have hb_37 := below_all V2 (.cells (arrV (noughts 176)) 35)
          have hn_37 := Blk.new V2 35 (noughts 176)
          have hge_37 : w.heap.size + 1 < V2.heap.size := J2.out.hb.lt
          obtain ⟨V37, hV_37⟩ : ∃ V, V2.alloc (.cells (arrV (noughts 176)) 35) = V := ⟨_, rfl⟩
          rw [hV_37] at hb_37 hn_37 ⊢
          have J37 := Lib.hid (J2.out.call hb_37)
          have P6_37 := Lib.hid hn_37
          clear hV_37 hb_37 hn_37
          refine hK.out _ _ J37.out (fun _ => ?_)
          clear hK K
          try simp only [Act.put, List.getElem_toArray, List.getElem_cons_succ, List.getElem_cons_zero, List.setIfInBounds_toArray, List.set_cons_zero, List.set_cons_succ]
          refine wpAnyH_ready (rs := [4, 6]) (by kernel_rfl) (by simp) ?_
          refine AllReadyH.cons rfl (fun K hK => ?_) ?_
          next =>
            go_simp
            go_at_call 15
            refine (NB.out _).mono ?_
            rintro e V38 ⟨g2, rfl, hg_38, hc_38, hb_38⟩
            have J38 := Lib.hid (J37.out.call hb_38)
            have P6_38 := Lib.hid (P6_37.out.below hb_38 P6_37.out.lt)
            have C38 := Lib.hid hc_38
            clear hg_38 hc_38 hb_38
            refine hK.out _ _ J38.out (fun _ => ?_)
            clear hK K
            try simp only [Act.put, List.getElem_toArray, List.getElem_cons_succ, List.getElem_cons_zero, List.setIfInBounds_toArray, List.set_cons_zero, List.set_cons_succ]
            refine wpAnyH_ready (rs := [5, 6]) (by kernel_rfl) (by simp) ?_
            refine AllReadyH.cons rfl (fun K hK => ?_) ?_
            next =>
              go_simp
              go_at_call 16
              refine (RB.out _ _ C38.out).mono ?_
              rintro e V39 ⟨rfl, hb_39⟩
              have J39 := Lib.hid (J38.out.call hb_39)
              have P6_39 := Lib.hid (P6_38.out.below hb_39 P6_38.out.lt)
              clear hb_39
              refine hK.out _ _ J39.out (fun _ => ?_)
              clear hK K
              try simp only [Act.put, List.getElem_toArray, List.getElem_cons_succ, List.getElem_cons_zero, List.setIfInBounds_toArray, List.set_cons_zero, List.set_cons_succ]
              refine wpAnyH_ready (rs := [6]) (by kernel_rfl) (by simp) ?_
              refine AllReadyH.cons rfl (fun K hK => ?_) ?_
              next =>
                go_simp
                have hb_40 := below_all V39 (.cells (arrV (noughts 176)) 35)
                have hn_40 := Blk.new V39 35 (noughts 176)
                have hpq : V39.heap.size ≠ V2.heap.size := Nat.ne_of_gt P6_39.out.lt
                have hge_40 : w.heap.size + 1 < V39.heap.size := J39.out.hb.lt
                obtain ⟨V40, hV_40⟩ : ∃ V, V39.alloc (.cells (arrV (noughts 176)) 35) = V := ⟨_, rfl⟩
                rw [hV_40] at hb_40 hn_40 ⊢
                have J40 := Lib.hid (J39.out.call hb_40)
                have P6_40 := Lib.hid (P6_39.out.below hb_40 P6_39.out.lt)
                have P5_40 := Lib.hid hn_40
                clear hV_40 hb_40 hn_40
                refine hK.out _ _ J40.out (fun _ => ?_)
                clear hK K
                try simp only [Act.put, List.getElem_toArray, List.getElem_cons_succ, List.getElem_cons_zero, List.setIfInBounds_toArray, List.set_cons_zero, List.set_cons_succ]
                refine wpAnyH_ready (rs := [8]) (by kernel_rfl) (by simp) ?_
                refine AllReadyH.cons rfl (fun K hK => ?_) AllReadyH.nil
                rw [if_pos (by rfl)]
                refine wp_store_mid _ _ _ rfl _ _ (List.toArray _) rfl rfl (there176 P5_40.out (noughts_length 176) LX.out.1) (sz176 _ LX.out.1) (all_oneCell_toArray (vals_one _)) ?_
                try simp only [List.toList_toArray]
                have hs1 := Lib.hid (P5_40.out.storeAll (ys := X) (by rw [LX.out.1, noughts_length]))
                have hs2 := Lib.hid (P6_40.out.farCells (Ne.symm hpq) (vals X) 0)
                have hs3 := Lib.hid (KI.mk (J40.out.ha.farCells (b := V39.heap.size) (by omega) (vals X) 0) (J40.out.hb.farCells (b := V39.heap.size) (by omega) (vals X) 0) (below_setCells (g := V39.heap.size) J40.out.hw (by omega) (vals X) 0))
                refine hK.out _ _ hs3.out (fun _ => ?_)
                clear hK K
                try simp only [Act.put, List.getElem_toArray, List.getElem_cons_succ, List.getElem_cons_zero, List.setIfInBounds_toArray, List.set_cons_zero, List.set_cons_succ]
                refine wpAnyH_ready (rs := [9]) (by kernel_rfl) (by simp) ?_
                refine AllReadyH.cons rfl (fun K hK => ?_) AllReadyH.nil
                rw [if_pos (by rfl)]
                refine wp_store_mid _ _ _ rfl _ _ (List.toArray _) rfl rfl (there176 hs2.out (noughts_length 176) LY.out.1) (sz176 _ LY.out.1) (all_oneCell_toArray (vals_one _)) ?_
                try simp only [List.toList_toArray]
                have ht2 := Lib.hid (hs2.out.storeAll (ys := Y) (by rw [LY.out.1, noughts_length]))
                have ht1 := Lib.hid (hs1.out.farCells hpq (vals Y) 0)
                have ht3 := Lib.hid (KI.mk (hs3.out.ha.farCells (b := V2.heap.size) (by omega) (vals Y) 0) (hs3.out.hb.farCells (b := V2.heap.size) (by omega) (vals Y) 0) (below_setCells (g := V2.heap.size) hs3.out.hw (by omega) (vals Y) 0))
                refine hK.out _ _ ht3.out (fun _ => ?_)
                clear hK K
                try simp only [Act.put, List.getElem_toArray, List.getElem_cons_succ, List.getElem_cons_zero, List.setIfInBounds_toArray, List.set_cons_zero, List.set_cons_succ]
                refine wpAnyH_done (by kernel_rfl) ?_ _
                exact rest _ _ _ _ _ ⟨ht3.out, ht1.out, ht2.out⟩
              exact AllReadyH.nil
            refine AllReadyH.cons rfl (fun K hK => ?_) ?_
            next =>
              go_simp
              have hb_42 := below_all V38 (.cells (arrV (noughts 176)) 35)
              have hn_42 := Blk.new V38 35 (noughts 176)
              have hpq : V38.heap.size ≠ V2.heap.size := Nat.ne_of_gt P6_38.out.lt
              have hge_42 : w.heap.size + 1 < V38.heap.size := J38.out.hb.lt
              obtain ⟨V42, hV_42⟩ : ∃ V, V38.alloc (.cells (arrV (noughts 176)) 35) = V := ⟨_, rfl⟩
              rw [hV_42] at hb_42 hn_42 ⊢
              have J42 := Lib.hid (J38.out.call hb_42)
              have P6_42 := Lib.hid (P6_38.out.below hb_42 P6_38.out.lt)
              have C42 := Lib.hid (C38.out.below hb_42 C38.out.lt)
              have P5_42 := Lib.hid hn_42
              clear hV_42 hb_42 hn_42
              refine hK.out _ _ J42.out (fun _ => ?_)
              clear hK K
              try simp only [Act.put, List.getElem_toArray, List.getElem_cons_succ, List.getElem_cons_zero, List.setIfInBounds_toArray, List.set_cons_zero, List.set_cons_succ]
              refine wpAnyH_ready (rs := [5]) (by kernel_rfl) (by simp) ?_
              refine AllReadyH.cons rfl (fun K hK => ?_) ?_
              next =>
                go_simp
                go_at_call 16
                refine (RB.out _ _ C42.out).mono ?_
                rintro e V43 ⟨rfl, hb_43⟩
                have J43 := Lib.hid (J42.out.call hb_43)
                have P5_43 := Lib.hid (P5_42.out.below hb_43 P5_42.out.lt)
                have P6_43 := Lib.hid (P6_42.out.below hb_43 P6_42.out.lt)
                clear hb_43
                refine hK.out _ _ J43.out (fun _ => ?_)
                clear hK K
                try simp only [Act.put, List.getElem_toArray, List.getElem_cons_succ, List.getElem_cons_zero, List.setIfInBounds_toArray, List.set_cons_zero, List.set_cons_succ]
                refine wpAnyH_ready (rs := [8]) (by kernel_rfl) (by simp) ?_
                refine AllReadyH.cons rfl (fun K hK => ?_) AllReadyH.nil
                rw [if_pos (by rfl)]
                refine wp_store_mid _ _ _ rfl _ _ (List.toArray _) rfl rfl (there176 P5_43.out (noughts_length 176) LX.out.1) (sz176 _ LX.out.1) (all_oneCell_toArray (vals_one _)) ?_
                try simp only [List.toList_toArray]
                have hs1 := Lib.hid (P5_43.out.storeAll (ys := X) (by rw [LX.out.1, noughts_length]))
                have hs2 := Lib.hid (P6_43.out.farCells (Ne.symm hpq) (vals X) 0)
                have hs3 := Lib.hid (KI.mk (J43.out.ha.farCells (b := V38.heap.size) (by omega) (vals X) 0) (J43.out.hb.farCells (b := V38.heap.size) (by omega) (vals X) 0) (below_setCells (g := V38.heap.size) J43.out.hw (by omega) (vals X) 0))
                refine hK.out _ _ hs3.out (fun _ => ?_)
                clear hK K
                try simp only [Act.put, List.getElem_toArray, List.getElem_cons_succ, List.getElem_cons_zero, List.setIfInBounds_toArray, List.set_cons_zero, List.set_cons_succ]
                refine wpAnyH_ready (rs := [9]) (by kernel_rfl) (by simp) ?_
                refine AllReadyH.cons rfl (fun K hK => ?_) AllReadyH.nil
                rw [if_pos (by rfl)]
                refine wp_store_mid _ _ _ rfl _ _ (List.toArray _) rfl rfl (there176 hs2.out (noughts_length 176) LY.out.1) (sz176 _ LY.out.1) (all_oneCell_toArray (vals_one _)) ?_
                try simp only [List.toList_toArray]
                have ht2 := Lib.hid (hs2.out.storeAll (ys := Y) (by rw [LY.out.1, noughts_length]))
                have ht1 := Lib.hid (hs1.out.farCells hpq (vals Y) 0)
                have ht3 := Lib.hid (KI.mk (hs3.out.ha.farCells (b := V2.heap.size) (by omega) (vals Y) 0) (hs3.out.hb.farCells (b := V2.heap.size) (by omega) (vals Y) 0) (below_setCells (g := V2.heap.size) hs3.out.hw (by omega) (vals Y) 0))
                refine hK.out _ _ ht3.out (fun _ => ?_)
                clear hK K
                try simp only [Act.put, List.getElem_toArray, List.getElem_cons_succ, List.getElem_cons_zero, List.setIfInBounds_toArray, List.set_cons_zero, List.set_cons_succ]
                refine wpAnyH_done (by kernel_rfl) ?_ _
                exact rest _ _ _ _ _ ⟨ht3.out, ht1.out, ht2.out⟩
              exact AllReadyH.nil
            exact AllReadyH.nil
          refine AllReadyH.cons rfl (fun K hK => ?_) ?_
          next =>
            go_simp
            have hb_45 := below_all V37 (.cells (arrV (noughts 176)) 35)
            have hn_45 := Blk.new V37 35 (noughts 176)
            have hpq : V37.heap.size ≠ V2.heap.size := Nat.ne_of_gt P6_37.out.lt
            have hge_45 : w.heap.size + 1 < V37.heap.size := J37.out.hb.lt
            obtain ⟨V45, hV_45⟩ : ∃ V, V37.alloc (.cells (arrV (noughts 176)) 35) = V := ⟨_, rfl⟩
            rw [hV_45] at hb_45 hn_45 ⊢
            have J45 := Lib.hid (J37.out.call hb_45)
            have P6_45 := Lib.hid (P6_37.out.below hb_45 P6_37.out.lt)
            have P5_45 := Lib.hid hn_45
            clear hV_45 hb_45 hn_45
            refine hK.out _ _ J45.out (fun _ => ?_)
            clear hK K
            try simp only [Act.put, List.getElem_toArray, List.getElem_cons_succ, List.getElem_cons_zero, List.setIfInBounds_toArray, List.set_cons_zero, List.set_cons_succ]
            refine wpAnyH_ready (rs := [4]) (by kernel_rfl) (by simp) ?_
            refine AllReadyH.cons rfl (fun K hK => ?_) ?_
            next =>
              go_simp
              go_at_call 15
              refine (NB.out _).mono ?_
              rintro e V46 ⟨g2, rfl, hg_46, hc_46, hb_46⟩
              have J46 := Lib.hid (J45.out.call hb_46)
              have P5_46 := Lib.hid (P5_45.out.below hb_46 P5_45.out.lt)
              have P6_46 := Lib.hid (P6_45.out.below hb_46 P6_45.out.lt)
              have C46 := Lib.hid hc_46
              clear hg_46 hc_46 hb_46
              refine hK.out _ _ J46.out (fun _ => ?_)
              clear hK K
              try simp only [Act.put, List.getElem_toArray, List.getElem_cons_succ, List.getElem_cons_zero, List.setIfInBounds_toArray, List.set_cons_zero, List.set_cons_succ]
              refine wpAnyH_ready (rs := [5]) (by kernel_rfl) (by simp) ?_
              refine AllReadyH.cons rfl (fun K hK => ?_) ?_
              next =>
                go_simp
                go_at_call 16
                refine (RB.out _ _ C46.out).mono ?_
                rintro e V47 ⟨rfl, hb_47⟩
                have J47 := Lib.hid (J46.out.call hb_47)
                have P5_47 := Lib.hid (P5_46.out.below hb_47 P5_46.out.lt)
                have P6_47 := Lib.hid (P6_46.out.below hb_47 P6_46.out.lt)
                clear hb_47
                refine hK.out _ _ J47.out (fun _ => ?_)
                clear hK K
                try simp only [Act.put, List.getElem_toArray, List.getElem_cons_succ, List.getElem_cons_zero, List.setIfInBounds_toArray, List.set_cons_zero, List.set_cons_succ]
                refine wpAnyH_ready (rs := [8]) (by kernel_rfl) (by simp) ?_
                refine AllReadyH.cons rfl (fun K hK => ?_) AllReadyH.nil
                rw [if_pos (by rfl)]
                refine wp_store_mid _ _ _ rfl _ _ (List.toArray _) rfl rfl (there176 P5_47.out (noughts_length 176) LX.out.1) (sz176 _ LX.out.1) (all_oneCell_toArray (vals_one _)) ?_
                try simp only [List.toList_toArray]
                have hs1 := Lib.hid (P5_47.out.storeAll (ys := X) (by rw [LX.out.1, noughts_length]))
                have hs2 := Lib.hid (P6_47.out.farCells (Ne.symm hpq) (vals X) 0)
                have hs3 := Lib.hid (KI.mk (J47.out.ha.farCells (b := V37.heap.size) (by omega) (vals X) 0) (J47.out.hb.farCells (b := V37.heap.size) (by omega) (vals X) 0) (below_setCells (g := V37.heap.size) J47.out.hw (by omega) (vals X) 0))
                refine hK.out _ _ hs3.out (fun _ => ?_)
                clear hK K
                try simp only [Act.put, List.getElem_toArray, List.getElem_cons_succ, List.getElem_cons_zero, List.setIfInBounds_toArray, List.set_cons_zero, List.set_cons_succ]
                refine wpAnyH_ready (rs := [9]) (by kernel_rfl) (by simp) ?_
                refine AllReadyH.cons rfl (fun K hK => ?_) AllReadyH.nil
                rw [if_pos (by rfl)]
                refine wp_store_mid _ _ _ rfl _ _ (List.toArray _) rfl rfl (there176 hs2.out (noughts_length 176) LY.out.1) (sz176 _ LY.out.1) (all_oneCell_toArray (vals_one _)) ?_
                try simp only [List.toList_toArray]
                have ht2 := Lib.hid (hs2.out.storeAll (ys := Y) (by rw [LY.out.1, noughts_length]))
                have ht1 := Lib.hid (hs1.out.farCells hpq (vals Y) 0)
                have ht3 := Lib.hid (KI.mk (hs3.out.ha.farCells (b := V2.heap.size) (by omega) (vals Y) 0) (hs3.out.hb.farCells (b := V2.heap.size) (by omega) (vals Y) 0) (below_setCells (g := V2.heap.size) hs3.out.hw (by omega) (vals Y) 0))
                refine hK.out _ _ ht3.out (fun _ => ?_)
                clear hK K
                try simp only [Act.put, List.getElem_toArray, List.getElem_cons_succ, List.getElem_cons_zero, List.setIfInBounds_toArray, List.set_cons_zero, List.set_cons_succ]
                refine wpAnyH_done (by kernel_rfl) ?_ _
                exact rest _ _ _ _ _ ⟨ht3.out, ht1.out, ht2.out⟩
              exact AllReadyH.nil
            exact AllReadyH.nil
          exact AllReadyH.nil
        exact AllReadyH.nil
      refine AllReadyH.cons rfl (fun K hK => ?_) ?_
      next =>
        go_simp
        have hb_49 := below_all V1 (.cells (arrV (noughts 176)) 35)
        have hn_49 := Blk.new V1 35 (noughts 176)
        have hge_49 : w.heap.size + 1 < V1.heap.size := J1.out.hb.lt
        obtain ⟨V49, hV_49⟩ : ∃ V, V1.alloc (.cells (arrV (noughts 176)) 35) = V := ⟨_, rfl⟩
        rw [hV_49] at hb_49 hn_49 ⊢
        have J49 := Lib.hid (J1.out.call hb_49)
        have C49 := Lib.hid (C1.out.below hb_49 C1.out.lt)
        have P5_49 := Lib.hid hn_49
        clear hV_49 hb_49 hn_49
        refine hK.out _ _ J49.out (fun _ => ?_)
        clear hK K
        try simp only [Act.put, List.getElem_toArray, List.getElem_cons_succ, List.getElem_cons_zero, List.setIfInBounds_toArray, List.set_cons_zero, List.set_cons_succ]
        refine wpAnyH_ready (rs := [2, 7]) (by kernel_rfl) (by simp) ?_
        refine AllReadyH.cons rfl (fun K hK => ?_) ?_
        next =>
          go_simp
          go_at_call 16
          refine (RA.out _ _ C49.out).mono ?_
          rintro e V50 ⟨rfl, hb_50⟩
          have J50 := Lib.hid (J49.out.call hb_50)
          have P5_50 := Lib.hid (P5_49.out.below hb_50 P5_49.out.lt)
          clear hb_50
          refine hK.out _ _ J50.out (fun _ => ?_)
          clear hK K
          try simp only [Act.put, List.getElem_toArray, List.getElem_cons_succ, List.getElem_cons_zero, List.setIfInBounds_toArray, List.set_cons_zero, List.set_cons_succ]
          refine wpAnyH_ready (rs := [4, 7]) (by kernel_rfl) (by simp) ?_
          refine AllReadyH.cons rfl (fun K hK => ?_) ?_
          next =>
            go_simp
            go_at_call 15
            refine (NB.out _).mono ?_
            rintro e V51 ⟨g2, rfl, hg_51, hc_51, hb_51⟩
            have J51 := Lib.hid (J50.out.call hb_51)
            have P5_51 := Lib.hid (P5_50.out.below hb_51 P5_50.out.lt)
            have C51 := Lib.hid hc_51
            clear hg_51 hc_51 hb_51
            refine hK.out _ _ J51.out (fun _ => ?_)
            clear hK K
            try simp only [Act.put, List.getElem_toArray, List.getElem_cons_succ, List.getElem_cons_zero, List.setIfInBounds_toArray, List.set_cons_zero, List.set_cons_succ]
            refine wpAnyH_ready (rs := [5, 7]) (by kernel_rfl) (by simp) ?_
            refine AllReadyH.cons rfl (fun K hK => ?_) ?_
            next =>
              go_simp
              go_at_call 16
              refine (RB.out _ _ C51.out).mono ?_
              rintro e V52 ⟨rfl, hb_52⟩
              have J52 := Lib.hid (J51.out.call hb_52)
              have P5_52 := Lib.hid (P5_51.out.below hb_52 P5_51.out.lt)
              clear hb_52
              refine hK.out _ _ J52.out (fun _ => ?_)
              clear hK K
              try simp only [Act.put, List.getElem_toArray, List.getElem_cons_succ, List.getElem_cons_zero, List.setIfInBounds_toArray, List.set_cons_zero, List.set_cons_succ]
              refine wpAnyH_ready (rs := [7]) (by kernel_rfl) (by simp) ?_
              refine AllReadyH.cons rfl (fun K hK => ?_) ?_
              next =>
                go_simp
                have hb_53 := below_all V52 (.cells (arrV (noughts 176)) 35)
                have hn_53 := Blk.new V52 35 (noughts 176)
                have hpq : V1.heap.size ≠ V52.heap.size := Nat.ne_of_lt P5_52.out.lt
                have hge_53 : w.heap.size + 1 < V52.heap.size := J52.out.hb.lt
                obtain ⟨V53, hV_53⟩ : ∃ V, V52.alloc (.cells (arrV (noughts 176)) 35) = V := ⟨_, rfl⟩
                rw [hV_53] at hb_53 hn_53 ⊢
                have J53 := Lib.hid (J52.out.call hb_53)
                have P5_53 := Lib.hid (P5_52.out.below hb_53 P5_52.out.lt)
                have P6_53 := Lib.hid hn_53
                clear hV_53 hb_53 hn_53
                refine hK.out _ _ J53.out (fun _ => ?_)
                clear hK K
                try simp only [Act.put, List.getElem_toArray, List.getElem_cons_succ, List.getElem_cons_zero, List.setIfInBounds_toArray, List.set_cons_zero, List.set_cons_succ]
                refine wpAnyH_ready (rs := [8]) (by kernel_rfl) (by simp) ?_
                refine AllReadyH.cons rfl (fun K hK => ?_) AllReadyH.nil
                rw [if_pos (by rfl)]
                refine wp_store_mid _ _ _ rfl _ _ (List.toArray _) rfl rfl (there176 P5_53.out (noughts_length 176) LX.out.1) (sz176 _ LX.out.1) (all_oneCell_toArray (vals_one _)) ?_
                try simp only [List.toList_toArray]
                have hs1 := Lib.hid (P5_53.out.storeAll (ys := X) (by rw [LX.out.1, noughts_length]))
                have hs2 := Lib.hid (P6_53.out.farCells (Ne.symm hpq) (vals X) 0)
                have hs3 := Lib.hid (KI.mk (J53.out.ha.farCells (b := V1.heap.size) (by omega) (vals X) 0) (J53.out.hb.farCells (b := V1.heap.size) (by omega) (vals X) 0) (below_setCells (g := V1.heap.size) J53.out.hw (by omega) (vals X) 0))
                refine hK.out _ _ hs3.out (fun _ => ?_)
                clear hK K
                try simp only [Act.put, List.getElem_toArray, List.getElem_cons_succ, List.getElem_cons_zero, List.setIfInBounds_toArray, List.set_cons_zero, List.set_cons_succ]
                refine wpAnyH_ready (rs := [9]) (by kernel_rfl) (by simp) ?_
                refine AllReadyH.cons rfl (fun K hK => ?_) AllReadyH.nil
                rw [if_pos (by rfl)]
                refine wp_store_mid _ _ _ rfl _ _ (List.toArray _) rfl rfl (there176 hs2.out (noughts_length 176) LY.out.1) (sz176 _ LY.out.1) (all_oneCell_toArray (vals_one _)) ?_
                try simp only [List.toList_toArray]
                have ht2 := Lib.hid (hs2.out.storeAll (ys := Y) (by rw [LY.out.1, noughts_length]))
                have ht1 := Lib.hid (hs1.out.farCells hpq (vals Y) 0)
                have ht3 := Lib.hid (KI.mk (hs3.out.ha.farCells (b := V52.heap.size) (by omega) (vals Y) 0) (hs3.out.hb.farCells (b := V52.heap.size) (by omega) (vals Y) 0) (below_setCells (g := V52.heap.size) hs3.out.hw (by omega) (vals Y) 0))
                refine hK.out _ _ ht3.out (fun _ => ?_)
                clear hK K
                try simp only [Act.put, List.getElem_toArray, List.getElem_cons_succ, List.getElem_cons_zero, List.setIfInBounds_toArray, List.set_cons_zero, List.set_cons_succ]
                refine wpAnyH_done (by kernel_rfl) ?_ _
                exact rest _ _ _ _ _ ⟨ht3.out, ht1.out, ht2.out⟩
              exact AllReadyH.nil
            refine AllReadyH.cons rfl (fun K hK => ?_) ?_
            next =>
              go_simp
              have hb_55 := below_all V51 (.cells (arrV (noughts 176)) 35)
              have hn_55 := Blk.new V51 35 (noughts 176)
              have hpq : V1.heap.size ≠ V51.heap.size := Nat.ne_of_lt P5_51.out.lt
              have hge_55 : w.heap.size + 1 < V51.heap.size := J51.out.hb.lt
              obtain ⟨V55, hV_55⟩ : ∃ V, V51.alloc (.cells (arrV (noughts 176)) 35) = V := ⟨_, rfl⟩
              rw [hV_55] at hb_55 hn_55 ⊢
              have J55 := Lib.hid (J51.out.call hb_55)
              have P5_55 := Lib.hid (P5_51.out.below hb_55 P5_51.out.lt)
              have C55 := Lib.hid (C51.out.below hb_55 C51.out.lt)
              have P6_55 := Lib.hid hn_55
              clear hV_55 hb_55 hn_55
              refine hK.out _ _ J55.out (fun _ => ?_)
              clear hK K
              try simp only [Act.put, List.getElem_toArray, List.getElem_cons_succ, List.getElem_cons_zero, List.setIfInBounds_toArray, List.set_cons_zero, List.set_cons_succ]
              refine wpAnyH_ready (rs := [5]) (by kernel_rfl) (by simp) ?_
              refine AllReadyH.cons rfl (fun K hK => ?_) ?_
              next =>
                go_simp
                go_at_call 16
                refine (RB.out _ _ C55.out).mono ?_
                rintro e V56 ⟨rfl, hb_56⟩
                have J56 := Lib.hid (J55.out.call hb_56)
                have P5_56 := Lib.hid (P5_55.out.below hb_56 P5_55.out.lt)
                have P6_56 := Lib.hid (P6_55.out.below hb_56 P6_55.out.lt)
                clear hb_56
                refine hK.out _ _ J56.out (fun _ => ?_)
                clear hK K
                try simp only [Act.put, List.getElem_toArray, List.getElem_cons_succ, List.getElem_cons_zero, List.setIfInBounds_toArray, List.set_cons_zero, List.set_cons_succ]
                refine wpAnyH_ready (rs := [8]) (by kernel_rfl) (by simp) ?_
                refine AllReadyH.cons rfl (fun K hK => ?_) AllReadyH.nil
                rw [if_pos (by rfl)]
                refine wp_store_mid _ _ _ rfl _ _ (List.toArray _) rfl rfl (there176 P5_56.out (noughts_length 176) LX.out.1) (sz176 _ LX.out.1) (all_oneCell_toArray (vals_one _)) ?_
                try simp only [List.toList_toArray]
                have hs1 := Lib.hid (P5_56.out.storeAll (ys := X) (by rw [LX.out.1, noughts_length]))
                have hs2 := Lib.hid (P6_56.out.farCells (Ne.symm hpq) (vals X) 0)
                have hs3 := Lib.hid (KI.mk (J56.out.ha.farCells (b := V1.heap.size) (by omega) (vals X) 0) (J56.out.hb.farCells (b := V1.heap.size) (by omega) (vals X) 0) (below_setCells (g := V1.heap.size) J56.out.hw (by omega) (vals X) 0))
                refine hK.out _ _ hs3.out (fun _ => ?_)
                clear hK K
                try simp only [Act.put, List.getElem_toArray, List.getElem_cons_succ, List.getElem_cons_zero, List.setIfInBounds_toArray, List.set_cons_zero, List.set_cons_succ]
                refine wpAnyH_ready (rs := [9]) (by kernel_rfl) (by simp) ?_
                refine AllReadyH.cons rfl (fun K hK => ?_) AllReadyH.nil
                rw [if_pos (by rfl)]
                refine wp_store_mid _ _ _ rfl _ _ (List.toArray _) rfl rfl (there176 hs2.out (noughts_length 176) LY.out.1) (sz176 _ LY.out.1) (all_oneCell_toArray (vals_one _)) ?_
                try simp only [List.toList_toArray]
                have ht2 := Lib.hid (hs2.out.storeAll (ys := Y) (by rw [LY.out.1, noughts_length]))
                have ht1 := Lib.hid (hs1.out.farCells hpq (vals Y) 0)
                have ht3 := Lib.hid (KI.mk (hs3.out.ha.farCells (b := V51.heap.size) (by omega) (vals Y) 0) (hs3.out.hb.farCells (b := V51.heap.size) (by omega) (vals Y) 0) (below_setCells (g := V51.heap.size) hs3.out.hw (by omega) (vals Y) 0))
                refine hK.out _ _ ht3.out (fun _ => ?_)
                clear hK K
                try simp only [Act.put, List.getElem_toArray, List.getElem_cons_succ, List.getElem_cons_zero, List.setIfInBounds_toArray, List.set_cons_zero, List.set_cons_succ]
                refine wpAnyH_done (by kernel_rfl) ?_ _
                exact rest _ _ _ _ _ ⟨ht3.out, ht1.out, ht2.out⟩
              exact AllReadyH.nil
            exact AllReadyH.nil
          refine AllReadyH.cons rfl (fun K hK => ?_) ?_
          next =>
            go_simp
            have hb_58 := below_all V50 (.cells (arrV (noughts 176)) 35)
            have hn_58 := Blk.new V50 35 (noughts 176)
            have hpq : V1.heap.size ≠ V50.heap.size := Nat.ne_of_lt P5_50.out.lt
            have hge_58 : w.heap.size + 1 < V50.heap.size := J50.out.hb.lt
            obtain ⟨V58, hV_58⟩ : ∃ V, V50.alloc (.cells (arrV (noughts 176)) 35) = V := ⟨_, rfl⟩
            rw [hV_58] at hb_58 hn_58 ⊢
            have J58 := Lib.hid (J50.out.call hb_58)
            have P5_58 := Lib.hid (P5_50.out.below hb_58 P5_50.out.lt)
            have P6_58 := Lib.hid hn_58
            clear hV_58 hb_58 hn_58
            refine hK.out _ _ J58.out (fun _ => ?_)
            clear hK K
            try simp only [Act.put, List.getElem_toArray, List.getElem_cons_succ, List.getElem_cons_zero, List.setIfInBounds_toArray, List.set_cons_zero, List.set_cons_succ]
            refine wpAnyH_ready (rs := [4]) (by kernel_rfl) (by simp) ?_
            refine AllReadyH.cons rfl (fun K hK => ?_) ?_
            next =>
              go_simp
              go_at_call 15
              refine (NB.out _).mono ?_
              rintro e V59 ⟨g2, rfl, hg_59, hc_59, hb_59⟩
              have J59 := Lib.hid (J58.out.call hb_59)
              have P5_59 := Lib.hid (P5_58.out.below hb_59 P5_58.out.lt)
              have P6_59 := Lib.hid (P6_58.out.below hb_59 P6_58.out.lt)
              have C59 := Lib.hid hc_59
              clear hg_59 hc_59 hb_59
              refine hK.out _ _ J59.out (fun _ => ?_)
              clear hK K
              try simp only [Act.put, List.getElem_toArray, List.getElem_cons_succ, List.getElem_cons_zero, List.setIfInBounds_toArray, List.set_cons_zero, List.set_cons_succ]
              refine wpAnyH_ready (rs := [5]) (by kernel_rfl) (by simp) ?_
              refine AllReadyH.cons rfl (fun K hK => ?_) ?_
              next =>
                go_simp
                go_at_call 16
                refine (RB.out _ _ C59.out).mono ?_
                rintro e V60 ⟨rfl, hb_60⟩
                have J60 := Lib.hid (J59.out.call hb_60)
                have P5_60 := Lib.hid (P5_59.out.below hb_60 P5_59.out.lt)
                have P6_60 := Lib.hid (P6_59.out.below hb_60 P6_59.out.lt)
                clear hb_60
                refine hK.out _ _ J60.out (fun _ => ?_)
                clear hK K
                try simp only [Act.put, List.getElem_toArray, List.getElem_cons_succ, List.getElem_cons_zero, List.setIfInBounds_toArray, List.set_cons_zero, List.set_cons_succ]
                refine wpAnyH_ready (rs := [8]) (by kernel_rfl) (by simp) ?_
                refine AllReadyH.cons rfl (fun K hK => ?_) AllReadyH.nil
                rw [if_pos (by rfl)]
                refine wp_store_mid _ _ _ rfl _ _ (List.toArray _) rfl rfl (there176 P5_60.out (noughts_length 176) LX.out.1) (sz176 _ LX.out.1) (all_oneCell_toArray (vals_one _)) ?_
                try simp only [List.toList_toArray]
                have hs1 := Lib.hid (P5_60.out.storeAll (ys := X) (by rw [LX.out.1, noughts_length]))
                have hs2 := Lib.hid (P6_60.out.farCells (Ne.symm hpq) (vals X) 0)
                have hs3 := Lib.hid (KI.mk (J60.out.ha.farCells (b := V1.heap.size) (by omega) (vals X) 0) (J60.out.hb.farCells (b := V1.heap.size) (by omega) (vals X) 0) (below_setCells (g := V1.heap.size) J60.out.hw (by omega) (vals X) 0))
                refine hK.out _ _ hs3.out (fun _ => ?_)
                clear hK K
                try simp only [Act.put, List.getElem_toArray, List.getElem_cons_succ, List.getElem_cons_zero, List.setIfInBounds_toArray, List.set_cons_zero, List.set_cons_succ]
                refine wpAnyH_ready (rs := [9]) (by kernel_rfl) (by simp) ?_
                refine AllReadyH.cons rfl (fun K hK => ?_) AllReadyH.nil
                rw [if_pos (by rfl)]
                refine wp_store_mid _ _ _ rfl _ _ (List.toArray _) rfl rfl (there176 hs2.out (noughts_length 176) LY.out.1) (sz176 _ LY.out.1) (all_oneCell_toArray (vals_one _)) ?_
                try simp only [List.toList_toArray]
                have ht2 := Lib.hid (hs2.out.storeAll (ys := Y) (by rw [LY.out.1, noughts_length]))
                have ht1 := Lib.hid (hs1.out.farCells hpq (vals Y) 0)
                have ht3 := Lib.hid (KI.mk (hs3.out.ha.farCells (b := V50.heap.size) (by omega) (vals Y) 0) (hs3.out.hb.farCells (b := V50.heap.size) (by omega) (vals Y) 0) (below_setCells (g := V50.heap.size) hs3.out.hw (by omega) (vals Y) 0))
                refine hK.out _ _ ht3.out (fun _ => ?_)
                clear hK K
                try simp only [Act.put, List.getElem_toArray, List.getElem_cons_succ, List.getElem_cons_zero, List.setIfInBounds_toArray, List.set_cons_zero, List.set_cons_succ]
                refine wpAnyH_done (by kernel_rfl) ?_ _
                exact rest _ _ _ _ _ ⟨ht3.out, ht1.out, ht2.out⟩
              exact AllReadyH.nil
            exact AllReadyH.nil
          exact AllReadyH.nil
        refine AllReadyH.cons rfl (fun K hK => ?_) ?_
        next =>
          go_simp
          have hb_62 := below_all V49 (.cells (arrV (noughts 176)) 35)
          have hn_62 := Blk.new V49 35 (noughts 176)
          have hpq : V1.heap.size ≠ V49.heap.size := Nat.ne_of_lt P5_49.out.lt
          have hge_62 : w.heap.size + 1 < V49.heap.size := J49.out.hb.lt
          obtain ⟨V62, hV_62⟩ : ∃ V, V49.alloc (.cells (arrV (noughts 176)) 35) = V := ⟨_, rfl⟩
          rw [hV_62] at hb_62 hn_62 ⊢
          have J62 := Lib.hid (J49.out.call hb_62)
          have P5_62 := Lib.hid (P5_49.out.below hb_62 P5_49.out.lt)
          have C62 := Lib.hid (C49.out.below hb_62 C49.out.lt)
          have P6_62 := Lib.hid hn_62
          clear hV_62 hb_62 hn_62
          refine hK.out _ _ J62.out (fun _ => ?_)
          clear hK K
          try simp only [Act.put, List.getElem_toArray, List.getElem_cons_succ, List.getElem_cons_zero, List.setIfInBounds_toArray, List.set_cons_zero, List.set_cons_succ]
          refine wpAnyH_ready (rs := [2]) (by kernel_rfl) (by simp) ?_
          refine AllReadyH.cons rfl (fun K hK => ?_) ?_
          next =>
            go_simp
            go_at_call 16
            refine (RA.out _ _ C62.out).mono ?_
            rintro e V63 ⟨rfl, hb_63⟩
            have J63 := Lib.hid (J62.out.call hb_63)
            have P5_63 := Lib.hid (P5_62.out.below hb_63 P5_62.out.lt)
            have P6_63 := Lib.hid (P6_62.out.below hb_63 P6_62.out.lt)
            clear hb_63
            refine hK.out _ _ J63.out (fun _ => ?_)
            clear hK K
            try simp only [Act.put, List.getElem_toArray, List.getElem_cons_succ, List.getElem_cons_zero, List.setIfInBounds_toArray, List.set_cons_zero, List.set_cons_succ]
            refine wpAnyH_ready (rs := [4]) (by kernel_rfl) (by simp) ?_
            refine AllReadyH.cons rfl (fun K hK => ?_) ?_
            next =>
              go_simp
              go_at_call 15
              refine (NB.out _).mono ?_
              rintro e V64 ⟨g2, rfl, hg_64, hc_64, hb_64⟩
              have J64 := Lib.hid (J63.out.call hb_64)
              have P5_64 := Lib.hid (P5_63.out.below hb_64 P5_63.out.lt)
              have P6_64 := Lib.hid (P6_63.out.below hb_64 P6_63.out.lt)
              have C64 := Lib.hid hc_64
              clear hg_64 hc_64 hb_64
              refine hK.out _ _ J64.out (fun _ => ?_)
              clear hK K
              try simp only [Act.put, List.getElem_toArray, List.getElem_cons_succ, List.getElem_cons_zero, List.setIfInBounds_toArray, List.set_cons_zero, List.set_cons_succ]
              refine wpAnyH_ready (rs := [5]) (by kernel_rfl) (by simp) ?_
              refine AllReadyH.cons rfl (fun K hK => ?_) ?_
              next =>
                go_simp
                go_at_call 16
                refine (RB.out _ _ C64.out).mono ?_
                rintro e V65 ⟨rfl, hb_65⟩
                have J65 := Lib.hid (J64.out.call hb_65)
                have P5_65 := Lib.hid (P5_64.out.below hb_65 P5_64.out.lt)
                have P6_65 := Lib.hid (P6_64.out.below hb_65 P6_64.out.lt)
                clear hb_65
                refine hK.out _ _ J65.out (fun _ => ?_)
                clear hK K
                try simp only [Act.put, List.getElem_toArray, List.getElem_cons_succ, List.getElem_cons_zero, List.setIfInBounds_toArray, List.set_cons_zero, List.set_cons_succ]
                refine wpAnyH_ready (rs := [8]) (by kernel_rfl) (by simp) ?_
                refine AllReadyH.cons rfl (fun K hK => ?_) AllReadyH.nil
                rw [if_pos (by rfl)]
                refine wp_store_mid _ _ _ rfl _ _ (List.toArray _) rfl rfl (there176 P5_65.out (noughts_length 176) LX.out.1) (sz176 _ LX.out.1) (all_oneCell_toArray (vals_one _)) ?_
                try simp only [List.toList_toArray]
                have hs1 := Lib.hid (P5_65.out.storeAll (ys := X) (by rw [LX.out.1, noughts_length]))
                have hs2 := Lib.hid (P6_65.out.farCells (Ne.symm hpq) (vals X) 0)
                have hs3 := Lib.hid (KI.mk (J65.out.ha.farCells (b := V1.heap.size) (by omega) (vals X) 0) (J65.out.hb.farCells (b := V1.heap.size) (by omega) (vals X) 0) (below_setCells (g := V1.heap.size) J65.out.hw (by omega) (vals X) 0))
                refine hK.out _ _ hs3.out (fun _ => ?_)
                clear hK K
                try simp only [Act.put, List.getElem_toArray, List.getElem_cons_succ, List.getElem_cons_zero, List.setIfInBounds_toArray, List.set_cons_zero, List.set_cons_succ]
                refine wpAnyH_ready (rs := [9]) (by kernel_rfl) (by simp) ?_
                refine AllReadyH.cons rfl (fun K hK => ?_) AllReadyH.nil
                rw [if_pos (by rfl)]
                refine wp_store_mid _ _ _ rfl _ _ (List.toArray _) rfl rfl (there176 hs2.out (noughts_length 176) LY.out.1) (sz176 _ LY.out.1) (all_oneCell_toArray (vals_one _)) ?_
                try simp only [List.toList_toArray]
                have ht2 := Lib.hid (hs2.out.storeAll (ys := Y) (by rw [LY.out.1, noughts_length]))
                have ht1 := Lib.hid (hs1.out.farCells hpq (vals Y) 0)
                have ht3 := Lib.hid (KI.mk (hs3.out.ha.farCells (b := V49.heap.size) (by omega) (vals Y) 0) (hs3.out.hb.farCells (b := V49.heap.size) (by omega) (vals Y) 0) (below_setCells (g := V49.heap.size) hs3.out.hw (by omega) (vals Y) 0))
                refine hK.out _ _ ht3.out (fun _ => ?_)
                clear hK K
                try simp only [Act.put, List.getElem_toArray, List.getElem_cons_succ, List.getElem_cons_zero, List.setIfInBounds_toArray, List.set_cons_zero, List.set_cons_succ]
                refine wpAnyH_done (by kernel_rfl) ?_ _
                exact rest _ _ _ _ _ ⟨ht3.out, ht1.out, ht2.out⟩
              exact AllReadyH.nil
            exact AllReadyH.nil
          exact AllReadyH.nil
        exact AllReadyH.nil
      refine AllReadyH.cons rfl (fun K hK => ?_) ?_
      next =>
        go_simp
        have hb_67 := below_all V1 (.cells (arrV (noughts 176)) 35)
        have hn_67 := Blk.new V1 35 (noughts 176)
        have hge_67 : w.heap.size + 1 < V1.heap.size := J1.out.hb.lt
        obtain ⟨V67, hV_67⟩ : ∃ V, V1.alloc (.cells (arrV (noughts 176)) 35) = V := ⟨_, rfl⟩
        rw [hV_67] at hb_67 hn_67 ⊢
        have J67 := Lib.hid (J1.out.call hb_67)
        have C67 := Lib.hid (C1.out.below hb_67 C1.out.lt)
        have P6_67 := Lib.hid hn_67
        clear hV_67 hb_67 hn_67
        refine hK.out _ _ J67.out (fun _ => ?_)
        clear hK K
        try simp only [Act.put, List.getElem_toArray, List.getElem_cons_succ, List.getElem_cons_zero, List.setIfInBounds_toArray, List.set_cons_zero, List.set_cons_succ]
        refine wpAnyH_ready (rs := [2, 6]) (by kernel_rfl) (by simp) ?_
        refine AllReadyH.cons rfl (fun K hK => ?_) ?_
        next =>
          go_simp
          go_at_call 16
          refine (RA.out _ _ C67.out).mono ?_
          rintro e V68 ⟨rfl, hb_68⟩
          have J68 := Lib.hid (J67.out.call hb_68)
          have P6_68 := Lib.hid (P6_67.out.below hb_68 P6_67.out.lt)
          clear hb_68
          refine hK.out _ _ J68.out (fun _ => ?_)
          clear hK K
          try simp only [Act.put, List.getElem_toArray, List.getElem_cons_succ, List.getElem_cons_zero, List.setIfInBounds_toArray, List.set_cons_zero, List.set_cons_succ]
          refine wpAnyH_ready (rs := [4, 6]) (by kernel_rfl) (by simp) ?_
          refine AllReadyH.cons rfl (fun K hK => ?_) ?_
          next =>
            go_simp
            go_at_call 15
            refine (NB.out _).mono ?_
            rintro e V69 ⟨g2, rfl, hg_69, hc_69, hb_69⟩
            have J69 := Lib.hid (J68.out.call hb_69)
            have P6_69 := Lib.hid (P6_68.out.below hb_69 P6_68.out.lt)
            have C69 := Lib.hid hc_69
            clear hg_69 hc_69 hb_69
            refine hK.out _ _ J69.out (fun _ => ?_)
            clear hK K
            try simp only [Act.put, List.getElem_toArray, List.getElem_cons_succ, List.getElem_cons_zero, List.setIfInBounds_toArray, List.set_cons_zero, List.set_cons_succ]
            refine wpAnyH_ready (rs := [5, 6]) (by kernel_rfl) (by simp) ?_
            refine AllReadyH.cons rfl (fun K hK => ?_) ?_
            next =>
              go_simp
              go_at_call 16
              refine (RB.out _ _ C69.out).mono ?_
              rintro e V70 ⟨rfl, hb_70⟩
              have J70 := Lib.hid (J69.out.call hb_70)
              have P6_70 := Lib.hid (P6_69.out.below hb_70 P6_69.out.lt)
              clear hb_70
              refine hK.out _ _ J70.out (fun _ => ?_)
              clear hK K
              try simp only [Act.put, List.getElem_toArray, List.getElem_cons_succ, List.getElem_cons_zero, List.setIfInBounds_toArray, List.set_cons_zero, List.set_cons_succ]
              refine wpAnyH_ready (rs := [6]) (by kernel_rfl) (by simp) ?_
              refine AllReadyH.cons rfl (fun K hK => ?_) ?_
              next =>
                go_simp
                have hb_71 := below_all V70 (.cells (arrV (noughts 176)) 35)
                have hn_71 := Blk.new V70 35 (noughts 176)
                have hpq : V70.heap.size ≠ V1.heap.size := Nat.ne_of_gt P6_70.out.lt
                have hge_71 : w.heap.size + 1 < V70.heap.size := J70.out.hb.lt
                obtain ⟨V71, hV_71⟩ : ∃ V, V70.alloc (.cells (arrV (noughts 176)) 35) = V := ⟨_, rfl⟩
                rw [hV_71] at hb_71 hn_71 ⊢
                have J71 := Lib.hid (J70.out.call hb_71)
                have P6_71 := Lib.hid (P6_70.out.below hb_71 P6_70.out.lt)
                have P5_71 := Lib.hid hn_71
                clear hV_71 hb_71 hn_71
                refine hK.out _ _ J71.out (fun _ => ?_)
                clear hK K
                try simp only [Act.put, List.getElem_toArray, List.getElem_cons_succ, List.getElem_cons_zero, List.setIfInBounds_toArray, List.set_cons_zero, List.set_cons_succ]
                refine wpAnyH_ready (rs := [8]) (by kernel_rfl) (by simp) ?_
                refine AllReadyH.cons rfl (fun K hK => ?_) AllReadyH.nil
                rw [if_pos (by rfl)]
                refine wp_store_mid _ _ _ rfl _ _ (List.toArray _) rfl rfl (there176 P5_71.out (noughts_length 176) LX.out.1) (sz176 _ LX.out.1) (all_oneCell_toArray (vals_one _)) ?_
                try simp only [List.toList_toArray]
                have hs1 := Lib.hid (P5_71.out.storeAll (ys := X) (by rw [LX.out.1, noughts_length]))
                have hs2 := Lib.hid (P6_71.out.farCells (Ne.symm hpq) (vals X) 0)
                have hs3 := Lib.hid (KI.mk (J71.out.ha.farCells (b := V70.heap.size) (by omega) (vals X) 0) (J71.out.hb.farCells (b := V70.heap.size) (by omega) (vals X) 0) (below_setCells (g := V70.heap.size) J71.out.hw (by omega) (vals X) 0))
                refine hK.out _ _ hs3.out (fun _ => ?_)
                clear hK K
                try simp only [Act.put, List.getElem_toArray, List.getElem_cons_succ, List.getElem_cons_zero, List.setIfInBounds_toArray, List.set_cons_zero, List.set_cons_succ]
                refine wpAnyH_ready (rs := [9]) (by kernel_rfl) (by simp) ?_
                refine AllReadyH.cons rfl (fun K hK => ?_) AllReadyH.nil
                rw [if_pos (by rfl)]
                refine wp_store_mid _ _ _ rfl _ _ (List.toArray _) rfl rfl (there176 hs2.out (noughts_length 176) LY.out.1) (sz176 _ LY.out.1) (all_oneCell_toArray (vals_one _)) ?_
                try simp only [List.toList_toArray]
                have ht2 := Lib.hid (hs2.out.storeAll (ys := Y) (by rw [LY.out.1, noughts_length]))
                have ht1 := Lib.hid (hs1.out.farCells hpq (vals Y) 0)
                have ht3 := Lib.hid (KI.mk (hs3.out.ha.farCells (b := V1.heap.size) (by omega) (vals Y) 0) (hs3.out.hb.farCells (b := V1.heap.size) (by omega) (vals Y) 0) (below_setCells (g := V1.heap.size) hs3.out.hw (by omega) (vals Y) 0))
                refine hK.out _ _ ht3.out (fun _ => ?_)
                clear hK K
                try simp only [Act.put, List.getElem_toArray, List.getElem_cons_succ, List.getElem_cons_zero, List.setIfInBounds_toArray, List.set_cons_zero, List.set_cons_succ]
                refine wpAnyH_done (by kernel_rfl) ?_ _
                exact rest _ _ _ _ _ ⟨ht3.out, ht1.out, ht2.out⟩
              exact AllReadyH.nil
            refine AllReadyH.cons rfl (fun K hK => ?_) ?_
            next =>
              go_simp
              have hb_73 := below_all V69 (.cells (arrV (noughts 176)) 35)
              have hn_73 := Blk.new V69 35 (noughts 176)
              have hpq : V69.heap.size ≠ V1.heap.size := Nat.ne_of_gt P6_69.out.lt
              have hge_73 : w.heap.size + 1 < V69.heap.size := J69.out.hb.lt
              obtain ⟨V73, hV_73⟩ : ∃ V, V69.alloc (.cells (arrV (noughts 176)) 35) = V := ⟨_, rfl⟩
              rw [hV_73] at hb_73 hn_73 ⊢
              have J73 := Lib.hid (J69.out.call hb_73)
              have P6_73 := Lib.hid (P6_69.out.below hb_73 P6_69.out.lt)
              have C73 := Lib.hid (C69.out.below hb_73 C69.out.lt)
              have P5_73 := Lib.hid hn_73
              clear hV_73 hb_73 hn_73
              refine hK.out _ _ J73.out (fun _ => ?_)
              clear hK K
              try simp only [Act.put, List.getElem_toArray, List.getElem_cons_succ, List.getElem_cons_zero, List.setIfInBounds_toArray, List.set_cons_zero, List.set_cons_succ]
              refine wpAnyH_ready (rs := [5]) (by kernel_rfl) (by simp) ?_
              refine AllReadyH.cons rfl (fun K hK => ?_) ?_
              next =>
                go_simp
                go_at_call 16
                refine (RB.out _ _ C73.out).mono ?_
                rintro e V74 ⟨rfl, hb_74⟩
                have J74 := Lib.hid (J73.out.call hb_74)
                have P5_74 := Lib.hid (P5_73.out.below hb_74 P5_73.out.lt)
                have P6_74 := Lib.hid (P6_73.out.below hb_74 P6_73.out.lt)
                clear hb_74
                refine hK.out _ _ J74.out (fun _ => ?_)
                clear hK K
                try simp only [Act.put, List.getElem_toArray, List.getElem_cons_succ, List.getElem_cons_zero, List.setIfInBounds_toArray, List.set_cons_zero, List.set_cons_succ]
                refine wpAnyH_ready (rs := [8]) (by kernel_rfl) (by simp) ?_
                refine AllReadyH.cons rfl (fun K hK => ?_) AllReadyH.nil
                rw [if_pos (by rfl)]
                refine wp_store_mid _ _ _ rfl _ _ (List.toArray _) rfl rfl (there176 P5_74.out (noughts_length 176) LX.out.1) (sz176 _ LX.out.1) (all_oneCell_toArray (vals_one _)) ?_
                try simp only [List.toList_toArray]
                have hs1 := Lib.hid (P5_74.out.storeAll (ys := X) (by rw [LX.out.1, noughts_length]))
                have hs2 := Lib.hid (P6_74.out.farCells (Ne.symm hpq) (vals X) 0)
                have hs3 := Lib.hid (KI.mk (J74.out.ha.farCells (b := V69.heap.size) (by omega) (vals X) 0) (J74.out.hb.farCells (b := V69.heap.size) (by omega) (vals X) 0) (below_setCells (g := V69.heap.size) J74.out.hw (by omega) (vals X) 0))
                refine hK.out _ _ hs3.out (fun _ => ?_)
                clear hK K
                try simp only [Act.put, List.getElem_toArray, List.getElem_cons_succ, List.getElem_cons_zero, List.setIfInBounds_toArray, List.set_cons_zero, List.set_cons_succ]
                refine wpAnyH_ready (rs := [9]) (by kernel_rfl) (by simp) ?_
                refine AllReadyH.cons rfl (fun K hK => ?_) AllReadyH.nil
                rw [if_pos (by rfl)]
                refine wp_store_mid _ _ _ rfl _ _ (List.toArray _) rfl rfl (there176 hs2.out (noughts_length 176) LY.out.1) (sz176 _ LY.out.1) (all_oneCell_toArray (vals_one _)) ?_
                try simp only [List.toList_toArray]
                have ht2 := Lib.hid (hs2.out.storeAll (ys := Y) (by rw [LY.out.1, noughts_length]))
                have ht1 := Lib.hid (hs1.out.farCells hpq (vals Y) 0)
                have ht3 := Lib.hid (KI.mk (hs3.out.ha.farCells (b := V1.heap.size) (by omega) (vals Y) 0) (hs3.out.hb.farCells (b := V1.heap.size) (by omega) (vals Y) 0) (below_setCells (g := V1.heap.size) hs3.out.hw (by omega) (vals Y) 0))
                refine hK.out _ _ ht3.out (fun _ => ?_)
                clear hK K
                try simp only [Act.put, List.getElem_toArray, List.getElem_cons_succ, List.getElem_cons_zero, List.setIfInBounds_toArray, List.set_cons_zero, List.set_cons_succ]
                refine wpAnyH_done (by kernel_rfl) ?_ _
                exact rest _ _ _ _ _ ⟨ht3.out, ht1.out, ht2.out⟩
              exact AllReadyH.nil
            exact AllReadyH.nil
          refine AllReadyH.cons rfl (fun K hK => ?_) ?_
          next =>
            go_simp
            have hb_76 := below_all V68 (.cells (arrV (noughts 176)) 35)
            have hn_76 := Blk.new V68 35 (noughts 176)
            have hpq : V68.heap.size ≠ V1.heap.size := Nat.ne_of_gt P6_68.out.lt
            have hge_76 : w.heap.size + 1 < V68.heap.size := J68.out.hb.lt
            obtain ⟨V76, hV_76⟩ : ∃ V, V68.alloc (.cells (arrV (noughts 176)) 35) = V := ⟨_, rfl⟩
            rw [hV_76] at hb_76 hn_76 ⊢
            have J76 := Lib.hid (J68.out.call hb_76)
            have P6_76 := Lib.hid (P6_68.out.below hb_76 P6_68.out.lt)
            have P5_76 := Lib.hid hn_76
            clear hV_76 hb_76 hn_76
            refine hK.out _ _ J76.out (fun _ => ?_)
            clear hK K
            try simp only [Act.put, List.getElem_toArray, List.getElem_cons_succ, List.getElem_cons_zero, List.setIfInBounds_toArray, List.set_cons_zero, List.set_cons_succ]
            refine wpAnyH_ready (rs := [4]) (by kernel_rfl) (by simp) ?_
            refine AllReadyH.cons rfl (fun K hK => ?_) ?_
            next =>
              go_simp
              go_at_call 15
              refine (NB.out _).mono ?_
              rintro e V77 ⟨g2, rfl, hg_77, hc_77, hb_77⟩
              have J77 := Lib.hid (J76.out.call hb_77)
              have P5_77 := Lib.hid (P5_76.out.below hb_77 P5_76.out.lt)
              have P6_77 := Lib.hid (P6_76.out.below hb_77 P6_76.out.lt)
              have C77 := Lib.hid hc_77
              clear hg_77 hc_77 hb_77
              refine hK.out _ _ J77.out (fun _ => ?_)
              clear hK K
              try simp only [Act.put, List.getElem_toArray, List.getElem_cons_succ, List.getElem_cons_zero, List.setIfInBounds_toArray, List.set_cons_zero, List.set_cons_succ]
              refine wpAnyH_ready (rs := [5]) (by kernel_rfl) (by simp) ?_
              refine AllReadyH.cons rfl (fun K hK => ?_) ?_
              next =>
                go_simp
                go_at_call 16
                refine (RB.out _ _ C77.out).mono ?_
                rintro e V78 ⟨rfl, hb_78⟩
                have J78 := Lib.hid (J77.out.call hb_78)
                have P5_78 := Lib.hid (P5_77.out.below hb_78 P5_77.out.lt)
                have P6_78 := Lib.hid (P6_77.out.below hb_78 P6_77.out.lt)
                clear hb_78
                refine hK.out _ _ J78.out (fun _ => ?_)
                clear hK K
                try simp only [Act.put, List.getElem_toArray, List.getElem_cons_succ, List.getElem_cons_zero, List.setIfInBounds_toArray, List.set_cons_zero, List.set_cons_succ]
                refine wpAnyH_ready (rs := [8]) (by kernel_rfl) (by simp) ?_
                refine AllReadyH.cons rfl (fun K hK => ?_) AllReadyH.nil
                rw [if_pos (by rfl)]
                refine wp_store_mid _ _ _ rfl _ _ (List.toArray _) rfl rfl (there176 P5_78.out (noughts_length 176) LX.out.1) (sz176 _ LX.out.1) (all_oneCell_toArray (vals_one _)) ?_
                try simp only [List.toList_toArray]
                have hs1 := Lib.hid (P5_78.out.storeAll (ys := X) (by rw [LX.out.1, noughts_length]))
                have hs2 := Lib.hid (P6_78.out.farCells (Ne.symm hpq) (vals X) 0)
                have hs3 := Lib.hid (KI.mk (J78.out.ha.farCells (b := V68.heap.size) (by omega) (vals X) 0) (J78.out.hb.farCells (b := V68.heap.size) (by omega) (vals X) 0) (below_setCells (g := V68.heap.size) J78.out.hw (by omega) (vals X) 0))
                refine hK.out _ _ hs3.out (fun _ => ?_)
                clear hK K
                try simp only [Act.put, List.getElem_toArray, List.getElem_cons_succ, List.getElem_cons_zero, List.setIfInBounds_toArray, List.set_cons_zero, List.set_cons_succ]
                refine wpAnyH_ready (rs := [9]) (by kernel_rfl) (by simp) ?_
                refine AllReadyH.cons rfl (fun K hK => ?_) AllReadyH.nil
                rw [if_pos (by rfl)]
                refine wp_store_mid _ _ _ rfl _ _ (List.toArray _) rfl rfl (there176 hs2.out (noughts_length 176) LY.out.1) (sz176 _ LY.out.1) (all_oneCell_toArray (vals_one _)) ?_
                try simp only [List.toList_toArray]
                have ht2 := Lib.hid (hs2.out.storeAll (ys := Y) (by rw [LY.out.1, noughts_length]))
                have ht1 := Lib.hid (hs1.out.farCells hpq (vals Y) 0)
                have ht3 := Lib.hid (KI.mk (hs3.out.ha.farCells (b := V1.heap.size) (by omega) (vals Y) 0) (hs3.out.hb.farCells (b := V1.heap.size) (by omega) (vals Y) 0) (below_setCells (g := V1.heap.size) hs3.out.hw (by omega) (vals Y) 0))
                refine hK.out _ _ ht3.out (fun _ => ?_)
                clear hK K
                try simp only [Act.put, List.getElem_toArray, List.getElem_cons_succ, List.getElem_cons_zero, List.setIfInBounds_toArray, List.set_cons_zero, List.set_cons_succ]
                refine wpAnyH_done (by kernel_rfl) ?_ _
                exact rest _ _ _ _ _ ⟨ht3.out, ht1.out, ht2.out⟩
              exact AllReadyH.nil
            exact AllReadyH.nil
          exact AllReadyH.nil
        refine AllReadyH.cons rfl (fun K hK => ?_) ?_
        next =>
          go_simp
          have hb_80 := below_all V67 (.cells (arrV (noughts 176)) 35)
          have hn_80 := Blk.new V67 35 (noughts 176)
          have hpq : V67.heap.size ≠ V1.heap.size := Nat.ne_of_gt P6_67.out.lt
          have hge_80 : w.heap.size + 1 < V67.heap.size := J67.out.hb.lt
          obtain ⟨V80, hV_80⟩ : ∃ V, V67.alloc (.cells (arrV (noughts 176)) 35) = V := ⟨_, rfl⟩
          rw [hV_80] at hb_80 hn_80 ⊢
          have J80 := Lib.hid (J67.out.call hb_80)
          have P6_80 := Lib.hid (P6_67.out.below hb_80 P6_67.out.lt)
          have C80 := Lib.hid (C67.out.below hb_80 C67.out.lt)
          have P5_80 := Lib.hid hn_80
          clear hV_80 hb_80 hn_80
          refine hK.out _ _ J80.out (fun _ => ?_)
          clear hK K
          try simp only [Act.put, List.getElem_toArray, List.getElem_cons_succ, List.getElem_cons_zero, List.setIfInBounds_toArray, List.set_cons_zero, List.set_cons_succ]
          refine wpAnyH_ready (rs := [2]) (by kernel_rfl) (by simp) ?_
          refine AllReadyH.cons rfl (fun K hK => ?_) ?_
          next =>
            go_simp
            go_at_call 16
            refine (RA.out _ _ C80.out).mono ?_
            rintro e V81 ⟨rfl, hb_81⟩
            have J81 := Lib.hid (J80.out.call hb_81)
            have P5_81 := Lib.hid (P5_80.out.below hb_81 P5_80.out.lt)
            have P6_81 := Lib.hid (P6_80.out.below hb_81 P6_80.out.lt)
            clear hb_81
            refine hK.out _ _ J81.out (fun _ => ?_)
            clear hK K
            try simp only [Act.put, List.getElem_toArray, List.getElem_cons_succ, List.getElem_cons_zero, List.setIfInBounds_toArray, List.set_cons_zero, List.set_cons_succ]
            refine wpAnyH_ready (rs := [4]) (by kernel_rfl) (by simp) ?_
            refine AllReadyH.cons rfl (fun K hK => ?_) ?_
            next =>
              go_simp
              go_at_call 15
              refine (NB.out _).mono ?_
              rintro e V82 ⟨g2, rfl, hg_82, hc_82, hb_82⟩
              have J82 := Lib.hid (J81.out.call hb_82)
              have P5_82 := Lib.hid (P5_81.out.below hb_82 P5_81.out.lt)
              have P6_82 := Lib.hid (P6_81.out.below hb_82 P6_81.out.lt)
              have C82 := Lib.hid hc_82
              clear hg_82 hc_82 hb_82
              refine hK.out _ _ J82.out (fun _ => ?_)
              clear hK K
              try simp only [Act.put, List.getElem_toArray, List.getElem_cons_succ, List.getElem_cons_zero, List.setIfInBounds_toArray, List.set_cons_zero, List.set_cons_succ]
              refine wpAnyH_ready (rs := [5]) (by kernel_rfl) (by simp) ?_
              refine AllReadyH.cons rfl (fun K hK => ?_) ?_
              next =>
                go_simp
                go_at_call 16
                refine (RB.out _ _ C82.out).mono ?_
                rintro e V83 ⟨rfl, hb_83⟩
                have J83 := Lib.hid (J82.out.call hb_83)
                have P5_83 := Lib.hid (P5_82.out.below hb_83 P5_82.out.lt)
                have P6_83 := Lib.hid (P6_82.out.below hb_83 P6_82.out.lt)
                clear hb_83
                refine hK.out _ _ J83.out (fun _ => ?_)
                clear hK K
                try simp only [Act.put, List.getElem_toArray, List.getElem_cons_succ, List.getElem_cons_zero, List.setIfInBounds_toArray, List.set_cons_zero, List.set_cons_succ]
                refine wpAnyH_ready (rs := [8]) (by kernel_rfl) (by simp) ?_
                refine AllReadyH.cons rfl (fun K hK => ?_) AllReadyH.nil
                rw [if_pos (by rfl)]
                refine wp_store_mid _ _ _ rfl _ _ (List.toArray _) rfl rfl (there176 P5_83.out (noughts_length 176) LX.out.1) (sz176 _ LX.out.1) (all_oneCell_toArray (vals_one _)) ?_
                try simp only [List.toList_toArray]
                have hs1 := Lib.hid (P5_83.out.storeAll (ys := X) (by rw [LX.out.1, noughts_length]))
                have hs2 := Lib.hid (P6_83.out.farCells (Ne.symm hpq) (vals X) 0)
                have hs3 := Lib.hid (KI.mk (J83.out.ha.farCells (b := V67.heap.size) (by omega) (vals X) 0) (J83.out.hb.farCells (b := V67.heap.size) (by omega) (vals X) 0) (below_setCells (g := V67.heap.size) J83.out.hw (by omega) (vals X) 0))
                refine hK.out _ _ hs3.out (fun _ => ?_)
                clear hK K
                try simp only [Act.put, List.getElem_toArray, List.getElem_cons_succ, List.getElem_cons_zero, List.setIfInBounds_toArray, List.set_cons_zero, List.set_cons_succ]
                refine wpAnyH_ready (rs := [9]) (by kernel_rfl) (by simp) ?_
                refine AllReadyH.cons rfl (fun K hK => ?_) AllReadyH.nil
                rw [if_pos (by rfl)]
                refine wp_store_mid _ _ _ rfl _ _ (List.toArray _) rfl rfl (there176 hs2.out (noughts_length 176) LY.out.1) (sz176 _ LY.out.1) (all_oneCell_toArray (vals_one _)) ?_
                try simp only [List.toList_toArray]
                have ht2 := Lib.hid (hs2.out.storeAll (ys := Y) (by rw [LY.out.1, noughts_length]))
                have ht1 := Lib.hid (hs1.out.farCells hpq (vals Y) 0)
                have ht3 := Lib.hid (KI.mk (hs3.out.ha.farCells (b := V1.heap.size) (by omega) (vals Y) 0) (hs3.out.hb.farCells (b := V1.heap.size) (by omega) (vals Y) 0) (below_setCells (g := V1.heap.size) hs3.out.hw (by omega) (vals Y) 0))
                refine hK.out _ _ ht3.out (fun _ => ?_)
                clear hK K
                try simp only [Act.put, List.getElem_toArray, List.getElem_cons_succ, List.getElem_cons_zero, List.setIfInBounds_toArray, List.set_cons_zero, List.set_cons_succ]
                refine wpAnyH_done (by kernel_rfl) ?_ _
                exact rest _ _ _ _ _ ⟨ht3.out, ht1.out, ht2.out⟩
              exact AllReadyH.nil
            exact AllReadyH.nil
          exact AllReadyH.nil
        exact AllReadyH.nil
      exact AllReadyH.nil
    refine AllReadyH.cons rfl (fun K hK => ?_) ?_
    next =>
      go_simp
      have hb_85 := below_all V0 (.cells (arrV (noughts 176)) 35)
      have hn_85 := Blk.new V0 35 (noughts 176)
      have hge_85 : w.heap.size + 1 < V0.heap.size := H0.out.hb.lt
      obtain ⟨V85, hV_85⟩ : ∃ V, V0.alloc (.cells (arrV (noughts 176)) 35) = V := ⟨_, rfl⟩
      rw [hV_85] at hb_85 hn_85 ⊢
      have J85 := Lib.hid (H0.out.call hb_85)
      have P5_85 := Lib.hid hn_85
      clear hV_85 hb_85 hn_85
      refine hK.out _ _ J85.out (fun _ => ?_)
      clear hK K
      try simp only [Act.put, List.getElem_toArray, List.getElem_cons_succ, List.getElem_cons_zero, List.setIfInBounds_toArray, List.set_cons_zero, List.set_cons_succ]
      refine wpAnyH_ready (rs := [1, 7]) (by kernel_rfl) (by simp) ?_
      refine AllReadyH.cons rfl (fun K hK => ?_) ?_
      next =>
        go_simp
        go_at_call 15
        refine (NA.out _).mono ?_
        rintro e V86 ⟨g1, rfl, hg_86, hc_86, hb_86⟩
        have J86 := Lib.hid (J85.out.call hb_86)
        have P5_86 := Lib.hid (P5_85.out.below hb_86 P5_85.out.lt)
        have C86 := Lib.hid hc_86
        clear hg_86 hc_86 hb_86
        refine hK.out _ _ J86.out (fun _ => ?_)
        clear hK K
        try simp only [Act.put, List.getElem_toArray, List.getElem_cons_succ, List.getElem_cons_zero, List.setIfInBounds_toArray, List.set_cons_zero, List.set_cons_succ]
        refine wpAnyH_ready (rs := [2, 7]) (by kernel_rfl) (by simp) ?_
        refine AllReadyH.cons rfl (fun K hK => ?_) ?_
        next =>
          go_simp
          go_at_call 16
          refine (RA.out _ _ C86.out).mono ?_
          rintro e V87 ⟨rfl, hb_87⟩
          have J87 := Lib.hid (J86.out.call hb_87)
          have P5_87 := Lib.hid (P5_86.out.below hb_87 P5_86.out.lt)
          clear hb_87
          refine hK.out _ _ J87.out (fun _ => ?_)
          clear hK K
          try simp only [Act.put, List.getElem_toArray, List.getElem_cons_succ, List.getElem_cons_zero, List.setIfInBounds_toArray, List.set_cons_zero, List.set_cons_succ]
          refine wpAnyH_ready (rs := [4, 7]) (by kernel_rfl) (by simp) ?_
          refine AllReadyH.cons rfl (fun K hK => ?_) ?_
          next =>
            go_simp
            go_at_call 15
            refine (NB.out _).mono ?_
            rintro e V88 ⟨g2, rfl, hg_88, hc_88, hb_88⟩
            have J88 := Lib.hid (J87.out.call hb_88)
            have P5_88 := Lib.hid (P5_87.out.below hb_88 P5_87.out.lt)
            have C88 := Lib.hid hc_88
            clear hg_88 hc_88 hb_88
            refine hK.out _ _ J88.out (fun _ => ?_)
            clear hK K
            try simp only [Act.put, List.getElem_toArray, List.getElem_cons_succ, List.getElem_cons_zero, List.setIfInBounds_toArray, List.set_cons_zero, List.set_cons_succ]
            refine wpAnyH_ready (rs := [5, 7]) (by kernel_rfl) (by simp) ?_
            refine AllReadyH.cons rfl (fun K hK => ?_) ?_
            next =>
              go_simp
              go_at_call 16
              refine (RB.out _ _ C88.out).mono ?_
              rintro e V89 ⟨rfl, hb_89⟩
              have J89 := Lib.hid (J88.out.call hb_89)
              have P5_89 := Lib.hid (P5_88.out.below hb_89 P5_88.out.lt)
              clear hb_89
              refine hK.out _ _ J89.out (fun _ => ?_)
              clear hK K
              try simp only [Act.put, List.getElem_toArray, List.getElem_cons_succ, List.getElem_cons_zero, List.setIfInBounds_toArray, List.set_cons_zero, List.set_cons_succ]
              refine wpAnyH_ready (rs := [7]) (by kernel_rfl) (by simp) ?_
              refine AllReadyH.cons rfl (fun K hK => ?_) ?_
              next =>
                go_simp
                have hb_90 := below_all V89 (.cells (arrV (noughts 176)) 35)
                have hn_90 := Blk.new V89 35 (noughts 176)
                have hpq : V0.heap.size ≠ V89.heap.size := Nat.ne_of_lt P5_89.out.lt
                have hge_90 : w.heap.size + 1 < V89.heap.size := J89.out.hb.lt
                obtain ⟨V90, hV_90⟩ : ∃ V, V89.alloc (.cells (arrV (noughts 176)) 35) = V := ⟨_, rfl⟩
                rw [hV_90] at hb_90 hn_90 ⊢
                have J90 := Lib.hid (J89.out.call hb_90)
                have P5_90 := Lib.hid (P5_89.out.below hb_90 P5_89.out.lt)
                have P6_90 := Lib.hid hn_90
                clear hV_90 hb_90 hn_90
                refine hK.out _ _ J90.out (fun _ => ?_)
                clear hK K
                try simp only [Act.put, List.getElem_toArray, List.getElem_cons_succ, List.getElem_cons_zero, List.setIfInBounds_toArray, List.set_cons_zero, List.set_cons_succ]
                refine wpAnyH_ready (rs := [8]) (by kernel_rfl) (by simp) ?_
                refine AllReadyH.cons rfl (fun K hK => ?_) AllReadyH.nil
                rw [if_pos (by rfl)]
                refine wp_store_mid _ _ _ rfl _ _ (List.toArray _) rfl rfl (there176 P5_90.out (noughts_length 176) LX.out.1) (sz176 _ LX.out.1) (all_oneCell_toArray (vals_one _)) ?_
                try simp only [List.toList_toArray]
                have hs1 := Lib.hid (P5_90.out.storeAll (ys := X) (by rw [LX.out.1, noughts_length]))
                have hs2 := Lib.hid (P6_90.out.farCells (Ne.symm hpq) (vals X) 0)
                have hs3 := Lib.hid (KI.mk (J90.out.ha.farCells (b := V0.heap.size) (by omega) (vals X) 0) (J90.out.hb.farCells (b := V0.heap.size) (by omega) (vals X) 0) (below_setCells (g := V0.heap.size) J90.out.hw (by omega) (vals X) 0))
                refine hK.out _ _ hs3.out (fun _ => ?_)
                clear hK K
                try simp only [Act.put, List.getElem_toArray, List.getElem_cons_succ, List.getElem_cons_zero, List.setIfInBounds_toArray, List.set_cons_zero, List.set_cons_succ]
                refine wpAnyH_ready (rs := [9]) (by kernel_rfl) (by simp) ?_
                refine AllReadyH.cons rfl (fun K hK => ?_) AllReadyH.nil
                rw [if_pos (by rfl)]
                refine wp_store_mid _ _ _ rfl _ _ (List.toArray _) rfl rfl (there176 hs2.out (noughts_length 176) LY.out.1) (sz176 _ LY.out.1) (all_oneCell_toArray (vals_one _)) ?_
                try simp only [List.toList_toArray]
                have ht2 := Lib.hid (hs2.out.storeAll (ys := Y) (by rw [LY.out.1, noughts_length]))
                have ht1 := Lib.hid (hs1.out.farCells hpq (vals Y) 0)
                have ht3 := Lib.hid (KI.mk (hs3.out.ha.farCells (b := V89.heap.size) (by omega) (vals Y) 0) (hs3.out.hb.farCells (b := V89.heap.size) (by omega) (vals Y) 0) (below_setCells (g := V89.heap.size) hs3.out.hw (by omega) (vals Y) 0))
                refine hK.out _ _ ht3.out (fun _ => ?_)
                clear hK K
                try simp only [Act.put, List.getElem_toArray, List.getElem_cons_succ, List.getElem_cons_zero, List.setIfInBounds_toArray, List.set_cons_zero, List.set_cons_succ]
                refine wpAnyH_done (by kernel_rfl) ?_ _
                exact rest _ _ _ _ _ ⟨ht3.out, ht1.out, ht2.out⟩
              exact AllReadyH.nil
            refine AllReadyH.cons rfl (fun K hK => ?_) ?_
            next =>
              go_simp
              have hb_92 := below_all V88 (.cells (arrV (noughts 176)) 35)
              have hn_92 := Blk.new V88 35 (noughts 176)
              have hpq : V0.heap.size ≠ V88.heap.size := Nat.ne_of_lt P5_88.out.lt
              have hge_92 : w.heap.size + 1 < V88.heap.size := J88.out.hb.lt
              obtain ⟨V92, hV_92⟩ : ∃ V, V88.alloc (.cells (arrV (noughts 176)) 35) = V := ⟨_, rfl⟩
              rw [hV_92] at hb_92 hn_92 ⊢
              have J92 := Lib.hid (J88.out.call hb_92)
              have P5_92 := Lib.hid (P5_88.out.below hb_92 P5_88.out.lt)
              have C92 := Lib.hid (C88.out.below hb_92 C88.out.lt)
              have P6_92 := Lib.hid hn_92
              clear hV_92 hb_92 hn_92
              refine hK.out _ _ J92.out (fun _ => ?_)
              clear hK K
              try simp only [Act.put, List.getElem_toArray, List.getElem_cons_succ, List.getElem_cons_zero, List.setIfInBounds_toArray, List.set_cons_zero, List.set_cons_succ]
              refine wpAnyH_ready (rs := [5]) (by kernel_rfl) (by simp) ?_
              refine AllReadyH.cons rfl (fun K hK => ?_) ?_
              next =>
                go_simp
                go_at_call 16
                refine (RB.out _ _ C92.out).mono ?_
                rintro e V93 ⟨rfl, hb_93⟩
                have J93 := Lib.hid (J92.out.call hb_93)
                have P5_93 := Lib.hid (P5_92.out.below hb_93 P5_92.out.lt)
                have P6_93 := Lib.hid (P6_92.out.below hb_93 P6_92.out.lt)
                clear hb_93
                refine hK.out _ _ J93.out (fun _ => ?_)
                clear hK K
                try simp only [Act.put, List.getElem_toArray, List.getElem_cons_succ, List.getElem_cons_zero, List.setIfInBounds_toArray, List.set_cons_zero, List.set_cons_succ]
                refine wpAnyH_ready (rs := [8]) (by kernel_rfl) (by simp) ?_
                refine AllReadyH.cons rfl (fun K hK => ?_) AllReadyH.nil
                rw [if_pos (by rfl)]
                refine wp_store_mid _ _ _ rfl _ _ (List.toArray _) rfl rfl (there176 P5_93.out (noughts_length 176) LX.out.1) (sz176 _ LX.out.1) (all_oneCell_toArray (vals_one _)) ?_
                try simp only [List.toList_toArray]
                have hs1 := Lib.hid (P5_93.out.storeAll (ys := X) (by rw [LX.out.1, noughts_length]))
                have hs2 := Lib.hid (P6_93.out.farCells (Ne.symm hpq) (vals X) 0)
                have hs3 := Lib.hid (KI.mk (J93.out.ha.farCells (b := V0.heap.size) (by omega) (vals X) 0) (J93.out.hb.farCells (b := V0.heap.size) (by omega) (vals X) 0) (below_setCells (g := V0.heap.size) J93.out.hw (by omega) (vals X) 0))
                refine hK.out _ _ hs3.out (fun _ => ?_)
                clear hK K
                try simp only [Act.put, List.getElem_toArray, List.getElem_cons_succ, List.getElem_cons_zero, List.setIfInBounds_toArray, List.set_cons_zero, List.set_cons_succ]
                refine wpAnyH_ready (rs := [9]) (by kernel_rfl) (by simp) ?_
                refine AllReadyH.cons rfl (fun K hK => ?_) AllReadyH.nil
                rw [if_pos (by rfl)]
                refine wp_store_mid _ _ _ rfl _ _ (List.toArray _) rfl rfl (there176 hs2.out (noughts_length 176) LY.out.1) (sz176 _ LY.out.1) (all_oneCell_toArray (vals_one _)) ?_
                try simp only [List.toList_toArray]
                have ht2 := Lib.hid (hs2.out.storeAll (ys := Y) (by rw [LY.out.1, noughts_length]))
                have ht1 := Lib.hid (hs1.out.farCells hpq (vals Y) 0)
                have ht3 := Lib.hid (KI.mk (hs3.out.ha.farCells (b := V88.heap.size) (by omega) (vals Y) 0) (hs3.out.hb.farCells (b := V88.heap.size) (by omega) (vals Y) 0) (below_setCells (g := V88.heap.size) hs3.out.hw (by omega) (vals Y) 0))
                refine hK.out _ _ ht3.out (fun _ => ?_)
                clear hK K
                try simp only [Act.put, List.getElem_toArray, List.getElem_cons_succ, List.getElem_cons_zero, List.setIfInBounds_toArray, List.set_cons_zero, List.set_cons_succ]
                refine wpAnyH_done (by kernel_rfl) ?_ _
                exact rest _ _ _ _ _ ⟨ht3.out, ht1.out, ht2.out⟩
              exact AllReadyH.nil
            exact AllReadyH.nil
          refine AllReadyH.cons rfl (fun K hK => ?_) ?_
          next =>
            go_simp
            have hb_95 := below_all V87 (.cells (arrV (noughts 176)) 35)
            have hn_95 := Blk.new V87 35 (noughts 176)
            have hpq : V0.heap.size ≠ V87.heap.size := Nat.ne_of_lt P5_87.out.lt
            have hge_95 : w.heap.size + 1 < V87.heap.size := J87.out.hb.lt
            obtain ⟨V95, hV_95⟩ : ∃ V, V87.alloc (.cells (arrV (noughts 176)) 35) = V := ⟨_, rfl⟩
            rw [hV_95] at hb_95 hn_95 ⊢
            have J95 := Lib.hid (J87.out.call hb_95)
            have P5_95 := Lib.hid (P5_87.out.below hb_95 P5_87.out.lt)
            have P6_95 := Lib.hid hn_95
            clear hV_95 hb_95 hn_95
            refine hK.out _ _ J95.out (fun _ => ?_)
            clear hK K
            try simp only [Act.put, List.getElem_toArray, List.getElem_cons_succ, List.getElem_cons_zero, List.setIfInBounds_toArray, List.set_cons_zero, List.set_cons_succ]
            refine wpAnyH_ready (rs := [4]) (by kernel_rfl) (by simp) ?_
            refine AllReadyH.cons rfl (fun K hK => ?_) ?_
            next =>
              go_simp
              go_at_call 15
              refine (NB.out _).mono ?_
              rintro e V96 ⟨g2, rfl, hg_96, hc_96, hb_96⟩
              have J96 := Lib.hid (J95.out.call hb_96)
              have P5_96 := Lib.hid (P5_95.out.below hb_96 P5_95.out.lt)
              have P6_96 := Lib.hid (P6_95.out.below hb_96 P6_95.out.lt)
              have C96 := Lib.hid hc_96
              clear hg_96 hc_96 hb_96
              refine hK.out _ _ J96.out (fun _ => ?_)
              clear hK K
              try simp only [Act.put, List.getElem_toArray, List.getElem_cons_succ, List.getElem_cons_zero, List.setIfInBounds_toArray, List.set_cons_zero, List.set_cons_succ]
              refine wpAnyH_ready (rs := [5]) (by kernel_rfl) (by simp) ?_
              refine AllReadyH.cons rfl (fun K hK => ?_) ?_
              next =>
                go_simp
                go_at_call 16
                refine (RB.out _ _ C96.out).mono ?_
                rintro e V97 ⟨rfl, hb_97⟩
                have J97 := Lib.hid (J96.out.call hb_97)
                have P5_97 := Lib.hid (P5_96.out.below hb_97 P5_96.out.lt)
                have P6_97 := Lib.hid (P6_96.out.below hb_97 P6_96.out.lt)
                clear hb_97
                refine hK.out _ _ J97.out (fun _ => ?_)
                clear hK K
                try simp only [Act.put, List.getElem_toArray, List.getElem_cons_succ, List.getElem_cons_zero, List.setIfInBounds_toArray, List.set_cons_zero, List.set_cons_succ]
                refine wpAnyH_ready (rs := [8]) (by kernel_rfl) (by simp) ?_
                refine AllReadyH.cons rfl (fun K hK => ?_) AllReadyH.nil
                rw [if_pos (by rfl)]
                refine wp_store_mid _ _ _ rfl _ _ (List.toArray _) rfl rfl (there176 P5_97.out (noughts_length 176) LX.out.1) (sz176 _ LX.out.1) (all_oneCell_toArray (vals_one _)) ?_
                try simp only [List.toList_toArray]
                have hs1 := Lib.hid (P5_97.out.storeAll (ys := X) (by rw [LX.out.1, noughts_length]))
                have hs2 := Lib.hid (P6_97.out.farCells (Ne.symm hpq) (vals X) 0)
                have hs3 := Lib.hid (KI.mk (J97.out.ha.farCells (b := V0.heap.size) (by omega) (vals X) 0) (J97.out.hb.farCells (b := V0.heap.size) (by omega) (vals X) 0) (below_setCells (g := V0.heap.size) J97.out.hw (by omega) (vals X) 0))
                refine hK.out _ _ hs3.out (fun _ => ?_)
                clear hK K
                try simp only [Act.put, List.getElem_toArray, List.getElem_cons_succ, List.getElem_cons_zero, List.setIfInBounds_toArray, List.set_cons_zero, List.set_cons_succ]
                refine wpAnyH_ready (rs := [9]) (by kernel_rfl) (by simp) ?_
                refine AllReadyH.cons rfl (fun K hK => ?_) AllReadyH.nil
                rw [if_pos (by rfl)]
                refine wp_store_mid _ _ _ rfl _ _ (List.toArray _) rfl rfl (there176 hs2.out (noughts_length 176) LY.out.1) (sz176 _ LY.out.1) (all_oneCell_toArray (vals_one _)) ?_
                try simp only [List.toList_toArray]
                have ht2 := Lib.hid (hs2.out.storeAll (ys := Y) (by rw [LY.out.1, noughts_length]))
                have ht1 := Lib.hid (hs1.out.farCells hpq (vals Y) 0)
                have ht3 := Lib.hid (KI.mk (hs3.out.ha.farCells (b := V87.heap.size) (by omega) (vals Y) 0) (hs3.out.hb.farCells (b := V87.heap.size) (by omega) (vals Y) 0) (below_setCells (g := V87.heap.size) hs3.out.hw (by omega) (vals Y) 0))
                refine hK.out _ _ ht3.out (fun _ => ?_)
                clear hK K
                try simp only [Act.put, List.getElem_toArray, List.getElem_cons_succ, List.getElem_cons_zero, List.setIfInBounds_toArray, List.set_cons_zero, List.set_cons_succ]
                refine wpAnyH_done (by kernel_rfl) ?_ _
                exact rest _ _ _ _ _ ⟨ht3.out, ht1.out, ht2.out⟩
              exact AllReadyH.nil
            exact AllReadyH.nil
          exact AllReadyH.nil
        refine AllReadyH.cons rfl (fun K hK => ?_) ?_
        next =>
          go_simp
          have hb_99 := below_all V86 (.cells (arrV (noughts 176)) 35)
          have hn_99 := Blk.new V86 35 (noughts 176)
          have hpq : V0.heap.size ≠ V86.heap.size := Nat.ne_of_lt P5_86.out.lt
          have hge_99 : w.heap.size + 1 < V86.heap.size := J86.out.hb.lt
          obtain ⟨V99, hV_99⟩ : ∃ V, V86.alloc (.cells (arrV (noughts 176)) 35) = V := ⟨_, rfl⟩
          rw [hV_99] at hb_99 hn_99 ⊢
          have J99 := Lib.hid (J86.out.call hb_99)
          have P5_99 := Lib.hid (P5_86.out.below hb_99 P5_86.out.lt)
          have C99 := Lib.hid (C86.out.below hb_99 C86.out.lt)
          have P6_99 := Lib.hid hn_99
          clear hV_99 hb_99 hn_99
          refine hK.out _ _ J99.out (fun _ => ?_)
          clear hK K
          try simp only [Act.put, List.getElem_toArray, List.getElem_cons_succ, List.getElem_cons_zero, List.setIfInBounds_toArray, List.set_cons_zero, List.set_cons_succ]
          refine wpAnyH_ready (rs := [2]) (by kernel_rfl) (by simp) ?_
          refine AllReadyH.cons rfl (fun K hK => ?_) ?_
          next =>
            go_simp
            go_at_call 16
            refine (RA.out _ _ C99.out).mono ?_
            rintro e V100 ⟨rfl, hb_100⟩
            have J100 := Lib.hid (J99.out.call hb_100)
            have P5_100 := Lib.hid (P5_99.out.below hb_100 P5_99.out.lt)
            have P6_100 := Lib.hid (P6_99.out.below hb_100 P6_99.out.lt)
            clear hb_100
            refine hK.out _ _ J100.out (fun _ => ?_)
            clear hK K
            try simp only [Act.put, List.getElem_toArray, List.getElem_cons_succ, List.getElem_cons_zero, List.setIfInBounds_toArray, List.set_cons_zero, List.set_cons_succ]
            refine wpAnyH_ready (rs := [4]) (by kernel_rfl) (by simp) ?_
            refine AllReadyH.cons rfl (fun K hK => ?_) ?_
            next =>
              go_simp
              go_at_call 15
              refine (NB.out _).mono ?_
              rintro e V101 ⟨g2, rfl, hg_101, hc_101, hb_101⟩
              have J101 := Lib.hid (J100.out.call hb_101)
              have P5_101 := Lib.hid (P5_100.out.below hb_101 P5_100.out.lt)
              have P6_101 := Lib.hid (P6_100.out.below hb_101 P6_100.out.lt)
              have C101 := Lib.hid hc_101
              clear hg_101 hc_101 hb_101
              refine hK.out _ _ J101.out (fun _ => ?_)
              clear hK K
              try simp only [Act.put, List.getElem_toArray, List.getElem_cons_succ, List.getElem_cons_zero, List.setIfInBounds_toArray, List.set_cons_zero, List.set_cons_succ]
              refine wpAnyH_ready (rs := [5]) (by kernel_rfl) (by simp) ?_
              refine AllReadyH.cons rfl (fun K hK => ?_) ?_
              next =>
                go_simp
                go_at_call 16
                refine (RB.out _ _ C101.out).mono ?_
                rintro e V102 ⟨rfl, hb_102⟩
                have J102 := Lib.hid (J101.out.call hb_102)
                have P5_102 := Lib.hid (P5_101.out.below hb_102 P5_101.out.lt)
                have P6_102 := Lib.hid (P6_101.out.below hb_102 P6_101.out.lt)
                clear hb_102
                refine hK.out _ _ J102.out (fun _ => ?_)
                clear hK K
                try simp only [Act.put, List.getElem_toArray, List.getElem_cons_succ, List.getElem_cons_zero, List.setIfInBounds_toArray, List.set_cons_zero, List.set_cons_succ]
                refine wpAnyH_ready (rs := [8]) (by kernel_rfl) (by simp) ?_
                refine AllReadyH.cons rfl (fun K hK => ?_) AllReadyH.nil
                rw [if_pos (by rfl)]
                refine wp_store_mid _ _ _ rfl _ _ (List.toArray _) rfl rfl (there176 P5_102.out (noughts_length 176) LX.out.1) (sz176 _ LX.out.1) (all_oneCell_toArray (vals_one _)) ?_
                try simp only [List.toList_toArray]
                have hs1 := Lib.hid (P5_102.out.storeAll (ys := X) (by rw [LX.out.1, noughts_length]))
                have hs2 := Lib.hid (P6_102.out.farCells (Ne.symm hpq) (vals X) 0)
                have hs3 := Lib.hid (KI.mk (J102.out.ha.farCells (b := V0.heap.size) (by omega) (vals X) 0) (J102.out.hb.farCells (b := V0.heap.size) (by omega) (vals X) 0) (below_setCells (g := V0.heap.size) J102.out.hw (by omega) (vals X) 0))
                refine hK.out _ _ hs3.out (fun _ => ?_)
                clear hK K
                try simp only [Act.put, List.getElem_toArray, List.getElem_cons_succ, List.getElem_cons_zero, List.setIfInBounds_toArray, List.set_cons_zero, List.set_cons_succ]
                refine wpAnyH_ready (rs := [9]) (by kernel_rfl) (by simp) ?_
                refine AllReadyH.cons rfl (fun K hK => ?_) AllReadyH.nil
                rw [if_pos (by rfl)]
                refine wp_store_mid _ _ _ rfl _ _ (List.toArray _) rfl rfl (there176 hs2.out (noughts_length 176) LY.out.1) (sz176 _ LY.out.1) (all_oneCell_toArray (vals_one _)) ?_
                try simp only [List.toList_toArray]
                have ht2 := Lib.hid (hs2.out.storeAll (ys := Y) (by rw [LY.out.1, noughts_length]))
                have ht1 := Lib.hid (hs1.out.farCells hpq (vals Y) 0)
                have ht3 := Lib.hid (KI.mk (hs3.out.ha.farCells (b := V86.heap.size) (by omega) (vals Y) 0) (hs3.out.hb.farCells (b := V86.heap.size) (by omega) (vals Y) 0) (below_setCells (g := V86.heap.size) hs3.out.hw (by omega) (vals Y) 0))
                refine hK.out _ _ ht3.out (fun _ => ?_)
                clear hK K
                try simp only [Act.put, List.getElem_toArray, List.getElem_cons_succ, List.getElem_cons_zero, List.setIfInBounds_toArray, List.set_cons_zero, List.set_cons_succ]
                refine wpAnyH_done (by kernel_rfl) ?_ _
                exact rest _ _ _ _ _ ⟨ht3.out, ht1.out, ht2.out⟩
              exact AllReadyH.nil
            exact AllReadyH.nil
          exact AllReadyH.nil
        exact AllReadyH.nil
      refine AllReadyH.cons rfl (fun K hK => ?_) ?_
      next =>
        go_simp
        have hb_104 := below_all V85 (.cells (arrV (noughts 176)) 35)
        have hn_104 := Blk.new V85 35 (noughts 176)
        have hpq : V0.heap.size ≠ V85.heap.size := Nat.ne_of_lt P5_85.out.lt
        have hge_104 : w.heap.size + 1 < V85.heap.size := J85.out.hb.lt
        obtain ⟨V104, hV_104⟩ : ∃ V, V85.alloc (.cells (arrV (noughts 176)) 35) = V := ⟨_, rfl⟩
        rw [hV_104] at hb_104 hn_104 ⊢
        have J104 := Lib.hid (J85.out.call hb_104)
        have P5_104 := Lib.hid (P5_85.out.below hb_104 P5_85.out.lt)
        have P6_104 := Lib.hid hn_104
        clear hV_104 hb_104 hn_104
        refine hK.out _ _ J104.out (fun _ => ?_)
        clear hK K
        try simp only [Act.put, List.getElem_toArray, List.getElem_cons_succ, List.getElem_cons_zero, List.setIfInBounds_toArray, List.set_cons_zero, List.set_cons_succ]
        refine wpAnyH_ready (rs := [1]) (by kernel_rfl) (by simp) ?_
        refine AllReadyH.cons rfl (fun K hK => ?_) ?_
        next =>
          go_simp
          go_at_call 15
          refine (NA.out _).mono ?_
          rintro e V105 ⟨g1, rfl, hg_105, hc_105, hb_105⟩
          have J105 := Lib.hid (J104.out.call hb_105)
          have P5_105 := Lib.hid (P5_104.out.below hb_105 P5_104.out.lt)
          have P6_105 := Lib.hid (P6_104.out.below hb_105 P6_104.out.lt)
          have C105 := Lib.hid hc_105
          clear hg_105 hc_105 hb_105
          refine hK.out _ _ J105.out (fun _ => ?_)
          clear hK K
          try simp only [Act.put, List.getElem_toArray, List.getElem_cons_succ, List.getElem_cons_zero, List.setIfInBounds_toArray, List.set_cons_zero, List.set_cons_succ]
          refine wpAnyH_ready (rs := [2]) (by kernel_rfl) (by simp) ?_
          refine AllReadyH.cons rfl (fun K hK => ?_) ?_
          next =>
            go_simp
            go_at_call 16
            refine (RA.out _ _ C105.out).mono ?_
            rintro e V106 ⟨rfl, hb_106⟩
            have J106 := Lib.hid (J105.out.call hb_106)
            have P5_106 := Lib.hid (P5_105.out.below hb_106 P5_105.out.lt)
            have P6_106 := Lib.hid (P6_105.out.below hb_106 P6_105.out.lt)
            clear hb_106
            refine hK.out _ _ J106.out (fun _ => ?_)
            clear hK K
            try simp only [Act.put, List.getElem_toArray, List.getElem_cons_succ, List.getElem_cons_zero, List.setIfInBounds_toArray, List.set_cons_zero, List.set_cons_succ]
            refine wpAnyH_ready (rs := [4]) (by kernel_rfl) (by simp) ?_
            refine AllReadyH.cons rfl (fun K hK => ?_) ?_
            next =>
              go_simp
              go_at_call 15
              refine (NB.out _).mono ?_
              rintro e V107 ⟨g2, rfl, hg_107, hc_107, hb_107⟩
              have J107 := Lib.hid (J106.out.call hb_107)
              have P5_107 := Lib.hid (P5_106.out.below hb_107 P5_106.out.lt)
              have P6_107 := Lib.hid (P6_106.out.below hb_107 P6_106.out.lt)
              have C107 := Lib.hid hc_107
              clear hg_107 hc_107 hb_107
              refine hK.out _ _ J107.out (fun _ => ?_)
              clear hK K
              try simp only [Act.put, List.getElem_toArray, List.getElem_cons_succ, List.getElem_cons_zero, List.setIfInBounds_toArray, List.set_cons_zero, List.set_cons_succ]
              refine wpAnyH_ready (rs := [5]) (by kernel_rfl) (by simp) ?_
              refine AllReadyH.cons rfl (fun K hK => ?_) ?_
              next =>
                go_simp
                go_at_call 16
                refine (RB.out _ _ C107.out).mono ?_
                rintro e V108 ⟨rfl, hb_108⟩
                have J108 := Lib.hid (J107.out.call hb_108)
                have P5_108 := Lib.hid (P5_107.out.below hb_108 P5_107.out.lt)
                have P6_108 := Lib.hid (P6_107.out.below hb_108 P6_107.out.lt)
                clear hb_108
                refine hK.out _ _ J108.out (fun _ => ?_)
                clear hK K
                try simp only [Act.put, List.getElem_toArray, List.getElem_cons_succ, List.getElem_cons_zero, List.setIfInBounds_toArray, List.set_cons_zero, List.set_cons_succ]
                refine wpAnyH_ready (rs := [8]) (by kernel_rfl) (by simp) ?_
                refine AllReadyH.cons rfl (fun K hK => ?_) AllReadyH.nil
                rw [if_pos (by rfl)]
                refine wp_store_mid _ _ _ rfl _ _ (List.toArray _) rfl rfl (there176 P5_108.out (noughts_length 176) LX.out.1) (sz176 _ LX.out.1) (all_oneCell_toArray (vals_one _)) ?_
                try simp only [List.toList_toArray]
                have hs1 := Lib.hid (P5_108.out.storeAll (ys := X) (by rw [LX.out.1, noughts_length]))
                have hs2 := Lib.hid (P6_108.out.farCells (Ne.symm hpq) (vals X) 0)
                have hs3 := Lib.hid (KI.mk (J108.out.ha.farCells (b := V0.heap.size) (by omega) (vals X) 0) (J108.out.hb.farCells (b := V0.heap.size) (by omega) (vals X) 0) (below_setCells (g := V0.heap.size) J108.out.hw (by omega) (vals X) 0))
                refine hK.out _ _ hs3.out (fun _ => ?_)
                clear hK K
                try simp only [Act.put, List.getElem_toArray, List.getElem_cons_succ, List.getElem_cons_zero, List.setIfInBounds_toArray, List.set_cons_zero, List.set_cons_succ]
                refine wpAnyH_ready (rs := [9]) (by kernel_rfl) (by simp) ?_
                refine AllReadyH.cons rfl (fun K hK => ?_) AllReadyH.nil
                rw [if_pos (by rfl)]
                refine wp_store_mid _ _ _ rfl _ _ (List.toArray _) rfl rfl (there176 hs2.out (noughts_length 176) LY.out.1) (sz176 _ LY.out.1) (all_oneCell_toArray (vals_one _)) ?_
                try simp only [List.toList_toArray]
                have ht2 := Lib.hid (hs2.out.storeAll (ys := Y) (by rw [LY.out.1, noughts_length]))
                have ht1 := Lib.hid (hs1.out.farCells hpq (vals Y) 0)
                have ht3 := Lib.hid (KI.mk (hs3.out.ha.farCells (b := V85.heap.size) (by omega) (vals Y) 0) (hs3.out.hb.farCells (b := V85.heap.size) (by omega) (vals Y) 0) (below_setCells (g := V85.heap.size) hs3.out.hw (by omega) (vals Y) 0))
                refine hK.out _ _ ht3.out (fun _ => ?_)
                clear hK K
                try simp only [Act.put, List.getElem_toArray, List.getElem_cons_succ, List.getElem_cons_zero, List.setIfInBounds_toArray, List.set_cons_zero, List.set_cons_succ]
                refine wpAnyH_done (by kernel_rfl) ?_ _
                exact rest _ _ _ _ _ ⟨ht3.out, ht1.out, ht2.out⟩
              exact AllReadyH.nil
            exact AllReadyH.nil
          exact AllReadyH.nil
        exact AllReadyH.nil
      exact AllReadyH.nil
    refine AllReadyH.cons rfl (fun K hK => ?_) ?_
    next =>
      go_simp
      have hb_110 := below_all V0 (.cells (arrV (noughts 176)) 35)
      have hn_110 := Blk.new V0 35 (noughts 176)
      have hge_110 : w.heap.size + 1 < V0.heap.size := H0.out.hb.lt
      obtain ⟨V110, hV_110⟩ : ∃ V, V0.alloc (.cells (arrV (noughts 176)) 35) = V := ⟨_, rfl⟩
      rw [hV_110] at hb_110 hn_110 ⊢
      have J110 := Lib.hid (H0.out.call hb_110)
      have P6_110 := Lib.hid hn_110
      clear hV_110 hb_110 hn_110
      refine hK.out _ _ J110.out (fun _ => ?_)
      clear hK K
      try simp only [Act.put, List.getElem_toArray, List.getElem_cons_succ, List.getElem_cons_zero, List.setIfInBounds_toArray, List.set_cons_zero, List.set_cons_succ]
      refine wpAnyH_ready (rs := [1, 6]) (by kernel_rfl) (by simp) ?_
      refine AllReadyH.cons rfl (fun K hK => ?_) ?_
      next =>
        go_simp
        go_at_call 15
        refine (NA.out _).mono ?_
        rintro e V111 ⟨g1, rfl, hg_111, hc_111, hb_111⟩
        have J111 := Lib.hid (J110.out.call hb_111)
        have P6_111 := Lib.hid (P6_110.out.below hb_111 P6_110.out.lt)
        have C111 := Lib.hid hc_111
        clear hg_111 hc_111 hb_111
        refine hK.out _ _ J111.out (fun _ => ?_)
        clear hK K
        try simp only [Act.put, List.getElem_toArray, List.getElem_cons_succ, List.getElem_cons_zero, List.setIfInBounds_toArray, List.set_cons_zero, List.set_cons_succ]
        refine wpAnyH_ready (rs := [2, 6]) (by kernel_rfl) (by simp) ?_
        refine AllReadyH.cons rfl (fun K hK => ?_) ?_
        next =>
          go_simp
          go_at_call 16
          refine (RA.out _ _ C111.out).mono ?_
          rintro e V112 ⟨rfl, hb_112⟩
          have J112 := Lib.hid (J111.out.call hb_112)
          have P6_112 := Lib.hid (P6_111.out.below hb_112 P6_111.out.lt)
          clear hb_112
          refine hK.out _ _ J112.out (fun _ => ?_)
          clear hK K
          try simp only [Act.put, List.getElem_toArray, List.getElem_cons_succ, List.getElem_cons_zero, List.setIfInBounds_toArray, List.set_cons_zero, List.set_cons_succ]
          refine wpAnyH_ready (rs := [4, 6]) (by kernel_rfl) (by simp) ?_
          refine AllReadyH.cons rfl (fun K hK => ?_) ?_
          next =>
            go_simp
            go_at_call 15
            refine (NB.out _).mono ?_
            rintro e V113 ⟨g2, rfl, hg_113, hc_113, hb_113⟩
            have J113 := Lib.hid (J112.out.call hb_113)
            have P6_113 := Lib.hid (P6_112.out.below hb_113 P6_112.out.lt)
            have C113 := Lib.hid hc_113
            clear hg_113 hc_113 hb_113
            refine hK.out _ _ J113.out (fun _ => ?_)
            clear hK K
            try simp only [Act.put, List.getElem_toArray, List.getElem_cons_succ, List.getElem_cons_zero, List.setIfInBounds_toArray, List.set_cons_zero, List.set_cons_succ]
            refine wpAnyH_ready (rs := [5, 6]) (by kernel_rfl) (by simp) ?_
            refine AllReadyH.cons rfl (fun K hK => ?_) ?_
            next =>
              go_simp
              go_at_call 16
              refine (RB.out _ _ C113.out).mono ?_
              rintro e V114 ⟨rfl, hb_114⟩
              have J114 := Lib.hid (J113.out.call hb_114)
              have P6_114 := Lib.hid (P6_113.out.below hb_114 P6_113.out.lt)
              clear hb_114
              refine hK.out _ _ J114.out (fun _ => ?_)
              clear hK K
              try simp only [Act.put, List.getElem_toArray, List.getElem_cons_succ, List.getElem_cons_zero, List.setIfInBounds_toArray, List.set_cons_zero, List.set_cons_succ]
              refine wpAnyH_ready (rs := [6]) (by kernel_rfl) (by simp) ?_
              refine AllReadyH.cons rfl (fun K hK => ?_) ?_
              next =>
                go_simp
                have hb_115 := below_all V114 (.cells (arrV (noughts 176)) 35)
                have hn_115 := Blk.new V114 35 (noughts 176)
                have hpq : V114.heap.size ≠ V0.heap.size := Nat.ne_of_gt P6_114.out.lt
                have hge_115 : w.heap.size + 1 < V114.heap.size := J114.out.hb.lt
                obtain ⟨V115, hV_115⟩ : ∃ V, V114.alloc (.cells (arrV (noughts 176)) 35) = V := ⟨_, rfl⟩
                rw [hV_115] at hb_115 hn_115 ⊢
                have J115 := Lib.hid (J114.out.call hb_115)
                have P6_115 := Lib.hid (P6_114.out.below hb_115 P6_114.out.lt)
                have P5_115 := Lib.hid hn_115
                clear hV_115 hb_115 hn_115
                refine hK.out _ _ J115.out (fun _ => ?_)
                clear hK K
                try simp only [Act.put, List.getElem_toArray, List.getElem_cons_succ, List.getElem_cons_zero, List.setIfInBounds_toArray, List.set_cons_zero, List.set_cons_succ]
                refine wpAnyH_ready (rs := [8]) (by kernel_rfl) (by simp) ?_
                refine AllReadyH.cons rfl (fun K hK => ?_) AllReadyH.nil
                rw [if_pos (by rfl)]
                refine wp_store_mid _ _ _ rfl _ _ (List.toArray _) rfl rfl (there176 P5_115.out (noughts_length 176) LX.out.1) (sz176 _ LX.out.1) (all_oneCell_toArray (vals_one _)) ?_
                try simp only [List.toList_toArray]
                have hs1 := Lib.hid (P5_115.out.storeAll (ys := X) (by rw [LX.out.1, noughts_length]))
                have hs2 := Lib.hid (P6_115.out.farCells (Ne.symm hpq) (vals X) 0)
                have hs3 := Lib.hid (KI.mk (J115.out.ha.farCells (b := V114.heap.size) (by omega) (vals X) 0) (J115.out.hb.farCells (b := V114.heap.size) (by omega) (vals X) 0) (below_setCells (g := V114.heap.size) J115.out.hw (by omega) (vals X) 0))
                refine hK.out _ _ hs3.out (fun _ => ?_)
                clear hK K
                try simp only [Act.put, List.getElem_toArray, List.getElem_cons_succ, List.getElem_cons_zero, List.setIfInBounds_toArray, List.set_cons_zero, List.set_cons_succ]
                refine wpAnyH_ready (rs := [9]) (by kernel_rfl) (by simp) ?_
                refine AllReadyH.cons rfl (fun K hK => ?_) AllReadyH.nil
                rw [if_pos (by rfl)]
                refine wp_store_mid _ _ _ rfl _ _ (List.toArray _) rfl rfl (there176 hs2.out (noughts_length 176) LY.out.1) (sz176 _ LY.out.1) (all_oneCell_toArray (vals_one _)) ?_
                try simp only [List.toList_toArray]
                have ht2 := Lib.hid (hs2.out.storeAll (ys := Y) (by rw [LY.out.1, noughts_length]))
                have ht1 := Lib.hid (hs1.out.farCells hpq (vals Y) 0)
                have ht3 := Lib.hid (KI.mk (hs3.out.ha.farCells (b := V0.heap.size) (by omega) (vals Y) 0) (hs3.out.hb.farCells (b := V0.heap.size) (by omega) (vals Y) 0) (below_setCells (g := V0.heap.size) hs3.out.hw (by omega) (vals Y) 0))
                refine hK.out _ _ ht3.out (fun _ => ?_)
                clear hK K
                try simp only [Act.put, List.getElem_toArray, List.getElem_cons_succ, List.getElem_cons_zero, List.setIfInBounds_toArray, List.set_cons_zero, List.set_cons_succ]
                refine wpAnyH_done (by kernel_rfl) ?_ _
                exact rest _ _ _ _ _ ⟨ht3.out, ht1.out, ht2.out⟩
              exact AllReadyH.nil
            refine AllReadyH.cons rfl (fun K hK => ?_) ?_
            next =>
              go_simp
              have hb_117 := below_all V113 (.cells (arrV (noughts 176)) 35)
              have hn_117 := Blk.new V113 35 (noughts 176)
              have hpq : V113.heap.size ≠ V0.heap.size := Nat.ne_of_gt P6_113.out.lt
              have hge_117 : w.heap.size + 1 < V113.heap.size := J113.out.hb.lt
              obtain ⟨V117, hV_117⟩ : ∃ V, V113.alloc (.cells (arrV (noughts 176)) 35) = V := ⟨_, rfl⟩
              rw [hV_117] at hb_117 hn_117 ⊢
              have J117 := Lib.hid (J113.out.call hb_117)
              have P6_117 := Lib.hid (P6_113.out.below hb_117 P6_113.out.lt)
              have C117 := Lib.hid (C113.out.below hb_117 C113.out.lt)
              have P5_117 := Lib.hid hn_117
              clear hV_117 hb_117 hn_117
              refine hK.out _ _ J117.out (fun _ => ?_)
              clear hK K
              try simp only [Act.put, List.getElem_toArray, List.getElem_cons_succ, List.getElem_cons_zero, List.setIfInBounds_toArray, List.set_cons_zero, List.set_cons_succ]
              refine wpAnyH_ready (rs := [5]) (by kernel_rfl) (by simp) ?_
              refine AllReadyH.cons rfl (fun K hK => ?_) ?_
              next =>
                go_simp
                go_at_call 16
                refine (RB.out _ _ C117.out).mono ?_
                rintro e V118 ⟨rfl, hb_118⟩
                have J118 := Lib.hid (J117.out.call hb_118)
                have P5_118 := Lib.hid (P5_117.out.below hb_118 P5_117.out.lt)
                have P6_118 := Lib.hid (P6_117.out.below hb_118 P6_117.out.lt)
                clear hb_118
                refine hK.out _ _ J118.out (fun _ => ?_)
                clear hK K
                try simp only [Act.put, List.getElem_toArray, List.getElem_cons_succ, List.getElem_cons_zero, List.setIfInBounds_toArray, List.set_cons_zero, List.set_cons_succ]
                refine wpAnyH_ready (rs := [8]) (by kernel_rfl) (by simp) ?_
                refine AllReadyH.cons rfl (fun K hK => ?_) AllReadyH.nil
                rw [if_pos (by rfl)]
                refine wp_store_mid _ _ _ rfl _ _ (List.toArray _) rfl rfl (there176 P5_118.out (noughts_length 176) LX.out.1) (sz176 _ LX.out.1) (all_oneCell_toArray (vals_one _)) ?_
                try simp only [List.toList_toArray]
                have hs1 := Lib.hid (P5_118.out.storeAll (ys := X) (by rw [LX.out.1, noughts_length]))
                have hs2 := Lib.hid (P6_118.out.farCells (Ne.symm hpq) (vals X) 0)
                have hs3 := Lib.hid (KI.mk (J118.out.ha.farCells (b := V113.heap.size) (by omega) (vals X) 0) (J118.out.hb.farCells (b := V113.heap.size) (by omega) (vals X) 0) (below_setCells (g := V113.heap.size) J118.out.hw (by omega) (vals X) 0))
                refine hK.out _ _ hs3.out (fun _ => ?_)
                clear hK K
                try simp only [Act.put, List.getElem_toArray, List.getElem_cons_succ, List.getElem_cons_zero, List.setIfInBounds_toArray, List.set_cons_zero, List.set_cons_succ]
                refine wpAnyH_ready (rs := [9]) (by kernel_rfl) (by simp) ?_
                refine AllReadyH.cons rfl (fun K hK => ?_) AllReadyH.nil
                rw [if_pos (by rfl)]
                refine wp_store_mid _ _ _ rfl _ _ (List.toArray _) rfl rfl (there176 hs2.out (noughts_length 176) LY.out.1) (sz176 _ LY.out.1) (all_oneCell_toArray (vals_one _)) ?_
                try simp only [List.toList_toArray]
                have ht2 := Lib.hid (hs2.out.storeAll (ys := Y) (by rw [LY.out.1, noughts_length]))
                have ht1 := Lib.hid (hs1.out.farCells hpq (vals Y) 0)
                have ht3 := Lib.hid (KI.mk (hs3.out.ha.farCells (b := V0.heap.size) (by omega) (vals Y) 0) (hs3.out.hb.farCells (b := V0.heap.size) (by omega) (vals Y) 0) (below_setCells (g := V0.heap.size) hs3.out.hw (by omega) (vals Y) 0))
                refine hK.out _ _ ht3.out (fun _ => ?_)
                clear hK K
                try simp only [Act.put, List.getElem_toArray, List.getElem_cons_succ, List.getElem_cons_zero, List.setIfInBounds_toArray, List.set_cons_zero, List.set_cons_succ]
                refine wpAnyH_done (by kernel_rfl) ?_ _
                exact rest _ _ _ _ _ ⟨ht3.out, ht1.out, ht2.out⟩
              exact AllReadyH.nil
            exact AllReadyH.nil
          refine AllReadyH.cons rfl (fun K hK => ?_) ?_
          next =>
            go_simp
            have hb_120 := below_all V112 (.cells (arrV (noughts 176)) 35)
            have hn_120 := Blk.new V112 35 (noughts 176)
            have hpq : V112.heap.size ≠ V0.heap.size := Nat.ne_of_gt P6_112.out.lt
            have hge_120 : w.heap.size + 1 < V112.heap.size := J112.out.hb.lt
            obtain ⟨V120, hV_120⟩ : ∃ V, V112.alloc (.cells (arrV (noughts 176)) 35) = V := ⟨_, rfl⟩
            rw [hV_120] at hb_120 hn_120 ⊢
            have J120 := Lib.hid (J112.out.call hb_120)
            have P6_120 := Lib.hid (P6_112.out.below hb_120 P6_112.out.lt)
            have P5_120 := Lib.hid hn_120
            clear hV_120 hb_120 hn_120
            refine hK.out _ _ J120.out (fun _ => ?_)
            clear hK K
            try simp only [Act.put, List.getElem_toArray, List.getElem_cons_succ, List.getElem_cons_zero, List.setIfInBounds_toArray, List.set_cons_zero, List.set_cons_succ]
            refine wpAnyH_ready (rs := [4]) (by kernel_rfl) (by simp) ?_
            refine AllReadyH.cons rfl (fun K hK => ?_) ?_
            next =>
              go_simp
              go_at_call 15
              refine (NB.out _).mono ?_
              rintro e V121 ⟨g2, rfl, hg_121, hc_121, hb_121⟩
              have J121 := Lib.hid (J120.out.call hb_121)
              have P5_121 := Lib.hid (P5_120.out.below hb_121 P5_120.out.lt)
              have P6_121 := Lib.hid (P6_120.out.below hb_121 P6_120.out.lt)
              have C121 := Lib.hid hc_121
              clear hg_121 hc_121 hb_121
              refine hK.out _ _ J121.out (fun _ => ?_)
              clear hK K
              try simp only [Act.put, List.getElem_toArray, List.getElem_cons_succ, List.getElem_cons_zero, List.setIfInBounds_toArray, List.set_cons_zero, List.set_cons_succ]
              refine wpAnyH_ready (rs := [5]) (by kernel_rfl) (by simp) ?_
              refine AllReadyH.cons rfl (fun K hK => ?_) ?_
              next =>
                go_simp
                go_at_call 16
                refine (RB.out _ _ C121.out).mono ?_
                rintro e V122 ⟨rfl, hb_122⟩
                have J122 := Lib.hid (J121.out.call hb_122)
                have P5_122 := Lib.hid (P5_121.out.below hb_122 P5_121.out.lt)
                have P6_122 := Lib.hid (P6_121.out.below hb_122 P6_121.out.lt)
                clear hb_122
                refine hK.out _ _ J122.out (fun _ => ?_)
                clear hK K
                try simp only [Act.put, List.getElem_toArray, List.getElem_cons_succ, List.getElem_cons_zero, List.setIfInBounds_toArray, List.set_cons_zero, List.set_cons_succ]
                refine wpAnyH_ready (rs := [8]) (by kernel_rfl) (by simp) ?_
                refine AllReadyH.cons rfl (fun K hK => ?_) AllReadyH.nil
                rw [if_pos (by rfl)]
                refine wp_store_mid _ _ _ rfl _ _ (List.toArray _) rfl rfl (there176 P5_122.out (noughts_length 176) LX.out.1) (sz176 _ LX.out.1) (all_oneCell_toArray (vals_one _)) ?_
                try simp only [List.toList_toArray]
                have hs1 := Lib.hid (P5_122.out.storeAll (ys := X) (by rw [LX.out.1, noughts_length]))
                have hs2 := Lib.hid (P6_122.out.farCells (Ne.symm hpq) (vals X) 0)
                have hs3 := Lib.hid (KI.mk (J122.out.ha.farCells (b := V112.heap.size) (by omega) (vals X) 0) (J122.out.hb.farCells (b := V112.heap.size) (by omega) (vals X) 0) (below_setCells (g := V112.heap.size) J122.out.hw (by omega) (vals X) 0))
                refine hK.out _ _ hs3.out (fun _ => ?_)
                clear hK K
                try simp only [Act.put, List.getElem_toArray, List.getElem_cons_succ, List.getElem_cons_zero, List.setIfInBounds_toArray, List.set_cons_zero, List.set_cons_succ]
                refine wpAnyH_ready (rs := [9]) (by kernel_rfl) (by simp) ?_
                refine AllReadyH.cons rfl (fun K hK => ?_) AllReadyH.nil
                rw [if_pos (by rfl)]
                refine wp_store_mid _ _ _ rfl _ _ (List.toArray _) rfl rfl (there176 hs2.out (noughts_length 176) LY.out.1) (sz176 _ LY.out.1) (all_oneCell_toArray (vals_one _)) ?_
                try simp only [List.toList_toArray]
                have ht2 := Lib.hid (hs2.out.storeAll (ys := Y) (by rw [LY.out.1, noughts_length]))
                have ht1 := Lib.hid (hs1.out.farCells hpq (vals Y) 0)
                have ht3 := Lib.hid (KI.mk (hs3.out.ha.farCells (b := V0.heap.size) (by omega) (vals Y) 0) (hs3.out.hb.farCells (b := V0.heap.size) (by omega) (vals Y) 0) (below_setCells (g := V0.heap.size) hs3.out.hw (by omega) (vals Y) 0))
                refine hK.out _ _ ht3.out (fun _ => ?_)
                clear hK K
                try simp only [Act.put, List.getElem_toArray, List.getElem_cons_succ, List.getElem_cons_zero, List.setIfInBounds_toArray, List.set_cons_zero, List.set_cons_succ]
                refine wpAnyH_done (by kernel_rfl) ?_ _
                exact rest _ _ _ _ _ ⟨ht3.out, ht1.out, ht2.out⟩
              exact AllReadyH.nil
            exact AllReadyH.nil
          exact AllReadyH.nil
        refine AllReadyH.cons rfl (fun K hK => ?_) ?_
        next =>
          go_simp
          have hb_124 := below_all V111 (.cells (arrV (noughts 176)) 35)
          have hn_124 := Blk.new V111 35 (noughts 176)
          have hpq : V111.heap.size ≠ V0.heap.size := Nat.ne_of_gt P6_111.out.lt
          have hge_124 : w.heap.size + 1 < V111.heap.size := J111.out.hb.lt
          obtain ⟨V124, hV_124⟩ : ∃ V, V111.alloc (.cells (arrV (noughts 176)) 35) = V := ⟨_, rfl⟩
          rw [hV_124] at hb_124 hn_124 ⊢
          have J124 := Lib.hid (J111.out.call hb_124)
          have P6_124 := Lib.hid (P6_111.out.below hb_124 P6_111.out.lt)
          have C124 := Lib.hid (C111.out.below hb_124 C111.out.lt)
          have P5_124 := Lib.hid hn_124
          clear hV_124 hb_124 hn_124
          refine hK.out _ _ J124.out (fun _ => ?_)
          clear hK K
          try simp only [Act.put, List.getElem_toArray, List.getElem_cons_succ, List.getElem_cons_zero, List.setIfInBounds_toArray, List.set_cons_zero, List.set_cons_succ]
          refine wpAnyH_ready (rs := [2]) (by kernel_rfl) (by simp) ?_
          refine AllReadyH.cons rfl (fun K hK => ?_) ?_
          next =>
            go_simp
            go_at_call 16
            refine (RA.out _ _ C124.out).mono ?_
            rintro e V125 ⟨rfl, hb_125⟩
            have J125 := Lib.hid (J124.out.call hb_125)
            have P5_125 := Lib.hid (P5_124.out.below hb_125 P5_124.out.lt)
            have P6_125 := Lib.hid (P6_124.out.below hb_125 P6_124.out.lt)
            clear hb_125
            refine hK.out _ _ J125.out (fun _ => ?_)
            clear hK K
            try simp only [Act.put, List.getElem_toArray, List.getElem_cons_succ, List.getElem_cons_zero, List.setIfInBounds_toArray, List.set_cons_zero, List.set_cons_succ]
            refine wpAnyH_ready (rs := [4]) (by kernel_rfl) (by simp) ?_
            refine AllReadyH.cons rfl (fun K hK => ?_) ?_
            next =>
              go_simp
              go_at_call 15
              refine (NB.out _).mono ?_
              rintro e V126 ⟨g2, rfl, hg_126, hc_126, hb_126⟩
              have J126 := Lib.hid (J125.out.call hb_126)
              have P5_126 := Lib.hid (P5_125.out.below hb_126 P5_125.out.lt)
              have P6_126 := Lib.hid (P6_125.out.below hb_126 P6_125.out.lt)
              have C126 := Lib.hid hc_126
              clear hg_126 hc_126 hb_126
              refine hK.out _ _ J126.out (fun _ => ?_)
              clear hK K
              try simp only [Act.put, List.getElem_toArray, List.getElem_cons_succ, List.getElem_cons_zero, List.setIfInBounds_toArray, List.set_cons_zero, List.set_cons_succ]
              refine wpAnyH_ready (rs := [5]) (by kernel_rfl) (by simp) ?_
              refine AllReadyH.cons rfl (fun K hK => ?_) ?_
              next =>
                go_simp
                go_at_call 16
                refine (RB.out _ _ C126.out).mono ?_
                rintro e V127 ⟨rfl, hb_127⟩
                have J127 := Lib.hid (J126.out.call hb_127)
                have P5_127 := Lib.hid (P5_126.out.below hb_127 P5_126.out.lt)
                have P6_127 := Lib.hid (P6_126.out.below hb_127 P6_126.out.lt)
                clear hb_127
                refine hK.out _ _ J127.out (fun _ => ?_)
                clear hK K
                try simp only [Act.put, List.getElem_toArray, List.getElem_cons_succ, List.getElem_cons_zero, List.setIfInBounds_toArray, List.set_cons_zero, List.set_cons_succ]
                refine wpAnyH_ready (rs := [8]) (by kernel_rfl) (by simp) ?_
                refine AllReadyH.cons rfl (fun K hK => ?_) AllReadyH.nil
                rw [if_pos (by rfl)]
                refine wp_store_mid _ _ _ rfl _ _ (List.toArray _) rfl rfl (there176 P5_127.out (noughts_length 176) LX.out.1) (sz176 _ LX.out.1) (all_oneCell_toArray (vals_one _)) ?_
                try simp only [List.toList_toArray]
                have hs1 := Lib.hid (P5_127.out.storeAll (ys := X) (by rw [LX.out.1, noughts_length]))
                have hs2 := Lib.hid (P6_127.out.farCells (Ne.symm hpq) (vals X) 0)
                have hs3 := Lib.hid (KI.mk (J127.out.ha.farCells (b := V111.heap.size) (by omega) (vals X) 0) (J127.out.hb.farCells (b := V111.heap.size) (by omega) (vals X) 0) (below_setCells (g := V111.heap.size) J127.out.hw (by omega) (vals X) 0))
                refine hK.out _ _ hs3.out (fun _ => ?_)
                clear hK K
                try simp only [Act.put, List.getElem_toArray, List.getElem_cons_succ, List.getElem_cons_zero, List.setIfInBounds_toArray, List.set_cons_zero, List.set_cons_succ]
                refine wpAnyH_ready (rs := [9]) (by kernel_rfl) (by simp) ?_
                refine AllReadyH.cons rfl (fun K hK => ?_) AllReadyH.nil
                rw [if_pos (by rfl)]
                refine wp_store_mid _ _ _ rfl _ _ (List.toArray _) rfl rfl (there176 hs2.out (noughts_length 176) LY.out.1) (sz176 _ LY.out.1) (all_oneCell_toArray (vals_one _)) ?_
                try simp only [List.toList_toArray]
                have ht2 := Lib.hid (hs2.out.storeAll (ys := Y) (by rw [LY.out.1, noughts_length]))
                have ht1 := Lib.hid (hs1.out.farCells hpq (vals Y) 0)
                have ht3 := Lib.hid (KI.mk (hs3.out.ha.farCells (b := V0.heap.size) (by omega) (vals Y) 0) (hs3.out.hb.farCells (b := V0.heap.size) (by omega) (vals Y) 0) (below_setCells (g := V0.heap.size) hs3.out.hw (by omega) (vals Y) 0))
                refine hK.out _ _ ht3.out (fun _ => ?_)
                clear hK K
                try simp only [Act.put, List.getElem_toArray, List.getElem_cons_succ, List.getElem_cons_zero, List.setIfInBounds_toArray, List.set_cons_zero, List.set_cons_succ]
                refine wpAnyH_done (by kernel_rfl) ?_ _
                exact rest _ _ _ _ _ ⟨ht3.out, ht1.out, ht2.out⟩
              exact AllReadyH.nil
            exact AllReadyH.nil
          exact AllReadyH.nil
        exact AllReadyH.nil
      refine AllReadyH.cons rfl (fun K hK => ?_) ?_
      next =>
        go_simp
        have hb_129 := below_all V110 (.cells (arrV (noughts 176)) 35)
        have hn_129 := Blk.new V110 35 (noughts 176)
        have hpq : V110.heap.size ≠ V0.heap.size := Nat.ne_of_gt P6_110.out.lt
        have hge_129 : w.heap.size + 1 < V110.heap.size := J110.out.hb.lt
        obtain ⟨V129, hV_129⟩ : ∃ V, V110.alloc (.cells (arrV (noughts 176)) 35) = V := ⟨_, rfl⟩
        rw [hV_129] at hb_129 hn_129 ⊢
        have J129 := Lib.hid (J110.out.call hb_129)
        have P6_129 := Lib.hid (P6_110.out.below hb_129 P6_110.out.lt)
        have P5_129 := Lib.hid hn_129
        clear hV_129 hb_129 hn_129
        refine hK.out _ _ J129.out (fun _ => ?_)
        clear hK K
        try simp only [Act.put, List.getElem_toArray, List.getElem_cons_succ, List.getElem_cons_zero, List.setIfInBounds_toArray, List.set_cons_zero, List.set_cons_succ]
        refine wpAnyH_ready (rs := [1]) (by kernel_rfl) (by simp) ?_
        refine AllReadyH.cons rfl (fun K hK => ?_) ?_
        next =>
          go_simp
          go_at_call 15
          refine (NA.out _).mono ?_
          rintro e V130 ⟨g1, rfl, hg_130, hc_130, hb_130⟩
          have J130 := Lib.hid (J129.out.call hb_130)
          have P5_130 := Lib.hid (P5_129.out.below hb_130 P5_129.out.lt)
          have P6_130 := Lib.hid (P6_129.out.below hb_130 P6_129.out.lt)
          have C130 := Lib.hid hc_130
          clear hg_130 hc_130 hb_130
          refine hK.out _ _ J130.out (fun _ => ?_)
          clear hK K
          try simp only [Act.put, List.getElem_toArray, List.getElem_cons_succ, List.getElem_cons_zero, List.setIfInBounds_toArray, List.set_cons_zero, List.set_cons_succ]
          refine wpAnyH_ready (rs := [2]) (by kernel_rfl) (by simp) ?_
          refine AllReadyH.cons rfl (fun K hK => ?_) ?_
          next =>
            go_simp
            go_at_call 16
            refine (RA.out _ _ C130.out).mono ?_
            rintro e V131 ⟨rfl, hb_131⟩
            have J131 := Lib.hid (J130.out.call hb_131)
            have P5_131 := Lib.hid (P5_130.out.below hb_131 P5_130.out.lt)
            have P6_131 := Lib.hid (P6_130.out.below hb_131 P6_130.out.lt)
            clear hb_131
            refine hK.out _ _ J131.out (fun _ => ?_)
            clear hK K
            try simp only [Act.put, List.getElem_toArray, List.getElem_cons_succ, List.getElem_cons_zero, List.setIfInBounds_toArray, List.set_cons_zero, List.set_cons_succ]
            refine wpAnyH_ready (rs := [4]) (by kernel_rfl) (by simp) ?_
            refine AllReadyH.cons rfl (fun K hK => ?_) ?_
            next =>
              go_simp
              go_at_call 15
              refine (NB.out _).mono ?_
              rintro e V132 ⟨g2, rfl, hg_132, hc_132, hb_132⟩
              have J132 := Lib.hid (J131.out.call hb_132)
              have P5_132 := Lib.hid (P5_131.out.below hb_132 P5_131.out.lt)
              have P6_132 := Lib.hid (P6_131.out.below hb_132 P6_131.out.lt)
              have C132 := Lib.hid hc_132
              clear hg_132 hc_132 hb_132
              refine hK.out _ _ J132.out (fun _ => ?_)
              clear hK K
              try simp only [Act.put, List.getElem_toArray, List.getElem_cons_succ, List.getElem_cons_zero, List.setIfInBounds_toArray, List.set_cons_zero, List.set_cons_succ]
              refine wpAnyH_ready (rs := [5]) (by kernel_rfl) (by simp) ?_
              refine AllReadyH.cons rfl (fun K hK => ?_) ?_
              next =>
                go_simp
                go_at_call 16
                refine (RB.out _ _ C132.out).mono ?_
                rintro e V133 ⟨rfl, hb_133⟩
                have J133 := Lib.hid (J132.out.call hb_133)
                have P5_133 := Lib.hid (P5_132.out.below hb_133 P5_132.out.lt)
                have P6_133 := Lib.hid (P6_132.out.below hb_133 P6_132.out.lt)
                clear hb_133
                refine hK.out _ _ J133.out (fun _ => ?_)
                clear hK K
                try simp only [Act.put, List.getElem_toArray, List.getElem_cons_succ, List.getElem_cons_zero, List.setIfInBounds_toArray, List.set_cons_zero, List.set_cons_succ]
                refine wpAnyH_ready (rs := [8]) (by kernel_rfl) (by simp) ?_
                refine AllReadyH.cons rfl (fun K hK => ?_) AllReadyH.nil
                rw [if_pos (by rfl)]
                refine wp_store_mid _ _ _ rfl _ _ (List.toArray _) rfl rfl (there176 P5_133.out (noughts_length 176) LX.out.1) (sz176 _ LX.out.1) (all_oneCell_toArray (vals_one _)) ?_
                try simp only [List.toList_toArray]
                have hs1 := Lib.hid (P5_133.out.storeAll (ys := X) (by rw [LX.out.1, noughts_length]))
                have hs2 := Lib.hid (P6_133.out.farCells (Ne.symm hpq) (vals X) 0)
                have hs3 := Lib.hid (KI.mk (J133.out.ha.farCells (b := V110.heap.size) (by omega) (vals X) 0) (J133.out.hb.farCells (b := V110.heap.size) (by omega) (vals X) 0) (below_setCells (g := V110.heap.size) J133.out.hw (by omega) (vals X) 0))
                refine hK.out _ _ hs3.out (fun _ => ?_)
                clear hK K
                try simp only [Act.put, List.getElem_toArray, List.getElem_cons_succ, List.getElem_cons_zero, List.setIfInBounds_toArray, List.set_cons_zero, List.set_cons_succ]
                refine wpAnyH_ready (rs := [9]) (by kernel_rfl) (by simp) ?_
                refine AllReadyH.cons rfl (fun K hK => ?_) AllReadyH.nil
                rw [if_pos (by rfl)]
                refine wp_store_mid _ _ _ rfl _ _ (List.toArray _) rfl rfl (there176 hs2.out (noughts_length 176) LY.out.1) (sz176 _ LY.out.1) (all_oneCell_toArray (vals_one _)) ?_
                try simp only [List.toList_toArray]
                have ht2 := Lib.hid (hs2.out.storeAll (ys := Y) (by rw [LY.out.1, noughts_length]))
                have ht1 := Lib.hid (hs1.out.farCells hpq (vals Y) 0)
                have ht3 := Lib.hid (KI.mk (hs3.out.ha.farCells (b := V0.heap.size) (by omega) (vals Y) 0) (hs3.out.hb.farCells (b := V0.heap.size) (by omega) (vals Y) 0) (below_setCells (g := V0.heap.size) hs3.out.hw (by omega) (vals Y) 0))
                refine hK.out _ _ ht3.out (fun _ => ?_)
                clear hK K
                try simp only [Act.put, List.getElem_toArray, List.getElem_cons_succ, List.getElem_cons_zero, List.setIfInBounds_toArray, List.set_cons_zero, List.set_cons_succ]
                refine wpAnyH_done (by kernel_rfl) ?_ _
                exact rest _ _ _ _ _ ⟨ht3.out, ht1.out, ht2.out⟩
              exact AllReadyH.nil
            exact AllReadyH.nil
          exact AllReadyH.nil
        exact AllReadyH.nil
      exact AllReadyH.nil
    exact AllReadyH.nil
end Go.Proofs.Ytmmfigdmdamnlab
