/- What the document's cipher makes of a block is what the program makes of it. No statement is proved here. -/
import Derived.Test.YtmmfigdmdamnlabRefEncPlain
import Derived.Test.YtmmfigdmdamnlabRefOf
namespace Go.Proofs.Ytmmfigdmdamnlab
open Go.RowKit
set_option linter.unusedVariables false

/-- What Encrypt works on. -/
structure ES (w : World) (key bs : List Nat) (gt c gb cb : Nat) (vs : List Value) (V : World) : Prop where
  hp : Blk2 V w.heap.size (.slice (some ⟨gt, 0, none⟩) 44 c) (.slice (some ⟨gb, 0, none⟩) 256 cb)
  hb : Blk V (w.heap.size + 1) 27 bs
  hr : Blk V (w.heap.size + 1 + 1) 27 zeros16
  hk : ∃ base, RKey V base key gt c gb cb vs
  hw : Below w.heap.size w V
section
variable {w : World} {key bs : List Nat} {gt c gb cb : Nat} {vs : List Value} {V V2 : World}
theorem ES.call (h : ES w key bs gt c gb cb vs V) (hb : Below V.heap.size V V2) : ES w key bs gt c gb cb vs V2 := by
  obtain ⟨base, hk⟩ := h.hk
  exact ⟨h.hp.below hb h.hp.lt, h.hb.below hb h.hb.lt, h.hr.below hb h.hr.lt, ⟨base, hk.below hb⟩, h.hw.trans (hb.mono h.hw.size)⟩
theorem RKey.drew {V : World} {base : Nat} {key : List Nat} {gt c gb cb : Nat} {vs : List Value} (h : RKey V base key gt c gb cb vs) : RKey V.drew base key gt c gb cb vs := ⟨h.hi.drewN 1, h.hb.drew⟩
theorem ES.drew (h : ES w key bs gt c gb cb vs V) : ES w key bs gt c gb cb vs V.drew := by
  obtain ⟨base, hk⟩ := h.hk
  exact ⟨h.hp, h.hb, h.hr, ⟨base, hk.drew⟩, below_drewN (k := 1) h.hw⟩
end
def EnRel (w : World) (key bs : List Nat) (gt c gb cb : Nat) (vs : List Value) (s i : Value) (wr : World) : Prop :=
  ∃ n g c2, 1 ≤ n ∧ n ≤ 11 ∧ i = .int .i64 (n : Nat) ∧ s = .slice (some ⟨g, 0, none⟩) 16 c2 ∧ U.Row wr wr.heap.size (some ⟨g, 0, none⟩) 16 c2 (st key bs (n - 1)) ∧ ES w key bs gt c gb cb vs wr
theorem es_start (w : World) (key bs : List Nat) (gt c gb cb base : Nat) (vs : List Value) (hk : RKey w base key gt c gb cb vs) : ES w key bs gt c gb cb vs (((w.alloc (.cells #[.slice (some ⟨gt, 0, none⟩) 44 c, .slice (some ⟨gb, 0, none⟩) 256 cb] 31)).alloc (.cells (arrV bs) 27)).alloc (.cells (arrV zeros16) 27)) := by
  have e1 : (w.alloc (.cells #[.slice (some ⟨gt, 0, none⟩) 44 c, .slice (some ⟨gb, 0, none⟩) 256 cb] 31)).heap.size = w.heap.size + 1 := by simp
  have e2 : ((w.alloc (.cells #[.slice (some ⟨gt, 0, none⟩) 44 c, .slice (some ⟨gb, 0, none⟩) 256 cb] 31)).alloc (.cells (arrV bs) 27)).heap.size = w.heap.size + 1 + 1 := by simp
  have h1 := Blk.new (w.alloc (.cells #[.slice (some ⟨gt, 0, none⟩) 44 c, .slice (some ⟨gb, 0, none⟩) 256 cb] 31)) 27 bs
  have h2 := Blk.new ((w.alloc (.cells #[.slice (some ⟨gt, 0, none⟩) 44 c, .slice (some ⟨gb, 0, none⟩) 256 cb] 31)).alloc (.cells (arrV bs) 27)) 27 zeros16
  rw [e1] at h1
  rw [e2] at h2
  have hw : Below w.heap.size w (((w.alloc (.cells #[.slice (some ⟨gt, 0, none⟩) 44 c, .slice (some ⟨gb, 0, none⟩) 256 cb] 31)).alloc (.cells (arrV bs) 27)).alloc (.cells (arrV zeros16) 27)) := (((Below.refl _ _).alloc (Nat.le_refl _) _).alloc (by simp) _).alloc (by simp; omega) _
  have h0 := Blk2.new w (.slice (some ⟨gt, 0, none⟩) 44 c) (.slice (some ⟨gb, 0, none⟩) 256 cb)
  refine ⟨?_, h1.alloc _, h2, ⟨base, hk.below hw⟩, hw⟩
  exact (Below.heap_alloc _ _ _ (by simp; omega)).trans ((Below.heap_alloc _ _ _ (by simp)).trans h0)
def CoRel (w : World) (key bs : List Nat) (gt c gb cb : Nat) (vs : List Value) (g c2 go : Nat) (i : Value) (wr : World) : Prop :=
  ∃ k, k ≤ 16 ∧ i = .int .i64 (k : Nat) ∧ Blk wr go 27 ((st key bs 10).take k ++ zeros16.drop k) ∧ U.Row wr go (some ⟨g, 0, none⟩) 16 c2 (st key bs 10) ∧ Blk wr (w.heap.size + 1 + 1) 27 zeros16 ∧ Below w.heap.size w wr ∧ w.heap.size + 1 + 1 < go
attribute [local irreducible] st arTo shR wd boxTo

set_option maxRecDepth 20000 in
set_option maxHeartbeats 2000000 in
theorem refEncrypt_with (MX : Hid (∀ bs os cs xs W, U.Row W W.heap.size (some ⟨bs, os, none⟩) 16 cs xs → Calls Try.prog 33 #[.slice (some ⟨bs, os, none⟩) 16 cs] W (U.GivesRow W (mxTo xs 16)))) (key bs : List Nat) (lk : key.length = 16) (bk : ∀ x ∈ key, x < 256) (lb : bs.length = 16) (bb : ∀ x ∈ bs, x < 256) (gt c gb cb base : Nat) (vs : List Value) (w : World) (hk : RKey w base key gt c gb cb vs) :
    Calls Try.prog 18 #[.agg #[.slice (some ⟨gt, 0, none⟩) 44 c, .slice (some ⟨gb, 0, none⟩) 256 cb], .agg (arrV bs)] w (GivesArr w (st key bs 10)) := by
  have LK := Lib.hid lk
  have BK := Lib.hid bk
  have LB := Lib.hid lb
  have BB := Lib.hid bb
  have WS := Lib.hid (fun j (hj : j < 44) => And.intro (wd_len key lk bk j hj) (wd_lt key lk bk j))
  have E0 := Lib.hid (es_start w key bs gt c gb cb base vs hk)
  have S0 := Lib.hid (st_zero key bs lk bk lb)
  have SM := Lib.hid (fun n hn => st_mid key bs lk bk lb bb n hn)
  have SL := Lib.hid (st_last key bs lk bk lb bb)
  have SO := Lib.hid (fun n => st_ok key bs lk bk lb bb n)
  clear lk bk lb bb hk
  go_enter Try.func18, Try.ntmps18
  go_wp2
  change Code.wp _ _ _ _ (((w.alloc (.cells #[.slice (some ⟨gt, 0, none⟩) 44 c, .slice (some ⟨gb, 0, none⟩) 256 cb] 31)).alloc (.cells (arrV bs) 27)).alloc (.cells (arrV zeros16) 27))
  have E1 := Lib.hid E0.out.drew
  generalize hW0 : (((w.alloc (.cells #[.slice (some ⟨gt, 0, none⟩) 44 c, .slice (some ⟨gb, 0, none⟩) 256 cb] 31)).alloc (.cells (arrV bs) 27)).alloc (.cells (arrV zeros16) 27)) = W0 at *
  clear hW0
  have t0 : W0.drew.cell? ⟨w.heap.size, 0, none⟩ = some (.slice (some ⟨gt, 0, none⟩) 44 c) := E1.out.hp.c0
  have A0 : Hid (Calls Try.prog 31 #[.slice (some ⟨w.heap.size + 1, 0, none⟩) 16 16, .slice (some ⟨gt, 0, none⟩) 44 c, .int .i64 0] W0.drew (U.GivesRow W0.drew (st key bs 0))) := by
    obtain ⟨base2, hk2⟩ := E1.out.hk
    have hrow : U.Row W0.drew W0.drew.heap.size (some ⟨w.heap.size + 1, 0, none⟩) 16 16 bs := ⟨LB.out, BB.out, Nat.le_refl _, by unfold maxLen; omega, (fun h => by cases h), fun a ha _ => by
      injection ha with ha
      subst ha
      refine ⟨rfl, E1.out.hb.lt, fun j hj => ?_⟩
      have := E1.out.hb.cell j (by rw [LB.out]; exact hj)
      rw [Nat.zero_add]
      exact this⟩
    have := refAdd_any (w.heap.size + 1) 0 16 bs base2 gt c (wd key) vs 0 W0.drew hrow hk2.hi (by omega) WS.out
    rw [S0.out] at this
    exact this
  go_region_held3 (fun V => V.cell? ⟨w.heap.size, 0, none⟩ = some (.slice (some ⟨gt, 0, none⟩) 44 c))
    (first | exact t0 | exact H1.out.hp.c0)
    (first | (go_at_call 31; refine A0.out.mono ?_; intro e X1 hG; obtain ⟨A1, c1, he, hO1, hb1⟩ := hG.out (SO.out 0).1; obtain ⟨g1, hg1⟩ := own_head hO1 (by omega); subst hg1; subst he; have H1 := Lib.hid (E1.out.call hb1); have R1 := Lib.hid hO1.row; clear hO1 hb1 hG))
  rename_i hheld
  clear hheld t0 A0 E1 E0
  have AD : Hid (∀ n xs gx cx V, n ≤ 10 → U.Row V V.heap.size (some ⟨gx, 0, none⟩) 16 cx xs → ES w key bs gt c gb cb vs V → Calls Try.prog 31 #[.slice (some ⟨gx, 0, none⟩) 16 cx, .slice (some ⟨gt, 0, none⟩) 44 c, .int .i64 (n : Nat)] V (U.GivesRow V (arTo xs (wd key) n 16))) := fun n xs gx cx V hn hr hE => by
    obtain ⟨base2, hk2⟩ := hE.hk
    exact refAdd_any gx 0 cx xs base2 gt c (wd key) vs n V hr hk2.hi hn WS.out
  have SH : Hid (∀ xs gx cx V, U.Row V V.heap.size (some ⟨gx, 0, none⟩) 16 cx xs → ES w key bs gt c gb cb vs V → Calls Try.prog 32 #[.slice (some ⟨gx, 0, none⟩) 16 cx, .slice (some ⟨gb, 0, none⟩) 256 cb] V (U.GivesRow V (shR xs 16))) := fun xs gx cx V hr hE => by
    obtain ⟨base2, hk2⟩ := hE.hk
    exact refShift_any gx 0 cx gb 0 cb xs V hr hk2.hb
  go_wp2
  go_loopw [5, 6] (EnRel w key bs gt c gb cb vs) (fun _ i _ => 11 - (intOf i).toNat)
  case atStart => exact ⟨1, g1, c1, Nat.le_refl _, by omega, rfl, rfl, R1.out, H1.out⟩
  case round =>
    clear H1 R1
    obtain ⟨n, g, c2, h1, h11, rfl, rfl, hR, hE⟩ := hrel
    have HR := Lib.hid hR
    have HE := Lib.hid hE
    clear hR hE
    have t1 := HE.out.hp.c1
    by_cases h10 : n ≤ 10
    · by_cases h9 : n < 10
      · have EN : Hid (arTo (mxTo (shR (st key bs (n - 1)) 16) 16) (wd key) n 16 = st key bs n) := by
          have := SM.out (n - 1) (by omega)
          rw [show n - 1 + 1 = n by omega] at this
          exact this
        have LN := Lib.hid (SO.out n).1
        go_wp2_with (first
          | (go_at_call 31; have _ := R3; refine (AD.out n _ g3 c3 _ (by omega) R3.out H3.out).mono ?_; rw [EN.out]; intro e X4 hG; obtain ⟨A4, c4, he, hO4, hb4⟩ := hG.out LN.out; obtain ⟨g4, hg4⟩ := own_head hO4 (by omega); subst hg4; subst he; have H4 := Lib.hid (H3.out.call hb4); have R4 := Lib.hid hO4.row; clear hO4 hb4 hG)
          | (go_at_call 33; have _ := R2; refine (MX.out g2 0 c2' _ _ R2.out).mono ?_; intro e X3 hG; obtain ⟨A3, c3, he, hO3, hb3⟩ := hG.out (mxTo_length _ 16); obtain ⟨g3, hg3⟩ := own_head hO3 (by omega); subst hg3; subst he; have H3 := Lib.hid (H2.out.call hb3); have R3 := Lib.hid hO3.row; have t0 := H3.out.hp.c0; clear hO3 hb3 hG)
          | (go_at_call 32; refine (SH.out _ g c2 _ HR.out HE.out).mono ?_; intro e X2 hG; obtain ⟨A2, c2', he, hO2, hb2⟩ := hG.out (shR_length _ 16); obtain ⟨g2, hg2⟩ := own_head hO2 (by omega); subst hg2; subst he; have H2 := Lib.hid (HE.out.call hb2); have R2 := Lib.hid hO2.row; clear hO2 hb2 hG)
          | fail)
        go_roundw
        case rel => exact ⟨n + 1, g4, c4, by omega, by omega, by go_num, rfl, by rw [show n + 1 - 1 = n by omega]; exact R4.out, H4.out⟩
        case measure => simp [intOf]; omega
      · have EN : Hid (arTo (shR (st key bs (n - 1)) 16) (wd key) n 16 = st key bs n) := by
          have e : n = 10 := by omega
          subst e
          exact SL.out
        have LN := Lib.hid (SO.out n).1
        go_wp2_with (first
          | (go_at_call 31; have _ := R2; refine (AD.out n _ g2 c2' _ (by omega) R2.out H2.out).mono ?_; rw [EN.out]; intro e X4 hG; obtain ⟨A4, c4, he, hO4, hb4⟩ := hG.out LN.out; obtain ⟨g4, hg4⟩ := own_head hO4 (by omega); subst hg4; subst he; have H4 := Lib.hid (H2.out.call hb4); have R4 := Lib.hid hO4.row; clear hO4 hb4 hG)
          | (go_at_call 32; refine (SH.out _ g c2 _ HR.out HE.out).mono ?_; intro e X2 hG; obtain ⟨A2, c2', he, hO2, hb2⟩ := hG.out (shR_length _ 16); obtain ⟨g2, hg2⟩ := own_head hO2 (by omega); subst hg2; subst he; have H2 := Lib.hid (HE.out.call hb2); have R2 := Lib.hid hO2.row; have t0 := H2.out.hp.c0; clear hO2 hb2 hG)
          | fail)
        go_roundw
        case rel => exact ⟨n + 1, g4, c4, by omega, by omega, by go_num, rfl, by rw [show n + 1 - 1 = n by omega]; exact R4.out, H4.out⟩
        case measure => simp [intOf]; omega
    · have HR2 : Hid (U.Row wr wr.heap.size (some ⟨g, 0, none⟩) 16 c2 (st key bs 10)) := by rw [show 10 = n - 1 by omega]; exact HR.out
      have SO10 := Lib.hid (SO.out 10)
      clear HR AD SH SM SL S0 SO MX t1
      have C0 : Hid (CoRel w key bs gt c gb cb vs g c2 wr.heap.size (.int .i64 0) (wr.alloc (.cells (arrV zeros16) 27))) := ⟨0, Nat.zero_le _, rfl, Blk.new wr 27 zeros16, HR2.out.alloc (Nat.le_refl _) _, HE.out.hr.alloc _, HE.out.hw.alloc HE.out.hw.size _, HE.out.hr.lt⟩
      go_wp2
      generalize wr.heap.size = go at *
      go_loopw [8] (CoRel w key bs gt c gb cb vs g c2 go) (fun i _ => 16 - (intOf i).toNat)
      case atStart => exact C0.out
      case round =>
        clear C0 HE HR2
        obtain ⟨k, hk, rfl, hB, hR, hZ, hW, hgo⟩ := hrel
        have HB := Lib.hid hB
        have HR := Lib.hid hR
        have HZ := Lib.hid hZ
        have HW := Lib.hid hW
        have HGO := Lib.hid hgo
        clear hB hR hZ hW hgo
        by_cases hlt : k < 16
        · obtain ⟨_, hgg, hcx⟩ := HR.out.2.2.2.2.2 ⟨g, 0, none⟩ rfl (by omega)
          have cx := hcx k hlt
          simp only [Nat.zero_add] at cx
          have hl : ((st key bs 10).take k ++ zeros16.drop k).length = 16 := by rw [List.length_append, List.length_take, List.length_drop, SO10.out.1]; simp [zeros16]; omega
          have co := HB.out.cell k (by rw [hl]; exact hlt)
          have fo := HB.out.frozen k
          have ST : Hid (((st key bs 10).take k ++ zeros16.drop k).set k ((st key bs 10).getD k 0) = (st key bs 10).take (k + 1) ++ zeros16.drop (k + 1)) := by
            rw [List.set_append_right _ _ (by rw [List.length_take]; omega), List.length_take, SO10.out.1, Nat.min_eq_left (by omega), Nat.sub_self, List.drop_eq_getElem_cons (by simp [zeros16]; omega), List.set_cons_zero, List.take_succ_eq_append_getElem (by rw [SO10.out.1]; exact hlt), List.append_assoc, List.getD_eq_getElem?_getD, List.getElem?_eq_getElem (by rw [SO10.out.1]; exact hlt)]
            exact rfl
          have B1 := Lib.hid (HB.out.set_ k ((st key bs 10).getD k 0))
          generalize (st key bs 10).getD k 0 = x at *
          have hne : g ≠ go := by simp only at hgg; omega
          clear hcx hl
          go_wp2
          go_roundw
          case rel => exact ⟨k + 1, hlt, by go_num, by rw [← ST.out]; exact B1.out, HR.out.keep fun p hp => World.cell?_setCell_other wr ⟨go, k, none⟩ p _ (fun e => by subst e; simp at hp), HZ.out.far (p := ⟨go, k, none⟩) (by have := HGO.out; simp only; omega) _, HW.out.setCell (p := ⟨go, k, none⟩) (by have := HGO.out; simp only; omega) _, HGO.out⟩
          case measure => simp [intOf]; omega
        · have e16 : (st key bs 10).take k ++ zeros16.drop k = st key bs 10 := by
            rw [List.take_of_length_le (by rw [SO10.out.1]; omega), List.drop_of_length_le (by simp [zeros16]; omega), List.append_nil]
          have HB2 : Hid (Blk wr go 27 (st key bs 10)) := by rw [← e16]; exact HB.out
          clear e16 HB
          go_wp2_with (first
            | (refine wpList_load_mid rfl 27 _ rfl go 0 rfl (vals (st key bs 10)) _ (whole_range HB2.out SO10.out.1) Try.underlying27 rfl (sz16 _ SO10.out.1) ?_)
            | (refine wpList_store_mid rfl 27 _ _ rfl (w.heap.size + 1 + 1) 0 (arrV (st key bs 10)) rfl rfl (by rw [arrV_size, SO10.out.1]; exact HZ.out.there 0 16 (by simp [zeros16])) (by rw [arrV_size, SO10.out.1]; exact size27) (arrV_all _) ?_; rw [arrV_toList])
            | fail)
          have hs := HZ.out.storeAll (ys := st key bs 10) (by rw [SO10.out.1]; rfl)
          exact bodyPost_ret (results_arr Try.results18 _ _ (w.heap.size + 1 + 1) rfl _ (hs.loadAll 27 _ SO10.out.1 Try.underlying27 rfl size27)) rfl ⟨rfl, below_setCells HW.out (by omega) _ _⟩
end Go.Proofs.Ytmmfigdmdamnlab
