/- For every input the law AesBlocks returns true, if the document's mix does what it says. No condition. -/
import Derived.Test.YtmmfigdmdamnlabRefEnc
import Derived.Test.YtmmfigdmdamnlabUnlikeWalk
namespace Go.Proofs.Ytmmfigdmdamnlab
open Go.RowKit
set_option linter.unusedVariables false
set_option linter.unusedSimpArgs false

theorem there176' {V : World} {g : Nat} {t : TypeId} {xs ys : List Nat} (h : Blk V g t xs) (hl : xs.length = 176) (hy : ys.length = 176) : V.there g 0 (arrV ys).size := by rw [arrV_size, hy]; exact h.there 0 176 (by rw [hl]; omega)
theorem sz176' (xs : List Nat) (h : xs.length = 176) : (Try.prog.info? 35).map (·.size) = some (arrV xs).size := by rw [arrV_size, h]; exact size35
theorem rk_zero (key : List Nat) (hk : key.length = 16) (bk : ∀ x ∈ key, x < 256) : rk ((cells key).take 176) 0 = key := by
  have hl : (rk ((cells key).take 176) 0).length = 16 := by rw [rk_eq, rounds_eq key hk bk]; simp [ex_len key hk bk 40 (by omega)]
  refine list_ext _ _ hl hk fun i hi => ?_
  have e1 : rk ((cells key).take 176) 0 = rk (cells key) 0 := by
    rw [rk_eq, rk_eq]; simp [List.take_take]
  rw [e1, rk_getD key hk bk 0 i (by omega) hi, Nat.mul_zero, Nat.zero_add, wd_key key hk bk (i / 4) (by omega)]
  have h4 : i % 4 = 0 ∨ i % 4 = 1 ∨ i % 4 = 2 ∨ i % 4 = 3 := by omega
  rcases h4 with h | h | h | h <;> rw [h]
  · show key.getD (4 * (i / 4)) 0 = _; rw [show 4 * (i / 4) = i by omega]
  · show key.getD (4 * (i / 4) + 1) 0 = _; rw [show 4 * (i / 4) + 1 = i by omega]
  · show key.getD (4 * (i / 4) + 2) 0 = _; rw [show 4 * (i / 4) + 2 = i by omega]
  · show key.getD (4 * (i / 4) + 3) 0 = _; rw [show 4 * (i / 4) + 3 = i by omega]
theorem take_getD (key : List Nat) (hk : key.length = 16) (bk : ∀ x ∈ key, x < 256) (i : Nat) (hi : i < 176) : ((cells key).take 176).getD i 0 = (wd key (i / 4)).getD (i % 4) 0 := by
  rw [rounds_eq key hk bk]
  unfold wd word
  rw [col_getD _ _ _ (Nat.mod_lt _ (by omega)), show 4 * (i / 4) + i % 4 = i by omega]
/-- The blocks that came in. -/
structure KI2 (w : World) (a b : List Nat) (V : World) : Prop where
  hk : Blk V w.heap.size 27 a
  hb : Blk V (w.heap.size + 1) 27 b
  hw : Below w.heap.size w V
theorem KI2.call {w : World} {a b : List Nat} {V V2 : World} (h : KI2 w a b V) (hb : Below V.heap.size V V2) : KI2 w a b V2 := ⟨h.hk.below hb h.hk.lt, h.hb.below hb h.hb.lt, h.hw.trans (hb.mono h.hw.size)⟩
theorem KI2.alloc {w : World} {a b : List Nat} {V : World} (h : KI2 w a b V) (o : Obj) : KI2 w a b (V.alloc o) := ⟨h.hk.alloc o, h.hb.alloc o, h.hw.alloc h.hw.size o⟩
theorem KI2.start (w : World) (a b : List Nat) : KI2 w a b ((w.alloc (.cells (arrV a) 27)).alloc (.cells (arrV b) 27)) := by
  have e1 : (w.alloc (.cells (arrV a) 27)).heap.size = w.heap.size + 1 := by simp
  have h1 := Blk.new (w.alloc (.cells (arrV a) 27)) 27 b
  rw [e1] at h1
  exact ⟨(Blk.new w 27 a).alloc _, h1, ((Below.refl _ _).alloc (Nat.le_refl _) _).alloc (by simp) _⟩
/-- What the law works on. -/
structure LS (w : World) (key b X : List Nat) (gk gt c gb cb : Nat) (vs : List Value) (gc gr : Nat) (V : World) : Prop where
  hk : Blk V w.heap.size 27 key
  hb : Blk V (w.heap.size + 1) 27 b
  hp : Blk2 V gk (.slice (some ⟨gt, 0, none⟩) 44 c) (.slice (some ⟨gb, 0, none⟩) 256 cb)
  hr : ∃ base, RKey V base key gt c gb cb vs
  hc : Blk V gc 49 (cells key)
  hx : Blk V gr 35 X
  hw : Below w.heap.size w V
section
variable {w : World} {key b X : List Nat} {gk gt c gb cb : Nat} {vs : List Value} {gc gr : Nat} {V V2 : World}
theorem LS.call (h : LS w key b X gk gt c gb cb vs gc gr V) (hb : Below V.heap.size V V2) : LS w key b X gk gt c gb cb vs gc gr V2 := by
  obtain ⟨base, hr⟩ := h.hr
  exact ⟨h.hk.below hb h.hk.lt, h.hb.below hb h.hb.lt, h.hp.below hb h.hp.lt, ⟨base, hr.below hb⟩, h.hc.below hb h.hc.lt, h.hx.below hb h.hx.lt, h.hw.trans (hb.mono h.hw.size)⟩
theorem LS.drew (h : LS w key b X gk gt c gb cb vs gc gr V) : LS w key b X gk gt c gb cb vs gc gr V.drew := by
  obtain ⟨base, hr⟩ := h.hr
  exact ⟨h.hk, h.hb, h.hp, ⟨base, hr.drew⟩, h.hc, h.hx, below_drewN (k := 1) h.hw⟩
theorem LS.drewN (h : LS w key b X gk gt c gb cb vs gc gr V) (n : Nat) : LS w key b X gk gt c gb cb vs gc gr (V.drewN n) := by
  obtain ⟨base, hr⟩ := h.hr
  exact ⟨h.hk, h.hb, h.hp, ⟨base, ⟨hr.hi.drewN n, hr.hb.drewN n⟩⟩, h.hc, h.hx, below_drewN (k := n) h.hw⟩
end
theorem Blk2.range {V : World} {g : Nat} {a b : Value} (h : Blk2 V g a b) : V.rangeAt g 0 [a, b] := by
  intro j v hv
  match j, hv with
  | 0, hv => injection hv with hv; subst hv; exact h.c0
  | 1, hv => injection hv with hv; subst hv; exact h.c1
  | n + 2, hv => cases hv
theorem nums176 (k : Nat) (h : k < 176) : ∃ j4 m4 j16 m16 : Nat, ((k : Int)).tdiv 4 = (j4 : Int) ∧ ((k : Int)).tmod 4 = (m4 : Int) ∧ ((k : Int)).tdiv 16 = (j16 : Int) ∧ ((k : Int)).tmod 16 = (m16 : Int) ∧ (j4 : Int) < 44 ∧ (m4 : Int) < 4 ∧ (j16 : Int) < 11 ∧ (m16 : Int) < 16 ∧ j4 = k / 4 ∧ m4 = k % 4 ∧ j16 * 16 + m16 = k ∧ (0 : Int) ≤ (k : Int) := by
  refine ⟨k / 4, k % 4, k / 16, k % 16, ?_, ?_, ?_, ?_, by omega, by omega, by omega, by omega, rfl, rfl, by omega, by omega⟩
  · rw [Int.tdiv_eq_ediv_of_nonneg (by omega)]; omega
  · rw [Int.tmod_eq_emod_of_nonneg (by omega)]; omega
  · rw [Int.tdiv_eq_ediv_of_nonneg (by omega)]; omega
  · rw [Int.tmod_eq_emod_of_nonneg (by omega)]; omega
theorem size31 : (Try.prog.info? 31).map (·.size) = some 2 := by kernel_rfl
theorem rk0_range {V : World} {g : Nat} {t : TypeId} {xs : List Nat} (h : Blk V g t xs) (hl : xs.length = 176) : V.rangeAt g 0 (vals (rk xs 0)) := by
  rw [rk_eq]; exact h.range 0 16 (by rw [hl]; omega)
def BlRel (w : World) (key b X : List Nat) (gk gt c gb cb : Nat) (vs : List Value) (gc gr : Nat) (i : Value) (wr : World) : Prop :=
  ∃ k, k ≤ 176 ∧ i = .int .i64 (k : Nat) ∧ LS w key b X gk gt c gb cb vs gc gr wr
attribute [local irreducible] wd st cells enc boxTo

set_option maxRecDepth 20000 in
set_option maxHeartbeats 2000000 in
theorem blocks_with (MX : Hid (∀ bs os cs xs W, U.Row W W.heap.size (some ⟨bs, os, none⟩) 16 cs xs → Calls Try.prog 33 #[.slice (some ⟨bs, os, none⟩) 16 cs] W (U.GivesRow W (mxTo xs 16)))) (key b : List Nat) (lk : key.length = 16) (bk : ∀ x ∈ key, x < 256) (lb : b.length = 16) (bb : ∀ x ∈ b, x < 256) (w : World) :
    Calls Try.prog 4 #[.agg (arrV key), .agg (arrV b)] w fun e w' => e = .returned (.bool true) ∧ Below w.heap.size w w' := by
  have LK := Lib.hid lk
  have BK := Lib.hid bk
  have LB := Lib.hid lb
  have OF : Hid (∀ W, Calls Try.prog 14 #[.agg (vals key).toArray] W fun e w' => ∃ gt c gb cb vs, e = .returned (.agg #[.slice (some ⟨gt, 0, none⟩) 44 c, .slice (some ⟨gb, 0, none⟩) 256 cb]) ∧ RKey w' W.heap.size key gt c gb cb vs ∧ Below W.heap.size W w') := fun W => refOf_any key lk bk W
  have NW : Hid (∀ W : World, Calls Try.prog 15 #[.agg (vals key).toArray] W (GivesCipher W key)) := fun W => new_any key W lk bk
  have RD := Lib.hid (fun g W (h : Blk W g 49 (cells key)) => rounds_any g (cells key) W h (cells_length key lk bk))
  have EP : Hid (∀ (g : Nat) (W : World), Blk W g 49 (cells key) → Calls Try.prog 17 #[.pointer (some ⟨g, 0, none⟩), .agg (vals b).toArray] W (GivesL W (enc (cells key) b))) := fun g W h => encrypt_any g (cells key) W h (cells_length key lk bk) (cells_lt key lk bk) b lb bb
  have ER : Hid (∀ gt c gb cb vs (W : World), (∃ base, RKey W base key gt c gb cb vs) → Calls Try.prog 18 #[.agg #[.slice (some ⟨gt, 0, none⟩) 44 c, .slice (some ⟨gb, 0, none⟩) 256 cb], .agg (vals b).toArray] W (GivesL W (enc (cells key) b))) := fun gt c gb cb vs W h => by
    obtain ⟨base, h⟩ := h
    have := refEncrypt_with MX key b lk bk lb bb gt c gb cb base vs W h
    have e : st key b 10 = enc (cells key) b := by unfold st; rw [if_neg (by omega)]
    rw [e] at this
    exact this
  have OE := Lib.hid (enc_ok key b lk bk lb bb)
  have LX : Hid (((cells key).take 176).length = 176) := by rw [rounds_eq key lk bk]; exact ex_len key lk bk 40 (by omega)
  have RZ := Lib.hid (rk_zero key lk bk)
  have TG := Lib.hid (fun i hi => take_getD key lk bk i hi)
  have WL := Lib.hid (fun j hj => wd_len key lk bk j hj)
  have WB := Lib.hid (fun j => wd_lt key lk bk j)
  have KI0 := Lib.hid (KI2.start w key b)
  have Q1 := eqlS (enc (cells key) b) OE.out.1 OE.out.2
  have Q2 := eqlS key lk bk
  have Z35 := zero35
  generalize (cells key).take 176 = X at *
  generalize enc (cells key) b = Y at *
  clear lk bk lb bb MX
  go_enter Try.func4, Try.ntmps4
  go_wp2_with (first
    | (refine wpList_store_mid rfl 35 _ _ rfl X5.heap.size 0 (arrV X) rfl rfl (there176' (Blk.new X5 35 (noughts 176)) (noughts_length 176) LX.out) (sz176' X LX.out) (arrV_all _) ?_; rw [arrV_toList])
    | (go_at_call 16; refine (RD.out gc _ C4.out).mono ?_; rintro e X5 ⟨rfl, hb5⟩; have J5 := Lib.hid (J4.out.call hb5); have C5 := Lib.hid (C4.out.below hb5 C4.out.lt); have P5 := Lib.hid (P4.out.below hb5 P4.out.lt); have R5 := Lib.hid (R4.out.below hb5); clear hb5)
    | (go_at_call 15; refine (NW.out _).mono ?_; rintro e X4 ⟨gc, rfl, hg4, hc4, hb4⟩; have J4 := Lib.hid (J3.out.call hb4); have C4 := Lib.hid hc4; have P4 := Lib.hid (P3.out.below hb4 P3.out.lt); have R4 := Lib.hid (R3.out.below hb4); clear hb4 hc4 hg4)
    | (refine wpList_load_mid rfl 27 _ rfl w.heap.size 0 rfl (vals key) _ (whole_range J3.out.hk LK.out) Try.underlying27 rfl (sz16 key LK.out) ?_)
    | (go_at_call 14; refine (OF.out _).mono ?_; rintro e X3 ⟨gt, c, gb, cb, vs, rfl, hr3, hb3⟩; have J3 := Lib.hid ((J2.out.call hb3).alloc (.cells #[.slice (some ⟨gt, 0, none⟩) 44 c, .slice (some ⟨gb, 0, none⟩) 256 cb] 31)); have P3 := Lib.hid (Blk2.new X3 (.slice (some ⟨gt, 0, none⟩) 44 c) (.slice (some ⟨gb, 0, none⟩) 256 cb)); have R3 := Lib.hid (hr3.below (V2 := X3.alloc (.cells #[.slice (some ⟨gt, 0, none⟩) 44 c, .slice (some ⟨gb, 0, none⟩) 256 cb] 31)) ((Below.refl _ _).alloc (Nat.le_refl _) _)); clear hr3 hb3)
    | (refine wpList_load_mid rfl 27 _ rfl w.heap.size 0 rfl (vals key) _ (whole_range J2.out.hk LK.out) Try.underlying27 rfl (sz16 key LK.out) ?_)
    | (go_at_call 9; refine (speaks_any _).mono ?_; rintro e W2 ⟨rfl, hb1⟩; have J2 := Lib.hid (KI0.out.call hb1); clear hb1)
    | fail)
  have X6 : Hid (LS w key b X X3.heap.size gt c gb cb vs gc X5.heap.size ((X5.alloc (Obj.cells (arrV (noughts 176)) 35)).setCells X5.heap.size 0 (vals X))) := by
    have hbl : Below X5.heap.size X5 ((X5.alloc (Obj.cells (arrV (noughts 176)) 35)).setCells X5.heap.size 0 (vals X)) := below_setCells ((Below.refl _ _).alloc (Nat.le_refl _) _) (Nat.le_refl _) _ _
    exact ⟨J5.out.hk.below hbl J5.out.hk.lt, J5.out.hb.below hbl J5.out.hb.lt, P5.out.below hbl P5.out.lt, ⟨_, R5.out.below hbl⟩, C5.out.below hbl C5.out.lt, (Blk.new X5 35 (noughts 176)).storeAll (by rw [LX.out, noughts_length]), J5.out.hw.trans (hbl.mono J5.out.hw.size)⟩
  generalize ((X5.alloc (Obj.cells (arrV (noughts 176)) 35)).setCells X5.heap.size 0 (vals X)) = V6 at *
  generalize X5.heap.size = gr at *
  generalize X3.heap.size = gk at *
  clear J5 C5 P5 R5 OF NW RD KI0 Z35
  go_loopw [8] (BlRel w key b X gk gt c gb cb vs gc gr) (fun i _ => 176 - (intOf i).toNat)
  case atStart => exact ⟨0, Nat.zero_le _, rfl, X6.out⟩
  case round =>
    clear X6
    obtain ⟨k, hk, rfl, hV⟩ := hrel
    have HV := Lib.hid hV
    clear hV
    by_cases hlt : k < 176
    · obtain ⟨base, hr⟩ := HV.out.hr
      obtain ⟨gj, ct, hgj, hBj⟩ := hr.hi.word (k / 4) (by omega)
      have cy := hBj.cell (k % 4) (by rw [WL.out _ (by omega)]; omega)
      have cx := HV.out.hx.cell k (by rw [LX.out]; exact hlt)
      rw [TG.out k hlt] at cx
      have cw := HV.out.hp.c0
      generalize (wd key (k / 4)).getD (k % 4) 0 = y at *
      obtain ⟨j4, m4, j16, m16, e1, e2, e3, e4, e5, e6, e7, e8, z1, z2, z3, z4⟩ := nums176 k hlt
      rw [← z1] at ct
      rw [← z2] at cy
      have cx2 : wr.cell? ⟨gr, j16 * 16 + m16, none⟩ = some (.int .u8 (y : Int)) := by rw [z3]; exact cx
      have cx3 : wr.cell? ⟨gr, 16 * j16 + m16, none⟩ = some (.int .u8 (y : Int)) := by rw [Nat.mul_comm, z3]; exact cx
      have f1 : ((y : Int) != (y : Int)) = false := by simp
      clear z1 z2 z3 z4 hr hgj hBj cx
      go_wp2
      go_quiet (fail)
      go_wp2
      go_roundw
      case rel => exact ⟨k + 1, hlt, by go_num, HV.out.drewN _⟩
      case measure => simp [intOf]; omega
    · have H0 := Lib.hid HV.out.drew
      have LR : Hid ((rk X 0).length = 16) := by rw [RZ.out]; exact LK.out
      have Q3 : ∀ W : World, (binOp .eql 27 (.agg (vals (rk X 0)).toArray) (.agg (vals key).toArray)).run Try.prog W = .ok (.bool true) W := by rw [RZ.out]; exact Q2
      clear Q2
      have Q2 := Q3
      clear HV TG WL WB
      go_wp2
      refine wp_region_held_drew (S := fun W => LS w key b X gk gt c gb cb vs gc gr W) (by kernel_rfl) H0.out (fun _ => ?_)
      generalize wr.drew = V0 at *
      refine wpAnyH_take (i := 0) (v := .pointer (some ⟨gc, 0, none⟩)) rfl (by kernel_rfl) (by kernel_rfl) (by kernel_rfl) (fun _ _ _ h => h) (Or.inl ⟨by rfl, fun W hW => by clear hW; go_simp⟩) H0.out ?_
      try simp only [Act.put, List.getElem_toArray, List.getElem_cons_succ, List.getElem_cons_zero, List.setIfInBounds_toArray, List.set_cons_zero, List.set_cons_succ]
      refine wpAnyH_take (i := 1) rfl (by kernel_rfl) (by kernel_rfl) (by kernel_rfl) (fun _ _ _ h => h) (yieldsIf_load_mid (by rfl) _ _ rfl _ _ rfl _ _ (fun W hW => whole_range hW.hb LB.out) Try.underlying27 rfl (sz16 b LB.out)) H0.out ?_
      try simp only [Act.put, List.getElem_toArray, List.getElem_cons_succ, List.getElem_cons_zero, List.setIfInBounds_toArray, List.set_cons_zero, List.set_cons_succ]
      refine wpAnyH_take (i := 3) (v := .agg #[.slice (some ⟨gt, 0, none⟩) 44 c, .slice (some ⟨gb, 0, none⟩) 256 cb]) rfl (by kernel_rfl) (by kernel_rfl) (by kernel_rfl) (fun _ _ _ h => h) (Or.inl ⟨by rfl, fun W hW => by have h0 := hW.hp.c0; have h1 := hW.hp.c1; clear hW; go_simp⟩) H0.out ?_
      try simp only [Act.put, List.getElem_toArray, List.getElem_cons_succ, List.getElem_cons_zero, List.setIfInBounds_toArray, List.set_cons_zero, List.set_cons_succ]
      refine wpAnyH_take (i := 4) rfl (by kernel_rfl) (by kernel_rfl) (by kernel_rfl) (fun _ _ _ h => h) (yieldsIf_load_mid (by rfl) _ _ rfl _ _ rfl _ _ (fun W hW => whole_range hW.hb LB.out) Try.underlying27 rfl (sz16 b LB.out)) H0.out ?_
      try simp only [Act.put, List.getElem_toArray, List.getElem_cons_succ, List.getElem_cons_zero, List.setIfInBounds_toArray, List.set_cons_zero, List.set_cons_succ]
      refine wpAnyH_ready (rs := [2]) (by kernel_rfl) (by simp) ?_
      refine AllReadyH.cons rfl (fun K hK => ?_) AllReadyH.nil
      go_simp
      go_at_call 17
      refine (EP.out gc _ H0.out.hc).mono ?_
      rintro e V_2 ⟨rfl, hb_1⟩
      have H_3 := Lib.hid (H0.out.call hb_1)
      clear hb_1
      refine hK.out _ _ H_3.out (fun _ => ?_)
      clear hK K
      try simp only [Act.put, List.getElem_toArray, List.getElem_cons_succ, List.getElem_cons_zero, List.setIfInBounds_toArray, List.set_cons_zero, List.set_cons_succ]
      refine wpAnyH_ready (rs := [5]) (by kernel_rfl) (by simp) ?_
      refine AllReadyH.cons rfl (fun K hK => ?_) AllReadyH.nil
      go_simp
      go_at_call 18
      refine (ER.out gt c gb cb vs _ H_3.out.hr).mono ?_
      rintro e V_5 ⟨rfl, hb_4⟩
      have H_6 := Lib.hid (H_3.out.call hb_4)
      clear hb_4
      refine hK.out _ _ H_6.out (fun _ => ?_)
      clear hK K
      try simp only [Act.put, List.getElem_toArray, List.getElem_cons_succ, List.getElem_cons_zero, List.setIfInBounds_toArray, List.set_cons_zero, List.set_cons_succ]
      refine wpAnyH_take (i := 6) (v := .bool true) rfl (by kernel_rfl) (by kernel_rfl) (by kernel_rfl) (fun _ _ _ h => h) (Or.inl ⟨by rfl, fun W hW => by clear hW; go_simp⟩) H_6.out ?_
      try simp only [Act.put, List.getElem_toArray, List.getElem_cons_succ, List.getElem_cons_zero, List.setIfInBounds_toArray, List.set_cons_zero, List.set_cons_succ]
      refine wpAnyH_take (i := 7) (v := .bool true) rfl (by kernel_rfl) (by kernel_rfl) (by kernel_rfl) (fun _ _ _ h => h) (Or.inl ⟨by rfl, fun W hW => by clear hW; go_simp⟩) H_6.out ?_
      try simp only [Act.put, List.getElem_toArray, List.getElem_cons_succ, List.getElem_cons_zero, List.setIfInBounds_toArray, List.set_cons_zero, List.set_cons_succ]
      refine wpAnyH_take (i := 8) (v := .pointer (some ⟨gr, 0, none⟩)) rfl (by kernel_rfl) (by kernel_rfl) (by kernel_rfl) (fun _ _ _ h => h) (Or.inl ⟨by rfl, fun W hW => by clear hW; go_simp⟩) H_6.out ?_
      try simp only [Act.put, List.getElem_toArray, List.getElem_cons_succ, List.getElem_cons_zero, List.setIfInBounds_toArray, List.set_cons_zero, List.set_cons_succ]
      refine wpAnyH_take (i := 9) rfl (by kernel_rfl) (by kernel_rfl) (by kernel_rfl) (fun _ _ _ h => h) (yieldsIf_load_mid (by rfl) _ _ rfl _ _ rfl _ _ (fun W hW => rk0_range hW.hx LX.out) Try.underlying27 rfl (sz16 _ LR.out)) H_6.out ?_
      try simp only [Act.put, List.getElem_toArray, List.getElem_cons_succ, List.getElem_cons_zero, List.setIfInBounds_toArray, List.set_cons_zero, List.set_cons_succ]
      refine wpAnyH_take (i := 10) rfl (by kernel_rfl) (by kernel_rfl) (by kernel_rfl) (fun _ _ _ h => h) (yieldsIf_load_mid (by rfl) _ _ rfl _ _ rfl _ _ (fun W hW => whole_range hW.hk LK.out) Try.underlying27 rfl (sz16 key LK.out)) H_6.out ?_
      try simp only [Act.put, List.getElem_toArray, List.getElem_cons_succ, List.getElem_cons_zero, List.setIfInBounds_toArray, List.set_cons_zero, List.set_cons_succ]
      refine wpAnyH_take (i := 11) (v := .bool true) rfl (by kernel_rfl) (by kernel_rfl) (by kernel_rfl) (fun _ _ _ h => h) (Or.inl ⟨by rfl, fun W hW => by clear hW; go_simp⟩) H_6.out ?_
      try simp only [Act.put, List.getElem_toArray, List.getElem_cons_succ, List.getElem_cons_zero, List.setIfInBounds_toArray, List.set_cons_zero, List.set_cons_succ]
      refine wpAnyH_take (i := 12) (v := .bool true) rfl (by kernel_rfl) (by kernel_rfl) (by kernel_rfl) (fun _ _ _ h => h) (Or.inl ⟨by rfl, fun W hW => by clear hW; go_simp⟩) H_6.out ?_
      try simp only [Act.put, List.getElem_toArray, List.getElem_cons_succ, List.getElem_cons_zero, List.setIfInBounds_toArray, List.set_cons_zero, List.set_cons_succ]
      refine wpAnyH_take (i := 13) (v := .bool true) rfl (by kernel_rfl) (by kernel_rfl) (by kernel_rfl) (fun _ _ _ h => h) (Or.inl ⟨by rfl, fun W hW => by clear hW; go_simp⟩) H_6.out ?_
      try simp only [Act.put, List.getElem_toArray, List.getElem_cons_succ, List.getElem_cons_zero, List.setIfInBounds_toArray, List.set_cons_zero, List.set_cons_succ]
      refine wpAnyH_done (by kernel_rfl) ?_ _
      clear Q1 Q2
      go_wp2
      go_ret
      exact ⟨rfl, H_6.out.hw⟩
end Go.Proofs.Ytmmfigdmdamnlab
