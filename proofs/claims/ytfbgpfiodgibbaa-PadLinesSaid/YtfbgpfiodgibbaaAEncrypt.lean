/- The program enciphers a block. No statement is proved here. -/
import Derived.Test.YtfbgpfiodgibbaaANew
namespace Go.Proofs.Ytfbgpfiodgibbaa.A
open Go.RowKit
set_option linter.unusedVariables false
set_option linter.unusedSimpArgs false

/-- The key of a round. -/
def rk (cs : List Nat) (r : Nat) : List Nat := (cs.drop (16 * r)).take 16
theorem rk_length (cs : List Nat) (r : Nat) (h : 16 * r + 16 ≤ cs.length) : (rk cs r).length = 16 := by simp [rk]; omega
theorem rk_lt (cs : List Nat) (r : Nat) (h : ∀ x ∈ cs, x < 256) : ∀ x ∈ rk cs r, x < 256 := fun x hx => h x (List.mem_of_mem_drop (List.mem_of_mem_take hx))
/-- A block behind the round k. -/
def enTo (cs bs : List Nat) : Nat → List Nat
  | 0 => addTo bs (rk cs 0) 16
  | k + 1 => addTo (mxTo (shTo (stTo cs (enTo cs bs k) 16) 16) 16) (rk cs (k + 1)) 16
/-- A block, enciphered. -/
def enc (cs bs : List Nat) : List Nat := addTo (shTo (stTo cs (enTo cs bs 9) 16) 16) (rk cs 10) 16
theorem enTo_ok (cs bs : List Nat) (hl : cs.length = 432) (bc : ∀ x ∈ cs, x < 256) (hb : bs.length = 16) (bb : ∀ x ∈ bs, x < 256) (k : Nat) (hk : k ≤ 9) : (enTo cs bs k).length = 16 ∧ ∀ x ∈ enTo cs bs k, x < 256 := by
  induction k with
  | zero => exact ⟨by rw [enTo, addTo_length]; exact hb, addTo_lt _ _ bb (rk_lt _ _ bc) 16⟩
  | succ k ih =>
    obtain ⟨h1, h2⟩ := ih (by omega)
    exact ⟨by rw [enTo, addTo_length, mxTo_length], addTo_lt _ _ (mxTo_lt _ (shTo_lt _ (stTo_lt _ _ bc h2 16) 16) 16) (rk_lt _ _ bc) 16⟩
theorem enTo_zero (cs bs : List Nat) : enTo cs bs 0 = addTo bs (rk cs 0) 16 := by unfold enTo; rfl
theorem enTo_succ (cs bs : List Nat) (k : Nat) : enTo cs bs (k + 1) = addTo (mxTo (shTo (stTo cs (enTo cs bs k) 16) 16) 16) (rk cs (k + 1)) 16 := by rw [enTo]
def NRel2 (w : World) (g : Nat) (cs bs : List Nat) (i : Value) (wr : World) : Prop :=
  ∃ k, k ≤ 9 ∧ i = .int .i64 (k : Nat) ∧ Blk wr g 78 cs ∧ Blk wr w.heap.size 23 (enTo cs bs k) ∧ Blk wr (w.heap.size + 1) 23 zeros16 ∧ Below w.heap.size w wr

/-- The blocks that Encrypt works on. -/
structure EnInv (w : World) (g : Nat) (cs bs : List Nat) (V : World) : Prop where
  hc : Blk V g 78 cs
  hb : Blk V w.heap.size 23 bs
  hr : Blk V (w.heap.size + 1) 23 zeros16
  hw : Below w.heap.size w V
theorem EnInv.drew {w : World} {g : Nat} {cs bs : List Nat} {V : World} (h : EnInv w g cs bs V) : EnInv w g cs bs V.drew := ⟨h.hc.drew, h.hb.drew, h.hr.drew, h.hw.drew⟩
theorem EnInv.call {w : World} {g : Nat} {cs bs : List Nat} {V V2 : World} (h : EnInv w g cs bs V) (hb : Below V.heap.size V V2) : EnInv w g cs bs V2 := ⟨h.hc.below hb h.hc.lt, h.hb.below hb h.hb.lt, h.hr.below hb h.hr.lt, h.hw.trans (hb.mono h.hw.size)⟩
theorem EnInv.store {w : World} {g : Nat} {cs bs ys : List Nat} {V : World} (h : EnInv w g cs bs V) (hg : g < w.heap.size) (hl : bs.length = 16) (hy : ys.length = 16) : EnInv w g cs ys (V.setCells w.heap.size 0 (vals ys)) :=
  ⟨h.hc.farCells (by omega) _ _, h.hb.storeAll (by rw [hl, hy]), h.hr.farCells (by omega) _ _, below_setCells h.hw (Nat.le_refl _) _ _⟩
theorem key_range {V : World} {g : Nat} {cs : List Nat} (h : Blk V g 78 cs) (hl : cs.length = 432) (r : Nat) (hr : r ≤ 10) : V.rangeAt g (16 * r) (vals (rk cs r)) := h.range (16 * r) 16 (by rw [hl]; omega)
theorem sz16 (xs : List Nat) (h : xs.length = 16) : (Try.prog.info? 23).map (·.size) = some (vals xs).length := by rw [vals_length, h]; exact size27
theorem there16 {V : World} {g : Nat} {t : TypeId} {xs : List Nat} (h : Blk V g t xs) (hl : xs.length = 16) : V.there g 0 16 := h.there 0 16 (by rw [hl]; omega)

theorem sz16' (xs : List Nat) (h : xs.length = 16) : (Try.prog.info? 23).map (·.size) = some (vals xs).toArray.size := by rw [List.size_toArray]; exact sz16 xs h
theorem there16' {V : World} {g : Nat} {t : TypeId} {xs ys : List Nat} (h : Blk V g t xs) (hl : xs.length = 16) (hy : ys.length = 16) : V.there g 0 (vals ys).toArray.size := by rw [List.size_toArray, vals_length, hy]; exact there16 h hl

/-- What a call hands back, the array as a list's. -/
def GivesL (w : World) (xs : List Nat) (e : Ending) (w' : World) : Prop := e = .returned (.agg (vals xs).toArray) ∧ Below w.heap.size w w'
theorem addL (xs ys : List Nat) (hx : xs.length = 16) (hy : ys.length = 16) (bx : ∀ x ∈ xs, x < 256) (by_ : ∀ x ∈ ys, x < 256) (w : World) : Calls Try.prog 40 #[.agg (vals xs).toArray, .agg (vals ys).toArray] w (GivesL w (addTo xs ys 16)) := add_any xs ys w hx hy bx by_
theorem mixL (xs : List Nat) (hx : xs.length = 16) (bx : ∀ x ∈ xs, x < 256) (w : World) : Calls Try.prog 41 #[.agg (vals xs).toArray] w (GivesL w (mxTo xs 16)) := mix_any xs w hx bx
theorem shiftL (xs : List Nat) (hx : xs.length = 16) (w : World) : Calls Try.prog 42 #[.agg (vals xs).toArray] w (GivesL w (shTo xs 16)) := shift_any xs w hx
theorem standL (gc : Nat) (cs xs : List Nat) (hl : cs.length = 432) (hx : xs.length = 16) (bx : ∀ x ∈ xs, x < 256) (w : World) (hc : Blk w gc 78 cs) : Calls Try.prog 43 #[.pointer (some ⟨gc, 0, none⟩), .agg (vals xs).toArray] w (GivesL w (stTo cs xs 16)) := stand_any gc cs xs w hc hl hx bx

theorem enc_at (cs bs : List Nat) (k : Nat) : k = 9 → enc cs bs = addTo (shTo (stTo cs (enTo cs bs k) 16) 16) (rk cs 10) 16 := fun h => by subst h; rfl
theorem key_range' {V : World} {g : Nat} {cs : List Nat} (h : Blk V g 78 cs) (hl : cs.length = 432) (r : Nat) (hr : r ≤ 10) : V.rangeAt g (r * 16) (vals (rk cs r)) := by rw [Nat.mul_comm]; exact key_range h hl r hr
theorem zeros_length : zeros16.length = 16 := rfl

attribute [irreducible] enTo rk

set_option maxRecDepth 100000 in
set_option maxHeartbeats 10000000 in
theorem encrypt_any (g : Nat) (cs : List Nat) (w : World) (hc : Blk w g 78 cs) (hl : cs.length = 432) (bc : ∀ x ∈ cs, x < 256) (bs : List Nat) (hb : bs.length = 16) (bb : ∀ x ∈ bs, x < 256) :
    Calls Try.prog 29 #[.pointer (some ⟨g, 0, none⟩), .agg (arrV bs)] w (GivesArr w (enc cs bs)) := by
  have HC := Lib.hid hc
  have HL := Lib.hid hl
  have BC := Lib.hid bc
  have HB := Lib.hid hb
  have BB := Lib.hid bb
  have hg := hc.lt
  clear hc hl bc hb bb
  go_enter Try.func29, Try.ntmps29
  go_wp2
  obtain ⟨V, hV⟩ : ∃ V, (w.alloc (.cells (arrV bs) 23)).alloc (.cells (arrV zeros16) 23) = V := ⟨_, rfl⟩
  have VI := Lib.hid (show EnInv w g cs bs V by
    rw [← hV]
    refine ⟨(HC.out.alloc _).alloc _, (Blk.new w 23 bs).alloc _, ?_, ((Below.refl _ _).alloc (Nat.le_refl _) _).alloc (by simp) _⟩
    have := Blk.new (w.alloc (.cells (arrV bs) 23)) 23 zeros16
    rwa [show (w.alloc (.cells (arrV bs) 23)).heap.size = w.heap.size + 1 by simp] at this)
  change Code.wp _ _ _ _ ((w.alloc (.cells (arrV bs) 23)).alloc (.cells (arrV zeros16) 23))
  rw [hV]
  clear hV HC
  next =>
    have RL := Lib.hid (fun r (h : r ≤ 10) => rk_length cs r (by rw [HL.out]; omega))
    have q0 : V.drew.rangeAt g 0 (vals (rk cs 0)) := key_range VI.out.drew.hc HL.out 0 (by omega)
    have AL := Lib.hid ((addTo_length bs (rk cs 0) 16).trans HB.out)
    refine wp_region_held_drew (S := fun W => W.rangeAt g 0 (vals (rk cs 0))) (by kernel_rfl) q0 (fun _ => ?_)
    refine wpAnyH_take (i := 1) (v := .pointer (some ⟨g, 0, none⟩)) rfl (by kernel_rfl) (by kernel_rfl) (by kernel_rfl) (fun _ _ _ h => h) (Or.inl ⟨by rfl, fun W hW => by go_simp⟩) q0 ?_
    try simp only [Act.put, List.getElem_toArray, List.getElem_cons_succ, List.getElem_cons_zero, List.setIfInBounds_toArray, List.set_cons_zero, List.set_cons_succ]
    refine wpAnyH_take (i := 2) (v := .pointer (some ⟨g, 0, none⟩)) rfl (by kernel_rfl) (by kernel_rfl) (by kernel_rfl) (fun _ _ _ h => h) (Or.inl ⟨by rfl, fun W hW => by go_simp⟩) q0 ?_
    try simp only [Act.put, List.getElem_toArray, List.getElem_cons_succ, List.getElem_cons_zero, List.setIfInBounds_toArray, List.set_cons_zero, List.set_cons_succ]
    refine wpAnyH_take (i := 3) (v := .pointer (some ⟨g, 0, none⟩)) rfl (by kernel_rfl) (by kernel_rfl) (by kernel_rfl) (fun _ _ _ h => h) (Or.inl ⟨by rfl, fun W hW => by go_simp⟩) q0 ?_
    try simp only [Act.put, List.getElem_toArray, List.getElem_cons_succ, List.getElem_cons_zero, List.setIfInBounds_toArray, List.set_cons_zero, List.set_cons_succ]
    refine wpAnyH_take (i := 4) (v := .pointer (some ⟨g, 0, none⟩)) rfl (by kernel_rfl) (by kernel_rfl) (by kernel_rfl) (fun _ _ _ h => h) (Or.inl ⟨by rfl, fun W hW => by go_simp⟩) q0 ?_
    try simp only [Act.put, List.getElem_toArray, List.getElem_cons_succ, List.getElem_cons_zero, List.setIfInBounds_toArray, List.set_cons_zero, List.set_cons_succ]
    refine wpAnyH_take (i := 5) rfl (by kernel_rfl) (by kernel_rfl) (by kernel_rfl) (fun _ _ _ h => h) (yieldsIf_load_mid (by rfl) _ _ rfl _ _ rfl _ _ (fun W hW => hW) Try.underlying23 rfl (sz16 (rk cs 0) (RL.out 0 (by omega)))) q0 ?_
    try simp only [Act.put, List.getElem_toArray, List.getElem_cons_succ, List.getElem_cons_zero, List.setIfInBounds_toArray, List.set_cons_zero, List.set_cons_succ]
    refine wpAnyH_ready (rs := [0]) (by kernel_rfl) (by simp) ?_
    refine AllReadyH.cons rfl (fun K hK => ?_) AllReadyH.nil
    rw [if_pos (by rfl)]
    refine wp_load_mid _ _ rfl _ _ rfl _ _ (whole_range VI.out.drew.hb HB.out) Try.underlying23 rfl (sz16 bs HB.out) ?_
    refine hK.out _ _ q0 (fun _ => ?_)
    clear hK K
    try simp only [Act.put, List.getElem_toArray, List.getElem_cons_succ, List.getElem_cons_zero, List.setIfInBounds_toArray, List.set_cons_zero, List.set_cons_succ]
    refine wpAnyH_ready (rs := [6]) (by kernel_rfl) (by simp) ?_
    refine AllReadyH.cons rfl (fun K hK => ?_) AllReadyH.nil
    go_simp
    go_at_call 40
    refine (addL bs (rk cs 0) HB.out (RL.out 0 (by omega)) BB.out (rk_lt cs 0 BC.out) _).mono ?_
    rintro e V2 ⟨rfl, hb5⟩
    have HV2 := Lib.hid (VI.out.drew.call hb5)
    clear hb5
    refine hK.out _ _ (key_range HV2.out.hc HL.out 0 (by omega)) (fun _ => ?_)
    clear hK K
    try simp only [Act.put, List.getElem_toArray, List.getElem_cons_succ, List.getElem_cons_zero, List.setIfInBounds_toArray, List.set_cons_zero, List.set_cons_succ]
    refine wpAnyH_ready (rs := [7]) (by kernel_rfl) (by simp) ?_
    refine AllReadyH.cons rfl (fun K hK => ?_) AllReadyH.nil
    rw [if_pos (by rfl)]
    refine wp_store_mid _ _ _ rfl _ _ (List.toArray _) rfl rfl (there16' HV2.out.hb HB.out AL.out) (sz16' _ AL.out) (all_oneCell_toArray (vals_one _)) ?_
    try simp only [List.toList_toArray]
    refine hK.out _ _ (key_range (HV2.out.store hg HB.out AL.out).hc HL.out 0 (by omega)) (fun _ => ?_)
    clear hK K
    try simp only [Act.put, List.getElem_toArray, List.getElem_cons_succ, List.getElem_cons_zero, List.setIfInBounds_toArray, List.set_cons_zero, List.set_cons_succ]
    refine wpAnyH_done (by kernel_rfl) ?_ _
    have HV6 := Lib.hid (HV2.out.store hg HB.out AL.out)
    clear q0
    go_wp2
    go_loopw [13] (NRel2 w g cs bs) (fun i _ => 9 - (intOf i).toNat)
    case atStart => exact ⟨0, by omega, rfl, HV6.out.hc, by rw [enTo_zero]; exact HV6.out.hb, HV6.out.hr, HV6.out.hw⟩
    case round =>
      obtain ⟨k, hk, rfl, h0, h1, h2, h3⟩ := hrel
      have HI := Lib.hid (EnInv.mk h0 h1 h2 h3)
      have EK := Lib.hid (enTo_ok cs bs HL.out BC.out HB.out BB.out k hk)
      have ES := Lib.hid (enTo_succ cs bs k)
      have EE := Lib.hid (enc_at cs bs k)
      clear h0 h1 h2 h3
      generalize enTo cs bs k = E at *
      have SB := Lib.hid (stTo_lt cs E BC.out EK.out.2 16)
      have SL := Lib.hid ((stTo_length cs E 16).trans EK.out.1)
      generalize hS1 : stTo cs E 16 = S1 at *
      have HS1 := Lib.hid hS1
      clear hS1
      have TL := Lib.hid (shTo_length S1 16)
      have TB := Lib.hid (shTo_lt S1 SB.out 16)
      generalize hS2 : shTo S1 16 = S2 at *
      have HS2 := Lib.hid hS2
      clear hS2
      by_cases hlt : k < 9
      · have ML := Lib.hid (mxTo_length S2 16)
        have MB := Lib.hid (mxTo_lt S2 TB.out 16)
        generalize hS3 : mxTo S2 16 = S3 at *
        have HS3 := Lib.hid hS3
        clear hS3
        have RB := Lib.hid (rk_lt cs (k + 1) BC.out)
        have RK := Lib.hid (RL.out (k + 1) (by omega))
        have AL2 := Lib.hid ((addTo_length S3 (rk cs (k + 1)) 16).trans ML.out)
        have w1 : IntKind.i64.wrap ((k : Int) + 1) = (k : Int) + 1 := IntWalk.i64_in _ (by omega)
        have w2 : (0 : Int) ≤ (k : Int) + 1 ∧ (k : Int) + 1 < 11 := by omega
        have w3 : ((k : Int) + 1).toNat = k + 1 := by omega
        go_wp2
        have q0 : wr.drew.rangeAt g ((k + 1) * 16) (vals (rk cs (k + 1))) := key_range' HI.out.drew.hc HL.out (k + 1) (by omega)
        refine wp_region_held_drew (S := fun W => W.rangeAt g ((k + 1) * 16) (vals (rk cs (k + 1)))) (by kernel_rfl) q0 (fun _ => ?_)
        refine wpAnyH_take (i := 0) (v := .pointer (some ⟨g, 0, none⟩)) rfl (by kernel_rfl) (by kernel_rfl) (by kernel_rfl) (fun _ _ _ h => h) (Or.inl ⟨by rfl, fun W hW => by go_simp⟩) q0 ?_
        try simp only [Act.put, List.getElem_toArray, List.getElem_cons_succ, List.getElem_cons_zero, List.setIfInBounds_toArray, List.set_cons_zero, List.set_cons_succ]
        refine wpAnyH_take (i := 5) (v := .pointer (some ⟨g, 0, none⟩)) rfl (by kernel_rfl) (by kernel_rfl) (by kernel_rfl) (fun _ _ _ h => h) (Or.inl ⟨by rfl, fun W hW => by go_simp⟩) q0 ?_
        try simp only [Act.put, List.getElem_toArray, List.getElem_cons_succ, List.getElem_cons_zero, List.setIfInBounds_toArray, List.set_cons_zero, List.set_cons_succ]
        refine wpAnyH_take (i := 6) (v := .int .i64 (k : Int)) rfl (by kernel_rfl) (by kernel_rfl) (by kernel_rfl) (fun _ _ _ h => h) (Or.inl ⟨by rfl, fun W hW => by go_simp⟩) q0 ?_
        try simp only [Act.put, List.getElem_toArray, List.getElem_cons_succ, List.getElem_cons_zero, List.setIfInBounds_toArray, List.set_cons_zero, List.set_cons_succ]
        refine wpAnyH_take (i := 7) (v := .int .i64 ((k : Int) + 1)) rfl (by kernel_rfl) (by kernel_rfl) (by kernel_rfl) (fun _ _ _ h => h) (Or.inl ⟨by rfl, fun W hW => by go_simp⟩) q0 ?_
        try simp only [Act.put, List.getElem_toArray, List.getElem_cons_succ, List.getElem_cons_zero, List.setIfInBounds_toArray, List.set_cons_zero, List.set_cons_succ]
        refine wpAnyH_take (i := 8) (v := .pointer (some ⟨g, 0, none⟩)) rfl (by kernel_rfl) (by kernel_rfl) (by kernel_rfl) (fun _ _ _ h => h) (Or.inl ⟨by rfl, fun W hW => by go_simp⟩) q0 ?_
        try simp only [Act.put, List.getElem_toArray, List.getElem_cons_succ, List.getElem_cons_zero, List.setIfInBounds_toArray, List.set_cons_zero, List.set_cons_succ]
        refine wpAnyH_take (i := 9) (v := .pointer (some ⟨g, 0, none⟩)) rfl (by kernel_rfl) (by kernel_rfl) (by kernel_rfl) (fun _ _ _ h => h) (Or.inl ⟨by rfl, fun W hW => by go_simp⟩) q0 ?_
        try simp only [Act.put, List.getElem_toArray, List.getElem_cons_succ, List.getElem_cons_zero, List.setIfInBounds_toArray, List.set_cons_zero, List.set_cons_succ]
        refine wpAnyH_take (i := 10) (v := .pointer (some ⟨g, (k + 1) * 16, none⟩)) rfl (by kernel_rfl) (by kernel_rfl) (by kernel_rfl) (fun _ _ _ h => h) (Or.inl ⟨by rfl, fun W hW => by go_simp⟩) q0 ?_
        try simp only [Act.put, List.getElem_toArray, List.getElem_cons_succ, List.getElem_cons_zero, List.setIfInBounds_toArray, List.set_cons_zero, List.set_cons_succ]
        refine wpAnyH_take (i := 11) rfl (by kernel_rfl) (by kernel_rfl) (by kernel_rfl) (fun _ _ _ h => h) (yieldsIf_load_mid (by rfl) _ _ rfl _ _ rfl _ _ (fun W hW => hW) Try.underlying23 rfl (sz16 (rk cs (k + 1)) RK.out)) q0 ?_
        try simp only [Act.put, List.getElem_toArray, List.getElem_cons_succ, List.getElem_cons_zero, List.setIfInBounds_toArray, List.set_cons_zero, List.set_cons_succ]
        refine wpAnyH_ready (rs := [1]) (by kernel_rfl) (by simp) ?_
        refine AllReadyH.cons rfl (fun K hK => ?_) AllReadyH.nil
        rw [if_pos (by rfl)]
        refine wp_load_mid _ _ rfl _ _ rfl _ _ (whole_range HI.out.drew.hb EK.out.1) Try.underlying23 rfl (sz16 E EK.out.1) ?_
        refine hK.out _ _ q0 (fun _ => ?_)
        clear hK K
        try simp only [Act.put, List.getElem_toArray, List.getElem_cons_succ, List.getElem_cons_zero, List.setIfInBounds_toArray, List.set_cons_zero, List.set_cons_succ]
        refine wpAnyH_ready (rs := [2]) (by kernel_rfl) (by simp) ?_
        refine AllReadyH.cons rfl (fun K hK => ?_) AllReadyH.nil
        go_simp
        go_at_call 43
        refine (standL g cs E HL.out EK.out.1 EK.out.2 _ HI.out.drew.hc).mono ?_
        rintro e V3 ⟨rfl, hb5⟩
        rw [HS1.out]
        have HV3 := Lib.hid (HI.out.drew.call hb5)
        clear hb5
        refine hK.out _ _ (key_range' HV3.out.hc HL.out (k + 1) (by omega)) (fun _ => ?_)
        clear hK K
        try simp only [Act.put, List.getElem_toArray, List.getElem_cons_succ, List.getElem_cons_zero, List.setIfInBounds_toArray, List.set_cons_zero, List.set_cons_succ]
        refine wpAnyH_ready (rs := [3]) (by kernel_rfl) (by simp) ?_
        refine AllReadyH.cons rfl (fun K hK => ?_) AllReadyH.nil
        go_simp
        go_at_call 42
        refine (shiftL S1 SL.out _).mono ?_
        rintro e V4 ⟨rfl, hb5⟩
        rw [HS2.out]
        have HV4 := Lib.hid (HV3.out.call hb5)
        clear hb5
        refine hK.out _ _ (key_range' HV4.out.hc HL.out (k + 1) (by omega)) (fun _ => ?_)
        clear hK K
        try simp only [Act.put, List.getElem_toArray, List.getElem_cons_succ, List.getElem_cons_zero, List.setIfInBounds_toArray, List.set_cons_zero, List.set_cons_succ]
        refine wpAnyH_ready (rs := [4]) (by kernel_rfl) (by simp) ?_
        refine AllReadyH.cons rfl (fun K hK => ?_) AllReadyH.nil
        go_simp
        go_at_call 41
        refine (mixL S2 TL.out TB.out _).mono ?_
        rintro e V5 ⟨rfl, hb5⟩
        rw [HS3.out]
        have HV5 := Lib.hid (HV4.out.call hb5)
        clear hb5
        refine hK.out _ _ (key_range' HV5.out.hc HL.out (k + 1) (by omega)) (fun _ => ?_)
        clear hK K
        try simp only [Act.put, List.getElem_toArray, List.getElem_cons_succ, List.getElem_cons_zero, List.setIfInBounds_toArray, List.set_cons_zero, List.set_cons_succ]
        refine wpAnyH_ready (rs := [12]) (by kernel_rfl) (by simp) ?_
        refine AllReadyH.cons rfl (fun K hK => ?_) AllReadyH.nil
        go_simp
        go_at_call 40
        refine (addL S3 (rk cs (k + 1)) ML.out RK.out MB.out RB.out _).mono ?_
        rintro e V7 ⟨rfl, hb5⟩
        have HV7 := Lib.hid (HV5.out.call hb5)
        clear hb5
        refine hK.out _ _ (key_range' HV7.out.hc HL.out (k + 1) (by omega)) (fun _ => ?_)
        clear hK K
        try simp only [Act.put, List.getElem_toArray, List.getElem_cons_succ, List.getElem_cons_zero, List.setIfInBounds_toArray, List.set_cons_zero, List.set_cons_succ]
        refine wpAnyH_ready (rs := [13]) (by kernel_rfl) (by simp) ?_
        refine AllReadyH.cons rfl (fun K hK => ?_) AllReadyH.nil
        rw [if_pos (by rfl)]
        refine wp_store_mid _ _ _ rfl _ _ (List.toArray _) rfl rfl (there16' HV7.out.hb EK.out.1 AL2.out) (sz16' _ AL2.out) (all_oneCell_toArray (vals_one _)) ?_
        try simp only [List.toList_toArray]
        refine hK.out _ _ (key_range' (HV7.out.store hg EK.out.1 AL2.out).hc HL.out (k + 1) (by omega)) (fun _ => ?_)
        clear hK K
        try simp only [Act.put, List.getElem_toArray, List.getElem_cons_succ, List.getElem_cons_zero, List.setIfInBounds_toArray, List.set_cons_zero, List.set_cons_succ]
        refine wpAnyH_done (by kernel_rfl) ?_ _
        have HV8 := Lib.hid (HV7.out.store hg EK.out.1 AL2.out)
        clear w2 w3
        go_wp2
        go_roundw
        case rel => exact ⟨k + 1, by omega, rfl, HV8.out.hc, by rw [ES.out]; exact HV8.out.hb, HV8.out.hr, HV8.out.hw⟩
        case measure => simp [intOf]; omega
      · have RB := Lib.hid (rk_lt cs 10 BC.out)
        have RK := Lib.hid (RL.out 10 (by omega))
        have AL2 := Lib.hid ((addTo_length S2 (rk cs 10) 16).trans TL.out)
        have EF : Hid (enc cs bs = addTo S2 (rk cs 10) 16) := EE.out (by omega)
        go_wp2
        have q0 : wr.drew.rangeAt g 160 (vals (rk cs 10)) := key_range HI.out.drew.hc HL.out 10 (by omega)
        refine wp_region_held_drew (S := fun W => W.rangeAt g 160 (vals (rk cs 10))) (by kernel_rfl) q0 (fun _ => ?_)
        refine wpAnyH_take (i := 0) (v := .pointer (some ⟨g, 0, none⟩)) rfl (by kernel_rfl) (by kernel_rfl) (by kernel_rfl) (fun _ _ _ h => h) (Or.inl ⟨by rfl, fun W hW => by go_simp⟩) q0 ?_
        try simp only [Act.put, List.getElem_toArray, List.getElem_cons_succ, List.getElem_cons_zero, List.setIfInBounds_toArray, List.set_cons_zero, List.set_cons_succ]
        refine wpAnyH_take (i := 4) (v := .pointer (some ⟨g, 0, none⟩)) rfl (by kernel_rfl) (by kernel_rfl) (by kernel_rfl) (fun _ _ _ h => h) (Or.inl ⟨by rfl, fun W hW => by go_simp⟩) q0 ?_
        try simp only [Act.put, List.getElem_toArray, List.getElem_cons_succ, List.getElem_cons_zero, List.setIfInBounds_toArray, List.set_cons_zero, List.set_cons_succ]
        refine wpAnyH_take (i := 5) (v := .pointer (some ⟨g, 0, none⟩)) rfl (by kernel_rfl) (by kernel_rfl) (by kernel_rfl) (fun _ _ _ h => h) (Or.inl ⟨by rfl, fun W hW => by go_simp⟩) q0 ?_
        try simp only [Act.put, List.getElem_toArray, List.getElem_cons_succ, List.getElem_cons_zero, List.setIfInBounds_toArray, List.set_cons_zero, List.set_cons_succ]
        refine wpAnyH_take (i := 6) (v := .pointer (some ⟨g, 0, none⟩)) rfl (by kernel_rfl) (by kernel_rfl) (by kernel_rfl) (fun _ _ _ h => h) (Or.inl ⟨by rfl, fun W hW => by go_simp⟩) q0 ?_
        try simp only [Act.put, List.getElem_toArray, List.getElem_cons_succ, List.getElem_cons_zero, List.setIfInBounds_toArray, List.set_cons_zero, List.set_cons_succ]
        refine wpAnyH_take (i := 7) (v := .pointer (some ⟨g, 160, none⟩)) rfl (by kernel_rfl) (by kernel_rfl) (by kernel_rfl) (fun _ _ _ h => h) (Or.inl ⟨by rfl, fun W hW => by go_simp⟩) q0 ?_
        try simp only [Act.put, List.getElem_toArray, List.getElem_cons_succ, List.getElem_cons_zero, List.setIfInBounds_toArray, List.set_cons_zero, List.set_cons_succ]
        refine wpAnyH_take (i := 8) rfl (by kernel_rfl) (by kernel_rfl) (by kernel_rfl) (fun _ _ _ h => h) (yieldsIf_load_mid (by rfl) _ _ rfl _ _ rfl _ _ (fun W hW => hW) Try.underlying23 rfl (sz16 (rk cs 10) RK.out)) q0 ?_
        try simp only [Act.put, List.getElem_toArray, List.getElem_cons_succ, List.getElem_cons_zero, List.setIfInBounds_toArray, List.set_cons_zero, List.set_cons_succ]
        refine wpAnyH_ready (rs := [1]) (by kernel_rfl) (by simp) ?_
        refine AllReadyH.cons rfl (fun K hK => ?_) AllReadyH.nil
        rw [if_pos (by rfl)]
        refine wp_load_mid _ _ rfl _ _ rfl _ _ (whole_range HI.out.drew.hb EK.out.1) Try.underlying23 rfl (sz16 E EK.out.1) ?_
        refine hK.out _ _ q0 (fun _ => ?_)
        clear hK K
        try simp only [Act.put, List.getElem_toArray, List.getElem_cons_succ, List.getElem_cons_zero, List.setIfInBounds_toArray, List.set_cons_zero, List.set_cons_succ]
        refine wpAnyH_ready (rs := [2]) (by kernel_rfl) (by simp) ?_
        refine AllReadyH.cons rfl (fun K hK => ?_) AllReadyH.nil
        go_simp
        go_at_call 43
        refine (standL g cs E HL.out EK.out.1 EK.out.2 _ HI.out.drew.hc).mono ?_
        rintro e V3 ⟨rfl, hb5⟩
        rw [HS1.out]
        have HV3 := Lib.hid (HI.out.drew.call hb5)
        clear hb5
        refine hK.out _ _ (key_range HV3.out.hc HL.out 10 (by omega)) (fun _ => ?_)
        clear hK K
        try simp only [Act.put, List.getElem_toArray, List.getElem_cons_succ, List.getElem_cons_zero, List.setIfInBounds_toArray, List.set_cons_zero, List.set_cons_succ]
        refine wpAnyH_ready (rs := [3]) (by kernel_rfl) (by simp) ?_
        refine AllReadyH.cons rfl (fun K hK => ?_) AllReadyH.nil
        go_simp
        go_at_call 42
        refine (shiftL S1 SL.out _).mono ?_
        rintro e V4 ⟨rfl, hb5⟩
        rw [HS2.out]
        have HV4 := Lib.hid (HV3.out.call hb5)
        clear hb5
        refine hK.out _ _ (key_range HV4.out.hc HL.out 10 (by omega)) (fun _ => ?_)
        clear hK K
        try simp only [Act.put, List.getElem_toArray, List.getElem_cons_succ, List.getElem_cons_zero, List.setIfInBounds_toArray, List.set_cons_zero, List.set_cons_succ]
        refine wpAnyH_ready (rs := [9]) (by kernel_rfl) (by simp) ?_
        refine AllReadyH.cons rfl (fun K hK => ?_) AllReadyH.nil
        go_simp
        go_at_call 40
        refine (addL S2 (rk cs 10) TL.out RK.out TB.out RB.out _).mono ?_
        rintro e V7 ⟨rfl, hb5⟩
        have HV7 := Lib.hid (HV4.out.call hb5)
        clear hb5
        refine hK.out _ _ (key_range HV7.out.hc HL.out 10 (by omega)) (fun _ => ?_)
        clear hK K
        try simp only [Act.put, List.getElem_toArray, List.getElem_cons_succ, List.getElem_cons_zero, List.setIfInBounds_toArray, List.set_cons_zero, List.set_cons_succ]
        refine wpAnyH_ready (rs := [10]) (by kernel_rfl) (by simp) ?_
        refine AllReadyH.cons rfl (fun K hK => ?_) AllReadyH.nil
        rw [if_pos (by rfl)]
        refine wp_store_mid _ _ _ rfl _ _ (List.toArray _) rfl rfl (there16' HV7.out.hr zeros_length AL2.out) (sz16' _ AL2.out) (all_oneCell_toArray (vals_one _)) ?_
        try simp only [List.toList_toArray]
        refine hK.out _ _ (key_range (HV7.out.hc.farCells (by omega) _ _) HL.out 10 (by omega)) (fun _ => ?_)
        clear hK K
        try simp only [Act.put, List.getElem_toArray, List.getElem_cons_succ, List.getElem_cons_zero, List.setIfInBounds_toArray, List.set_cons_zero, List.set_cons_succ]
        refine wpAnyH_done (by kernel_rfl) ?_ _
        have hs := HV7.out.hr.storeAll (ys := addTo S2 (rk cs 10) 16) (by rw [AL2.out]; rfl)
        go_wp2
        rw [EF.out]
        exact bodyPost_ret (results_arr Try.results29 _ _ (w.heap.size + 1) rfl _ (hs.loadAll 23 _ AL2.out Try.underlying23 rfl size27)) rfl ⟨rfl, below_setCells HV7.out.hw (by omega) _ _⟩
end Go.Proofs.Ytfbgpfiodgibbaa.A
