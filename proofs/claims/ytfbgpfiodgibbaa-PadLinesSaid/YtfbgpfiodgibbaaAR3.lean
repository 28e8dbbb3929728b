/- What the document's cipher does to bytes: columns are mixed. No statement is proved here. The document's key: its words, and the table. No statement is proved here. What the document's cipher makes of a block, by the program's own words. No program is walked here. What the document's cipher makes of a block is what the program makes of it. No statement is proved here. -/
import Derived.Test.YtfbgpfiodgibbaaAR2
import Derived.StillTailTactics
namespace Go.Proofs.Ytfbgpfiodgibbaa.A
open Go.RowKit
set_option linter.unusedVariables false

theorem two_three : ((List.range 256).all fun a => times 2 a == dbl a && times 3 a == (dbl a ^^^ a)) = true := by decide +kernel
theorem times_2a (a : Nat) (h : a < 256) : times 2 a = dbl a := by
  have := List.all_eq_true.1 two_three a (List.mem_range.2 h)
  rw [Bool.and_eq_true] at this
  exact beq_iff_eq.1 this.1
theorem times_3a (a : Nat) (h : a < 256) : times 3 a = dbl a ^^^ a := by
  have := List.all_eq_true.1 two_three a (List.mem_range.2 h)
  rw [Bool.and_eq_true] at this
  exact beq_iff_eq.1 this.2
theorem mxTo_step (xs : List Nat) (r c : Nat) (hr : r < 4) : mxTo xs (4 * c + (r + 1)) = (mxTo xs (4 * c + r)).set (r + 4 * c) (dbl (xs.getD (r + 4 * c) 0) ^^^ (dbl (xs.getD ((r + 1) % 4 + 4 * c) 0) ^^^ xs.getD ((r + 1) % 4 + 4 * c) 0) ^^^ xs.getD ((r + 2) % 4 + 4 * c) 0 ^^^ xs.getD ((r + 3) % 4 + 4 * c) 0) := by
  have g : ∀ j, j < 4 → ((xs.drop (4 * c)).take 4).getD j 0 = xs.getD (j + 4 * c) 0 := fun j hj => by rw [col_getD xs c j hj, Nat.add_comm]
  rw [show 4 * c + (r + 1) = (4 * c + r) + 1 by omega, mxTo, show (4 * c + r) / 4 = c by omega, show (4 * c + r) % 4 = r by omega, show 4 * c + r = r + 4 * c by omega]
  unfold mixed
  rw [g r hr, g _ (Nat.mod_lt _ (by omega)), g _ (Nat.mod_lt _ (by omega)), g _ (Nat.mod_lt _ (by omega))]
  congr 1
  simp only [Nat.xor_assoc]
theorem mix_vars (r c : Nat) (hr : r < 4) (hc : c < 4) : ∃ r1 r2 r3 j1 j2 j3 f o0 o1 o2 o3 : Nat,
    IntKind.i64.wrap ((r : Int) + 1) = (r1 : Int) ∧ IntKind.i64.wrap ((r : Int) + 2) = (r2 : Int) ∧ IntKind.i64.wrap ((r : Int) + 3) = (r3 : Int) ∧ (r1 : Int).tmod 4 = (j1 : Int) ∧ (r2 : Int).tmod 4 = (j2 : Int) ∧ (r3 : Int).tmod 4 = (j3 : Int) ∧
    IntKind.i64.wrap (j1 : Int) = (j1 : Int) ∧ IntKind.i64.wrap (j2 : Int) = (j2 : Int) ∧ IntKind.i64.wrap (j3 : Int) = (j3 : Int) ∧ IntKind.i64.wrap (4 * (c : Int)) = (f : Int) ∧
    IntKind.i64.wrap ((r : Int) + (f : Int)) = (o0 : Int) ∧ IntKind.i64.wrap ((j1 : Int) + (f : Int)) = (o1 : Int) ∧ IntKind.i64.wrap ((j2 : Int) + (f : Int)) = (o2 : Int) ∧ IntKind.i64.wrap ((j3 : Int) + (f : Int)) = (o3 : Int) ∧
    (o0 : Int) < 16 ∧ (o1 : Int) < 16 ∧ (o2 : Int) < 16 ∧ (o3 : Int) < 16 ∧ o0 = r + 4 * c ∧ o1 = (r + 1) % 4 + 4 * c ∧ o2 = (r + 2) % 4 + 4 * c ∧ o3 = (r + 3) % 4 + 4 * c ∧ r1 = r + 1 := by
  have W : ∀ (z : Int) (n : Nat), z = (n : Int) → n < 1000 → IntKind.i64.wrap z = (n : Int) := fun z n h hn => by rw [h]; exact IntWalk.i64_in _ (by omega)
  have T : ∀ n : Nat, ((n : Nat) : Int).tmod 4 = ((n % 4 : Nat) : Int) := fun n => by rw [Int.tmod_eq_emod_of_nonneg (by omega)]; omega
  refine ⟨r + 1, r + 2, r + 3, (r + 1) % 4, (r + 2) % 4, (r + 3) % 4, 4 * c, r + 4 * c, (r + 1) % 4 + 4 * c, (r + 2) % 4 + 4 * c, (r + 3) % 4 + 4 * c, ?_⟩
  have b1 : (r + 1) % 4 < 4 := Nat.mod_lt _ (by omega)
  have b2 : (r + 2) % 4 < 4 := Nat.mod_lt _ (by omega)
  have b3 : (r + 3) % 4 < 4 := Nat.mod_lt _ (by omega)
  have T1 := T (r + 1)
  have T2 := T (r + 2)
  have T3 := T (r + 3)
  generalize (r + 1) % 4 = j1 at *
  generalize (r + 2) % 4 = j2 at *
  generalize (r + 3) % 4 = j3 at *
  exact ⟨W _ _ (by omega) (by omega), W _ _ (by omega) (by omega), W _ _ (by omega) (by omega), T1, T2, T3, W _ _ rfl (by omega), W _ _ rfl (by omega), W _ _ rfl (by omega), W _ _ (by omega) (by omega), W _ _ (by omega) (by omega), W _ _ (by omega) (by omega), W _ _ (by omega) (by omega), W _ _ (by omega) (by omega), by omega, by omega, by omega, by omega, rfl, rfl, rfl, rfl, rfl⟩
structure TM (w : World) (xs : List Nat) (W : World) : Prop where
  hw : Below w.heap.size w W
def MxRel (w : World) (xs : List Nat) (f : Nat → Nat) (i : Value) (wr : World) : Prop :=
  ∃ k, k ≤ 4 ∧ i = .int .i64 (k : Nat) ∧ U.Own wr w.heap.size (some ⟨w.heap.size, 0, none⟩) 16 16 (mxTo xs (f k)) ∧ Below w.heap.size w wr
theorem mxTo_zero (xs : List Nat) : mxTo xs 0 = List.replicate 16 0 := by unfold mxTo zeros16; rfl
attribute [local irreducible] times dbl

set_option maxRecDepth 20000 in
set_option maxHeartbeats 4000000 in
theorem refMix_any (bs os cs : Nat) (xs : List Nat) (w : World) (hx : U.Row w w.heap.size (some ⟨bs, os, none⟩) 16 cs xs) :
    Calls Try.prog 32 #[.slice (some ⟨bs, os, none⟩) 16 cs] w (U.GivesRow w (mxTo xs 16)) := by
  have HX := Lib.hid hx
  clear hx
  have E0 : Hid (mxTo xs (4 * 0) = List.replicate 16 0) := mxTo_zero xs
  go_enter Try.func32, Try.ntmps32
  go_wp2_with (first
    | (refine U.wpList_make_zeros _ rfl _ _ rfl w.heap.size 16 16 16 rfl rfl rfl rfl (by omega) (Nat.le_refl _) ?_; intro w1 hO1 hg1)
    | fail)
  have HO1 := Lib.hid hO1
  have HB1 := Lib.hid ((Below.refl w.heap.size w).grown hg1 (Nat.le_refl _) (fun k hk => by cases hk))
  clear hO1 hg1
  go_loopw [4] (MxRel w xs (fun k => 4 * k)) (fun i _ => 4 - (intOf i).toNat)
  case atStart => exact ⟨0, Nat.zero_le _, rfl, by show U.Own _ _ _ _ _ (mxTo xs (4 * 0)); rw [E0.out]; exact HO1.out, HB1.out⟩
  case round =>
    clear HO1 HB1
    obtain ⟨c, hc, rfl, hO, hB⟩ := hrel
    have HO := Lib.hid hO
    have HB := Lib.hid hB
    clear hO hB
    by_cases hlc : c < 4
    · go_wp2
      go_loopw [5] (MxRel w xs (fun k => 4 * c + k)) (fun i _ => 4 - (intOf i).toNat)
      case atStart => exact ⟨0, Nat.zero_le _, rfl, HO.out, HB.out⟩
      case round =>
        clear HO HB
        obtain ⟨r, hr, rfl, hO, hB⟩ := hrel
        have HO := Lib.hid hO
        have HB := Lib.hid hB
        clear hO hB
        by_cases hlr : r < 4
        · have ES := Lib.hid (mxTo_step xs r c hlr)
          obtain ⟨r1, r2, r3, j1, j2, j3, f, o0, o1, o2, o3, a1, a2, a3, a4, a5, a6, a7, a8, a9, a10, a11, a12, a13, a14, b0, b1, b2, b3, z0, z1', z2', z3', hr1⟩ := mix_vars r c hlr hlc
          have RE := Lib.hid hr1
          clear hr1
          rw [← z0, ← z1', ← z2', ← z3'] at ES
          clear z0 z1' z2' z3'
          have co := own_cellAt HO.out o0 (by omega)
          have fo := HO.out.2.2.frozenAt o0
          obtain ⟨_, hbs, hcx⟩ := HX.out.2.2.2.2.2 ⟨bs, os, none⟩ rfl (by omega)
          have lx0 := HX.out.lt o0
          have lx1 := HX.out.lt o1
          have lx2 := HX.out.lt o2
          have lx3 := HX.out.lt o3
          have cy0 := (HB.out.cell (p := ⟨bs, os + o0, none⟩) hbs).trans (hcx o0 (by omega))
          have cy1 := (HB.out.cell (p := ⟨bs, os + o1, none⟩) hbs).trans (hcx o1 (by omega))
          have cy2 := (HB.out.cell (p := ⟨bs, os + o2, none⟩) hbs).trans (hcx o2 (by omega))
          have cy3 := (HB.out.cell (p := ⟨bs, os + o3, none⟩) hbs).trans (hcx o3 (by omega))
          clear hcx
          generalize xs.getD o0 0 = x0 at *
          generalize xs.getD o1 0 = x1 at *
          generalize xs.getD o2 0 = x2 at *
          generalize xs.getD o3 0 = x3 at *
          have R2 : Hid (∀ W, Calls Try.prog 34 #[.int .u8 2, .int .u8 x0] W fun e w' => e = .returned (.int .u8 (dbl x0 : Nat)) ∧ w' = W) := fun W => by
            have := refTimes_any 2 x0 W (by omega) lx0
            rw [times_2a x0 lx0] at this
            exact this.mono fun _ _ ⟨a1, a2⟩ => ⟨a1, a2.symm⟩
          have R3 : Hid (∀ W, Calls Try.prog 34 #[.int .u8 3, .int .u8 x1] W fun e w' => e = .returned (.int .u8 (dbl x1 ^^^ x1 : Nat)) ∧ w' = W) := fun W => by
            have := refTimes_any 3 x1 W (by omega) lx1
            rw [times_3a x1 lx1] at this
            exact this.mono fun _ _ ⟨a1, a2⟩ => ⟨a1, a2.symm⟩
          have ld0 := dbl_lt x0
          have ld1 := Nat.xor_lt_two_pow (n := 8) (dbl_lt x1) lx1
          generalize dbl x0 = y0 at *
          generalize dbl x1 ^^^ x1 = y1 at *
          have e1 := u8_xor_nat y0 y1 ld0 ld1
          have l1 := Nat.xor_lt_two_pow (n := 8) ld0 ld1
          generalize y0 ^^^ y1 = z1 at *
          have e2 := u8_xor_nat z1 x2 l1 lx2
          have l2 := Nat.xor_lt_two_pow (n := 8) l1 lx2
          generalize z1 ^^^ x2 = z2 at *
          have e3 := u8_xor_nat z2 x3 l2 lx3
          have l3 := Nat.xor_lt_two_pow (n := 8) l2 lx3
          generalize z2 ^^^ x3 = z3 at *
          have L3 := Lib.hid l3
          clear lx0 lx1 lx2 lx3 ld0 ld1 l1 l2 l3 hbs
          go_wp2
          refine wp_region_still_tail 45 (by kernel_rfl) (by kernel_rfl) ?_
          simp only [List.take_succ_cons, List.take_zero, List.drop_succ_cons, List.drop_zero]
          repeat still_step
          still_call (R2.out _)
          repeat still_step
          still_call (R3.out _)
          repeat still_step
          try refine wpStill_nil ?_
          change wpList _ _ _ _ _ wr.drew
          go_wp2
          go_roundw
          case rel => exact ⟨r + 1, hlr, by rw [RE.out], by rw [ES.out]; exact own_set HO.out.drew o0 z3 L3.out, (below_drewN (k := 1) HB.out).setCell (p := ⟨w.heap.size, o0, none⟩) (Nat.le_refl _) _⟩
          case measure => have := RE.out; simp [intOf]; omega
        · have e : 4 * c + r = 4 * (c + 1) := by omega
          have HO2 : Hid (U.Own wr w.heap.size (some ⟨w.heap.size, 0, none⟩) 16 16 (mxTo xs (4 * (c + 1)))) := by rw [← e]; exact HO.out
          clear e HO
          go_wp2
          go_roundw
          case rel => exact ⟨c + 1, by omega, by go_num, HO2.out, HB.out⟩
          case measure => simp [intOf]; omega
    · have e : 4 * c = 16 := by omega
      have HO2 : Hid (U.Own wr w.heap.size (some ⟨w.heap.size, 0, none⟩) 16 16 (mxTo xs 16)) := by rw [show mxTo xs 16 = mxTo xs (4 * c) by rw [e]]; exact HO.out
      have LL := Lib.hid (mxTo_length xs 16)
      clear e HO
      go_wp2
      go_ret
      refine ⟨some ⟨w.heap.size, 0, none⟩, 16, ?_, ?_, HB.out⟩
      · rw [LL.out]; rfl
      · rw [LL.out]; exact HO2.out
end Go.Proofs.Ytfbgpfiodgibbaa.A
namespace Go.Proofs.Ytfbgpfiodgibbaa.A
open Go.RowKit
set_option linter.unusedVariables false

/-- A key of the document's: words and table, in memory below block B. -/
structure RKey (V : World) (base : Nat) (key : List Nat) (gt c gb cb : Nat) (vs : List Value) : Prop where
  hi : WIn V base (some ⟨gt, 0, none⟩) 44 c (wd key) vs
  hb : U.Row V V.heap.size (some ⟨gb, 0, none⟩) 256 cb (boxTo 256)
theorem RKey.below {V V2 : World} {base : Nat} {key : List Nat} {gt c gb cb : Nat} {vs : List Value} (h : RKey V base key gt c gb cb vs) (hb : Below V.heap.size V V2) : RKey V2 base key gt c gb cb vs := ⟨h.hi.below hb, (h.hb.below hb).wider hb.size⟩
theorem WIn.lower {V : World} {base base' k c : Nat} {A : Option Addr} {ws : Nat → List Nat} {vs : List Value} (h : WIn V base A k c ws vs) (hb : base' ≤ base) : WIn V base' A k c ws vs := by
  refine ⟨⟨h.top.1, ?_⟩, fun j hj => ?_⟩
  · rcases h.top.2 with h0 | ⟨g, cap, cur, hv, hg, hrest⟩
    · exact .inl h0
    · exact .inr ⟨g, cap, cur, hv, by omega, hrest⟩
  · obtain ⟨g, e, hg, hB⟩ := h.rows j hj
    exact ⟨g, e, by omega, hB⟩
theorem own_head {w : World} {base n c : Nat} {A : Option Addr} {xs : List Nat} (h : U.Own w base A n c xs) (hn : 0 < n) : ∃ g, A = some ⟨g, 0, none⟩ := by
  rcases h.2.2.2 with ⟨_, h0⟩ | ⟨g, cap, cur, hv, _⟩
  · omega
  · injection hv with e; exact ⟨g, e⟩
/-- Block g is just two values. -/
def Blk2 (V : World) (g : Nat) (a b : Value) : Prop := V.heap[g]? = some (.cells #[a, b] 29 (0, 0))
theorem Blk2.lt {V : World} {g : Nat} {a b : Value} (h : Blk2 V g a b) : g < V.heap.size := by
  rcases Nat.lt_or_ge g V.heap.size with hlt | hge
  · exact hlt
  · unfold Blk2 at h; rw [Array.getElem?_eq_none hge] at h; cases h
theorem Blk2.c0 {V : World} {g : Nat} {a b : Value} (h : Blk2 V g a b) : V.cell? ⟨g, 0, none⟩ = some a := by rw [cell_of_row V g 0 _ _ _ h]; rfl
theorem Blk2.c1 {V : World} {g : Nat} {a b : Value} (h : Blk2 V g a b) : V.cell? ⟨g, 1, none⟩ = some b := by rw [cell_of_row V g 1 _ _ _ h]; rfl
theorem Blk2.frozen {V : World} {g : Nat} {a b : Value} (h : Blk2 V g a b) (i : Nat) : V.frozen? ⟨g, i, none⟩ = false := by
  unfold Blk2 at h
  simp [World.frozen?, h]
theorem Blk2.below {V V' : World} {g B : Nat} {a b : Value} (h : Blk2 V g a b) (hb : Below B V V') (hg : g < B) : Blk2 V' g a b := (hb.block g hg).trans h
theorem Blk2.set {V : World} {g : Nat} {a b : Value} (h : Blk2 V g a b) (x y : Value) : Blk2 ((V.setCell ⟨g, 0, none⟩ x).setCell ⟨g, 1, none⟩ y) g x y := by
  unfold Blk2 at h ⊢
  simp [World.setCell, Array.getElem?_modify, h]
theorem Blk2.new (V : World) (a b : Value) : Blk2 (V.alloc (.cells #[a, b] 29)) V.heap.size a b := heap_alloc_new V _
theorem Blk2.load {V : World} {g : Nat} {a b : Value} (h : Blk2 V g a b) : (loadVar 29 ⟨g, 0, none⟩).run Try.prog V = .ok (.agg #[a, b]) V := by
  have h0 := h.c0
  have h1 := h.c1
  go_simp
attribute [local irreducible] wd boxTo

set_option maxRecDepth 20000 in
set_option maxHeartbeats 1000000 in
theorem refOf_any (key : List Nat) (lk : key.length = 16) (bk : ∀ x ∈ key, x < 256) (w : World) :
    Calls Try.prog 8 #[.agg (arrV key)] w fun e w' => ∃ gt c gb cb vs, e = .returned (.agg #[.slice (some ⟨gt, 0, none⟩) 44 c, .slice (some ⟨gb, 0, none⟩) 256 cb]) ∧ RKey w' w.heap.size key gt c gb cb vs ∧ Below w.heap.size w w' := by
  have LK := Lib.hid lk
  have BK := Lib.hid bk
  have K0 := Lib.hid ((Blk.new w 23 key).alloc (.cells #[.slice none 0 0, .slice none 0 0] 29))
  have B0 := Lib.hid (((Below.refl w.heap.size w).alloc (Nat.le_refl _) (Obj.cells (arrV key) 23)).alloc (by simp) (Obj.cells #[.slice none 0 0, .slice none 0 0] 29))
  have T0 : Hid (Blk2 ((w.alloc (.cells (arrV key) 23)).alloc (.cells #[.slice none 0 0, .slice none 0 0] 29)) (w.heap.size + 1) (.slice none 0 0) (.slice none 0 0)) := by
    have := Blk2.new (w.alloc (.cells (arrV key) 23)) (.slice none 0 0) (.slice none 0 0)
    rw [show (w.alloc (.cells (arrV key) 23)).heap.size = w.heap.size + 1 by simp] at this
    exact this
  clear lk bk
  go_enter Try.func8, Try.ntmps8
  go_wp2_with (first
    | (go_at_call 21; refine (refBox_any _).mono ?_; intro e X1 hG; obtain ⟨Ab, cb, he, hOb, hb1⟩ := hG.out (boxTo_length 256); obtain ⟨gb, hgb⟩ := own_head hOb (by omega); subst hgb; subst he; have OB := Lib.hid hOb; have K1 := Lib.hid (K0.out.below hb1 K0.out.lt); have S1 := Lib.hid (B0.out.trans (hb1.mono B0.out.size)); have T1 := Lib.hid (T0.out.below hb1 T0.out.lt); have Z1 := Lib.hid (show w.heap.size + 1 < X1.heap.size from T1.out.lt); clear hOb hb1 hG)
    | (refine wpList_load_mid rfl 23 _ rfl w.heap.size 0 rfl (vals key) _ (whole_range K1.out LK.out) Try.underlying23 rfl (sz16 key LK.out) ?_)
    | (go_at_call 22; refine (refWords_any key LK.out BK.out gb 0 cb _ OB.out.row).mono ?_; rintro e X2 ⟨gt, c, vs, rfl, hi, hb2⟩; have HI := Lib.hid hi; have OB2 := Lib.hid (OB.out.below hb2); have S2 := Lib.hid (S1.out.trans (hb2.mono S1.out.size)); have Z2 := Lib.hid S1.out.size; have T2 := Lib.hid (T1.out.below hb2 T1.out.lt); have t0 := T2.out.c0; have t1 := T2.out.c1; have f0 := T2.out.frozen 0; have f1 := T2.out.frozen 1; clear hi hb2)
    | fail)
  have ZZ : Hid (w.heap.size + 1 < ((w.alloc (.cells (arrV key) 23)).alloc (.cells #[.slice none 0 0, .slice none 0 0] 29)).heap.size) := T0.out.lt
  have T3 := T2.out.set (.slice (some ⟨gt, 0, none⟩) 44 c) (.slice (some ⟨gb, 0, none⟩) 256 cb)
  have hgr : X2.grownBy ((X2.setCell ⟨w.heap.size + 1, 0, none⟩ (.slice (some ⟨gt, 0, none⟩) 44 c)).setCell ⟨w.heap.size + 1, 1, none⟩ (.slice (some ⟨gb, 0, none⟩) 256 cb)) (some (w.heap.size + 1)) := grown_setCell (g := w.heap.size + 1) (p := ⟨w.heap.size + 1, 1, none⟩) (grown_setCell (g := w.heap.size + 1) (p := ⟨w.heap.size + 1, 0, none⟩) ⟨rfl, rfl, rfl, Nat.le_refl _, fun _ _ _ => rfl⟩ (.inl rfl) _) (.inl rfl) _
  refine bodyPost_ret (results_arr Try.results8 _ _ (w.heap.size + 1) rfl _ T3.load) rfl ⟨gt, c, gb, cb, vs, rfl, ⟨(HI.out.kept hgr ?_).lower Z2.out, ?_⟩, S2.out.grown hgr S2.out.size (fun k hk => by injection hk with hk; omega)⟩
  · intro g hg
    injection hg with hg
    subst hg
    have hz := Z1.out
    refine ⟨fun e => ?_, fun j hj g' e => ?_⟩
    · have := (HI.out.top.lt gt rfl).1
      injection e with e
      have e' : gt = w.heap.size + 1 := e
      omega
    · obtain ⟨g2, e2, hb2, _⟩ := HI.out.rows j hj
      rw [e] at e2
      injection e2 with e2
      injection e2 with e2
      injection e2 with e2
      injection e2 with e2
      omega
  · have hO := OB2.out.kept hgr (.inr (fun e => by
      have h1 := (OB.out.2.2.lt gb rfl).1
      injection e with e
      have h2 : gb = w.heap.size + 1 := e
      have h3 := ZZ.out
      omega))
    exact hO.row
end Go.Proofs.Ytfbgpfiodgibbaa.A
namespace Go.Proofs.Ytfbgpfiodgibbaa.A
open Go.RowKit
set_option linter.unusedVariables false

theorem rk_getD (key : List Nat) (hk : key.length = 16) (bk : ∀ x ∈ key, x < 256) (r i : Nat) (hr : r ≤ 10) (hi : i < 16) : (rk (cells key) r).getD i 0 = (wd key (4 * r + i / 4)).getD (i % 4) 0 := by
  have e := rounds_eq key hk bk
  have h1 : (rk (cells key) r).getD i 0 = ((cells key).take 176).getD (16 * r + i) 0 := by
    rw [rk_eq]
    simp only [List.getD_eq_getElem?_getD]
    rw [List.getElem?_take_of_lt hi, List.getElem?_drop, List.getElem?_take_of_lt (by omega)]
  rw [h1, e]
  unfold wd word
  rw [col_getD _ _ _ (Nat.mod_lt _ (by omega)), show 4 * (4 * r + i / 4) + i % 4 = 16 * r + i by omega]
theorem arTo_eq (key xs : List Nat) (hk : key.length = 16) (bk : ∀ x ∈ key, x < 256) (hx : xs.length = 16) (r : Nat) (hr : r ≤ 10) : arTo xs (wd key) r 16 = addTo xs (rk (cells key) r) 16 := by
  refine list_ext _ _ (arTo_length _ _ _ _) (by rw [addTo_length]; exact hx) fun i hi => ?_
  rw [addTo_getD _ _ i hx hi, rk_getD key hk bk r i hr hi]
  simp [arTo, List.getD_eq_getElem?_getD, hi]
/-- A block behind round n of ten. -/
def st (key bs : List Nat) (n : Nat) : List Nat := if n ≤ 9 then enTo (cells key) bs n else enc (cells key) bs
theorem st_ok (key bs : List Nat) (hk : key.length = 16) (bk : ∀ x ∈ key, x < 256) (hb : bs.length = 16) (bb : ∀ x ∈ bs, x < 256) (n : Nat) : (st key bs n).length = 16 ∧ ∀ x ∈ st key bs n, x < 256 := by
  unfold st
  split
  · exact enTo_ok _ _ (cells_length key hk bk) (cells_lt key hk bk) hb bb n (by omega)
  · exact enc_ok key bs hk bk hb bb
theorem st_zero (key bs : List Nat) (hk : key.length = 16) (bk : ∀ x ∈ key, x < 256) (hb : bs.length = 16) : arTo bs (wd key) 0 16 = st key bs 0 := by
  rw [arTo_eq key bs hk bk hb 0 (by omega)]
  unfold st
  rw [if_pos (by omega), enTo_zero]
theorem shR_ok (xs : List Nat) (key : List Nat) (hk : key.length = 16) (bk : ∀ x ∈ key, x < 256) (hx : xs.length = 16) (bx : ∀ x ∈ xs, x < 256) : ∀ x ∈ shR xs 16, x < 256 := by
  rw [shR_eq key xs hk bk hx bx]
  exact shTo_lt _ (stTo_lt _ _ (cells_lt key hk bk) bx 16) 16
theorem st_mid (key bs : List Nat) (hk : key.length = 16) (bk : ∀ x ∈ key, x < 256) (hb : bs.length = 16) (bb : ∀ x ∈ bs, x < 256) (n : Nat) (hn : n + 1 < 10) : arTo (mxTo (shR (st key bs n) 16) 16) (wd key) (n + 1) 16 = st key bs (n + 1) := by
  obtain ⟨h1, h2⟩ := st_ok key bs hk bk hb bb n
  rw [shR_eq key _ hk bk h1 h2, arTo_eq key _ hk bk (mxTo_length _ 16) (n + 1) (by omega)]
  unfold st
  rw [if_pos (by omega), if_pos (by omega), enTo_succ]
theorem st_last (key bs : List Nat) (hk : key.length = 16) (bk : ∀ x ∈ key, x < 256) (hb : bs.length = 16) (bb : ∀ x ∈ bs, x < 256) : arTo (shR (st key bs 9) 16) (wd key) 10 16 = st key bs 10 := by
  obtain ⟨h1, h2⟩ := st_ok key bs hk bk hb bb 9
  rw [shR_eq key _ hk bk h1 h2, arTo_eq key _ hk bk (shTo_length _ 16) 10 (by omega)]
  unfold st
  rw [if_pos (by omega), if_neg (by omega), enc_eq]
end Go.Proofs.Ytfbgpfiodgibbaa.A
namespace Go.Proofs.Ytfbgpfiodgibbaa.A
open Go.RowKit
set_option linter.unusedVariables false

/-- What Encrypt works on. -/
structure ES (w : World) (key bs : List Nat) (gt c gb cb : Nat) (vs : List Value) (V : World) : Prop where
  hp : Blk2 V w.heap.size (.slice (some ⟨gt, 0, none⟩) 44 c) (.slice (some ⟨gb, 0, none⟩) 256 cb)
  hb : Blk V (w.heap.size + 1) 23 bs
  hr : Blk V (w.heap.size + 1 + 1) 23 zeros16
  hk : ∃ base, RKey V base key gt c gb cb vs
  hw : Below w.heap.size w V
section
variable {w : World} {key bs : List Nat} {gt c gb cb : Nat} {vs : List Value} {V V2 : World}
theorem ES.call (h : ES w key bs gt c gb cb vs V) (hb : Below V.heap.size V V2) : ES w key bs gt c gb cb vs V2 := by
  obtain ⟨base, hk⟩ := h.hk
  exact ⟨h.hp.below hb h.hp.lt, h.hb.below hb h.hb.lt, h.hr.below hb h.hr.lt, ⟨base, hk.below hb⟩, h.hw.trans (hb.mono h.hw.size)⟩
theorem RKey.drew {V : World} {base : Nat} {key : List Nat} {gt c gb cb : Nat} {vs : List Value} (h : RKey V base key gt c gb cb vs) : RKey V.drew base key gt c gb cb vs := ⟨h.hi.drewN 1, h.hb.drew⟩
theorem ES.drew (h : ES w key bs gt c gb cb vs V) : ES w key bs gt c gb cb vs V.drew := by
  obtain ⟨base, hk⟩ := h.hk
  exact ⟨h.hp, h.hb, h.hr, ⟨base, hk.drew⟩, below_drewN (k := 1) h.hw⟩
end
def EnRel (w : World) (key bs : List Nat) (gt c gb cb : Nat) (vs : List Value) (s i : Value) (wr : World) : Prop :=
  ∃ n g c2, 1 ≤ n ∧ n ≤ 11 ∧ i = .int .i64 (n : Nat) ∧ s = .slice (some ⟨g, 0, none⟩) 16 c2 ∧ U.Row wr wr.heap.size (some ⟨g, 0, none⟩) 16 c2 (st key bs (n - 1)) ∧ ES w key bs gt c gb cb vs wr
theorem es_start (w : World) (key bs : List Nat) (gt c gb cb base : Nat) (vs : List Value) (hk : RKey w base key gt c gb cb vs) : ES w key bs gt c gb cb vs (((w.alloc (.cells #[.slice (some ⟨gt, 0, none⟩) 44 c, .slice (some ⟨gb, 0, none⟩) 256 cb] 29)).alloc (.cells (arrV bs) 23)).alloc (.cells (arrV zeros16) 23)) := by
  have e1 : (w.alloc (.cells #[.slice (some ⟨gt, 0, none⟩) 44 c, .slice (some ⟨gb, 0, none⟩) 256 cb] 29)).heap.size = w.heap.size + 1 := by simp
  have e2 : ((w.alloc (.cells #[.slice (some ⟨gt, 0, none⟩) 44 c, .slice (some ⟨gb, 0, none⟩) 256 cb] 29)).alloc (.cells (arrV bs) 23)).heap.size = w.heap.size + 1 + 1 := by simp
  have h1 := Blk.new (w.alloc (.cells #[.slice (some ⟨gt, 0, none⟩) 44 c, .slice (some ⟨gb, 0, none⟩) 256 cb] 29)) 23 bs
  have h2 := Blk.new ((w.alloc (.cells #[.slice (some ⟨gt, 0, none⟩) 44 c, .slice (some ⟨gb, 0, none⟩) 256 cb] 29)).alloc (.cells (arrV bs) 23)) 23 zeros16
  rw [e1] at h1
  rw [e2] at h2
  have hw : Below w.heap.size w (((w.alloc (.cells #[.slice (some ⟨gt, 0, none⟩) 44 c, .slice (some ⟨gb, 0, none⟩) 256 cb] 29)).alloc (.cells (arrV bs) 23)).alloc (.cells (arrV zeros16) 23)) := (((Below.refl _ _).alloc (Nat.le_refl _) _).alloc (by simp) _).alloc (by simp; omega) _
  have h0 := Blk2.new w (.slice (some ⟨gt, 0, none⟩) 44 c) (.slice (some ⟨gb, 0, none⟩) 256 cb)
  refine ⟨?_, h1.alloc _, h2, ⟨base, hk.below hw⟩, hw⟩
  exact (Below.heap_alloc _ _ _ (by simp; omega)).trans ((Below.heap_alloc _ _ _ (by simp)).trans h0)
def CoRel (w : World) (key bs : List Nat) (gt c gb cb : Nat) (vs : List Value) (g c2 go : Nat) (i : Value) (wr : World) : Prop :=
  ∃ k, k ≤ 16 ∧ i = .int .i64 (k : Nat) ∧ Blk wr go 23 ((st key bs 10).take k ++ zeros16.drop k) ∧ U.Row wr go (some ⟨g, 0, none⟩) 16 c2 (st key bs 10) ∧ Blk wr (w.heap.size + 1 + 1) 23 zeros16 ∧ Below w.heap.size w wr ∧ w.heap.size + 1 + 1 < go
attribute [local irreducible] st arTo shR wd boxTo

set_option maxRecDepth 20000 in
set_option maxHeartbeats 2000000 in
theorem refEncrypt_with (MX : Hid (∀ bs os cs xs W, U.Row W W.heap.size (some ⟨bs, os, none⟩) 16 cs xs → Calls Try.prog 32 #[.slice (some ⟨bs, os, none⟩) 16 cs] W (U.GivesRow W (mxTo xs 16)))) (key bs : List Nat) (lk : key.length = 16) (bk : ∀ x ∈ key, x < 256) (lb : bs.length = 16) (bb : ∀ x ∈ bs, x < 256) (gt c gb cb base : Nat) (vs : List Value) (w : World) (hk : RKey w base key gt c gb cb vs) :
    Calls Try.prog 20 #[.agg #[.slice (some ⟨gt, 0, none⟩) 44 c, .slice (some ⟨gb, 0, none⟩) 256 cb], .agg (arrV bs)] w (GivesArr w (st key bs 10)) := by
  have LK := Lib.hid lk
  have BK := Lib.hid bk
  have LB := Lib.hid lb
  have BB := Lib.hid bb
  have WS := Lib.hid (fun j (hj : j < 44) => And.intro (wd_len key lk bk j hj) (wd_lt key lk bk j))
  have E0 := Lib.hid (es_start w key bs gt c gb cb base vs hk)
  have S0 := Lib.hid (st_zero key bs lk bk lb)
  have SM := Lib.hid (fun n hn => st_mid key bs lk bk lb bb n hn)
  have SL := Lib.hid (st_last key bs lk bk lb bb)
  have SO := Lib.hid (fun n => st_ok key bs lk bk lb bb n)
  clear lk bk lb bb hk
  go_enter Try.func20, Try.ntmps20
  go_wp2
  change Code.wp _ _ _ _ (((w.alloc (.cells #[.slice (some ⟨gt, 0, none⟩) 44 c, .slice (some ⟨gb, 0, none⟩) 256 cb] 29)).alloc (.cells (arrV bs) 23)).alloc (.cells (arrV zeros16) 23))
  have E1 := Lib.hid E0.out.drew
  generalize hW0 : (((w.alloc (.cells #[.slice (some ⟨gt, 0, none⟩) 44 c, .slice (some ⟨gb, 0, none⟩) 256 cb] 29)).alloc (.cells (arrV bs) 23)).alloc (.cells (arrV zeros16) 23)) = W0 at *
  clear hW0
  have t0 : W0.drew.cell? ⟨w.heap.size, 0, none⟩ = some (.slice (some ⟨gt, 0, none⟩) 44 c) := E1.out.hp.c0
  have A0 : Hid (Calls Try.prog 30 #[.slice (some ⟨w.heap.size + 1, 0, none⟩) 16 16, .slice (some ⟨gt, 0, none⟩) 44 c, .int .i64 0] W0.drew (U.GivesRow W0.drew (st key bs 0))) := by
    obtain ⟨base2, hk2⟩ := E1.out.hk
    have hrow : U.Row W0.drew W0.drew.heap.size (some ⟨w.heap.size + 1, 0, none⟩) 16 16 bs := ⟨LB.out, BB.out, Nat.le_refl _, by unfold maxLen; omega, (fun h => by cases h), fun a ha _ => by
      injection ha with ha
      subst ha
      refine ⟨rfl, E1.out.hb.lt, fun j hj => ?_⟩
      have := E1.out.hb.cell j (by rw [LB.out]; exact hj)
      rw [Nat.zero_add]
      exact this⟩
    have := refAdd_any (w.heap.size + 1) 0 16 bs base2 gt c (wd key) vs 0 W0.drew hrow hk2.hi (by omega) WS.out
    rw [S0.out] at this
    exact this
  go_region_held3 (fun V => V.cell? ⟨w.heap.size, 0, none⟩ = some (.slice (some ⟨gt, 0, none⟩) 44 c))
    (first | exact t0 | exact H1.out.hp.c0)
    (first | (go_at_call 30; refine A0.out.mono ?_; intro e X1 hG; obtain ⟨A1, c1, he, hO1, hb1⟩ := hG.out (SO.out 0).1; obtain ⟨g1, hg1⟩ := own_head hO1 (by omega); subst hg1; subst he; have H1 := Lib.hid (E1.out.call hb1); have R1 := Lib.hid hO1.row; clear hO1 hb1 hG))
  rename_i hheld
  clear hheld t0 A0 E1 E0
  have AD : Hid (∀ n xs gx cx V, n ≤ 10 → U.Row V V.heap.size (some ⟨gx, 0, none⟩) 16 cx xs → ES w key bs gt c gb cb vs V → Calls Try.prog 30 #[.slice (some ⟨gx, 0, none⟩) 16 cx, .slice (some ⟨gt, 0, none⟩) 44 c, .int .i64 (n : Nat)] V (U.GivesRow V (arTo xs (wd key) n 16))) := fun n xs gx cx V hn hr hE => by
    obtain ⟨base2, hk2⟩ := hE.hk
    exact refAdd_any gx 0 cx xs base2 gt c (wd key) vs n V hr hk2.hi hn WS.out
  have SH : Hid (∀ xs gx cx V, U.Row V V.heap.size (some ⟨gx, 0, none⟩) 16 cx xs → ES w key bs gt c gb cb vs V → Calls Try.prog 31 #[.slice (some ⟨gx, 0, none⟩) 16 cx, .slice (some ⟨gb, 0, none⟩) 256 cb] V (U.GivesRow V (shR xs 16))) := fun xs gx cx V hr hE => by
    obtain ⟨base2, hk2⟩ := hE.hk
    exact refShift_any gx 0 cx gb 0 cb xs V hr hk2.hb
  go_wp2
  go_loopw [5, 6] (EnRel w key bs gt c gb cb vs) (fun _ i _ => 11 - (intOf i).toNat)
  case atStart => exact ⟨1, g1, c1, Nat.le_refl _, by omega, rfl, rfl, R1.out, H1.out⟩
  case round =>
    clear H1 R1
    obtain ⟨n, g, c2, h1, h11, rfl, rfl, hR, hE⟩ := hrel
    have HR := Lib.hid hR
    have HE := Lib.hid hE
    clear hR hE
    have t1 := HE.out.hp.c1
    by_cases h10 : n ≤ 10
    · by_cases h9 : n < 10
      · have EN : Hid (arTo (mxTo (shR (st key bs (n - 1)) 16) 16) (wd key) n 16 = st key bs n) := by
          have := SM.out (n - 1) (by omega)
          rw [show n - 1 + 1 = n by omega] at this
          exact this
        have LN := Lib.hid (SO.out n).1
        go_wp2_with (first
          | (go_at_call 30; have _ := R3; refine (AD.out n _ g3 c3 _ (by omega) R3.out H3.out).mono ?_; rw [EN.out]; intro e X4 hG; obtain ⟨A4, c4, he, hO4, hb4⟩ := hG.out LN.out; obtain ⟨g4, hg4⟩ := own_head hO4 (by omega); subst hg4; subst he; have H4 := Lib.hid (H3.out.call hb4); have R4 := Lib.hid hO4.row; clear hO4 hb4 hG)
          | (go_at_call 32; have _ := R2; refine (MX.out g2 0 c2' _ _ R2.out).mono ?_; intro e X3 hG; obtain ⟨A3, c3, he, hO3, hb3⟩ := hG.out (mxTo_length _ 16); obtain ⟨g3, hg3⟩ := own_head hO3 (by omega); subst hg3; subst he; have H3 := Lib.hid (H2.out.call hb3); have R3 := Lib.hid hO3.row; have t0 := H3.out.hp.c0; clear hO3 hb3 hG)
          | (go_at_call 31; refine (SH.out _ g c2 _ HR.out HE.out).mono ?_; intro e X2 hG; obtain ⟨A2, c2', he, hO2, hb2⟩ := hG.out (shR_length _ 16); obtain ⟨g2, hg2⟩ := own_head hO2 (by omega); subst hg2; subst he; have H2 := Lib.hid (HE.out.call hb2); have R2 := Lib.hid hO2.row; clear hO2 hb2 hG)
          | fail)
        go_roundw
        case rel => exact ⟨n + 1, g4, c4, by omega, by omega, by go_num, rfl, by rw [show n + 1 - 1 = n by omega]; exact R4.out, H4.out⟩
        case measure => simp [intOf]; omega
      · have EN : Hid (arTo (shR (st key bs (n - 1)) 16) (wd key) n 16 = st key bs n) := by
          have e : n = 10 := by omega
          subst e
          exact SL.out
        have LN := Lib.hid (SO.out n).1
        go_wp2_with (first
          | (go_at_call 30; have _ := R2; refine (AD.out n _ g2 c2' _ (by omega) R2.out H2.out).mono ?_; rw [EN.out]; intro e X4 hG; obtain ⟨A4, c4, he, hO4, hb4⟩ := hG.out LN.out; obtain ⟨g4, hg4⟩ := own_head hO4 (by omega); subst hg4; subst he; have H4 := Lib.hid (H2.out.call hb4); have R4 := Lib.hid hO4.row; clear hO4 hb4 hG)
          | (go_at_call 31; refine (SH.out _ g c2 _ HR.out HE.out).mono ?_; intro e X2 hG; obtain ⟨A2, c2', he, hO2, hb2⟩ := hG.out (shR_length _ 16); obtain ⟨g2, hg2⟩ := own_head hO2 (by omega); subst hg2; subst he; have H2 := Lib.hid (HE.out.call hb2); have R2 := Lib.hid hO2.row; have t0 := H2.out.hp.c0; clear hO2 hb2 hG)
          | fail)
        go_roundw
        case rel => exact ⟨n + 1, g4, c4, by omega, by omega, by go_num, rfl, by rw [show n + 1 - 1 = n by omega]; exact R4.out, H4.out⟩
        case measure => simp [intOf]; omega
    · have HR2 : Hid (U.Row wr wr.heap.size (some ⟨g, 0, none⟩) 16 c2 (st key bs 10)) := by rw [show 10 = n - 1 by omega]; exact HR.out
      have SO10 := Lib.hid (SO.out 10)
      clear HR AD SH SM SL S0 SO MX t1
      have C0 : Hid (CoRel w key bs gt c gb cb vs g c2 wr.heap.size (.int .i64 0) (wr.alloc (.cells (arrV zeros16) 23))) := ⟨0, Nat.zero_le _, rfl, Blk.new wr 23 zeros16, HR2.out.alloc (Nat.le_refl _) _, HE.out.hr.alloc _, HE.out.hw.alloc HE.out.hw.size _, HE.out.hr.lt⟩
      go_wp2
      generalize wr.heap.size = go at *
      go_loopw [8] (CoRel w key bs gt c gb cb vs g c2 go) (fun i _ => 16 - (intOf i).toNat)
      case atStart => exact C0.out
      case round =>
        clear C0 HE HR2
        obtain ⟨k, hk, rfl, hB, hR, hZ, hW, hgo⟩ := hrel
        have HB := Lib.hid hB
        have HR := Lib.hid hR
        have HZ := Lib.hid hZ
        have HW := Lib.hid hW
        have HGO := Lib.hid hgo
        clear hB hR hZ hW hgo
        by_cases hlt : k < 16
        · obtain ⟨_, hgg, hcx⟩ := HR.out.2.2.2.2.2 ⟨g, 0, none⟩ rfl (by omega)
          have cx := hcx k hlt
          simp only [Nat.zero_add] at cx
          have hl : ((st key bs 10).take k ++ zeros16.drop k).length = 16 := by rw [List.length_append, List.length_take, List.length_drop, SO10.out.1]; simp [zeros16]; omega
          have co := HB.out.cell k (by rw [hl]; exact hlt)
          have fo := HB.out.frozen k
          have ST : Hid (((st key bs 10).take k ++ zeros16.drop k).set k ((st key bs 10).getD k 0) = (st key bs 10).take (k + 1) ++ zeros16.drop (k + 1)) := by
            rw [List.set_append_right _ _ (by rw [List.length_take]; omega), List.length_take, SO10.out.1, Nat.min_eq_left (by omega), Nat.sub_self, List.drop_eq_getElem_cons (by simp [zeros16]; omega), List.set_cons_zero, List.take_succ_eq_append_getElem (by rw [SO10.out.1]; exact hlt), List.append_assoc, List.getD_eq_getElem?_getD, List.getElem?_eq_getElem (by rw [SO10.out.1]; exact hlt)]
            exact rfl
          have B1 := Lib.hid (HB.out.set_ k ((st key bs 10).getD k 0))
          generalize (st key bs 10).getD k 0 = x at *
          have hne : g ≠ go := by simp only at hgg; omega
          clear hcx hl
          go_wp2
          go_roundw
          case rel => exact ⟨k + 1, hlt, by go_num, by rw [← ST.out]; exact B1.out, HR.out.keep fun p hp => World.cell?_setCell_other wr ⟨go, k, none⟩ p _ (fun e => by subst e; simp at hp), HZ.out.far (p := ⟨go, k, none⟩) (by have := HGO.out; simp only; omega) _, HW.out.setCell (p := ⟨go, k, none⟩) (by have := HGO.out; simp only; omega) _, HGO.out⟩
          case measure => simp [intOf]; omega
        · have e16 : (st key bs 10).take k ++ zeros16.drop k = st key bs 10 := by
            rw [List.take_of_length_le (by rw [SO10.out.1]; omega), List.drop_of_length_le (by simp [zeros16]; omega), List.append_nil]
          have HB2 : Hid (Blk wr go 23 (st key bs 10)) := by rw [← e16]; exact HB.out
          clear e16 HB
          go_wp2_with (first
            | (refine wpList_load_mid rfl 23 _ rfl go 0 rfl (vals (st key bs 10)) _ (whole_range HB2.out SO10.out.1) Try.underlying23 rfl (sz16 _ SO10.out.1) ?_)
            | (refine wpList_store_mid rfl 23 _ _ rfl (w.heap.size + 1 + 1) 0 (arrV (st key bs 10)) rfl rfl (by rw [arrV_size, SO10.out.1]; exact HZ.out.there 0 16 (by simp [zeros16])) (by rw [arrV_size, SO10.out.1]; exact size27) (arrV_all _) ?_; rw [arrV_toList])
            | fail)
          have hs := HZ.out.storeAll (ys := st key bs 10) (by rw [SO10.out.1]; rfl)
          exact bodyPost_ret (results_arr Try.results20 _ _ (w.heap.size + 1 + 1) rfl _ (hs.loadAll 23 _ SO10.out.1 Try.underlying23 rfl size27)) rfl ⟨rfl, below_setCells HW.out (by omega) _ _⟩
end Go.Proofs.Ytfbgpfiodgibbaa.A
