/- What the document's cipher does to bytes: columns are mixed. No statement is proved here. -/
import Derived.Test.YtmmfigdmdamnlabRefShift
import Derived.StillTailTactics
namespace Go.Proofs.Ytmmfigdmdamnlab
open Go.RowKit
set_option linter.unusedVariables false

theorem two_three : ((List.range 256).all fun a => times 2 a == dbl a && times 3 a == (dbl a ^^^ a)) = true := by decide +kernel
theorem times_2a (a : Nat) (h : a < 256) : times 2 a = dbl a := by
  have := List.all_eq_true.1 two_three a (List.mem_range.2 h)
  rw [Bool.and_eq_true] at this
  exact beq_iff_eq.1 this.1
theorem times_3a (a : Nat) (h : a < 256) : times 3 a = dbl a ^^^ a := by
  have := List.all_eq_true.1 two_three a (List.mem_range.2 h)
  rw [Bool.and_eq_true] at this
  exact beq_iff_eq.1 this.2
theorem mxTo_step (xs : List Nat) (r c : Nat) (hr : r < 4) : mxTo xs (4 * c + (r + 1)) = (mxTo xs (4 * c + r)).set (r + 4 * c) (dbl (xs.getD (r + 4 * c) 0) ^^^ (dbl (xs.getD ((r + 1) % 4 + 4 * c) 0) ^^^ xs.getD ((r + 1) % 4 + 4 * c) 0) ^^^ xs.getD ((r + 2) % 4 + 4 * c) 0 ^^^ xs.getD ((r + 3) % 4 + 4 * c) 0) := by
  have g : ∀ j, j < 4 → ((xs.drop (4 * c)).take 4).getD j 0 = xs.getD (j + 4 * c) 0 := fun j hj => by rw [col_getD xs c j hj, Nat.add_comm]
  rw [show 4 * c + (r + 1) = (4 * c + r) + 1 by omega, mxTo, show (4 * c + r) / 4 = c by omega, show (4 * c + r) % 4 = r by omega, show 4 * c + r = r + 4 * c by omega]
  unfold mixed
  rw [g r hr, g _ (Nat.mod_lt _ (by omega)), g _ (Nat.mod_lt _ (by omega)), g _ (Nat.mod_lt _ (by omega))]
  congr 1
  simp only [Nat.xor_assoc]
theorem mix_vars (r c : Nat) (hr : r < 4) (hc : c < 4) : ∃ r1 r2 r3 j1 j2 j3 f o0 o1 o2 o3 : Nat,
    IntKind.i64.wrap ((r : Int) + 1) = (r1 : Int) ∧ IntKind.i64.wrap ((r : Int) + 2) = (r2 : Int) ∧ IntKind.i64.wrap ((r : Int) + 3) = (r3 : Int) ∧ (r1 : Int).tmod 4 = (j1 : Int) ∧ (r2 : Int).tmod 4 = (j2 : Int) ∧ (r3 : Int).tmod 4 = (j3 : Int) ∧
    IntKind.i64.wrap (j1 : Int) = (j1 : Int) ∧ IntKind.i64.wrap (j2 : Int) = (j2 : Int) ∧ IntKind.i64.wrap (j3 : Int) = (j3 : Int) ∧ IntKind.i64.wrap (4 * (c : Int)) = (f : Int) ∧
    IntKind.i64.wrap ((r : Int) + (f : Int)) = (o0 : Int) ∧ IntKind.i64.wrap ((j1 : Int) + (f : Int)) = (o1 : Int) ∧ IntKind.i64.wrap ((j2 : Int) + (f : Int)) = (o2 : Int) ∧ IntKind.i64.wrap ((j3 : Int) + (f : Int)) = (o3 : Int) ∧
    (o0 : Int) < 16 ∧ (o1 : Int) < 16 ∧ (o2 : Int) < 16 ∧ (o3 : Int) < 16 ∧ o0 = r + 4 * c ∧ o1 = (r + 1) % 4 + 4 * c ∧ o2 = (r + 2) % 4 + 4 * c ∧ o3 = (r + 3) % 4 + 4 * c ∧ r1 = r + 1 := by
  have W : ∀ (z : Int) (n : Nat), z = (n : Int) → n < 1000 → IntKind.i64.wrap z = (n : Int) := fun z n h hn => by rw [h]; exact IntWalk.i64_in _ (by omega)
  have T : ∀ n : Nat, ((n : Nat) : Int).tmod 4 = ((n % 4 : Nat) : Int) := fun n => by rw [Int.tmod_eq_emod_of_nonneg (by omega)]; omega
  refine ⟨r + 1, r + 2, r + 3, (r + 1) % 4, (r + 2) % 4, (r + 3) % 4, 4 * c, r + 4 * c, (r + 1) % 4 + 4 * c, (r + 2) % 4 + 4 * c, (r + 3) % 4 + 4 * c, ?_⟩
  have b1 : (r + 1) % 4 < 4 := Nat.mod_lt _ (by omega)
  have b2 : (r + 2) % 4 < 4 := Nat.mod_lt _ (by omega)
  have b3 : (r + 3) % 4 < 4 := Nat.mod_lt _ (by omega)
  have T1 := T (r + 1)
  have T2 := T (r + 2)
  have T3 := T (r + 3)
  generalize (r + 1) % 4 = j1 at *
  generalize (r + 2) % 4 = j2 at *
  generalize (r + 3) % 4 = j3 at *
  exact ⟨W _ _ (by omega) (by omega), W _ _ (by omega) (by omega), W _ _ (by omega) (by omega), T1, T2, T3, W _ _ rfl (by omega), W _ _ rfl (by omega), W _ _ rfl (by omega), W _ _ (by omega) (by omega), W _ _ (by omega) (by omega), W _ _ (by omega) (by omega), W _ _ (by omega) (by omega), W _ _ (by omega) (by omega), by omega, by omega, by omega, by omega, rfl, rfl, rfl, rfl, rfl⟩
structure TM (w : World) (xs : List Nat) (W : World) : Prop where
  hw : Below w.heap.size w W
def MxRel (w : World) (xs : List Nat) (f : Nat → Nat) (i : Value) (wr : World) : Prop :=
  ∃ k, k ≤ 4 ∧ i = .int .i64 (k : Nat) ∧ U.Own wr w.heap.size (some ⟨w.heap.size, 0, none⟩) 16 16 (mxTo xs (f k)) ∧ Below w.heap.size w wr
theorem mxTo_zero (xs : List Nat) : mxTo xs 0 = List.replicate 16 0 := by unfold mxTo zeros16; rfl
attribute [local irreducible] times dbl

set_option maxRecDepth 20000 in
set_option maxHeartbeats 4000000 in
theorem refMix_any (bs os cs : Nat) (xs : List Nat) (w : World) (hx : U.Row w w.heap.size (some ⟨bs, os, none⟩) 16 cs xs) :
    Calls Try.prog 33 #[.slice (some ⟨bs, os, none⟩) 16 cs] w (U.GivesRow w (mxTo xs 16)) := by
  have HX := Lib.hid hx
  clear hx
  have E0 : Hid (mxTo xs (4 * 0) = List.replicate 16 0) := mxTo_zero xs
  go_enter Try.func33, Try.ntmps33
  go_wp2_with (first
    | (refine U.wpList_make_zeros _ rfl _ _ rfl w.heap.size 16 16 16 rfl rfl rfl rfl (by omega) (Nat.le_refl _) ?_; intro w1 hO1 hg1)
    | fail)
  have HO1 := Lib.hid hO1
  have HB1 := Lib.hid ((Below.refl w.heap.size w).grown hg1 (Nat.le_refl _) (fun k hk => by cases hk))
  clear hO1 hg1
  go_loopw [4] (MxRel w xs (fun k => 4 * k)) (fun i _ => 4 - (intOf i).toNat)
  case atStart => exact ⟨0, Nat.zero_le _, rfl, by show U.Own _ _ _ _ _ (mxTo xs (4 * 0)); rw [E0.out]; exact HO1.out, HB1.out⟩
  case round =>
    clear HO1 HB1
    obtain ⟨c, hc, rfl, hO, hB⟩ := hrel
    have HO := Lib.hid hO
    have HB := Lib.hid hB
    clear hO hB
    by_cases hlc : c < 4
    · go_wp2
      go_loopw [5] (MxRel w xs (fun k => 4 * c + k)) (fun i _ => 4 - (intOf i).toNat)
      case atStart => exact ⟨0, Nat.zero_le _, rfl, HO.out, HB.out⟩
      case round =>
        clear HO HB
        obtain ⟨r, hr, rfl, hO, hB⟩ := hrel
        have HO := Lib.hid hO
        have HB := Lib.hid hB
        clear hO hB
        by_cases hlr : r < 4
        · have ES := Lib.hid (mxTo_step xs r c hlr)
          obtain ⟨r1, r2, r3, j1, j2, j3, f, o0, o1, o2, o3, a1, a2, a3, a4, a5, a6, a7, a8, a9, a10, a11, a12, a13, a14, b0, b1, b2, b3, z0, z1', z2', z3', hr1⟩ := mix_vars r c hlr hlc
          have RE := Lib.hid hr1
          clear hr1
          rw [← z0, ← z1', ← z2', ← z3'] at ES
          clear z0 z1' z2' z3'
          have co := own_cellAt HO.out o0 (by omega)
          have fo := HO.out.2.2.frozenAt o0
          obtain ⟨_, hbs, hcx⟩ := HX.out.2.2.2.2.2 ⟨bs, os, none⟩ rfl (by omega)
          have lx0 := HX.out.lt o0
          have lx1 := HX.out.lt o1
          have lx2 := HX.out.lt o2
          have lx3 := HX.out.lt o3
          have cy0 := (HB.out.cell (p := ⟨bs, os + o0, none⟩) hbs).trans (hcx o0 (by omega))
          have cy1 := (HB.out.cell (p := ⟨bs, os + o1, none⟩) hbs).trans (hcx o1 (by omega))
          have cy2 := (HB.out.cell (p := ⟨bs, os + o2, none⟩) hbs).trans (hcx o2 (by omega))
          have cy3 := (HB.out.cell (p := ⟨bs, os + o3, none⟩) hbs).trans (hcx o3 (by omega))
          clear hcx
          generalize xs.getD o0 0 = x0 at *
          generalize xs.getD o1 0 = x1 at *
          generalize xs.getD o2 0 = x2 at *
          generalize xs.getD o3 0 = x3 at *
          have R2 : Hid (∀ W, Calls Try.prog 11 #[.int .u8 2, .int .u8 x0] W fun e w' => e = .returned (.int .u8 (dbl x0 : Nat)) ∧ w' = W) := fun W => by
            have := refTimes_any 2 x0 W (by omega) lx0
            rw [times_2a x0 lx0] at this
            exact this.mono fun _ _ ⟨a1, a2⟩ => ⟨a1, a2.symm⟩
          have R3 : Hid (∀ W, Calls Try.prog 11 #[.int .u8 3, .int .u8 x1] W fun e w' => e = .returned (.int .u8 (dbl x1 ^^^ x1 : Nat)) ∧ w' = W) := fun W => by
            have := refTimes_any 3 x1 W (by omega) lx1
            rw [times_3a x1 lx1] at this
            exact this.mono fun _ _ ⟨a1, a2⟩ => ⟨a1, a2.symm⟩
          have ld0 := dbl_lt x0
          have ld1 := Nat.xor_lt_two_pow (n := 8) (dbl_lt x1) lx1
          generalize dbl x0 = y0 at *
          generalize dbl x1 ^^^ x1 = y1 at *
          have e1 := u8_xor_nat y0 y1 ld0 ld1
          have l1 := Nat.xor_lt_two_pow (n := 8) ld0 ld1
          generalize y0 ^^^ y1 = z1 at *
          have e2 := u8_xor_nat z1 x2 l1 lx2
          have l2 := Nat.xor_lt_two_pow (n := 8) l1 lx2
          generalize z1 ^^^ x2 = z2 at *
          have e3 := u8_xor_nat z2 x3 l2 lx3
          have l3 := Nat.xor_lt_two_pow (n := 8) l2 lx3
          generalize z2 ^^^ x3 = z3 at *
          have L3 := Lib.hid l3
          clear lx0 lx1 lx2 lx3 ld0 ld1 l1 l2 l3 hbs
          go_wp2
          refine wp_region_still_tail 45 (by kernel_rfl) (by kernel_rfl) ?_
          simp only [List.take_succ_cons, List.take_zero, List.drop_succ_cons, List.drop_zero]
          repeat still_step
          still_call (R2.out _)
          repeat still_step
          still_call (R3.out _)
          repeat still_step
          try refine wpStill_nil ?_
          change wpList _ _ _ _ _ wr.drew
          go_wp2
          go_roundw
          case rel => exact ⟨r + 1, hlr, by rw [RE.out], by rw [ES.out]; exact own_set HO.out.drew o0 z3 L3.out, (below_drewN (k := 1) HB.out).setCell (p := ⟨w.heap.size, o0, none⟩) (Nat.le_refl _) _⟩
          case measure => have := RE.out; simp [intOf]; omega
        · have e : 4 * c + r = 4 * (c + 1) := by omega
          have HO2 : Hid (U.Own wr w.heap.size (some ⟨w.heap.size, 0, none⟩) 16 16 (mxTo xs (4 * (c + 1)))) := by rw [← e]; exact HO.out
          clear e HO
          go_wp2
          go_roundw
          case rel => exact ⟨c + 1, by omega, by go_num, HO2.out, HB.out⟩
          case measure => simp [intOf]; omega
    · have e : 4 * c = 16 := by omega
      have HO2 : Hid (U.Own wr w.heap.size (some ⟨w.heap.size, 0, none⟩) 16 16 (mxTo xs 16)) := by rw [show mxTo xs 16 = mxTo xs (4 * c) by rw [e]]; exact HO.out
      have LL := Lib.hid (mxTo_length xs 16)
      clear e HO
      go_wp2
      go_ret
      refine ⟨some ⟨w.heap.size, 0, none⟩, 16, ?_, ?_, HB.out⟩
      · rw [LL.out]; rfl
      · rw [LL.out]; exact HO2.out
end Go.Proofs.Ytmmfigdmdamnlab
