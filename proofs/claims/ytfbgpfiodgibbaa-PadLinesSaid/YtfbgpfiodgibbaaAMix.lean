/- The program mixes the columns of a block. No statement is proved here. -/
import Derived.Test.YtfbgpfiodgibbaaAStands
import Derived.Deep.RegionLaw
import Derived.Deep.RegionHeld3
namespace Go.Proofs.Ytfbgpfiodgibbaa.A
open Go.RowKit
set_option linter.unusedVariables false

/-- The byte r of a column that is mixed. -/
def mixed (a : List Nat) (r : Nat) : Nat := dbl (a.getD r 0) ^^^ dbl (a.getD ((r + 1) % 4) 0) ^^^ a.getD ((r + 1) % 4) 0 ^^^ a.getD ((r + 2) % 4) 0 ^^^ a.getD ((r + 3) % 4) 0
/-- The first t bytes of a block whose columns are mixed; noughts behind. -/
def mxTo (xs : List Nat) : Nat → List Nat
  | 0 => zeros16
  | t + 1 => (mxTo xs t).set t (mixed ((xs.drop (4 * (t / 4))).take 4) (t % 4))
theorem mxTo_length (xs : List Nat) (t : Nat) : (mxTo xs t).length = 16 := by
  induction t with
  | zero => rfl
  | succ t ih => simp [mxTo, ih]
theorem mixed_lt (a : List Nat) (ha : ∀ x ∈ a, x < 256) (r : Nat) : mixed a r < 256 := by
  unfold mixed
  have h := getD_lt a ha
  exact Nat.xor_lt_two_pow (n := 8) (Nat.xor_lt_two_pow (n := 8) (Nat.xor_lt_two_pow (n := 8) (Nat.xor_lt_two_pow (n := 8) (dbl_lt _) (dbl_lt _)) (h _)) (h _)) (h _)
theorem mxTo_lt (xs : List Nat) (hx : ∀ x ∈ xs, x < 256) (t : Nat) : ∀ x ∈ mxTo xs t, x < 256 := by
  induction t with
  | zero => exact (by decide : ∀ x ∈ zeros16, x < 256)
  | succ t ih => exact set_lt _ ih _ _ (mixed_lt _ (fun x h => hx x (List.mem_of_mem_drop (List.mem_of_mem_take h))) _)

def MRel (w : World) (xs : List Nat) (i : Value) (wr : World) : Prop :=
  ∃ c, c ≤ 4 ∧ i = .int .i64 (c : Nat) ∧ Blk wr w.heap.size 23 xs ∧ Blk wr (w.heap.size + 1) 23 zeros16 ∧ Blk wr (w.heap.size + 1 + 1) 23 (mxTo xs (4 * c)) ∧ Below w.heap.size w wr
/-- The inner loop: the column lies in block ga. -/
def NRel (w : World) (xs : List Nat) (c ga : Nat) (i : Value) (wr : World) : Prop :=
  ∃ r, r ≤ 4 ∧ i = .int .i64 (r : Nat) ∧ Blk wr w.heap.size 23 xs ∧ Blk wr (w.heap.size + 1) 23 zeros16 ∧ Blk wr (w.heap.size + 1 + 1) 23 (mxTo xs (4 * c + r)) ∧ Blk wr ga 85 ((xs.drop (4 * c)).take 4) ∧ Below w.heap.size w wr
theorem mix_start (w : World) (xs : List Nat) : MRel w xs (.int .i64 0) (((w.alloc (.cells (arrV xs) 23)).alloc (.cells (arrV zeros16) 23)).alloc (.cells (arrV zeros16) 23)) := by
  obtain ⟨k, h1, h2, h3, h4, h5, h6⟩ := shift_start w xs
  refine ⟨0, by omega, rfl, h3, h4, ?_, h6⟩
  have e2 : ((w.alloc (.cells (arrV xs) 23)).alloc (.cells (arrV zeros16) 23)).heap.size = w.heap.size + 1 + 1 := by simp
  have h2 := Blk.new ((w.alloc (.cells (arrV xs) 23)).alloc (.cells (arrV zeros16) 23)) 23 zeros16
  rw [e2] at h2
  exact h2
/-- Behind the copy of a column. -/
theorem mix_copied {w wr : World} {xs : List Nat} {c : Nat} (h0 : Blk wr w.heap.size 23 xs) (h1 : Blk wr (w.heap.size + 1) 23 zeros16) (h2 : Blk wr (w.heap.size + 1 + 1) 23 (mxTo xs (4 * c))) (hb : Below w.heap.size w wr) (hl : xs.length = 16) (hc : c < 4) {W : World}
    (hW : W = ((wr.alloc (.cells (arrV [0, 0, 0, 0]) 85)).drew.setCells wr.heap.size 0 (vals ((xs.drop (4 * c)).take 4)))) : NRel w xs c wr.heap.size (.int .i64 0) W := by
  have hlt := h2.lt
  have hn : ((xs.drop (4 * c)).take 4).length = 4 := by simp; omega
  subst hW
  refine ⟨0, by omega, rfl, (h0.alloc _).drew.farCells (by omega) _ _, (h1.alloc _).drew.farCells (by omega) _ _, (h2.alloc _).drew.farCells (by omega) _ _, ?_, below_setCells (hb.alloc hb.size _).drew (by omega) _ _⟩
  exact (Blk.new wr 85 [0, 0, 0, 0]).drew.storeAll (by rw [hn]; rfl)

theorem run_cut0 (g : Nat) (W : World) : (Instr.sliceAt 23 (.pointer (some ⟨g, 0, none⟩)) (some (.int .i64 0)) none none).run Try.prog W = .ok (.slice (some ⟨g, 0, none⟩) 16 16) W := by kernel_rfl
theorem run_cut1 (g : Nat) (W : World) : (Instr.sliceAt 23 (.pointer (some ⟨g, 0, none⟩)) (some (.int .i64 4)) none none).run Try.prog W = .ok (.slice (some ⟨g, 4, none⟩) 12 12) W := by kernel_rfl
theorem run_cut2 (g : Nat) (W : World) : (Instr.sliceAt 23 (.pointer (some ⟨g, 0, none⟩)) (some (.int .i64 8)) none none).run Try.prog W = .ok (.slice (some ⟨g, 8, none⟩) 8 8) W := by kernel_rfl
theorem run_cut3 (g : Nat) (W : World) : (Instr.sliceAt 23 (.pointer (some ⟨g, 0, none⟩)) (some (.int .i64 12)) none none).run Try.prog W = .ok (.slice (some ⟨g, 12, none⟩) 4 4) W := by kernel_rfl
theorem run_cut (g c : Nat) (hc : c < 4) (W : World) : (Instr.sliceAt 23 (.pointer (some ⟨g, 0, none⟩)) (some (.int .i64 (4 * (c : Int)))) none none).run Try.prog W = .ok (.slice (some ⟨g, 4 * c, none⟩) (16 - 4 * c) (16 - 4 * c)) W := by
  have h4 : c = 0 ∨ c = 1 ∨ c = 2 ∨ c = 3 := by omega
  rcases h4 with rfl | rfl | rfl | rfl
  · exact run_cut0 g W
  · exact run_cut1 g W
  · exact run_cut2 g W
  · exact run_cut3 g W

theorem far_cell {w : World} {p q : Addr} {u v : Value} (hq : w.cell? q = some v) (h : q.block ≠ p.block) : (w.setCell p u).drew.cell? q = some v :=
  (World.cell?_setCell_other w p q u (fun e => h (by rw [e]))).trans hq
theorem mix_step {w wr : World} {xs : List Nat} {c r ga a1 a2 a3 a4 : Nat} (hga : w.heap.size + 1 + 1 < ga) (h0 : Blk wr w.heap.size 23 xs) (h1 : Blk wr (w.heap.size + 1) 23 zeros16) (h2 : Blk wr (w.heap.size + 1 + 1) 23 (mxTo xs (4 * c + r))) (h3 : Blk wr ga 85 ((xs.drop (4 * c)).take 4)) (hb : Below w.heap.size w wr) (hr : r < 4)
    (l2 : a2 < 256) (l3 : a3 < 256) (l4 : a4 < 256) (u1 : ((xs.drop (4 * c)).take 4).getD r 0 = a1) (u2 : ((xs.drop (4 * c)).take 4).getD ((r + 1) % 4) 0 = a2) (u3 : ((xs.drop (4 * c)).take 4).getD ((r + 2) % 4) 0 = a3) (u4 : ((xs.drop (4 * c)).take 4).getD ((r + 3) % 4) 0 = a4) :
    NRel w xs c ga (.int .i64 ((r : Int) + 1)) (wr.setCell ⟨w.heap.size + 1 + 1, r + 4 * c, none⟩ (.int .u8 (bits .xor .u8 (bits .xor .u8 (bits .xor .u8 (bits .xor .u8 (dbl a1 : Nat) (dbl a2 : Nat)) (a2 : Nat)) (a3 : Nat)) (a4 : Nat)))).drew := by
  have d1 := dbl_lt a1
  have d2 := dbl_lt a2
  have x1 := Nat.xor_lt_two_pow (n := 8) d1 d2
  have x2 := Nat.xor_lt_two_pow (n := 8) x1 l2
  have x3 := Nat.xor_lt_two_pow (n := 8) x2 l3
  have e : mixed ((xs.drop (4 * c)).take 4) r = dbl a1 ^^^ dbl a2 ^^^ a2 ^^^ a3 ^^^ a4 := by unfold mixed; rw [u1, u2, u3, u4]
  rw [u8_xor_nat _ _ d1 d2, u8_xor_nat _ _ x1 l2, u8_xor_nat _ _ x2 l3, u8_xor_nat _ _ x3 l4, ← e]
  refine ⟨r + 1, hr, by simp, (h0.far (by simp; omega) _).drew, (h1.far (by simp) _).drew, ?_, (h3.far (by simp; omega) _).drew, (hb.setCell (by simp; omega) _).drew⟩
  have := (h2.set_ (r + 4 * c) (mixed ((xs.drop (4 * c)).take 4) r)).drew
  have e2 : mxTo xs (4 * c + (r + 1)) = (mxTo xs (4 * c + r)).set (r + 4 * c) (mixed ((xs.drop (4 * c)).take 4) r) := by
    rw [show 4 * c + (r + 1) = (4 * c + r) + 1 by omega, mxTo, show r + 4 * c = 4 * c + r by omega, show (4 * c + r) / 4 = c by omega, show (4 * c + r) % 4 = r by omega]
  rw [e2]; exact this
attribute [irreducible] mxTo

set_option maxHeartbeats 1000000 in
theorem mix_any (xs : List Nat) (w : World) (hx : xs.length = 16) (bx : ∀ x ∈ xs, x < 256) :
    Calls Try.prog 41 #[.agg (arrV xs)] w (GivesArr w (mxTo xs 16)) := by
  have HX := Lib.hid hx
  have BX := Lib.hid bx
  clear hx bx
  go_enter Try.func41, Try.ntmps41
  go_wp2
  go_loopw [8] (MRel w xs) (fun i _ => 4 - (intOf i).toNat)
  case atStart => exact mix_start w xs
  case round =>
    obtain ⟨c, hc, rfl, h0, h1, h2, hb⟩ := hrel
    have H0 := Lib.hid h0
    have H1 := Lib.hid h1
    have H2 := Lib.hid h2
    have Hb := Lib.hid hb
    clear h0 h1 h2 hb
    by_cases hlt : c < 4
    · have hn := Lib.hid (show ((xs.drop (4 * c)).take 4).length = 4 by have := HX.out; simp; omega)
      have hr : (((wr.alloc (.cells (arrV [0, 0, 0, 0]) 85))).drew).rangeAt w.heap.size (4 * c) (vals ((xs.drop (4 * c)).take 4)) := (H0.out.alloc _).drew.range (4 * c) 4 (by rw [HX.out]; omega)
      have HR := Lib.hid hr
      have ht : (((wr.alloc (.cells (arrV [0, 0, 0, 0]) 85))).drew).there wr.heap.size 0 4 := (Blk.new wr 85 [0, 0, 0, 0]).drew.there 0 4 (by simp)
      have HT := Lib.hid ht
      clear hr ht
      have hcut := run_cut w.heap.size c hlt
      have hwr : IntKind.i64.wrap (4 * (c : Int)) = 4 * (c : Int) := IntWalk.i64_in _ (by omega)
      go_wp2
      go_region_law (refine step_copy rfl _ _ rfl wr.heap.size 0 4 4 w.heap.size (4 * c) (16 - 4 * c) (16 - 4 * c) rfl rfl ((xs.drop (4 * c)).take 4) (by rw [hn.out]; exact (Nat.min_eq_right (by omega)).symm) HR.out (by rw [hn.out]; exact HT.out) ?_)
      go_wp2
      obtain ⟨wo, rfl⟩ : ∃ x, x = wr := ⟨wr, rfl⟩
      go_loopw [16] (NRel w xs c wo.heap.size) (fun i _ => 4 - (intOf i).toNat)
      case atStart => exact mix_copied H0.out H1.out H2.out Hb.out HX.out hlt rfl
      case round =>
        clear HR HT hcut hwr
        have hga : w.heap.size + 1 + 1 < wo.heap.size := H2.out.lt
        generalize wo.heap.size = ga at *
        clear H0 H1 H2 Hb
        obtain ⟨r, hr, rfl, h0, h1, h2, h3, hb⟩ := hrel
        have H0 := Lib.hid h0
        have H1 := Lib.hid h1
        have H2 := Lib.hid h2
        have H3 := Lib.hid h3
        have Hb := Lib.hid hb
        clear h0 h1 h2 h3 hb
        by_cases hlr : r < 4
        · have b1 := getD_lt ((xs.drop (4 * c)).take 4) (fun x h => BX.out x (List.mem_of_mem_drop (List.mem_of_mem_take h)))
          have c1 := H3.out.cell r (by rw [hn.out]; omega)
          have c2 := H3.out.cell ((r + 1) % 4) (by rw [hn.out]; omega)
          have c3 := H3.out.cell ((r + 2) % 4) (by rw [hn.out]; omega)
          have c4 := H3.out.cell ((r + 3) % 4) (by rw [hn.out]; omega)
          have l1 := b1 r
          have l2 := b1 ((r + 1) % 4)
          have l3 := b1 ((r + 2) % 4)
          have l4 := b1 ((r + 3) % 4)
          have c5 := H2.out.cell (r + 4 * c) (by rw [mxTo_length]; omega)
          have f5 := H2.out.frozen (r + 4 * c)
          clear b1
          generalize hu1 : List.getD (List.take 4 (List.drop (4 * c) xs)) r 0 = a1 at *
          generalize hu2 : List.getD (List.take 4 (List.drop (4 * c) xs)) ((r + 1) % 4) 0 = a2 at *
          generalize hu3 : List.getD (List.take 4 (List.drop (4 * c) xs)) ((r + 2) % 4) 0 = a3 at *
          generalize hu4 : List.getD (List.take 4 (List.drop (4 * c) xs)) ((r + 3) % 4) 0 = a4 at *
          generalize List.getD (mxTo xs (4 * c + r)) (r + 4 * c) 0 = v at *
          have U1 := Lib.hid hu1
          have U2 := Lib.hid hu2
          have U3 := Lib.hid hu3
          have U4 := Lib.hid hu4
          clear hu1 hu2 hu3 hu4
          go_wp2
          have q1 : IntKind.i64.wrap (4 * (c : Int)) = 4 * (c : Int) := IntWalk.i64_in _ (by omega)
          have q2 : IntKind.i64.wrap ((r : Int) + 4 * (c : Int)) = (r : Int) + 4 * (c : Int) := IntWalk.i64_in _ (by omega)
          have q3 : IntKind.i64.wrap ((r : Int) + 2) = (r : Int) + 2 := IntWalk.i64_in _ (by omega)
          have q4 : IntKind.i64.wrap ((r : Int) + 3) = (r : Int) + 3 := IntWalk.i64_in _ (by omega)
          have q5 : ((r : Int) + 2).tmod 4 = ((r : Int) + 2) % 4 := Int.tmod_eq_emod_of_nonneg (by omega)
          have q6 : ((r : Int) + 3).tmod 4 = ((r : Int) + 3) % 4 := Int.tmod_eq_emod_of_nonneg (by omega)
          have q7 : (((r : Int) + 2) % 4).toNat = (r + 2) % 4 := by omega
          have q8 : (((r : Int) + 3) % 4).toNat = (r + 3) % 4 := by omega
          have q9 : ((r : Int) + 4 * (c : Int)).toNat = r + 4 * c := by omega
          have q10 : (0 : Int) ≤ ((r : Int) + 2) % 4 ∧ ((r : Int) + 2) % 4 < 4 := by omega
          have q11 : (0 : Int) ≤ ((r : Int) + 3) % 4 ∧ ((r : Int) + 3) % 4 < 4 := by omega
          have q12 : (0 : Int) ≤ (r : Int) + 4 * (c : Int) ∧ (r : Int) + 4 * (c : Int) < 16 := by omega
          have q13 : IntKind.i64.wrap (((r : Int) + 2) % 4) = ((r : Int) + 2) % 4 := IntWalk.i64_in _ (by omega)
          have q14 : IntKind.i64.wrap (((r : Int) + 3) % 4) = ((r : Int) + 3) % 4 := IntWalk.i64_in _ (by omega)
          have hne : ga ≠ w.heap.size + 1 + 1 := by omega
          go_region_held3 (fun W => W.cell? ⟨ga, r, none⟩ = some (.int .u8 (a1 : Int)) ∧ W.cell? ⟨ga, (r + 2) % 4, none⟩ = some (.int .u8 (a3 : Int)) ∧ W.cell? ⟨ga, (r + 3) % 4, none⟩ = some (.int .u8 (a4 : Int))) (first | exact ⟨c1, c3, c4⟩ | exact ⟨far_cell c1 hne, far_cell c3 hne, far_cell c4 hne⟩ | go_keep) (first
            | (go_at_call_of 46 (Value.int IntKind.u8 (a1 : Int)); refine (double_any a1 _ l1).mono ?_; rintro e w' ⟨rfl, rfl⟩)
            | (go_at_call_of 46 (Value.int IntKind.u8 (a2 : Int)); refine (double_any a2 _ l2).mono ?_; rintro e w' ⟨rfl, rfl⟩))
          clear q1 q2 q3 q4 q5 q6 q7 q8 q9 q10 q11 q12 q13 q14
          go_wp2
          go_roundw
          case rel => exact mix_step hga H0.out H1.out H2.out H3.out Hb.out hlr l2 l3 l4 U1.out U2.out U3.out U4.out
          case measure => simp [intOf]; omega
        · have e4 : 4 * c + r = 4 * (c + 1) := by omega
          have H2' : Hid (Blk wr (w.heap.size + 1 + 1) 23 (mxTo xs (4 * (c + 1)))) := by rw [← e4]; exact H2
          clear e4 H2
          go_wp2
          go_roundw
          case rel => exact ⟨c + 1, by omega, by go_num, H0.out, H1.out, H2'.out, Hb.out⟩
          case measure => simp [intOf]; omega
    · have e4 : 4 * c = 16 := by omega
      have H4 : Hid (Blk wr (w.heap.size + 1 + 1) 23 (mxTo xs 16)) := by rw [← e4]; exact H2
      clear e4 H2
      have hl4 := Lib.hid (mxTo_length xs 16)
      go_wp2_with (first
        | (refine wpList_load_mid rfl 23 _ rfl (w.heap.size + 1 + 1) 0 rfl (vals (mxTo xs 16)) _ (whole_range H4.out hl4.out) Try.underlying23 rfl (by rw [vals_length, hl4.out]; exact size27) ?_)
        | (refine wpList_store_mid rfl 23 _ _ rfl (w.heap.size + 1) 0 (arrV (mxTo xs 16)) rfl rfl (by rw [arrV_size, hl4.out]; exact H1.out.there 0 16 (by simp [zeros16])) (by rw [arrV_size, hl4.out]; exact size27) (arrV_all _) ?_; rw [arrV_toList]))
      have hs := H1.out.storeAll (ys := mxTo xs 16) (by rw [hl4.out]; rfl)
      exact bodyPost_ret (results_arr Try.results41 _ _ (w.heap.size + 1) rfl _ (hs.loadAll 23 _ hl4.out Try.underlying23 rfl size27)) rfl ⟨rfl, below_setCells Hb.out (by omega) _ _⟩
end Go.Proofs.Ytfbgpfiodgibbaa.A
