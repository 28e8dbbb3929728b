/- The program makes the keys of the rounds. No statement is proved here. -/
import Derived.Test.YtfbgpfiodgibbaaAExpand1
namespace Go.Proofs.Ytfbgpfiodgibbaa.A
open Go.RowKit
set_option linter.unusedVariables false

/-- What holds at the head of each loop: the cipher's cells, the key, the words; nothing that was there is changed but the cipher's block. -/
structure EInv (w : World) (gc : Nat) (cs xs ws : List Nat) (wr : World) : Prop where
  hc : Blk wr gc 78 cs
  hk : Blk wr w.heap.size 23 xs
  hw : Blk wr (w.heap.size + 1) 86 ws
  hb : w.grownBy wr (some gc)

def E1Rel (w : World) (gc : Nat) (cs xs : List Nat) (i : Value) (wr : World) : Prop := ∃ k, k ≤ 4 ∧ i = .int .i64 (k : Nat) ∧ EInv w gc cs xs (keyTo xs k) wr
def E2Rel (w : World) (gc : Nat) (cs xs : List Nat) (p i : Value) (wr : World) : Prop := ∃ k, k ≤ 40 ∧ i = .int .i64 (k : Nat) ∧ p = .int .u8 ((exTo cs xs k).2 : Nat) ∧ EInv w gc cs xs (exTo cs xs k).1 wr
def E3Rel (w : World) (gc : Nat) (cs xs ws : List Nat) (i : Value) (wr : World) : Prop := ∃ k, k ≤ 44 ∧ i = .int .i64 (k : Nat) ∧ EInv w gc (outTo cs ws k) xs ws wr

theorem grown_drew {a w : World} {row : Option Nat} (h : a.grownBy w row) : a.grownBy w.drew row := ⟨h.os, h.tape, h.output, h.size, h.block⟩
theorem grown_alloc {a w : World} {row : Option Nat} (h : a.grownBy w row) (o : Obj) : a.grownBy (w.alloc o) row :=
  ⟨h.os, h.tape, h.output, Nat.le_trans h.size (by simp), fun i hi hne => (Below.heap_alloc w o i (Nat.lt_of_lt_of_le hi h.size)).trans (h.block i hi hne)⟩
theorem grown_setCell {a w : World} {g : Nat} (h : a.grownBy w (some g)) {p : Addr} (hp : p.block = g ∨ a.heap.size ≤ p.block) (u : Value) : a.grownBy (w.setCell p u) (some g) :=
  ⟨h.os, h.tape, h.output, by simpa [World.setCell] using h.size, fun i hi hne => (Below.heap_setCell w p u i (by
    rintro rfl
    rcases hp with hp | hp
    · exact hne (by rw [hp])
    · omega)).trans (h.block i hi hne)⟩
theorem grown_setCells {a w : World} {g b : Nat} (h : a.grownBy w (some g)) (hp : b = g ∨ a.heap.size ≤ b) (vs : List Value) (o : Nat) : a.grownBy (w.setCells b o vs) (some g) := by
  induction vs generalizing w o with
  | nil => exact h
  | cons v r ih => exact ih (grown_setCell h (p := ⟨b, o, none⟩) hp v) (o + 1)
theorem grown_below {a w w' : World} {row : Option Nat} (h : a.grownBy w row) (hb : Below w.heap.size w w') : a.grownBy w' row :=
  ⟨hb.os.trans h.os, hb.tape.trans h.tape, hb.output.trans h.output, Nat.le_trans h.size hb.size, fun i hi hn => (hb.block i (Nat.lt_of_lt_of_le hi h.size)).trans (h.block i hi hn)⟩

theorem e_start {w : World} {gc : Nat} {cs : List Nat} (hc : Blk w gc 78 cs) (xs : List Nat) : E1Rel w gc cs xs (.int .i64 0) ((w.alloc (.cells (arrV xs) 23)).alloc (.cells (arrV (noughts 176)) 86)) := by
  have e1 : (w.alloc (.cells (arrV xs) 23)).heap.size = w.heap.size + 1 := by simp
  have h1 := Blk.new (w.alloc (.cells (arrV xs) 23)) 86 (noughts 176)
  rw [e1] at h1
  exact ⟨0, Nat.zero_le _, rfl, ⟨(hc.alloc _).alloc _, (Blk.new w 23 xs).alloc _, by rw [keyTo_zero]; exact h1, grown_alloc (World.grownBy_alloc w _ _) _⟩⟩
theorem e1_step {w wr : World} {gc : Nat} {cs xs : List Nat} {k : Nat} (hgc : gc < w.heap.size) (h : EInv w gc cs xs (keyTo xs k) wr) (hx : xs.length = 16) (bx : ∀ x ∈ xs, x < 256) (hk : k < 4) :
    E1Rel w gc cs xs (.int .i64 ((k : Int) + 1)) (wr.drew.setCells (w.heap.size + 1) (k * 4) (vals (word xs k))) := by
  rw [Nat.mul_comm k 4]
  have hl := word_length xs k (by omega)
  refine ⟨k + 1, hk, by simp, ⟨h.hc.drew.farCells (by omega) _ _, h.hk.drew.farCells (by omega) _ _, ?_, grown_setCells (grown_drew h.hb) (.inr (by omega)) _ _⟩⟩
  rw [keyTo_succ]
  exact h.hw.drew.setCells (4 * k) (word xs k) (by rw [(keyTo_ok xs hx bx k (by omega)).1, hl]; omega)

theorem e2_start {w wr : World} {gc : Nat} {cs xs : List Nat} (h : EInv w gc cs xs (keyTo xs 4) wr) : E2Rel w gc cs xs (.int .u8 1) (.int .i64 0) wr :=
  ⟨0, by omega, rfl, by rw [exTo_zero]; rfl, by rw [exTo_zero]; exact h⟩

/-- Behind 'last := ..': the word lies in a new block. -/
theorem last_blk (wr : World) (y : List Nat) (hy : y.length = 4) : Blk ((wr.alloc (.cells (arrV zeros4) 85)).setCells wr.heap.size 0 (vals y)) wr.heap.size 85 y :=
  (Blk.new wr 85 zeros4).storeAll (by rw [hy]; rfl)
theorem last_inv {w wr : World} {gc : Nat} {cs xs ws : List Nat} (h : EInv w gc cs xs ws wr) (y : List Nat) : EInv w gc cs xs ws ((wr.alloc (.cells (arrV zeros4) 85)).setCells wr.heap.size 0 (vals y)) :=
  ⟨(h.hc.alloc _).farCells (Nat.ne_of_lt h.hc.lt) _ _, (h.hk.alloc _).farCells (Nat.ne_of_lt h.hk.lt) _ _, (h.hw.alloc _).farCells (Nat.ne_of_lt h.hw.lt) _ _, grown_setCells (grown_alloc h.hb _) (.inr h.hb.size) _ _⟩
theorem inv_below {w wr W : World} {gc : Nat} {cs xs ws : List Nat} (h : EInv w gc cs xs ws wr) (hb : Below wr.heap.size wr W) : EInv w gc cs xs ws W :=
  ⟨h.hc.below hb h.hc.lt, h.hk.below hb h.hk.lt, h.hw.below hb h.hw.lt, grown_below h.hb hb⟩
theorem inv_far {w wr : World} {gc gl : Nat} {cs xs ws : List Nat} (h : EInv w gc cs xs ws wr) (hgc : gc < w.heap.size) (hgl : w.heap.size + 1 < gl) (vs : List Value) (o : Nat) : EInv w gc cs xs ws (wr.setCells gl o vs) :=
  ⟨h.hc.farCells (by omega) _ _, h.hk.farCells (by omega) _ _, h.hw.farCells (by omega) _ _, grown_setCells h.hb (.inr (by omega)) _ _⟩

theorem range_below {w w' : World} {g o : Nat} {vs : List Value} (h : w.rangeAt g o vs) (hb : Below w.drew.heap.size w.drew w') (hg : g < w.heap.size) : w'.rangeAt g o vs := fun j v hv => (hb.cell (p := ⟨g, o + j, none⟩) hg).trans (h j v hv)
theorem range_far {w w' : World} {g o b o2 : Nat} {vs us : List Value} (h : w.rangeAt g o vs) (hb : Below w.drew.heap.size w.drew w') (hg : g < w.heap.size) (hne : g ≠ b) : (w'.setCells b o2 us).rangeAt g o vs :=
  World.rangeAt_setCells_apart (range_below h hb hg) _ _ _ (.inl hne)
theorem range_put {w w' : World} {g o o2 : Nat} {ys : List Nat} {us : List Value} (h : w.rangeAt g o (vals ys)) (hb : Below w.drew.heap.size w.drew w') (hg : g < w.heap.size) (hl : ys.length = 4) (ho : o + 4 ≤ o2) : (w'.setCells g o2 us).rangeAt g o (vals ys) :=
  World.rangeAt_setCells_apart (range_below h hb hg) _ _ _ (.inr (.inl (by rw [vals_length, hl]; exact ho)))
theorem there_below {w w' : World} {g o : Nat} {t : TypeId} {ws : List Nat} (h : Blk w g t ws) (hb : Below w.drew.heap.size w.drew w') (ho : o + 4 ≤ ws.length) : w'.there g o 4 := (h.drew.below hb h.lt).there o 4 ho

theorem put4_lo {w : World} {g o i : Nat} {v u0 u1 u2 u3 : Value} (h : w.cell? ⟨g, i, none⟩ = some v) (hi : i < o) : ((((w.setCell ⟨g, o, none⟩ u0).setCell ⟨g, o + 1, none⟩ u1).setCell ⟨g, o + 2, none⟩ u2).setCell ⟨g, o + 3, none⟩ u3).cell? ⟨g, i, none⟩ = some v := by
  rw [World.cell?_setCell_other _ _ _ _ (by intro e; injection e; omega), World.cell?_setCell_other _ _ _ _ (by intro e; injection e; omega), World.cell?_setCell_other _ _ _ _ (by intro e; injection e; omega), World.cell?_setCell_other _ _ _ _ (by intro e; injection e; omega)]
  exact h
theorem put4_far {w : World} {g b o i : Nat} {v u0 u1 u2 u3 : Value} (h : w.cell? ⟨b, i, none⟩ = some v) (hb : b ≠ g) : ((((w.setCell ⟨g, o, none⟩ u0).setCell ⟨g, o + 1, none⟩ u1).setCell ⟨g, o + 2, none⟩ u2).setCell ⟨g, o + 3, none⟩ u3).cell? ⟨b, i, none⟩ = some v := by
  rw [World.cell?_setCell_other _ _ _ _ (by intro e; injection e; omega), World.cell?_setCell_other _ _ _ _ (by intro e; injection e; omega), World.cell?_setCell_other _ _ _ _ (by intro e; injection e; omega), World.cell?_setCell_other _ _ _ _ (by intro e; injection e; omega)]
  exact h
theorem inv_below2 {w wr W : World} {gc : Nat} {cs xs ws : List Nat} (h : EInv w gc cs xs ws wr) (hb : Below wr.drew.heap.size wr.drew W) : EInv w gc cs xs ws W :=
  ⟨h.hc.drew.below hb h.hc.lt, h.hk.drew.below hb h.hk.lt, h.hw.drew.below hb h.hw.lt, grown_below (grown_drew h.hb) hb⟩
theorem cell_below {w w' : World} {g o : Nat} {v : Value} (h : w.cell? ⟨g, o, none⟩ = some v) (hb : Below w.drew.heap.size w.drew w') (hg : g < w.heap.size) : w'.cell? ⟨g, o, none⟩ = some v := (hb.cell (p := ⟨g, o, none⟩) hg).trans h
theorem list_four (l : List Nat) (h : l.length = 4) : l = [l.getD 0 0, l.getD 1 0, l.getD 2 0, l.getD 3 0] := by
  match l, h with
  | [a, b, c, d], _ => rfl
theorem word_four (ws : List Nat) (k : Nat) (h : 4 * k + 4 ≤ ws.length) : word ws k = [ws.getD (k * 4) 0, ws.getD (k * 4 + 1) 0, ws.getD (k * 4 + 2) 0, ws.getD (k * 4 + 3) 0] := by
  have e := list_four (word ws k) (word_length ws k h)
  rw [e]
  unfold word
  simp [List.getD_eq_getElem?_getD, List.getElem?_take_of_lt, List.getElem?_drop, Nat.mul_comm 4 k]
theorem add_four {a b : List Nat} {x0 x1 x2 x3 y0 y1 y2 y3 : Nat} (ha : a = [x0, x1, x2, x3]) (hb : b = [y0, y1, y2, y3]) (la : a.length = 4) (lb : b.length = 4) (ba : ∀ x ∈ a, x < 256) (bb : ∀ x ∈ b, x < 256) (W : World) :
    Calls Try.prog 47 #[.agg #[.int .u8 (x0 : Int), .int .u8 (x1 : Int), .int .u8 (x2 : Int), .int .u8 (x3 : Int)], .agg #[.int .u8 (y0 : Int), .int .u8 (y1 : Int), .int .u8 (y2 : Int), .int .u8 (y3 : Int)]] W (GivesArr W (addTo a b 4)) := by
  have := addWords_any a b W la lb ba bb
  subst ha hb
  exact this

theorem e2_step {w V2 : World} {gc : Nat} {cs xs ws lst : List Nat} {k p pn z0 z1 z2 z3 : Nat} (hgc : gc < w.heap.size) (h : EInv w gc cs xs ws V2) (e1 : (exTo cs xs k).1 = ws) (e2 : (exTo cs xs k).2 = p) (ho : ws.length = 176) (lw : lastW cs ws p k = lst) (lp : nextP p k = pn) (rf : addTo (word ws k) lst 4 = [z0, z1, z2, z3]) (hk : k < 40) :
    E2Rel w gc cs xs (.int .u8 (pn : Nat)) (.int .i64 ((k : Int) + 1)) ((((V2.setCell ⟨w.heap.size + 1, (k + 4) * 4, none⟩ (.int .u8 (z0 : Int))).setCell ⟨w.heap.size + 1, (k + 4) * 4 + 1, none⟩ (.int .u8 (z1 : Int))).setCell ⟨w.heap.size + 1, (k + 4) * 4 + 2, none⟩ (.int .u8 (z2 : Int))).setCell ⟨w.heap.size + 1, (k + 4) * 4 + 3, none⟩ (.int .u8 (z3 : Int))) := by
  refine ⟨k + 1, hk, by simp, ?_, ?_⟩
  · rw [exTo_succ, e2, lp]
  · rw [exTo_succ, e1, e2, lw, rf]
    have h1 := h.hw.setCells ((k + 4) * 4) [z0, z1, z2, z3] (by simp; omega)
    have h2 : EInv w gc cs xs (putW ws (k + 4) [z0, z1, z2, z3]) (V2.setCells (w.heap.size + 1) ((k + 4) * 4) (vals [z0, z1, z2, z3])) :=
      ⟨h.hc.farCells (by omega) _ _, h.hk.farCells (by omega) _ _, by unfold putW; rw [Nat.mul_comm 4 (k + 4)]; exact h1, grown_setCells h.hb (.inr (by omega)) _ _⟩
    exact h2

theorem e3_step {w V : World} {gc : Nat} {cs xs ws : List Nat} {k : Nat} (hgc : gc < w.heap.size) (h : EInv w gc (outTo cs ws k) xs ws V) (hn : (word ws k).length = 4) (ho : (outTo cs ws k).length = 432) (hk : k < 44) {o : Nat} (hoo : o = k / 4 * 16 + 4 * (k % 4)) :
    E3Rel w gc cs xs ws (.int .i64 ((k : Int) + 1)) (V.drew.setCells gc o (vals (word ws k))) := by
  have h1 := h.hc.drew.setCells (4 * k) (word ws k) (by rw [ho, hn]; omega)
  rw [show o = 4 * k by omega]
  refine ⟨k + 1, hk, by simp, ⟨?_, h.hk.drew.farCells (by omega) _ _, h.hw.drew.farCells (by omega) _ _, grown_setCells (grown_drew h.hb) (.inl rfl) _ _⟩⟩
  rw [outTo_succ]
  exact h1
theorem run_cut_at0 (g o : Nat) (W : World) : (Instr.sliceAt 23 (.pointer (some ⟨g, o, none⟩)) (some (.int .i64 0)) none none).run Try.prog W = .ok (.slice (some ⟨g, o + 0, none⟩) 16 16) W := by kernel_rfl
theorem run_cut_at1 (g o : Nat) (W : World) : (Instr.sliceAt 23 (.pointer (some ⟨g, o, none⟩)) (some (.int .i64 4)) none none).run Try.prog W = .ok (.slice (some ⟨g, o + 4, none⟩) 12 12) W := by kernel_rfl
theorem run_cut_at2 (g o : Nat) (W : World) : (Instr.sliceAt 23 (.pointer (some ⟨g, o, none⟩)) (some (.int .i64 8)) none none).run Try.prog W = .ok (.slice (some ⟨g, o + 8, none⟩) 8 8) W := by kernel_rfl
theorem run_cut_at3 (g o : Nat) (W : World) : (Instr.sliceAt 23 (.pointer (some ⟨g, o, none⟩)) (some (.int .i64 12)) none none).run Try.prog W = .ok (.slice (some ⟨g, o + 12, none⟩) 4 4) W := by kernel_rfl
theorem run_cut_at (g o c : Nat) (hc : c < 4) (W : World) : (Instr.sliceAt 23 (.pointer (some ⟨g, o, none⟩)) (some (.int .i64 (4 * (c : Int)))) none none).run Try.prog W = .ok (.slice (some ⟨g, o + 4 * c, none⟩) (16 - 4 * c) (16 - 4 * c)) W := by
  have h4 : c = 0 ∨ c = 1 ∨ c = 2 ∨ c = 3 := by omega
  rcases h4 with rfl | rfl | rfl | rfl
  · exact run_cut_at0 g o W
  · exact run_cut_at1 g o W
  · exact run_cut_at2 g o W
  · exact run_cut_at3 g o W

set_option maxRecDepth 100000 in
set_option maxHeartbeats 8000000 in
theorem expand_any (gc : Nat) (cs xs : List Nat) (w : World) (hc : Blk w gc 78 cs) (hl : cs.length = 432) (bc : ∀ x ∈ cs, x < 256) (hx : xs.length = 16) (bx : ∀ x ∈ xs, x < 256) :
    Calls Try.prog 36 #[.pointer (some ⟨gc, 0, none⟩), .agg (arrV xs)] w fun e w' => e = .returned (.tuple #[]) ∧ Blk w' gc 78 (outTo cs (exTo cs xs 40).1 44) ∧ w.grownBy w' (some gc) := by
  have HX := Lib.hid hx
  have HL := Lib.hid hl
  have BX := Lib.hid bx
  have BC := Lib.hid bc
  have HC := Lib.hid hc
  have hgc := hc.lt
  clear hx hl bx hc bc
  have z60 := zero60
  go_enter Try.func36, Try.ntmps36
  go_wp2
  clear z60
  go_loopw [12] (E1Rel w gc cs xs) (fun i _ => 4 - (intOf i).toNat)
  case atStart => exact e_start HC.out xs
  case round =>
    obtain ⟨k, hk, rfl, hI⟩ := hrel
    have HI := Lib.hid hI
    clear hI
    by_cases hlt : k < 4
    · have hn := Lib.hid (word_length xs k (by rw [HX.out]; omega))
      have HR := Lib.hid (HI.out.hk.drew.range (4 * k) 4 (by rw [HX.out]; omega))
      have HT := Lib.hid (HI.out.hw.drew.there (k * 4) 4 (by rw [(keyTo_ok xs HX.out BX.out k hk).1]; omega))
      have hcut := run_cut w.heap.size k hlt
      have hwr : IntKind.i64.wrap (4 * (k : Int)) = 4 * (k : Int) := IntWalk.i64_in _ (by omega)
      have hi0 : (0 : Int) ≤ (k : Int) ∧ (k : Int) < 44 := by omega
      go_wp2
      go_region_law (refine step_copy rfl _ _ rfl (w.heap.size + 1) (k * 4) 4 4 w.heap.size (4 * k) (16 - 4 * k) (16 - 4 * k) (by go_simp) (by go_simp) (word xs k) (by rw [hn.out]; exact (Nat.min_eq_right (by omega)).symm) HR.out (by rw [hn.out]; exact HT.out) ?_)
      clear HR HT hcut hwr hi0
      go_wp2
      go_roundw
      case rel => exact e1_step hgc HI.out HX.out BX.out hlt
      case measure => simp [intOf]; omega
    · have e4 : keyTo xs k = keyTo xs 4 := by rw [show k = 4 by omega]
      have H4 : Hid (EInv w gc cs xs (keyTo xs 4) wr) := by rw [← e4]; exact HI
      clear e4 HI
      go_wp2_with fail
      go_loopw [6, 23] (E2Rel w gc cs xs) (fun _ i _ => 40 - (intOf i).toNat)
      case atStart => exact e2_start H4.out
      case round =>
        clear H4
        obtain ⟨k, hk, rfl, rfl, hI⟩ := hrel
        have HI := Lib.hid hI
        clear hI
        by_cases hlt : k < 40
        · obtain ⟨o1, o2, o3⟩ := exTo_ok cs xs BC.out HX.out BX.out k hk
          generalize he1 : (exTo cs xs k).1 = ws at *
          generalize he2 : (exTo cs xs k).2 = p at *
          have E1 := Lib.hid he1
          have E2 := Lib.hid he2
          have O1 := Lib.hid o1
          have O2 := Lib.hid o2
          clear he1 he2 o1 o2
          have hn := Lib.hid (word_length ws (k + 3) (by rw [O1.out]; omega))
          have HR := Lib.hid (show wr.rangeAt (w.heap.size + 1) ((k + 3) * 4) (vals (word ws (k + 3))) from by rw [Nat.mul_comm]; exact HI.out.hw.range (4 * (k + 3)) 4 (by rw [O1.out]; omega))
          have HT := Lib.hid ((Blk.new wr 85 zeros4).there 0 4 (by simp [zeros4]))
          have HB1 := Lib.hid (last_blk wr (word ws (k + 3)) hn.out)
          have HI1 := Lib.hid (last_inv HI.out (word ws (k + 3)))
          have HR1 := Lib.hid (whole_range HB1.out hn.out)
          have hgl : w.heap.size + 1 < wr.heap.size := HI.out.hw.lt
          by_cases ht : (k + 4) % 4 = 0
          · have hb : ((k : Int) % 4 == 0) = true := by simp only [beq_iff_eq]; omega
            have Ht := Lib.hid ht
            clear ht
            go_wp2_with (first
              | (go_at_call 45; refine (turn_any gc cs (word ws (k + 3)) p _ HI1.out.hc HL.out BC.out hn.out (word_lt _ _ O2.out) o3).mono ?_; rintro e W2 ⟨rfl, hb2⟩; have HB2 := Lib.hid (HB1.out.below hb2 HB1.out.lt); have HI2 := Lib.hid (inv_below HI1.out hb2); clear hb2)
              | (go_at_call 46; refine (double_any p _ o3).mono ?_; rintro e w' ⟨rfl, rfl⟩)
              | (refine wpList_store_mid rfl 85 _ _ rfl wr.heap.size 0 (arrV (turned cs (word ws (k + 3)) p)) rfl rfl (by rw [arrV_size, turned_length]; exact HB2.out.there 0 4 (by rw [hn.out]; omega)) (by rw [arrV_size, turned_length]; exact size59) (arrV_all _) ?_; rw [arrV_toList])
              | (refine wpList_load_mid rfl 85 _ rfl (w.heap.size + 1) ((k + 3) * 4) rfl (vals (word ws (k + 3))) _ HR.out Try.underlying85 rfl (by rw [vals_length, hn.out]; exact size59) ?_)
              | (refine wpList_store_mid rfl 85 _ _ rfl wr.heap.size 0 (arrV (word ws (k + 3))) rfl rfl (by rw [arrV_size, hn.out]; exact HT.out) (by rw [arrV_size, hn.out]; exact size59) (arrV_all _) ?_; rw [arrV_toList])
              | (refine wpList_load_mid rfl 85 _ rfl wr.heap.size 0 rfl (vals (word ws (k + 3))) _ HR1.out Try.underlying85 rfl (by rw [vals_length, hn.out]; exact size59) ?_)
              | fail)
            obtain ⟨lst, hlst⟩ : ∃ lst, lst = turned cs (word ws (k + 3)) p := ⟨_, rfl⟩
            have LL := Lib.hid (show lst.length = 4 by rw [hlst]; exact turned_length _ _ _)
            have LB := Lib.hid (show ∀ x ∈ lst, x < 256 by rw [hlst]; exact turned_lt _ _ _ BC.out o3)
            have LW := Lib.hid (show lastW cs ws p k = lst by unfold lastW; rw [if_pos Ht.out, hlst])
            have LP := Lib.hid (show nextP p k = dbl p by unfold nextP; rw [if_pos Ht.out])
            rw [← hlst]
            have HIV := Lib.hid (inv_far HI2.out hgc hgl (vals lst) 0)
            have HBV := Lib.hid (HB2.out.storeAll (ys := lst) (by rw [LL.out, hn.out]))
            clear hlst HR HT HB1 HI1 HR1 HB2 HI2 HI
            generalize W2.setCells wr.heap.size 0 (vals lst) = V at *
            have hlw := Lib.hid (word_length ws k (by rw [O1.out]; omega))
            have a0 := HIV.out.hw.cell (k * 4) (by rw [O1.out]; omega)
            have a1 := HIV.out.hw.cell (k * 4 + 1) (by rw [O1.out]; omega)
            have a2 := HIV.out.hw.cell (k * 4 + 2) (by rw [O1.out]; omega)
            have a3 := HIV.out.hw.cell (k * 4 + 3) (by rw [O1.out]; omega)
            have b0 := HBV.out.cell 0 (by rw [LL.out]; omega)
            have b1 := HBV.out.cell 1 (by rw [LL.out]; omega)
            have b2 := HBV.out.cell 2 (by rw [LL.out]; omega)
            have b3 := HBV.out.cell 3 (by rw [LL.out]; omega)
            have hg1 := HIV.out.hw.lt
            have hg2 := HBV.out.lt
            have WF := Lib.hid (word_four ws k (by rw [O1.out]; omega))
            have LF := Lib.hid (list_four lst LL.out)
            generalize List.getD ws (k * 4) 0 = x0 at *
            generalize List.getD ws (k * 4 + 1) 0 = x1 at *
            generalize List.getD ws (k * 4 + 2) 0 = x2 at *
            generalize List.getD ws (k * 4 + 3) 0 = x3 at *
            generalize List.getD lst 0 0 = y0 at *
            generalize List.getD lst 1 0 = y1 at *
            generalize List.getD lst 2 0 = y2 at *
            generalize List.getD lst 3 0 = y3 at *
            have AW : Hid (∀ W : World, Calls Try.prog 47 #[.agg #[.int .u8 (x0 : Int), .int .u8 (x1 : Int), .int .u8 (x2 : Int), .int .u8 (x3 : Int)], .agg #[.int .u8 (y0 : Int), .int .u8 (y1 : Int), .int .u8 (y2 : Int), .int .u8 (y3 : Int)]] W (GivesArr W (addTo (word ws k) lst 4))) := fun W => add_four WF.out LF.out hlw.out LL.out (word_lt _ _ O2.out) LB.out W
            have RL := Lib.hid ((addTo_length (word ws k) lst 4).trans hlw.out)
            have RF := Lib.hid (list_four (addTo (word ws k) lst 4) RL.out)
            generalize hz0 : List.getD (addTo (word ws k) lst 4) 0 0 = z0 at *
            generalize hz1 : List.getD (addTo (word ws k) lst 4) 1 0 = z1 at *
            generalize hz2 : List.getD (addTo (word ws k) lst 4) 2 0 = z2 at *
            generalize hz3 : List.getD (addTo (word ws k) lst 4) 3 0 = z3 at *
            clear hz0 hz1 hz2 hz3
            have RV : Hid (arrV (addTo (word ws k) lst 4) = #[.int .u8 (z0 : Int), .int .u8 (z1 : Int), .int .u8 (z2 : Int), .int .u8 (z3 : Int)]) := by rw [RF.out]; rfl
            have hgn : wr.heap.size ≠ w.heap.size + 1 := by omega
            have w1 : IntKind.i64.wrap ((k : Int) + 4) = (k : Int) + 4 := IntWalk.i64_in _ (by omega)
            have w2 : (0 : Int) ≤ (k : Int) + 4 ∧ (k : Int) + 4 < 44 := by omega
            have w3 : ((k : Int) + 4).toNat = k + 4 := by omega
            have w4 : (k : Int) < 44 := by omega
            go_region_held3 (fun W => W.cell? ⟨w.heap.size + 1, k * 4, none⟩ = some (.int .u8 (x0 : Int)) ∧ W.cell? ⟨w.heap.size + 1, k * 4 + 1, none⟩ = some (.int .u8 (x1 : Int)) ∧ W.cell? ⟨w.heap.size + 1, k * 4 + 2, none⟩ = some (.int .u8 (x2 : Int)) ∧ W.cell? ⟨w.heap.size + 1, k * 4 + 3, none⟩ = some (.int .u8 (x3 : Int)) ∧ W.cell? ⟨wr.heap.size, 0, none⟩ = some (.int .u8 (y0 : Int)) ∧ W.cell? ⟨wr.heap.size, 1, none⟩ = some (.int .u8 (y1 : Int)) ∧ W.cell? ⟨wr.heap.size, 2, none⟩ = some (.int .u8 (y2 : Int)) ∧ W.cell? ⟨wr.heap.size, 3, none⟩ = some (.int .u8 (y3 : Int)))
              (first
                | exact ⟨a0, a1, a2, a3, b0, b1, b2, b3⟩
                | exact ⟨cell_below a0 hb5 hg1, cell_below a1 hb5 hg1, cell_below a2 hb5 hg1, cell_below a3 hb5 hg1, cell_below b0 hb5 hg2, cell_below b1 hb5 hg2, cell_below b2 hb5 hg2, cell_below b3 hb5 hg2⟩
                | exact ⟨put4_lo s0 (by omega), put4_lo s1 (by omega), put4_lo s2 (by omega), put4_lo s3 (by omega), put4_far s4 hgn, put4_far s5 hgn, put4_far s6 hgn, put4_far s7 hgn⟩)
              (first
              | (go_at_call 47; refine (AW.out _).mono ?_; rintro e V2 ⟨rfl, hb5⟩; rw [RV.out]; have HV2 := Lib.hid (inv_below2 HIV.out hb5); have s0 := cell_below a0 hb5 hg1; have s1 := cell_below a1 hb5 hg1; have s2 := cell_below a2 hb5 hg1; have s3 := cell_below a3 hb5 hg1; have s4 := cell_below b0 hb5 hg2; have s5 := cell_below b1 hb5 hg2; have s6 := cell_below b2 hb5 hg2; have s7 := cell_below b3 hb5 hg2;
                 have t0 := HV2.out.hw.cell ((k + 4) * 4) (by rw [O1.out]; omega); have t1 := HV2.out.hw.cell ((k + 4) * 4 + 1) (by rw [O1.out]; omega); have t2 := HV2.out.hw.cell ((k + 4) * 4 + 2) (by rw [O1.out]; omega); have t3 := HV2.out.hw.cell ((k + 4) * 4 + 3) (by rw [O1.out]; omega); have f0 := HV2.out.hw.frozen ((k + 4) * 4); have f1 := HV2.out.hw.frozen ((k + 4) * 4 + 1); have f2 := HV2.out.hw.frozen ((k + 4) * 4 + 2); have f3 := HV2.out.hw.frozen ((k + 4) * 4 + 3); have HB5 := Lib.hid hb5))
            have hst4 : Hid (E2Rel w gc cs xs (.int .u8 (dbl p : Nat)) (.int .i64 ((k : Int) + 1)) ((((V2.setCell ⟨w.heap.size + 1, (k + 4) * 4, none⟩ (.int .u8 (z0 : Int))).setCell ⟨w.heap.size + 1, (k + 4) * 4 + 1, none⟩ (.int .u8 (z1 : Int))).setCell ⟨w.heap.size + 1, (k + 4) * 4 + 2, none⟩ (.int .u8 (z2 : Int))).setCell ⟨w.heap.size + 1, (k + 4) * 4 + 3, none⟩ (.int .u8 (z3 : Int)))) := e2_step hgc HV2.out E1.out E2.out O1.out LW.out LP.out RF.out hlt
            clear a0 a1 a2 a3 b0 b1 b2 b3 s0 s1 s2 s3 s4 s5 s6 s7 t0 t1 t2 t3 f0 f1 f2 f3 w1 w2 w3 w4 AW hb5 HB5
            go_wp2
            go_roundw
            case rel => exact hst4.out
            case measure => simp [intOf]; omega
          · have hb : ((k : Int) % 4 == 0) = false := by simp only [beq_eq_false_iff_ne, ne_eq]; omega
            have Ht := Lib.hid ht
            clear ht
            go_wp2_with (first
              | (refine wpList_load_mid rfl 85 _ rfl (w.heap.size + 1) ((k + 3) * 4) rfl (vals (word ws (k + 3))) _ HR.out Try.underlying85 rfl (by rw [vals_length, hn.out]; exact size59) ?_)
              | (refine wpList_store_mid rfl 85 _ _ rfl wr.heap.size 0 (arrV (word ws (k + 3))) rfl rfl (by rw [arrV_size, hn.out]; exact HT.out) (by rw [arrV_size, hn.out]; exact size59) (arrV_all _) ?_; rw [arrV_toList])
              | fail)
            have hV : ∃ V, (wr.alloc (.cells (arrV zeros4) 85)).setCells wr.heap.size 0 (vals (word ws (k + 3))) = V := ⟨_, rfl⟩
            obtain ⟨V, hV⟩ := hV
            have HIV := Lib.hid (show EInv w gc cs xs ws V by rw [← hV]; exact HI1.out)
            have HBV := Lib.hid (show Blk V wr.heap.size 85 (word ws (k + 3)) by rw [← hV]; exact HB1.out)
            change Code.wp _ _ _ _ ((wr.alloc (.cells (arrV zeros4) 85)).setCells wr.heap.size 0 (vals (word ws (k + 3))))
            rw [hV]
            have LL := Lib.hid hn.out
            have LB := Lib.hid (word_lt ws (k + 3) O2.out)
            have LW := Lib.hid (show lastW cs ws p k = word ws (k + 3) by unfold lastW; rw [if_neg Ht.out])
            have LP := Lib.hid (show nextP p k = p by unfold nextP; rw [if_neg Ht.out])
            clear hV HR HT HB1 HI1 HR1 HI
            generalize word ws (k + 3) = lst at *
            have hlw := Lib.hid (word_length ws k (by rw [O1.out]; omega))
            have a0 := HIV.out.hw.cell (k * 4) (by rw [O1.out]; omega)
            have a1 := HIV.out.hw.cell (k * 4 + 1) (by rw [O1.out]; omega)
            have a2 := HIV.out.hw.cell (k * 4 + 2) (by rw [O1.out]; omega)
            have a3 := HIV.out.hw.cell (k * 4 + 3) (by rw [O1.out]; omega)
            have b0 := HBV.out.cell 0 (by rw [LL.out]; omega)
            have b1 := HBV.out.cell 1 (by rw [LL.out]; omega)
            have b2 := HBV.out.cell 2 (by rw [LL.out]; omega)
            have b3 := HBV.out.cell 3 (by rw [LL.out]; omega)
            have hg1 := HIV.out.hw.lt
            have hg2 := HBV.out.lt
            have WF := Lib.hid (word_four ws k (by rw [O1.out]; omega))
            have LF := Lib.hid (list_four lst LL.out)
            generalize List.getD ws (k * 4) 0 = x0 at *
            generalize List.getD ws (k * 4 + 1) 0 = x1 at *
            generalize List.getD ws (k * 4 + 2) 0 = x2 at *
            generalize List.getD ws (k * 4 + 3) 0 = x3 at *
            generalize List.getD lst 0 0 = y0 at *
            generalize List.getD lst 1 0 = y1 at *
            generalize List.getD lst 2 0 = y2 at *
            generalize List.getD lst 3 0 = y3 at *
            have AW : Hid (∀ W : World, Calls Try.prog 47 #[.agg #[.int .u8 (x0 : Int), .int .u8 (x1 : Int), .int .u8 (x2 : Int), .int .u8 (x3 : Int)], .agg #[.int .u8 (y0 : Int), .int .u8 (y1 : Int), .int .u8 (y2 : Int), .int .u8 (y3 : Int)]] W (GivesArr W (addTo (word ws k) lst 4))) := fun W => add_four WF.out LF.out hlw.out LL.out (word_lt _ _ O2.out) LB.out W
            have RL := Lib.hid ((addTo_length (word ws k) lst 4).trans hlw.out)
            have RF := Lib.hid (list_four (addTo (word ws k) lst 4) RL.out)
            generalize hz0 : List.getD (addTo (word ws k) lst 4) 0 0 = z0 at *
            generalize hz1 : List.getD (addTo (word ws k) lst 4) 1 0 = z1 at *
            generalize hz2 : List.getD (addTo (word ws k) lst 4) 2 0 = z2 at *
            generalize hz3 : List.getD (addTo (word ws k) lst 4) 3 0 = z3 at *
            clear hz0 hz1 hz2 hz3
            have RV : Hid (arrV (addTo (word ws k) lst 4) = #[.int .u8 (z0 : Int), .int .u8 (z1 : Int), .int .u8 (z2 : Int), .int .u8 (z3 : Int)]) := by rw [RF.out]; rfl
            have hgn : wr.heap.size ≠ w.heap.size + 1 := by omega
            have w1 : IntKind.i64.wrap ((k : Int) + 4) = (k : Int) + 4 := IntWalk.i64_in _ (by omega)
            have w2 : (0 : Int) ≤ (k : Int) + 4 ∧ (k : Int) + 4 < 44 := by omega
            have w3 : ((k : Int) + 4).toNat = k + 4 := by omega
            have w4 : (k : Int) < 44 := by omega
            go_region_held3 (fun W => W.cell? ⟨w.heap.size + 1, k * 4, none⟩ = some (.int .u8 (x0 : Int)) ∧ W.cell? ⟨w.heap.size + 1, k * 4 + 1, none⟩ = some (.int .u8 (x1 : Int)) ∧ W.cell? ⟨w.heap.size + 1, k * 4 + 2, none⟩ = some (.int .u8 (x2 : Int)) ∧ W.cell? ⟨w.heap.size + 1, k * 4 + 3, none⟩ = some (.int .u8 (x3 : Int)) ∧ W.cell? ⟨wr.heap.size, 0, none⟩ = some (.int .u8 (y0 : Int)) ∧ W.cell? ⟨wr.heap.size, 1, none⟩ = some (.int .u8 (y1 : Int)) ∧ W.cell? ⟨wr.heap.size, 2, none⟩ = some (.int .u8 (y2 : Int)) ∧ W.cell? ⟨wr.heap.size, 3, none⟩ = some (.int .u8 (y3 : Int)))
              (first
                | exact ⟨a0, a1, a2, a3, b0, b1, b2, b3⟩
                | exact ⟨cell_below a0 hb5 hg1, cell_below a1 hb5 hg1, cell_below a2 hb5 hg1, cell_below a3 hb5 hg1, cell_below b0 hb5 hg2, cell_below b1 hb5 hg2, cell_below b2 hb5 hg2, cell_below b3 hb5 hg2⟩
                | exact ⟨put4_lo s0 (by omega), put4_lo s1 (by omega), put4_lo s2 (by omega), put4_lo s3 (by omega), put4_far s4 hgn, put4_far s5 hgn, put4_far s6 hgn, put4_far s7 hgn⟩)
              (first
              | (go_at_call 47; refine (AW.out _).mono ?_; rintro e V2 ⟨rfl, hb5⟩; rw [RV.out]; have HV2 := Lib.hid (inv_below2 HIV.out hb5); have s0 := cell_below a0 hb5 hg1; have s1 := cell_below a1 hb5 hg1; have s2 := cell_below a2 hb5 hg1; have s3 := cell_below a3 hb5 hg1; have s4 := cell_below b0 hb5 hg2; have s5 := cell_below b1 hb5 hg2; have s6 := cell_below b2 hb5 hg2; have s7 := cell_below b3 hb5 hg2;
                 have t0 := HV2.out.hw.cell ((k + 4) * 4) (by rw [O1.out]; omega); have t1 := HV2.out.hw.cell ((k + 4) * 4 + 1) (by rw [O1.out]; omega); have t2 := HV2.out.hw.cell ((k + 4) * 4 + 2) (by rw [O1.out]; omega); have t3 := HV2.out.hw.cell ((k + 4) * 4 + 3) (by rw [O1.out]; omega); have f0 := HV2.out.hw.frozen ((k + 4) * 4); have f1 := HV2.out.hw.frozen ((k + 4) * 4 + 1); have f2 := HV2.out.hw.frozen ((k + 4) * 4 + 2); have f3 := HV2.out.hw.frozen ((k + 4) * 4 + 3); have HB5 := Lib.hid hb5))
            have hst4 : Hid (E2Rel w gc cs xs (.int .u8 (p : Nat)) (.int .i64 ((k : Int) + 1)) ((((V2.setCell ⟨w.heap.size + 1, (k + 4) * 4, none⟩ (.int .u8 (z0 : Int))).setCell ⟨w.heap.size + 1, (k + 4) * 4 + 1, none⟩ (.int .u8 (z1 : Int))).setCell ⟨w.heap.size + 1, (k + 4) * 4 + 2, none⟩ (.int .u8 (z2 : Int))).setCell ⟨w.heap.size + 1, (k + 4) * 4 + 3, none⟩ (.int .u8 (z3 : Int)))) := e2_step hgc HV2.out E1.out E2.out O1.out LW.out LP.out RF.out hlt
            clear a0 a1 a2 a3 b0 b1 b2 b3 s0 s1 s2 s3 s4 s5 s6 s7 t0 t1 t2 t3 f0 f1 f2 f3 w1 w2 w3 w4 AW hb5 HB5
            go_wp2
            go_roundw
            case rel => exact hst4.out
            case measure => simp [intOf]; omega
        · have e5 : (exTo cs xs k).1 = (exTo cs xs 40).1 := by rw [show k = 40 by omega]
          have HJ : Hid (EInv w gc cs xs (exTo cs xs 40).1 wr) := by rw [← e5]; exact HI
          obtain ⟨o1, o2, o3⟩ := exTo_ok cs xs BC.out HX.out BX.out 40 (by omega)
          clear e5 HI o3
          generalize hwe : (exTo cs xs 40).1 = ws at *
          have HWE := Lib.hid hwe
          have O1 := Lib.hid o1
          have O2 := Lib.hid o2
          clear hwe o1 o2
          have HR := Lib.hid (whole_range HJ.out.hw O1.out)
          go_wp2_with (first
            | (refine wpList_load_mid rfl 86 _ rfl (w.heap.size + 1) 0 rfl (vals ws) _ HR.out Try.underlying86 rfl (by rw [vals_length, O1.out]; exact size60) ?_)
            | fail)
          go_loopw [50] (E3Rel w gc cs xs ws) (fun i _ => 44 - (intOf i).toNat)
          case atStart => exact ⟨0, by omega, rfl, by rw [outTo_zero]; exact HJ.out⟩
          case round =>
            clear HJ HR
            obtain ⟨k, hk, rfl, hI⟩ := hrel
            have HI := Lib.hid hI
            clear hI
            by_cases hlt : k < 44
            · have hn := Lib.hid (word_length ws k (by rw [O1.out]; omega))
              have hix := run_index_words ws k hlt O1.out wr
              have HT := Lib.hid ((Blk.new wr 85 zeros4).there 0 4 (by simp [zeros4]))
              have hgl : w.heap.size + 1 < wr.heap.size := HI.out.hw.lt
              have HB1 := Lib.hid (last_blk wr (word ws k) hn.out)
              have HI1 := Lib.hid (last_inv HI.out (word ws k))
              have hOL := Lib.hid (outTo_length cs ws HL.out O1.out k hk)
              go_wp2_with (first
                | (refine wpList_store_mid rfl 85 _ _ rfl wr.heap.size 0 (arrV (word ws k)) rfl rfl (by rw [arrV_size, hn.out]; exact HT.out) (by rw [arrV_size, hn.out]; exact size59) (arrV_all _) ?_; rw [arrV_toList])
                | fail)
              have hV : ∃ V, (wr.alloc (.cells (arrV zeros4) 85)).setCells wr.heap.size 0 (vals (word ws k)) = V := ⟨_, rfl⟩
              obtain ⟨V, hV⟩ := hV
              have HIV := Lib.hid (show EInv w gc (outTo cs ws k) xs ws V by rw [← hV]; exact HI1.out)
              have HBV := Lib.hid (show Blk V wr.heap.size 85 (word ws k) by rw [← hV]; exact HB1.out)
              change Code.wp _ _ _ _ ((wr.alloc (.cells (arrV zeros4) 85)).setCells wr.heap.size 0 (vals (word ws k)))
              rw [hV]
              clear hV HT HB1 HI1 HI hix
              have HR := Lib.hid (whole_range HBV.out.drew hn.out)
              obtain ⟨o, ho⟩ : ∃ o, o = k / 4 * 16 + 4 * (k % 4) := ⟨_, rfl⟩
              obtain ⟨L, hL⟩ : ∃ L, L = 16 - 4 * (k % 4) := ⟨_, rfl⟩
              have hLm : 4 ≤ L := by omega
              have HT := Lib.hid (HIV.out.hc.drew.there o 4 (by rw [hOL.out]; omega))
              have hcut : ∀ W : World, (Instr.sliceAt 23 (.pointer (some ⟨gc, k / 4 * 16, none⟩)) (some (.int .i64 (4 * ((k : Int) % 4)))) none none).run Try.prog W = .ok (.slice (some ⟨gc, o, none⟩) L L) W := fun W => by
                rw [ho, hL, show (k : Int) % 4 = ((k % 4 : Nat) : Int) by omega]; exact run_cut_at gc (k / 4 * 16) (k % 4) (by omega) W
              have HO := Lib.hid ho
              clear ho hL
              have v1 : IntKind.i64.wrap ((k : Int) / 4) = (k : Int) / 4 := IntWalk.i64_in _ (by omega)
              have v2 : IntKind.i64.wrap ((k : Int) % 4) = (k : Int) % 4 := IntWalk.i64_in _ (by omega)
              have v3 : IntKind.i64.wrap (4 * ((k : Int) % 4)) = 4 * ((k : Int) % 4) := IntWalk.i64_in _ (by omega)
              have v4 : (k : Int).tdiv 4 = (k : Int) / 4 := Int.tdiv_eq_ediv_of_nonneg (by omega)
              have v5 : (k : Int).tmod 4 = (k : Int) % 4 := Int.tmod_eq_emod_of_nonneg (by omega)
              have v6 : (0 : Int) ≤ (k : Int) / 4 ∧ (k : Int) / 4 < 11 := by omega
              have v7 : ((k : Int) / 4).toNat = k / 4 := by omega
              go_region_law (refine step_copy rfl _ _ rfl gc o L L wr.heap.size 0 4 4 (by go_simp) (by go_simp) (word ws k) (by rw [hn.out]; exact (Nat.min_eq_left hLm).symm) HR.out (by rw [hn.out]; exact HT.out) ?_)
              clear hcut v1 v2 v3 v4 v5 v6 v7 HT HR
              have hst4 := Lib.hid (e3_step hgc HIV.out hn.out hOL.out hlt HO.out)
              go_wp2
              go_roundw
              case rel => exact hst4.out
              case measure => simp [intOf]; omega
            · have e6 : outTo cs ws k = outTo cs ws 44 := by rw [show k = 44 by omega]
              have HK : Hid (EInv w gc (outTo cs ws 44) xs ws wr) := by rw [← e6]; exact HI
              clear e6 HI
              go_wp2
              go_end0
              exact ⟨rfl, by rw [HWE.out]; exact HK.out.hc, HK.out.hb⟩
end Go.Proofs.Ytfbgpfiodgibbaa.A
