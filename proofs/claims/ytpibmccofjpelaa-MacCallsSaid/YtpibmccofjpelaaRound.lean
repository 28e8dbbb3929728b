/- What the program makes of a round of four numbers. No statement is proved here. -/
import Derived.Test.YtpibmccofjpelaaTurned
import Derived.Deep.MidRow
import Derived.Deep.CutRange
import Derived.Deep.RegionWith
namespace Go.Proofs.Ytpibmccofjpelaa
open Go.RowKit
set_option linter.unusedVariables false

/-- The call hands back the four numbers v, and nothing that was there is changed. -/
def GivesV (w : World) (v : V) (e : Ending) (w' : World) : Prop := e = .returned v.val ∧ Below w.heap.size w w'

/-- Block g is just the four numbers a, b, c, d. -/
def Blk4 (W : World) (g : Nat) (a b c d : Nat) : Prop := W.heap[g]? = some (.cells #[.int .u64 (a : Int), .int .u64 (b : Int), .int .u64 (c : Int), .int .u64 (d : Int)] 26 (0, 0))
section
variable {W W' : World} {g a b c d : Nat}
theorem Blk4.lt (h : Blk4 W g a b c d) : g < W.heap.size := by
  rcases Nat.lt_or_ge g W.heap.size with hlt | hge
  · exact hlt
  · unfold Blk4 at h; rw [Array.getElem?_eq_none hge] at h; cases h
theorem Blk4.c0 (h : Blk4 W g a b c d) : W.cell? ⟨g, 0, none⟩ = some (.int .u64 (a : Int)) := by rw [cell_of_row W g 0 _ _ _ h]; rfl
theorem Blk4.c1 (h : Blk4 W g a b c d) : W.cell? ⟨g, 1, none⟩ = some (.int .u64 (b : Int)) := by rw [cell_of_row W g 1 _ _ _ h]; rfl
theorem Blk4.c2 (h : Blk4 W g a b c d) : W.cell? ⟨g, 2, none⟩ = some (.int .u64 (c : Int)) := by rw [cell_of_row W g 2 _ _ _ h]; rfl
theorem Blk4.c3 (h : Blk4 W g a b c d) : W.cell? ⟨g, 3, none⟩ = some (.int .u64 (d : Int)) := by rw [cell_of_row W g 3 _ _ _ h]; rfl
theorem Blk4.frozen (h : Blk4 W g a b c d) (i : Nat) : W.frozen? ⟨g, i, none⟩ = false := by
  unfold Blk4 at h
  simp [World.frozen?, h]
theorem Blk4.drewN (h : Blk4 W g a b c d) (n : Nat) : Blk4 (W.drewN n) g a b c d := h
theorem Blk4.alloc (h : Blk4 W g a b c d) (o : Obj) : Blk4 (W.alloc o) g a b c d := (Below.heap_alloc W o g h.lt).trans h
theorem Blk4.far (h : Blk4 W g a b c d) {p : Addr} (hp : g ≠ p.block) (u : Value) : Blk4 (W.setCell p u) g a b c d := (Below.heap_setCell W p u g hp).trans h
theorem Blk4.below {B : Nat} (h : Blk4 W g a b c d) (hb : Below B W W') (hg : g < B) : Blk4 W' g a b c d := (hb.block g hg).trans h
theorem Blk4.s0 (h : Blk4 W g a b c d) (x : Nat) : Blk4 (W.setCell ⟨g, 0, none⟩ (.int .u64 (x : Int))) g x b c d := by unfold Blk4 at h ⊢; simp [World.setCell, Array.getElem?_modify, h]
theorem Blk4.s1 (h : Blk4 W g a b c d) (x : Nat) : Blk4 (W.setCell ⟨g, 1, none⟩ (.int .u64 (x : Int))) g a x c d := by unfold Blk4 at h ⊢; simp [World.setCell, Array.getElem?_modify, h]
theorem Blk4.s2 (h : Blk4 W g a b c d) (x : Nat) : Blk4 (W.setCell ⟨g, 2, none⟩ (.int .u64 (x : Int))) g a b x d := by unfold Blk4 at h ⊢; simp [World.setCell, Array.getElem?_modify, h]
theorem Blk4.s3 (h : Blk4 W g a b c d) (x : Nat) : Blk4 (W.setCell ⟨g, 3, none⟩ (.int .u64 (x : Int))) g a b c x := by unfold Blk4 at h ⊢; simp [World.setCell, Array.getElem?_modify, h]
theorem Blk4.new (w : World) (a b c d : Nat) : Blk4 (w.alloc (.cells #[.int .u64 (a : Int), .int .u64 (b : Int), .int .u64 (c : Int), .int .u64 (d : Int)] 26)) w.heap.size a b c d := heap_alloc_new w _
end
theorem size26 : (Try.prog.info? 26).map (·.size) = some 4 := by kernel_rfl
theorem Blk4.range {W : World} {g a b c d : Nat} (h : Blk4 W g a b c d) : W.rangeAt g 0 [.int .u64 (a : Int), .int .u64 (b : Int), .int .u64 (c : Int), .int .u64 (d : Int)] := by
  intro j v hv
  match j, hv with
  | 0, hv => injection hv with hv; subst hv; exact h.c0
  | 1, hv => injection hv with hv; subst hv; exact h.c1
  | 2, hv => injection hv with hv; subst hv; exact h.c2
  | 3, hv => injection hv with hv; subst hv; exact h.c3
  | n + 4, hv => cases hv
theorem Blk4.load {W : World} {g a b c d : Nat} (h : Blk4 W g a b c d) : (loadVar 26 ⟨g, 0, none⟩).run Try.prog W = .ok (V.mk a b c d).val W :=
  run_loadVar_mid (P := Try.prog) W g 0 26 _ _ h.range Try.underlying26 rfl size26
theorem results_arr {P : Program} {fn : Func} {p : Tmp} {ty : TypeId} (h : fn.results = #[.cell p ty]) (tmps : Array Value) (w : World) (g : Nat) (hp : tmps.getD p undef = .pointer (some ⟨g, 0, none⟩)) (v : Value)
    (hl : (loadVar ty ⟨g, 0, none⟩).run P w = .ok v w) : (results fn tmps).run P w = .ok v w := by
  have hp' : tmps[p]?.getD undef = .pointer (some ⟨g, 0, none⟩) := by simpa using hp
  simp only [results, h]
  simp [hp', asAddr, hl]
/-- Two blocks of four numbers that a call has made, and nothing else is changed. -/
structure R4 (w W : World) (g : Nat) (a b c d : Nat) : Prop where
  h0 : Blk4 W g a b c d
  h1 : Blk4 W (g + 1) 0 0 0 0
  hg : w.heap.size ≤ g
  hw : Below w.heap.size w W
theorem off_cell {W : World} {g i j : Nat} {v : Value} (h : W.cell? ⟨g, i, none⟩ = some v) (hij : i ≠ j) (u : Value) (n : Nat) : ((W.drewN n).setCell ⟨g, j, none⟩ u).cell? ⟨g, i, none⟩ = some v := by
  exact (World.cell?_setCell_other (W.drewN n) ⟨g, j, none⟩ ⟨g, i, none⟩ u (fun e => hij (by injection e with e1 e2 e3; exact e2.symm))).trans h
section
variable {w W : World} {g a b c d : Nat}
theorem R4.drewN (h : R4 w W g a b c d) (n : Nat) : R4 w (W.drewN n) g a b c d := ⟨h.h0, h.h1, h.hg, below_drewN h.hw⟩
theorem R4.s0 (h : R4 w W g a b c d) (x : Nat) : R4 w (W.setCell ⟨g, 0, none⟩ (.int .u64 (x : Int))) g x b c d := ⟨h.h0.s0 x, h.h1.far (by simp) _, h.hg, h.hw.setCell h.hg _⟩
theorem R4.s1 (h : R4 w W g a b c d) (x : Nat) : R4 w (W.setCell ⟨g, 1, none⟩ (.int .u64 (x : Int))) g a x c d := ⟨h.h0.s1 x, h.h1.far (by simp) _, h.hg, h.hw.setCell h.hg _⟩
theorem R4.s2 (h : R4 w W g a b c d) (x : Nat) : R4 w (W.setCell ⟨g, 2, none⟩ (.int .u64 (x : Int))) g a b x d := ⟨h.h0.s2 x, h.h1.far (by simp) _, h.hg, h.hw.setCell h.hg _⟩
theorem R4.s3 (h : R4 w W g a b c d) (x : Nat) : R4 w (W.setCell ⟨g, 3, none⟩ (.int .u64 (x : Int))) g a b c x := ⟨h.h0.s3 x, h.h1.far (by simp) _, h.hg, h.hw.setCell h.hg _⟩
theorem R4.new (w : World) (a b c d : Nat) : R4 w ((w.alloc (.cells #[.int .u64 (a : Int), .int .u64 (b : Int), .int .u64 (c : Int), .int .u64 (d : Int)] 26)).alloc (.cells #[.int .u64 0, .int .u64 0, .int .u64 0, .int .u64 0] 26)) w.heap.size a b c d := by
  have h1 := Blk4.new (w.alloc (.cells #[.int .u64 (a : Int), .int .u64 (b : Int), .int .u64 (c : Int), .int .u64 (d : Int)] 26)) 0 0 0 0
  rw [show (w.alloc (.cells #[.int .u64 (a : Int), .int .u64 (b : Int), .int .u64 (c : Int), .int .u64 (d : Int)] 26)).heap.size = w.heap.size + 1 by simp] at h1
  exact ⟨(Blk4.new w a b c d).alloc _, h1, Nat.le_refl _, ((Below.refl _ _).alloc (Nat.le_refl _) _).alloc (by simp) _⟩
end

set_option maxHeartbeats 1000000 in
theorem round_with (a b c d a1 r1 b1 a2 c1 r2 d1 a3 r3 d2 c2 r4 b2 c3 : Nat) (w : World)
    (e1 : IntKind.u64.wrap ((a : Int) + (b : Int)) = (a1 : Int))
    (T1 : Hid (∀ W : World, Calls Try.prog 34 #[.int .u64 b, .int .i64 13] W fun e w' => e = .returned (.int .u64 (r1 : Nat)) ∧ ∃ k, w' = W.drewN k))
    (e2 : bits .xor .u64 (r1 : Int) (a1 : Int) = (b1 : Int))
    (T2 : Hid (∀ W : World, Calls Try.prog 34 #[.int .u64 a1, .int .i64 32] W fun e w' => e = .returned (.int .u64 (a2 : Nat)) ∧ ∃ k, w' = W.drewN k))
    (e3 : IntKind.u64.wrap ((c : Int) + (d : Int)) = (c1 : Int))
    (T3 : Hid (∀ W : World, Calls Try.prog 34 #[.int .u64 d, .int .i64 16] W fun e w' => e = .returned (.int .u64 (r2 : Nat)) ∧ ∃ k, w' = W.drewN k))
    (e4 : bits .xor .u64 (r2 : Int) (c1 : Int) = (d1 : Int))
    (e5 : IntKind.u64.wrap ((a2 : Int) + (d1 : Int)) = (a3 : Int))
    (T4 : Hid (∀ W : World, Calls Try.prog 34 #[.int .u64 d1, .int .i64 21] W fun e w' => e = .returned (.int .u64 (r3 : Nat)) ∧ ∃ k, w' = W.drewN k))
    (e6 : bits .xor .u64 (r3 : Int) (a3 : Int) = (d2 : Int))
    (e7 : IntKind.u64.wrap ((c1 : Int) + (b1 : Int)) = (c2 : Int))
    (T5 : Hid (∀ W : World, Calls Try.prog 34 #[.int .u64 b1, .int .i64 17] W fun e w' => e = .returned (.int .u64 (r4 : Nat)) ∧ ∃ k, w' = W.drewN k))
    (e8 : bits .xor .u64 (r4 : Int) (c2 : Int) = (b2 : Int))
    (T6 : Hid (∀ W : World, Calls Try.prog 34 #[.int .u64 c2, .int .i64 32] W fun e w' => e = .returned (.int .u64 (c3 : Nat)) ∧ ∃ k, w' = W.drewN k)) :
    Calls Try.prog 15 #[.agg #[.int .u64 a, .int .u64 b, .int .u64 c, .int .u64 d]] w (GivesV w ⟨a3, b2, c3, d2⟩) := by
  go_enter Try.func15, Try.ntmps15
  go_upto_region 2 with fail
  have H := Lib.hid (R4.new w a1 b c d)
  generalize ((w.alloc (Obj.cells #[Value.int IntKind.u64 a1, Value.int IntKind.u64 b, Value.int IntKind.u64 c, Value.int IntKind.u64 d] 26)).alloc (Obj.cells #[Value.int IntKind.u64 0, Value.int IntKind.u64 0, Value.int IntKind.u64 0, Value.int IntKind.u64 0] 26)) = W0 at *
  generalize w.heap.size = g at *
  go_cut [] from 3 to 63 (fun wx => R4 w wx g a1 b1 c d)
  case first =>
    have q0 := H.out.h0.c0
    have q1 := H.out.h0.c1
    have p1 := H.out.h0.frozen 1
    go_region_with (go_at_call 34; refine (T1.out _).mono ?_; rintro e X ⟨rfl, k1, rfl⟩)
    all_goals (go_wp2_with fail; go_meet; exact (H.out.drewN (1 + k1)).s1 b1)
  case rest =>
    clear H
    have H := Lib.hid hcut
    clear hcut
    have q0 := H.out.h0.c0
    have q2 := H.out.h0.c2
    have q3 := H.out.h0.c3
    have p0 := H.out.h0.frozen 0
    have p2 := H.out.h0.frozen 2
    go_upto_region 5 with (go_at_call 34; refine (T2.out _).mono ?_; rintro e X ⟨rfl, k2, rfl⟩)
    have H2 := Lib.hid (((H.out.drewN k2).s0 a2).s2 c1)
    generalize (((wc.drewN k2).setCell ⟨g, 0, none⟩ (Value.int IntKind.u64 a2)).setCell ⟨g, 2, none⟩ (Value.int IntKind.u64 c1)) = W1 at *
    clear H q0 q2 q3 p0 p2
    have H := H2
    clear H2
    go_cut [] from 3 to 63 (fun wx => R4 w wx g a2 b1 c1 d1)
    case first =>
      have q2 := H.out.h0.c2
      have q3 := H.out.h0.c3
      have p3 := H.out.h0.frozen 3
      go_region_with (go_at_call 34; refine (T3.out _).mono ?_; rintro e X ⟨rfl, k3, rfl⟩)
      all_goals (go_wp2_with fail; go_meet; exact (H.out.drewN (1 + k3)).s3 d1)
    case rest =>
      clear H
      have H := Lib.hid hcut
      clear hcut
      have q0 := H.out.h0.c0
      have q3 := H.out.h0.c3
      have p0 := H.out.h0.frozen 0
      go_upto_region 7 with fail
      have H2 := Lib.hid (H.out.s0 a3)
      generalize (World.setCell _ ⟨g, 0, none⟩ (Value.int IntKind.u64 a3)) = W2 at *
      clear H q0 q3 p0
      have H := H2
      clear H2
      go_cut [] from 3 to 63 (fun wx => R4 w wx g a3 b1 c1 d2)
      case first =>
        have q0 := H.out.h0.c0
        have q3 := H.out.h0.c3
        have p3 := H.out.h0.frozen 3
        go_region_with (go_at_call 34; refine (T4.out _).mono ?_; rintro e X ⟨rfl, k4, rfl⟩)
        all_goals (go_wp2_with fail; go_meet; exact (H.out.drewN (1 + k4)).s3 d2)
      case rest =>
        clear H
        have H := Lib.hid hcut
        clear hcut
        have q1 := H.out.h0.c1
        have q2 := H.out.h0.c2
        have p2 := H.out.h0.frozen 2
        go_upto_region 9 with fail
        have H2 := Lib.hid (H.out.s2 c2)
        generalize (World.setCell _ ⟨g, 2, none⟩ (Value.int IntKind.u64 c2)) = W3 at *
        clear H q1 q2 p2
        have H := H2
        clear H2
        go_cut [] from 3 to 63 (fun wx => R4 w wx g a3 b2 c2 d2)
        case first =>
          have q1 := H.out.h0.c1
          have q2 := H.out.h0.c2
          have p1 := H.out.h0.frozen 1
          go_region_with (go_at_call 34; refine (T5.out _).mono ?_; rintro e X ⟨rfl, k5, rfl⟩)
          all_goals (go_wp2_with fail; go_meet; exact (H.out.drewN (1 + k5)).s1 b2)
        case rest =>
          clear H
          have H := Lib.hid hcut
          clear hcut
          have q0 := H.out.h0.c0
          have q1 := H.out.h0.c1
          have q2 := H.out.h0.c2
          have q3 := H.out.h0.c3
          have p2 := H.out.h0.frozen 2
          have z0 := H.out.h1.c0
          have z1 := H.out.h1.c1
          have z2 := H.out.h1.c2
          have z3 := H.out.h1.c3
          have y0 := H.out.h1.frozen 0
          have y1 := H.out.h1.frozen 1
          have y2 := H.out.h1.frozen 2
          have y3 := H.out.h1.frozen 3
          go_wp2_with (go_at_call 34; refine (T6.out _).mono ?_; rintro e X ⟨rfl, k6, rfl⟩)
          have H3 := ((((((H.out.drewN k6).s2 c3).h1).s0 a3).s1 b2).s2 c3).s3 d2
          have H4 := (((((H.out.drewN k6).s2 c3).hw.setCell (p := ⟨g + 1, 0, none⟩) (Nat.le_succ_of_le H.out.hg) (Value.int IntKind.u64 a3)).setCell (p := ⟨g + 1, 1, none⟩) (Nat.le_succ_of_le H.out.hg) (Value.int IntKind.u64 b2)).setCell (p := ⟨g + 1, 2, none⟩) (Nat.le_succ_of_le H.out.hg) (Value.int IntKind.u64 c3)).setCell (p := ⟨g + 1, 3, none⟩) (Nat.le_succ_of_le H.out.hg) (Value.int IntKind.u64 d2)
          exact bodyPost_ret (results_arr Try.results15 _ _ (g + 1) rfl _ H3.load) rfl ⟨rfl, H4⟩
theorem round_any (v : V) (h : v.ok) (w : World) : Calls Try.prog 15 #[v.val] w (GivesV w (rnd v)) := by
  obtain ⟨a, b, c, d⟩ := v
  obtain ⟨ha, hb, hc, hd⟩ := h
  simp only at ha hb hc hd
  have l1 := plus_lt a b
  have l2 := xor_lt64 (rot_lt b 13 hb) l1
  have l3 := rot_lt _ 32 l1
  have l4 := plus_lt c d
  have l5 := xor_lt64 (rot_lt d 16 hd) l4
  have l6 := plus_lt (rot (plus a b) 32) (rot d 16 ^^^ plus c d)
  have l7 := plus_lt (plus c d) (rot b 13 ^^^ plus a b)
  exact round_with a b c d _ _ _ _ _ _ _ _ _ _ _ _ _ _ w (plus_of a b) (fun W => turned_any b 13 W hb (by omega) (by omega)) (u64_xor_nat _ _ (rot_lt b 13 hb) l1) (fun W => turned_any _ 32 W l1 (by omega) (by omega)) (plus_of c d)
    (fun W => turned_any d 16 W hd (by omega) (by omega)) (u64_xor_nat _ _ (rot_lt d 16 hd) l4) (plus_of _ _) (fun W => turned_any _ 21 W l5 (by omega) (by omega)) (u64_xor_nat _ _ (rot_lt _ 21 l5) l6) (plus_of _ _)
    (fun W => turned_any _ 17 W l2 (by omega) (by omega)) (u64_xor_nat _ _ (rot_lt _ 17 l2) l7) (fun W => turned_any _ 32 W l7 (by omega) (by omega))
end Go.Proofs.Ytpibmccofjpelaa
