/- What the document makes of a round of four numbers. No statement is proved here. -/
import Derived.Test.YtpibmccofjpelaaRound
namespace Go.Proofs.Ytpibmccofjpelaa
open Go.RowKit
set_option linter.unusedVariables false

theorem R4.give {w W : World} {g a b c d : Nat} (h : R4 w W g a b c d) (x y z u : Nat) :
    Blk4 ((((W.setCell ⟨g + 1, 0, none⟩ (.int .u64 (x : Int))).setCell ⟨g + 1, 1, none⟩ (.int .u64 (y : Int))).setCell ⟨g + 1, 2, none⟩ (.int .u64 (z : Int))).setCell ⟨g + 1, 3, none⟩ (.int .u64 (u : Int))) (g + 1) x y z u ∧
    Below w.heap.size w ((((W.setCell ⟨g + 1, 0, none⟩ (.int .u64 (x : Int))).setCell ⟨g + 1, 1, none⟩ (.int .u64 (y : Int))).setCell ⟨g + 1, 2, none⟩ (.int .u64 (z : Int))).setCell ⟨g + 1, 3, none⟩ (.int .u64 (u : Int))) := by
  have hg : w.heap.size ≤ g + 1 := Nat.le_succ_of_le h.hg
  exact ⟨(((h.h1.s0 x).s1 y).s2 z).s3 u, (((h.hw.setCell (p := ⟨g + 1, 0, none⟩) hg _).setCell (p := ⟨g + 1, 1, none⟩) hg _).setCell (p := ⟨g + 1, 2, none⟩) hg _).setCell (p := ⟨g + 1, 3, none⟩) hg _⟩
theorem R4.below {w W W' : World} {g a b c d : Nat} (h : R4 w W g a b c d) (hb : Below W.heap.size W W') : R4 w W' g a b c d :=
  ⟨h.h0.below hb h.h0.lt, h.h1.below hb h.h1.lt, h.hg, h.hw.trans (hb.mono h.hw.size)⟩
set_option maxHeartbeats 1000000 in
theorem refRound_with (a b c d a1 r1 b1 a2 c1 r2 d1 a3 r3 d2 c2 r4 b2 c3 : Nat) (w : World)
    (e1 : IntKind.u64.wrap ((a : Int) + (b : Int)) = (a1 : Int))
    (T1 : Hid (∀ W : World, Calls Try.prog 35 #[.int .u64 b, .int .i64 13] W fun e w' => e = .returned (.int .u64 (r1 : Nat)) ∧ ∃ k, w' = W.drewN k))
    (e2 : bits .xor .u64 (r1 : Int) (a1 : Int) = (b1 : Int))
    (T2 : Hid (∀ W : World, Calls Try.prog 35 #[.int .u64 a1, .int .i64 32] W fun e w' => e = .returned (.int .u64 (a2 : Nat)) ∧ ∃ k, w' = W.drewN k))
    (e3 : IntKind.u64.wrap ((c : Int) + (d : Int)) = (c1 : Int))
    (T3 : Hid (∀ W : World, Calls Try.prog 35 #[.int .u64 d, .int .i64 16] W fun e w' => e = .returned (.int .u64 (r2 : Nat)) ∧ ∃ k, w' = W.drewN k))
    (e4 : bits .xor .u64 (r2 : Int) (c1 : Int) = (d1 : Int))
    (e5 : IntKind.u64.wrap ((a2 : Int) + (d1 : Int)) = (a3 : Int))
    (T4 : Hid (∀ W : World, Calls Try.prog 35 #[.int .u64 d1, .int .i64 21] W fun e w' => e = .returned (.int .u64 (r3 : Nat)) ∧ ∃ k, w' = W.drewN k))
    (e6 : bits .xor .u64 (r3 : Int) (a3 : Int) = (d2 : Int))
    (e7 : IntKind.u64.wrap ((c1 : Int) + (b1 : Int)) = (c2 : Int))
    (T5 : Hid (∀ W : World, Calls Try.prog 35 #[.int .u64 b1, .int .i64 17] W fun e w' => e = .returned (.int .u64 (r4 : Nat)) ∧ ∃ k, w' = W.drewN k))
    (e8 : bits .xor .u64 (r4 : Int) (c2 : Int) = (b2 : Int))
    (T6 : Hid (∀ W : World, Calls Try.prog 35 #[.int .u64 c2, .int .i64 32] W fun e w' => e = .returned (.int .u64 (c3 : Nat)) ∧ ∃ k, w' = W.drewN k)) :
    Calls Try.prog 16 #[.agg #[.int .u64 a, .int .u64 b, .int .u64 c, .int .u64 d]] w (GivesV w ⟨a3, b2, c3, d2⟩) := by
  go_enter Try.func16, Try.ntmps16
  go_wp2
  have H := Lib.hid (R4.new w a b c d)
  generalize ((w.alloc (Obj.cells #[Value.int IntKind.u64 a, Value.int IntKind.u64 b, Value.int IntKind.u64 c, Value.int IntKind.u64 d] 26)).alloc (Obj.cells #[Value.int IntKind.u64 0, Value.int IntKind.u64 0, Value.int IntKind.u64 0, Value.int IntKind.u64 0] 26)) = W0 at *
  generalize w.heap.size = g at *
  have q0 := H.out.h0.c0
  have q1 := H.out.h0.c1
  have q2 := H.out.h0.c2
  have q3 := H.out.h0.c3
  have z0 := H.out.h1.c0
  have z1 := H.out.h1.c1
  have z2 := H.out.h1.c2
  have z3 := H.out.h1.c3
  have y0 := H.out.h1.frozen 0
  have y1 := H.out.h1.frozen 1
  have y2 := H.out.h1.frozen 2
  have y3 := H.out.h1.frozen 3
  go_quiet (fail)
  go_wp2_with (first
    | (go_at_call 35; have _ := k5; refine (T6.out _).mono ?_; rintro e X ⟨rfl, k6, rfl⟩)
    | (go_at_call 35; have _ := k4; refine (T5.out _).mono ?_; rintro e X ⟨rfl, k5, rfl⟩)
    | (go_at_call 35; have _ := k3; refine (T4.out _).mono ?_; rintro e X ⟨rfl, k4, rfl⟩)
    | (go_at_call 35; have _ := k2; refine (T3.out _).mono ?_; rintro e X ⟨rfl, k3, rfl⟩)
    | (go_at_call 35; have _ := k1; refine (T2.out _).mono ?_; rintro e X ⟨rfl, k2, rfl⟩)
    | (go_at_call 35; refine (T1.out _).mono ?_; rintro e X ⟨rfl, k1, rfl⟩))
  exact bodyPost_ret (results_arr Try.results16 _ _ (g + 1) rfl _ ((H.out.drewN (nq + k1 + k2 + k3 + k4 + k5 + k6)).give a3 b2 c3 d2).1.load) rfl ⟨rfl, ((H.out.drewN (nq + k1 + k2 + k3 + k4 + k5 + k6)).give a3 b2 c3 d2).2⟩
theorem refRound_any (v : V) (h : v.ok) (w : World) : Calls Try.prog 16 #[v.val] w (GivesV w (rnd v)) := by
  obtain ⟨a, b, c, d⟩ := v
  obtain ⟨ha, hb, hc, hd⟩ := h
  simp only at ha hb hc hd
  have l1 := plus_lt a b
  have l2 := xor_lt64 (rot_lt b 13 hb) l1
  have l3 := rot_lt _ 32 l1
  have l4 := plus_lt c d
  have l5 := xor_lt64 (rot_lt d 16 hd) l4
  have l6 := plus_lt (rot (plus a b) 32) (rot d 16 ^^^ plus c d)
  have l7 := plus_lt (plus c d) (rot b 13 ^^^ plus a b)
  exact refRound_with a b c d _ _ _ _ _ _ _ _ _ _ _ _ _ _ w (plus_of a b) (fun W => turn_any b 13 W hb (by omega) (by omega)) (u64_xor_nat _ _ (rot_lt b 13 hb) l1) (fun W => turn_any _ 32 W l1 (by omega) (by omega)) (plus_of c d)
    (fun W => turn_any d 16 W hd (by omega) (by omega)) (u64_xor_nat _ _ (rot_lt d 16 hd) l4) (plus_of _ _) (fun W => turn_any _ 21 W l5 (by omega) (by omega)) (u64_xor_nat _ _ (rot_lt _ 21 l5) l6) (plus_of _ _)
    (fun W => turn_any _ 17 W l2 (by omega) (by omega)) (u64_xor_nat _ _ (rot_lt _ 17 l2) l7) (fun W => turn_any _ 32 W l7 (by omega) (by omega))
end Go.Proofs.Ytpibmccofjpelaa
