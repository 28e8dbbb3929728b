/- The law SipRounds returns true whatever comes in, and nothing that was there is changed. -/
import Derived.Test.YtpibmccofjpelaaUnlike
import Derived.Deep.RegionHeld3
namespace Go.Proofs.Ytpibmccofjpelaa
open Go.RowKit
set_option linter.unusedVariables false
attribute [local irreducible] rnd

/-- Two blocks are there, and nothing that was there ahead of the call is changed. -/
def SB (w W : World) : Prop := w.heap.size + 1 < W.heap.size ∧ Below w.heap.size w W
theorem cell_below {W W' : World} {p : Addr} {v : Value} (h : W.cell? p = some v) (hb : Below W.heap.size W W') (hp : p.block < W.heap.size) : W'.cell? p = some v := (hb.cell hp).trans h
theorem SB.next {w W W' : World} (h : SB w W) (hb : Below W.heap.size W W') : SB w W' := ⟨Nat.lt_of_lt_of_le h.1 hb.size, h.2.trans (hb.mono h.2.size)⟩
theorem s_keep {w W W' : World} {ua ub uc ud va vb vc vd : Nat} (h : W.cell? ⟨w.heap.size, 0, none⟩ = some (.int .u64 (ua : Int)) ∧ W.cell? ⟨w.heap.size, 1, none⟩ = some (.int .u64 (ub : Int)) ∧ W.cell? ⟨w.heap.size, 2, none⟩ = some (.int .u64 (uc : Int)) ∧ W.cell? ⟨w.heap.size, 3, none⟩ = some (.int .u64 (ud : Int)) ∧ W.cell? ⟨w.heap.size + 1, 0, none⟩ = some (.int .u64 (va : Int)) ∧ W.cell? ⟨w.heap.size + 1, 1, none⟩ = some (.int .u64 (vb : Int)) ∧ W.cell? ⟨w.heap.size + 1, 2, none⟩ = some (.int .u64 (vc : Int)) ∧ W.cell? ⟨w.heap.size + 1, 3, none⟩ = some (.int .u64 (vd : Int)) ∧ SB w W) (hb : Below W.heap.size W W') :
    W'.cell? ⟨w.heap.size, 0, none⟩ = some (.int .u64 (ua : Int)) ∧ W'.cell? ⟨w.heap.size, 1, none⟩ = some (.int .u64 (ub : Int)) ∧ W'.cell? ⟨w.heap.size, 2, none⟩ = some (.int .u64 (uc : Int)) ∧ W'.cell? ⟨w.heap.size, 3, none⟩ = some (.int .u64 (ud : Int)) ∧ W'.cell? ⟨w.heap.size + 1, 0, none⟩ = some (.int .u64 (va : Int)) ∧ W'.cell? ⟨w.heap.size + 1, 1, none⟩ = some (.int .u64 (vb : Int)) ∧ W'.cell? ⟨w.heap.size + 1, 2, none⟩ = some (.int .u64 (vc : Int)) ∧ W'.cell? ⟨w.heap.size + 1, 3, none⟩ = some (.int .u64 (vd : Int)) ∧ SB w W' := by
  obtain ⟨h0, h1, h2, h3, h4, h5, h6, h7, h8⟩ := h
  have l0 : w.heap.size < W.heap.size := Nat.lt_of_succ_lt h8.1
  exact ⟨cell_below h0 hb l0, cell_below h1 hb l0, cell_below h2 hb l0, cell_below h3 hb l0, cell_below h4 hb h8.1, cell_below h5 hb h8.1, cell_below h6 hb h8.1, cell_below h7 hb h8.1, h8.next hb⟩
theorem s_drew {w W : World} {ua ub uc ud va vb vc vd : Nat} (h : W.cell? ⟨w.heap.size, 0, none⟩ = some (.int .u64 (ua : Int)) ∧ W.cell? ⟨w.heap.size, 1, none⟩ = some (.int .u64 (ub : Int)) ∧ W.cell? ⟨w.heap.size, 2, none⟩ = some (.int .u64 (uc : Int)) ∧ W.cell? ⟨w.heap.size, 3, none⟩ = some (.int .u64 (ud : Int)) ∧ W.cell? ⟨w.heap.size + 1, 0, none⟩ = some (.int .u64 (va : Int)) ∧ W.cell? ⟨w.heap.size + 1, 1, none⟩ = some (.int .u64 (vb : Int)) ∧ W.cell? ⟨w.heap.size + 1, 2, none⟩ = some (.int .u64 (vc : Int)) ∧ W.cell? ⟨w.heap.size + 1, 3, none⟩ = some (.int .u64 (vd : Int)) ∧ SB w W) :
    W.drew.cell? ⟨w.heap.size, 0, none⟩ = some (.int .u64 (ua : Int)) ∧ W.drew.cell? ⟨w.heap.size, 1, none⟩ = some (.int .u64 (ub : Int)) ∧ W.drew.cell? ⟨w.heap.size, 2, none⟩ = some (.int .u64 (uc : Int)) ∧ W.drew.cell? ⟨w.heap.size, 3, none⟩ = some (.int .u64 (ud : Int)) ∧ W.drew.cell? ⟨w.heap.size + 1, 0, none⟩ = some (.int .u64 (va : Int)) ∧ W.drew.cell? ⟨w.heap.size + 1, 1, none⟩ = some (.int .u64 (vb : Int)) ∧ W.drew.cell? ⟨w.heap.size + 1, 2, none⟩ = some (.int .u64 (vc : Int)) ∧ W.drew.cell? ⟨w.heap.size + 1, 3, none⟩ = some (.int .u64 (vd : Int)) ∧ SB w W.drew := by
  obtain ⟨h0, h1, h2, h3, h4, h5, h6, h7, h8⟩ := h
  exact ⟨h0, h1, h2, h3, h4, h5, h6, h7, h8.1, below_drewN (k := 1) h8.2⟩
theorem s_first (w : World) (ua ub uc ud va vb vc vd : Nat) : ∀ W, W = ((w.alloc (.cells #[.int .u64 (ua : Int), .int .u64 (ub : Int), .int .u64 (uc : Int), .int .u64 (ud : Int)] 26)).alloc (.cells #[.int .u64 (va : Int), .int .u64 (vb : Int), .int .u64 (vc : Int), .int .u64 (vd : Int)] 26)) →
    W.cell? ⟨w.heap.size, 0, none⟩ = some (.int .u64 (ua : Int)) ∧ W.cell? ⟨w.heap.size, 1, none⟩ = some (.int .u64 (ub : Int)) ∧ W.cell? ⟨w.heap.size, 2, none⟩ = some (.int .u64 (uc : Int)) ∧ W.cell? ⟨w.heap.size, 3, none⟩ = some (.int .u64 (ud : Int)) ∧ W.cell? ⟨w.heap.size + 1, 0, none⟩ = some (.int .u64 (va : Int)) ∧ W.cell? ⟨w.heap.size + 1, 1, none⟩ = some (.int .u64 (vb : Int)) ∧ W.cell? ⟨w.heap.size + 1, 2, none⟩ = some (.int .u64 (vc : Int)) ∧ W.cell? ⟨w.heap.size + 1, 3, none⟩ = some (.int .u64 (vd : Int)) ∧ SB w W := by
  rintro W rfl
  have h1 := (Blk4.new w ua ub uc ud).alloc (.cells #[.int .u64 (va : Int), .int .u64 (vb : Int), .int .u64 (vc : Int), .int .u64 (vd : Int)] 26)
  have h2 := Blk4.new (w.alloc (.cells #[.int .u64 (ua : Int), .int .u64 (ub : Int), .int .u64 (uc : Int), .int .u64 (ud : Int)] 26)) va vb vc vd
  rw [show (w.alloc (.cells #[.int .u64 (ua : Int), .int .u64 (ub : Int), .int .u64 (uc : Int), .int .u64 (ud : Int)] 26)).heap.size = w.heap.size + 1 by simp] at h2
  exact ⟨h1.c0, h1.c1, h1.c2, h1.c3, h2.c0, h2.c1, h2.c2, h2.c3, by simp, ((Below.refl _ _).alloc (Nat.le_refl _) _).alloc (by simp) _⟩
theorem zero_call (W : World) : Calls Try.prog 15 #[.agg #[.int .u64 0, .int .u64 0, .int .u64 0, .int .u64 0]] W fun e w' => e = .returned (.agg #[.int .u64 0, .int .u64 0, .int .u64 0, .int .u64 0]) ∧ Below W.heap.size W w' :=
  round_lit (a := 0) (b := 0) (c := 0) (d := 0) (a' := 0) (b' := 0) (c' := 0) (d' := 0) ⟨by decide, by decide, by decide, by decide⟩ rnd_zero W
theorem zero_eql (W : World) : (binOp .eql 26 (.agg #[.int .u64 0, .int .u64 0, .int .u64 0, .int .u64 0]) (.agg #[.int .u64 0, .int .u64 0, .int .u64 0, .int .u64 0])).run Try.prog W = .ok (.bool true) W := eql_four ⟨0, 0, 0, 0⟩ ⟨0, 0, 0, 0⟩ W
set_option maxRecDepth 10000 in
set_option maxHeartbeats 1000000 in
theorem rounds_walk (ua ub uc ud va vb vc vd : Nat) (hu : (V.mk ua ub uc ud).ok) (hv : (V.mk va vb vc vd).ok) (w : World) :
    Calls Try.prog 5 #[.agg #[.int .u64 ua, .int .u64 ub, .int .u64 uc, .int .u64 ud], .agg #[.int .u64 va, .int .u64 vb, .int .u64 vc, .int .u64 vd]] w fun e w' => e = .returned (.bool true) ∧ Below w.heap.size w w' := by
  have RI : decide (rnd (V.mk ua ub uc ud) = rnd (V.mk va vb vc vd)) = decide (V.mk ua ub uc ud = V.mk va vb vc vd) := by
    rw [Bool.eq_iff_iff, decide_eq_true_eq, decide_eq_true_eq]
    exact ⟨rnd_inj _ _ hu hv, fun e => by rw [e]⟩
  generalize hru : rnd (V.mk ua ub uc ud) = ru at RI
  generalize hrv : rnd (V.mk va vb vc vd) = rv at RI
  obtain ⟨ra, rb, rc, rd⟩ := ru
  obtain ⟨sa, sb, sc, sd⟩ := rv
  have q1 := fun W => eql_lit ra rb rc rd sa sb sc sd _ RI W
  have q2 := fun W => eql_lit ua ub uc ud va vb vc vd _ rfl W
  have q3 := zero_eql
  have f1 : ∀ b : Bool, (b == b) = true := fun b => by simp
  have C1 := Lib.hid (fun W => round_lit hu hru W)
  have C2 := Lib.hid (fun W => round_lit hv hrv W)
  have C3 := Lib.hid zero_call
  generalize decide (V.mk ua ub uc ud = V.mk va vb vc vd) = B at *
  clear RI hu hv hru hrv
  have S0 := Lib.hid (s_first w ua ub uc ud va vb vc vd _ rfl)
  have SP := Lib.hid (fun W => speaks_any W)
  go_enter Try.func5, Try.ntmps5
  go_wp2_with (go_at_call 12; refine (SP.out _).mono ?_; rintro e X1 ⟨rfl, hb1⟩)
  have s1 := s_drew (s_keep S0.out hb1)
  clear hb1
  go_region_held3 (fun W => W.cell? ⟨w.heap.size, 0, none⟩ = some (.int .u64 (ua : Int)) ∧ W.cell? ⟨w.heap.size, 1, none⟩ = some (.int .u64 (ub : Int)) ∧ W.cell? ⟨w.heap.size, 2, none⟩ = some (.int .u64 (uc : Int)) ∧ W.cell? ⟨w.heap.size, 3, none⟩ = some (.int .u64 (ud : Int)) ∧ W.cell? ⟨w.heap.size + 1, 0, none⟩ = some (.int .u64 (va : Int)) ∧ W.cell? ⟨w.heap.size + 1, 1, none⟩ = some (.int .u64 (vb : Int)) ∧ W.cell? ⟨w.heap.size + 1, 2, none⟩ = some (.int .u64 (vc : Int)) ∧ W.cell? ⟨w.heap.size + 1, 3, none⟩ = some (.int .u64 (vd : Int)) ∧ SB w W)
    (first | exact s1 | exact s_keep (by assumption) hb)
    (first
    | (go_at_call_of 15 (Value.int IntKind.u64 (ua : Int)); refine (C1.out _).mono ?_; rintro e X ⟨rfl, hb⟩)
    | (go_at_call_of 15 (Value.int IntKind.u64 (va : Int)); refine (C2.out _).mono ?_; rintro e X ⟨rfl, hb⟩)
    | (go_at_call_of 15 (Value.int IntKind.u64 0); refine (C3.out _).mono ?_; rintro e X ⟨rfl, hb⟩))
  all_goals
    rename_i hfin
    have HF := Lib.hid hfin
    clear hfin
    go_wp2
    go_ret
    exact ⟨rfl, HF.out.2.2.2.2.2.2.2.2.2⟩
end Go.Proofs.Ytpibmccofjpelaa
