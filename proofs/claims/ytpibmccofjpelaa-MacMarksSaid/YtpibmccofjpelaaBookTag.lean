/- A book with ideal tags gives a message its tag. No statement is proved here. -/
import Derived.Test.YtpibmccofjpelaaBookNew
import Derived.Deep.RegionHeld3
namespace Go.Proofs.Ytpibmccofjpelaa
open Go.RowKit Go.Maps
set_option linter.unusedVariables false

theorem method_ideal (W : World) : (method 217 82 (.agg #[]) "bastion/mac.tagOf").run Try.prog W = .ok (65, .agg #[]) W := by kernel_rfl
set_option maxRecDepth 20000 in
set_option maxHeartbeats 1000000 in
theorem tag_old (base gk gl : Nat) (sv : Value) (m1 m2 : Nat) (ms : List Mark) (A : Option Addr) (n c : Nat) (xs : List Nat) (w : World) (h : BSt w base gk gl sv m1 m2 ms) (hx : Row w w.heap.size A n c xs) (h0 : 0 < findM ms xs) (hN : findM ms xs < 1000000) :
    Calls Try.prog 25 #[.pointer (some ⟨gk, 0, none⟩), .slice A n c] w fun e w' => e = .returned (.int .u64 (findM ms xs : Nat)) ∧ Below w.heap.size w w' := by
  have FI := Lib.hid (find_any base gl sv m1 m2 ms A n c xs _ w h.ls hx)
  have TG := Lib.hid (fun W => tagOf_ideal A n c (findM ms xs) hN W)
  have md := method_ideal
  have c0 := h.c0
  have c1 := h.c1
  clear h hx
  generalize findM ms xs = N at *
  go_enter Try.func25, Try.ntmps25
  go_wp2_with (first
    | (go_at_call 40; refine FI.out.mono ?_; rintro e X1 ⟨rfl, k, rfl⟩)
    | (go_at_call 65; refine (TG.out _).mono ?_; rintro e X2 ⟨rfl, hb⟩)
    | fail)
  go_ret
  exact ⟨rfl, (below_drewN (Below.refl _ _)).trans hb⟩
theorem BSt.apart {V : World} {base gk gl : Nat} {sv : Value} {m1 m2 : Nat} {ms : List Mark} (h : BSt V base gk gl sv m1 m2 ms) : ¬ (gk = gl ∨ gk = m1 ∨ gk = m2 ∨ sv.ownBlock = some gk) := by
  have hm : ∀ kt b n f, NumMap V kt b n f → ∀ cs t q, V.heap[b]? ≠ some (.cells cs t q) := fun kt b n f hN cs t q e => by
    obtain ⟨D, ⟨es, clock, hb, _⟩, _⟩ := hN
    rw [hb] at e; cases e
  rintro (e | e | e | e)
  · have h1 := h.blk
    rw [e, h.ls.blk] at h1
    simp at h1
  · have h1 := h.blk; rw [e] at h1; exact hm _ _ _ _ h.ls.n1 _ _ _ h1
  · have h1 := h.blk; rw [e] at h1; exact hm _ _ _ _ h.ls.n2 _ _ _ h1
  · rcases h.ls.row.2 with ⟨hv, _⟩ | ⟨g2, cap, cur, hv, _, hg2, _⟩
    · rw [hv] at e; cases e
    · rw [hv] at e
      injection e with e
      have e' : g2 = gk := e
      subst e'
      rw [h.blk] at hg2
      simp at hg2
theorem Only.below {w w1 w2 : World} {S : Nat → Prop} (hb : Below w.heap.size w w1) (h : Only w1 w2 S) : Only w w2 S :=
  ⟨h.os.trans hb.os, h.tape.trans hb.tape, h.output.trans hb.output, Nat.le_trans hb.size h.size, fun i hi hn => (h.block i (Nat.lt_of_lt_of_le hi hb.size) hn).trans (hb.block i hi)⟩
set_option maxRecDepth 20000 in
set_option maxHeartbeats 2000000 in
theorem tag_new (base gk gl : Nat) (sv : Value) (m1 m2 : Nat) (ms : List Mark) (A : Option Addr) (n c : Nat) (xs : List Nat) (w : World) (h : BSt w base gk gl sv m1 m2 ms) (hx : Row w w.heap.size A n c xs) (h0 : findM ms xs = 0) (h1 : firstM ms (ms.length + 1) = 0) (hb : base ≤ w.heap.size) (hfew : ms.length + 1 < 10000) :
    Calls Try.prog 25 #[.pointer (some ⟨gk, 0, none⟩), .slice A n c] w fun e w' => e = .returned (.int .u64 ((ms.length + 1 : Nat) : Int)) ∧ ∃ sv', BSt w' base gk gl sv' m1 m2 (ms ++ [(xs, ms.length + 1)]) ∧ Only w w' (fun i => i = gl ∨ i = m1 ∨ i = m2 ∨ sv.ownBlock = some i) := by
  have FI := Lib.hid (find_any base gl sv m1 m2 ms A n c xs _ w h.ls hx)
  rw [h0] at FI
  have HH := Lib.hid h
  have HX := Lib.hid hx
  have H0 := Lib.hid h0
  have H1 := Lib.hid h1
  have c0 := h.c0
  have c1 := h.c1
  have md := method_ideal
  have LE : Hid (∀ W, MSt W base gl sv m1 m2 ms → Calls Try.prog 42 #[.pointer (some ⟨gl, 0, none⟩)] W fun e w' => e = .returned (.int .i64 (ms.length : Nat)) ∧ w' = W) := fun W hW => len_any base gl sv m1 m2 ms W hW
  have TG : Hid (∀ W, Calls Try.prog 65 #[.agg #[], .slice A n c, .int .i64 ((ms.length : Int) + 1)] W fun e w' => e = .returned (.tuple #[.int .u64 ((ms.length : Int) + 1), .bool true]) ∧ Below W.heap.size W w') := fun W => by
    have := tagOf_ideal A n c (ms.length + 1) (by omega) W
    rw [decide_eq_true (by omega), show ((ms.length + 1 : Nat) : Int) = (ms.length : Int) + 1 by simp] at this
    exact this
  clear h hx h0 h1
  go_enter Try.func25, Try.ntmps25
  go_wp2_with (first
    | (go_at_call 40; refine FI.out.mono ?_; rintro e X1 ⟨rfl, k, rfl⟩)
    | fail)
  have H2 := Lib.hid ((HH.out.drewN k).drewN 1)
  have t0 : (w.drewN k).drew.cell? ⟨gk, 0, none⟩ = some (.iface 82 (.agg #[])) := c0
  have t1 : (w.drewN k).drew.cell? ⟨gk, 1, none⟩ = some (.pointer (some ⟨gl, 0, none⟩)) := c1
  have wl : IntKind.i64.wrap ((ms.length : Int) + 1) = (ms.length : Int) + 1 := IntWalk.i64_in _ (by omega)
  go_region_held3 (fun V => V.cell? ⟨gk, 0, none⟩ = some (.iface 82 (.agg #[])) ∧ V.cell? ⟨gk, 1, none⟩ = some (.pointer (some ⟨gl, 0, none⟩)))
    (first | exact ⟨t0, t1⟩ | exact ⟨H3.out.c0, H3.out.c1⟩)
    (first
    | (go_at_call 42; refine (LE.out _ H2.out.ls).mono ?_; rintro e X2 ⟨rfl, rfl⟩)
    | (go_at_call 65; refine (TG.out _).mono ?_; rintro e X3 ⟨rfl, hb3⟩; have H3 := Lib.hid (H2.out.below hb3); have HB3 := Lib.hid hb3; clear hb3))
  rename_i hheld
  clear hheld t0 t1 c0 c1 FI TG LE
  have hc : ((ms.length + 1 : Nat) : Int) = (ms.length : Int) + 1 := by simp
  have HC := Lib.hid hc
  have hbw : Below w.heap.size w X3 := ⟨HB3.out.os, HB3.out.tape, HB3.out.output, HB3.out.size, HB3.out.block⟩
  have HBW := Lib.hid hbw
  have FR : Hid (Calls Try.prog 43 #[.pointer (some ⟨gl, 0, none⟩), .int .u64 ((ms.length : Int) + 1)] X3 fun e w' => e = .returned (.int .i64 0) ∧ w' = X3) := by
    have := first_any base gl sv m1 m2 ms (ms.length + 1) (by omega) X3 H3.out.ls
    rw [H1.out, hc] at this
    exact this
  have AD : Hid (Calls Try.prog 45 #[.pointer (some ⟨gl, 0, none⟩), .slice A n c, .int .u64 ((ms.length : Int) + 1)] X3 fun e w' => e = .returned (.tuple #[]) ∧ ∃ sv', MSt w' base gl sv' m1 m2 (ms ++ [(xs, ms.length + 1)]) ∧ Only X3 w' (fun i => i = gl ∨ i = m1 ∨ i = m2 ∨ sv.ownBlock = some i)) := by
    have := add_any base gl sv m1 m2 ms A n c xs (ms.length + 1) X3 H3.out.ls ((HX.out.below hbw).wider hbw.size) (by omega) H0.out (Nat.le_trans hb hbw.size) hfew
    rw [hc] at this
    exact this
  have u1 := H3.out.c1
  clear hc hbw md wl HB3 H2
  go_wp2_with (first
    | (go_at_call 43; refine FR.out.mono ?_; rintro e X4 ⟨rfl, rfl⟩)
    | (go_at_call 45; refine AD.out.mono ?_; rintro e X5 ⟨rfl, sv', hM, hO⟩)
    | fail)
  go_ret
  refine ⟨ret_int HC.out.symm, sv', ⟨(hO.block gk H3.out.lt H3.out.apart).trans H3.out.blk, hM⟩, Only.below HBW.out hO⟩
end Go.Proofs.Ytpibmccofjpelaa
