/- The law of ideal tags. No statement is proved here. -/
import Derived.Test.YtpibmccofjpelaaCallsIn
namespace Go.Proofs.Ytpibmccofjpelaa
open Go.RowKit Go.Maps
set_option linter.unusedVariables false
set_option linter.unusedSimpArgs false

/-- Block g is a call, in a variable of the walk's own. -/
def KB (W : World) (g : Nat) (x : Cl) (v : Value) : Prop := W.heap[g]? = some (.cells #[.bool x.v, .bool x.o, v, .int .u64 (x.t : Nat)] 51 (0, 0))
section
variable {W W' : World} {g : Nat} {x : Cl} {v : Value}
theorem KB.lt (h : KB W g x v) : g < W.heap.size := by
  rcases Nat.lt_or_ge g W.heap.size with h1 | h1
  · exact h1
  · unfold KB at h; rw [Array.getElem?_eq_none h1] at h; cases h
theorem KB.c0 (h : KB W g x v) : W.cell? ⟨g, 0, none⟩ = some (.bool x.v) := by rw [cell_of_row W g 0 _ _ _ h]; rfl
theorem KB.c2 (h : KB W g x v) : W.cell? ⟨g, 2, none⟩ = some v := by rw [cell_of_row W g 2 _ _ _ h]; rfl
theorem KB.c3 (h : KB W g x v) : W.cell? ⟨g, 3, none⟩ = some (.int .u64 (x.t : Nat)) := by rw [cell_of_row W g 3 _ _ _ h]; rfl
theorem KB.below (h : KB W g x v) (hb : Below W.heap.size W W') : KB W' g x v := (hb.block g h.lt).trans h
theorem KB.drewN (h : KB W g x v) (k : Nat) : KB (W.drewN k) g x v := h
theorem KB.new (W : World) (x : Cl) (v : Value) : KB (W.alloc (.cells #[.bool x.v, .bool x.o, v, .int .u64 (x.t : Nat)] 51)) W.heap.size x v := heap_alloc_new W _
end
/-- A list of marks gets longer, and no call's block changes. -/
theorem Only.calls {w w' : World} {base gk gl : Nat} {sv : Value} {m1 m2 : Nat} {ms : List Mark} (h : BSt w base gk gl sv m1 m2 ms) (hO : Only w w' (fun i => i = gl ∨ i = m1 ∨ i = m2 ∨ sv.ownBlock = some i)) {g : Nat} {cs : Array Value} (hg : w.heap[g]? = some (.cells cs 51 (0, 0))) : w'.heap[g]? = some (.cells cs 51 (0, 0)) := by
  have hm : ∀ kt b n f, NumMap w kt b n f → ∀ cs t q, w.heap[b]? ≠ some (.cells cs t q) := fun kt b n f hN cs t q e => by
    obtain ⟨D, ⟨es, clock, hb, _⟩, _⟩ := hN
    rw [hb] at e; cases e
  have hlt : g < w.heap.size := by
    rcases Nat.lt_or_ge g w.heap.size with h1 | h1
    · exact h1
    · rw [Array.getElem?_eq_none h1] at hg; cases hg
  refine (hO.block g hlt ?_).trans hg
  rintro (rfl | rfl | rfl | e)
  · rw [h.ls.blk] at hg; injection hg with hg; injection hg with _ hg; cases hg
  · exact hm _ _ _ _ h.ls.n1 _ _ _ hg
  · exact hm _ _ _ _ h.ls.n2 _ _ _ hg
  · rcases h.ls.row.2 with ⟨hv, _⟩ | ⟨g2, cap, cur, hv, _, hg2, _⟩
    · rw [hv] at e; cases e
    · rw [hv] at e; injection e with e
      have : g2 = g := e
      subst this
      rw [hg2] at hg; injection hg with hg; injection hg with _ hg; cases hg
theorem tag_ideal2 (base gk : Nat) (ms : List Mark) (few : Nat) (A : Option Addr) (n c : Nat) (xs : List Nat) (w : World) (h : Ib w base gk ms few) (hx : Row w w.heap.size A n c xs) (hb : base ≤ w.heap.size) (hf : few < 5000) (g : Nat) (x : Cl) (v : Value) (hk : KB w g x v) :
    Calls Try.prog 25 #[.pointer (some ⟨gk, 0, none⟩), .slice A n c] w fun e w' => ∃ t : Nat, ∃ ms', e = .returned (.int .u64 t) ∧ 0 < t ∧ t ≤ few + 1 ∧ findM ms' xs = t ∧ Ib w' base gk ms' (few + 1) ∧ Below base w w' ∧ KB w' g x v := by
  obtain ⟨⟨gl, sv, m1, m2, hS, b0, b1, b2⟩, hN, hL⟩ := h
  have hle := findM_le ms xs
  by_cases h0 : findM ms xs = 0
  · refine (tag_new base gk gl sv m1 m2 ms A n c xs w hS hx h0 (hN _ (by omega)) hb (by omega)).mono ?_
    rintro e w' ⟨rfl, sv', hS', hO⟩
    refine ⟨ms.length + 1, _, rfl, by omega, by omega, findM_new h0, ⟨⟨gl, sv', m1, m2, hS', b0, b1, b2⟩, hN.snoc xs, by simp; omega⟩, ?_, hO.calls hS hk⟩
    refine ⟨hO.os, hO.tape, hO.output, hO.size, hO.low hb ?_⟩
    rintro i (rfl | rfl | rfl | e)
    · exact b0
    · exact b1
    · exact b2
    · exact own_low hS.ls i e
  · refine (tag_old base gk gl sv m1 m2 ms A n c xs w hS hx (by omega) (by omega)).mono ?_
    rintro e w' ⟨rfl, hB⟩
    exact ⟨findM ms xs, ms, rfl, by omega, by omega, rfl, ⟨⟨gl, sv, m1, m2, hS.below hB, b0, b1, b2⟩, hN, by omega⟩, ⟨hB.os, hB.tape, hB.output, hB.size, fun i hi => hB.block i (by omega)⟩, hk.below hB⟩
/-- A book and a call in a block. -/
structure JSt (w : World) (gk : Nat) (ms : List Mark) (few : Nat) (g : Nat) (x : Cl) (A : Option Addr) (n c : Nat) (W : World) : Prop where
  ib : Ib W w.heap.size gk ms few
  kb : KB W g x (.slice A n c)
  row : Row W w.heap.size A n c x.xs
  bel : Below w.heap.size w W
section
variable {w W W' : World} {gk few g n c : Nat} {ms : List Mark} {x : Cl} {A : Option Addr}
theorem JSt.call (h : JSt w gk ms few g x A n c W) (hb : Below W.heap.size W W') : JSt w gk ms few g x A n c W' :=
  ⟨h.ib.below hb, h.kb.below hb, h.row.below (below_low hb h.bel.size), h.bel.trans (hb.mono h.bel.size)⟩
theorem JSt.drewN (h : JSt w gk ms few g x A n c W) (k : Nat) : JSt w gk ms few g x A n c (W.drewN k) :=
  ⟨h.ib.drewN k, h.kb.drewN k, h.row.drewN k, below_drewN h.bel⟩
theorem JSt.new (hi : Ib W w.heap.size gk ms few) (hr : Row W w.heap.size A n c x.xs) (hb : Below w.heap.size w W) : JSt w gk ms few W.heap.size x A n c (W.alloc (.cells #[.bool x.v, .bool x.o, .slice A n c, .int .u64 (x.t : Nat)] 51)) :=
  have hB := (Below.refl W.heap.size W).alloc (Nat.le_refl _) (.cells #[.bool x.v, .bool x.o, .slice A n c, .int .u64 (x.t : Nat)] 51)
  ⟨hi.below hB, KB.new W x _, hr.below (below_low hB hb.size), hb.alloc hb.size _⟩
theorem JSt.tag (h : JSt w gk ms few g x A n c W) (hf : few < 5000) : Calls Try.prog 25 #[.pointer (some ⟨gk, 0, none⟩), .slice A n c] W fun e w' => ∃ t : Nat, ∃ ms', e = .returned (.int .u64 t) ∧ 0 < t ∧ t ≤ few + 1 ∧ findM ms' x.xs = t ∧ JSt w gk ms' (few + 1) g x A n c w' := by
  refine (tag_ideal2 _ gk ms few A n c x.xs W h.ib (h.row.wider h.bel.size) h.bel.size hf g x _ h.kb).mono ?_
  rintro e w' ⟨t, ms', rfl, h1, h2, h3, h4, h5, h6⟩
  exact ⟨t, ms', rfl, h1, h2, h3, h4, h6, h.row.below h5, h.bel.trans h5⟩
theorem JSt.verify (h : JSt w gk ms few g x A n c W) (hf : few < 5000) (t : Int) : Calls Try.prog 23 #[.pointer (some ⟨gk, 0, none⟩), .slice A n c, .int .u64 t] W fun e w' => e = .returned (.bool (decide (0 < findM ms x.xs ∧ t = (findM ms x.xs : Nat)))) ∧ JSt w gk ms few g x A n c w' := by
  refine (verify_ideal _ gk ms few A n c x.xs t W h.ib (h.row.wider h.bel.size) hf).mono ?_
  rintro e w' ⟨rfl, hb⟩
  exact ⟨rfl, h.call hb⟩
theorem JSt.has (h : JSt w gk ms few g x A n c W) : Calls Try.prog 27 #[.pointer (some ⟨gk, 0, none⟩), .slice A n c] W fun e w' => e = .returned (.bool (decide (0 < findM ms x.xs))) ∧ JSt w gk ms few g x A n c w' := by
  refine (has_ideal _ gk ms few A n c x.xs W h.ib (h.row.wider h.bel.size)).mono ?_
  rintro e w' ⟨rfl, k, rfl⟩
  exact ⟨rfl, h.drewN k⟩
theorem JSt.own (h : JSt w gk ms few g x A n c W) (hf : few < 5000) (t : Nat) (h0 : 0 < t) (ht : findM ms x.xs = t) : Calls Try.prog 23 #[.pointer (some ⟨gk, 0, none⟩), .slice A n c, .int .u64 (t : Nat)] W fun e w' => e = .returned (.bool true) ∧ JSt w gk ms few g x A n c w' := by
  have := h.verify hf (t : Nat)
  rwa [ht, decide_eq_true (show 0 < t ∧ (t : Int) = (t : Nat) from ⟨h0, rfl⟩)] at this
theorem JSt.next (h : JSt w gk ms few g x A n c W) (hf : few < 5000) (t : Nat) (h0 : 0 < t) (ht : findM ms x.xs = t) : Calls Try.prog 23 #[.pointer (some ⟨gk, 0, none⟩), .slice A n c, .int .u64 ((t : Nat) + 1)] W fun e w' => e = .returned (.bool false) ∧ JSt w gk ms few g x A n c w' := by
  have := h.verify hf ((t : Nat) + 1)
  rwa [ht, decide_eq_false (show ¬ (0 < t ∧ (t : Int) + 1 = (t : Nat)) by omega)] at this
end
def IdRel (w : World) (gk n : Nat) (i : Value) (wr : World) : Prop :=
  ∃ (k : Nat) (ms : List Mark), k ≤ n ∧ i = .int .i64 (k : Nat) ∧ Ib wr w.heap.size gk ms k ∧ Below w.heap.size w wr
attribute [local irreducible] findM firstM
set_option maxHeartbeats 2000000 in
set_option maxRecDepth 20000 in
theorem ideal_walk (A : Option Addr) (n c : Nat) (cs : List Cl) (w : World) (h : CallsIn w w.heap.size A n cs) (hn : n ≤ 9223372036854775807) :
    Calls Try.prog 8 #[.slice A n c] w fun e w' => e = .returned (.bool true) ∧ Below w.heap.size w w' := by
  have SP := Lib.hid (fun W => macSpeaks_true W)
  have GR : Hid (∀ W, Below w.heap.size w W → Calls Try.prog 22 #[.slice A n c] W fun e w' => ∃ b : Bool, e = .returned (.bool b) ∧ (b = false → small cs) ∧ Below w.heap.size w w') := fun W hW => by
    have h2 : CallsIn W W.heap.size A n cs := by
      obtain ⟨h1, h2, h3⟩ := h.below hW
      refine ⟨h1, h2, fun a ha hn => ?_⟩
      obtain ⟨g1, g2, g3⟩ := h3 a ha hn
      refine ⟨g1, Nat.lt_of_lt_of_le g2 hW.size, fun j x hx => ?_⟩
      obtain ⟨A', m, c', e0, e1, e2, e3, r, ht⟩ := g3 j x hx
      exact ⟨A', m, c', e0, e1, e2, e3, r.wider hW.size, ht⟩
    refine (great_any A n c cs W h2 hn).mono ?_
    rintro e w' ⟨b, rfl, hb, hB⟩
    exact ⟨b, rfl, hb, hW.trans (hB.mono hW.size)⟩
  have NW := Lib.hid (new_ideal (List.replicate 16 0) w.heap.size)
  have HC := Lib.hid h
  have hlen := h.1
  clear h
  go_enter Try.func8, Try.ntmps8
  go_wp2_with (first
    | (go_at_call 20; refine (SP.out _).mono ?_; rintro e X1 ⟨rfl, hb1⟩)
    | (go_at_call 22; refine (GR.out _ hb1).mono ?_; rintro e X2 ⟨b, rfl, hsm, hb2⟩; replace hsm := Lib.hid hsm; clear hb1; cases b)
    | (have := hb2; go_at_call 21; refine (NW.out _ hb2.size).mono ?_; rintro e X3 ⟨gk, rfl, hI, l0, hb3⟩))
  · have hb := hb2.trans (hb3.mono hb2.size)
    have sm := (hsm.out trivial).1
    clear hb2 hb3 hsm GR NW SP
    go_loopw [26] (IdRel w gk n) (fun i _ => n - (intOf i).toNat)
    case atStart => exact ⟨0, [], by omega, rfl, hI, hb⟩
    case round =>
      clear hI hb
      obtain ⟨k, ms, hk, rfl, hI, hB⟩ := hrel
      by_cases hlt : k < n
      · have g1 : ((k : Int) < (n : Int)) = True := eq_true (by omega)
        have hx : cs[k]? = some cs[k] := List.getElem?_eq_getElem (by omega)
        generalize cs[k] = x at *
        obtain ⟨b, off, rfl, hb, A', m, c', e0, e1, e2, e3, r, ht⟩ := (HC.out.below hB).at_ k x hx
        obtain ⟨xv, xo, xs, xt⟩ := x
        have J0 := Lib.hid (JSt.new (x := ⟨xv, xo, xs, xt⟩) hI r hB)
        cases xv
        · have TG := Lib.hid (J0.out.tag (by omega))
          go_wp2_with (first
            | (go_at_call 25; refine TG.out.mono ?_; rintro e X4 ⟨t, ms', rfl, t0, t1, hf, J1⟩; have c2 := J1.kb.c2; replace hf := Lib.hid hf)
            | (have := J1; go_at_call 23; refine (J1.own (by omega) t t0 hf.out).mono ?_; rintro e X5 ⟨rfl, J2⟩; clear J1 c2; have c2 := J2.kb.c2)
            | (have := J2; go_at_call 23; refine (J2.next (by omega) t t0 hf.out).mono ?_; rintro e X6 ⟨rfl, J3⟩; clear J2 c2))
          go_roundw
          case rel => exact ⟨k + 1, ms', by omega, by go_num, J3.ib, J3.bel⟩
          case measure => simp [intOf]; omega
        · by_cases hF : 0 < findM ms xs
          · have HA := Lib.hid J0.out.has
            rw [decide_eq_true (show 0 < findM ms (Cl.mk true xo xs xt).xs from hF)] at HA
            have VF : Hid (∀ W, JSt w gk ms k wr.heap.size ⟨true, xo, xs, xt⟩ A' m c' W → _) := fun W hW => hW.verify (by omega) (xt : Nat)
            generalize decide (0 < findM ms (Cl.mk true xo xs xt).xs ∧ ((xt : Nat) : Int) = (findM ms (Cl.mk true xo xs xt).xs : Nat)) = bb at VF
            replace hF := Lib.hid hF
            cases bb
            · go_wp2_with (first
                | (go_at_call 27; refine HA.out.mono ?_; rintro e X4 ⟨rfl, J1⟩; have c2 := J1.kb.c2; have c3 := J1.kb.c3)
                | (have := J1; go_at_call 23; refine (VF.out _ J1).mono ?_; rintro e X5 ⟨rfl, J2⟩; clear J1 c2 c3))
              go_roundw
              case rel => exact ⟨k + 1, ms, by omega, by go_num, J2.ib.more (by omega), J2.bel⟩
              case measure => simp [intOf]; omega
            · go_wp2_with (first
                | (go_at_call 27; refine HA.out.mono ?_; rintro e X4 ⟨rfl, J1⟩; have c2 := J1.kb.c2; have c3 := J1.kb.c3)
                | (have := J1; go_at_call 23; refine (VF.out _ J1).mono ?_; rintro e X5 ⟨rfl, J2⟩; clear J1 c2 c3))
              go_roundw
              case rel => exact ⟨k + 1, ms, by omega, by go_num, J2.ib.more (by omega), J2.bel⟩
              case measure => simp [intOf]; omega
          · have HA := Lib.hid J0.out.has
            rw [decide_eq_false (show ¬ 0 < findM ms (Cl.mk true xo xs xt).xs from hF)] at HA
            have VF : Hid (∀ W, JSt w gk ms k wr.heap.size ⟨true, xo, xs, xt⟩ A' m c' W → _) := fun W hW => hW.verify (by omega) (xt : Nat)
            rw [decide_eq_false (show ¬ (0 < findM ms (Cl.mk true xo xs xt).xs ∧ ((xt : Nat) : Int) = (findM ms (Cl.mk true xo xs xt).xs : Nat)) from fun hh => hF hh.1)] at VF
            replace hF := Lib.hid hF
            go_wp2_with (first
              | (go_at_call 27; refine HA.out.mono ?_; rintro e X4 ⟨rfl, J1⟩; have c2 := J1.kb.c2; have c3 := J1.kb.c3)
              | (have := J1; go_at_call 23; refine (VF.out _ J1).mono ?_; rintro e X5 ⟨rfl, J2⟩; clear J1 c2 c3))
            go_roundw
            case rel => exact ⟨k + 1, ms, by omega, by go_num, J2.ib.more (by omega), J2.bel⟩
            case measure => simp [intOf]; omega
      · have hk2 : k = n := by omega
        have g1 : ((k : Int) < (n : Int)) = False := eq_false (by omega)
        have BD := Lib.hid (bad_ideal _ gk ms k wr hI)
        go_wp2_with (first
          | (go_at_call 32; refine BD.out.mono ?_; rintro e X4 ⟨⟨g, rfl⟩, hb⟩))
        go_ret
        exact ⟨rfl, hB.trans (hb.mono hB.size)⟩
  · go_ret
    exact ⟨rfl, hb2⟩
end Go.Proofs.Ytpibmccofjpelaa
