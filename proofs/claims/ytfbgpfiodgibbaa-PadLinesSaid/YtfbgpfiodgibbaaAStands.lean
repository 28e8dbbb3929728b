/- The program puts for the bytes of a block those that stand for them, by the table that a cipher keeps. No statement is proved here. -/
import Derived.Test.YtfbgpfiodgibbaaAShift
namespace Go.Proofs.Ytfbgpfiodgibbaa.A
open Go.RowKit
set_option linter.unusedVariables false

/-- The first k bytes of xs, by the table that lies in cs from 176 on. -/
def stTo (cs xs : List Nat) : Nat → List Nat
  | 0 => xs
  | k + 1 => (stTo cs xs k).set k (cs.getD (176 + xs.getD k 0) 0)
theorem stTo_length (cs xs : List Nat) (k : Nat) : (stTo cs xs k).length = xs.length := by
  induction k with
  | zero => rfl
  | succ k ih => simp [stTo, ih]
theorem stTo_lt (cs xs : List Nat) (hc : ∀ x ∈ cs, x < 256) (hx : ∀ x ∈ xs, x < 256) (k : Nat) : ∀ x ∈ stTo cs xs k, x < 256 := by
  induction k with
  | zero => exact hx
  | succ k ih => exact set_lt _ ih _ _ (getD_lt _ hc _)
def TRel (w : World) (gc : Nat) (cs xs : List Nat) (K : Nat) (i : Value) (wr : World) : Prop :=
  ∃ k, k ≤ K ∧ i = .int .i64 (k : Nat) ∧ Blk wr gc 78 cs ∧ Blk wr w.heap.size 23 (stTo cs xs k) ∧ Blk wr (w.heap.size + 1) 23 zeros16 ∧ Below w.heap.size w wr
theorem stand_start {w : World} {gc : Nat} {cs : List Nat} (hc : Blk w gc 78 cs) (xs : List Nat) : TRel w gc cs xs 16 (.int .i64 0) ((w.alloc (.cells (arrV xs) 23)).alloc (.cells (arrV zeros16) 23)) := by
  have e1 : (w.alloc (.cells (arrV xs) 23)).heap.size = w.heap.size + 1 := by simp
  have h1 := Blk.new (w.alloc (.cells (arrV xs) 23)) 23 zeros16
  rw [e1] at h1
  exact ⟨0, Nat.zero_le _, rfl, (hc.alloc _).alloc _, (Blk.new w 23 xs).alloc _, h1, ((Below.refl _ _).alloc (Nat.le_refl _) _).alloc (by simp) _⟩
theorem stand_step {w wr : World} {gc : Nat} {cs xs : List Nat} {k u : Nat} (hgc : gc < w.heap.size) (hc : Blk wr gc 78 cs) (h0 : Blk wr w.heap.size 23 (stTo cs xs k)) (h1 : Blk wr (w.heap.size + 1) 23 zeros16) (hb : Below w.heap.size w wr) (hk : k < 16) (hu : cs.getD (176 + xs.getD k 0) 0 = u) :
    TRel w gc cs xs 16 (.int .i64 ((k : Int) + 1)) (wr.setCell ⟨w.heap.size, k, none⟩ (.int .u8 (u : Int))) := by
  refine ⟨k + 1, hk, by simp, hc.far (by simp; omega) _, ?_, h1.far (by simp) _, hb.setCell (Nat.le_refl _) _⟩
  rw [stTo, hu]
  exact h0.set_ k u
attribute [irreducible] stTo

theorem range_load {w : World} {g : Nat} {t : TypeId} {xs : List Nat} (h : Blk w g t xs) (hl : xs.length = 16) : w.rangeAt g 0 (vals xs) := whole_range h hl

set_option maxHeartbeats 400000 in
theorem stand_any (gc : Nat) (cs xs : List Nat) (w : World) (hc : Blk w gc 78 cs) (hl : cs.length = 432) (hx : xs.length = 16) (bx : ∀ x ∈ xs, x < 256) :
    Calls Try.prog 43 #[.pointer (some ⟨gc, 0, none⟩), .agg (arrV xs)] w (GivesArr w (stTo cs xs 16)) := by
  have HX := Lib.hid hx
  have HL := Lib.hid hl
  have BX := Lib.hid bx
  have HC := Lib.hid hc
  have hgc := hc.lt
  have HR := Lib.hid (whole_range (((Blk.new w 23 xs).alloc (.cells (arrV zeros16) 23))) hx)
  clear hx hl bx hc
  go_enter Try.func43, Try.ntmps43
  go_wp2_with (refine wpList_load_mid rfl 23 _ rfl w.heap.size 0 rfl (vals xs) _ HR.out Try.underlying23 rfl (by rw [vals_length, HX.out]; exact size27) ?_)
  go_loopw [8] (TRel w gc cs xs 16) (fun i _ => 16 - (intOf i).toNat)
  case atStart => exact stand_start HC.out xs
  case round =>
    obtain ⟨k, hk, rfl, h0, h1, h2, hb⟩ := hrel
    have H0 := Lib.hid h0
    have H1 := Lib.hid h1
    have H2 := Lib.hid h2
    have Hb := Lib.hid hb
    clear h0 h1 h2 hb
    by_cases hlt : k < 16
    · have l1 := getD_lt xs BX.out k
      have c0 := H0.out.cell (176 + xs.getD k 0) (by rw [HL.out]; omega)
      have c1 := H1.out.cell k (by rw [stTo_length, HX.out]; omega)
      have f1 := H1.out.frozen k
      generalize hu : cs.getD (176 + xs.getD k 0) 0 = u at *
      have Hu := Lib.hid hu
      clear hu
      generalize List.getD (stTo cs xs k) k 0 = v at *
      have hix := run_index_block xs k hlt HX.out wr
      generalize hy : xs.getD k 0 = y at *
      have Hy := Lib.hid hy
      clear hy
      go_wp2
      go_roundw
      case rel => exact stand_step hgc H0.out H1.out H2.out Hb.out hlt (by rw [Hy.out]; exact Hu.out)
      case measure => simp [intOf]; omega
    · have e4 : stTo cs xs k = stTo cs xs 16 := by rw [show k = 16 by omega]
      have H4 : Hid (Blk wr w.heap.size 23 (stTo cs xs 16)) := by rw [← e4]; exact H1
      clear e4 H1
      have hl4 := Lib.hid ((stTo_length cs xs 16).trans HX.out)
      go_wp2_with (first
        | (refine wpList_load_mid rfl 23 _ rfl w.heap.size 0 rfl (vals (stTo cs xs 16)) _ (whole_range H4.out hl4.out) Try.underlying23 rfl (by rw [vals_length, hl4.out]; exact size27) ?_)
        | (refine wpList_store_mid rfl 23 _ _ rfl (w.heap.size + 1) 0 (arrV (stTo cs xs 16)) rfl rfl (by rw [arrV_size, hl4.out]; exact H2.out.there 0 16 (by simp [zeros16])) (by rw [arrV_size, hl4.out]; exact size27) (arrV_all _) ?_; rw [arrV_toList]))
      have hs := H2.out.storeAll (ys := stTo cs xs 16) (by rw [hl4.out]; rfl)
      exact bodyPost_ret (results_arr Try.results43 _ _ (w.heap.size + 1) rfl _ (hs.loadAll 23 _ hl4.out Try.underlying23 rfl size27)) rfl ⟨rfl, below_setCells Hb.out (by omega) _ _⟩
end Go.Proofs.Ytfbgpfiodgibbaa.A
