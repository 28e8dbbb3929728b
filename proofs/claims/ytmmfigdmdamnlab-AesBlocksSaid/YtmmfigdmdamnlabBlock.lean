/- The law's reader of a block: 32 digits are the block's 16 bytes. No statement is proved here. -/
import Derived.Test.YtmmfigdmdamnlabEncrypt
import Derived.Test.YtmmfigdmdamnlabUUnhex
namespace Go.Proofs.Ytmmfigdmdamnlab
open Go.RowKit
set_option linter.unusedVariables false

/-- The first k bytes of xs, noughts behind them. -/
def bkTo (xs : List Nat) : Nat → List Nat
  | 0 => zeros16
  | k + 1 => (bkTo xs k).set k (xs.getD k 0)
theorem bkTo_length (xs : List Nat) (k : Nat) : (bkTo xs k).length = 16 := by
  induction k with
  | zero => rfl
  | succ k ih => simp [bkTo, ih]
theorem bkTo_all (xs : List Nat) (h : xs.length = 16) : bkTo xs 16 = xs := by
  match xs, h with
  | [k0, k1, k2, k3, k4, k5, k6, k7, k8, k9, k10, k11, k12, k13, k14, k15], _ => rfl
/-- A row of 16 bytes that is read only. -/
def RowIn (w : World) (b off : Nat) (xs : List Nat) : Prop := ∀ j, j < 16 → w.cell? ⟨b, off + j, none⟩ = some (.int .u8 ((xs.getD j 0 : Nat) : Int))
def KRel (w : World) (b off g : Nat) (xs : List Nat) (i : Value) (wr : World) : Prop :=
  ∃ k, k ≤ 16 ∧ i = .int .i64 (k : Nat) ∧ RowIn wr b off xs ∧ Blk wr w.heap.size 27 zeros16 ∧ Blk wr g 27 (bkTo xs k) ∧ Below w.heap.size w wr
theorem block_step {w wr : World} {b off g k u : Nat} {xs : List Nat} (hw : w.heap.size < g) (hg : b ≠ g) (hk : k < 16) (h0 : RowIn wr b off xs) (h1 : Blk wr w.heap.size 27 zeros16) (h2 : Blk wr g 27 (bkTo xs k)) (hb : Below w.heap.size w wr) (hu : xs.getD k 0 = u) :
    KRel w b off g xs (.int .i64 ((k : Int) + 1)) (wr.setCell ⟨g, k, none⟩ (.int .u8 (u : Int))) := by
  refine ⟨k + 1, hk, by simp, fun j hj => ?_, h1.far (by simp; omega) _, ?_, hb.setCell (by simp; omega) _⟩
  · exact far_cell (h0 j hj) hg
  · rw [bkTo, hu]; exact h2.set_ k u
attribute [irreducible] bkTo

set_option maxHeartbeats 1000000 in
theorem block_any (s : ByteArray) (hs : s.size = 32) (hok : U.okTo s 16) (w : World) : Calls Try.prog 19 #[.string s] w (GivesArr w (U.unL s 16)) := by
  have UH := Lib.hid (fun W => U.refUnhex_any s 16 32 true W hs rfl (by omega) rfl)
  have HOK := Lib.hid hok
  clear hok
  go_enter Try.func19, Try.ntmps19
  go_wp2_with (first | (go_at_call 34; refine (UH.out _).mono ?_; rintro e W2 ⟨hgood, hbad, hbel⟩; obtain ⟨A, c, rfl, hown⟩ := hgood HOK.out; clear hbad hgood))
  obtain ⟨b, off, rfl, hbl, hcs⟩ := hown.row.at_ (by omega)
  have e1 : (w.alloc (.cells (arrV zeros16) 27)).heap.size = w.heap.size + 1 := by simp
  have hgr : w.heap.size + 1 ≤ W2.heap.size := by have := hbel.size; rw [← e1]; exact this
  have H1 := Lib.hid (show Blk W2 w.heap.size 27 zeros16 from (Blk.new w 27 zeros16).below hbel (Blk.new w 27 zeros16).lt)
  have Hb := Lib.hid (show Below w.heap.size w W2 from ((Below.refl _ _).alloc (Nat.le_refl _) _).trans (hbel.mono (by simp)))
  have H0 := Lib.hid (show RowIn W2 b off (U.unL s 16) from hcs)
  have XL := Lib.hid (U.unL_length s 16)
  clear hown hbel hcs
  generalize U.unL s 16 = xs at *
  go_loopw [6] (KRel w b off W2.heap.size xs) (fun i _ => 16 - (intOf i).toNat)
  case atStart => exact ⟨0, by omega, rfl, fun j hj => (World.cell?_alloc_lt W2 _ _ hbl).trans (H0.out j hj), H1.out.alloc _, by unfold bkTo; exact Blk.new W2 27 zeros16, Hb.out.alloc (by omega) _⟩
  case round =>
    clear H0 H1 Hb
    obtain ⟨k, hk, rfl, h0, h1, h2, hb⟩ := hrel
    have H0 := Lib.hid h0
    have H1 := Lib.hid h1
    have H2 := Lib.hid h2
    have Hb := Lib.hid hb
    clear h0 h1 h2 hb
    by_cases hlt : k < 16
    · have c0 := H0.out k hlt
      have c2 := H2.out.cell k (by rw [bkTo_length]; omega)
      have f2 := H2.out.frozen k
      generalize hu : xs.getD k 0 = u at *
      generalize List.getD (bkTo xs k) k 0 = v at *
      have Hu := Lib.hid hu
      clear hu
      have g1 : ((k : Int) < 16) := by omega
      go_wp2
      go_roundw
      case rel => exact block_step (by omega) (by omega) hlt H0.out H1.out H2.out Hb.out Hu.out
      case measure => simp [intOf]; omega
    · have e4 : bkTo xs k = xs := by rw [show k = 16 by omega]; exact bkTo_all xs XL.out
      have H4 : Hid (Blk wr W2.heap.size 27 xs) := by rw [← e4]; exact H2
      clear e4 H2
      go_wp2_with (first
        | (refine wpList_load_mid rfl 27 _ rfl W2.heap.size 0 rfl (vals xs) _ (whole_range H4.out XL.out) Try.underlying27 rfl (by rw [vals_length, XL.out]; exact size27) ?_)
        | (refine wpList_store_mid rfl 27 _ _ rfl w.heap.size 0 (arrV xs) rfl rfl (by rw [arrV_size, XL.out]; exact H1.out.there 0 16 (by simp [zeros16])) (by rw [arrV_size, XL.out]; exact size27) (arrV_all _) ?_; rw [arrV_toList]))
      have hs := H1.out.storeAll (ys := xs) (by rw [XL.out]; rfl)
      exact bodyPost_ret (results_arr Try.results19 _ _ w.heap.size rfl _ (hs.loadAll 27 _ XL.out Try.underlying27 rfl size27)) rfl ⟨rfl, below_setCells Hb.out (by omega) _ _⟩
end Go.Proofs.Ytmmfigdmdamnlab
