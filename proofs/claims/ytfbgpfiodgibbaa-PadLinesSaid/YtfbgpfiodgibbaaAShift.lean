/- The program turns the rows of a block. No statement is proved here. -/
import Derived.Test.YtfbgpfiodgibbaaAAdd
namespace Go.Proofs.Ytfbgpfiodgibbaa.A
open Go.RowKit
set_option linter.unusedVariables false

/-- Where the byte t of a block whose rows are turned comes from. -/
def from_ (t : Nat) : Nat := t % 4 + 4 * ((t / 4 + t % 4) % 4)
/-- The first t bytes of a block whose rows are turned; noughts behind. -/
def shTo (xs : List Nat) : Nat → List Nat
  | 0 => zeros16
  | t + 1 => (shTo xs t).set t (xs.getD (from_ t) 0)
theorem shTo_length (xs : List Nat) (t : Nat) : (shTo xs t).length = 16 := by
  induction t with
  | zero => rfl
  | succ t ih => simp [shTo, ih]
theorem shTo_lt (xs : List Nat) (hx : ∀ x ∈ xs, x < 256) (t : Nat) : ∀ x ∈ shTo xs t, x < 256 := by
  induction t with
  | zero => exact (by decide : ∀ x ∈ zeros16, x < 256)
  | succ t ih => exact set_lt _ ih _ _ (getD_lt _ hx _)

def SRel (w : World) (xs : List Nat) (f : Nat → Nat) (K : Nat) (i : Value) (wr : World) : Prop :=
  ∃ k, k ≤ K ∧ i = .int .i64 (k : Nat) ∧ Blk wr w.heap.size 23 xs ∧ Blk wr (w.heap.size + 1) 23 zeros16 ∧ Blk wr (w.heap.size + 1 + 1) 23 (shTo xs (f k)) ∧ Below w.heap.size w wr
theorem shift_start (w : World) (xs : List Nat) : SRel w xs (fun k => 4 * k) 4 (.int .i64 0) (((w.alloc (.cells (arrV xs) 23)).alloc (.cells (arrV zeros16) 23)).alloc (.cells (arrV zeros16) 23)) := by
  have e1 : (w.alloc (.cells (arrV xs) 23)).heap.size = w.heap.size + 1 := by simp
  have e2 : ((w.alloc (.cells (arrV xs) 23)).alloc (.cells (arrV zeros16) 23)).heap.size = w.heap.size + 1 + 1 := by simp
  have h1 := Blk.new (w.alloc (.cells (arrV xs) 23)) 23 zeros16
  have h2 := Blk.new ((w.alloc (.cells (arrV xs) 23)).alloc (.cells (arrV zeros16) 23)) 23 zeros16
  rw [e1] at h1
  rw [e2] at h2
  exact ⟨0, Nat.zero_le _, rfl, ((Blk.new w 23 xs).alloc _).alloc _, h1.alloc _, h2, (((Below.refl _ _).alloc (Nat.le_refl _) _).alloc (by simp) _).alloc (by simp; omega) _⟩
theorem shift_step {w wr : World} {xs : List Nat} {c r u : Nat} (h0 : Blk wr w.heap.size 23 xs) (h1 : Blk wr (w.heap.size + 1) 23 zeros16) (h2 : Blk wr (w.heap.size + 1 + 1) 23 (shTo xs (4 * c + r))) (hb : Below w.heap.size w wr) (hr : r < 4) (hu : xs.getD (r + 4 * ((c + r) % 4)) 0 = u) :
    SRel w xs (fun k => 4 * c + k) 4 (.int .i64 ((r : Int) + 1)) (wr.setCell ⟨w.heap.size + 1 + 1, r + 4 * c, none⟩ (.int .u8 (u : Int))) := by
  refine ⟨r + 1, hr, by simp, h0.far (by simp; omega) _, h1.far (by simp) _, ?_, hb.setCell (by simp; omega) _⟩
  have := h2.set_ (r + 4 * c) u
  have e : shTo xs (4 * c + (r + 1)) = (shTo xs (4 * c + r)).set (r + 4 * c) u := by
    rw [show 4 * c + (r + 1) = (4 * c + r) + 1 by omega, shTo, show r + 4 * c = 4 * c + r by omega]
    have : from_ (4 * c + r) = r + 4 * ((c + r) % 4) := by
      unfold from_
      rw [show (4 * c + r) % 4 = r by omega, show (4 * c + r) / 4 = c by omega]
    rw [this, hu]
  show Blk _ _ _ (shTo xs (4 * c + (r + 1)))
  rw [e]; exact this
attribute [irreducible] shTo

set_option maxHeartbeats 400000 in
theorem shift_any (xs : List Nat) (w : World) (hx : xs.length = 16) :
    Calls Try.prog 42 #[.agg (arrV xs)] w (GivesArr w (shTo xs 16)) := by
  have HX := Lib.hid hx
  clear hx
  go_enter Try.func42, Try.ntmps42
  go_wp2
  go_loopw [6] (SRel w xs (fun k => 4 * k) 4) (fun i _ => 4 - (intOf i).toNat)
  case atStart => exact shift_start w xs
  case round =>
    obtain ⟨c, hc, rfl, h0, h1, h2, hb⟩ := hrel
    have H0 := Lib.hid h0
    have H1 := Lib.hid h1
    have H2 := Lib.hid h2
    have Hb := Lib.hid hb
    clear h0 h1 h2 hb
    by_cases hlt : c < 4
    · go_wp2
      go_loopw [9] (SRel w xs (fun k => 4 * c + k) 4) (fun i _ => 4 - (intOf i).toNat)
      case atStart => exact ⟨0, by omega, rfl, H0.out, H1.out, H2.out, Hb.out⟩
      case round =>
        clear H0 H1 H2 Hb
        obtain ⟨r, hr, rfl, h0, h1, h2, hb⟩ := hrel
        have H0 := Lib.hid h0
        have H1 := Lib.hid h1
        have H2 := Lib.hid h2
        have Hb := Lib.hid hb
        clear h0 h1 h2 hb
        by_cases hlr : r < 4
        · have c0 := H0.out.cell (r + 4 * ((c + r) % 4)) (by rw [HX.out]; omega)
          have c2 := H2.out.cell (r + 4 * c) (by rw [shTo_length]; omega)
          have f2 := H2.out.frozen (r + 4 * c)
          generalize hu : xs.getD (r + 4 * ((c + r) % 4)) 0 = u at *
          generalize List.getD (shTo xs (4 * c + r)) (r + 4 * c) 0 = v at *
          have Hu := Lib.hid hu
          clear hu
          go_wp2
          go_roundw
          case rel => exact shift_step H0.out H1.out H2.out Hb.out hlr Hu.out
          case measure => simp [intOf]; omega
        · have e4 : 4 * c + r = 4 * (c + 1) := by omega
          have H2' : Hid (Blk wr (w.heap.size + 1 + 1) 23 (shTo xs (4 * (c + 1)))) := by rw [← e4]; exact H2
          clear e4 H2
          go_wp2
          go_roundw
          case rel => exact ⟨c + 1, by omega, by go_num, H0.out, H1.out, H2'.out, Hb.out⟩
          case measure => simp [intOf]; omega
    · have e4 : 4 * c = 16 := by omega
      have H4 : Hid (Blk wr (w.heap.size + 1 + 1) 23 (shTo xs 16)) := by rw [← e4]; exact H2
      clear e4 H2
      have hl4 := Lib.hid (shTo_length xs 16)
      go_wp2_with (first
        | (refine wpList_load_mid rfl 23 _ rfl (w.heap.size + 1 + 1) 0 rfl (vals (shTo xs 16)) _ (whole_range H4.out hl4.out) Try.underlying23 rfl (by rw [vals_length, hl4.out]; exact size27) ?_)
        | (refine wpList_store_mid rfl 23 _ _ rfl (w.heap.size + 1) 0 (arrV (shTo xs 16)) rfl rfl (by rw [arrV_size, hl4.out]; exact H1.out.there 0 16 (by simp [zeros16])) (by rw [arrV_size, hl4.out]; exact size27) (arrV_all _) ?_; rw [arrV_toList]))
      have hs := H1.out.storeAll (ys := shTo xs 16) (by rw [hl4.out]; rfl)
      exact bodyPost_ret (results_arr Try.results42 _ _ (w.heap.size + 1) rfl _ (hs.loadAll 23 _ hl4.out Try.underlying23 rfl size27)) rfl ⟨rfl, below_setCells Hb.out (by omega) _ _⟩
end Go.Proofs.Ytfbgpfiodgibbaa.A
