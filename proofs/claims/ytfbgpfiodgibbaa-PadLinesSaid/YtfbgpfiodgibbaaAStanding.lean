/- The program's table of the bytes that stand for others. No statement is proved here. -/
import Derived.Test.YtfbgpfiodgibbaaAMix
namespace Go.Proofs.Ytfbgpfiodgibbaa.A
open Go.RowKit
set_option linter.unusedVariables false

def noughts (n : Nat) : List Nat := List.replicate n 0
theorem zero46 (w : World) : (zeroValue 74).run Try.prog w = .ok (.agg (arrV (noughts 256))) w := by kernel_rfl
theorem zero60 (w : World) : (zeroValue 86).run Try.prog w = .ok (.agg (arrV (noughts 176))) w := by kernel_rfl
theorem zero35 (w : World) : (zeroValue 76).run Try.prog w = .ok (.agg (arrV (noughts 176))) w := by kernel_rfl
theorem size46 : (Try.prog.info? 74).map (·.size) = some 256 := by kernel_rfl
theorem size60 : (Try.prog.info? 86).map (·.size) = some 176 := by kernel_rfl
theorem size35 : (Try.prog.info? 76).map (·.size) = some 176 := by kernel_rfl
theorem noughts_length (n : Nat) : (noughts n).length = n := by simp [noughts]
theorem noughts_lt (n : Nat) : ∀ x ∈ noughts n, x < 256 := by
  intro x hx; unfold noughts at hx; rw [List.eq_of_mem_replicate hx]; omega

/-- The table, its first k bytes made. -/
def tbTo : Nat → List Nat
  | 0 => noughts 256
  | k + 1 => (tbTo k).set k (sub k)
theorem tbTo_length (k : Nat) : (tbTo k).length = 256 := by
  induction k with
  | zero => exact noughts_length 256
  | succ k ih => simp [tbTo, ih]
theorem tbTo_lt (k : Nat) : ∀ x ∈ tbTo k, x < 256 := by
  induction k with
  | zero => exact noughts_lt 256
  | succ k ih => exact set_lt _ ih _ _ (sub_lt k)
theorem getD_set (xs : List Nat) (i j b : Nat) (hi : i < xs.length) : (xs.set i b).getD j 0 = if i = j then b else xs.getD j 0 := by
  simp only [List.getD_eq_getElem?_getD, List.getElem?_set]
  by_cases e : i = j
  · subst e; simp [hi]
  · simp [e]
theorem tbTo_getD (k j : Nat) (hk : k ≤ 256) (hj : j < k) : (tbTo k).getD j 0 = sub j := by
  induction k with
  | zero => omega
  | succ k ih =>
    rw [tbTo, getD_set _ _ _ _ (by rw [tbTo_length]; omega)]
    by_cases e : k = j
    · subst e; simp
    · rw [if_neg e]; exact ih (by omega) (by omega)
def BRel (w : World) (i : Value) (wr : World) : Prop :=
  ∃ k, k ≤ 256 ∧ i = .int .i64 (k : Nat) ∧ Blk wr w.heap.size 74 (noughts 256) ∧ Blk wr (w.heap.size + 1) 74 (tbTo k) ∧ Below w.heap.size w wr
theorem table_start (w : World) : BRel w (.int .i64 0) ((w.alloc (.cells (arrV (noughts 256)) 74)).alloc (.cells (arrV (noughts 256)) 74)) := by
  have e1 : (w.alloc (.cells (arrV (noughts 256)) 74)).heap.size = w.heap.size + 1 := by simp
  have h1 := Blk.new (w.alloc (.cells (arrV (noughts 256)) 74)) 74 (noughts 256)
  rw [e1] at h1
  exact ⟨0, Nat.zero_le _, rfl, (Blk.new w 74 _).alloc _, h1, ((Below.refl _ _).alloc (Nat.le_refl _) _).alloc (by simp) _⟩
theorem table_step {w wr : World} {k : Nat} (h0 : Blk wr w.heap.size 74 (noughts 256)) (h1 : Blk wr (w.heap.size + 1) 74 (tbTo k)) (hb : Below w.heap.size w wr) (hk : k < 256) :
    BRel w (.int .i64 ((k : Int) + 1)) (wr.setCell ⟨w.heap.size + 1, k, none⟩ (.int .u8 (sub k : Nat))) :=
  ⟨k + 1, hk, by simp, h0.far (by simp) _, h1.set_ k (sub k), hb.setCell (by simp) _⟩
attribute [irreducible] tbTo noughts

set_option maxRecDepth 100000 in
set_option maxHeartbeats 1000000 in
theorem standing_any (w : World) : Calls Try.prog 35 #[] w (GivesArr w (tbTo 256)) := by
  have z46 := zero46
  go_enter Try.func35, Try.ntmps35
  go_wp2_with fail
  clear z46
  go_loopw [3] (BRel w) (fun i _ => 256 - (intOf i).toNat)
  case atStart => exact table_start w
  case round =>
    obtain ⟨k, hk, rfl, h0, h1, hb⟩ := hrel
    have H0 := Lib.hid h0
    have H1 := Lib.hid h1
    have Hb := Lib.hid hb
    clear h0 h1 hb
    by_cases hlt : k < 256
    · have c1 := H1.out.cell k (by rw [tbTo_length]; exact hlt)
      have f1 := H1.out.frozen k
      generalize List.getD (tbTo k) k 0 = v at *
      go_wp2_with (go_at_call 44; refine (sub_any k wr hlt).mono ?_; rintro e w' ⟨rfl, rfl⟩)
      go_roundw
      case rel => exact table_step H0.out H1.out Hb.out hlt
      case measure => simp [intOf]; omega
    · have e4 : tbTo k = tbTo 256 := by rw [show k = 256 by omega]
      have H4 : Hid (Blk wr (w.heap.size + 1) 74 (tbTo 256)) := by rw [← e4]; exact H1
      clear e4 H1
      have hl4 := Lib.hid (tbTo_length 256)
      go_wp2_with (first
        | (refine wpList_load_mid rfl 74 _ rfl (w.heap.size + 1) 0 rfl (vals (tbTo 256)) _ (whole_range H4.out hl4.out) Try.underlying74 rfl (by rw [vals_length, hl4.out]; exact size46) ?_)
        | (refine wpList_store_mid rfl 74 _ _ rfl w.heap.size 0 (arrV (tbTo 256)) rfl rfl (by rw [arrV_size, hl4.out]; exact H0.out.there 0 256 (by rw [noughts_length]; omega)) (by rw [arrV_size, hl4.out]; exact size46) (arrV_all _) ?_; rw [arrV_toList]))
      have hs := H0.out.storeAll (ys := tbTo 256) (by rw [hl4.out, noughts_length])
      exact bodyPost_ret (results_arr Try.results35 _ _ w.heap.size rfl _ (hs.loadAll 74 _ hl4.out Try.underlying74 rfl size46)) rfl ⟨rfl, below_setCells Hb.out (Nat.le_refl _) _ _⟩
end Go.Proofs.Ytfbgpfiodgibbaa.A
