/- The program adds two words, and two blocks, byte by byte. No statement is proved here. -/
import Derived.Test.YtfbgpfiodgibbaaAWords
import Derived.BigRegion
namespace Go.Proofs.Ytfbgpfiodgibbaa.A
open Go.RowKit
set_option linter.unusedVariables false

/-- The first k bytes of xs with those of ys added. -/
def addTo (xs ys : List Nat) : Nat → List Nat
  | 0 => xs
  | k + 1 => (addTo xs ys k).set k ((addTo xs ys k).getD k 0 ^^^ ys.getD k 0)
theorem addTo_length (xs ys : List Nat) (k : Nat) : (addTo xs ys k).length = xs.length := by
  induction k with
  | zero => rfl
  | succ k ih => simp [addTo, ih]
theorem getD_lt (xs : List Nat) (h : ∀ x ∈ xs, x < 256) (k : Nat) : xs.getD k 0 < 256 := by
  rw [List.getD_eq_getElem?_getD]
  by_cases hk : k < xs.length
  · rw [List.getElem?_eq_getElem hk]; exact h _ (List.getElem_mem hk)
  · rw [List.getElem?_eq_none (by omega)]; simp
theorem set_lt (xs : List Nat) (h : ∀ x ∈ xs, x < 256) (i d : Nat) (hd : d < 256) : ∀ x ∈ xs.set i d, x < 256 := by
  intro x hx
  rcases List.mem_or_eq_of_mem_set hx with hx | rfl
  · exact h x hx
  · exact hd
theorem addTo_lt (xs ys : List Nat) (hx : ∀ x ∈ xs, x < 256) (hy : ∀ x ∈ ys, x < 256) (k : Nat) : ∀ x ∈ addTo xs ys k, x < 256 := by
  induction k with
  | zero => exact hx
  | succ k ih => exact set_lt _ ih _ _ (Nat.xor_lt_two_pow (n := 8) (getD_lt _ ih _) (getD_lt _ hy _))

def ARel (w : World) (t : TypeId) (xs ys zs : List Nat) (K : Nat) (i : Value) (wr : World) : Prop :=
  ∃ k, k ≤ K ∧ i = .int .i64 (k : Nat) ∧ Blk wr w.heap.size t (addTo xs ys k) ∧ Blk wr (w.heap.size + 1) t ys ∧ Blk wr (w.heap.size + 1 + 1) t zs ∧ Below w.heap.size w wr

theorem add_step {w wr : World} {t : TypeId} {xs ys zs : List Nat} {K k : Nat} (hx : ∀ x ∈ xs, x < 256) (hy : ∀ x ∈ ys, x < 256) (h0 : Blk wr w.heap.size t (addTo xs ys k)) (h1 : Blk wr (w.heap.size + 1) t ys) (h2 : Blk wr (w.heap.size + 1 + 1) t zs) (hb : Below w.heap.size w wr) (hk : k < K) {u v : Nat}
    (hu : (addTo xs ys k).getD k 0 = u) (hv : ys.getD k 0 = v) :
    ARel w t xs ys zs K (.int .i64 ((k : Int) + 1)) (wr.setCell ⟨w.heap.size, k, none⟩ (.int .u8 (bits .xor .u8 (u : Int) (v : Int)))).drew := by
  have l1 : u < 256 := by rw [← hu]; exact getD_lt _ (addTo_lt xs ys hx hy k) _
  have l2 : v < 256 := by rw [← hv]; exact getD_lt _ hy _
  rw [u8_xor_nat u v l1 l2]
  refine ⟨k + 1, hk, by simp, ?_, (h1.far (by simp) _).drew, (h2.far (by simp; omega) _).drew, (hb.setCell (Nat.le_refl _) _).drew⟩
  have := (h0.set_ k (u ^^^ v)).drew
  rw [addTo, hu, hv]
  exact this

theorem add_start (w : World) (t : TypeId) (xs ys zs : List Nat) (K : Nat) : ARel w t xs ys zs K (.int .i64 0) (((w.alloc (.cells (arrV xs) t)).alloc (.cells (arrV ys) t)).alloc (.cells (arrV zs) t)) := by
  have e1 : (w.alloc (.cells (arrV xs) t)).heap.size = w.heap.size + 1 := by simp
  have e2 : ((w.alloc (.cells (arrV xs) t)).alloc (.cells (arrV ys) t)).heap.size = w.heap.size + 1 + 1 := by simp
  have h1 := Blk.new (w.alloc (.cells (arrV xs) t)) t ys
  have h2 := Blk.new ((w.alloc (.cells (arrV xs) t)).alloc (.cells (arrV ys) t)) t zs
  rw [e1] at h1
  rw [e2] at h2
  exact ⟨0, Nat.zero_le _, rfl, ((Blk.new w t xs).alloc _).alloc _, h1.alloc _, h2, (((Below.refl _ _).alloc (Nat.le_refl _) _).alloc (by simp) _).alloc (by simp; omega) _⟩

attribute [irreducible] addTo

set_option maxHeartbeats 400000 in
theorem addWords_any (xs ys : List Nat) (w : World) (hx : xs.length = 4) (hy : ys.length = 4) (bx : ∀ x ∈ xs, x < 256) (by_ : ∀ x ∈ ys, x < 256) :
    Calls Try.prog 47 #[.agg (arrV xs), .agg (arrV ys)] w (GivesArr w (addTo xs ys 4)) := by
  have HX := Lib.hid hx
  have HY := Lib.hid hy
  have BX := Lib.hid bx
  have BY := Lib.hid by_
  clear hx hy bx by_
  go_enter Try.func47, Try.ntmps47
  go_wp2
  go_loopw [6] (ARel w 85 xs ys [0, 0, 0, 0] 4) (fun i _ => 4 - (intOf i).toNat)
  case atStart => exact add_start w 85 xs ys [0, 0, 0, 0] 4
  case round =>
    obtain ⟨k, hk, rfl, h0, h1, h2, hb⟩ := hrel
    have H0 := Lib.hid h0
    have H1 := Lib.hid h1
    have H2 := Lib.hid h2
    have Hb := Lib.hid hb
    clear h0 h1 h2 hb
    by_cases hlt : k < 4
    · have c0 := H0.out.cell k (by rw [addTo_length, HX.out]; exact hlt)
      have c1 := H1.out.cell k (by rw [HY.out]; exact hlt)
      have f0 := H0.out.frozen k
      generalize hu : (addTo xs ys k).getD k 0 = u at *
      generalize hv : ys.getD k 0 = v at *
      have Hu := Lib.hid hu
      have Hv := Lib.hid hv
      clear hu hv
      go_wp2
      go_region
      go_wp2
      go_roundw
      case rel => exact add_step BX.out BY.out H0.out H1.out H2.out Hb.out hlt Hu.out Hv.out
      case measure => simp [intOf]; omega
    · have e4 : addTo xs ys k = addTo xs ys 4 := by rw [show k = 4 by omega]
      have H4 : Hid (Blk wr w.heap.size 85 (addTo xs ys 4)) := by rw [← e4]; exact H0
      clear e4 H0
      have hl4 := Lib.hid ((addTo_length xs ys 4).trans HX.out)
      go_wp2_with (first
        | (refine wpList_load_mid rfl 85 _ rfl w.heap.size 0 rfl (vals (addTo xs ys 4)) _ (whole_range H4.out hl4.out) Try.underlying85 rfl (by rw [vals_length, hl4.out]; exact size59) ?_)
        | (refine wpList_store_mid rfl 85 _ _ rfl (w.heap.size + 1 + 1) 0 (arrV (addTo xs ys 4)) rfl rfl (by rw [arrV_size, hl4.out]; exact H2.out.there 0 4 (by simp)) (by rw [arrV_size, hl4.out]; exact size59) (arrV_all _) ?_; rw [arrV_toList]))
      have hs := H2.out.storeAll (ys := addTo xs ys 4) (by rw [hl4.out]; rfl)
      exact bodyPost_ret (results_arr Try.results47 _ _ (w.heap.size + 1 + 1) rfl _ (hs.loadAll 85 _ hl4.out Try.underlying85 rfl size59)) rfl ⟨rfl, below_setCells Hb.out (by omega) _ _⟩

/-- Sixteen noughts. -/
def zeros16 : List Nat := [0, 0, 0, 0, 0, 0, 0, 0, 0, 0, 0, 0, 0, 0, 0, 0]
set_option maxHeartbeats 400000 in
theorem add_any (xs ys : List Nat) (w : World) (hx : xs.length = 16) (hy : ys.length = 16) (bx : ∀ x ∈ xs, x < 256) (by_ : ∀ x ∈ ys, x < 256) :
    Calls Try.prog 40 #[.agg (arrV xs), .agg (arrV ys)] w (GivesArr w (addTo xs ys 16)) := by
  have HX := Lib.hid hx
  have HY := Lib.hid hy
  have BX := Lib.hid bx
  have BY := Lib.hid by_
  clear hx hy bx by_
  go_enter Try.func40, Try.ntmps40
  go_wp2
  go_loopw [6] (ARel w 23 xs ys zeros16 16) (fun i _ => 16 - (intOf i).toNat)
  case atStart => exact add_start w 23 xs ys zeros16 16
  case round =>
    obtain ⟨k, hk, rfl, h0, h1, h2, hb⟩ := hrel
    have H0 := Lib.hid h0
    have H1 := Lib.hid h1
    have H2 := Lib.hid h2
    have Hb := Lib.hid hb
    clear h0 h1 h2 hb
    by_cases hlt : k < 16
    · have c0 := H0.out.cell k (by rw [addTo_length, HX.out]; exact hlt)
      have c1 := H1.out.cell k (by rw [HY.out]; exact hlt)
      have f0 := H0.out.frozen k
      generalize hu : (addTo xs ys k).getD k 0 = u at *
      generalize hv : ys.getD k 0 = v at *
      have Hu := Lib.hid hu
      have Hv := Lib.hid hv
      clear hu hv
      go_wp2
      go_region
      go_wp2
      go_roundw
      case rel => exact add_step BX.out BY.out H0.out H1.out H2.out Hb.out hlt Hu.out Hv.out
      case measure => simp [intOf]; omega
    · have e4 : addTo xs ys k = addTo xs ys 16 := by rw [show k = 16 by omega]
      have H4 : Hid (Blk wr w.heap.size 23 (addTo xs ys 16)) := by rw [← e4]; exact H0
      clear e4 H0
      have hl4 := Lib.hid ((addTo_length xs ys 16).trans HX.out)
      go_wp2_with (first
        | (refine wpList_load_mid rfl 23 _ rfl w.heap.size 0 rfl (vals (addTo xs ys 16)) _ (whole_range H4.out hl4.out) Try.underlying23 rfl (by rw [vals_length, hl4.out]; exact size27) ?_)
        | (refine wpList_store_mid rfl 23 _ _ rfl (w.heap.size + 1 + 1) 0 (arrV (addTo xs ys 16)) rfl rfl (by rw [arrV_size, hl4.out]; exact H2.out.there 0 16 (by simp [zeros16])) (by rw [arrV_size, hl4.out]; exact size27) (arrV_all _) ?_; rw [arrV_toList]))
      have hs := H2.out.storeAll (ys := addTo xs ys 16) (by rw [hl4.out]; rfl)
      exact bodyPost_ret (results_arr Try.results40 _ _ (w.heap.size + 1 + 1) rfl _ (hs.loadAll 23 _ hl4.out Try.underlying23 rfl size27)) rfl ⟨rfl, below_setCells Hb.out (by omega) _ _⟩
end Go.Proofs.Ytfbgpfiodgibbaa.A
