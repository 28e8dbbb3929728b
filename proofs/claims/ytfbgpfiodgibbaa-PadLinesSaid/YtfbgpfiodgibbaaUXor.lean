/- Xor gives, in new memory, the bits in which two rows of bytes are unlike. Nothing that was there is changed. -/
import Derived.Test.YtfbgpfiodgibbaaUPut
namespace Go.Proofs.Ytfbgpfiodgibbaa.U
open Go.RowKit
set_option linter.unusedVariables false

/-- The bits in which two rows of bytes are unlike. -/
def xorL (xs ys : List Nat) : List Nat := List.zipWith (fun x y => x ^^^ y) xs ys
theorem xorL_length (xs ys : List Nat) : (xorL xs ys).length = min xs.length ys.length := by simp [xorL]
theorem xorL_getD (xs ys : List Nat) (j : Nat) (h1 : j < xs.length) (h2 : j < ys.length) : (xorL xs ys).getD j 0 = xs.getD j 0 ^^^ ys.getD j 0 := by
  simp only [xorL, List.getD_eq_getElem?_getD]
  rw [List.getElem?_eq_getElem (by simp; omega), List.getElem?_eq_getElem h1, List.getElem?_eq_getElem h2]
  simp

/-- What holds of Xor's loop at its head: the first k bytes are made. -/
def XRel (w : World) (xs ys : List Nat) (K : Nat) (i : Value) (wr : World) : Prop :=
  ∃ k zs, k ≤ K ∧ i = .int .i64 (k : Nat) ∧ Own wr w.heap.size (some ⟨w.heap.size, 0, none⟩) K K zs ∧ Below w.heap.size w wr ∧ ∀ j, j < k → zs.getD j 0 = xs.getD j 0 ^^^ ys.getD j 0

theorem xor_step {w wr : World} {xs ys zs : List Nat} {K k u v : Nat} (hO : Own wr w.heap.size (some ⟨w.heap.size, 0, none⟩) K K zs) (hb : Below w.heap.size w wr) (hz : ∀ j, j < k → zs.getD j 0 = xs.getD j 0 ^^^ ys.getD j 0) (hu : xs.getD k 0 = u) (hv : ys.getD k 0 = v) (l1 : u < 256) (l2 : v < 256) (hk : k < K) :
    XRel w xs ys K (.int .i64 ((k : Int) + 1)) (wr.setCell ⟨w.heap.size, k, none⟩ (.int .u8 (bits .xor .u8 (u : Int) (v : Int)))).drew := by
  rw [u8_xor_nat u v l1 l2]
  obtain ⟨h1, h2⟩ := hO.2.2.stored k (.int .u8 ((u ^^^ v : Nat) : Int))
  have hlt : u ^^^ v < 256 := Nat.xor_lt_two_pow (n := 8) l1 l2
  refine ⟨k + 1, zs.set k (u ^^^ v), hk, by simp, ⟨by simpa using hO.len, ?_, ?_⟩, (hb.grown h2 hb.size (fun k hk => by injection hk with hk; omega)).drew, fun j hj => ?_⟩
  · intro x hx
    rcases List.mem_or_eq_of_mem_set hx with hx | rfl
    · exact hO.2.1 x hx
    · exact hlt
  · rw [vals_set]; exact h1
  · rw [getD_set _ _ _ _ (by rw [hO.len]; exact hk)]
    by_cases e : k = j
    · subst e; rw [if_pos rfl, hu, hv]
    · rw [if_neg e]; exact hz j (by omega)
theorem xor_end {w wr : World} {xs ys zs : List Nat} {n m K : Nat} (hx : xs.length = n) (hy : ys.length = m) (hK : K = min n m) (hO : Own wr w.heap.size (some ⟨w.heap.size, 0, none⟩) K K zs) (hb : Below w.heap.size w wr) (hz : ∀ j, j < K → zs.getD j 0 = xs.getD j 0 ^^^ ys.getD j 0) :
    GivesRow w (xorL xs ys) (.returned (.slice (some ⟨w.heap.size, 0, none⟩) K K)) wr := by
  have e : zs = xorL xs ys := by
    refine List.ext_getElem (by rw [xorL_length, hO.len]; omega) fun i hi hj => ?_
    have h1 := hz i (by rw [hO.len] at hi; exact hi)
    have hj' := hj
    rw [xorL_length] at hj'
    rw [← xorL_getD xs ys i (by omega) (by omega)] at h1
    simpa [List.getD_eq_getElem?_getD, hi, hj] using h1
  subst e
  have hl := hO.len
  exact ⟨_, K, by rw [hl], by rw [hl]; exact hO, hb⟩

set_option maxHeartbeats 400000 in
theorem xor_any (A1 A2 : Option Addr) (n m c1 c2 : Nat) (xs ys : List Nat) (w : World) (hx : Row w w.heap.size A1 n c1 xs) (hy : Row w w.heap.size A2 m c2 ys) (hn : n ≤ 3000) (hm : m ≤ 3000) :
    Calls Try.prog 38 #[.slice A1 n c1, .slice A2 m c2] w (GivesRow w (xorL xs ys)) := by
  obtain ⟨K, hK⟩ : ∃ K, K = min n m := ⟨_, rfl⟩
  have hKn : K ≤ n := by omega
  have hKm : K ≤ m := by omega
  have HK := Lib.hid hK
  by_cases hnm : (n : Int) ≤ (m : Int)
  all_goals
    first | have hlow : n ≤ K := by omega | have hlow : m ≤ K := by omega
    clear hK
    go_enter Try.func38, Try.ntmps38
    go_wp2_with (at_make; refine wpList_make_zeros _ rfl _ _ rfl w.heap.size _ _ K rfl rfl (by omega) (by omega) (by omega) (Nat.le_refl _) ?_; intro w1 hO1 hg1)
    go_loopw [15] (XRel w xs ys K) (fun i _ => K - (intOf i).toNat)
    case atStart => exact ⟨0, _, by omega, rfl, hO1, (Below.refl _ _).grown hg1 (Nat.le_refl _) (fun k hk => by cases hk), fun j hj => absurd hj (by omega)⟩
    case round =>
      obtain ⟨k, zs, hk, rfl, hOr, hbr, hzs⟩ := hrel
      have Hzs := Lib.hid hzs
      have Hbr := Lib.hid hbr
      clear hO1 hg1 hzs
      by_cases hlt : k < K
      · obtain ⟨b1, o1, rfl, hb1, hc1⟩ := (hx.below hbr).at_ (by omega)
        obtain ⟨b2, o2, rfl, hb2, hc2⟩ := (hy.below hbr).at_ (by omega)
        have hc1k := hc1 k (by omega)
        have hc2k := hc2 k (by omega)
        have l1 := hx.lt k
        have l2 := hy.lt k
        have hck := hOr.2.2.cellAt k (by omega)
        rw [vals_getElem? zs k (by rw [hOr.len]; exact hlt)] at hck
        have hfk := hOr.2.2.frozenAt k
        clear hc1 hc2 hbr
        generalize hu : xs.getD k 0 = u at *
        generalize hv : ys.getD k 0 = v at *
        generalize zs.getD k 0 = z at *
        have Hu := Lib.hid hu
        have Hv := Lib.hid hv
        clear hu hv
        go_wp2
        go_region
        go_wp2
        go_roundw
        case rel => exact xor_step hOr Hbr.out Hzs.out Hu.out Hv.out l1 l2 hlt
        case measure => simp [intOf]; omega
      · obtain rfl : k = K := by omega
        go_wp2
        go_ret
        exact xor_end hx.len hy.len HK.out hOr Hbr.out Hzs.out
end Go.Proofs.Ytfbgpfiodgibbaa.U
