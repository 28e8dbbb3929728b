/- The document's Same of two rows of bytes returns whether they are one; it changes nothing. -/
import Derived.Test.YtpibmccofjpelaaWords
namespace Go.Proofs.Ytpibmccofjpelaa
open Go.RowKit
set_option linter.unusedVariables false

/-- The first k bytes of two rows are one. -/
def Alike (xs ys : List Nat) (k : Nat) : Prop := ∀ j, j < k → xs.getD j 0 = ys.getD j 0

theorem alike_step {xs ys : List Nat} {k : Nat} (h : Alike xs ys k) (hk : xs.getD k 0 = ys.getD k 0) : Alike xs ys (k + 1) := fun j hj => by
  by_cases e : j = k
  · subst e; exact hk
  · exact h j (by omega)
theorem alike_not {xs ys : List Nat} {k u v : Nat} (hu : xs.getD k 0 = u) (hv : ys.getD k 0 = v) (h : ¬ u = v) : false = decide (xs = ys) := by
  symm; simp; intro e; subst e; exact h (hu.symm.trans hv)
theorem alike_all {xs ys : List Nat} {n k : Nat} (h1 : xs.length = n) (h2 : ys.length = n) (hk : n ≤ k) (h : Alike xs ys k) : true = decide (xs = ys) := by
  symm; simp
  refine List.ext_getElem (by omega) fun i hi hj => ?_
  have := h i (by omega)
  simpa [List.getD_eq_getElem?_getD, hi, hj] using this

set_option maxHeartbeats 400000 in
theorem same_any (A1 A2 : Option Addr) (n m c1 c2 : Nat) (xs ys : List Nat) (B : Nat) (w : World) (hx : Row w B A1 n c1 xs) (hy : Row w B A2 m c2 ys) :
    Calls Try.prog 46 #[.slice A1 n c1, .slice A2 m c2] w fun e w' => e = .returned (.bool (decide (xs = ys))) ∧ ∃ k, w' = w.drewN k := by
  have hn := hx.max
  have hm := hy.max
  by_cases hnm : n = m
  · subst hnm
    have hb : ((n : Int) != (n : Int)) = false := by simp
    go_enter Try.func46, Try.ntmps46
    go_wp2
    go_loopw [5] (fun i wr => ∃ k q : Nat, k ≤ n ∧ i = .int .i64 k ∧ Alike xs ys k ∧ wr = w.drewN q) (fun i _ => n - (intOf i).toNat)
    case atStart => exact ⟨0, 0, Nat.zero_le _, rfl, fun j hj => absurd hj (Nat.not_lt_zero _), rfl⟩
    case round =>
      obtain ⟨k, q, hk, rfl, ha, rfl⟩ := hrel
      by_cases hlt : k < n
      · obtain ⟨b1, o1, rfl, hb1, hc1⟩ := hx.at_ (by omega)
        obtain ⟨b2, o2, rfl, hb2, hc2⟩ := hy.at_ (by omega)
        have hc1k := hc1 k hlt
        have hc2k := hc2 k hlt
        clear hc1 hc2
        have l1 := hx.lt k
        have l2 := hy.lt k
        generalize hu : xs.getD k 0 = u at *
        generalize hv : ys.getD k 0 = v at *
        have Hu := Lib.hid hu
        have Hv := Lib.hid hv
        have HA := Lib.hid ha
        clear hu hv ha
        by_cases huv : u = v
        · have ht : ((u : Int) != (v : Int)) = false := by simp [huv]
          have HU := Lib.hid huv
          clear huv
          go_wp2
          go_quiet (fail)
          go_wp2
          go_roundw
          case rel => exact ⟨k + 1, _, by omega, by go_num, alike_step HA.out (by rw [Hu.out, Hv.out]; exact HU.out), rfl⟩
          case measure => simp [intOf]; omega
        · have ht : ((u : Int) != (v : Int)) = true := by simp; omega
          go_wp2
          go_quiet (fail)
          go_wp2
          go_ret
          exact ⟨ret_bool (alike_not (Hu.out) (Hv.out) huv), _, World.drewN_drewN _ _ _⟩
      · go_wp2
        go_ret
        exact ⟨ret_bool (alike_all hx.1 hy.1 (by omega) ha), _, rfl⟩
  · have hb : ((n : Int) != (m : Int)) = true := by simp; omega
    go_enter Try.func46, Try.ntmps46
    go_wp2
    go_ret
    refine ⟨ret_bool ?_, 0, rfl⟩
    have h1 := hx.1
    have h2 := hy.1
    symm; simp; intro h; subst h; omega
end Go.Proofs.Ytpibmccofjpelaa
