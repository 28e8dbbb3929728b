/- The document's Xor gives the bits in which two rows are unlike, in new memory. No statement is proved here. -/
import Derived.Test.YtfbgpfiodgibbaaUXor
namespace Go.Proofs.Ytfbgpfiodgibbaa.U
open Go.RowKit
set_option linter.unusedVariables false

set_option maxHeartbeats 400000 in
theorem refBit_any (A : Option Addr) (L c k : Nat) (xs : List Nat) (w : World) (hx : Row w w.heap.size A L c xs) (hL : L ≤ 3000) (hk : k < 8 * L) :
    Calls Try.prog 37 #[.slice A L c, .int .i64 k] w fun e w' => e = .returned (.int .i64 (bitN xs k : Nat)) ∧ Below w.heap.size w w' := by
  obtain ⟨b, off, rfl, hb, hc⟩ := hx.at_ (by omega)
  have hck := hc (k / 8) (by omega)
  clear hc
  have hl := hx.lt (k / 8)
  have hbn : bitN xs k = xs.getD (k / 8) 0 / 2 ^ (k % 8) % 2 := rfl
  generalize hu : xs.getD (k / 8) 0 = u at *
  have Hu := Lib.hid hu
  have Hbn := Lib.hid hbn
  clear hu hbn
  have h8 : k % 8 = 0 ∨ k % 8 = 1 ∨ k % 8 = 2 ∨ k % 8 = 3 ∨ k % 8 = 4 ∨ k % 8 = 5 ∨ k % 8 = 6 ∨ k % 8 = 7 := by omega
  rcases h8 with hr | hr | hr | hr | hr | hr | hr | hr
  all_goals
    have Hr := Lib.hid hr
    have hm : (k : Int) % 8 = ((k % 8 : Nat) : Int) := by omega
    rw [hr] at hm
    clear hr
    go_enter Try.func37, Try.ntmps37
    go_wp2
    go_region
    go_wp2
    go_ret
    refine ⟨ret_int ?_, ((Below.refl _ _).alloc (Nat.le_refl _) _).drew⟩
    rw [Hbn.out, Hr.out]
    simp
def ORel (w : World) (xs ys : List Nat) (K : Nat) (s i : Value) (wr : World) : Prop :=
  ∃ k A c, k ≤ K ∧ i = .int .i64 (k : Nat) ∧ s = .slice A k c ∧ Own wr w.heap.size A k c ((xorL xs ys).take k) ∧ Below w.heap.size w wr
def IRel (w : World) (xs ys : List Nat) (k c : Nat) (A : Option Addr) (z : Nat) (x i : Value) (wr : World) : Prop :=
  ∃ j : Int, -1 ≤ j ∧ j ≤ 7 ∧ i = .int .i64 j ∧ x = .int .u8 (z / 2 ^ (j + 1).toNat : Nat) ∧ Own wr w.heap.size A k c ((xorL xs ys).take k) ∧ Below w.heap.size w wr

theorem xor_bits (u v j : Nat) : (u ^^^ v) / 2 ^ j = 2 * ((u ^^^ v) / 2 ^ (j + 1)) + (if u / 2 ^ j % 2 = v / 2 ^ j % 2 then 0 else 1) := by
  have h : (u ^^^ v).testBit j = Bool.xor (u.testBit j) (v.testBit j) := Nat.testBit_xor ..
  rw [Nat.testBit_eq_decide_div_mod_eq, Nat.testBit_eq_decide_div_mod_eq, Nat.testBit_eq_decide_div_mod_eq] at h
  rw [Nat.pow_succ, ← Nat.div_div_eq_div_mul]
  generalize (u ^^^ v) / 2 ^ j = a at *
  generalize u / 2 ^ j = b at *
  generalize v / 2 ^ j = c at *
  have h1 : b % 2 = 0 ∨ b % 2 = 1 := by omega
  have h2 : c % 2 = 0 ∨ c % 2 = 1 := by omega
  have h3 : a % 2 = 0 ∨ a % 2 = 1 := by omega
  rcases h1 with h1 | h1 <;> rcases h2 with h2 | h2 <;> rcases h3 with h3 | h3 <;> simp [h1, h2, h3] at h ⊢ <;> omega

theorem half_lt {z : Nat} (h : z < 256) (t : Nat) : z / 2 ^ (t + 1) < 128 := by
  have h1 : 2 ^ 1 ≤ 2 ^ (t + 1) := Nat.pow_le_pow_right (by omega) (by omega)
  have h2 : z / 2 ^ (t + 1) ≤ z / 2 ^ 1 := Nat.div_le_div_left h1 (by omega)
  omega
theorem bitN_of (xs : List Nat) (k t : Nat) (ht : t < 8) : bitN xs (8 * k + t) = xs.getD k 0 / 2 ^ t % 2 := by
  unfold bitN
  rw [show (8 * k + t) / 8 = k by omega, show (8 * k + t) % 8 = t by omega]
theorem refXor_inner {w wr : World} {xs ys : List Nat} {k c t p x y : Nat} {A : Option Addr} {v : Int} (hp : (xs.getD k 0 ^^^ ys.getD k 0) / 2 ^ (t + 1) = p) (hx : bitN xs (8 * k + t) = x) (hy : bitN ys (8 * k + t) = y)
    (hO : Own wr w.heap.size A k c ((xorL xs ys).take k)) (hb : Below w.heap.size w wr) (ht : t < 8) (hv : v = (p : Int) * 2 + (if x = y then 0 else 1)) :
    IRel w xs ys k c A (xs.getD k 0 ^^^ ys.getD k 0) (.int .u8 v) (.int .i64 ((t : Int) - 1)) wr := by
  refine ⟨(t : Int) - 1, by omega, by omega, rfl, ?_, hO, hb⟩
  rw [show ((t : Int) - 1 + 1).toNat = t by omega, xor_bits, hp, ← bitN_of xs k t ht, ← bitN_of ys k t ht, hx, hy, hv]
  split <;> simp <;> omega
theorem refXor_outer {w w3 : World} {xs ys : List Nat} {n m K k c3 : Nat} {A3 : Option Addr} (hx : xs.length = n) (hy : ys.length = m) (hk : k < K) (h1 : K ≤ n) (h2 : K ≤ m) (hO : Own w3 w.heap.size A3 (k + 1) c3 ((xorL xs ys).take k ++ [xs.getD k 0 ^^^ ys.getD k 0])) (hb : Below w.heap.size w w3) :
    ORel w xs ys K (.slice A3 (k + 1) c3) (.int .i64 ((k : Int) + 1)) w3 := by
  refine ⟨k + 1, A3, c3, hk, by simp, rfl, ?_, hb⟩
  have hl : k < (xorL xs ys).length := by rw [xorL_length]; omega
  have e : (xorL xs ys).take (k + 1) = (xorL xs ys).take k ++ [xs.getD k 0 ^^^ ys.getD k 0] := by
    rw [List.take_succ_eq_append_getElem hl, ← xorL_getD xs ys k (by omega) (by omega), List.getD_eq_getElem?_getD, List.getElem?_eq_getElem hl]; rfl
  rw [e]; exact hO
theorem refXor_end {w wr : World} {xs ys : List Nat} {n m K c : Nat} {A : Option Addr} (hx : xs.length = n) (hy : ys.length = m) (hK : K = min n m) (hO : Own wr w.heap.size A K c ((xorL xs ys).take K)) (hb : Below w.heap.size w wr) :
    GivesRow w (xorL xs ys) (.returned (.slice A K c)) wr := by
  have hl : (xorL xs ys).length = K := by rw [xorL_length]; omega
  rw [List.take_of_length_le (by omega)] at hO
  exact ⟨A, c, by rw [hl], by rw [hl]; exact hO, hb⟩

set_option maxHeartbeats 400000 in
theorem refXor_any (A1 A2 : Option Addr) (n m c1 c2 : Nat) (xs ys : List Nat) (w : World) (hx : Row w w.heap.size A1 n c1 xs) (hy : Row w w.heap.size A2 m c2 ys) (hn : n ≤ 3000) (hm : m ≤ 3000) :
    Calls Try.prog 24 #[.slice A1 n c1, .slice A2 m c2] w (GivesRow w (xorL xs ys)) := by
  obtain ⟨K, hK⟩ : ∃ K, K = min n m := ⟨_, rfl⟩
  have hKn : K ≤ n := by omega
  have hKm : K ≤ m := by omega
  have hKd : n ≤ K ∨ m ≤ K := by omega
  have HK := Lib.hid hK
  clear hK
  go_enter Try.func24, Try.ntmps24
  go_wp2
  go_loopw [5, 6] (ORel w xs ys K) (fun _ i _ => K - (intOf i).toNat)
  case atStart => exact ⟨0, _, _, by omega, rfl, rfl, Own.empty (Nat.le_refl _), (Below.refl _ _).alloc (Nat.le_refl _) _⟩
  case round =>
    obtain ⟨k, A, c, hk, rfl, rfl, hOr, hbr⟩ := hrel
    have HOr := Lib.hid hOr
    have Hbr := Lib.hid hbr
    clear hbr hOr
    by_cases hlt : k < K
    · have l1 := hx.lt k
      have l2 := hy.lt k
      have d1 : (k : Int) < (n : Int) := by omega
      have d2 : (k : Int) < (m : Int) := by omega
      have hz : xs.getD k 0 ^^^ ys.getD k 0 < 256 := Nat.xor_lt_two_pow (n := 8) l1 l2
      go_wp2
      go_loopw [7, 8] (IRel w xs ys k c A (xs.getD k 0 ^^^ ys.getD k 0)) (fun _ i _ => (intOf i + 1).toNat)
      case atStart => exact ⟨7, by omega, by omega, rfl, by rw [show ((7 : Int) + 1).toNat = 8 from rfl, Nat.div_eq_of_lt hz]; rfl, HOr.out, Hbr.out⟩
      case round =>
        obtain ⟨j, hj0, hj7, rfl, rfl, hO2, hb2⟩ := hrel
        have HO2 := Lib.hid hO2
        have Hb2 := Lib.hid hb2
        have hx2 := (hx.below hb2).wider hb2.size
        have hy2 := (hy.below hb2).wider hb2.size
        clear hO2 hb2
        by_cases hj : 0 ≤ j
        · obtain ⟨t, rfl⟩ := Int.eq_ofNat_of_zero_le hj
          have hp := half_lt hz t
          have ht1 : ((t : Int) + 1).toNat = t + 1 := by omega
          rw [ht1] at *
          clear ht1
          generalize hpe : (xs.getD k 0 ^^^ ys.getD k 0) / 2 ^ (t + 1) = p at *
          have Hp := Lib.hid hpe
          clear hpe
          go_wp2_with fail
          rw [show (8 * (k : Int) + (t : Int)) = ((8 * k + t : Nat) : Int) from by omega]
          refine (refBit_any A1 n c1 (8 * k + t) xs wr hx2 hn (by omega)).mono ?_
          rintro e w4 ⟨rfl, hb4⟩
          have hy4 := (hy2.below hb4).wider hb4.size
          have Hb4 := Lib.hid hb4
          clear hb4 hx2 hy2
          have bx := bitN_lt xs (8 * k + t)
          generalize hbx : bitN xs (8 * k + t) = x at *
          have Hx := Lib.hid hbx
          clear hbx
          go_wp2_with fail
          rw [show (8 * (k : Int) + (t : Int)) = ((8 * k + t : Nat) : Int) from by omega]
          refine (refBit_any A2 m c2 (8 * k + t) ys w4 hy4 hm (by omega)).mono ?_
          rintro e w5 ⟨rfl, hb5⟩
          have by_ := bitN_lt ys (8 * k + t)
          have hb25 : Below wr.heap.size wr w5 := Hb4.out.trans (hb5.mono Hb4.out.size)
          have HO5 := Lib.hid (HO2.out.below hb25)
          have Hb5 := Lib.hid (Hb2.out.trans (hb25.mono Hb2.out.size))
          clear hb5 hy4 hb25
          generalize hby : bitN ys (8 * k + t) = y at *
          have Hy := Lib.hid hby
          clear hby
          by_cases hxy : x = y
          · have e1 : ((x : Int) != (y : Int)) = false := by simp [hxy]
            have HXY := Lib.hid hxy
            clear hxy
            go_wp2
            go_roundw
            case rel => exact refXor_inner Hp.out Hx.out Hy.out HO5.out Hb5.out (by omega) (by rw [if_pos HXY.out]; simp)
            case measure => simp [intOf]
          · have e1 : ((x : Int) != (y : Int)) = true := by simp; omega
            have HXY := Lib.hid hxy
            clear hxy
            go_wp2
            go_roundw
            case rel => exact refXor_inner Hp.out Hx.out Hy.out HO5.out Hb5.out (by omega) (by rw [if_neg HXY.out])
            case measure => simp [intOf]
        · obtain rfl : j = -1 := by omega
          have HZ : Hid ((xs.getD k 0 ^^^ ys.getD k 0) / 2 ^ ((-1 : Int) + 1).toNat = xs.getD k 0 ^^^ ys.getD k 0) := by simp [Hid]
          rw [HZ.out]
          clear HZ hx2 hy2
          go_wp2_with (at_builtin; refine wpList_append_row _ rfl _ _ rfl w.heap.size A k c _ rfl (HO2.out.alloc _) (wr.heap.size + 1) (some ⟨wr.heap.size, 0, none⟩) 1 1 [xs.getD k 0 ^^^ ys.getD k 0] rfl (Row.one _ _ _ rfl hz) (by omega) (by have := Hb2.out.size; simp; omega) ?_; intro A3 c3 w3 hO3 hg3 hbl3)
          have hb3 : Below w.heap.size w w3 := below_append Hb2.out HO2.out hg3
          clear hg3 hbl3
          go_roundw
          case rel => exact refXor_outer hx.len hy.len hlt hKn hKm hO3 hb3
          case measure => simp [intOf]; omega
    · obtain rfl : k = K := by omega
      rcases hKd with hd | hd
      · have e1 : decide ((k : Int) < (n : Int)) = false := by simp; omega
        go_wp2
        go_ret
        exact refXor_end hx.len hy.len HK.out HOr.out Hbr.out
      · by_cases hkn : k < n
        · have e1 : decide ((k : Int) < (n : Int)) = true := by simp; omega
          have e2 : decide ((k : Int) < (m : Int)) = false := by simp; omega
          go_wp2
          go_ret
          exact refXor_end hx.len hy.len HK.out HOr.out Hbr.out
        · have e1 : decide ((k : Int) < (n : Int)) = false := by simp; omega
          go_wp2
          go_ret
          exact refXor_end hx.len hy.len HK.out HOr.out Hbr.out
end Go.Proofs.Ytfbgpfiodgibbaa.U
