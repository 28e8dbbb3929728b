/- The law BitsTexts returns true on the way odd ok. -/
import Derived.Test.YtmmfigdmdamnlaaTextsPlain
namespace Go.Proofs.Ytmmfigdmdamnlaa
open Go.RowKit
set_option linter.unusedVariables false

set_option maxRecDepth 100000 in
set_option maxHeartbeats 4000000 in
theorem texts_odd_ok_n (A1 A2 : Option Addr) (n m c1 c2 : Nat) (xs ys : List Nat) (s : ByteArray) (K : Nat) (w : World) (hx : Row w w.heap.size A1 n c1 xs) (hy : Row w w.heap.size A2 m c2 ys) (hn : n ≤ 500) (hm : m ≤ 500) (hK : K ≤ 499) (hs : s.size = 2 * K + 1) (hok : okTo s K) (hnm : (n : Int) ≤ (m : Int)) :
    Calls Try.prog 5 #[.slice A1 n c1, .slice A2 m c2, .string s] w (IsTrue w) := by
  have d0 : decide (500 < (n : Int)) = false := by simp; omega
  have d1 : decide (500 < (m : Int)) = false := by simp; omega
  have d2 : decide (1000 < (s.size : Int)) = false := by simp; omega
  have HS := Lib.hid hs
  have Hok := Lib.hid hok
  have HX := Lib.hid hx
  have HY := Lib.hid hy
  clear hs hok
  go_enter Try.func5, Try.ntmps5
  go_wp2_with fail
  refine (speaks_any w).mono ?_
  rintro e w1 ⟨rfl, hb1⟩
  have hx1 := (hx.below hb1).wider hb1.size
  have hy1 := (hy.below hb1).wider hb1.size
  have Hb1 := Lib.hid hb1
  clear hb1 hx hy
  go_wp2_with fail
  refine (unhex_odd s K w1 HS.out (by omega)).mono ?_
  rintro e w2 ⟨rfl, rfl⟩
  have Hb2 := Lib.hid (Below.refl w1.heap.size w1)
  go_wp2_with fail
  refine (refUnhex_any s K s.size false w1 rfl (by have := HS.out; omega) (by have := HS.out; omega) (by have := HS.out; simp; omega)).mono ?_
  rintro e w3 ⟨h1, _, hb3⟩
  obtain ⟨A4, c4, rfl, hO4⟩ := h1 Hok.out
  clear hO4
  have hx3 := (hx1.below hb3).wider hb3.size
  have hy3 := (hy1.below hb3).wider hb3.size
  have Hb3 := Lib.hid hb3
  clear hb3 hx1 hy1 h1 d0 d1 d2
  go_wp2_with fail
  refine (hex_any A1 n c1 xs _ hx3 (by omega)).mono ?_
  rintro e w5 ⟨rfl, hb5⟩
  have hb35 : Below w3.heap.size w3 w5 := hb5
  have hx5 := (hx3.below hb35).wider hb35.size
  have hy5 := (hy3.below hb35).wider hb35.size
  have Hb35 := Lib.hid hb35
  clear hb5 hb35 hx3 hy3
  go_wp2_with fail
  refine (unhex_even _ n w5 (by rw [txt_size, hexL_length, HX.out.len]) (by omega)).mono ?_
  rintro e w6 ⟨h1, _, hb6⟩
  obtain ⟨A6, c6, rfl, hO6⟩ := h1 (back_ok xs HX.out.bytes n HX.out.len)
  rw [back_same xs HX.out.bytes n HX.out.len] at hO6
  have hx6 := (hx5.below hb6).wider hb6.size
  have hy6 := (hy5.below hb6).wider hb6.size
  have HO6 := Lib.hid hO6
  have Hb6 := Lib.hid hb6
  clear hb6 hx5 hy5 hO6 h1
  go_wp2
  have hL1 : (xorL xs ys).length = n := by rw [xorL_length, HX.out.len, HY.out.len]; omega
  have hL2 : xorL (xorL xs ys) ys = xs.take n := by rw [xorL_back, HX.out.len, HY.out.len, show min n m = n by omega]
  have hL3 : (xs.take n).length = n := by rw [List.length_take, HX.out.len]; omega
  have hroom : n ≤ c1 := hx6.room
  have HL1 := Lib.hid hL1
  have HL2 := Lib.hid hL2
  have HL3 := Lib.hid hL3
  generalize hT : txt (hexL xs) = T
  have HT := Lib.hid hT
  have f1 : (T.toList == T.toList) = true := by simp
  clear hT
  clear HX HY HS Hok hK hL1 hL2 hL3
  go_region_held3 (fun _ => True) (exact trivial) (first
    | (go_at_call 11; (with_reducible refine (same_any A14 A1 n n c14 c1 _ _ _ w14 ro14.out.row (rx14.out.take (by omega))).mono ?_); rintro e w15 ⟨rfl, q15, rfl⟩; rw [decide_eq_true rfl])
    | (go_at_call 21; (with_reducible refine (xor_any A13 A2 n m c13 c2 _ ys w13 ro13.out.row ry13.out (by omega) (by omega)).mono ?_); intro e w14 hG; rw [HL2.out] at hG; obtain ⟨A14, c14, rfl, hO14, b14⟩ := hG.out (HL3.out); have rx14 := Lib.hid ((rx13.out.below b14).wider b14.size); have ro14 := Lib.hid hO14; have k14 := Lib.hid b14; clear b14 hG hO14)
    | (go_at_call 21; (with_reducible refine (xor_any A1 A2 n m c1 c2 xs ys (w11.drewN q12) (rx11.out.drawn q12) (ry11.out.drawn q12) (by omega) (by omega)).mono ?_); intro e w13 hG; obtain ⟨A13, c13, rfl, hO13, hb13⟩ := hG.out (HL1.out); have b13 : Below w11.heap.size w11 w13 := ⟨hb13.os, hb13.tape, hb13.output, hb13.size, hb13.block⟩; have rx13 := Lib.hid ((rx11.out.below b13).wider b13.size); have ry13 := Lib.hid ((ry11.out.below b13).wider b13.size); have ro13 := Lib.hid hO13; have k13 := Lib.hid b13; clear hb13 b13 hG hO13)
    | (go_at_call 11; (with_reducible refine (same_any A10 A11 n n c10 c11 _ _ _ w11 rp11.out.row ro11.out.row).mono ?_); rintro e w12 ⟨rfl, q12, rfl⟩; rw [decide_eq_true rfl])
    | (go_at_call 22; (with_reducible refine (refXor_any A1 A2 n m c1 c2 xs ys w10 rx10.out ry10.out (by omega) (by omega)).mono ?_); intro e w11 hG; obtain ⟨A11, c11, rfl, hO11, b11⟩ := hG.out (HL1.out); have rx11 := Lib.hid ((rx10.out.below b11).wider b11.size); have ry11 := Lib.hid ((ry10.out.below b11).wider b11.size); have rp11 := Lib.hid (ro10.out.below b11); have ro11 := Lib.hid hO11; have k11 := Lib.hid b11; clear b11 hG hO11)
    | (go_at_call 21; (with_reducible refine (xor_any A1 A2 n m c1 c2 xs ys _ (rx7.out.drawn _) (ry7.out.drawn _) (by omega) (by omega)).mono ?_); intro e w10 hG; obtain ⟨A10, c10, rfl, hO10, hb10⟩ := hG.out (HL1.out); have b10 : Below w7.heap.size w7 w10 := ⟨hb10.os, hb10.tape, hb10.output, hb10.size, hb10.block⟩; have rx10 := Lib.hid ((rx7.out.below b10).wider b10.size); have ry10 := Lib.hid ((ry7.out.below b10).wider b10.size); have ro10 := Lib.hid hO10; have k10 := Lib.hid b10; clear hb10 b10 hG hO10)
    | (go_at_call 11; (with_reducible refine (same_any A6 A1 n n c6 c1 xs xs _ (w7.drewN q8) (ro7.out.row.drawn q8) (rx7.out.drawn q8)).mono ?_); rintro e w9 ⟨rfl, q9, rfl⟩; rw [decide_eq_true rfl])
    | (go_at_call 20; (with_reducible refine (refHex_any A1 n c1 xs _ w7 rx7.out (by omega)).mono ?_); rintro e w8 ⟨rfl, q8, rfl⟩; rw [HT.out])
    | (go_at_call 19; (with_reducible refine (hex_any A1 n c1 xs _ hx6.drawn1 (by omega)).mono ?_); rintro e w7 ⟨rfl, hb7⟩; rw [HT.out]; have b7 : Below w6.heap.size w6 w7 := ⟨hb7.os, hb7.tape, hb7.output, hb7.size, hb7.block⟩; have rx7 := Lib.hid ((hx6.below b7).wider b7.size); have ry7 := Lib.hid ((hy6.below b7).wider b7.size); have ro7 := Lib.hid (HO6.out.below b7); have k7 := Lib.hid b7; clear hb7 b7))
  go_wp2
  go_ret
  exact ⟨rfl, below_drewN (chain_below Hb1.out Hb2.out Hb3.out Hb35.out Hb6.out k7.out k10.out k11.out k13.out k14.out)⟩

set_option maxRecDepth 100000 in
set_option maxHeartbeats 4000000 in
theorem texts_odd_ok_m (A1 A2 : Option Addr) (n m c1 c2 : Nat) (xs ys : List Nat) (s : ByteArray) (K : Nat) (w : World) (hx : Row w w.heap.size A1 n c1 xs) (hy : Row w w.heap.size A2 m c2 ys) (hn : n ≤ 500) (hm : m ≤ 500) (hK : K ≤ 499) (hs : s.size = 2 * K + 1) (hok : okTo s K) (hnm : (m : Int) < (n : Int)) :
    Calls Try.prog 5 #[.slice A1 n c1, .slice A2 m c2, .string s] w (IsTrue w) := by
  have d0 : decide (500 < (n : Int)) = false := by simp; omega
  have d1 : decide (500 < (m : Int)) = false := by simp; omega
  have d2 : decide (1000 < (s.size : Int)) = false := by simp; omega
  have HS := Lib.hid hs
  have Hok := Lib.hid hok
  have HX := Lib.hid hx
  have HY := Lib.hid hy
  clear hs hok
  go_enter Try.func5, Try.ntmps5
  go_wp2_with fail
  refine (speaks_any w).mono ?_
  rintro e w1 ⟨rfl, hb1⟩
  have hx1 := (hx.below hb1).wider hb1.size
  have hy1 := (hy.below hb1).wider hb1.size
  have Hb1 := Lib.hid hb1
  clear hb1 hx hy
  go_wp2_with fail
  refine (unhex_odd s K w1 HS.out (by omega)).mono ?_
  rintro e w2 ⟨rfl, rfl⟩
  have Hb2 := Lib.hid (Below.refl w1.heap.size w1)
  go_wp2_with fail
  refine (refUnhex_any s K s.size false w1 rfl (by have := HS.out; omega) (by have := HS.out; omega) (by have := HS.out; simp; omega)).mono ?_
  rintro e w3 ⟨h1, _, hb3⟩
  obtain ⟨A4, c4, rfl, hO4⟩ := h1 Hok.out
  clear hO4
  have hx3 := (hx1.below hb3).wider hb3.size
  have hy3 := (hy1.below hb3).wider hb3.size
  have Hb3 := Lib.hid hb3
  clear hb3 hx1 hy1 h1 d0 d1 d2
  go_wp2_with fail
  refine (hex_any A1 n c1 xs _ hx3 (by omega)).mono ?_
  rintro e w5 ⟨rfl, hb5⟩
  have hb35 : Below w3.heap.size w3 w5 := hb5
  have hx5 := (hx3.below hb35).wider hb35.size
  have hy5 := (hy3.below hb35).wider hb35.size
  have Hb35 := Lib.hid hb35
  clear hb5 hb35 hx3 hy3
  go_wp2_with fail
  refine (unhex_even _ n w5 (by rw [txt_size, hexL_length, HX.out.len]) (by omega)).mono ?_
  rintro e w6 ⟨h1, _, hb6⟩
  obtain ⟨A6, c6, rfl, hO6⟩ := h1 (back_ok xs HX.out.bytes n HX.out.len)
  rw [back_same xs HX.out.bytes n HX.out.len] at hO6
  have hx6 := (hx5.below hb6).wider hb6.size
  have hy6 := (hy5.below hb6).wider hb6.size
  have HO6 := Lib.hid hO6
  have Hb6 := Lib.hid hb6
  clear hb6 hx5 hy5 hO6 h1
  go_wp2
  have hL1 : (xorL xs ys).length = m := by rw [xorL_length, HX.out.len, HY.out.len]; omega
  have hL2 : xorL (xorL xs ys) ys = xs.take m := by rw [xorL_back, HX.out.len, HY.out.len, show min n m = m by omega]
  have hL3 : (xs.take m).length = m := by rw [List.length_take, HX.out.len]; omega
  have hroom : n ≤ c1 := hx6.room
  have hroom2 : m ≤ c1 := by omega
  have HL1 := Lib.hid hL1
  have HL2 := Lib.hid hL2
  have HL3 := Lib.hid hL3
  generalize hT : txt (hexL xs) = T
  have HT := Lib.hid hT
  have f1 : (T.toList == T.toList) = true := by simp
  clear hT
  clear HX HY HS Hok hK hL1 hL2 hL3
  go_region_held3 (fun _ => True) (exact trivial) (first
    | (go_at_call 11; (with_reducible refine (same_any A14 A1 m m c14 c1 _ _ _ w14 ro14.out.row (rx14.out.take (by omega))).mono ?_); rintro e w15 ⟨rfl, q15, rfl⟩; rw [decide_eq_true rfl])
    | (go_at_call 21; (with_reducible refine (xor_any A13 A2 m m c13 c2 _ ys w13 ro13.out.row ry13.out (by omega) (by omega)).mono ?_); intro e w14 hG; rw [HL2.out] at hG; obtain ⟨A14, c14, rfl, hO14, b14⟩ := hG.out (HL3.out); have rx14 := Lib.hid ((rx13.out.below b14).wider b14.size); have ro14 := Lib.hid hO14; have k14 := Lib.hid b14; clear b14 hG hO14)
    | (go_at_call 21; (with_reducible refine (xor_any A1 A2 n m c1 c2 xs ys (w11.drewN q12) (rx11.out.drawn q12) (ry11.out.drawn q12) (by omega) (by omega)).mono ?_); intro e w13 hG; obtain ⟨A13, c13, rfl, hO13, hb13⟩ := hG.out (HL1.out); have b13 : Below w11.heap.size w11 w13 := ⟨hb13.os, hb13.tape, hb13.output, hb13.size, hb13.block⟩; have rx13 := Lib.hid ((rx11.out.below b13).wider b13.size); have ry13 := Lib.hid ((ry11.out.below b13).wider b13.size); have ro13 := Lib.hid hO13; have k13 := Lib.hid b13; clear hb13 b13 hG hO13)
    | (go_at_call 11; (with_reducible refine (same_any A10 A11 m m c10 c11 _ _ _ w11 rp11.out.row ro11.out.row).mono ?_); rintro e w12 ⟨rfl, q12, rfl⟩; rw [decide_eq_true rfl])
    | (go_at_call 22; (with_reducible refine (refXor_any A1 A2 n m c1 c2 xs ys w10 rx10.out ry10.out (by omega) (by omega)).mono ?_); intro e w11 hG; obtain ⟨A11, c11, rfl, hO11, b11⟩ := hG.out (HL1.out); have rx11 := Lib.hid ((rx10.out.below b11).wider b11.size); have ry11 := Lib.hid ((ry10.out.below b11).wider b11.size); have rp11 := Lib.hid (ro10.out.below b11); have ro11 := Lib.hid hO11; have k11 := Lib.hid b11; clear b11 hG hO11)
    | (go_at_call 21; (with_reducible refine (xor_any A1 A2 n m c1 c2 xs ys _ (rx7.out.drawn _) (ry7.out.drawn _) (by omega) (by omega)).mono ?_); intro e w10 hG; obtain ⟨A10, c10, rfl, hO10, hb10⟩ := hG.out (HL1.out); have b10 : Below w7.heap.size w7 w10 := ⟨hb10.os, hb10.tape, hb10.output, hb10.size, hb10.block⟩; have rx10 := Lib.hid ((rx7.out.below b10).wider b10.size); have ry10 := Lib.hid ((ry7.out.below b10).wider b10.size); have ro10 := Lib.hid hO10; have k10 := Lib.hid b10; clear hb10 b10 hG hO10)
    | (go_at_call 11; (with_reducible refine (same_any A6 A1 n n c6 c1 xs xs _ (w7.drewN q8) (ro7.out.row.drawn q8) (rx7.out.drawn q8)).mono ?_); rintro e w9 ⟨rfl, q9, rfl⟩; rw [decide_eq_true rfl])
    | (go_at_call 20; (with_reducible refine (refHex_any A1 n c1 xs _ w7 rx7.out (by omega)).mono ?_); rintro e w8 ⟨rfl, q8, rfl⟩; rw [HT.out])
    | (go_at_call 19; (with_reducible refine (hex_any A1 n c1 xs _ hx6.drawn1 (by omega)).mono ?_); rintro e w7 ⟨rfl, hb7⟩; rw [HT.out]; have b7 : Below w6.heap.size w6 w7 := ⟨hb7.os, hb7.tape, hb7.output, hb7.size, hb7.block⟩; have rx7 := Lib.hid ((hx6.below b7).wider b7.size); have ry7 := Lib.hid ((hy6.below b7).wider b7.size); have ro7 := Lib.hid (HO6.out.below b7); have k7 := Lib.hid b7; clear hb7 b7))
  go_wp2
  go_ret
  exact ⟨rfl, below_drewN (chain_below Hb1.out Hb2.out Hb3.out Hb35.out Hb6.out k7.out k10.out k11.out k13.out k14.out)⟩
end Go.Proofs.Ytmmfigdmdamnlaa
