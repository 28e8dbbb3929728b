/- The law BitsJoins returns true whatever comes in, and nothing that was there is changed. -/
import Derived.Test.YtmmfigdmdamnlaaSpeaks
import Derived.Test.YtmmfigdmdamnlaaXor
import Derived.Test.YtmmfigdmdamnlaaHex
namespace Go.Proofs.Ytmmfigdmdamnlaa
open Go.RowKit
set_option linter.unusedVariables false

theorem txt_toList (ns : List Nat) : (txt ns).toList = ns.map UInt8.ofNat := by simp [txt]
theorem txt_size (ns : List Nat) : (txt ns).size = ns.length := by simp [txt, ByteArray.size]
theorem txt_append (xs ys : List Nat) : txt xs ++ txt ys = txt (xs ++ ys) := by
  unfold txt
  rw [ByteArray.mk_append_mk, List.map_append]
theorem xorL_self (xs : List Nat) : xorL xs xs = List.replicate xs.length 0 := by
  induction xs with
  | nil => rfl
  | cons x r ih => simp only [xorL, List.zipWith_cons_cons, Nat.xor_self, List.length_cons, List.replicate_succ]; exact congrArg _ ih

theorem getD_zeros (n k : Nat) : (List.replicate n 0).getD k 0 = 0 := by
  rw [List.getD_eq_getElem?_getD, List.getElem?_replicate]
  split <;> rfl

set_option maxHeartbeats 400000 in
theorem joins_far (A1 A2 : Option Addr) (n m c1 c2 : Nat) (xs ys : List Nat) (w : World) (hx : Row w w.heap.size A1 n c1 xs) (hy : Row w w.heap.size A2 m c2 ys) (h : 500 < n ∨ 500 < m) :
    Calls Try.prog 8 #[.slice A1 n c1, .slice A2 m c2] w (IsTrue w) := by
  have h1 := hx.max
  have h2 := hy.max
  have HX := Lib.hid hx
  have HY := Lib.hid hy
  clear hx hy
  by_cases hn : 500 < n
  · have d0 : decide (500 < (n : Int)) = true := by simp; omega
    clear h
    go_enter Try.func8, Try.ntmps8
    go_wp2_with fail
    refine (speaks_any w).mono ?_
    rintro e w1 ⟨rfl, hb1⟩
    have Hb1 := Lib.hid hb1
    clear hb1
    go_wp2
    go_ret
    exact ⟨rfl, Hb1.out⟩
  · have d0 : decide (500 < (n : Int)) = false := by simp; omega
    have d1 : decide (500 < (m : Int)) = true := by simp; omega
    clear h
    go_enter Try.func8, Try.ntmps8
    go_wp2_with fail
    refine (speaks_any w).mono ?_
    rintro e w1 ⟨rfl, hb1⟩
    have Hb1 := Lib.hid hb1
    clear hb1
    go_wp2
    go_ret
    exact ⟨rfl, Hb1.out⟩

set_option maxHeartbeats 400000 in
theorem joins_near (A1 A2 : Option Addr) (n m c1 c2 : Nat) (xs ys : List Nat) (w : World) (hx : Row w w.heap.size A1 n c1 xs) (hy : Row w w.heap.size A2 m c2 ys) (hn : n ≤ 500) (hm : m ≤ 500) :
    Calls Try.prog 8 #[.slice A1 n c1, .slice A2 m c2] w (IsTrue w) := by
  have d0 : decide (500 < (n : Int)) = false := by simp; omega
  have d1 : decide (500 < (m : Int)) = false := by simp; omega
  go_enter Try.func8, Try.ntmps8
  go_wp2_with fail
  refine (speaks_any w).mono ?_
  rintro e w1 ⟨rfl, hb1⟩
  have hx1 := (hx.below hb1).wider hb1.size
  have hy1 := (hy.below hb1).wider hb1.size
  have Hb1 := Lib.hid hb1
  have HX := Lib.hid hx
  have HY := Lib.hid hy
  clear hb1 hx hy
  go_wp2_with (first
    | (at_builtin; refine wpList_append_row _ rfl (.tmp 18) (.tmp 19) rfl w1.heap.size (some ⟨w1.heap.size, 0, none⟩) 0 0 [] rfl (Own.empty (Nat.le_refl _)) w1.heap.size A1 n c1 xs rfl (hx1.alloc (Nat.le_refl _) _) (by omega) (by simp) ?_; intro A3 c3 w3 hO3 hg3 hbl3; have hb3 := below_first hg3; have hy3 := hy1.below hb3; have hO3' : Own w3 w1.heap.size A3 n c3 xs := (by simpa using hO3); have HO3 := Lib.hid hO3'; clear hO3'; have Hb3 := Lib.hid hb3; clear hO3 hb3 hg3 hbl3)
    | (at_builtin; refine wpList_append_row _ rfl (.tmp 20) (.tmp 21) rfl w1.heap.size A3 n c3 xs rfl HO3.out w1.heap.size A2 m c2 ys rfl hy3 (by omega) Hb3.out.size ?_; intro A4 c4 w4 hO4 hg4 hbl4))
  have hb4 : Below w1.heap.size w1 w4 := Hb3.out.grown hg4 Hb3.out.size (fun k hk => (HO3.out.2.2.lt k hk).1)
  have hx4 := (hx1.below hb4).wider hb4.size
  have hy4 := (hy1.below hb4).wider hb4.size
  have Hb4 := Lib.hid hb4
  have HO4 := Lib.hid hO4
  clear hb4 hO4 hg4 hbl4 hx1 hy1 hy3 HO3 Hb3 d0 d1
  refine (hex_any A4 (n + m) c4 (xs ++ ys) w4 HO4.out.row (by omega)).mono ?_
  rintro e w5 ⟨rfl, hb5⟩
  have hx5 := (hx4.below hb5).wider hb5.size
  have hy5 := (hy4.below hb5).wider hb5.size
  have HO5 := Lib.hid (HO4.out.below hb5)
  have Hb5 := Lib.hid hb5
  clear hb5 hx4 hy4 HO4
  go_wp2_with fail
  refine (hex_any A1 n c1 xs w5 hx5 (by omega)).mono ?_
  rintro e w6 ⟨rfl, hb6⟩
  have hx6 := (hx5.below hb6).wider hb6.size
  have hy6 := (hy5.below hb6).wider hb6.size
  have HO6 := Lib.hid (HO5.out.below hb6)
  have Hb6 := Lib.hid hb6
  clear hb6 hx5 hy5 HO5
  go_wp2_with fail
  refine (hex_any A2 m c2 ys w6 hy6 (by omega)).mono ?_
  rintro e w7 ⟨rfl, hb7⟩
  have hx7 := (hx6.below hb7).wider hb7.size
  have hy7 := (hy6.below hb7).wider hb7.size
  have HO7 := Lib.hid (HO6.out.below hb7)
  have Hb7 := Lib.hid hb7
  clear hb7 hx6 hy6 HO6
  have s1 : (txt (hexL xs)).size = 2 * n := by rw [txt_size, hexL_length, HX.out.len]
  have s2 : (txt (hexL ys)).size = 2 * m := by rw [txt_size, hexL_length, HY.out.len]
  have s3 : ((txt (hexL (xs ++ ys))).toList == (txt (hexL xs) ++ txt (hexL ys)).toList) = true := by rw [txt_append, ← hexL_append]; simp
  go_wp2_with fail
  clear s3 s2
  refine (hex_any A1 n c1 xs w7 hx7 (by omega)).mono ?_
  rintro e w8 ⟨rfl, hb8⟩
  have hx8 := (hx7.below hb8).wider hb8.size
  have HO8 := Lib.hid (HO7.out.below hb8)
  have Hb8 := Lib.hid hb8
  clear hb8 hx7 hy7 HO7
  go_wp2_with fail
  clear s1
  refine (xor_any A4 A4 (n + m) (n + m) c4 c4 (xs ++ ys) (xs ++ ys) w8 HO8.out.row HO8.out.row (by omega) (by omega)).mono ?_
  intro e w9 hG9
  rw [xorL_self] at hG9
  obtain ⟨A9, c9, rfl, hO9, hb9⟩ := hG9.out (N := n + m) (by rw [List.length_replicate]; exact HO8.out.len)
  have hx9 := (hx8.below hb9).wider hb9.size
  have HO89 := Lib.hid (HO8.out.below hb9)
  have Hb9 := Lib.hid hb9
  have HO9 := Lib.hid hO9
  clear hb9 hO9 hG9 hx8 HO8
  go_wp2_with fail
  go_loop [44] (fun i => ∃ k : Nat, k ≤ n + m ∧ i = .int .i64 k) (fun i => n + m - (intOf i).toNat)
  case atStart => exact ⟨0, by omega, rfl⟩
  case round =>
    obtain ⟨k, hk, rfl⟩ := hrel
    by_cases hlt : k < n + m
    · obtain ⟨b, off, rfl, _, hc⟩ := HO9.out.row.at_ (by omega)
      have hck := hc k hlt
      rw [getD_zeros] at hck
      clear hc
      go_wp2
      go_round
      case rel => exact ⟨k + 1, by omega, by go_num⟩
      case measure => simp [intOf]; omega
    · go_wp2_with fail
      refine (xor_any A4 A1 (n + m) n c4 c1 (xs ++ ys) xs w9 HO89.out.row hx9 (by omega) (by omega)).mono ?_
      intro e w10 hG10
      obtain ⟨A10, c10, rfl, hO10, hb10⟩ := hG10.out (N := n) (by rw [xorL_length, HO89.out.len, HX.out.len]; omega)
      have Hb10 := Lib.hid hb10
      clear hb10 hO10 hG10 hx9
      have ht : ((n : Int) == (n : Int)) = true := by simp
      go_wp2
      go_ret
      have q4 := Hb1.out.trans (Hb4.out.mono Hb1.out.size)
      have q5 := q4.trans (Hb5.out.mono q4.size)
      have q6 := q5.trans (Hb6.out.mono q5.size)
      have q7 := q6.trans (Hb7.out.mono q6.size)
      have q8 := q7.trans (Hb8.out.mono q7.size)
      have q9 := q8.trans (Hb9.out.mono q8.size)
      exact ⟨rfl, q9.trans (Hb10.out.mono q9.size)⟩

theorem joins_walk (A1 A2 : Option Addr) (n m c1 c2 : Nat) (xs ys : List Nat) (w : World) (hx : Row w w.heap.size A1 n c1 xs) (hy : Row w w.heap.size A2 m c2 ys) :
    Calls Try.prog 8 #[.slice A1 n c1, .slice A2 m c2] w (IsTrue w) := by
  by_cases h : 500 < n ∨ 500 < m
  · exact joins_far A1 A2 n m c1 c2 xs ys w hx hy h
  · exact joins_near A1 A2 n m c1 c2 xs ys w hx hy (by omega) (by omega)
end Go.Proofs.Ytmmfigdmdamnlaa
