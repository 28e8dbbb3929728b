/- The law BitsSizes returns true whatever comes in, and nothing that was there is changed. -/
import Derived.Test.YtmmfigdmdamnlaaSpeaks
import Derived.Test.YtmmfigdmdamnlaaRead
namespace Go.Proofs.Ytmmfigdmdamnlaa
open Go.RowKit
set_option linter.unusedVariables false

theorem Row.take {w : World} {B N c k : Nat} {A : Option Addr} {zs : List Nat} (h : Row w B A N c zs) (hk : k ≤ N) : Row w B A k c (zs.take k) := by
  obtain ⟨h1, h2, h3, h4, h5, h6⟩ := h
  refine ⟨by simp; omega, fun x hx => h2 x (List.mem_of_mem_take hx), by omega, h4, h5, fun a ha hn => ?_⟩
  obtain ⟨g1, g2, g3⟩ := h6 a ha (by omega)
  refine ⟨g1, g2, fun j hj => ?_⟩
  rw [g3 j (by omega), List.getD_eq_getElem?_getD, List.getD_eq_getElem?_getD, List.getElem?_take_of_lt hj]

theorem Row.drop {w : World} {B M c k : Nat} {A : Option Addr} {zs : List Nat} (h : Row w B A (k + M) c zs) (hc : ¬ c = k) : Row w B (Option.map (fun x => x.add k) A) M (c - k) (zs.drop k) := by
  obtain ⟨h1, h2, h3, h4, h5, h6⟩ := h
  refine ⟨by simp; omega, fun x hx => h2 x (List.mem_of_mem_drop hx), by omega, by omega, fun ha => ?_, fun a ha hn => ?_⟩
  · cases A with
    | none => have := h5 rfl; omega
    | some a => cases ha
  · cases A with
    | none => cases ha
    | some x =>
      obtain ⟨g1, g2, g3⟩ := h6 x rfl (by omega)
      obtain ⟨b, off, spot⟩ := x
      simp only at g1
      subst g1
      simp only [Option.map_some, Addr.add_lit, Option.some.injEq] at ha
      subst ha
      refine ⟨rfl, g2, fun j hj => ?_⟩
      have := g3 (k + j) (by omega)
      simp only at this ⊢
      rw [Nat.add_assoc, this, List.getD_eq_getElem?_getD, List.getD_eq_getElem?_getD, List.getElem?_drop]
theorem Row.dropAll {w : World} {B M c k : Nat} {A : Option Addr} {zs : List Nat} (h : Row w B A (k + M) c zs) (hc : c = k) : Row w B A M 0 (zs.drop k) := by
  obtain ⟨h1, h2, h3, h4, h5, h6⟩ := h
  have hM : M = 0 := by omega
  subst hM
  refine ⟨by simp; omega, fun x hx => h2 x (List.mem_of_mem_drop hx), by omega, by omega, fun _ => rfl, fun a ha hn => absurd hn (by omega)⟩

theorem sizes_read {xs : List Nat} {v n k : Nat} (hl : xs.length = n) : le (((xs ++ nb v k).drop n).take 8) = v % 256 ^ min k 8 := by
  rw [← hl, List.drop_left, nb_take, le_nb]
theorem sizes_mask (v k : Nat) (hv : v < 18446744073709551616) (hk : k < 8) :
    bits .and .u64 (v : Int) (IntKind.u64.wrap (IntKind.u64.wrap (2 ^ (8 * k)) - 1)) = ((v % 256 ^ k : Nat) : Int) := by
  have h1 : (256 : Nat) ^ k ≤ 256 ^ 7 := Nat.pow_le_pow_right (by omega) (by omega)
  have h2 : (256 : Nat) ^ 7 = 72057594037927936 := by decide
  have h3 : 0 < 256 ^ k := Nat.pow_pos (by omega)
  have e : ((2 : Int) ^ (8 * k)) = ((256 ^ k : Nat) : Int) := by rw [← pow_2_8]; simp
  have hw : IntKind.u64.wrap (IntKind.u64.wrap (2 ^ (8 * k)) - 1) = ((256 ^ k - 1 : Nat) : Int) := by
    rw [e]
    generalize 256 ^ k = y at *
    simp [IntKind.wrap, IntKind.bits, IntKind.signed]
    omega
  rw [hw, u64_and_nat v (256 ^ k - 1) hv (by omega), ← pow_2_8, Nat.and_two_pow_sub_one_eq_mod]
theorem sizes_last {xs : List Nat} {v n k : Nat} (hl : xs.length = n) (hv : v < 18446744073709551616) (hk : k < 8) :
    (((le (((xs ++ nb v k).drop n).take 8) : Nat) : Int) == bits .and .u64 (v : Int) (IntKind.u64.wrap (IntKind.u64.wrap (2 ^ (8 * k)) - 1))) = true := by
  rw [sizes_read hl, sizes_mask v k hv hk, Nat.min_eq_left (by omega)]; simp
theorem sizes_last8 {xs : List Nat} {v n k : Nat} (hl : xs.length = n) (hv : v < 18446744073709551616) (hk : ¬ k < 8) :
    (((le (((xs ++ nb v k).drop n).take 8) : Nat) : Int) == (v : Int)) = true := by
  have h8 : (256 : Nat) ^ 8 = 18446744073709551616 := by decide
  rw [sizes_read hl, Nat.min_eq_right (by omega), Nat.mod_eq_of_lt (by omega)]; simp

theorem sizes_last0 {xs : List Nat} {v n : Nat} (hl : xs.length = n) (hv : v < 18446744073709551616) :
    (((le (((xs ++ nb v 0).drop n).take 8) : Nat) : Int) == bits .and .u64 (v : Int) 0) = true := by
  have h := u64_and_nat v 0 hv (by omega)
  have h : bits .and .u64 (v : Int) 0 = ((v &&& 0 : Nat) : Int) := h
  rw [sizes_read hl, h]; simp [Nat.mod_one]

/-- How many bytes are put, told by cases. -/
theorem many_cases (m : Int) : (m < 0 ∧ many m = 0) ∨ (∃ k : Nat, k ≤ 64 ∧ m = (k : Int) ∧ many m = k) ∨ (64 < m ∧ many m = 64) := by
  unfold many
  by_cases h : m < 0
  · exact .inl ⟨h, by omega⟩
  · by_cases h2 : 64 < m
    · exact .inr (.inr ⟨h2, by omega⟩)
    · exact .inr (.inl ⟨m.toNat, by omega, by omega, by omega⟩)

set_option maxHeartbeats 400000 in
theorem sizes_walk (A : Option Addr) (n c : Nat) (xs : List Nat) (v : Nat) (m : Int) (w : World) (hx : Row w w.heap.size A n c xs) (hv : v < 18446744073709551616) (hm0 : -9223372036854775808 ≤ m) (hm1 : m ≤ 9223372036854775807) :
    Calls Try.prog 6 #[.slice A n c, .int .u64 v, .int .i64 m] w (IsTrue w) := by
  have hmax := hx.max
  by_cases hn : 2000 < n
  · go_enter Try.func6, Try.ntmps6
    go_wp2_with fail
    refine (speaks_any w).mono ?_
    rintro e w1 ⟨rfl, hb1⟩
    have Hb1 := Lib.hid hb1
    clear hb1
    go_wp2
    go_ret
    exact ⟨rfl, Hb1.out⟩
  · have hln : ∀ K, (xs ++ nb v K).length = n + K := fun K => by rw [List.length_append, hx.len, nb_length]
    have Hln := Lib.hid hln
    clear hln
    have hK64 : many m ≤ 64 := by unfold many; omega
    rcases many_cases m with ⟨hm, hK⟩ | ⟨k, hk, rfl, hK⟩ | ⟨hm, hK⟩
    · have HK := Lib.hid hK
      clear hK hK64
      go_enter Try.func6, Try.ntmps6
      go_wp2_with fail
      refine (speaks_any w).mono ?_
      rintro e w1 ⟨rfl, hb1⟩
      have Hb1 := Lib.hid hb1
      have hx1 := (hx.below hb1).wider hb1.size
      clear hb1
      go_wp2_with fail
      refine (number_any A n c xs v m w1 hx1 (by omega) hv hm0 hm1).mono ?_
      rintro e w2 ⟨A2, c2, he, hO2, hb2⟩
      rw [HK.out, Hln.out] at he hO2
      subst he
      have hx2 := hx1.below hb2
      have hr2 := hO2.row
      have hroom := hr2.room
      have hroom' : n ≤ c2 := by omega
      have Hb2 := Lib.hid hb2
      have HO2 := Lib.hid hO2
      have hne : ((n : Int) != (n : Int)) = false := by simp
      clear hb2 hO2
      go_wp2_with fail
      clear hne
      refine (same_any A2 A n n c2 c _ _ _ w2 (hr2.take (by omega)) (hx2.wider Hb2.out.size)).mono ?_
      rintro e w3 ⟨rfl, q, rfl⟩
      have hsame : decide ((xs ++ nb v 0).take n = xs) = true := by
        have := hx.len
        simp [← this]
      rw [hsame]
      clear hsame
      have hb3 : Below w.heap.size w w2 := Hb1.out.trans (Hb2.out.mono Hb1.out.size)
      have HB3 := Lib.hid hb3
      have HX := Lib.hid hx
      clear hb3 hx hx1 hx2
      by_cases hcn : c2 = n
      · go_wp2_with fail
        refine (read_any _ 0 _ _ _ _ ((hr2.dropAll hcn).drewN q)).mono ?_
        rintro e w4 ⟨rfl, rfl⟩
        have ht := sizes_last0 HX.out.len hv
        clear hr2
        go_wp2
        go_ret
        exact ⟨rfl, below_drewN HB3.out⟩
      · go_wp2_with fail
        refine (read_any _ 0 _ _ _ _ ((hr2.drop hcn).drewN q)).mono ?_
        rintro e w4 ⟨rfl, rfl⟩
        have ht := sizes_last0 HX.out.len hv
        clear hr2
        go_wp2
        go_ret
        exact ⟨rfl, below_drewN HB3.out⟩
    · have HK := Lib.hid hK
      clear hK hK64
      go_enter Try.func6, Try.ntmps6
      go_wp2_with fail
      refine (speaks_any w).mono ?_
      rintro e w1 ⟨rfl, hb1⟩
      have Hb1 := Lib.hid hb1
      have hx1 := (hx.below hb1).wider hb1.size
      clear hb1
      go_wp2_with fail
      refine (number_any A n c xs v k w1 hx1 (by omega) hv hm0 hm1).mono ?_
      rintro e w2 ⟨A2, c2, he, hO2, hb2⟩
      rw [HK.out, Hln.out] at he hO2
      subst he
      have hx2 := hx1.below hb2
      have hr2 := hO2.row
      have hroom := hr2.room
      have hroom' : n ≤ c2 := by omega
      have Hb2 := Lib.hid hb2
      have HO2 := Lib.hid hO2
      have hne : ((↑(n + k) : Int) != (↑n + ↑k)) = false := by simp
      clear hb2 hO2
      go_wp2_with fail
      clear hne
      refine (same_any A2 A n n c2 c _ _ _ w2 (hr2.take (by omega)) (hx2.wider Hb2.out.size)).mono ?_
      rintro e w3 ⟨rfl, q, rfl⟩
      have hsame : decide ((xs ++ nb v k).take n = xs) = true := by
        have := hx.len
        simp [← this]
      rw [hsame]
      clear hsame
      have hb3 : Below w.heap.size w w2 := Hb1.out.trans (Hb2.out.mono Hb1.out.size)
      have HB3 := Lib.hid hb3
      have HX := Lib.hid hx
      clear hb3 hx hx1 hx2
      by_cases hcn : c2 = n
      · have h8 : k < 8 := by omega
        go_wp2_with fail
        refine (read_any _ k _ _ _ _ ((hr2.dropAll hcn).drewN q)).mono ?_
        rintro e w4 ⟨rfl, rfl⟩
        have ht := sizes_last HX.out.len hv h8
        clear hr2
        go_wp2
        go_ret
        exact ⟨rfl, below_drewN HB3.out⟩
      · by_cases h8 : k < 8
        · go_wp2_with fail
          refine (read_any _ k _ _ _ _ ((hr2.drop hcn).drewN q)).mono ?_
          rintro e w4 ⟨rfl, rfl⟩
          have ht := sizes_last HX.out.len hv h8
          clear hr2
          go_wp2
          go_ret
          exact ⟨rfl, below_drewN HB3.out⟩
        · go_wp2_with fail
          refine (read_any _ k _ _ _ _ ((hr2.drop hcn).drewN q)).mono ?_
          rintro e w4 ⟨rfl, rfl⟩
          have ht := sizes_last8 HX.out.len hv h8
          clear hr2
          go_wp2
          go_ret
          exact ⟨rfl, below_drewN HB3.out⟩
    · have HK := Lib.hid hK
      clear hK hK64
      go_enter Try.func6, Try.ntmps6
      go_wp2_with fail
      refine (speaks_any w).mono ?_
      rintro e w1 ⟨rfl, hb1⟩
      have Hb1 := Lib.hid hb1
      have hx1 := (hx.below hb1).wider hb1.size
      clear hb1
      go_wp2_with fail
      refine (number_any A n c xs v m w1 hx1 (by omega) hv hm0 hm1).mono ?_
      rintro e w2 ⟨A2, c2, he, hO2, hb2⟩
      rw [HK.out, Hln.out] at he hO2
      subst he
      have hx2 := hx1.below hb2
      have hr2 := hO2.row
      have hroom := hr2.room
      have hroom' : n ≤ c2 := by omega
      have Hb2 := Lib.hid hb2
      have HO2 := Lib.hid hO2
      have hne : ((↑(n + 64) : Int) != ((n : Int) + 64)) = false := by simp
      clear hb2 hO2
      go_wp2_with fail
      clear hne
      refine (same_any A2 A n n c2 c _ _ _ w2 (hr2.take (by omega)) (hx2.wider Hb2.out.size)).mono ?_
      rintro e w3 ⟨rfl, q, rfl⟩
      have hsame : decide ((xs ++ nb v 64).take n = xs) = true := by
        have := hx.len
        simp [← this]
      rw [hsame]
      clear hsame
      have hb3 : Below w.heap.size w w2 := Hb1.out.trans (Hb2.out.mono Hb1.out.size)
      have HB3 := Lib.hid hb3
      have HX := Lib.hid hx
      clear hb3 hx hx1 hx2
      have hcn : ¬ c2 = n := by omega
      go_wp2_with fail
      refine (read_any _ 64 _ _ _ _ ((hr2.drop hcn).drewN q)).mono ?_
      rintro e w4 ⟨rfl, rfl⟩
      have ht := sizes_last8 HX.out.len hv (k := 64) (by omega)
      clear hr2
      go_wp2
      go_ret
      exact ⟨rfl, below_drewN HB3.out⟩
end Go.Proofs.Ytmmfigdmdamnlaa
