/- For every input the law AesField returns true. No condition. -/
import Derived.Test.YtmmfigdmdamnlabSubsWalk
import Derived.Test.YtmmfigdmdamnlabField
namespace Go.Proofs.Ytmmfigdmdamnlab
open Go.RowKit
set_option linter.unusedVariables false

/-- How many of the first k bytes are a byte's inverses. -/
def ones (a k : Nat) : Nat := if a ≠ 0 ∧ pw a 7 < k then 1 else 0
theorem ones_hit (a k : Nat) (ha : a < 256) (hk : k < 256) (h : times a k = 1) : ones a k = 0 ∧ ones a (k + 1) = 1 := by
  have h0 : a ≠ 0 := fun e => by rw [e, times_zero] at h; cases h
  have e := (times_one_iff a k ha hk h0).1 h
  unfold ones
  exact ⟨if_neg (by omega), if_pos ⟨h0, by omega⟩⟩
theorem ones_miss (a k : Nat) (ha : a < 256) (hk : k < 256) (h : ¬ times a k = 1) : ones a (k + 1) = ones a k := by
  unfold ones
  by_cases h0 : a = 0
  · rw [if_neg (by omega), if_neg (by omega)]
  · have e : k ≠ pw a 7 := fun e => h ((times_one_iff a k ha hk h0).2 e)
    by_cases h1 : pw a 7 < k
    · rw [if_pos ⟨h0, by omega⟩, if_pos ⟨h0, h1⟩]
    · rw [if_neg (by omega), if_neg (by omega)]
theorem ones_end (a : Nat) : (a = 0 → ones a 256 = 0) ∧ (a ≠ 0 → ones a 256 = 1) := by
  unfold ones
  exact ⟨fun h => if_neg (by omega), fun h => if_pos ⟨h, pw_lt a 7⟩⟩
attribute [irreducible] ones

set_option maxRecDepth 20000 in
set_option maxHeartbeats 2000000 in
theorem field_any (a b c : Nat) (ha : a < 256) (hb : b < 256) (hc : c < 256) (w : World) : Calls Try.prog 5 #[.int .u8 (a : Int), .int .u8 (b : Int), .int .u8 (c : Int)] w fun e w' => e = .returned (.bool true) ∧ Below w.heap.size w w' := by
  have lbc := times_lt b c hb
  have lab := times_lt a b ha
  have lac := times_lt a c ha
  have lx : b ^^^ c < 256 := Nat.xor_lt_two_pow (n := 8) hb hc
  have T1 := Lib.hid (fun W => times_any b c W hb hc)
  have T2 := Lib.hid (fun W => times_any a (times b c) W ha lbc)
  have T3 := Lib.hid (fun W => times_any a b W ha hb)
  have T4 := Lib.hid (fun W => times_any (times a b) c W lab hc)
  have T5 := Lib.hid (fun W => times_any a (b ^^^ c) W ha lx)
  have T7 := Lib.hid (fun W => times_any a c W ha hc)
  have E1 := Lib.hid (times_assoc a b c ha hb hc)
  have hX : bits .xor .u8 (b : Int) (c : Int) = ((b ^^^ c : Nat) : Int) := u8_xor_nat b c hb hc
  have hY : bits .xor .u8 ((times a b : Nat) : Int) ((times a c : Nat) : Int) = ((times a (b ^^^ c) : Nat) : Int) := by rw [u8_xor_nat _ _ lab lac, times_xor]
  have OE := Lib.hid (ones_end a)
  generalize times b c = p at *
  generalize times a p = q at *
  generalize times a c = t at *
  generalize hr : times a b = r at *
  generalize times r c = q2 at *
  have E2 : Hid (q2 = q) := E1.out.symm
  generalize b ^^^ c = bx at *
  generalize times a bx = s at *
  clear E1 hr
  go_enter Try.func5, Try.ntmps5
  go_wp2_with (first
    | (go_at_call 9; refine (speaks_any _).mono ?_; rintro e W2 ⟨rfl, hb1⟩))
  go_loopw [7, 8] (fun o i wr => ∃ k : Nat, k ≤ 256 ∧ i = .int .i64 k ∧ o = .int .i64 (ones a k : Nat) ∧ wr = W2) (fun _ i _ => 256 - (intOf i).toNat)
  case atStart => exact ⟨0, by omega, rfl, by rw [show ones a 0 = 0 by unfold ones; rw [if_neg (by omega)]]; rfl, rfl⟩
  case round =>
    obtain ⟨k, hk, rfl, rfl, rfl⟩ := hrel
    by_cases hlt : k < 256
    · have TK := Lib.hid (fun W => times_any a k W ha hlt)
      have wk : IntKind.u8.wrap (k : Int) = (k : Int) := IntWalk.u8_in _ (by omega)
      by_cases h1 : times a k = 1
      · obtain ⟨o1, o2⟩ := ones_hit a k ha hlt h1
        have O2 := Lib.hid o2
        rw [o1]
        have H1 := Lib.hid h1
        clear h1 o1 o2
        go_wp2_with (first | (go_at_call 10; refine (TK.out _).mono ?_; rintro e W3 ⟨rfl, rfl⟩; rw [H1.out]))
        go_roundw
        case rel => exact ⟨k + 1, by omega, by go_num, by rw [O2.out]; rfl, trivial⟩
        case measure => simp [intOf]; omega
      · have o1 := Lib.hid (ones_miss a k ha hlt h1)
        have hne : (((times a k : Nat) : Int) == 1) = false := by simp only [beq_eq_false_iff_ne, ne_eq]; omega
        clear h1
        generalize times a k = z at *
        go_wp2_with (first | (go_at_call 10; refine (TK.out _).mono ?_; rintro e W3 ⟨rfl, rfl⟩))
        go_roundw
        case rel => exact ⟨k + 1, by omega, by go_num, by rw [o1.out], trivial⟩
        case measure => simp [intOf]; omega
    · have e4 : ones a k = ones a 256 := by rw [show k = 256 by omega]
      rw [e4]
      clear e4
      by_cases h0 : a = 0
      · rw [OE.out.1 h0]
        have a0 : ((a : Int) == 0) = true := by simp only [beq_iff_eq]; omega
        clear h0
        go_wp2_with (first
          | (go_at_call 10; have _ := d6; refine (T7.out _).mono ?_; rintro e W3 ⟨rfl, rfl⟩)
          | (go_at_call 10; have _ := d5; refine (T3.out _).mono ?_; rintro e W3 ⟨rfl, rfl⟩; have d6 : True := trivial)
          | (go_at_call 10; have _ := d4; refine (T5.out _).mono ?_; rintro e W3 ⟨rfl, rfl⟩; have d5 : True := trivial)
          | (go_at_call 10; have _ := d3; refine (T4.out _).mono ?_; rintro e W3 ⟨rfl, rfl⟩; rw [E2.out]; have d4 : True := trivial)
          | (go_at_call 10; have _ := d2; refine (T3.out _).mono ?_; rintro e W3 ⟨rfl, rfl⟩; have d3 : True := trivial)
          | (go_at_call 10; have _ := d1; refine (T2.out _).mono ?_; rintro e W3 ⟨rfl, rfl⟩; have d2 : True := trivial)
          | (go_at_call 10; refine (T1.out _).mono ?_; rintro e W3 ⟨rfl, rfl⟩; have d1 : True := trivial))
        go_ret
        exact ⟨rfl, hb1⟩
      · rw [OE.out.2 h0]
        have a0 : ((a : Int) == 0) = false := by simp only [beq_eq_false_iff_ne, ne_eq]; omega
        have a1 : ((a : Int) != 0) = true := by simp only [bne_iff_ne, ne_eq]; omega
        clear h0
        go_wp2_with (first
          | (go_at_call 10; have _ := d6; refine (T7.out _).mono ?_; rintro e W3 ⟨rfl, rfl⟩)
          | (go_at_call 10; have _ := d5; refine (T3.out _).mono ?_; rintro e W3 ⟨rfl, rfl⟩; have d6 : True := trivial)
          | (go_at_call 10; have _ := d4; refine (T5.out _).mono ?_; rintro e W3 ⟨rfl, rfl⟩; have d5 : True := trivial)
          | (go_at_call 10; have _ := d3; refine (T4.out _).mono ?_; rintro e W3 ⟨rfl, rfl⟩; rw [E2.out]; have d4 : True := trivial)
          | (go_at_call 10; have _ := d2; refine (T3.out _).mono ?_; rintro e W3 ⟨rfl, rfl⟩; have d3 : True := trivial)
          | (go_at_call 10; have _ := d1; refine (T2.out _).mono ?_; rintro e W3 ⟨rfl, rfl⟩; have d2 : True := trivial)
          | (go_at_call 10; refine (T1.out _).mono ?_; rintro e W3 ⟨rfl, rfl⟩; have d1 : True := trivial))
        go_ret
        exact ⟨rfl, hb1⟩
end Go.Proofs.Ytmmfigdmdamnlab
