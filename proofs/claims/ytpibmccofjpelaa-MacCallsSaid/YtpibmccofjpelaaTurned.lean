/- Numbers of 64 bits, turned, and a round of four of them. No statement is proved here. -/
import Derived.Test.YtpibmccofjpelaaRead
namespace Go.Proofs.Ytpibmccofjpelaa
open Go.RowKit
set_option linter.unusedVariables false

/-- x, turned by n to the left. -/
def rot (x n : Nat) : Nat := (x * 2 ^ n % 18446744073709551616) ||| (x / 2 ^ (64 - n))
theorem rot_lt (x n : Nat) (hx : x < 18446744073709551616) : rot x n < 18446744073709551616 := by
  unfold rot
  refine Nat.or_lt_two_pow (n := 64) (Nat.mod_lt _ (by omega)) (Nat.lt_of_le_of_lt (Nat.div_le_self _ _) hx)
theorem rot_of (x n : Nat) (hx : x < 18446744073709551616) :
    bits .or .u64 (IntKind.u64.wrap ((x : Int) * 2 ^ n)) ((x : Int) / 2 ^ (64 - n)) = ((rot x n : Nat) : Int) := by
  have e1 : IntKind.u64.wrap ((x : Int) * 2 ^ n) = ((x * 2 ^ n % 18446744073709551616 : Nat) : Int) := by
    simp [IntKind.wrap, IntKind.bits, IntKind.signed]
  have e2 : ((x : Int) / 2 ^ (64 - n)) = ((x / 2 ^ (64 - n) : Nat) : Int) := by simp
  rw [e1, e2]
  exact u64_or_nat _ _ (Nat.mod_lt _ (by omega)) (Nat.lt_of_le_of_lt (Nat.div_le_self _ _) hx)

set_option maxHeartbeats 400000 in
theorem turned_any (x n : Nat) (w : World) (hx : x < 18446744073709551616) (h0 : 0 < n) (hn : n < 64) : Calls Try.prog 34 #[.int .u64 x, .int .i64 n] w fun e w' => e = .returned (.int .u64 (rot x n : Nat)) ∧ ∃ k, w' = w.drewN k := by
  have w1 : IntKind.i64.wrap (64 - (n : Int)) = 64 - (n : Int) := IntWalk.i64_in _ (by omega)
  have HX := Lib.hid (rot_of x n hx)
  go_enter Try.func34, Try.ntmps34
  go_wp2
  go_quiet (fail)
  go_wp2
  go_ret
  exact ⟨ret_int HX.out, _, rfl⟩
set_option maxHeartbeats 400000 in
theorem turn_any (x n : Nat) (w : World) (hx : x < 18446744073709551616) (h0 : 0 < n) (hn : n < 64) : Calls Try.prog 35 #[.int .u64 x, .int .i64 n] w fun e w' => e = .returned (.int .u64 (rot x n : Nat)) ∧ ∃ k, w' = w.drewN k := by
  have w1 : IntKind.i64.wrap (64 - (n : Int)) = 64 - (n : Int) := IntWalk.i64_in _ (by omega)
  have HX := Lib.hid (rot_of x n hx)
  go_enter Try.func35, Try.ntmps35
  go_wp2
  go_quiet (fail)
  go_wp2
  go_ret
  exact ⟨ret_int HX.out, _, rfl⟩

/-- Four numbers. -/
structure V where
  a : Nat
  b : Nat
  c : Nat
  d : Nat
def V.ok (v : V) : Prop := v.a < 18446744073709551616 ∧ v.b < 18446744073709551616 ∧ v.c < 18446744073709551616 ∧ v.d < 18446744073709551616
def V.val (v : V) : Value := .agg #[.int .u64 v.a, .int .u64 v.b, .int .u64 v.c, .int .u64 v.d]
def plus (a b : Nat) : Nat := (a + b) % 18446744073709551616
theorem plus_lt (a b : Nat) : plus a b < 18446744073709551616 := Nat.mod_lt _ (by omega)
theorem plus_of (a b : Nat) : IntKind.u64.wrap ((a : Int) + (b : Int)) = ((plus a b : Nat) : Int) := by
  simp [IntKind.wrap, IntKind.bits, IntKind.signed, plus]
theorem xor_lt64 {a b : Nat} (ha : a < 18446744073709551616) (hb : b < 18446744073709551616) : a ^^^ b < 18446744073709551616 := Nat.xor_lt_two_pow (n := 64) ha hb
/-- A round, as the document tells it. -/
def rnd (v : V) : V :=
  let a1 := plus v.a v.b
  let b1 := rot v.b 13 ^^^ a1
  let a2 := rot a1 32
  let c1 := plus v.c v.d
  let d1 := rot v.d 16 ^^^ c1
  let a3 := plus a2 d1
  let d2 := rot d1 21 ^^^ a3
  let c2 := plus c1 b1
  let b2 := rot b1 17 ^^^ c2
  ⟨a3, b2, rot c2 32, d2⟩
theorem rnd_ok (v : V) (h : v.ok) : (rnd v).ok := by
  obtain ⟨ha, hb, hc, hd⟩ := h
  have l1 := plus_lt v.a v.b
  have l2 := xor_lt64 (rot_lt v.b 13 hb) l1
  have l4 := plus_lt v.c v.d
  have l5 := xor_lt64 (rot_lt v.d 16 hd) l4
  refine ⟨plus_lt _ _, xor_lt64 (rot_lt _ 17 l2) (plus_lt _ _), rot_lt _ 32 (plus_lt _ _), xor_lt64 (rot_lt _ 21 l5) (plus_lt _ _)⟩
end Go.Proofs.Ytpibmccofjpelaa
