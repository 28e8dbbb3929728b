/- Rounds of unlike numbers are unlike; two rows of four numbers compared. No statement is proved here. -/
import Derived.Test.YtpibmccofjpelaaSpeaks
import Derived.Stop.BytesEq
namespace Go.Proofs.Ytpibmccofjpelaa
open Go.RowKit
set_option linter.unusedVariables false

theorem rot_sum (x n : Nat) (h0 : 0 < n) (hn : n < 64) (hx : x < 2 ^ 64) : rot x n = (x % 2 ^ (64 - n)) * 2 ^ n + x / 2 ^ (64 - n) := by
  unfold rot
  have e64 : (18446744073709551616 : Nat) = 2 ^ (64 - n) * 2 ^ n := by rw [← Nat.pow_add, show 64 - n + n = 64 by omega]
  rw [e64, Nat.mul_mod_mul_right]
  refine nat_join n _ _ (Nat.mul_mod_left _ _) ?_
  rw [Nat.div_lt_iff_lt_mul (Nat.pow_pos (by omega)), ← Nat.pow_add, show n + (64 - n) = 64 by omega]
  exact hx
theorem rot_inj (x y n : Nat) (h0 : 0 < n) (hn : n < 64) (hx : x < 2 ^ 64) (hy : y < 2 ^ 64) (h : rot x n = rot y n) : x = y := by
  rw [rot_sum x n h0 hn hx, rot_sum y n h0 hn hy] at h
  have key : ∀ z, z < 2 ^ 64 → z / 2 ^ (64 - n) < 2 ^ n := fun z hz => by
    rw [Nat.div_lt_iff_lt_mul (Nat.pow_pos (by omega)), ← Nat.pow_add, show n + (64 - n) = 64 by omega]
    exact hz
  have kx := key x hx
  have ky := key y hy
  have dx := Nat.div_add_mod x (2 ^ (64 - n))
  have dy := Nat.div_add_mod y (2 ^ (64 - n))
  have hp : 0 < 2 ^ n := Nat.pow_pos (by omega)
  generalize x % 2 ^ (64 - n) = x0 at *
  generalize y % 2 ^ (64 - n) = y0 at *
  generalize x / 2 ^ (64 - n) = x1 at *
  generalize y / 2 ^ (64 - n) = y1 at *
  have h1 : x1 = y1 := by
    have this : (x0 * 2 ^ n + x1) % 2 ^ n = (y0 * 2 ^ n + y1) % 2 ^ n := by rw [h]
    rwa [Nat.mul_comm, Nat.mul_add_mod, Nat.mod_eq_of_lt kx, Nat.mul_comm, Nat.mul_add_mod, Nat.mod_eq_of_lt ky] at this
  subst h1
  have h2 : x0 = y0 := Nat.eq_of_mul_eq_mul_right hp (Nat.add_right_cancel h)
  subst h2
  rw [← dx, ← dy]
theorem xor_right {a b c : Nat} (h : a ^^^ c = b ^^^ c) : a = b := by
  have := congrArg (· ^^^ c) h
  simpa [Nat.xor_assoc] using this
theorem plus_left {a b c : Nat} (ha : a < 18446744073709551616) (hb : b < 18446744073709551616) (h : plus a c = plus b c) : a = b := by
  unfold plus at h; omega
theorem rnd_inj (u v : V) (hu : u.ok) (hv : v.ok) (h : rnd u = rnd v) : u = v := by
  obtain ⟨a, b, c, d⟩ := u
  obtain ⟨a', b', c', d'⟩ := v
  obtain ⟨ha, hb, hc, hd⟩ := hu
  obtain ⟨ha', hb', hc', hd'⟩ := hv
  simp only at ha hb hc hd ha' hb' hc' hd'
  simp only [rnd, V.mk.injEq] at h
  obtain ⟨h1, h2, h3, h4⟩ := h
  have P := plus_lt
  have X := @xor_lt64
  have c2 := rot_inj _ _ 32 (by omega) (by omega) (P _ _) (P _ _) h3
  rw [c2] at h2
  have b1 := rot_inj _ _ 17 (by omega) (by omega) (X (rot_lt _ _ hb) (P _ _)) (X (rot_lt _ _ hb') (P _ _)) (xor_right h2)
  rw [h1] at h4
  have d1 := rot_inj _ _ 21 (by omega) (by omega) (X (rot_lt _ _ hd) (P _ _)) (X (rot_lt _ _ hd') (P _ _)) (xor_right h4)
  rw [b1] at c2
  have c1 := plus_left (P _ _) (P _ _) c2
  rw [d1] at h1
  have a2 := plus_left (rot_lt _ _ (P _ _)) (rot_lt _ _ (P _ _)) h1
  have a1 := rot_inj _ _ 32 (by omega) (by omega) (P _ _) (P _ _) a2
  rw [a1] at b1
  have eb := rot_inj _ _ 13 (by omega) (by omega) hb hb' (xor_right b1)
  rw [c1] at d1
  have ed := rot_inj _ _ 16 (by omega) (by omega) hd hd' (xor_right d1)
  subst eb ed
  have ea := plus_left ha ha' a1
  have ec := plus_left hc hc' c1
  subst ea ec
  rfl
instance : DecidableEq V := fun u v => if h : u.a = v.a ∧ u.b = v.b ∧ u.c = v.c ∧ u.d = v.d then .isTrue (by cases u; cases v; simp_all) else .isFalse (fun e => h (by subst e; exact ⟨rfl, rfl, rfl, rfl⟩))
theorem rnd_zero : rnd ⟨0, 0, 0, 0⟩ = ⟨0, 0, 0, 0⟩ := by decide +kernel
def cell64 (x : Nat) : Value := .int .u64 (x : Int)
theorem all_range_eqN : ∀ (xs ys : List Nat), xs.length = ys.length → ((List.range xs.length).all fun i => xs.getD i 0 == ys.getD i 0) = (xs == ys)
  | [], [], _ => rfl
  | x :: xs, y :: ys, h => by
    have ih := all_range_eqN xs ys (by simpa using h)
    rw [List.length_cons, List.range_succ_eq_map, List.all_cons, List.all_map]
    simp only [List.getD_cons_zero, Function.comp_def, List.getD_cons_succ, ih]
    simp [List.cons_beq_cons]
  | [], _ :: _, h => by simp at h
  | _ :: _, [], h => by simp at h
theorem run_equalIn_u64 {P : Program} (w : World) (d : Nat) (t e : TypeId) (n : Nat) (ht : P.underlying t = some (.array n e)) (he : P.underlying e = some (.int .u64)) (hsz : ∀ w, (sizeOf e).run P w = .ok 1 w)
    (xs ys : List Nat) (hx : xs.length = n) (hy : ys.length = n) :
    (Op.equalIn (d + 2) t (.agg (xs.map cell64).toArray) (.agg (ys.map cell64).toArray)).run P w = .ok (xs == ys) w := by
  rw [← all_range_eqN xs ys (hx.trans hy.symm), hx, List.range_eq_range', Op.equalIn]
  simp only [Sem.run_bind, run_underlying ht, Result.andThen_ok, hsz, Std.Legacy.Range.forIn_eq_forIn_range', Std.Legacy.Range.size, Nat.sub_zero, Nat.add_sub_cancel, Nat.div_one]
  have hl : ∀ i ∈ List.range' 0 n 1, i < n := fun i hi => by simpa using (List.mem_range'_1.1 hi).2
  generalize List.range' 0 n 1 = l at hl ⊢
  induction l with
  | nil => simp
  | cons i l ih =>
    have hi : i < n := hl i (by simp)
    have px : (part e (xs.map cell64).toArray (i * 1)).run P w = .ok (cell64 (xs.getD i 0)) w := by
      simp [part, isAgg, run_underlying he, List.getD, List.getElem?_eq_getElem (show i < xs.length by omega)]
    have py : (part e (ys.map cell64).toArray (i * 1)).run P w = .ok (cell64 (ys.getD i 0)) w := by
      simp [part, isAgg, run_underlying he, List.getD, List.getElem?_eq_getElem (show i < ys.length by omega)]
    have pe : (Op.equalIn (d + 1) e (cell64 (xs.getD i 0)) (cell64 (ys.getD i 0))).run P w = .ok (xs.getD i 0 == ys.getD i 0) w := by
      rw [cell64, cell64, run_equalIn_int w d e .u64 .u64 _ _ he]
      congr 1
      rw [Bool.eq_iff_iff]
      simp
      omega
    simp only [List.forIn_cons, Sem.run_bind, px, py, pe, Result.andThen_ok, List.all_cons]
    cases hb : (xs.getD i 0 == ys.getD i 0)
    · simp
    · simp only [Bool.not_true, Bool.false_eq_true, if_false, Sem.run_pure, Result.andThen_ok, Bool.true_and]
      exact ih fun j hj => hl j (by simp [hj])
theorem eql_four (u v : V) (w : World) : (binOp .eql 26 (.agg #[.int .u64 (u.a : Int), .int .u64 (u.b : Int), .int .u64 (u.c : Int), .int .u64 (u.d : Int)]) (.agg #[.int .u64 (v.a : Int), .int .u64 (v.b : Int), .int .u64 (v.c : Int), .int .u64 (v.d : Int)])).run Try.prog w = .ok (.bool (decide (u = v))) w := by
  have h := run_equalIn_u64 (P := Try.prog) w 9998 26 25 4 Try.underlying26 Try.underlying25 (fun _ => by kernel_rfl) [u.a, u.b, u.c, u.d] [v.a, v.b, v.c, v.d] rfl rfl
  have e : ([u.a, u.b, u.c, u.d] == [v.a, v.b, v.c, v.d]) = decide (u = v) := by
    obtain ⟨a, b, c, d⟩ := u
    obtain ⟨a', b', c', d'⟩ := v
    rw [Bool.eq_iff_iff]
    simp
  rw [e] at h
  rw [run_eql_struct]
  exact (congrArg (fun r : Result Bool => r.andThen fun b w' => Result.ok (Value.bool b) w') h).trans rfl
theorem eql_lit (a b c d a' b' c' d' : Nat) (B : Bool) (h : decide (V.mk a b c d = V.mk a' b' c' d') = B) (w : World) : (binOp .eql 26 (.agg #[.int .u64 (a : Int), .int .u64 (b : Int), .int .u64 (c : Int), .int .u64 (d : Int)]) (.agg #[.int .u64 (a' : Int), .int .u64 (b' : Int), .int .u64 (c' : Int), .int .u64 (d' : Int)])).run Try.prog w = .ok (.bool B) w := by
  rw [← h]; exact eql_four ⟨a, b, c, d⟩ ⟨a', b', c', d'⟩ w
end Go.Proofs.Ytpibmccofjpelaa
