/- Rounds one behind the other, and a number that is taken. No statement is proved here. -/
import Derived.Test.YtpibmccofjpelaaRefRound
namespace Go.Proofs.Ytpibmccofjpelaa
open Go.RowKit
set_option linter.unusedVariables false

def rndN (v : V) : Nat → V
  | 0 => v
  | n + 1 => rnd (rndN v n)
theorem rndN_ok (v : V) (h : v.ok) (n : Nat) : (rndN v n).ok := by
  induction n with
  | zero => exact h
  | succ n ih => exact rnd_ok _ ih
theorem round_lit {a b c d a' b' c' d' : Nat} (h : (V.mk a b c d).ok) (e : rnd ⟨a, b, c, d⟩ = ⟨a', b', c', d'⟩) (W : World) :
    Calls Try.prog 15 #[.agg #[.int .u64 a, .int .u64 b, .int .u64 c, .int .u64 d]] W fun e w' => e = .returned (.agg #[.int .u64 a', .int .u64 b', .int .u64 c', .int .u64 d']) ∧ Below W.heap.size W w' := by
  have := round_any ⟨a, b, c, d⟩ h W
  rw [e] at this
  exact this
theorem refRound_lit {a b c d a' b' c' d' : Nat} (h : (V.mk a b c d).ok) (e : rnd ⟨a, b, c, d⟩ = ⟨a', b', c', d'⟩) (W : World) :
    Calls Try.prog 16 #[.agg #[.int .u64 a, .int .u64 b, .int .u64 c, .int .u64 d]] W fun e w' => e = .returned (.agg #[.int .u64 a', .int .u64 b', .int .u64 c', .int .u64 d']) ∧ Below W.heap.size W w' := by
  have := refRound_any ⟨a, b, c, d⟩ h W
  rw [e] at this
  exact this
theorem R4.all {w W : World} {g a b c d : Nat} (h : R4 w W g a b c d) (x y z u : Nat) :
    R4 w ((((W.setCell ⟨g, 0, none⟩ (.int .u64 (x : Int))).setCell ⟨g, 1, none⟩ (.int .u64 (y : Int))).setCell ⟨g, 2, none⟩ (.int .u64 (z : Int))).setCell ⟨g, 3, none⟩ (.int .u64 (u : Int))) g x y z u :=
  (((h.s0 x).s1 y).s2 z).s3 u

def RRel (w : World) (v : V) (n : Nat) (i : Value) (wr : World) : Prop :=
  ∃ k a b c d, k ≤ n ∧ i = .int .i64 (k : Nat) ∧ rndN v k = ⟨a, b, c, d⟩ ∧ R4 w wr w.heap.size a b c d
attribute [local irreducible] rnd

set_option maxHeartbeats 1000000 in
theorem rounds_any (v : V) (n : Nat) (hv : v.ok) (hn : n < 1000) (w : World) :
    Calls Try.prog 38 #[.agg #[.int .u64 v.a, .int .u64 v.b, .int .u64 v.c, .int .u64 v.d], .int .i64 n] w (GivesV w (rndN v n)) := by
  have HV := Lib.hid hv
  have RN := Lib.hid (R4.new w v.a v.b v.c v.d)
  have E0 := Lib.hid (show rndN v 0 = ⟨v.a, v.b, v.c, v.d⟩ from rfl)
  generalize v.a = a0 at *
  generalize v.b = b0 at *
  generalize v.c = c0 at *
  generalize v.d = d0 at *
  clear hv
  go_enter Try.func38, Try.ntmps38
  go_wp2
  go_loopw [6] (RRel w v n) (fun i _ => n - (intOf i).toNat)
  case atStart => exact ⟨0, _, _, _, _, Nat.zero_le _, rfl, E0.out, RN.out⟩
  case round =>
    obtain ⟨k, a, b, c, d, hk, rfl, he, hR⟩ := hrel
    have H := Lib.hid hR
    have HE := Lib.hid he
    have hok : (V.mk a b c d).ok := by rw [← HE.out]; exact rndN_ok v HV.out k
    have HO := Lib.hid hok
    clear hR he hok RN E0
    have q0 := H.out.h0.c0
    have q1 := H.out.h0.c1
    have q2 := H.out.h0.c2
    have q3 := H.out.h0.c3
    by_cases hlt : k < n
    · obtain ⟨a', b', c', d', e'⟩ : ∃ a' b' c' d', rnd ⟨a, b, c, d⟩ = ⟨a', b', c', d'⟩ := ⟨_, _, _, _, rfl⟩
      have E' := Lib.hid e'
      clear e'
      go_wp2_with (go_at_call 15; refine (round_lit HO.out E'.out _).mono ?_; rintro e W1 ⟨rfl, hb⟩; have H1 := Lib.hid (H.out.below hb); clear hb H q0 q1 q2 q3; have q0 := H1.out.h0.c0; have q1 := H1.out.h0.c1; have q2 := H1.out.h0.c2; have q3 := H1.out.h0.c3; have p0 := H1.out.h0.frozen 0; have p1 := H1.out.h0.frozen 1; have p2 := H1.out.h0.frozen 2; have p3 := H1.out.h0.frozen 3)
      go_roundw
      case rel => exact ⟨k + 1, a', b', c', d', hlt, by go_num, by rw [rndN, HE.out, E'.out], H1.out.all a' b' c' d'⟩
      case measure => simp [intOf]; omega
    · have z0 := H.out.h1.c0
      have z1 := H.out.h1.c1
      have z2 := H.out.h1.c2
      have z3 := H.out.h1.c3
      have y0 := H.out.h1.frozen 0
      have y1 := H.out.h1.frozen 1
      have y2 := H.out.h1.frozen 2
      have y3 := H.out.h1.frozen 3
      have HN : Hid (rndN v n = ⟨a, b, c, d⟩) := by rw [show n = k by omega]; exact HE.out
      go_wp2
      rw [HN.out]
      exact bodyPost_ret (results_arr Try.results38 _ _ (w.heap.size + 1) rfl _ (H.out.give a b c d).1.load) rfl ⟨rfl, (H.out.give a b c d).2⟩

theorem rounds_lit {a b c d a' b' c' d' : Nat} (n : Nat) (hn : n < 1000) (h : (V.mk a b c d).ok) (e : rndN ⟨a, b, c, d⟩ n = ⟨a', b', c', d'⟩) (W : World) :
    Calls Try.prog 38 #[.agg #[.int .u64 a, .int .u64 b, .int .u64 c, .int .u64 d], .int .i64 n] W fun e w' => e = .returned (.agg #[.int .u64 a', .int .u64 b', .int .u64 c', .int .u64 d']) ∧ Below W.heap.size W w' := by
  have := rounds_any ⟨a, b, c, d⟩ n h hn W
  rw [e] at this
  exact this
attribute [local irreducible] rndN
/-- The four numbers once they have taken the number m. -/
def takeM (v : V) (m : Nat) : V :=
  let u := rndN ⟨v.a, v.b, v.c, v.d ^^^ m⟩ 2
  ⟨u.a ^^^ m, u.b, u.c, u.d⟩
theorem takeM_ok (v : V) (m : Nat) (h : v.ok) (hm : m < 18446744073709551616) : (takeM v m).ok := by
  obtain ⟨a, b, c, d⟩ := v
  obtain ⟨ha, hb, hc, hd⟩ := h
  have h0 : (V.mk a b c (d ^^^ m)).ok := ⟨ha, hb, hc, xor_lt64 hd hm⟩
  have h1 := rndN_ok (V.mk a b c (d ^^^ m)) h0 2
  unfold takeM
  simp only
  generalize rndN (V.mk a b c (d ^^^ m)) 2 = u at *
  exact ⟨xor_lt64 h1.1 hm, h1.2⟩
set_option maxHeartbeats 1000000 in
theorem taken_with (a b c d m d1 a2 b2 c2 d2 a3 : Nat) (w : World) (hok : (V.mk a b c d1).ok) (e1 : bits .xor .u64 (d : Int) (m : Int) = (d1 : Int)) (e2 : Hid (rndN ⟨a, b, c, d1⟩ 2 = ⟨a2, b2, c2, d2⟩)) (e3 : bits .xor .u64 (a2 : Int) (m : Int) = (a3 : Int)) :
    Calls Try.prog 37 #[.agg #[.int .u64 a, .int .u64 b, .int .u64 c, .int .u64 d], .int .u64 m] w (GivesV w ⟨a3, b2, c2, d2⟩) := by
  have HO := Lib.hid hok
  clear hok
  have RC := Lib.hid (fun W => rounds_lit 2 (by omega) HO.out e2.out W)
  have H := Lib.hid (R4.new w a b c d1)
  go_enter Try.func37, Try.ntmps37
  go_wp2_with (go_at_call 38; refine (RC.out _).mono ?_; rintro e W1 ⟨rfl, hb⟩; have H1 := Lib.hid (H.out.below hb); clear hb H; have q0 := H1.out.h0.c0; have q1 := H1.out.h0.c1; have q2 := H1.out.h0.c2; have q3 := H1.out.h0.c3; have p0 := H1.out.h0.frozen 0; have p1 := H1.out.h0.frozen 1; have p2 := H1.out.h0.frozen 2; have p3 := H1.out.h0.frozen 3
                                                                                    ; have z0 := H1.out.h1.c0; have z1 := H1.out.h1.c1; have z2 := H1.out.h1.c2; have z3 := H1.out.h1.c3; have y0 := H1.out.h1.frozen 0; have y1 := H1.out.h1.frozen 1; have y2 := H1.out.h1.frozen 2; have y3 := H1.out.h1.frozen 3)
  have H2 := ((H1.out.all a2 b2 c2 d2).s0 a3).give a3 b2 c2 d2
  exact bodyPost_ret (results_arr Try.results37 _ _ (w.heap.size + 1) rfl _ H2.1.load) rfl ⟨rfl, H2.2⟩
theorem taken_any (v : V) (m : Nat) (h : v.ok) (hm : m < 18446744073709551616) (w : World) : Calls Try.prog 37 #[.agg #[.int .u64 v.a, .int .u64 v.b, .int .u64 v.c, .int .u64 v.d], .int .u64 m] w (GivesV w (takeM v m)) := by
  obtain ⟨a, b, c, d⟩ := v
  obtain ⟨ha, hb, hc, hd⟩ := h
  have h0 : (V.mk a b c (d ^^^ m)).ok := ⟨ha, hb, hc, xor_lt64 hd hm⟩
  have h1 := rndN_ok (V.mk a b c (d ^^^ m)) h0 2
  unfold takeM
  simp only
  generalize hu : rndN (V.mk a b c (d ^^^ m)) 2 = u at *
  obtain ⟨a2, b2, c2, d2⟩ := u
  exact taken_with a b c d m _ _ _ _ _ _ w h0 (u64_xor_nat _ _ hd hm) hu (u64_xor_nat _ _ h1.1 hm)
theorem taken_lit {a b c d a' b' c' d' : Nat} (m : Nat) (hm : m < 18446744073709551616) (h : (V.mk a b c d).ok) (e : takeM ⟨a, b, c, d⟩ m = ⟨a', b', c', d'⟩) (W : World) :
    Calls Try.prog 37 #[.agg #[.int .u64 a, .int .u64 b, .int .u64 c, .int .u64 d], .int .u64 m] W fun e w' => e = .returned (.agg #[.int .u64 a', .int .u64 b', .int .u64 c', .int .u64 d']) ∧ Below W.heap.size W w' := by
  have := taken_any ⟨a, b, c, d⟩ m h hm W
  rw [e] at this
  exact this
end Go.Proofs.Ytpibmccofjpelaa
