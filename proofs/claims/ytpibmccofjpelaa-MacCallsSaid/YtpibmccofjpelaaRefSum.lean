/- The number of bytes by a key, as the document tells it. No statement is proved here. -/
import Derived.Test.YtpibmccofjpelaaSum
namespace Go.Proofs.Ytpibmccofjpelaa
open Go.RowKit
set_option linter.unusedVariables false

theorem Row.take {w : World} {B N c k : Nat} {A : Option Addr} {zs : List Nat} (h : Row w B A N c zs) (hk : k ≤ N) : Row w B A k c (zs.take k) := by
  obtain ⟨h1, h2, h3, h4, h5, h6⟩ := h
  refine ⟨by simp; omega, fun x hx => h2 x (List.mem_of_mem_take hx), by omega, h4, h5, fun a ha hn => ?_⟩
  obtain ⟨g1, g2, g3⟩ := h6 a ha (by omega)
  refine ⟨g1, g2, fun j hj => ?_⟩
  rw [g3 j (by omega), List.getD_eq_getElem?_getD, List.getD_eq_getElem?_getD, List.getElem?_take_of_lt hj]
theorem Row.drop {w : World} {B M c k : Nat} {A : Option Addr} {zs : List Nat} (h : Row w B A (k + M) c zs) (hc : ¬ c = k) : Row w B (Option.map (fun x => x.add k) A) M (c - k) (zs.drop k) := by
  obtain ⟨h1, h2, h3, h4, h5, h6⟩ := h
  refine ⟨by simp; omega, fun x hx => h2 x (List.mem_of_mem_drop hx), by omega, by omega, fun ha => ?_, fun a ha hn => ?_⟩
  · cases A with
    | none => have := h5 rfl; omega
    | some a => cases ha
  · cases A with
    | none => cases ha
    | some x =>
      obtain ⟨g1, g2, g3⟩ := h6 x rfl (by omega)
      obtain ⟨b, off, spot⟩ := x
      simp only at g1
      subst g1
      simp only [Option.map_some, Addr.add_lit, Option.some.injEq] at ha
      subst ha
      refine ⟨rfl, g2, fun j hj => ?_⟩
      have := g3 (k + j) (by omega)
      simp only at this ⊢
      rw [Nat.add_assoc, this, List.getD_eq_getElem?_getD, List.getD_eq_getElem?_getD, List.getElem?_drop]
theorem Row.dropAll {w : World} {B M c k : Nat} {A : Option Addr} {zs : List Nat} (h : Row w B A (k + M) c zs) (hc : c = k) : Row w B A M 0 (zs.drop k) := by
  obtain ⟨h1, h2, h3, h4, h5, h6⟩ := h
  have hM : M = 0 := by omega
  subst hM
  refine ⟨by simp; omega, fun x hx => h2 x (List.mem_of_mem_drop hx), by omega, by omega, fun _ => rfl, fun a ha hn => absurd hn (by omega)⟩

/-- The number of the eight bytes from 8 j on, or the last one. -/
def refm (xs : List Nat) (j : Nat) : Nat := if 8 * j + 8 ≤ xs.length then le ((xs.drop (8 * j)).take 8) else le (xs.drop (8 * j)) + xs.length % 256 * 72057594037927936
def refV (v : V) (xs : List Nat) : Nat → V
  | 0 => v
  | j + 1 => takeM (refV v xs j) (refm xs j)
theorem refm_lt (xs : List Nat) (j : Nat) (h : ∀ x ∈ xs, x < 256) : refm xs j < 18446744073709551616 := by
  unfold refm
  have h8 : (256 : Nat) ^ 8 = 18446744073709551616 := by decide
  have h7 : (256 : Nat) ^ 7 = 72057594037927936 := by decide
  split
  · have := le_take_lt (xs.drop (8 * j)) 8 (fun x hx => h x (List.mem_of_mem_drop hx))
    omega
  · have h1 := le_lt (xs.drop (8 * j)) (fun x hx => h x (List.mem_of_mem_drop hx))
    have h2 : (256 : Nat) ^ (xs.drop (8 * j)).length ≤ 256 ^ 7 := Nat.pow_le_pow_right (by omega) (by simp; omega)
    omega
theorem refV_ok (v : V) (xs : List Nat) (hv : v.ok) (h : ∀ x ∈ xs, x < 256) (j : Nat) : (refV v xs j).ok := by
  induction j with
  | zero => exact hv
  | succ j ih => exact takeM_ok _ _ ih (refm_lt xs j h)
def rsum (key xs : List Nat) : Nat := fin (refV (hstart key).v xs (xs.length / 8 + 1))

structure S4 (w W : World) (g : Nat) (v : V) : Prop where
  h0 : Blk4 W g v.a v.b v.c v.d
  hg : w.heap.size ≤ g
  hw : Below w.heap.size w W
theorem S4.below {w W W' : World} {g : Nat} {v : V} (h : S4 w W g v) (hb : Below W.heap.size W W') : S4 w W' g v := ⟨h.h0.below hb h.h0.lt, h.hg, h.hw.trans (hb.mono h.hw.size)⟩
theorem S4.drewN {w W : World} {g : Nat} {v : V} (h : S4 w W g v) (n : Nat) : S4 w (W.drewN n) g v := ⟨h.h0, h.hg, below_drewN h.hw⟩
theorem S4.s0 {w W : World} {g a b c d : Nat} (h : S4 w W g ⟨a, b, c, d⟩) (x : Nat) : S4 w (W.setCell ⟨g, 0, none⟩ (.int .u64 (x : Int))) g ⟨x, b, c, d⟩ := ⟨h.h0.s0 x, h.hg, h.hw.setCell h.hg _⟩
theorem S4.s2 {w W : World} {g a b c d : Nat} (h : S4 w W g ⟨a, b, c, d⟩) (x : Nat) : S4 w (W.setCell ⟨g, 2, none⟩ (.int .u64 (x : Int))) g ⟨a, b, x, d⟩ := ⟨h.h0.s2 x, h.hg, h.hw.setCell h.hg _⟩
theorem S4.s3 {w W : World} {g a b c d : Nat} (h : S4 w W g ⟨a, b, c, d⟩) (x : Nat) : S4 w (W.setCell ⟨g, 3, none⟩ (.int .u64 (x : Int))) g ⟨a, b, c, x⟩ := ⟨h.h0.s3 x, h.hg, h.hw.setCell h.hg _⟩
theorem S4.all {w W : World} {g a b c d : Nat} (h : S4 w W g ⟨a, b, c, d⟩) (x y z u : Nat) :
    S4 w ((((W.setCell ⟨g, 0, none⟩ (.int .u64 (x : Int))).setCell ⟨g, 1, none⟩ (.int .u64 (y : Int))).setCell ⟨g, 2, none⟩ (.int .u64 (z : Int))).setCell ⟨g, 3, none⟩ (.int .u64 (u : Int))) g ⟨x, y, z, u⟩ :=
  ⟨(((h.h0.s0 x).s1 y).s2 z).s3 u, h.hg, (((h.hw.setCell (p := ⟨g, 0, none⟩) h.hg _).setCell (p := ⟨g, 1, none⟩) h.hg _).setCell (p := ⟨g, 2, none⟩) h.hg _).setCell (p := ⟨g, 3, none⟩) h.hg _⟩

theorem takeM_eq {v : V} {m a1 b1 c1 d1 a2 b2 c2 d2 : Nat} (e1 : rnd ⟨v.a, v.b, v.c, v.d ^^^ m⟩ = ⟨a1, b1, c1, d1⟩) (e2 : rnd ⟨a1, b1, c1, d1⟩ = ⟨a2, b2, c2, d2⟩) : takeM v m = ⟨a2 ^^^ m, b2, c2, d2⟩ := by
  unfold takeM
  simp only [rndN]
  rw [e1, e2]
theorem S4.new {w W : World} {a b c d : Nat} (hw : Below w.heap.size w W) (hs : W.heap.size = w.heap.size + 1) : S4 w (W.alloc (.cells #[.int .u64 (a : Int), .int .u64 (b : Int), .int .u64 (c : Int), .int .u64 (d : Int)] 26)) (w.heap.size + 1) ⟨a, b, c, d⟩ := by
  have := Blk4.new W a b c d
  rw [hs] at this
  exact ⟨this, Nat.le_succ _, hw.alloc hw.size _⟩
theorem Row.part {w : World} {B n cap p b1 o1 : Nat} {xs : List Nat} (h : Row w B (some ⟨b1, o1, none⟩) n cap xs) (hp : p + 8 ≤ n) : Row w B (some ⟨b1, o1 + p, none⟩) 8 (cap - p) ((xs.drop p).take 8) := by
  have hr := h.room
  have h' : Row w B (some ⟨b1, o1, none⟩) (p + (n - p)) cap xs := by rw [show p + (n - p) = n by omega]; exact h
  have := (h'.drop (by omega)).take (k := 8) (by omega)
  simpa only [Option.map_some, Addr.add_lit] using this
def SRel (w : World) (v : V) (xs : List Nat) (n : Nat) (i : Value) (wr : World) : Prop :=
  ∃ j, j ≤ n / 8 + 1 ∧ i = .int .i64 ((8 * j : Nat) : Int) ∧ S4 w wr (w.heap.size + 1) (refV v xs j)
def SRel2 (w : World) (v : V) (i : Value) (wr : World) : Prop :=
  ∃ j, j ≤ 4 ∧ i = .int .i64 (j : Nat) ∧ S4 w wr (w.heap.size + 1) (rndN v j)
attribute [local irreducible] rnd rndN takeM refm refV

set_option maxHeartbeats 2000000 in
theorem refSum_with (key : List Nat) (k0 k1 a b c d : Nat) (A : Option Addr) (n cap : Nat) (xs : List Nat) (w : World) (hk : key.length = 16) (bk : ∀ x ∈ key, x < 256) (hx : Row w w.heap.size A n cap xs) (hn : n ≤ 12000) (OV : Hid (V.mk a b c d).ok)
    (hk0 : le (key.take 8) = k0) (hk1 : le ((key.drop 8).take 8) = k1)
    (e0 : bits .xor .u64 (k0 : Int) 8317987319222330741 = (a : Int)) (e1 : bits .xor .u64 (k1 : Int) 7237128888997146477 = (b : Int)) (e2 : bits .xor .u64 (k0 : Int) 7816392313619706465 = (c : Int)) (e3 : bits .xor .u64 (k1 : Int) 8387220255154660723 = (d : Int)) :
    Calls Try.prog 14 #[.agg (arrV key), .slice A n cap] w fun e w' => e = .returned (.int .u64 (fin (refV ⟨a, b, c, d⟩ xs (n / 8 + 1)) : Nat)) ∧ Below w.heap.size w w' := by
  have HK := Lib.hid hk
  have BK := Lib.hid bk
  have K0 := Lib.hid hk0
  have K1 := Lib.hid hk1
  have HX := Lib.hid hx
  clear hk bk hk0 hk1 hx
  have HB := Lib.hid (Blk.new w 23 key)
  go_enter Try.func14, Try.ntmps14
  go_wp2
  have HBl := Lib.hid ((Below.refl w.heap.size w).alloc (Nat.le_refl _) (Obj.cells (arrV key) 23))
  have HZ : (w.alloc (Obj.cells (arrV key) 23)).heap.size = w.heap.size + 1 := by simp
  generalize (w.alloc (Obj.cells (arrV key) 23)) = W0 at *
  have R0 := Lib.hid (fun n => refReadq_any (some ⟨w.heap.size, 0, none⟩) 8 16 _ _ (W0.drewN n) ((HB.out.drewN n).row BK.out 0 8 16 (by rw [HK.out]; omega) (by omega) (by omega)))
  have R1 := Lib.hid (fun n => refReadq_any (some ⟨w.heap.size, 8, none⟩) 8 8 _ _ (W0.drewN n) ((HB.out.drewN n).row BK.out 8 8 8 (by rw [HK.out]; omega) (by omega) (by omega)))
  simp only [List.drop_zero, List.take_take, Nat.min_self] at R0 R1
  rw [K0.out] at R0
  rw [K1.out] at R1
  go_quiet (first
    | (go_at_call_of 33 (Value.slice (some { block := w.heap.size, off := 0 }) 8 16); exact Calls.quiet_of_same (R0.out _))
    | (go_at_call_of 33 (Value.slice (some { block := w.heap.size, off := 8 }) 8 8); exact Calls.quiet_of_same (R1.out _)))
  go_wp2
  have HW0 := Lib.hid (S4.new (a := a) (b := b) (c := c) (d := d) (below_drewN (k := nq) HBl.out) HZ)
  clear HB HBl HZ R0 R1
  generalize ((W0.drewN nq).alloc (Obj.cells #[Value.int IntKind.u64 a, Value.int IntKind.u64 b, Value.int IntKind.u64 c, Value.int IntKind.u64 d] 26)) = W1 at *
  go_loopw [8] (SRel w ⟨a, b, c, d⟩ xs n) (fun i _ => n + 9 - (intOf i).toNat)
  case atStart => exact ⟨0, Nat.zero_le _, rfl, by unfold refV; exact HW0.out⟩
  case round =>
    obtain ⟨j, hj, rfl, hR⟩ := hrel
    have ok := refV_ok ⟨a, b, c, d⟩ xs OV.out HX.out.bytes j
    have lm := refm_lt xs j HX.out.bytes
    have ES := Lib.hid (show refV ⟨a, b, c, d⟩ xs (j + 1) = takeM (refV ⟨a, b, c, d⟩ xs j) (refm xs j) by rw [refV])
    have EM := Lib.hid (show refm xs j = (if 8 * j + 8 ≤ xs.length then le ((xs.drop (8 * j)).take 8) else le (xs.drop (8 * j)) + xs.length % 256 * 72057594037927936) by rw [refm])
    have HXr := Lib.hid (HX.out.below hR.hw)
    generalize refm xs j = m at *
    generalize hv : refV ⟨a, b, c, d⟩ xs j = v at *
    have EV := Lib.hid hv
    clear hv
    obtain ⟨va, vb, vc, vd⟩ := v
    have HR := Lib.hid hR
    have ok1 : (V.mk va vb vc (vd ^^^ m)).ok := ⟨ok.1, ok.2.1, ok.2.2.1, xor_lt64 ok.2.2.2 lm⟩
    have x1 : bits .xor .u64 (vd : Int) (m : Int) = ((vd ^^^ m : Nat) : Int) := u64_xor_nat vd m ok.2.2.2 lm
    have ok2 := rnd_ok _ ok1
    have f1 : ∃ a1 b1 c1 d1, rnd ⟨va, vb, vc, vd ^^^ m⟩ = ⟨a1, b1, c1, d1⟩ := ⟨_, _, _, _, rfl⟩
    obtain ⟨a1, b1, c1, d1, g1⟩ := f1
    have ok3 := rnd_ok _ ok2
    rw [g1] at ok2 ok3
    have f2 : ∃ a2 b2 c2 d2, rnd ⟨a1, b1, c1, d1⟩ = ⟨a2, b2, c2, d2⟩ := ⟨_, _, _, _, rfl⟩
    obtain ⟨a2, b2, c2, d2, g2⟩ := f2
    rw [g2] at ok3
    have x2 : bits .xor .u64 (a2 : Int) (m : Int) = ((a2 ^^^ m : Nat) : Int) := u64_xor_nat a2 m ok3.1 lm
    have ET := Lib.hid (takeM_eq (v := ⟨va, vb, vc, vd⟩) g1 g2)
    have C1 := Lib.hid (fun W => refRound_lit ok1 g1 W)
    have C2 := Lib.hid (fun W => refRound_lit ok2 g2 W)
    generalize vd ^^^ m = vd1 at *
    generalize a2 ^^^ m = a3 at *
    have LM := Lib.hid lm
    clear hR ok ok1 ok2 ok3 g1 g2 lm HW0
    have q0 : wr.cell? ⟨w.heap.size + 1, 0, none⟩ = some (.int .u64 (va : Int)) := HR.out.h0.c0
    have q1 : wr.cell? ⟨w.heap.size + 1, 1, none⟩ = some (.int .u64 (vb : Int)) := HR.out.h0.c1
    have q2 : wr.cell? ⟨w.heap.size + 1, 2, none⟩ = some (.int .u64 (vc : Int)) := HR.out.h0.c2
    have q3 : wr.cell? ⟨w.heap.size + 1, 3, none⟩ = some (.int .u64 (vd : Int)) := HR.out.h0.c3
    have p3 := HR.out.h0.frozen 3
    generalize hp : 8 * j = p at *
    have HP := Lib.hid hp
    have w1 : IntKind.i64.wrap ((p : Int) + 8) = (p : Int) + 8 := IntWalk.i64_in _ (by omega)
    by_cases hle : p ≤ n
    · by_cases h8 : p + 8 ≤ n
      · obtain ⟨bb, o1, rfl, hb1, hc1⟩ := HXr.out.at_ (by omega)
        have EM1 : Hid (m = le ((xs.drop p).take 8)) := by rw [EM.out, if_pos (by rw [HX.out.len]; exact h8)]; exact rfl
        have hroom := HX.out.room
        have RD : Hid (∀ W, Row W w.heap.size (some ⟨bb, o1 + p, none⟩) 8 (cap - p) ((xs.drop p).take 8) → Calls Try.prog 33 #[.slice (some ⟨bb, o1 + p, none⟩) 8 (cap - p)] W fun e w' => e = .returned (.int .u64 (m : Nat)) ∧ W = w') := fun W hW => by
          have := refRead_any (some ⟨bb, o1 + p, none⟩) 8 (cap - p) _ _ W hW
          rw [List.take_take, Nat.min_self, ← EM1.out] at this
          exact this
        clear hp
        go_wp2_with (first
          | (go_at_call 33; refine (RD.out _ (HXr.out.part h8)).mono ?_; rintro e X0 ⟨rfl, rfl⟩)
          | (go_at_call 16; have _ := fl1; refine (C2.out _).mono ?_; rintro e X2 ⟨rfl, hb2⟩; have RX2 := Lib.hid ((RX1.out.all a1 b1 c1 d1).below hb2); clear hb2; have q0 : X2.cell? ⟨w.heap.size + 1, 0, none⟩ = some (.int .u64 (a1 : Int)) := RX2.out.h0.c0; have q1 : X2.cell? ⟨w.heap.size + 1, 1, none⟩ = some (.int .u64 (b1 : Int)) := RX2.out.h0.c1; have q2 : X2.cell? ⟨w.heap.size + 1, 2, none⟩ = some (.int .u64 (c1 : Int)) := RX2.out.h0.c2; have q3 : X2.cell? ⟨w.heap.size + 1, 3, none⟩ = some (.int .u64 (d1 : Int)) := RX2.out.h0.c3; have p0 := RX2.out.h0.frozen 0; have p1 := RX2.out.h0.frozen 1; have p2 := RX2.out.h0.frozen 2; have p3 := RX2.out.h0.frozen 3)
          | (go_at_call 16; refine (C1.out _).mono ?_; rintro e X1 ⟨rfl, hb1⟩; have RX1 := Lib.hid ((HR.out.s3 vd1).below hb1); have fl1 := hb1.size; clear q0 q1 q2 q3 p3; have q0 : X1.cell? ⟨w.heap.size + 1, 0, none⟩ = some (.int .u64 (va : Int)) := RX1.out.h0.c0; have q1 : X1.cell? ⟨w.heap.size + 1, 1, none⟩ = some (.int .u64 (vb : Int)) := RX1.out.h0.c1; have q2 : X1.cell? ⟨w.heap.size + 1, 2, none⟩ = some (.int .u64 (vc : Int)) := RX1.out.h0.c2; have q3 : X1.cell? ⟨w.heap.size + 1, 3, none⟩ = some (.int .u64 (vd1 : Int)) := RX1.out.h0.c3; have p0 := RX1.out.h0.frozen 0; have p1 := RX1.out.h0.frozen 1; have p2 := RX1.out.h0.frozen 2; have p3 := RX1.out.h0.frozen 3))
        go_roundw
        case rel => exact ⟨j + 1, (by have := HP.out; omega), (by rw [show 8 * (j + 1) = 8 * j + 8 by omega, HP.out]; go_num), by rw [ES.out, ET.out]; exact (RX2.out.all a2 b2 c2 d2).s0 a3⟩
        case measure => simp [intOf]; omega
      · have EM1 : Hid (m = le (xs.drop p) + n % 256 * 72057594037927936) := by rw [EM.out, if_neg (by rw [HX.out.len]; exact h8), HX.out.len]; exact rfl
        have hroom := HX.out.room
        have l0 : le (xs.drop p) < 72057594037927936 := by
          have h1 := le_lt (xs.drop p) (fun x hx => HX.out.bytes x (List.mem_of_mem_drop hx))
          have h2 : (256 : Nat) ^ (xs.drop p).length ≤ 256 ^ 7 := Nat.pow_le_pow_right (by omega) (by rw [List.length_drop, HX.out.len]; omega)
          have h7 : (256 : Nat) ^ 7 = 72057594037927936 := by decide
          omega
        have e8 : le ((xs.drop p).take 8) = le (xs.drop p) := by rw [List.take_of_length_le (by rw [List.length_drop, HX.out.len]; omega)]
        have E8 := Lib.hid e8
        have em : ((le (xs.drop p) : Nat) : Int) + (n : Int) % 256 * 72057594037927936 = (m : Int) := by rw [EM1.out]; omega
        generalize hm0 : le (xs.drop p) = m0 at *
        clear hp e8 hm0
        by_cases hc : cap = p
        · subst hc
          have HRW : Hid (Row wr w.heap.size A (n - cap) 0 (xs.drop cap)) := (show Row wr w.heap.size A (cap + (n - cap)) cap xs by rw [show cap + (n - cap) = n by omega]; exact HXr.out).dropAll rfl
          have hz : n - cap = 0 := by omega
          have RD : Hid (∀ W, Row W w.heap.size A (n - cap) 0 (xs.drop cap) → Calls Try.prog 33 #[.slice A 0 0] W fun e w' => e = .returned (.int .u64 (m0 : Nat)) ∧ W = w') := fun W hW => by
            have := refRead_any A (n - cap) 0 _ _ W hW
            rw [E8.out, hz] at this
            exact this
          go_wp2_with (first
            | (go_at_call 33; with_reducible refine (RD.out _ HRW.out).mono ?_; rintro e X0 ⟨rfl, rfl⟩)
            | (go_at_call 16; have _ := fl1; refine (C2.out _).mono ?_; rintro e X2 ⟨rfl, hb2⟩; have RX2 := Lib.hid ((RX1.out.all a1 b1 c1 d1).below hb2); clear hb2; have q0 : X2.cell? ⟨w.heap.size + 1, 0, none⟩ = some (.int .u64 (a1 : Int)) := RX2.out.h0.c0; have q1 : X2.cell? ⟨w.heap.size + 1, 1, none⟩ = some (.int .u64 (b1 : Int)) := RX2.out.h0.c1; have q2 : X2.cell? ⟨w.heap.size + 1, 2, none⟩ = some (.int .u64 (c1 : Int)) := RX2.out.h0.c2; have q3 : X2.cell? ⟨w.heap.size + 1, 3, none⟩ = some (.int .u64 (d1 : Int)) := RX2.out.h0.c3; have p0 := RX2.out.h0.frozen 0; have p1 := RX2.out.h0.frozen 1; have p2 := RX2.out.h0.frozen 2; have p3 := RX2.out.h0.frozen 3)
            | (go_at_call 16; refine (C1.out _).mono ?_; rintro e X1 ⟨rfl, hb1⟩; have RX1 := Lib.hid ((HR.out.s3 vd1).below hb1); have fl1 := hb1.size; clear q0 q1 q2 q3 p3; have q0 : X1.cell? ⟨w.heap.size + 1, 0, none⟩ = some (.int .u64 (va : Int)) := RX1.out.h0.c0; have q1 : X1.cell? ⟨w.heap.size + 1, 1, none⟩ = some (.int .u64 (vb : Int)) := RX1.out.h0.c1; have q2 : X1.cell? ⟨w.heap.size + 1, 2, none⟩ = some (.int .u64 (vc : Int)) := RX1.out.h0.c2; have q3 : X1.cell? ⟨w.heap.size + 1, 3, none⟩ = some (.int .u64 (vd1 : Int)) := RX1.out.h0.c3; have p0 := RX1.out.h0.frozen 0; have p1 := RX1.out.h0.frozen 1; have p2 := RX1.out.h0.frozen 2; have p3 := RX1.out.h0.frozen 3))
          go_roundw
          case rel => exact ⟨j + 1, (by have := HP.out; omega), (by rw [show 8 * (j + 1) = 8 * j + 8 by omega, HP.out]; go_num), by rw [ES.out, ET.out]; exact (RX2.out.all a2 b2 c2 d2).s0 a3⟩
          case measure => simp [intOf]; omega
        · have RD : Hid (∀ W, Row W w.heap.size (Option.map (fun x => x.add p) A) (n - p) (cap - p) (xs.drop p) → Calls Try.prog 33 #[.slice (Option.map (fun x => x.add p) A) (n - p) (cap - p)] W fun e w' => e = .returned (.int .u64 (m0 : Nat)) ∧ W = w') := fun W hW => by
            have := refRead_any (Option.map (fun x => x.add p) A) (n - p) (cap - p) _ _ W hW
            rw [E8.out] at this
            exact this
          have HRW : Hid (Row wr w.heap.size (Option.map (fun x => x.add p) A) (n - p) (cap - p) (xs.drop p)) := (show Row wr w.heap.size A (p + (n - p)) cap xs by rw [show p + (n - p) = n by omega]; exact HXr.out).drop hc
          go_wp2_with (first
            | (go_at_call 33; with_reducible refine (RD.out _ HRW.out).mono ?_; rintro e X0 ⟨rfl, rfl⟩)
            | (go_at_call 16; have _ := fl1; refine (C2.out _).mono ?_; rintro e X2 ⟨rfl, hb2⟩; have RX2 := Lib.hid ((RX1.out.all a1 b1 c1 d1).below hb2); clear hb2; have q0 : X2.cell? ⟨w.heap.size + 1, 0, none⟩ = some (.int .u64 (a1 : Int)) := RX2.out.h0.c0; have q1 : X2.cell? ⟨w.heap.size + 1, 1, none⟩ = some (.int .u64 (b1 : Int)) := RX2.out.h0.c1; have q2 : X2.cell? ⟨w.heap.size + 1, 2, none⟩ = some (.int .u64 (c1 : Int)) := RX2.out.h0.c2; have q3 : X2.cell? ⟨w.heap.size + 1, 3, none⟩ = some (.int .u64 (d1 : Int)) := RX2.out.h0.c3; have p0 := RX2.out.h0.frozen 0; have p1 := RX2.out.h0.frozen 1; have p2 := RX2.out.h0.frozen 2; have p3 := RX2.out.h0.frozen 3)
            | (go_at_call 16; refine (C1.out _).mono ?_; rintro e X1 ⟨rfl, hb1⟩; have RX1 := Lib.hid ((HR.out.s3 vd1).below hb1); have fl1 := hb1.size; clear q0 q1 q2 q3 p3; have q0 : X1.cell? ⟨w.heap.size + 1, 0, none⟩ = some (.int .u64 (va : Int)) := RX1.out.h0.c0; have q1 : X1.cell? ⟨w.heap.size + 1, 1, none⟩ = some (.int .u64 (vb : Int)) := RX1.out.h0.c1; have q2 : X1.cell? ⟨w.heap.size + 1, 2, none⟩ = some (.int .u64 (vc : Int)) := RX1.out.h0.c2; have q3 : X1.cell? ⟨w.heap.size + 1, 3, none⟩ = some (.int .u64 (vd1 : Int)) := RX1.out.h0.c3; have p0 := RX1.out.h0.frozen 0; have p1 := RX1.out.h0.frozen 1; have p2 := RX1.out.h0.frozen 2; have p3 := RX1.out.h0.frozen 3))
          go_roundw
          case rel => exact ⟨j + 1, (by have := HP.out; omega), (by rw [show 8 * (j + 1) = 8 * j + 8 by omega, HP.out]; go_num), by rw [ES.out, ET.out]; exact (RX2.out.all a2 b2 c2 d2).s0 a3⟩
          case measure => simp [intOf]; omega
    · have hje : j = n / 8 + 1 := by omega
      have EF : Hid (refV ⟨a, b, c, d⟩ xs (n / 8 + 1) = ⟨va, vb, vc, vd⟩) := by rw [← hje]; exact EV.out
      clear C1 C2 ET x1 x2 ES EM w1 p3
      have okv : (V.mk va vb vc vd).ok := by rw [← EF.out]; exact refV_ok _ _ OV.out HX.out.bytes _
      have x3 : bits .xor .u64 (vc : Int) 255 = ((vc ^^^ 255 : Nat) : Int) := u64_xor_nat vc 255 okv.2.2.1 (by omega)
      have okf := fin_ok _ okv
      simp only at okf
      have EQ : Hid (fin ⟨va, vb, vc, vd⟩ = (rndN ⟨va, vb, vc ^^^ 255, vd⟩ 4).a ^^^ (rndN ⟨va, vb, vc ^^^ 255, vd⟩ 4).b ^^^ (rndN ⟨va, vb, vc ^^^ 255, vd⟩ 4).c ^^^ (rndN ⟨va, vb, vc ^^^ 255, vd⟩ 4).d) := by unfold fin; exact rfl
      have E00 : Hid (rndN ⟨va, vb, vc ^^^ 255, vd⟩ 0 = ⟨va, vb, vc ^^^ 255, vd⟩) := by unfold rndN; exact rfl
      generalize vc ^^^ 255 = vc1 at *
      have OF := Lib.hid okf
      clear okv okf hp
      have p2 := HR.out.h0.frozen 2
      go_wp2
      have HR2 := Lib.hid (HR.out.s2 vc1)
      clear q0 q1 q2 q3 p2 HXr
      generalize (wr.setCell ⟨w.heap.size + 1, 2, none⟩ (Value.int IntKind.u64 vc1)) = W3 at *
      go_loopw [10] (SRel2 w ⟨va, vb, vc1, vd⟩) (fun i _ => 4 - (intOf i).toNat)
      case atStart => exact ⟨0, Nat.zero_le _, rfl, by rw [E00.out]; exact HR2.out⟩
      case round =>
        obtain ⟨k, hk, rfl, hR⟩ := hrel
        have ok := rndN_ok _ OF.out k
        have ES := Lib.hid (show rndN ⟨va, vb, vc1, vd⟩ (k + 1) = rnd (rndN ⟨va, vb, vc1, vd⟩ k) by rw [rndN])
        generalize hu : rndN ⟨va, vb, vc1, vd⟩ k = u at *
        have HU := Lib.hid hu
        obtain ⟨ua, ub, uc, ud⟩ := u
        have HRk := Lib.hid hR
        have OU := Lib.hid ok
        clear hR ok hu
        have q0 := HRk.out.h0.c0
        have q1 := HRk.out.h0.c1
        have q2 := HRk.out.h0.c2
        have q3 := HRk.out.h0.c3
        simp only at q0 q1 q2 q3
        by_cases hlt : k < 4
        · have f1 : ∃ a1 b1 c1 d1, rnd ⟨ua, ub, uc, ud⟩ = ⟨a1, b1, c1, d1⟩ := ⟨_, _, _, _, rfl⟩
          obtain ⟨a1, b1, c1, d1, g1⟩ := f1
          have C1 := Lib.hid (fun W => refRound_lit OU.out g1 W)
          have G1 := Lib.hid g1
          clear g1
          go_wp2_with (first
            | (go_at_call 16; refine (C1.out _).mono ?_; rintro e X1 ⟨rfl, hb1⟩; have RX1 := Lib.hid (HRk.out.below hb1); clear q0 q1 q2 q3; have q0 : X1.cell? ⟨w.heap.size + 1, 0, none⟩ = some (.int .u64 (ua : Int)) := RX1.out.h0.c0; have q1 : X1.cell? ⟨w.heap.size + 1, 1, none⟩ = some (.int .u64 (ub : Int)) := RX1.out.h0.c1; have q2 : X1.cell? ⟨w.heap.size + 1, 2, none⟩ = some (.int .u64 (uc : Int)) := RX1.out.h0.c2; have q3 : X1.cell? ⟨w.heap.size + 1, 3, none⟩ = some (.int .u64 (ud : Int)) := RX1.out.h0.c3; have p0 := RX1.out.h0.frozen 0; have p1 := RX1.out.h0.frozen 1; have p2 := RX1.out.h0.frozen 2; have p3 := RX1.out.h0.frozen 3))
          go_roundw
          case rel => exact ⟨k + 1, hlt, by go_num, by rw [ES.out, G1.out]; exact RX1.out.all a1 b1 c1 d1⟩
          case measure => simp [intOf]; omega
        · have e4 : k = 4 := by omega
          have EQ2 : Hid (fin (refV ⟨a, b, c, d⟩ xs (n / 8 + 1)) = ua ^^^ ub ^^^ uc ^^^ ud) := by rw [EF.out, EQ.out, ← e4, HU.out]; exact rfl
          have y1 := u64_xor_nat ua ub OU.out.1 OU.out.2.1
          have y2 := u64_xor_nat (ua ^^^ ub) uc (xor_lt64 OU.out.1 OU.out.2.1) OU.out.2.2.1
          have y3 := u64_xor_nat (ua ^^^ ub ^^^ uc) ud (xor_lt64 (xor_lt64 OU.out.1 OU.out.2.1) OU.out.2.2.1) OU.out.2.2.2
          clear e4
          generalize ua ^^^ ub ^^^ uc ^^^ ud = r3 at *
          generalize ua ^^^ ub ^^^ uc = r2 at *
          generalize ua ^^^ ub = r1 at *
          go_wp2
          go_ret
          exact ⟨ret_int (by rw [EQ2.out]), HRk.out.hw⟩
theorem refSum_any (key : List Nat) (A : Option Addr) (n cap : Nat) (xs : List Nat) (w : World) (hk : key.length = 16) (bk : ∀ x ∈ key, x < 256) (hx : Row w w.heap.size A n cap xs) (hn : n ≤ 12000) :
    Calls Try.prog 14 #[.agg (arrV key), .slice A n cap] w fun e w' => e = .returned (.int .u64 (rsum key xs : Nat)) ∧ Below w.heap.size w w' := by
  have h0 : le (key.take 8) < 18446744073709551616 := le8_lt _ (by simp; omega) (fun x hx => bk x (List.mem_of_mem_take hx))
  have h1 : le ((key.drop 8).take 8) < 18446744073709551616 := le8_lt _ (by simp; omega) (fun x hx => bk x (List.mem_of_mem_drop (List.mem_of_mem_take hx)))
  have := refSum_with key _ _ _ _ _ _ A n cap xs w hk bk hx hn (hstart_ok key hk bk).v rfl rfl (k0_xor _ 8317987319222330741 h0 (by omega)) (k0_xor _ 7237128888997146477 h1 (by omega)) (k0_xor _ 7816392313619706465 h0 (by omega)) (k0_xor _ 8387220255154660723 h1 (by omega))
  unfold rsum
  rw [hx.len]
  exact this
end Go.Proofs.Ytpibmccofjpelaa
