/- The number of what a hash has taken. No statement is proved here. -/
import Derived.Test.YtpibmccofjpelaaWrite
namespace Go.Proofs.Ytpibmccofjpelaa
open Go.RowKit
set_option linter.unusedVariables false
attribute [local irreducible] rnd rndN takeM

theorem run_cut70_0 (g : Nat) (W : World) : (Instr.sliceAt 70 (.pointer (some ⟨g, 4, none⟩)) none (some (.int .u8 0)) none).run Try.prog W = .ok (.slice (some ⟨g, 4, none⟩) 0 8) W := by kernel_rfl
theorem run_cut70_1 (g : Nat) (W : World) : (Instr.sliceAt 70 (.pointer (some ⟨g, 4, none⟩)) none (some (.int .u8 1)) none).run Try.prog W = .ok (.slice (some ⟨g, 4, none⟩) 1 8) W := by kernel_rfl
theorem run_cut70_2 (g : Nat) (W : World) : (Instr.sliceAt 70 (.pointer (some ⟨g, 4, none⟩)) none (some (.int .u8 2)) none).run Try.prog W = .ok (.slice (some ⟨g, 4, none⟩) 2 8) W := by kernel_rfl
theorem run_cut70_3 (g : Nat) (W : World) : (Instr.sliceAt 70 (.pointer (some ⟨g, 4, none⟩)) none (some (.int .u8 3)) none).run Try.prog W = .ok (.slice (some ⟨g, 4, none⟩) 3 8) W := by kernel_rfl
theorem run_cut70_4 (g : Nat) (W : World) : (Instr.sliceAt 70 (.pointer (some ⟨g, 4, none⟩)) none (some (.int .u8 4)) none).run Try.prog W = .ok (.slice (some ⟨g, 4, none⟩) 4 8) W := by kernel_rfl
theorem run_cut70_5 (g : Nat) (W : World) : (Instr.sliceAt 70 (.pointer (some ⟨g, 4, none⟩)) none (some (.int .u8 5)) none).run Try.prog W = .ok (.slice (some ⟨g, 4, none⟩) 5 8) W := by kernel_rfl
theorem run_cut70_6 (g : Nat) (W : World) : (Instr.sliceAt 70 (.pointer (some ⟨g, 4, none⟩)) none (some (.int .u8 6)) none).run Try.prog W = .ok (.slice (some ⟨g, 4, none⟩) 6 8) W := by kernel_rfl
theorem run_cut70_7 (g : Nat) (W : World) : (Instr.sliceAt 70 (.pointer (some ⟨g, 4, none⟩)) none (some (.int .u8 7)) none).run Try.prog W = .ok (.slice (some ⟨g, 4, none⟩) 7 8) W := by kernel_rfl
theorem run_cut70 (g j : Nat) (hj : j < 8) (W : World) : (Instr.sliceAt 70 (.pointer (some ⟨g, 4, none⟩)) none (some (.int .u8 (j : Int))) none).run Try.prog W = .ok (.slice (some ⟨g, 4, none⟩) j 8) W := by
  match j, hj with
  | 0, _ => exact run_cut70_0 g W
  | 1, _ => exact run_cut70_1 g W
  | 2, _ => exact run_cut70_2 g W
  | 3, _ => exact run_cut70_3 g W
  | 4, _ => exact run_cut70_4 g W
  | 5, _ => exact run_cut70_5 g W
  | 6, _ => exact run_cut70_6 g W
  | 7, _ => exact run_cut70_7 g W
set_option maxHeartbeats 1000000 in
theorem hsum_with (g : Nat) (a b c d : Nat) (left : List Nat) (cnt : Nat) (w : World) (H : HBlk w g ⟨⟨a, b, c, d⟩, left, cnt⟩) (ok : (Hs.mk ⟨a, b, c, d⟩ left cnt).ok) (m0 m a1 b1 c1 d1 c2 a3 b3 c3 d3 x1 x2 x3 : Nat)
    (E0 : Hid (le ((left.take (cnt % 8)).take 8) = m0)) (e1 : bits .or .u64 (m0 : Int) ((cnt : Int) * 72057594037927936) = (m : Int)) (lm : Hid (m < 18446744073709551616))
    (E1 : Hid (takeM ⟨a, b, c, d⟩ m = ⟨a1, b1, c1, d1⟩)) (e2 : bits .xor .u64 (c1 : Int) 255 = (c2 : Int)) (ok2 : Hid (V.mk a1 b1 c2 d1).ok) (E2 : Hid (rndN ⟨a1, b1, c2, d1⟩ 4 = ⟨a3, b3, c3, d3⟩))
    (e3 : bits .xor .u64 (a3 : Int) (b3 : Int) = (x1 : Int)) (e4 : bits .xor .u64 (x1 : Int) (c3 : Int) = (x2 : Int)) (e5 : bits .xor .u64 (x2 : Int) (d3 : Int) = (x3 : Int)) :
    Calls Try.prog 19 #[.pointer (some ⟨g, 0, none⟩)] w fun e w' => e = .returned (.int .u64 (x3 : Nat)) ∧ Below w.heap.size w w' := by
  have HH := Lib.hid H
  have OK := Lib.hid ok
  have lc : cnt < 256 := ok.cnt
  have q12 : w.cell? ⟨g, 12, none⟩ = some (.int .u8 (cnt : Int)) := H.cc ok.len
  have q0 : w.cell? ⟨g, 0, none⟩ = some (.int .u64 (a : Int)) := H.c0
  have q1 : w.cell? ⟨g, 1, none⟩ = some (.int .u64 (b : Int)) := H.c1
  have q2 : w.cell? ⟨g, 2, none⟩ = some (.int .u64 (c : Int)) := H.c2
  have q3 : w.cell? ⟨g, 3, none⟩ = some (.int .u64 (d : Int)) := H.c3
  have RD : Hid (∀ n, Calls Try.prog 36 #[.slice (some ⟨g, 4, none⟩) (cnt % 8) 8] (w.drewN n) fun e w' => e = .returned (.int .u64 (m0 : Nat)) ∧ w' = w.drewN n) := fun n => by
    have := readq_any (some ⟨g, 4, none⟩) (cnt % 8) 8 _ _ (w.drewN n) ((HH.out.drewN n).row OK.out (cnt % 8) (by omega))
    simp only at this
    rw [E0.out] at this
    exact this
  have TK := Lib.hid (fun W => taken_lit m lm.out OK.out.v E1.out W)
  have RC := Lib.hid (fun W => rounds_lit 4 (by omega) ok2.out E2.out W)
  have hcut : ∀ W : World, (Instr.sliceAt 70 (.pointer (some ⟨g, 4, none⟩)) none (some (.int .u8 ((cnt : Int).tmod 8))) none).run Try.prog W = .ok (.slice (some ⟨g, 4, none⟩) (cnt % 8) 8) W := fun W => by
    rw [show ((cnt : Int).tmod 8) = ((cnt % 8 : Nat) : Int) by rw [Int.tmod_eq_emod_of_nonneg (by omega)]; omega]
    exact run_cut70 g (cnt % 8) (by omega) W
  have w1 : ((cnt : Int) % 8).toNat = cnt % 8 := by omega
  clear H ok
  go_enter Try.func19, Try.ntmps19
  go_wp2
  go_quiet ((go_at_call 36; exact Calls.quiet_of_same (RD.out _)))
  go_wp2_with (first
    | (go_at_call 37; refine (TK.out _).mono ?_; rintro e X1 ⟨rfl, hb1⟩)
    | (go_at_call 38; refine (RC.out _).mono ?_; rintro e X2 ⟨rfl, hb2⟩; have H4 := Lib.hid ((Blk4.new X1 a1 b1 c2 d1).below hb2 (by simp)); have q0 := H4.out.c0; have q1 := H4.out.c1; have q2 := H4.out.c2; have q3 := H4.out.c3; have p0 := H4.out.frozen 0; have p1 := H4.out.frozen 1; have p2 := H4.out.frozen 2; have p3 := H4.out.frozen 3))
  have h1 : Below w.heap.size w X1 := (below_drewN (Below.refl _ _)).trans hb1
  have h2 : Below w.heap.size w X2 := (h1.alloc h1.size _).trans (hb2.mono (by simp; exact Nat.le_succ_of_le h1.size))
  go_ret
  exact ⟨rfl, (((h2.setCell (p := ⟨X1.heap.size, 0, none⟩) h1.size _).setCell (p := ⟨X1.heap.size, 1, none⟩) h1.size _).setCell (p := ⟨X1.heap.size, 2, none⟩) h1.size _).setCell (p := ⟨X1.heap.size, 3, none⟩) h1.size _⟩
theorem or_last (m cnt j : Nat) (hm : m < 256 ^ 7) (hc : cnt < 256) : bits .or .u64 (m : Int) ((cnt : Int) * 72057594037927936) = ((m ||| cnt * 2 ^ 56 : Nat) : Int) := by
  have e : ((cnt : Int) * 72057594037927936) = ((cnt * 2 ^ 56 : Nat) : Int) := by simp
  have h7 : (256 : Nat) ^ 7 = 72057594037927936 := by decide
  rw [e]
  exact u64_or_nat _ _ (by omega) (by omega)
theorem last_lt (m cnt : Nat) (hm : m < 256 ^ 7) (hc : cnt < 256) : m ||| cnt * 2 ^ 56 < 18446744073709551616 := by
  have h7 : (256 : Nat) ^ 7 = 72057594037927936 := by decide
  exact Nat.or_lt_two_pow (n := 64) (by omega) (by omega)
theorem fin_ok (v : V) (h : v.ok) : (V.mk v.a v.b (v.c ^^^ 255) v.d).ok := ⟨h.1, h.2.1, xor_lt64 h.2.2.1 (by omega), h.2.2.2⟩
theorem fin_lt (v : V) (h : v.ok) : fin v < 18446744073709551616 := by
  have h1 := rndN_ok _ (fin_ok v h) 4
  unfold fin
  simp only
  generalize rndN (V.mk v.a v.b (v.c ^^^ 255) v.d) 4 = u at *
  exact xor_lt64 (xor_lt64 (xor_lt64 h1.1 h1.2.1) h1.2.2.1) h1.2.2.2
theorem left_lt (h : Hs) (ok : h.ok) : le (h.left.take (h.cnt % 8)) < 256 ^ 7 := by
  have h1 := le_take_lt h.left (h.cnt % 8) ok.bytes
  have h2 : (256 : Nat) ^ (h.cnt % 8) ≤ 256 ^ 7 := Nat.pow_le_pow_right (by omega) (by omega)
  omega
theorem hsum_any (g : Nat) (h : Hs) (w : World) (H : HBlk w g h) (ok : h.ok) :
    Calls Try.prog 19 #[.pointer (some ⟨g, 0, none⟩)] w fun e w' => e = .returned (.int .u64 (hsum h : Nat)) ∧ Below w.heap.size w w' := by
  have hm := left_lt h ok
  obtain ⟨⟨a, b, c, d⟩, left, cnt⟩ := h
  have hc : cnt < 256 := ok.cnt
  have hl : left.length = 8 := ok.len
  simp only at hm
  have l1 := last_lt _ cnt hm hc
  have k1 := takeM_ok ⟨a, b, c, d⟩ _ ok.v l1
  unfold hsum fin
  simp only
  generalize hm1 : takeM ⟨a, b, c, d⟩ (le (left.take (cnt % 8)) ||| cnt * 2 ^ 56) = v1 at *
  obtain ⟨a1, b1, c1, d1⟩ := v1
  have k2 := fin_ok _ k1
  simp only at k2 ⊢
  have k3 := rndN_ok _ k2 4
  generalize hm2 : rndN ⟨a1, b1, c1 ^^^ 255, d1⟩ 4 = v2 at *
  obtain ⟨a3, b3, c3, d3⟩ := v2
  have x1 := u64_xor_nat a3 b3 k3.1 k3.2.1
  have x2 := u64_xor_nat (a3 ^^^ b3) c3 (xor_lt64 k3.1 k3.2.1) k3.2.2.1
  have x3 := u64_xor_nat (a3 ^^^ b3 ^^^ c3) d3 (xor_lt64 (xor_lt64 k3.1 k3.2.1) k3.2.2.1) k3.2.2.2
  have e0 : le ((left.take (cnt % 8)).take 8) = le (left.take (cnt % 8)) := by rw [List.take_take, Nat.min_eq_right (by omega)]
  have k4 : c1 < 18446744073709551616 := k1.2.2.1
  exact hsum_with g a b c d left cnt w H ok _ _ _ _ _ _ _ _ _ _ _ _ _ _ e0 (or_last _ cnt 0 hm hc) l1 hm1 (u64_xor_nat c1 255 k4 (by omega)) k2 hm2 x1 x2 x3
end Go.Proofs.Ytpibmccofjpelaa
