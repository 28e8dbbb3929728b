/- A hash of a key that has taken nothing. No statement is proved here. -/
import Derived.Test.YtpibmccofjpelaaHash
namespace Go.Proofs.Ytpibmccofjpelaa
open Go.RowKit
set_option linter.unusedVariables false

theorem readq_any (A : Option Addr) (n c : Nat) (xs : List Nat) (B : Nat) (w : World) (hx : Row w B A n c xs) :
    Calls Try.prog 36 #[.slice A n c] w fun e w' => e = .returned (.int .u64 (le (xs.take 8) : Nat)) ∧ w' = w := (read_any A n c xs B w hx).mono fun _ _ ⟨h1, h2⟩ => ⟨h1, h2.symm⟩
theorem refReadq_any (A : Option Addr) (n c : Nat) (xs : List Nat) (B : Nat) (w : World) (hx : Row w B A n c xs) :
    Calls Try.prog 33 #[.slice A n c] w fun e w' => e = .returned (.int .u64 (le (xs.take 8) : Nat)) ∧ w' = w := (refRead_any A n c xs B w hx).mono fun _ _ ⟨h1, h2⟩ => ⟨h1, h2.symm⟩
theorem k0_xor (k c : Nat) (hk : k < 18446744073709551616) (hc : c < 18446744073709551616) : bits .xor .u64 (k : Int) (c : Int) = ((k ^^^ c : Nat) : Int) := u64_xor_nat _ _ hk hc
set_option maxHeartbeats 1000000 in
theorem new_with (key : List Nat) (hk : key.length = 16) (bk : ∀ x ∈ key, x < 256) (k0 k1 a b c d : Nat) (hk0 : le (key.take 8) = k0) (hk1 : le ((key.drop 8).take 8) = k1) (w : World)
    (e0 : bits .xor .u64 (k0 : Int) 8317987319222330741 = (a : Int)) (e1 : bits .xor .u64 (k1 : Int) 7237128888997146477 = (b : Int)) (e2 : bits .xor .u64 (k0 : Int) 7816392313619706465 = (c : Int)) (e3 : bits .xor .u64 (k1 : Int) 8387220255154660723 = (d : Int)) :
    Calls Try.prog 17 #[.agg (arrV key)] w fun e w' => ∃ g, e = .returned (.pointer (some ⟨g, 0, none⟩)) ∧ w.heap.size < g ∧ HBlk w' g ⟨⟨a, b, c, d⟩, [0, 0, 0, 0, 0, 0, 0, 0], 0⟩ ∧ Below w.heap.size w w' := by
  have HK := Lib.hid hk
  have BK := Lib.hid bk
  have K0 := Lib.hid hk0
  have K1 := Lib.hid hk1
  clear hk bk hk0 hk1
  have HB := Lib.hid (Blk.new w 23 key)
  go_enter Try.func17, Try.ntmps17
  go_wp2
  have HBl := Lib.hid ((Below.refl w.heap.size w).alloc (Nat.le_refl _) (Obj.cells (arrV key) 23))
  generalize (w.alloc (Obj.cells (arrV key) 23)) = W0 at *
  have HG := Lib.hid HB.out.lt
  have HS := Lib.hid HBl.out.size
  generalize hG : w.heap.size = g at *
  have HG0 := Lib.hid hG
  clear hG
  have R0 := Lib.hid (fun n => readq_any (some ⟨g, 0, none⟩) 8 16 _ _ (W0.drewN n) ((HB.out.drewN n).row BK.out 0 8 16 (by rw [HK.out]; omega) (by omega) (by omega)))
  have R1 := Lib.hid (fun n => readq_any (some ⟨g, 8, none⟩) 8 8 _ _ (W0.drewN n) ((HB.out.drewN n).row BK.out 8 8 8 (by rw [HK.out]; omega) (by omega) (by omega)))
  simp only [List.drop_zero, List.take_take, Nat.min_self] at R0 R1
  rw [K0.out] at R0
  rw [K1.out] at R1
  go_quiet (first
    | (go_at_call_of 36 (Value.slice (some { block := g, off := 0 }) 8 16); exact Calls.quiet_of_same (R0.out _))
    | (go_at_call_of 36 (Value.slice (some { block := g, off := 8 }) 8 8); exact Calls.quiet_of_same (R1.out _)))
  go_wp2
  go_ret
  have hG := HG0.out
  subst hG
  exact ⟨W0.heap.size, rfl, HG.out, HBlk.new (W0.drewN nq) ⟨⟨a, b, c, d⟩, [0, 0, 0, 0, 0, 0, 0, 0], 0⟩, (below_drewN (k := nq) HBl.out).alloc HS.out _⟩
theorem new_any (key : List Nat) (hk : key.length = 16) (bk : ∀ x ∈ key, x < 256) (w : World) :
    Calls Try.prog 17 #[.agg (arrV key)] w fun e w' => ∃ g, e = .returned (.pointer (some ⟨g, 0, none⟩)) ∧ w.heap.size < g ∧ HBlk w' g (hstart key) ∧ Below w.heap.size w w' := by
  have h0 : le (key.take 8) < 18446744073709551616 := le8_lt _ (by simp; omega) (fun x hx => bk x (List.mem_of_mem_take hx))
  have h1 : le ((key.drop 8).take 8) < 18446744073709551616 := le8_lt _ (by simp; omega) (fun x hx => bk x (List.mem_of_mem_drop (List.mem_of_mem_take hx)))
  exact new_with key hk bk _ _ _ _ _ _ rfl rfl w (k0_xor _ 8317987319222330741 h0 (by omega)) (k0_xor _ 7237128888997146477 h1 (by omega)) (k0_xor _ 7816392313619706465 h0 (by omega)) (k0_xor _ 8387220255154660723 h1 (by omega))
end Go.Proofs.Ytpibmccofjpelaa
