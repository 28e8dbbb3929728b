/- The number of bytes by a key. No statement is proved here. -/
import Derived.Test.YtpibmccofjpelaaHSum
namespace Go.Proofs.Ytpibmccofjpelaa
open Go.RowKit
set_option linter.unusedVariables false

theorem size23 : (Try.prog.info? 23).map (·.size) = some 16 := by kernel_rfl
theorem sz16 (xs : List Nat) (h : xs.length = 16) : (Try.prog.info? 23).map (·.size) = some (vals xs).length := by rw [vals_length, h]; exact size23
/-- The number of bytes by a key, as the program makes it. -/
def ssum (key xs : List Nat) : Nat := hsum (hputs (hstart key) xs)
theorem below_of_grown {w w1 w2 : World} {g : Nat} (h : Below w.heap.size w w1) (hg : w1.grownBy w2 (some g)) (hlt : w.heap.size ≤ g) : Below w.heap.size w w2 :=
  h.grown hg h.size (fun k hk => by injection hk with hk; omega)
theorem Row.off {w : World} {B : Nat} {A : Option Addr} {n c g : Nat} {xs : List Nat} (h : Row w B A n c xs) (hg : B ≤ g) : ∀ a, A = some a → 0 < n → a.block ≠ g := fun a ha hn => by
  obtain ⟨h1, h2, h3, h4, h5, h6⟩ := h
  have := (h6 a ha hn).2.1
  omega
attribute [local irreducible] hsum hputs hstart

set_option maxHeartbeats 1000000 in
theorem sipSum_any (key : List Nat) (A : Option Addr) (n c : Nat) (xs : List Nat) (w : World) (hk : key.length = 16) (bk : ∀ x ∈ key, x < 256) (hx : Row w w.heap.size A n c xs) :
    Calls Try.prog 13 #[.agg (arrV key), .slice A n c] w fun e w' => e = .returned (.int .u64 (ssum key xs : Nat)) ∧ Below w.heap.size w w' := by
  have HK := Lib.hid hk
  have BK := Lib.hid bk
  have HX := Lib.hid hx
  have HB := Lib.hid (Blk.new w 23 key)
  have HR := Lib.hid (whole_range HB.out hk)
  have SZ := Lib.hid (sz16 key hk)
  have OK := Lib.hid (hstart_ok key hk bk)
  have OK2 := Lib.hid (hputs_ok (hstart_ok key hk bk) xs hx.bytes)
  have NW := Lib.hid (fun W => new_any key HK.out BK.out W)
  have B0 := Lib.hid ((Below.refl w.heap.size w).alloc (Nat.le_refl _) (Obj.cells (arrV key) 23))
  clear hk bk hx
  unfold ssum
  go_enter Try.func13, Try.ntmps13
  go_wp2_with (first
    | (refine wpList_load_mid rfl 23 _ rfl w.heap.size 0 rfl (vals key) _ HR.out Try.underlying23 rfl SZ.out ?_)
    | (go_at_call 19; refine (hsum_any g _ _ HB3.out OK2.out).mono ?_; rintro e X3 ⟨rfl, hb3⟩)
    | (go_at_call 18; refine (write_any g _ A n c xs _ HB2.out OK.out HX2.out HA2.out).mono ?_; rintro e X2 ⟨rfl, hB3, hg3⟩; have HB3 := Lib.hid hB3; have HG3 := Lib.hid hg3; clear hB3 hg3)
    | (go_at_call 17; refine (NW.out _).mono ?_; rintro e X1 ⟨g, rfl, hlt, hB2, hb2⟩; have HB2 := Lib.hid hB2; have b1 := B0.out.trans (hb2.mono B0.out.size); have BB := Lib.hid b1; have HX2 := Lib.hid ((HX.out.below b1).wider b1.size); have GL := Lib.hid (show w.heap.size ≤ g from by have := B0.out.size; omega); have HA2 := Lib.hid (HX.out.off GL.out); clear hB2 hb2 hlt b1))
  go_ret
  have h2 := below_of_grown BB.out HG3.out GL.out
  exact ⟨rfl, h2.trans (hb3.mono h2.size)⟩
end Go.Proofs.Ytpibmccofjpelaa
