/- The document's example of what stands where is told as it says. No statement is proved here. -/
import Derived.Test.YtcbpnmcfiohndaaReg2
import Derived.Test.YtcbpnmcfiohndaaRefFit2
namespace Go.Proofs.Ytcbpnmcfiohndaa
open Go.RowKit
set_option linter.unusedVariables false
set_option linter.unusedSimpArgs false

def Pl.ex6 : Pl := { Pl.zero with pa := 2, li := 2, ar := 2 }
theorem ex6_arr : Pl.ex6.arr = #[.int .i64 0, .int .i64 0, .int .i64 2, .int .i64 2, .int .i64 2, .int .i64 0, .int .u64 0, .int .i64 0, .int .i64 0, .int .i64 0, .int .i64 0, .int .i64 0, .int .i64 0, .int .i64 0, .int .u8 0, .int .u8 0, .int .u8 0, .int .u8 0, .int .u8 0, .int .u8 0, .int .u8 0, .int .u8 0, .int .u8 0, .int .u8 0, .int .u8 0, .int .u8 0, .int .u8 0, .int .u8 0, .int .u8 0, .int .u8 0, .int .u8 0, .int .u8 0, .int .u8 0, .int .u8 0, .int .u8 0, .int .u8 0, .int .u8 0, .int .u8 0, .int .u8 0, .int .u8 0, .int .u8 0, .int .u8 0, .int .u8 0, .int .u8 0, .int .u8 0, .int .u8 0] := by
  unfold Pl.arr Pl.cs; rfl
theorem ex6_h1 : hasI (fitP Pl.ex6) 0 1 = true := by decide +kernel
theorem ex6_h2 : hasI (fitP Pl.ex6) 1 0 = true := by decide +kernel
theorem ex6_i1 : ItI (fitP Pl.ex6) 0 1 = 192 := by decide +kernel
theorem ex6_i2 : ItI (fitP Pl.ex6) 1 0 = 224 := by decide +kernel
theorem ex6_sz : SzI (fitP Pl.ex6) = 256 := by decide +kernel
attribute [local irreducible] fitP hasI ItI SzI
set_option maxHeartbeats 2000000 in
set_option maxRecDepth 20000 in
theorem speaks6_true (w : World) : Calls Try.prog 25 #[] w fun e w' => e = .returned (.bool true) ∧ Below w.heap.size w w' := by
  have FT := Lib.hid (fun W => refFit_any Pl.ex6 W)
  have I1 := Lib.hid (fun W => item_any (fitP Pl.ex6) 0 1 W)
  have I2 := Lib.hid (fun W => item_any (fitP Pl.ex6) 1 0 W)
  have SZ := Lib.hid (fun W => size_any (fitP Pl.ex6) W)
  rw [ex6_h1, ex6_i1] at I1
  rw [ex6_h2, ex6_i2] at I2
  rw [ex6_sz] at SZ
  rw [ex6_arr] at FT
  generalize fitP Pl.ex6 = q at *
  go_enter Try.func25, Try.ntmps25
  go_wp2_with (first
    | (go_at_call 24; refine (FT.out _).mono ?_; rintro e X0 ⟨rfl, hb⟩; have h0 : PSt w X0.heap.size Pl.zero (X0.alloc (.cells Pl.zero.arr 28)) := ⟨PBlk.new X0 Pl.zero, hb.alloc hb.size _⟩; have lo := hb.size; rw [zero_arr] at h0; clear hb)
    | (refine wpList_newP h0 lo _ _ rfl rfl rfl _ rfl rfl ?_; clear h0; intro X1 h1)
    | (refine wpList_load_plan h1.blk _ rfl rfl rfl ?_)
    | (refine wpList_load_plan h2.blk _ rfl rfl rfl ?_)
    | (refine wpList_load_plan h3.blk _ rfl rfl rfl ?_)
    | (go_at_call 31; have _ := h1; refine (I1.out _).mono ?_; rintro e X2 ⟨rfl, hb⟩; have h2 := h1.call hb; clear h1 hb)
    | (go_at_call 31; have _ := h2; refine (I2.out _).mono ?_; rintro e X3 ⟨rfl, hb⟩; have h3 := h2.call hb; clear h2 hb)
    | (go_at_call 26; refine (SZ.out _).mono ?_; rintro e X4 ⟨rfl, hb⟩; have h4 := h3.call hb; clear h3 hb))
  go_ret
  exact ⟨rfl, h4.bel⟩
end Go.Proofs.Ytcbpnmcfiohndaa
