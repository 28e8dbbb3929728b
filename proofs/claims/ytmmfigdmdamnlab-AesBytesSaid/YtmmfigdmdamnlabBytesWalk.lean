/- For every input the law AesBytes returns true. No condition. -/
import Derived.Test.YtmmfigdmdamnlabRefSub
namespace Go.Proofs.Ytmmfigdmdamnlab
open Go.RowKit
set_option linter.unusedVariables false

set_option maxHeartbeats 2000000 in
theorem bytes_any (a b : Nat) (ha : a < 256) (hb : b < 256) (w : World) : Calls Try.prog 3 #[.int .u8 (a : Int), .int .u8 (b : Int)] w fun e w' => e = .returned (.bool true) ∧ Below w.heap.size w w' := by
  have T1 := Lib.hid (fun W => times_any a b W ha hb)
  have T2 := Lib.hid (fun W => refTimes_any a b W ha hb)
  have S1 := Lib.hid (fun W => sub_any a W ha)
  have S2 := Lib.hid (fun W => refSub_any a W ha)
  have T3 := Lib.hid (fun W => times_any b a W hb ha)
  have T4 := Lib.hid (fun W => times_any a 1 W ha (by omega))
  have E3 := Lib.hid (times_comm b a hb ha)
  have E4 := Lib.hid (inv_fact a ha).2.2.2
  generalize times a b = p at *
  generalize times b a = p2 at *
  generalize sub a = q at *
  generalize times a 1 = r at *
  go_enter Try.func3, Try.ntmps3
  go_wp2_with (first
    | (go_at_call 10; have _ := d3; refine (T4.out _).mono ?_; rintro e W3 ⟨rfl, rfl⟩; rw [E4.out])
    | (go_at_call 10; have _ := d2; refine (T3.out _).mono ?_; rintro e W3 ⟨rfl, rfl⟩; rw [E3.out]; have d3 : True := trivial)
    | (go_at_call 10; have _ := d1; refine (T1.out _).mono ?_; rintro e W3 ⟨rfl, rfl⟩; have d2 : True := trivial)
    | (go_at_call 13; refine (S2.out _).mono ?_; rintro e W3 ⟨rfl, n, rfl⟩)
    | (go_at_call 12; refine (S1.out _).mono ?_; rintro e W3 ⟨rfl, rfl⟩)
    | (go_at_call 11; refine (T2.out _).mono ?_; rintro e W3 ⟨rfl, rfl⟩; have d1 : True := trivial)
    | (go_at_call 10; refine (T1.out _).mono ?_; rintro e W3 ⟨rfl, rfl⟩)
    | (go_at_call 9; refine (speaks_any _).mono ?_; rintro e W2 ⟨rfl, hb1⟩))
  go_ret
  exact ⟨rfl, below_drewN hb1⟩
end Go.Proofs.Ytmmfigdmdamnlab
