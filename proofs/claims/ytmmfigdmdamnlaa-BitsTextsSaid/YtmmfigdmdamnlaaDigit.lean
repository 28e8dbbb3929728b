/- The number that a digit stands for, as the program and as the document find it. No statement is proved here. -/
import Derived.Test.YtmmfigdmdamnlaaHex
import Derived.Lib.Bytealg
namespace Go.Proofs.Ytmmfigdmdamnlaa
open Go.RowKit
set_option linter.unusedVariables false

/-- The number that a byte stands for as a digit, or -1. -/
def dgv (c : Nat) : Int := if 48 ≤ c ∧ c ≤ 57 then (c : Int) - 48 else if 97 ≤ c ∧ c ≤ 102 then (c : Int) - 87 else -1
theorem dgv_bd (c : Nat) : -1 ≤ dgv c ∧ dgv c < 16 := by unfold dgv; split <;> (try split) <;> omega
theorem dgv_dg (d : Nat) (h : d < 16) : dgv (dg d) = (d : Int) := by
  unfold dgv dg
  split <;> split <;> (try split) <;> omega
theorem dgv_eq (c i : Nat) (hi : i < 16) (h : dg i = c) : dgv c = (i : Int) := by subst h; exact dgv_dg i hi
theorem dgv_none (c : Nat) (h : ∀ j, j < 16 → dg j ≠ c) : dgv c = -1 := by
  unfold dgv
  by_cases h1 : 48 ≤ c ∧ c ≤ 57
  · have := h (c - 48) (by omega)
    unfold dg at this
    rw [if_pos (by omega)] at this
    omega
  · by_cases h2 : 97 ≤ c ∧ c ≤ 102
    · have := h (c - 87) (by omega)
      unfold dg at this
      rw [if_neg (by omega)] at this
      omega
    · rw [if_neg h1, if_neg h2]
theorem index_dgv : ∀ c : Fin 256, Lib.indexByte [48, 49, 50, 51, 52, 53, 54, 55, 56, 57, 97, 98, 99, 100, 101, 102] ((c.val : Int)).toNat.toUInt8 = dgv c.val := by decide +kernel

set_option maxHeartbeats 400000 in
theorem indexSlite_any (c : Nat) (w : World) (hc : c < 256) :
    Calls Try.prog 29 #[.string ⟨#[48, 49, 50, 51, 52, 53, 54, 55, 56, 57, 97, 98, 99, 100, 101, 102]⟩, .int .u8 c] w fun e w' => e = .returned (.int .i64 (dgv c)) ∧ w = w' := by
  go_enter Try.func29, Try.ntmps29
  go_wp2
  rw [run_callFunc_extern Try.func30 (by kernel_rfl) (by kernel_rfl) (by kernel_rfl) (e := Extern.BytealgIndexByte.indexByte) (by kernel_rfl), Lib.run_indexByteString]
  simp only [Result.andThen]
  rw [Oper.upon_value]
  go_wp2
  go_ret
  exact ⟨ret_int (index_dgv ⟨c, hc⟩), rfl⟩
set_option maxHeartbeats 400000 in
theorem index_any (c : Nat) (w : World) (hc : c < 256) :
    Calls Try.prog 26 #[.string ⟨#[48, 49, 50, 51, 52, 53, 54, 55, 56, 57, 97, 98, 99, 100, 101, 102]⟩, .int .u8 c] w fun e w' => e = .returned (.int .i64 (dgv c)) ∧ w = w' := by
  go_enter Try.func26, Try.ntmps26
  go_wp2_with fail
  refine (indexSlite_any c w hc).mono ?_
  rintro e w' ⟨rfl, rfl⟩
  go_wp2
  go_ret
  exact ⟨rfl, rfl⟩

theorem dig_index (k : Nat) (h : k < 16) : (((⟨#[48, 49, 50, 51, 52, 53, 54, 55, 56, 57, 97, 98, 99, 100, 101, 102]⟩ : ByteArray)[k]'h).toNat : Int) = ((dg k : Nat) : Int) := congrArg _ (digit_at ⟨k, h⟩)

set_option maxHeartbeats 400000 in
theorem digit_any (c : Nat) (w : World) (hc : c < 256) :
    Calls Try.prog 27 #[.int .u8 c] w fun e w' => e = .returned (.int .i64 (dgv c)) ∧ w' = w := by
  go_enter Try.func27, Try.ntmps27
  go_wp2
  go_loop [3] (fun i => ∃ k : Nat, k ≤ 16 ∧ i = .int .i64 k ∧ Hid (∀ j, j < k → dg j ≠ c)) (fun i => 16 - (intOf i).toNat)
  case atStart => exact ⟨0, by omega, rfl, fun j hj => absurd hj (by omega)⟩
  case round =>
    obtain ⟨k, hk, rfl, HK⟩ := hrel
    by_cases hlt : k < 16
    · by_cases he : dg k = c
      · have ht : ((((⟨#[48, 49, 50, 51, 52, 53, 54, 55, 56, 57, 97, 98, 99, 100, 101, 102]⟩ : ByteArray)[k]'hlt).toNat : Int) == (c : Int)) = true := by rw [dig_index k hlt]; simp [he]
        have HE := Lib.hid he
        clear he
        go_wp2
        go_ret
        exact ⟨ret_int (dgv_eq c k hlt HE.out).symm, rfl⟩
      · have ht : ((((⟨#[48, 49, 50, 51, 52, 53, 54, 55, 56, 57, 97, 98, 99, 100, 101, 102]⟩ : ByteArray)[k]'hlt).toNat : Int) == (c : Int)) = false := by rw [dig_index k hlt]; simp; omega
        have HE := Lib.hid he
        clear he
        go_wp2
        go_round
        case rel => exact ⟨k + 1, by omega, by go_num, fun j hj => by
          by_cases e : j = k
          · subst e; exact HE.out
          · exact HK.out j (by omega)⟩
        case measure => simp [intOf]; omega
    · obtain rfl : k = 16 := by omega
      go_wp2
      go_ret
      exact ⟨ret_int (dgv_none c HK.out).symm, rfl⟩
end Go.Proofs.Ytmmfigdmdamnlaa
