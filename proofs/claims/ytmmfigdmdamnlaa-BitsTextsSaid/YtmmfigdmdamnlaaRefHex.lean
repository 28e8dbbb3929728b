/- The document's Hex gives the same text, its Bit a bit, its Xor the bits in which two rows are unlike. No statement is proved here. -/
import Derived.Test.YtmmfigdmdamnlaaHex
import Derived.Test.YtmmfigdmdamnlaaXor
namespace Go.Proofs.Ytmmfigdmdamnlaa
open Go.RowKit
set_option linter.unusedVariables false

theorem digit_cut_all : ∀ i : Fin 16, (⟨#[48, 49, 50, 51, 52, 53, 54, 55, 56, 57, 97, 98, 99, 100, 101, 102]⟩ : ByteArray).extract i.val (i.val + 1) = txt [dg i.val] := by
  intro i
  rw [show (⟨#[48, 49, 50, 51, 52, 53, 54, 55, 56, 57, 97, 98, 99, 100, 101, 102]⟩ : ByteArray) = ⟨[48, 49, 50, 51, 52, 53, 54, 55, 56, 57, 97, 98, 99, 100, 101, 102].toArray⟩ from rfl, ByteArray.extract_mk, Nat.add_sub_cancel_left]
  unfold txt
  congr 1
  congr 1
  revert i
  decide
theorem digit_cut (i : Nat) (h : i < 16) : (⟨#[48, 49, 50, 51, 52, 53, 54, 55, 56, 57, 97, 98, 99, 100, 101, 102]⟩ : ByteArray).extract i (i + 1) = txt [dg i] := digit_cut_all ⟨i, h⟩

theorem refHex_step {xs : List Nat} {n k u : Nat} (hl : xs.length = n) (hu : xs.getD k 0 = u) (hlt : k < n) : Value.string (txt (hexL (xs.take k)) ++ txt [dg (u / 16), dg (u % 16)]) = .string (txt (hexL (xs.take (k + 1)))) := by
  have e : xs.take (k + 1) = xs.take k ++ [u] := by
    rw [List.take_succ_eq_append_getElem (by omega), ← hu, List.getD_eq_getElem?_getD, List.getElem?_eq_getElem (by omega)]; rfl
  rw [e, hexL_append, txt_append]; rfl

set_option maxHeartbeats 400000 in
theorem refHex_any (A : Option Addr) (n c : Nat) (xs : List Nat) (B : Nat) (w : World) (hx : Row w B A n c xs) (hn : n ≤ 3000) :
    Calls Try.prog 20 #[.slice A n c] w fun e w' => e = .returned (.string (txt (hexL xs))) ∧ ∃ q, w' = w.drewN q := by
  go_enter Try.func20, Try.ntmps20
  go_wp2
  go_loopw [3, 4] (fun s i wr => ∃ k q : Nat, k ≤ n ∧ i = .int .i64 k ∧ s = .string (txt (hexL (xs.take k))) ∧ wr = w.drewN q) (fun _ i _ => n - (intOf i).toNat)
  case atStart => exact ⟨0, 0, by omega, rfl, rfl, rfl⟩
  case round =>
    obtain ⟨k, q, hk, rfl, rfl, rfl⟩ := hrel
    by_cases hlt : k < n
    · obtain ⟨b1, o1, rfl, hb1, hc1⟩ := hx.at_ (by omega)
      have hc1k := hc1 k hlt
      have l1 := hx.lt k
      clear hc1
      generalize hu : xs.getD k 0 = u at *
      have Hu := Lib.hid hu
      clear hu
      go_wp2
      have q0 : (0 : Int) ≤ (u : Int) / 16 := by omega
      have q1 : (u : Int) / 16 ≤ (u : Int) / 16 + 1 := by omega
      have q2 : (u : Int) / 16 + 1 ≤ 16 := by omega
      have q3 : (0 : Int) ≤ (u : Int) % 16 := by omega
      have q4 : (u : Int) % 16 ≤ (u : Int) % 16 + 1 := by omega
      have q5 : (u : Int) % 16 + 1 ≤ 16 := by omega
      have q6 : IntKind.u8.wrap ((u : Int) / 16 + 1) = (u : Int) / 16 + 1 := by rw [IntKind.wrap_u8]; omega
      have q7 : IntKind.u8.wrap ((u : Int) % 16 + 1) = (u : Int) % 16 + 1 := by rw [IntKind.wrap_u8]; omega
      have q8 : IntKind.u8.wrap ((u : Int) / 16) = (u : Int) / 16 := by rw [IntKind.wrap_u8]; omega
      have q9 : IntKind.u8.wrap ((u : Int) % 16) = (u : Int) % 16 := by rw [IntKind.wrap_u8]; omega
      have q10 : ((u : Int) / 16).toNat = u / 16 := by omega
      have q11 : ((u : Int) % 16).toNat = u % 16 := by omega
      have q12 : ((u : Int) / 16 + 1).toNat = u / 16 + 1 := by omega
      have q13 : ((u : Int) % 16 + 1).toNat = u % 16 + 1 := by omega
      have q14 := digit_cut (u / 16) (by omega)
      have q15 := digit_cut (u % 16) (by omega)
      have q16 : txt [dg (u / 16)] ++ txt [dg (u % 16)] = txt [dg (u / 16), dg (u % 16)] := txt_append _ _
      have q17 : (txt [dg (u / 16)]).size = 1 := txt_size _
      have q18 : (txt [dg (u % 16)]).size = 1 := txt_size _
      have q19 : (txt [dg (u / 16), dg (u % 16)]).size = 2 := txt_size _
      have q20 : (txt (hexL (xs.take k))).size ≤ 6000 := by rw [txt_size, hexL_length, List.length_take]; omega
      go_quiet (fail)
      clear q0 q1 q2 q3 q4 q5 q6 q7 q8 q9 q10 q11 q12 q13 q14 q15 q16 q17 q18 q19 q20
      go_wp2
      go_roundw
      case rel => exact ⟨k + 1, _, by omega, by go_num, refHex_step hx.len Hu.out hlt, rfl⟩
      case measure => simp [intOf]; omega
    · obtain rfl : k = n := by omega
      go_wp2
      go_ret
      refine ⟨?_, q, rfl⟩
      rw [← hx.len, List.take_length]; rfl

set_option maxHeartbeats 400000 in
theorem refBit_any (A : Option Addr) (L c k : Nat) (xs : List Nat) (w : World) (hx : Row w w.heap.size A L c xs) (hL : L ≤ 3000) (hk : k < 8 * L) :
    Calls Try.prog 28 #[.slice A L c, .int .i64 k] w fun e w' => e = .returned (.int .i64 (bitN xs k : Nat)) ∧ Below w.heap.size w w' := by
  obtain ⟨b, off, rfl, hb, hc⟩ := hx.at_ (by omega)
  have hck := hc (k / 8) (by omega)
  clear hc
  have hl := hx.lt (k / 8)
  have hbn : bitN xs k = xs.getD (k / 8) 0 / 2 ^ (k % 8) % 2 := rfl
  generalize hu : xs.getD (k / 8) 0 = u at *
  have Hu := Lib.hid hu
  have Hbn := Lib.hid hbn
  clear hu hbn
  have h8 : k % 8 = 0 ∨ k % 8 = 1 ∨ k % 8 = 2 ∨ k % 8 = 3 ∨ k % 8 = 4 ∨ k % 8 = 5 ∨ k % 8 = 6 ∨ k % 8 = 7 := by omega
  rcases h8 with hr | hr | hr | hr | hr | hr | hr | hr
  all_goals
    have Hr := Lib.hid hr
    have hm : (k : Int) % 8 = ((k % 8 : Nat) : Int) := by omega
    rw [hr] at hm
    clear hr
    go_enter Try.func28, Try.ntmps28
    go_wp2
    go_region
    go_wp2
    go_ret
    refine ⟨ret_int ?_, ((Below.refl _ _).alloc (Nat.le_refl _) _).drew⟩
    rw [Hbn.out, Hr.out]
    simp
end Go.Proofs.Ytmmfigdmdamnlaa
