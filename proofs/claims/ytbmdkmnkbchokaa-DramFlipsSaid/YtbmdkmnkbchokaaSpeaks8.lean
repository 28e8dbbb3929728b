/- The document's examples of memory are told as it says. No statement is proved here. -/
import Derived.Test.YtbmdkmnkbchokaaMem8
namespace Go.Proofs.Ytbmdkmnkbchokaa
open Go.RowKit
set_option linter.unusedVariables false
set_option linter.unusedSimpArgs false

def z200 : List Nat := List.replicate 200 0
def z8 : List Nat := List.replicate 8 0
theorem z200_new : over (List.replicate 200 0) 0 (([] : List Nat).take 200) = z200 := by decide +kernel
theorem z200_over : over z200 60 z8 = z200 := by decide +kernel
theorem write8 : (Mm.fresh z200).write 60 z8 = ⟨z200, 0, 0, 1, 2, [1, 2, 0, 0]⟩ := by
  unfold Mm.write
  rw [if_neg (by decide)]
  show (⟨over z200 60 z8, _, _, _, _, _⟩ : Mm) = _
  rw [z200_over]
  rfl
theorem write9 : (⟨z200, 1, 0, 1, 2, [1, 2, 0, 0]⟩ : Mm).write 0 [9] = ⟨z200, 0, 0, 2, 2, [1, 2, 0, 0]⟩ := by
  unfold Mm.write
  rw [if_pos (by decide)]
  rfl
theorem arr9 : (#[.int .u8 9] : Array Value) = arrV [9] := rfl
theorem zero_at : (z200.drop 0).take 1 = [0] := by decide +kernel
theorem z200_len : z200.length = 200 := by unfold z200; exact List.length_replicate
theorem z200_ok (d r a o : Int) (os : List Int) (h1 : 0 ≤ d ∧ d ≤ 10) (h2 : 0 ≤ r ∧ r ≤ 10) (h3 : 0 ≤ a ∧ a ≤ 10) (h4 : 0 ≤ o ∧ o ≤ 10) (h5 : os.length = 4) : (⟨z200, d, r, a, o, os⟩ : Mm).Ok :=
  ⟨h5, fun x hx => by rw [List.eq_of_mem_replicate hx]; omega, by rw [z200_len]; omega, h1.1, by simp only; omega, h2.1, by simp only; omega, h3.1, by simp only; omega, h4.1, by simp only; omega⟩
theorem zc : (arrV ((z200.drop 0).take 1))[0]? = some (.int .u8 0) := by rw [zero_at]; rfl
theorem field34_2 (x y z : Int) (W : World) : (Instr.field 34 (.agg #[.int .i64 x, .int .i64 y, .int .i64 z]) 2).run Try.prog W = .ok (.int .i64 z) W := by kernel_rfl
theorem field34_1 (x y z : Int) (W : World) : (Instr.field 34 (.agg #[.int .i64 x, .int .i64 y, .int .i64 z]) 1).run Try.prog W = .ok (.int .i64 y) W := by kernel_rfl
attribute [local irreducible] arrV Mm.arr z200 z8
set_option maxHeartbeats 2000000 in
theorem speaks_true (w : World) : Calls Try.prog 6 #[] w fun e w' => e = .returned (.bool true) ∧ Below w.heap.size w w' := by
  have h0 := St.nil w
  have N := Lib.hid (new_nat (W := w) 200 0 0 200 none [] h0 (by omega) rfl (Row.nil_ _ _))
  rw [z200_new] at N
  have O0 : (Mm.fresh z200).Ok := z200_ok _ _ _ _ _ (by decide) (by decide) (by decide) (by decide) rfl
  have W1c : Hid (∀ g b r W, St w W [(g, 45, (Mm.fresh z200).arr b), (b, 5, arrV z200), (r, 5, arrV z8)] → Calls Try.prog 10 #[.pointer (some ⟨g, 0, none⟩), .int .i64 60, .slice (some ⟨r, 0, none⟩) 8 8] W fun e W' => e = .returned (.int .i64 0) ∧ St w W' [(g, 45, (⟨z200, 0, 0, 1, 2, [1, 2, 0, 0]⟩ : Mm).arr b), (b, 5, arrV z200), (r, 5, arrV z8)]) := fun g b r W h => by
    have := write_yes 60 8 8 r 0 z8 h rfl (by unfold z8; rfl) (fun y hy => by unfold z8 at hy; rw [List.eq_of_mem_replicate hy]; omega) (by omega) (by omega) O0 (by decide) (by rw [show (Mm.fresh z200).xs = z200 from rfl, z200_len]; omega)
    rwa [write8] at this
  have U : Hid (∀ g b r W, St w W [(g, 45, (⟨z200, 0, 0, 1, 2, [1, 2, 0, 0]⟩ : Mm).arr b), (b, 5, arrV z200), (r, 5, arrV z8)] → _) := fun g b r W h => use_any h
  have T : Hid (∀ g b r W, St w W [(g, 45, (⟨z200, 0, 0, 1, 2, [1, 2, 0, 0]⟩ : Mm).arr b), (b, 5, arrV z200), (r, 5, arrV z8)] → _) := fun g b r W h => tamper_drop 1 0 0 none 0 0 (by omega) h (z200_ok _ _ _ _ _ (by decide) (by decide) (by decide) (by decide) rfl)
  have W2c : Hid (∀ g b r q W, St w W [(g, 45, (⟨z200, 1, 0, 1, 2, [1, 2, 0, 0]⟩ : Mm).arr b), (b, 5, arrV z200), (r, 5, arrV z8), (q, 5, arrV [9])] → Calls Try.prog 10 #[.pointer (some ⟨g, 0, none⟩), .int .i64 0, .slice (some ⟨q, 0, none⟩) 1 1] W fun e W' => e = .returned (.int .i64 0) ∧ St w W' [(g, 45, (⟨z200, 0, 0, 2, 2, [1, 2, 0, 0]⟩ : Mm).arr b), (b, 5, arrV z200), (r, 5, arrV z8), (q, 5, arrV [9])]) := fun g b r q W h => by
    have := write_yes 0 1 1 q 1 [9] h rfl rfl (by simp) (by omega) (by omega) (z200_ok _ _ _ _ _ (by decide) (by decide) (by decide) (by decide) rfl) (by decide) (by simp only [z200_len]; omega)
    rwa [write9] at this
  have R : Hid (∀ g b r q W, St w W [(g, 45, (⟨z200, 0, 0, 2, 2, [1, 2, 0, 0]⟩ : Mm).arr b), (b, 5, arrV z200), (r, 5, arrV z8), (q, 5, arrV [9])] → _) := fun g b r q W h => read_yes 0 1 h (z200_ok _ _ _ _ _ (by decide) (by decide) (by decide) (by decide) rfl) (by decide) (by simp only [z200_len]; omega)
  have Z8 : Hid (List.replicate 8 0 = z8) := by unfold z8; exact rfl
  have F2 := field34_2
  clear O0
  go_enter Try.func6, Try.ntmps6
  go_wp2_with (first
    | (go_at_call 7; refine N.out.mono ?_; rintro e V1 ⟨g, b, rfl, h1⟩; clear N h0)
    | (refine wpList_makeB_st h1 _ _ rfl rfl 8 rfl rfl (by omega) ?_; clear h1; intro V2 h2 b2; rw [Z8.out] at h2)
    | (go_at_call 10; have _ := h2; refine (W1c.out _ _ _ _ h2).mono ?_; rintro e V3 ⟨rfl, h3⟩; clear h2)
    | (go_at_call 12; refine (U.out _ _ _ _ h3).mono ?_; rintro e V4 ⟨rfl, h4⟩; clear h3)
    | (go_at_call 8; refine (T.out _ _ _ _ h4).mono ?_; rintro e V5 ⟨rfl, h5⟩; clear h4)
    | (go_at_call 10; have _ := h5; refine (W2c.out _ _ _ _ _ (by rw [arr9]; exact h5.push 5 _)).mono ?_; rintro e V6 ⟨rfl, h6⟩; clear h5)
    | (go_at_call 14; refine (R.out _ _ _ _ _ h6).mono ?_; rintro e V7 ⟨r, rfl, h7⟩; clear h6; have z := h7.cell 4 rfl 0 (.int .u8 0) zc))
  go_ret
  exact ⟨rfl, h7.bel⟩
end Go.Proofs.Ytbmdkmnkbchokaa
