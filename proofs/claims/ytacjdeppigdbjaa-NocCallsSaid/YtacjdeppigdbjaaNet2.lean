/- Whether a net has a link, which number it has, and which link a number is. No statement is proved here. -/
import Derived.Test.YtacjdeppigdbjaaNet1
namespace Go.Proofs.Ytacjdeppigdbjaa
open Go.RowKit
set_option linter.unusedVariables false
set_option linter.unusedSimpArgs false

def lnk (a b c : Int) : Value := .agg #[.int .i64 a, .int .i64 b, .int .i64 c]
def hasN (n : Nat) (x : Int) : Bool := decide (0 ≤ x) && decide (x < (n : Int))
def hasL (n : Nat) (a b c : Int) : Bool := decide (0 ≤ a) && (decide (a < 3) && (hasN n b && hasN n c))
theorem hasL_iff {n : Nat} {a b c : Int} : hasL n a b c = true ↔ (0 ≤ a ∧ a < 3 ∧ 0 ≤ b ∧ b < n ∧ 0 ≤ c ∧ c < n) := by
  simp [hasL, hasN]; omega
theorem hasNode_any (g n : Nat) (x : Int) (W : World) (c0 : W.cell? ⟨g, 0, none⟩ = some (.int .i64 (n : Int))) :
    Calls Try.prog 44 #[.pointer (some ⟨g, 0, none⟩), .int .i64 x] W fun e W' => e = .returned (.bool (hasN n x)) ∧ W' = W := by
  by_cases h0 : 0 ≤ x
  · have q0 : decide (0 ≤ x) = true := decide_eq_true h0
    have E : hasN n x = decide (x < (n : Int)) := by unfold hasN; rw [q0, Bool.true_and]
    rw [E]
    go_enter Try.func44, Try.ntmps44
    go_wp2
    go_ret
    exact ⟨rfl, rfl⟩
  · have q0 : decide (0 ≤ x) = false := decide_eq_false h0
    have E : hasN n x = false := by unfold hasN; rw [q0, Bool.false_and]
    rw [E]
    go_enter Try.func44, Try.ntmps44
    go_wp2
    go_ret
    exact ⟨rfl, rfl⟩
theorem cells51 (a b c : Int) : (lnk a b c).cells = #[.int .i64 a, .int .i64 b, .int .i64 c] := rfl
section
variable {w W : World} {L : Blks}
theorem has_any (g n : Nat) (a b c : Int) (W : World) (c0 : W.cell? ⟨g, 0, none⟩ = some (.int .i64 (n : Int))) (hg : g < W.heap.size) :
    Calls Try.prog 39 #[.pointer (some ⟨g, 0, none⟩), .agg #[.int .i64 a, .int .i64 b, .int .i64 c]] W fun e W' => e = .returned (.bool (hasL n a b c)) ∧ Below W.heap.size W W' := by
  have h0 := St.nil W
  have NB := Lib.hid (fun W c0 => hasNode_any g n b W c0)
  have NC := Lib.hid (fun W c0 => hasNode_any g n c W c0)
  have E : Hid (hasL n a b c = (decide (0 ≤ a) && (decide (a < 3) && (hasN n b && hasN n c)))) := rfl
  generalize hasL n a b c = X at *
  generalize hasN n b = B at *
  generalize hasN n c = D at *
  by_cases ha : 0 ≤ a
  · have q0 : decide (0 ≤ a) = true := decide_eq_true ha
    by_cases h3 : a < 3
    · have q1 : decide (a < 3) = true := decide_eq_true h3
      cases B with
      | true =>
        have E2 : Hid (X = D) := by rw [E.out, q0, q1]; exact rfl
        clear E
        go_enter Try.func39, Try.ntmps39
        go_wp2_with (first
          | (refine wpList_box_st h0 51 _ rfl rfl #[.int .i64 a, .int .i64 b, .int .i64 c] rfl ?_; clear h0; intro W1 h1 _ hb1; have d0 := h1.cell 0 rfl 0 (.int .i64 a) rfl; have d1 := h1.cell 0 rfl 1 (.int .i64 b) rfl; have d2 := h1.cell 0 rfl 2 (.int .i64 c) rfl; have e0 := (hb1.cell (p := ⟨g, 0, none⟩) hg).trans c0; clear c0)
          | (go_at_call_of 44 (Value.int IntKind.i64 b); refine (NB.out _ e0).mono ?_; rintro e X1 ⟨rfl, rfl⟩)
          | (go_at_call_of 44 (Value.int IntKind.i64 c); refine (NC.out _ e0).mono ?_; rintro e X1 ⟨rfl, rfl⟩))
        go_ret
        exact ⟨by rw [E2.out]; rfl, h1.bel⟩
      | false =>
        have E2 : Hid (X = false) := by rw [E.out, q0, q1]; exact rfl
        clear E
        go_enter Try.func39, Try.ntmps39
        go_wp2_with (first
          | (refine wpList_box_st h0 51 _ rfl rfl #[.int .i64 a, .int .i64 b, .int .i64 c] rfl ?_; clear h0; intro W1 h1 _ hb1; have d0 := h1.cell 0 rfl 0 (.int .i64 a) rfl; have d1 := h1.cell 0 rfl 1 (.int .i64 b) rfl; have d2 := h1.cell 0 rfl 2 (.int .i64 c) rfl; have e0 := (hb1.cell (p := ⟨g, 0, none⟩) hg).trans c0; clear c0)
          | (go_at_call_of 44 (Value.int IntKind.i64 b); refine (NB.out _ e0).mono ?_; rintro e X1 ⟨rfl, rfl⟩))
        go_ret
        exact ⟨by rw [E2.out]; rfl, h1.bel⟩
    · have q1 : decide (a < 3) = false := decide_eq_false h3
      have E2 : Hid (X = false) := by rw [E.out, q0, q1]; exact rfl
      clear E
      go_enter Try.func39, Try.ntmps39
      go_wp2_with (refine wpList_box_st h0 51 _ rfl rfl #[.int .i64 a, .int .i64 b, .int .i64 c] rfl ?_; clear h0; intro W1 h1 _ hb1; have d0 := h1.cell 0 rfl 0 (.int .i64 a) rfl)
      go_ret
      exact ⟨by rw [E2.out]; rfl, h1.bel⟩
  · have q0 : decide (0 ≤ a) = false := decide_eq_false ha
    have E2 : Hid (X = false) := by rw [E.out, q0]; exact rfl
    clear E
    go_enter Try.func39, Try.ntmps39
    go_wp2_with (refine wpList_box_st h0 51 _ rfl rfl #[.int .i64 a, .int .i64 b, .int .i64 c] rfl ?_; clear h0; intro W1 h1 _ hb1; have d0 := h1.cell 0 rfl 0 (.int .i64 a) rfl)
    go_ret
    exact ⟨by rw [E2.out]; rfl, h1.bel⟩
/-- A link's number. -/
def idx (n a b c : Nat) : Nat := (a * n + b) * n + c
theorem idx_lt {n a b c : Nat} (ha : a < 3) (hb : b < n) (hc : c < n) : idx n a b c < lks n := by
  unfold idx lks
  have h1 : a * n + b + 1 ≤ 3 * n := by
    have : a * n ≤ 2 * n := Nat.mul_le_mul_right _ (by omega)
    omega
  have h2 : (a * n + b + 1) * n ≤ 3 * n * n := Nat.mul_le_mul_right _ h1
  rw [Nat.add_mul, Nat.one_mul] at h2
  omega
theorem lks_le {n : Nat} (h : n ≤ 16) : lks n ≤ 768 := by
  unfold lks
  have : 3 * n * n ≤ 3 * 16 * 16 := Nat.mul_le_mul (Nat.mul_le_mul_left _ h) h
  omega
theorem index_any (g n a b c : Nat) (ha : a < 3) (hb : b < n) (hc : c < n) (hn : n ≤ 16) (W : World) (c0 : W.cell? ⟨g, 0, none⟩ = some (.int .i64 (n : Int))) (hg : g < W.heap.size) :
    Calls Try.prog 40 #[.pointer (some ⟨g, 0, none⟩), .agg #[.int .i64 (a : Int), .int .i64 (b : Int), .int .i64 (c : Int)]] W fun e W' => e = .returned (.int .i64 (idx n a b c : Nat)) ∧ Below W.heap.size W W' := by
  have h0 := St.nil W
  have b1 : a * n ≤ 32 := Nat.mul_le_mul (show a ≤ 2 by omega) hn
  have b2 : (a * n + b) * n ≤ 48 * 16 := Nat.mul_le_mul (by omega) hn
  have E : Hid (((idx n a b c : Nat) : Int) = ((a : Int) * (n : Int) + (b : Int)) * (n : Int) + (c : Int)) := by unfold idx; push_cast; exact rfl
  have w1 : IntKind.i64.wrap ((a : Int) * (n : Int)) = (a : Int) * (n : Int) := IntWalk.i64_in _ (by rw [← Int.natCast_mul]; omega)
  have w2 : IntKind.i64.wrap ((a : Int) * (n : Int) + (b : Int)) = (a : Int) * (n : Int) + (b : Int) := IntWalk.i64_in _ (by rw [← Int.natCast_mul]; omega)
  have w3 : IntKind.i64.wrap (((a : Int) * (n : Int) + (b : Int)) * (n : Int)) = ((a : Int) * (n : Int) + (b : Int)) * (n : Int) := IntWalk.i64_in _ (by rw [← Int.natCast_mul, ← Int.natCast_add, ← Int.natCast_mul]; omega)
  have w4 : IntKind.i64.wrap (((a : Int) * (n : Int) + (b : Int)) * (n : Int) + (c : Int)) = ((a : Int) * (n : Int) + (b : Int)) * (n : Int) + (c : Int) := IntWalk.i64_in _ (by rw [← Int.natCast_mul, ← Int.natCast_add, ← Int.natCast_mul]; omega)
  generalize idx n a b c = I at *
  clear b1 b2 ha hb hc hn
  go_enter Try.func40, Try.ntmps40
  go_wp2_with (refine wpList_box_st h0 51 _ rfl rfl #[.int .i64 (a : Int), .int .i64 (b : Int), .int .i64 (c : Int)] rfl ?_; clear h0; intro W1 h1 _ hb1; have d0 := h1.cell 0 rfl 0 (.int .i64 (a : Int)) rfl; have d1 := h1.cell 0 rfl 1 (.int .i64 (b : Int)) rfl; have d2 := h1.cell 0 rfl 2 (.int .i64 (c : Int)) rfl; have e0 := (hb1.cell (p := ⟨g, 0, none⟩) hg).trans c0; clear c0)
  replace h1 := Lib.hid h1
  replace hb1 := Lib.hid hb1
  go_quiet (fail)
  go_wp2
  go_ret
  exact ⟨by rw [E.out]; rfl, (h1.out.drewN _).bel⟩
end
end Go.Proofs.Ytacjdeppigdbjaa
