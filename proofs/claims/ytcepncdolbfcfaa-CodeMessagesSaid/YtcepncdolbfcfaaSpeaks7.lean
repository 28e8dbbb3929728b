/- The document's example of counters is told as it says; two lines are compared. No statement is proved here. -/
import Derived.Test.YtcepncdolbfcfaaRefNext
import Derived.Test.YtcepncdolbfcfaaRefFit2
import Derived.Test.YtcepncdolbfcfaaMsg
import Derived.Stop.BytesEq
namespace Go.Proofs.Ytcepncdolbfcfaa
open Go.RowKit
set_option linter.unusedVariables false
set_option linter.unusedSimpArgs false

theorem vals_cells (xs : List Nat) (bx : ∀ x ∈ xs, x < 256) : vals xs = (xs.map UInt8.ofNat).map Extern.Stop.cell := by
  unfold vals
  rw [List.map_map]
  refine List.map_congr_left fun x hx => ?_
  have := bx x hx
  simp [Extern.Stop.cell, Nat.mod_eq_of_lt this]
theorem ofNat_inj (xs ys : List Nat) (bx : ∀ x ∈ xs, x < 256) (by_ : ∀ x ∈ ys, x < 256) (h : xs.map UInt8.ofNat = ys.map UInt8.ofNat) : xs = ys := by
  have e : ∀ zs : List Nat, (∀ x ∈ zs, x < 256) → (zs.map UInt8.ofNat).map UInt8.toNat = zs := fun zs hz => by
    rw [List.map_map]
    refine (List.map_congr_left (g := id) fun x hx => ?_).trans (List.map_id _)
    have := hz x hx
    simp [Nat.mod_eq_of_lt this]
  rw [← e xs bx, ← e ys by_, h]
/-- A line: 32 bytes. -/
structure IsLine (xs : List Nat) : Prop where
  len : xs.length = 32
  lt : ∀ x ∈ xs, x < 256
theorem zeros_line : IsLine zeros := ⟨rfl, by intro x hx; rw [List.eq_of_mem_replicate hx]; omega⟩
theorem equalIn_line (xs ys : List Nat) (hx : IsLine xs) (hy : IsLine ys) (w : World) : (Op.equalIn 10000 33 (.agg (arrV xs)) (.agg (arrV ys))).run Try.prog w = .ok (decide (xs = ys)) w := by
  unfold arrV
  rw [vals_cells xs hx.lt, vals_cells ys hy.lt, run_equalIn_bytes w 9998 33 5 32 Try.underlying33 Try.underlying5 (fun _ => by kernel_rfl) _ _ (by simpa using hx.len) (by simpa using hy.len)]
  congr 1
  rw [Bool.eq_iff_iff, beq_iff_eq, decide_eq_true_eq]
  exact ⟨ofNat_inj xs ys hx.lt hy.lt, fun e => by rw [e]⟩
theorem eql_line (xs ys : List Nat) (hx : IsLine xs) (hy : IsLine ys) (w : World) : (binOp .eql 33 (.agg (arrV xs)) (.agg (arrV ys))).run Try.prog w = .ok (.bool (decide (xs = ys))) w := by
  rw [run_eql_struct, equalIn_line xs ys hx hy]; rfl
theorem neq_line (xs ys : List Nat) (hx : IsLine xs) (hy : IsLine ys) (w : World) : (binOp .neq 33 (.agg (arrV xs)) (.agg (arrV ys))).run Try.prog w = .ok (.bool (!decide (xs = ys))) w := by
  rw [run_neq_struct, equalIn_line xs ys hx hy]; rfl
theorem arrV_at (xs : List Nat) (i v : Nat) (hi : i < xs.length) (hv : xs.getD i 0 = v) : (arrV xs)[i]? = some (.int .u8 (v : Int)) := by
  unfold arrV
  rw [List.getElem?_toArray, vals_getElem? xs i hi, hv]
theorem IRow.two (w : World) (x y : Int) (hx : I64 x) (hy : I64 y) : IRow (w.alloc (.cells #[.int .i64 x, .int .i64 y] 3)) (w.heap.size + 1) (some ⟨w.heap.size, 0, none⟩) 2 2 [x, y] := by
  refine ⟨rfl, by simp [hx, hy], Nat.le_refl _, by unfold maxLen; omega, (fun h => by cases h), fun a ha _ => ?_⟩
  injection ha with ha
  subst ha
  refine ⟨rfl, by simp, fun j hj => ?_⟩
  rcases (show j = 0 ∨ j = 1 by omega) with rfl | rfl <;> simp
def Pl.x7 : Pl := { Pl.zero with li := 2, mi := 3, ma := 5 }
theorem x7_arr : Pl.x7.arr = #[.int .i64 0, .int .i64 0, .int .i64 0, .int .i64 2, .int .i64 0, .int .i64 3, .int .u64 5, .int .i64 0, .int .i64 0, .int .i64 0, .int .i64 0, .int .i64 0, .int .i64 0, .int .i64 0, .int .u8 0, .int .u8 0, .int .u8 0, .int .u8 0, .int .u8 0, .int .u8 0, .int .u8 0, .int .u8 0, .int .u8 0, .int .u8 0, .int .u8 0, .int .u8 0, .int .u8 0, .int .u8 0, .int .u8 0, .int .u8 0, .int .u8 0, .int .u8 0, .int .u8 0, .int .u8 0, .int .u8 0, .int .u8 0, .int .u8 0, .int .u8 0, .int .u8 0, .int .u8 0, .int .u8 0, .int .u8 0, .int .u8 0, .int .u8 0, .int .u8 0, .int .u8 0] := by
  unfold Pl.arr Pl.cs; rfl
theorem zv28 (W : World) : (zeroValue 28).run Try.prog W = .ok (.agg Pl.zero.arr) W := by rw [zero_arr]; kernel_rfl
theorem x7_right : right (fitP Pl.x7) = true := by decide +kernel
theorem x7_wrg1 : wrg (fitP Pl.x7) 1 [5, 6] = 0 := by decide +kernel
theorem x7_cb0 : (cb 1 [5, 6] 3 2).getD 0 0 = 1 := by decide +kernel
theorem x7_cb8 : (cb 1 [5, 6] 3 2).getD 8 0 = 53 := by decide +kernel
theorem x7_nxt1 : nxt (fitP Pl.x7) 1 [5, 6] 1 = ⟨1, [5, 7], false, 0⟩ := by unfold nxt; rw [if_neg (by decide +kernel), if_neg (by decide +kernel), if_pos (by decide +kernel)]; rfl
theorem x7_nxt2 : nxt (fitP Pl.x7) 1 [5, 7] 1 = ⟨2, [0, 0], true, 0⟩ := by unfold nxt; rw [if_neg (by decide +kernel), if_neg (by decide +kernel), if_neg (by decide +kernel), if_neg (by decide +kernel)]; rfl
theorem x7_good : Good 1 2 3 [5, 6] := ⟨by omega, rfl, by omega, by omega, by omega, by
  intro j hj
  rcases (show j = 0 ∨ j = 1 by omega) with rfl | rfl <;> decide⟩
theorem x7_li : (fitP Pl.x7).li = ((2 : Nat) : Int) := by decide +kernel
theorem x7_mi : (fitP Pl.x7).mi = ((3 : Nat) : Int) := by decide +kernel
end Go.Proofs.Ytcepncdolbfcfaa
