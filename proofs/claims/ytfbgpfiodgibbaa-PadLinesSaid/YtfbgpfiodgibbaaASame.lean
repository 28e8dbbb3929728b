/- Two blocks are compared. No statement is proved here. -/
import Derived.Test.YtfbgpfiodgibbaaAEncrypt
import Derived.Stop.BytesEq
namespace Go.Proofs.Ytfbgpfiodgibbaa.A
open Go.RowKit
set_option linter.unusedVariables false

theorem vals_cells (xs : List Nat) (bx : ∀ x ∈ xs, x < 256) : vals xs = (xs.map UInt8.ofNat).map Extern.Stop.cell := by
  unfold vals
  rw [List.map_map]
  refine List.map_congr_left fun x hx => ?_
  have := bx x hx
  simp [Extern.Stop.cell, Nat.mod_eq_of_lt this]
theorem ofNat_inj (xs ys : List Nat) (bx : ∀ x ∈ xs, x < 256) (by_ : ∀ x ∈ ys, x < 256) (h : xs.map UInt8.ofNat = ys.map UInt8.ofNat) : xs = ys := by
  have e : ∀ zs : List Nat, (∀ x ∈ zs, x < 256) → (zs.map UInt8.ofNat).map UInt8.toNat = zs := fun zs hz => by
    rw [List.map_map]
    refine (List.map_congr_left (g := id) fun x hx => ?_).trans (List.map_id _)
    have := hz x hx
    simp [Nat.mod_eq_of_lt this]
  rw [← e xs bx, ← e ys by_, h]
theorem eql_block (xs ys : List Nat) (hx : xs.length = 16) (hy : ys.length = 16) (bx : ∀ x ∈ xs, x < 256) (by_ : ∀ x ∈ ys, x < 256) (w : World) :
    (binOp .eql 23 (.agg (arrV xs)) (.agg (arrV ys))).run Try.prog w = .ok (.bool (decide (xs = ys))) w := by
  unfold arrV
  rw [vals_cells xs bx, vals_cells ys by_, run_eql_bytes w 23 5 16 Try.underlying23 Try.underlying5 (fun _ => by kernel_rfl) _ _ (by simpa using hx) (by simpa using hy)]
  congr 2
  rw [Bool.eq_iff_iff, beq_iff_eq, decide_eq_true_eq]
  exact ⟨ofNat_inj xs ys bx by_, fun e => by rw [e]⟩

theorem cells_lt (key : List Nat) (hk : key.length = 16) (bk : ∀ x ∈ key, x < 256) : ∀ x ∈ cells key, x < 256 := by
  rw [cells_eq key hk bk]
  intro x hx
  rcases List.mem_append.1 hx with hx | hx
  · exact (exTo_ok _ _ fresh_lt hk bk 40 (by omega)).2.1 x hx
  · exact tbTo_lt 256 x hx
attribute [local irreducible] cells enc

end Go.Proofs.Ytfbgpfiodgibbaa.A
