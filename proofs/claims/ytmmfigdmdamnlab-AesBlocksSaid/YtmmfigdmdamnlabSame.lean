/- Two blocks are compared. No statement is proved here. -/
import Derived.Test.YtmmfigdmdamnlabSpeaks
import Derived.Stop.BytesEq
namespace Go.Proofs.Ytmmfigdmdamnlab
open Go.RowKit
set_option linter.unusedVariables false

theorem vals_cells (xs : List Nat) (bx : ∀ x ∈ xs, x < 256) : vals xs = (xs.map UInt8.ofNat).map Extern.Stop.cell := by
  unfold vals
  rw [List.map_map]
  refine List.map_congr_left fun x hx => ?_
  have := bx x hx
  simp [Extern.Stop.cell, Nat.mod_eq_of_lt this]
theorem ofNat_inj (xs ys : List Nat) (bx : ∀ x ∈ xs, x < 256) (by_ : ∀ x ∈ ys, x < 256) (h : xs.map UInt8.ofNat = ys.map UInt8.ofNat) : xs = ys := by
  have e : ∀ zs : List Nat, (∀ x ∈ zs, x < 256) → (zs.map UInt8.ofNat).map UInt8.toNat = zs := fun zs hz => by
    rw [List.map_map]
    refine (List.map_congr_left (g := id) fun x hx => ?_).trans (List.map_id _)
    have := hz x hx
    simp [Nat.mod_eq_of_lt this]
  rw [← e xs bx, ← e ys by_, h]
theorem eql_block (xs ys : List Nat) (hx : xs.length = 16) (hy : ys.length = 16) (bx : ∀ x ∈ xs, x < 256) (by_ : ∀ x ∈ ys, x < 256) (w : World) :
    (binOp .eql 27 (.agg (arrV xs)) (.agg (arrV ys))).run Try.prog w = .ok (.bool (decide (xs = ys))) w := by
  unfold arrV
  rw [vals_cells xs bx, vals_cells ys by_, run_eql_bytes w 27 5 16 Try.underlying27 Try.underlying5 (fun _ => by kernel_rfl) _ _ (by simpa using hx) (by simpa using hy)]
  congr 2
  rw [Bool.eq_iff_iff, beq_iff_eq, decide_eq_true_eq]
  exact ⟨ofNat_inj xs ys bx by_, fun e => by rw [e]⟩

theorem unL_lt (s : ByteArray) (k : Nat) (h : U.okTo s k) : ∀ x ∈ U.unL s k, x < 256 := by
  intro x hx
  simp only [U.unL, List.mem_map, List.mem_range] at hx
  obtain ⟨j, hj, rfl⟩ := hx
  exact U.valD_lt s j (h j hj)
theorem keyLt : ∀ x ∈ U.unL sKey 16, x < 256 := unL_lt _ _ okKey
theorem inLt : ∀ x ∈ U.unL sIn 16, x < 256 := unL_lt _ _ okIn
theorem outLt : ∀ x ∈ U.unL sOut 16, x < 256 := unL_lt _ _ okOut

theorem cells_lt (key : List Nat) (hk : key.length = 16) (bk : ∀ x ∈ key, x < 256) : ∀ x ∈ cells key, x < 256 := by
  rw [cells_eq key hk bk]
  intro x hx
  rcases List.mem_append.1 hx with hx | hx
  · exact (exTo_ok _ _ fresh_lt hk bk 40 (by omega)).2.1 x hx
  · exact tbTo_lt 256 x hx
attribute [local irreducible] cells enc

set_option maxHeartbeats 1000000 in
theorem speaks_with (kb ib ob : List Nat) (bk : ∀ x ∈ kb, x < 256) (lk : kb.length = 16) (bi : ∀ x ∈ ib, x < 256) (li : ib.length = 16) (bo : ∀ x ∈ ob, x < 256) (lo : ob.length = 16) (ex : enc (cells kb) ib = ob)
    (BK : Hid (∀ W : World, Calls Try.prog 19 #[.string ⟨#[48, 48, 48, 49, 48, 50, 48, 51, 48, 52, 48, 53, 48, 54, 48, 55, 48, 56, 48, 57, 48, 97, 48, 98, 48, 99, 48, 100, 48, 101, 48, 102]⟩] W (GivesArr W kb)))
    (BI : Hid (∀ W : World, Calls Try.prog 19 #[.string ⟨#[48, 48, 49, 49, 50, 50, 51, 51, 52, 52, 53, 53, 54, 54, 55, 55, 56, 56, 57, 57, 97, 97, 98, 98, 99, 99, 100, 100, 101, 101, 102, 102]⟩] W (GivesArr W ib)))
    (BO : Hid (∀ W : World, Calls Try.prog 19 #[.string ⟨#[54, 57, 99, 52, 101, 48, 100, 56, 54, 97, 55, 98, 48, 52, 51, 48, 100, 56, 99, 100, 98, 55, 56, 48, 55, 48, 98, 52, 99, 53, 53, 97]⟩] W (GivesArr W ob)))
    (w : World) : Calls Try.prog 9 #[] w fun e w' => e = .returned (.bool true) ∧ Below w.heap.size w w' := by
  have EQ : ∀ W : World, (binOp .eql 27 (.agg (arrV ob)) (.agg (arrV ob))).run Try.prog W = .ok (.bool true) W := fun W => by rw [eql_block _ _ lo lo bo bo, decide_eq_true rfl]
  have EX := Lib.hid ex
  have NW := Lib.hid (fun W => new_any kb W lk bk)
  have EN := Lib.hid (fun g W (h : Blk W g 49 (cells kb)) => encrypt_any g (cells kb) W h (cells_length kb lk bk) (cells_lt kb lk bk) ib li bi)
  clear ex bk lk bi li bo lo
  go_enter Try.func9, Try.ntmps9
  go_wp2_with (first
    | (go_at_call 19; have _ := hb4; refine (BO.out _).mono ?_; rintro e W7 ⟨rfl, hb5⟩)
    | (go_at_call 17; refine (EN.out g _ (hcip.below hb3 hcip.lt)).mono ?_; rintro e W6 ⟨rfl, hb4⟩; rw [EX.out])
    | (go_at_call 19; have _ := hcip; refine (BI.out _).mono ?_; rintro e W5 ⟨rfl, hb3⟩)
    | (go_at_call 12; refine (sub_any 0 _ (by omega)).mono ?_; rintro e W4 ⟨rfl, rfl⟩; rw [sub_zero])
    | (go_at_call 15; refine (NW.out _).mono ?_; rintro e W3 ⟨g, rfl, hg, hcip, hb2⟩)
    | (go_at_call 19; refine (BK.out _).mono ?_; rintro e W2 ⟨rfl, hb1⟩))
  go_ret
  have h2 := hb1.trans (hb2.mono hb1.size)
  have h3 := h2.trans (hb3.mono h2.size)
  have h4 := h3.trans (hb4.mono h3.size)
  exact ⟨rfl, h4.trans (hb5.mono h4.size)⟩
theorem speaks_any (w : World) : Calls Try.prog 9 #[] w fun e w' => e = .returned (.bool true) ∧ Below w.heap.size w w' :=
  speaks_with (U.unL sKey 16) (U.unL sIn 16) (U.unL sOut 16) keyLt (U.unL_length _ _) inLt (U.unL_length _ _) outLt (U.unL_length _ _) example_bytes (fun W => block_any sKey rfl okKey W) (fun W => block_any sIn rfl okIn W) (fun W => block_any sOut rfl okOut W) w
end Go.Proofs.Ytmmfigdmdamnlab
