/- The document's table of the bytes that stand for others. No statement is proved here. -/
import Derived.Test.YtmmfigdmdamnlabRefSub
import Derived.Test.YtmmfigdmdamnlabUAppend
import Derived.Test.YtmmfigdmdamnlabKeysInj
namespace Go.Proofs.Ytmmfigdmdamnlab
open Go.RowKit
set_option linter.unusedVariables false

def boxTo (k : Nat) : List Nat := (List.range k).map sub
theorem boxTo_succ (k : Nat) : boxTo (k + 1) = boxTo k ++ [sub k] := by unfold boxTo; rw [List.range_succ, List.map_append]; rfl
theorem boxTo_length (k : Nat) : (boxTo k).length = k := by simp [boxTo]
theorem boxTo_getD (v : Nat) (h : v < 256) : (boxTo 256).getD v 0 = sub v := by simp [boxTo, List.getD_eq_getElem?_getD, h]
theorem boxTo_lt (k : Nat) : ∀ x ∈ boxTo k, x < 256 := by
  intro x hx
  unfold boxTo at hx
  obtain ⟨y, _, rfl⟩ := List.mem_map.1 hx
  exact sub_lt y
def BxRel (w : World) (s i : Value) (wr : World) : Prop :=
  ∃ k A c, k ≤ 256 ∧ i = .int .i64 (k : Nat) ∧ s = .slice A k c ∧ U.Own wr w.heap.size A k c (boxTo k) ∧ Below w.heap.size w wr
attribute [local irreducible] boxTo sub

set_option maxRecDepth 20000 in
set_option maxHeartbeats 1000000 in
theorem refBox_any (w : World) : Calls Try.prog 23 #[] w (U.GivesRow w (boxTo 256)) := by
  have E0 : Hid (boxTo 0 = []) := by unfold boxTo; exact rfl
  go_enter Try.func23, Try.ntmps23
  go_wp2
  go_loopw [1, 2] (BxRel w) (fun _ i _ => 256 - (intOf i).toNat)
  case atStart => exact ⟨0, _, 0, Nat.zero_le _, rfl, rfl, by rw [E0.out]; exact U.Own.empty (Nat.le_refl _), (Below.refl _ _).alloc (Nat.le_refl _) _⟩
  case round =>
    obtain ⟨k, A, c, hk, rfl, rfl, hO, hb⟩ := hrel
    have HO := Lib.hid hO
    have HB := Lib.hid hb
    clear hO hb
    by_cases hlt : k < 256
    · have wk : IntKind.u8.wrap (k : Int) = (k : Int) := IntWalk.u8_in _ (by omega)
      have ls := sub_lt k
      have SK := Lib.hid (fun W => refSub_any k W hlt)
      have ES := Lib.hid (boxTo_succ k)
      generalize sub k = u at *
      go_wp2_with (first
        | (go_at_call 13; refine (SK.out _).mono ?_; rintro e X1 ⟨rfl, q, rfl⟩)
        | (at_builtin; refine U.wpList_append_row _ rfl _ _ rfl w.heap.size A k c _ rfl ((HO.out.drewN q).alloc _) (wr.heap.size + 1) (some ⟨wr.heap.size, 0, none⟩) 1 1 [u] rfl (U.Row.one (wr.drewN q) u _ rfl ls) (by omega) (by have := HB.out.size; simp; omega) ?_; intro A3 c3 w3 hO3 hg3 hbl3))
      have HO3 := Lib.hid hO3
      have HB3 := Lib.hid (U.below_append (below_drewN (k := q) HB.out) (HO.out.drewN q) hg3)
      clear hO3 hg3 hbl3
      go_roundw
      case rel => exact ⟨k + 1, A3, c3, hlt, by go_num, rfl, by rw [ES.out]; exact HO3.out, HB3.out⟩
      case measure => simp [intOf]; omega
    · have e : k = 256 := by omega
      have HO2 : Hid (U.Own wr w.heap.size A k c (boxTo 256)) := by rw [show boxTo 256 = boxTo k by rw [e]]; exact HO.out
      have LL : Hid ((boxTo 256).length = k) := by rw [boxTo_length, e]; exact rfl
      clear e HO
      go_wp2
      go_ret
      refine ⟨A, c, ?_, ?_, HB.out⟩
      · rw [LL.out]; rfl
      · rw [LL.out]; exact HO2.out
end Go.Proofs.Ytmmfigdmdamnlab
