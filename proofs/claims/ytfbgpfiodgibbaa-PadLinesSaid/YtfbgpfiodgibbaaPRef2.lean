/- The document's pads. No statement is proved here. -/
import Derived.Test.YtfbgpfiodgibbaaPRef
import Derived.Test.YtfbgpfiodgibbaaAR3
namespace Go.Proofs.Ytfbgpfiodgibbaa
open Go.RowKit
open A (arrV vals)
set_option linter.unusedVariables false
set_option linter.unusedSimpArgs false

/-- The document's key in memory. -/
def RK (V : World) (key : List Nat) (gt c gb cb : Nat) : Prop := ∃ base vs, A.RKey V base key gt c gb cb vs
theorem RK.call {V V2 : World} {key : List Nat} {gt c gb cb : Nat} (h : RK V key gt c gb cb) (hb : Below V.heap.size V V2) : RK V2 key gt c gb cb := by
  obtain ⟨base, vs, h⟩ := h
  exact ⟨base, vs, h.below hb⟩
theorem RK.drew {V : World} {key : List Nat} {gt c gb cb : Nat} (h : RK V key gt c gb cb) : RK V.drew key gt c gb cb := by
  obtain ⟨base, vs, h⟩ := h
  exact ⟨base, vs, h.drew⟩
theorem refKey_any (key : List Nat) (hk : IsKey key) (w : World) :
    Calls Try.prog 8 #[.agg (arrV key)] w fun e w' => ∃ gt c gb cb, e = .returned (.agg #[.slice (some ⟨gt, 0, none⟩) 44 c, .slice (some ⟨gb, 0, none⟩) 256 cb]) ∧ RK w' key gt c gb cb ∧ Below w.heap.size w w' := by
  refine (A.refOf_any key hk.len hk.lt w).mono ?_
  rintro e w' ⟨gt, c, gb, cb, vs, rfl, h, hb⟩
  exact ⟨gt, c, gb, cb, rfl, ⟨_, vs, h⟩, hb⟩
theorem refEnc_any (key : List Nat) (hk : IsKey key) (s : Sd) (gt c gb cb : Nat) (w : World) (h : RK w key gt c gb cb) :
    Calls Try.prog 20 #[.agg #[.slice (some ⟨gt, 0, none⟩) 44 c, .slice (some ⟨gb, 0, none⟩) 256 cb], .agg (arrV (sb s))] w fun e w' => e = .returned (.agg (arrV (padN key s))) ∧ Below w.heap.size w w' := by
  obtain ⟨base, vs, h⟩ := h
  have := A.refEncrypt_with (Lib.hid (fun bs os cs xs W h => A.refMix_any bs os cs xs W h)) key (sb s) hk.len hk.lt (sb_length s) (sb_lt s) gt c gb cb base vs w h
  have e : A.st key (sb s) 10 = padN key s := by unfold A.st padN; rw [if_neg (by omega)]
  rw [e] at this
  exact this
end Go.Proofs.Ytfbgpfiodgibbaa
