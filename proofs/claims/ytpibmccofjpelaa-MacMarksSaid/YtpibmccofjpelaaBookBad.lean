/- A book in which no bad event was tells so. No statement is proved here. -/
import Derived.Test.YtpibmccofjpelaaBookVerify
namespace Go.Proofs.Ytpibmccofjpelaa
open Go.RowKit Go.Maps
set_option linter.unusedVariables false

theorem make_bad (W : World) : (Instr.makeSlice 47 (.int .i64 0) (.int .i64 0)).run Try.prog W = .ok (.slice (some ⟨W.heap.size, 0, none⟩) 0 0) (W.alloc (.cells #[] 62)) := by kernel_rfl
set_option maxRecDepth 20000 in
set_option maxHeartbeats 1000000 in
theorem bad_none (base gk gl : Nat) (sv : Value) (m1 m2 : Nat) (ms : List Mark) (w : World) (h : BSt w base gk gl sv m1 m2 ms) :
    Calls Try.prog 32 #[.pointer (some ⟨gk, 0, none⟩)] w fun e w' => (∃ g, e = .returned (.slice (some ⟨g, 0, none⟩) 0 0)) ∧ Below w.heap.size w w' := by
  have c2 := h.c2
  have hmk := make_bad
  have c3 := (h.below ((Below.refl _ _).alloc (Nat.le_refl _) (.cells #[] 62))).c2
  clear h
  go_enter Try.func32, Try.ntmps32
  go_wp2
  go_loopw [17] (fun i wr => i = .int .i64 0 ∧ wr = w.alloc (.cells #[] 62)) (fun _ _ => 0)
  case atStart => exact ⟨rfl, rfl⟩
  case round =>
    obtain ⟨rfl, rfl⟩ := hrel
    go_wp2
    go_ret
    exact ⟨⟨_, rfl⟩, (Below.refl _ _).alloc (Nat.le_refl _) _⟩
end Go.Proofs.Ytpibmccofjpelaa
