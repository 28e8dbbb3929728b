/- A book with ideal tags verifies a tag, whatever bad events it has; a book gives its marks. No statement is proved here. -/
import Derived.Test.YtpibmccofjpelaaBadAny
namespace Go.Proofs.Ytpibmccofjpelaa
open Go.RowKit Go.Maps
set_option linter.unusedVariables false
set_option linter.unusedSimpArgs false
attribute [local irreducible] findM firstM

set_option maxRecDepth 20000 in
set_option maxHeartbeats 1000000 in
theorem gver_ideal (base gk : Nat) (ms : List Mark) (rs : List Bm) (gl : Nat) (sv : Value) (m1 m2 : Nat) (bv : Value) (A : Option Addr) (n c : Nat) (xs : List Nat) (w : World) (h : Gk w base gk .ideal ms rs gl sv m1 m2 bv) (hx : Row w w.heap.size A n c xs) (t : Int) (hN : findM ms xs < 1000000) :
    Calls Try.prog 23 #[.pointer (some ⟨gk, 0, none⟩), .slice A n c, .int .u64 t] w fun e w' => e = .returned (.bool (decide (0 < findM ms xs ∧ t = (findM ms xs : Nat)))) ∧ Below w.heap.size w w' := by
  have FI := Lib.hid (find_any base gl sv m1 m2 ms A n c xs _ w h.ls hx)
  have TG := Lib.hid (fun W => tagOf_ideal A n c (findM ms xs) hN W)
  have md := method_ideal
  have c0 : w.cell? ⟨gk, 0, none⟩ = some (.iface 82 (.agg #[])) := h.c0
  have c1 := h.c1
  clear h hx
  generalize findM ms xs = N at *
  by_cases h0 : N = 0
  · subst h0
    rw [decide_eq_false (by omega)]
    rw [decide_eq_false (by omega)] at TG
    go_enter Try.func23, Try.ntmps23
    go_wp2_with (first
      | (go_at_call 40; refine FI.out.mono ?_; rintro e X1 ⟨rfl, k, rfl⟩)
      | (go_at_call 65; refine (TG.out _).mono ?_; rintro e X2 ⟨rfl, hb⟩)
      | fail)
    go_ret
    exact ⟨rfl, (below_drewN (Below.refl _ _)).trans hb⟩
  rw [decide_eq_true (by omega)] at TG
  by_cases ht : t = (N : Int)
  · subst ht
    rw [decide_eq_true (by omega)]
    go_enter Try.func23, Try.ntmps23
    go_wp2_with (first
      | (go_at_call 40; refine FI.out.mono ?_; rintro e X1 ⟨rfl, k, rfl⟩)
      | (go_at_call 65; refine (TG.out _).mono ?_; rintro e X2 ⟨rfl, hb⟩)
      | fail)
    go_ret
    exact ⟨rfl, (below_drewN (Below.refl _ _)).trans hb⟩
  · rw [decide_eq_false (by omega)]
    go_enter Try.func23, Try.ntmps23
    go_wp2_with (first
      | (go_at_call 40; refine FI.out.mono ?_; rintro e X1 ⟨rfl, k, rfl⟩)
      | (go_at_call 65; refine (TG.out _).mono ?_; rintro e X2 ⟨rfl, hb⟩)
      | fail)
    go_ret
    exact ⟨rfl, (below_drewN (Below.refl _ _)).trans hb⟩
end Go.Proofs.Ytpibmccofjpelaa
