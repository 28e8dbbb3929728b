/- A book with ideal tags verifies a tag, and tells that no bad event was. No statement is proved here. -/
import Derived.Test.YtpibmccofjpelaaBookTag
namespace Go.Proofs.Ytpibmccofjpelaa
open Go.RowKit Go.Maps
set_option linter.unusedVariables false

set_option maxRecDepth 20000 in
set_option maxHeartbeats 1000000 in
theorem verify_none (base gk gl : Nat) (sv : Value) (m1 m2 : Nat) (ms : List Mark) (A : Option Addr) (n c : Nat) (xs : List Nat) (t : Int) (w : World) (h : BSt w base gk gl sv m1 m2 ms) (hx : Row w w.heap.size A n c xs) (h0 : findM ms xs = 0) :
    Calls Try.prog 23 #[.pointer (some ⟨gk, 0, none⟩), .slice A n c, .int .u64 t] w fun e w' => e = .returned (.bool false) ∧ Below w.heap.size w w' := by
  have FI := Lib.hid (find_any base gl sv m1 m2 ms A n c xs _ w h.ls hx)
  rw [h0] at FI
  have TG : Hid (∀ W, Calls Try.prog 65 #[.agg #[], .slice A n c, .int .i64 0] W fun e w' => e = .returned (.tuple #[.int .u64 0, .bool false]) ∧ Below W.heap.size W w') := fun W => tagOf_ideal A n c 0 (by omega) W
  have md := method_ideal
  have c0 := h.c0
  have c1 := h.c1
  clear h hx h0
  go_enter Try.func23, Try.ntmps23
  go_wp2_with (first
    | (go_at_call 40; refine FI.out.mono ?_; rintro e X1 ⟨rfl, k, rfl⟩)
    | (go_at_call 65; refine (TG.out _).mono ?_; rintro e X2 ⟨rfl, hb⟩)
    | fail)
  go_ret
  exact ⟨rfl, (below_drewN (Below.refl _ _)).trans hb⟩
set_option maxRecDepth 20000 in
set_option maxHeartbeats 1000000 in
theorem verify_some (base gk gl : Nat) (sv : Value) (m1 m2 : Nat) (ms : List Mark) (A : Option Addr) (n c : Nat) (xs : List Nat) (t : Int) (w : World) (h : BSt w base gk gl sv m1 m2 ms) (hx : Row w w.heap.size A n c xs) (h0 : 0 < findM ms xs) (hN : findM ms xs < 1000000) :
    Calls Try.prog 23 #[.pointer (some ⟨gk, 0, none⟩), .slice A n c, .int .u64 t] w fun e w' => e = .returned (.bool (decide (t = (findM ms xs : Nat)))) ∧ Below w.heap.size w w' := by
  have FI := Lib.hid (find_any base gl sv m1 m2 ms A n c xs _ w h.ls hx)
  have TG : Hid (∀ W, Calls Try.prog 65 #[.agg #[], .slice A n c, .int .i64 (findM ms xs : Nat)] W fun e w' => e = .returned (.tuple #[.int .u64 (findM ms xs : Nat), .bool true]) ∧ Below W.heap.size W w') := fun W => by
    have := tagOf_ideal A n c (findM ms xs) hN W
    rw [decide_eq_true h0] at this
    exact this
  have md := method_ideal
  have c0 := h.c0
  have c1 := h.c1
  clear h hx
  generalize findM ms xs = N at *
  by_cases ht : t = (N : Int)
  · subst ht
    rw [decide_eq_true rfl]
    go_enter Try.func23, Try.ntmps23
    go_wp2_with (first
      | (go_at_call 40; refine FI.out.mono ?_; rintro e X1 ⟨rfl, k, rfl⟩)
      | (go_at_call 65; refine (TG.out _).mono ?_; rintro e X2 ⟨rfl, hb⟩)
      | fail)
    go_ret
    exact ⟨rfl, (below_drewN (Below.refl _ _)).trans hb⟩
  · rw [decide_eq_false ht]
    go_enter Try.func23, Try.ntmps23
    go_wp2_with (first
      | (go_at_call 40; refine FI.out.mono ?_; rintro e X1 ⟨rfl, k, rfl⟩)
      | (go_at_call 65; refine (TG.out _).mono ?_; rintro e X2 ⟨rfl, hb⟩)
      | fail)
    go_ret
    exact ⟨rfl, (below_drewN (Below.refl _ _)).trans hb⟩
end Go.Proofs.Ytpibmccofjpelaa
