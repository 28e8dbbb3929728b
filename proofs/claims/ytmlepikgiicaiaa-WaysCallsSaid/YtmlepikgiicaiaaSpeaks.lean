/- The document's example of a cache. No statement is proved here. -/
import Derived.Test.YtmlepikgiicaiaaMeth6
namespace Go.Proofs.Ytmlepikgiicaiaa
open Go.RowKit
set_option linter.unusedVariables false
set_option linter.unusedSimpArgs false

theorem run_two (W : World) : (Instr.buildSlice 45 2 #[(0, .int .i64 7), (1, .int .i64 5)]).run Try.prog W = .ok (.slice (some ⟨W.heap.size, 0, none⟩) 2 2) (W.alloc (.cells (iarr [7, 5]) 3)) := by kernel_rfl
theorem wpList_two_wc {w W : World} {g b n : Nat} {c : Cs} {L : Blks} {ops : Array Oper} {rest : List Oper} {o : Oper} {a : Act} {Q : Exit → Act → World → Prop} (h : WC w W g b n c L) (ho : o.op = .buildSlice 45 2 #[(0, .const (.int .i64 7)), (1, .const (.int .i64 5))]) (hw : Region.wanted o (yielded ops a.tmps) = true)
    (k : ∀ W', WC w W' g b n c ((W.heap.size, C 3 (iarr [7, 5])) :: L) → Below W.heap.size W W' → wpList Try.prog ops Q rest (a.put o.dst (.slice (some ⟨W.heap.size, 0, none⟩) 2 2)) W') : wpList Try.prog ops Q (o :: rest) a W := by
  unfold wpList
  rw [if_pos hw]
  refine .inl ?_
  unfold Oper.wp execOp
  simp only [ho, Sem.run_bind, List.map_toArray, List.map_cons, List.map_nil, Act.eval, run_two W, Result.andThen_ok]
  exact k _ (h.push _) ((Below.refl _ _).alloc (Nat.le_refl _) _)
def q0 : Cs := [[]]
def q1 : Cs := [[⟨5, 1⟩]]
def q2 : Cs := [[⟨5, 1⟩, ⟨7, 2⟩]]
def q3 : Cs := [[⟨7, 2⟩, ⟨5, 1⟩]]
theorem f1 : List.replicate (fitN 1) [] = q0 := by decide
theorem f2 : fitN 2 = 2 := by decide
theorem g1a : setK 2 q0 5 = 0 := by decide
theorem g1b : setC 2 q0 5 1 = q1 := by decide
theorem g2a : setK 2 q1 7 = 0 := by decide
theorem g2b : setC 2 q1 7 2 = q2 := by decide
theorem g3a : getO q2 5 = true := by decide
theorem g3b : touchC q2 5 = q3 := by decide
theorem g4a : (sof q3 0).length = 2 := by decide
theorem g4b : ks (sof q3 0) = [7, 5] := by decide
theorem g5a : setK 2 q3 9 = 5 := by decide
theorem l1 : (sof (dropC q0 5) 5).length ≤ 1000 := by decide
theorem l2 : (sof (dropC q1 7) 7).length ≤ 1000 := by decide
theorem l3 : (sof (dropC q2 5) 5).length ≤ 1000 := by decide
theorem l4 : (sof q3 0).length ≤ 1000 := by decide
theorem l5 : (sof (dropC q3 9) 9).length ≤ 1000 := by decide
attribute [local irreducible] q0 q1 q2 q3
set_option maxHeartbeats 1000000 in
theorem speaks_any (W : World) : Calls Try.prog 7 #[] W fun e W' => e = .returned (.bool true) ∧ Below W.heap.size W W' := by
  have NW := Lib.hid (show Calls Try.prog 8 #[.agg #[.int .i64 1, .int .i64 2]] W fun e W' => ∃ g b, e = .returned (.pointer (some ⟨g, 0, none⟩)) ∧ WC W W' g b 2 q0 [] from by
    have := new_any (St.nil W) 1 2
    rw [f1, f2] at this
    exact this)
  have S1 := Lib.hid (fun V g b (h : WC W V g b 2 q0 []) => show Calls Try.prog 10 #[.pointer (some ⟨g, 0, none⟩), .int .i64 5, .int .i64 1] V fun e W' => e = .returned (.int .i64 0) ∧ WC W W' g b 2 q1 [] from by
    have := set_any h 5 1 (by omega) (by omega) l1
    rwa [g1a, g1b] at this)
  have S2 := Lib.hid (fun V g b (h : WC W V g b 2 q1 []) => show Calls Try.prog 10 #[.pointer (some ⟨g, 0, none⟩), .int .i64 7, .int .i64 2] V fun e W' => e = .returned (.int .i64 0) ∧ WC W W' g b 2 q2 [] from by
    have := set_any h 7 2 (by omega) (by omega) l2
    rwa [g2a, g2b] at this)
  have S3 := Lib.hid (fun V g b (h : WC W V g b 2 q2 []) => show Calls Try.prog 14 #[.pointer (some ⟨g, 0, none⟩), .int .i64 5] V fun e W' => e = .returned (.bool true) ∧ WC W W' g b 2 q3 [] from by
    have := touch_any h 5 (by omega) (by omega) l3
    rwa [g3a, g3b] at this)
  have S4 := Lib.hid (fun V g b (h : WC W V g b 2 q3 []) => show Calls Try.prog 19 #[.pointer (some ⟨g, 0, none⟩), .int .i64 0] V fun e W' => ∃ bk, e = .returned (.slice (some ⟨bk, 0, none⟩) 2 2) ∧ WC W W' g b 2 q3 [(bk, C 3 (iarr [7, 5]))] from by
    have := oldest_any h 0 (by omega) l4
    rwa [g4a, g4b] at this)
  have S5 := Lib.hid (fun V g b L (h : WC W V g b 2 q3 L) => show Calls Try.prog 10 #[.pointer (some ⟨g, 0, none⟩), .int .i64 9, .int .i64 3] V fun e W' => e = .returned (.int .i64 5) ∧ WC W W' g b 2 (setC 2 q3 9 3) L from by
    have := set_any h 9 3 (by omega) (by omega) l5
    rwa [g5a] at this)
  have SM := Lib.hid (fun (V : World) bk b2 (h1 : At V bk 3 (iarr [7, 5])) (h2 : At V b2 3 (iarr [7, 5])) => show Calls Try.prog 18 #[.slice (some ⟨bk, 0, none⟩) 2 2, .slice (some ⟨b2, 0, none⟩) 2 2] V fun e w' => e = .returned (.bool true) ∧ ∃ j, w' = V.drewN j from by
    have := same_any _ _ 2 2 2 2 _ _ [7, 5] [7, 5] V (at_irow h1 (by decide)) (at_irow h2 (by decide))
    rwa [decide_eq_true rfl] at this)
  go_enter Try.func7, Try.ntmps7
  go_wp2_with (first
    | (go_at_call 8; refine NW.out.mono ?_; rintro e W1 ⟨g, b, rfl, h1⟩; clear NW)
    | (have _ := h1; go_at_call 10; refine (S1.out _ _ _ h1).mono ?_; clear h1; rintro e W2 ⟨rfl, h2⟩)
    | (have _ := h2; go_at_call 10; refine (S2.out _ _ _ h2).mono ?_; clear h2; rintro e W3 ⟨rfl, h3⟩)
    | (have _ := h3; go_at_call 14; refine (S3.out _ _ _ h3).mono ?_; clear h3; rintro e W4 ⟨rfl, h4⟩)
    | (have _ := h4; go_at_call 19; refine (S4.out _ _ _ h4).mono ?_; clear h4; rintro e W5 ⟨bk, rfl, h5⟩)
    | (have _ := h5; refine wpList_two_wc h5 rfl rfl ?_; clear h5; intro W6 h6 _; generalize W5.heap.size = b2 at *)
    | (have _ := h6; go_at_call 18; refine (SM.out _ _ _ (h6.at2 1 rfl) (h6.at2 0 rfl)).mono ?_; rintro e W7 ⟨rfl, j, rfl⟩; have h7 := h6.drewN j; clear h6)
    | (have _ := h7; go_at_call 10; refine (S5.out _ _ _ _ h7).mono ?_; clear h7; rintro e W8 ⟨rfl, h8⟩))
  go_ret
  exact ⟨rfl, h8.bel⟩
end Go.Proofs.Ytmlepikgiicaiaa
