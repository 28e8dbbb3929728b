/- A new queue. No statement is proved here. -/
import Derived.Test.YtacjdeppigdbjaaQueue
namespace Go.Proofs.Ytacjdeppigdbjaa
open Go.RowKit
set_option linter.unusedVariables false
set_option linter.unusedSimpArgs false

theorem info31 : (Try.prog.info? 31).map (·.bytes) = some 72 := by kernel_rfl
theorem mkc (n : Nat) (hn : n ≤ 4096) (W : World) : (Instr.makeChan 77 (.int .i64 (n : Int))).run Try.prog W = .ok (.chan (some W.heap.size)) (W.alloc (.chan n #[] false 0 0 false)) := by
  obtain ⟨i, hi, hb⟩ := Option.map_eq_some_iff.1 info31
  exact Go.Conc.run_makeChan (P := Try.prog) (w := W) Try.underlying77 hi .i64 n (by omega) (by rw [hb]; omega)
theorem St.two {w W : World} {L : Blks} {x y : Nat × Obj} (h : St w W (L ++ [x] ++ [y])) : St w W (x :: y :: L) := by
  refine h.perm ?_
  rw [List.append_assoc]
  exact (List.perm_append_comm (l₁ := L) (l₂ := [x, y]))
theorem St.three {w W : World} {L : Blks} {x y z : Nat × Obj} (h : St w W (L ++ [x] ++ [y] ++ [z])) : St w W (z :: x :: y :: L) := by
  refine h.perm ?_
  rw [List.append_assoc, List.append_assoc]
  refine (List.perm_append_comm (l₁ := L) (l₂ := [x, y, z])).trans ?_
  show ([x, y] ++ [z] ++ L).Perm ([z] ++ [x, y] ++ L)
  exact (List.perm_append_comm).append_right _
theorem St.three' {w W : World} {L : Blks} {x y z : Nat × Obj} (h : St w W (L ++ [y] ++ [x] ++ [z])) : St w W (z :: x :: y :: L) := by
  refine h.three.perm ?_
  exact (List.Perm.swap x y L).cons z
theorem St.newQ {w W : World} {L : Blks} (h : St w W L) (p q : Nat) (arr : Array Value) :
    St w ((((W.alloc (.chan p #[] false 0 0 false)).alloc (.chan q #[] false 0 0 false)).alloc (.cells arr 79)).drew) ((W.heap.size + 1 + 1, C 79 arr) :: (W.heap.size, Ch p (bufM []) 0 0) :: (W.heap.size + 1, Ch q (bufM []) 0 0) :: L) := by
  have h1 := (((h.pushO (.chan p #[] false 0 0 false)).pushO (.chan q #[] false 0 0 false)).push 79 arr).three.drew
  rw [bufM_nil]
  simpa only [World.size_alloc] using h1
theorem St.newQ' {w W : World} {L : Blks} (h : St w W L) (p q : Nat) (arr : Array Value) :
    St w ((((W.alloc (.chan q #[] false 0 0 false)).alloc (.chan p #[] false 0 0 false)).alloc (.cells arr 79)).drew) ((W.heap.size + 1 + 1, C 79 arr) :: (W.heap.size + 1, Ch p (bufM []) 0 0) :: (W.heap.size, Ch q (bufM []) 0 0) :: L) := by
  have h1 := (((h.pushO (.chan q #[] false 0 0 false)).pushO (.chan p #[] false 0 0 false)).push 79 arr).three'.drew
  rw [bufM_nil]
  simpa only [World.size_alloc] using h1
/-- How much room a queue is given. -/
def clampR (room : Int) : Nat := (min (max room 0) 4096).toNat
theorem qnew_mid {w W : World} {L : Blks} (a : Nat) (ha : 1 < a) (hb : a ≤ 4096) (h : St w W L) :
    Calls Try.prog 10 #[.int .i64 (a : Int)] W fun e W' => ∃ g h k, e = .returned (.pointer (some ⟨g, 0, none⟩)) ∧ St w W' ((g, C 79 #[.int .i64 (a : Int), .chan (some h), .chan (some k)]) :: (h, Ch 1 (bufM []) 0 0) :: (k, Ch (a - 1) (bufM []) 0 0) :: L) := by
  have m1 : ∀ W, (Instr.makeChan 77 (.int .i64 1)).run Try.prog W = .ok (.chan (some W.heap.size)) (W.alloc (.chan 1 #[] false 0 0 false)) := mkc 1 (by omega)
  have m2 := mkc (a - 1) (by omega)
  rw [show ((a - 1 : Nat) : Int) = (a : Int) - 1 by omega] at m2
  have q0 : ((a : Int) < 0) = False := eq_false (by omega)
  have q1 : ((4096 : Int) < (a : Int)) = False := eq_false (by omega)
  have q2 : ((1 : Int) < (a : Int)) = True := eq_true (by omega)
  generalize a - 1 = c at *
  go_enter Try.func10, Try.ntmps10
  go_wp2
  go_region
  all_goals (go_wp2; go_ret)
  · exact ⟨_, _, _, rfl, h.newQ 1 c _⟩
  · exact ⟨_, _, _, rfl, h.newQ' 1 c _⟩
theorem qnew_one {w W : World} {L : Blks} (h : St w W L) :
    Calls Try.prog 10 #[.int .i64 1] W fun e W' => ∃ g h k, e = .returned (.pointer (some ⟨g, 0, none⟩)) ∧ St w W' ((g, C 79 #[.int .i64 1, .chan (some h), .chan (some k)]) :: (h, Ch 1 (bufM []) 0 0) :: (k, Ch 0 (bufM []) 0 0) :: L) := by
  have m1 : ∀ W, (Instr.makeChan 77 (.int .i64 1)).run Try.prog W = .ok (.chan (some W.heap.size)) (W.alloc (.chan 1 #[] false 0 0 false)) := mkc 1 (by omega)
  have m0 : ∀ W, (Instr.makeChan 77 (.int .i64 0)).run Try.prog W = .ok (.chan (some W.heap.size)) (W.alloc (.chan 0 #[] false 0 0 false)) := mkc 0 (by omega)
  go_enter Try.func10, Try.ntmps10
  go_wp2
  go_region
  all_goals (go_wp2; go_ret)
  · exact ⟨_, _, _, rfl, h.newQ 1 0 _⟩
  · exact ⟨_, _, _, rfl, h.newQ' 1 0 _⟩
theorem qnew_neg {w W : World} {L : Blks} (room : Int) (hr : room < 0) (h : St w W L) :
    Calls Try.prog 10 #[.int .i64 room] W fun e W' => ∃ g h k, e = .returned (.pointer (some ⟨g, 0, none⟩)) ∧ St w W' ((g, C 79 #[.int .i64 0, .chan (some h), .chan (some k)]) :: (h, Ch 0 (bufM []) 0 0) :: (k, Ch 0 (bufM []) 0 0) :: L) := by
  have m0 : ∀ W, (Instr.makeChan 77 (.int .i64 0)).run Try.prog W = .ok (.chan (some W.heap.size)) (W.alloc (.chan 0 #[] false 0 0 false)) := mkc 0 (by omega)
  have q0 : (room < 0) = True := eq_true hr
  go_enter Try.func10, Try.ntmps10
  go_wp2
  go_region
  all_goals (go_wp2; go_ret)
  · exact ⟨_, _, _, rfl, h.newQ 0 0 _⟩
  · exact ⟨_, _, _, rfl, h.newQ' 0 0 _⟩
theorem qnew_zero {w W : World} {L : Blks} (h : St w W L) :
    Calls Try.prog 10 #[.int .i64 0] W fun e W' => ∃ g h k, e = .returned (.pointer (some ⟨g, 0, none⟩)) ∧ St w W' ((g, C 79 #[.int .i64 0, .chan (some h), .chan (some k)]) :: (h, Ch 0 (bufM []) 0 0) :: (k, Ch 0 (bufM []) 0 0) :: L) := by
  have m0 : ∀ W, (Instr.makeChan 77 (.int .i64 0)).run Try.prog W = .ok (.chan (some W.heap.size)) (W.alloc (.chan 0 #[] false 0 0 false)) := mkc 0 (by omega)
  go_enter Try.func10, Try.ntmps10
  go_wp2
  go_region
  all_goals (go_wp2; go_ret)
  · exact ⟨_, _, _, rfl, h.newQ 0 0 _⟩
  · exact ⟨_, _, _, rfl, h.newQ' 0 0 _⟩
theorem qnew_big {w W : World} {L : Blks} (room : Int) (hr : 4096 < room) (h : St w W L) :
    Calls Try.prog 10 #[.int .i64 room] W fun e W' => ∃ g h k, e = .returned (.pointer (some ⟨g, 0, none⟩)) ∧ St w W' ((g, C 79 #[.int .i64 4096, .chan (some h), .chan (some k)]) :: (h, Ch 1 (bufM []) 0 0) :: (k, Ch 4095 (bufM []) 0 0) :: L) := by
  have m1 : ∀ W, (Instr.makeChan 77 (.int .i64 1)).run Try.prog W = .ok (.chan (some W.heap.size)) (W.alloc (.chan 1 #[] false 0 0 false)) := mkc 1 (by omega)
  have m2 : ∀ W, (Instr.makeChan 77 (.int .i64 4095)).run Try.prog W = .ok (.chan (some W.heap.size)) (W.alloc (.chan 4095 #[] false 0 0 false)) := mkc 4095 (by omega)
  have q0 : (room < 0) = False := eq_false (by omega)
  have q1 : ((4096 : Int) < room) = True := eq_true (by omega)
  go_enter Try.func10, Try.ntmps10
  go_wp2
  go_region
  all_goals (go_wp2; go_ret)
  · exact ⟨_, _, _, rfl, h.newQ 1 4095 _⟩
  · exact ⟨_, _, _, rfl, h.newQ' 1 4095 _⟩
/-- A queue in memory: its block, its room, its messages; and other blocks. -/
def QQ (w W : World) (g R : Nat) (xs : List Msg) (L : Blks) : Prop :=
  xs.length ≤ R ∧ R ≤ 4096 ∧ ∃ h k s1 r1 s2 r2, St w W ((g, C 79 #[.int .i64 (R : Int), .chan (some h), .chan (some k)]) :: (h, Ch (min R 1) (bufM (xs.take 1)) s1 r1) :: (k, Ch (R - min R 1) (bufM (xs.drop 1)) s2 r2) :: L)
theorem qnew_any {w W : World} {L : Blks} (room : Int) (h : St w W L) :
    Calls Try.prog 10 #[.int .i64 room] W fun e W' => ∃ g, e = .returned (.pointer (some ⟨g, 0, none⟩)) ∧ QQ w W' g (clampR room) [] L := by
  have go : ∀ R : Nat, R = clampR room → R ≤ 4096 → ∀ {p q : Nat}, p = min R 1 → q = R - min R 1 → ∀ e W', (∃ g h k, e = Ending.returned (.pointer (some ⟨g, 0, none⟩)) ∧ St w W' ((g, C 79 #[.int .i64 (R : Int), .chan (some h), .chan (some k)]) :: (h, Ch p (bufM []) 0 0) :: (k, Ch q (bufM []) 0 0) :: L)) → ∃ g, e = Ending.returned (.pointer (some ⟨g, 0, none⟩)) ∧ QQ w W' g (clampR room) [] L := by
    rintro R rfl hR p q rfl rfl e W' ⟨g, h, k, rfl, hs⟩
    exact ⟨g, rfl, Nat.zero_le _, hR, h, k, 0, 0, 0, 0, hs⟩
  by_cases h0 : room < 0
  · exact (qnew_neg room h0 h).mono (go 0 (by unfold clampR; omega) (by omega) (by omega) (by omega))
  by_cases h1 : room = 0
  · subst h1; exact (qnew_zero h).mono (go 0 (by unfold clampR; omega) (by omega) (by omega) (by omega))
  by_cases h2 : room = 1
  · subst h2; exact (qnew_one h).mono (go 1 (by unfold clampR; omega) (by omega) (by omega) (by omega))
  by_cases h3 : 4096 < room
  · exact (qnew_big room h3 h).mono (go 4096 (by unfold clampR; omega) (by omega) (by omega) (by omega))
  · obtain ⟨a, rfl⟩ : ∃ a : Nat, room = (a : Int) := ⟨room.toNat, by omega⟩
    exact (qnew_mid a (by omega) (by omega) h).mono (go a (by unfold clampR; omega) (by omega) (by omega) (by omega))
end Go.Proofs.Ytacjdeppigdbjaa
