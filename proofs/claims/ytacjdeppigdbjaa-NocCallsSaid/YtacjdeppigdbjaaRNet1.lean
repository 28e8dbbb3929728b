/- The document's net: what was sent, in its order. No statement is proved here. -/
import Derived.Test.YtacjdeppigdbjaaOx2
namespace Go.Proofs.Ytacjdeppigdbjaa
open Go.RowKit
set_option linter.unusedVariables false
set_option linter.unusedSimpArgs false

/-- What was sent: a net, and a message. -/
structure Sn where
  net : Int
  m : Msg
def Sn.cs (s : Sn) : List Value := .int .i64 s.net :: s.m.cs
def Sn.arr (s : Sn) : Array Value := s.cs.toArray
theorem Sn.cs_length (s : Sn) : s.cs.length = 39 := by simp [Sn.cs, s.m.cs_length]
theorem Sn.arr_size (s : Sn) : s.arr.size = 39 := by simp [Sn.arr, s.cs_length]
theorem Sn.cs_one (s : Sn) : ∀ u ∈ s.cs, u.oneCell' = true := by
  intro u hu
  unfold Sn.cs at hu
  rcases List.mem_cons.1 hu with rfl | hu
  · rfl
  · exact s.m.cs_one u hu
def zsn : Sn := ⟨0, zmsg⟩
theorem sz89 : (Try.prog.info? 89).map (·.size) = some 39 := by kernel_rfl
theorem zero89 (W : World) : (zeroValue 89).run Try.prog W = .ok (.agg zsn.arr) W := by kernel_rfl
theorem info89z : ∃ i, Try.prog.info? 89 = some i ∧ i.zero = some (.agg zsn.arr) ∧ i.size = 39 ∧ i.bytes = 80 := by
  have h : (Try.prog.info? 89).map (fun i => (i.zero, i.size, i.bytes)) = some (some (.agg zsn.arr), 39, 80) := by kernel_rfl
  obtain ⟨i, hi, he⟩ := Option.map_eq_some_iff.1 h
  simp only [Prod.mk.injEq] at he
  exact ⟨i, hi, he.1, he.2.1, he.2.2⟩
instance : Elt Sn where
  ty := 89
  sl := 66
  sz := 39
  by_ := 80
  cs := Sn.cs
  zv := .agg zsn.arr
  len := Sn.cs_length
  one := Sn.cs_one
  pos := by omega
  und := Try.underlying66
  inf := info89z
  zsz := zsn.arr_size
  few := by omega
  low := by omega
/-- The document's net: nodes n, room R, what was sent xs. -/
def RN (w W : World) (g n R : Nat) (xs : List Sn) (L : Blks) : Prop :=
  n ≤ 16 ∧ R ≤ 4096 ∧ ∃ v M, RL v xs M ∧ St w W ((g, C 68 #[.int .i64 (n : Int), .int .i64 (R : Int), v]) :: (M ++ L))
theorem rnnew_fin {w : World} {L : Blks} (nodes room : Int) : ∀ (n R : Nat) W' g, n = clampN nodes → R = clampR room → St w W' ((g, C 68 #[.int .i64 (n : Int), .int .i64 (R : Int), .slice none 0 0]) :: L) → RN w W' g (clampN nodes) (clampR room) [] L := fun n R W' g hn hR hs => by
  subst hR; subst hn
  exact ⟨by unfold clampN; omega, by unfold clampR; omega, _, [], RL.nil_, hs⟩
set_option maxHeartbeats 1000000
theorem rnnew_neg_neg {w W : World} {L : Blks} (nodes room : Int) (h : St w W L) (ha : nodes < 0) (hb : room < 0) :
    Calls Try.prog 23 #[.int .i64 nodes, .int .i64 room] W fun e W' => ∃ g, e = .returned (.pointer (some ⟨g, 0, none⟩)) ∧ RN w W' g (clampN nodes) (clampR room) [] L := by
  have fin := rnnew_fin (w := w) (L := L) nodes room
  have p0 : (nodes < 0) = True := eq_true (by omega)
  have r0 : (room < 0) = True := eq_true (by omega)
  have F := Lib.hid (fun W' g => fin 0 0 W' g (by unfold clampN; omega) (by unfold clampR; omega))
  clear fin
  go_enter Try.func23, Try.ntmps23
  go_wp2_with (first
    | (refine wpList_box_st h 68 _ rfl rfl #[.int .i64 nodes, .int .i64 room, .slice none 0 0] rfl ?_; clear h; intro W1 h1 _ _; replace h1 := h1.front; generalize W.heap.size = b at *)
    | (have _ := h1; refine wpList_cell_st h1 0 rfl 3 (.tmp 14) (.const (.int .i64 0)) rfl rfl 0 (.int .i64 0) rfl rfl (by simp) rfl rfl sz3 ?_; clear h1; intro W2 h2 _)
    | (have _ := h2; refine wpList_cell_st h2 0 rfl 3 (.tmp 24) (.const (.int .i64 0)) rfl rfl 1 (.int .i64 0) rfl rfl (by simp) rfl rfl sz3 ?_; clear h2; intro W3 h3 _))
  go_ret
  exact ⟨_, rfl, F.out _ _ h3⟩
theorem rnnew_neg_big {w W : World} {L : Blks} (nodes room : Int) (h : St w W L) (ha : nodes < 0) (hb : 4096 < room) :
    Calls Try.prog 23 #[.int .i64 nodes, .int .i64 room] W fun e W' => ∃ g, e = .returned (.pointer (some ⟨g, 0, none⟩)) ∧ RN w W' g (clampN nodes) (clampR room) [] L := by
  have fin := rnnew_fin (w := w) (L := L) nodes room
  have p0 : (nodes < 0) = True := eq_true (by omega)
  have r0 : (room < 0) = False := eq_false (by omega)
  have r1 : ((4096 : Int) < room) = True := eq_true (by omega)
  have F := Lib.hid (fun W' g => fin 0 4096 W' g (by unfold clampN; omega) (by unfold clampR; omega))
  clear fin
  go_enter Try.func23, Try.ntmps23
  go_wp2_with (first
    | (refine wpList_box_st h 68 _ rfl rfl #[.int .i64 nodes, .int .i64 room, .slice none 0 0] rfl ?_; clear h; intro W1 h1 _ _; replace h1 := h1.front; generalize W.heap.size = b at *)
    | (have _ := h1; refine wpList_cell_st h1 0 rfl 3 (.tmp 14) (.const (.int .i64 0)) rfl rfl 0 (.int .i64 0) rfl rfl (by simp) rfl rfl sz3 ?_; clear h1; intro W2 h2 _)
    | (have _ := h2; refine wpList_cell_st h2 0 rfl 3 (.tmp 29) (.const (.int .i64 4096)) rfl rfl 1 (.int .i64 4096) rfl rfl (by simp) rfl rfl sz3 ?_; clear h2; intro W3 h3 _))
  go_ret
  exact ⟨_, rfl, F.out _ _ h3⟩
theorem rnnew_neg_mid {w W : World} {L : Blks} (nodes room : Int) (h : St w W L) (ha : nodes < 0) (hb : ¬ room < 0 ∧ ¬ 4096 < room) :
    Calls Try.prog 23 #[.int .i64 nodes, .int .i64 room] W fun e W' => ∃ g, e = .returned (.pointer (some ⟨g, 0, none⟩)) ∧ RN w W' g (clampN nodes) (clampR room) [] L := by
  have fin := rnnew_fin (w := w) (L := L) nodes room
  have p0 : (nodes < 0) = True := eq_true (by omega)
  obtain ⟨y, rfl⟩ : ∃ y : Nat, room = (y : Int) := ⟨room.toNat, by omega⟩
  have r0 : ((y : Int) < 0) = False := eq_false (by omega)
  have r1 : ((4096 : Int) < (y : Int)) = False := eq_false (by omega)
  have F := Lib.hid (fun W' g => fin 0 y W' g (by unfold clampN; omega) (by unfold clampR; omega))
  clear fin
  go_enter Try.func23, Try.ntmps23
  go_wp2_with (first
    | (refine wpList_box_st h 68 _ rfl rfl #[.int .i64 nodes, .int .i64 (y : Int), .slice none 0 0] rfl ?_; clear h; intro W1 h1 _ _; replace h1 := h1.front; generalize W.heap.size = b at *)
    | (have _ := h1; refine wpList_cell_st h1 0 rfl 3 (.tmp 14) (.const (.int .i64 0)) rfl rfl 0 (.int .i64 0) rfl rfl (by simp) rfl rfl sz3 ?_; clear h1; intro W2 h2 _))
  go_ret
  exact ⟨_, rfl, F.out _ _ h2⟩
theorem rnnew_big_neg {w W : World} {L : Blks} (nodes room : Int) (h : St w W L) (ha : 16 < nodes) (hb : room < 0) :
    Calls Try.prog 23 #[.int .i64 nodes, .int .i64 room] W fun e W' => ∃ g, e = .returned (.pointer (some ⟨g, 0, none⟩)) ∧ RN w W' g (clampN nodes) (clampR room) [] L := by
  have fin := rnnew_fin (w := w) (L := L) nodes room
  have p0 : (nodes < 0) = False := eq_false (by omega)
  have p1 : ((16 : Int) < nodes) = True := eq_true (by omega)
  have r0 : (room < 0) = True := eq_true (by omega)
  have F := Lib.hid (fun W' g => fin 16 0 W' g (by unfold clampN; omega) (by unfold clampR; omega))
  clear fin
  go_enter Try.func23, Try.ntmps23
  go_wp2_with (first
    | (refine wpList_box_st h 68 _ rfl rfl #[.int .i64 nodes, .int .i64 room, .slice none 0 0] rfl ?_; clear h; intro W1 h1 _ _; replace h1 := h1.front; generalize W.heap.size = b at *)
    | (have _ := h1; refine wpList_cell_st h1 0 rfl 3 (.tmp 19) (.const (.int .i64 16)) rfl rfl 0 (.int .i64 16) rfl rfl (by simp) rfl rfl sz3 ?_; clear h1; intro W2 h2 _)
    | (have _ := h2; refine wpList_cell_st h2 0 rfl 3 (.tmp 24) (.const (.int .i64 0)) rfl rfl 1 (.int .i64 0) rfl rfl (by simp) rfl rfl sz3 ?_; clear h2; intro W3 h3 _))
  go_ret
  exact ⟨_, rfl, F.out _ _ h3⟩
theorem rnnew_big_big {w W : World} {L : Blks} (nodes room : Int) (h : St w W L) (ha : 16 < nodes) (hb : 4096 < room) :
    Calls Try.prog 23 #[.int .i64 nodes, .int .i64 room] W fun e W' => ∃ g, e = .returned (.pointer (some ⟨g, 0, none⟩)) ∧ RN w W' g (clampN nodes) (clampR room) [] L := by
  have fin := rnnew_fin (w := w) (L := L) nodes room
  have p0 : (nodes < 0) = False := eq_false (by omega)
  have p1 : ((16 : Int) < nodes) = True := eq_true (by omega)
  have r0 : (room < 0) = False := eq_false (by omega)
  have r1 : ((4096 : Int) < room) = True := eq_true (by omega)
  have F := Lib.hid (fun W' g => fin 16 4096 W' g (by unfold clampN; omega) (by unfold clampR; omega))
  clear fin
  go_enter Try.func23, Try.ntmps23
  go_wp2_with (first
    | (refine wpList_box_st h 68 _ rfl rfl #[.int .i64 nodes, .int .i64 room, .slice none 0 0] rfl ?_; clear h; intro W1 h1 _ _; replace h1 := h1.front; generalize W.heap.size = b at *)
    | (have _ := h1; refine wpList_cell_st h1 0 rfl 3 (.tmp 19) (.const (.int .i64 16)) rfl rfl 0 (.int .i64 16) rfl rfl (by simp) rfl rfl sz3 ?_; clear h1; intro W2 h2 _)
    | (have _ := h2; refine wpList_cell_st h2 0 rfl 3 (.tmp 29) (.const (.int .i64 4096)) rfl rfl 1 (.int .i64 4096) rfl rfl (by simp) rfl rfl sz3 ?_; clear h2; intro W3 h3 _))
  go_ret
  exact ⟨_, rfl, F.out _ _ h3⟩
theorem rnnew_big_mid {w W : World} {L : Blks} (nodes room : Int) (h : St w W L) (ha : 16 < nodes) (hb : ¬ room < 0 ∧ ¬ 4096 < room) :
    Calls Try.prog 23 #[.int .i64 nodes, .int .i64 room] W fun e W' => ∃ g, e = .returned (.pointer (some ⟨g, 0, none⟩)) ∧ RN w W' g (clampN nodes) (clampR room) [] L := by
  have fin := rnnew_fin (w := w) (L := L) nodes room
  have p0 : (nodes < 0) = False := eq_false (by omega)
  have p1 : ((16 : Int) < nodes) = True := eq_true (by omega)
  obtain ⟨y, rfl⟩ : ∃ y : Nat, room = (y : Int) := ⟨room.toNat, by omega⟩
  have r0 : ((y : Int) < 0) = False := eq_false (by omega)
  have r1 : ((4096 : Int) < (y : Int)) = False := eq_false (by omega)
  have F := Lib.hid (fun W' g => fin 16 y W' g (by unfold clampN; omega) (by unfold clampR; omega))
  clear fin
  go_enter Try.func23, Try.ntmps23
  go_wp2_with (first
    | (refine wpList_box_st h 68 _ rfl rfl #[.int .i64 nodes, .int .i64 (y : Int), .slice none 0 0] rfl ?_; clear h; intro W1 h1 _ _; replace h1 := h1.front; generalize W.heap.size = b at *)
    | (have _ := h1; refine wpList_cell_st h1 0 rfl 3 (.tmp 19) (.const (.int .i64 16)) rfl rfl 0 (.int .i64 16) rfl rfl (by simp) rfl rfl sz3 ?_; clear h1; intro W2 h2 _))
  go_ret
  exact ⟨_, rfl, F.out _ _ h2⟩
theorem rnnew_mid_neg {w W : World} {L : Blks} (nodes room : Int) (h : St w W L) (ha : ¬ nodes < 0 ∧ ¬ 16 < nodes) (hb : room < 0) :
    Calls Try.prog 23 #[.int .i64 nodes, .int .i64 room] W fun e W' => ∃ g, e = .returned (.pointer (some ⟨g, 0, none⟩)) ∧ RN w W' g (clampN nodes) (clampR room) [] L := by
  have fin := rnnew_fin (w := w) (L := L) nodes room
  obtain ⟨x, rfl⟩ : ∃ x : Nat, nodes = (x : Int) := ⟨nodes.toNat, by omega⟩
  have p0 : ((x : Int) < 0) = False := eq_false (by omega)
  have p1 : ((16 : Int) < (x : Int)) = False := eq_false (by omega)
  have r0 : (room < 0) = True := eq_true (by omega)
  have F := Lib.hid (fun W' g => fin x 0 W' g (by unfold clampN; omega) (by unfold clampR; omega))
  clear fin
  go_enter Try.func23, Try.ntmps23
  go_wp2_with (first
    | (refine wpList_box_st h 68 _ rfl rfl #[.int .i64 (x : Int), .int .i64 room, .slice none 0 0] rfl ?_; clear h; intro W1 h1 _ _; replace h1 := h1.front; generalize W.heap.size = b at *)
    | (have _ := h1; refine wpList_cell_st h1 0 rfl 3 (.tmp 24) (.const (.int .i64 0)) rfl rfl 1 (.int .i64 0) rfl rfl (by simp) rfl rfl sz3 ?_; clear h1; intro W3 h3 _))
  go_ret
  exact ⟨_, rfl, F.out _ _ h3⟩
theorem rnnew_mid_big {w W : World} {L : Blks} (nodes room : Int) (h : St w W L) (ha : ¬ nodes < 0 ∧ ¬ 16 < nodes) (hb : 4096 < room) :
    Calls Try.prog 23 #[.int .i64 nodes, .int .i64 room] W fun e W' => ∃ g, e = .returned (.pointer (some ⟨g, 0, none⟩)) ∧ RN w W' g (clampN nodes) (clampR room) [] L := by
  have fin := rnnew_fin (w := w) (L := L) nodes room
  obtain ⟨x, rfl⟩ : ∃ x : Nat, nodes = (x : Int) := ⟨nodes.toNat, by omega⟩
  have p0 : ((x : Int) < 0) = False := eq_false (by omega)
  have p1 : ((16 : Int) < (x : Int)) = False := eq_false (by omega)
  have r0 : (room < 0) = False := eq_false (by omega)
  have r1 : ((4096 : Int) < room) = True := eq_true (by omega)
  have F := Lib.hid (fun W' g => fin x 4096 W' g (by unfold clampN; omega) (by unfold clampR; omega))
  clear fin
  go_enter Try.func23, Try.ntmps23
  go_wp2_with (first
    | (refine wpList_box_st h 68 _ rfl rfl #[.int .i64 (x : Int), .int .i64 room, .slice none 0 0] rfl ?_; clear h; intro W1 h1 _ _; replace h1 := h1.front; generalize W.heap.size = b at *)
    | (have _ := h1; refine wpList_cell_st h1 0 rfl 3 (.tmp 29) (.const (.int .i64 4096)) rfl rfl 1 (.int .i64 4096) rfl rfl (by simp) rfl rfl sz3 ?_; clear h1; intro W3 h3 _))
  go_ret
  exact ⟨_, rfl, F.out _ _ h3⟩
theorem rnnew_mid_mid {w W : World} {L : Blks} (nodes room : Int) (h : St w W L) (ha : ¬ nodes < 0 ∧ ¬ 16 < nodes) (hb : ¬ room < 0 ∧ ¬ 4096 < room) :
    Calls Try.prog 23 #[.int .i64 nodes, .int .i64 room] W fun e W' => ∃ g, e = .returned (.pointer (some ⟨g, 0, none⟩)) ∧ RN w W' g (clampN nodes) (clampR room) [] L := by
  have fin := rnnew_fin (w := w) (L := L) nodes room
  obtain ⟨x, rfl⟩ : ∃ x : Nat, nodes = (x : Int) := ⟨nodes.toNat, by omega⟩
  have p0 : ((x : Int) < 0) = False := eq_false (by omega)
  have p1 : ((16 : Int) < (x : Int)) = False := eq_false (by omega)
  obtain ⟨y, rfl⟩ : ∃ y : Nat, room = (y : Int) := ⟨room.toNat, by omega⟩
  have r0 : ((y : Int) < 0) = False := eq_false (by omega)
  have r1 : ((4096 : Int) < (y : Int)) = False := eq_false (by omega)
  have F := Lib.hid (fun W' g => fin x y W' g (by unfold clampN; omega) (by unfold clampR; omega))
  clear fin
  go_enter Try.func23, Try.ntmps23
  go_wp2_with (first
    | (refine wpList_box_st h 68 _ rfl rfl #[.int .i64 (x : Int), .int .i64 (y : Int), .slice none 0 0] rfl ?_; clear h; intro W1 h1 _ _; replace h1 := h1.front; generalize W.heap.size = b at *))
  go_ret
  exact ⟨_, rfl, F.out _ _ h1⟩

theorem rnnew_any {w W : World} {L : Blks} (nodes room : Int) (h : St w W L) :
    Calls Try.prog 23 #[.int .i64 nodes, .int .i64 room] W fun e W' => ∃ g, e = .returned (.pointer (some ⟨g, 0, none⟩)) ∧ RN w W' g (clampN nodes) (clampR room) [] L := by
  by_cases a0 : nodes < 0
  · by_cases b0 : room < 0
    · exact rnnew_neg_neg nodes room h a0 b0
    by_cases b1 : 4096 < room
    · exact rnnew_neg_big nodes room h a0 b1
    · exact rnnew_neg_mid nodes room h a0 ⟨b0, b1⟩
  by_cases a1 : 16 < nodes
  · by_cases b0 : room < 0
    · exact rnnew_big_neg nodes room h a1 b0
    by_cases b1 : 4096 < room
    · exact rnnew_big_big nodes room h a1 b1
    · exact rnnew_big_mid nodes room h a1 ⟨b0, b1⟩
  · by_cases b0 : room < 0
    · exact rnnew_mid_neg nodes room h ⟨a0, a1⟩ b0
    by_cases b1 : 4096 < room
    · exact rnnew_mid_big nodes room h ⟨a0, a1⟩ b1
    · exact rnnew_mid_mid nodes room h ⟨a0, a1⟩ ⟨b0, b1⟩
end Go.Proofs.Ytacjdeppigdbjaa
