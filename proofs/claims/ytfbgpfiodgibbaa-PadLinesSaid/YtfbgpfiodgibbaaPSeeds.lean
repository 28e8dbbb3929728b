/- The seeds of a line, gone through: the iterator. No statement is proved here. -/
import Derived.Test.YtfbgpfiodgibbaaPBytes
import Derived.Shelf.Abstract
import Derived.Shelf.RegionOpen
import Derived.TacticsInMore
import Derived.LoopNIn
import Derived.LoopIn
namespace Go.Proofs.Ytfbgpfiodgibbaa
open Go.RowKit Go.Shelf
set_option linter.unusedVariables false
set_option linter.unusedSimpArgs false
attribute [local go_sem] Oper.semAt_some

def sdOf (l : Int) (M : Nat) (m : Int) (k : Fin 2) : Sd := ⟨l, M, m, (k.val : Int)⟩
def sdE (l : Int) (M : Nat) (m : Int) (k : Fin 2) : Array Value := #[.agg #[.int .i64 l, .int .u64 (M : Int), .int .i64 m, .int .i64 (k.val : Int)]]
theorem sdE_eq (l : Int) (M : Nat) (m : Int) (k : Fin 2) : sdE l M m k = #[.agg (sdOf l M m k).arr] := rfl
/-- The boxes of the iterator's numbers. -/
structure Bx3 (W : World) (b0 b1 b2 : Nat) (l : Int) (M : Nat) (m : Int) : Prop where
  h0 : At W b0 3 #[.int .i64 l]
  h1 : At W b1 34 #[.int .u64 (M : Int)]
  h2 : At W b2 3 #[.int .i64 m]
/-- The boxes stay. -/
def Kp3 (b0 b1 b2 : Nat) (W W' : World) : Prop := W'.heap[b0]? = W.heap[b0]? ∧ W'.heap[b1]? = W.heap[b1]? ∧ W'.heap[b2]? = W.heap[b2]?
theorem Bx3.kept {W W' : World} {b0 b1 b2 : Nat} {l : Int} {M : Nat} {m : Int} (h : Bx3 W b0 b1 b2 l M m) (k : Kp3 b0 b1 b2 W W') : Bx3 W' b0 b1 b2 l M m := ⟨k.1.trans h.h0, k.2.1.trans h.h1, k.2.2.trans h.h2⟩
theorem Bx3.call {W W' : World} {b0 b1 b2 : Nat} {l : Int} {M : Nat} {m : Int} (h : Bx3 W b0 b1 b2 l M m) (k : Below W.heap.size W W') : Bx3 W' b0 b1 b2 l M m := ⟨h.h0.call k, h.h1.call k, h.h2.call k⟩
theorem kp3_t {b0 b1 b2 : Nat} {A B D : World} (h : Kp3 b0 b1 b2 A B) (k : Kp3 b0 b1 b2 B D) : Kp3 b0 b1 b2 A D := ⟨k.1.trans h.1, k.2.1.trans h.2.1, k.2.2.trans h.2.2⟩
theorem kp3_b {b0 b1 b2 : Nat} {w : World} {l : Int} {M : Nat} {m : Int} (h : Bx3 w b0 b1 b2 l M m) (W : World) (r : Nat) (o o' : Obj) (hl : w.heap.size ≤ r) (_ : W.heap[r]? = some o) (_ : o.isCells = false) (_ : o.isWalk = false) : Kp3 b0 b1 b2 W (W.putObj r o') := by
  have l0 := h.h0.lt
  have l1 := h.h1.lt
  have l2 := h.h2.lt
  exact ⟨World.putObj_heap_other (by omega), World.putObj_heap_other (by omega), World.putObj_heap_other (by omega)⟩
def two (k : Nat) : List (Fin 2) := match k with | 0 => [] | 1 => [0] | _ => [0, 1]
theorem two_succ (k : Nat) (h : k < 2) : two k ++ [(⟨k, h⟩ : Fin 2)] = two (k + 1) := by
  match k, h with
  | 0, _ => rfl
  | 1, _ => rfl
theorem two_len (k : Nat) (h : k < 2) : (two k).length < 2 := by
  match k, h with
  | 0, _ => decide
  | 1, _ => decide
set_option maxRecDepth 100000 in
set_option maxHeartbeats 1000000 in
theorem seeds_stops (n : Nat) (hn : 1 ≤ n) (b0 b1 b2 : Nat) (l : Int) (M : Nat) (m : Int) (w : World) (hB : Bx3 w b0 b1 b2 l M m) :
    SeqStopsK Fence.wide n Try.prog 39 #[.pointer (some ⟨b0, 0, none⟩), .pointer (some ⟨b1, 0, none⟩), .pointer (some ⟨b2, 0, none⟩)] (sdE l M m) (Kp3 b0 b1 b2) (fun xs => xs = two 2) (fun _ => True) 2 w := fun lp J Jx W hW _ _ hY hJ0 => by
  have hB0 := hB.call hW
  clear hB hW
  refine callsIn_of_wp Try.func39 rfl trivial ?_ rfl
  simp only [Try.ntmps39, List.size_toArray, List.length_cons, List.length_nil, Nat.reduceAdd, Nat.reduceSub, Array.replicate_succ, Array.replicate_zero, List.push_toArray, List.append_toArray, List.nil_append, List.cons_append]
  gi_wp2
  gi_loopw [6] (fun p wr => ∃ k : Nat, k ≤ 2 ∧ p = .int .i64 (k : Int) ∧ J (two k) wr ∧ Bx3 wr b0 b1 b2 l M m) (fun p _ => 2 - (intOf p).toNat)
  case atStart => exact ⟨0, by omega, rfl, hJ0, hB0⟩
  case round =>
    obtain ⟨k, hk, rfl, hJ, hB⟩ := hrel
    by_cases hlt : k < 2
    · obtain ⟨fn, tmps, assign, body, hy, hR⟩ := hY (two k) ⟨k, hlt⟩ wr hJ (two_len k hlt)
      unfold sdE at hy
      dsimp only at hy
      have c0 := (hB.h0.cell 0).trans rfl
      have c1 := (hB.h1.cell 0).trans rfl
      have c2 := (hB.h2.cell 0).trans rfl
      gi_wp2
      refine hR.mono ?_
      rintro e W3 (⟨rfl, hJ3, hk3⟩ | ⟨rfl, hJx3⟩)
      · rw [two_succ k hlt] at hJ3
        gi_wp2
        go_roundw
        case rel => exact ⟨k + 1, by omega, by go_num, hJ3, hB.kept hk3⟩
        case measure => simp [intOf]; omega
      · gi_wp2
        refine bodyPost_ret (results_none rfl _ _ _) rfl ?_
        exact ⟨⟨_, rfl⟩, .inr ⟨_, trivial, hJx3⟩⟩
    · obtain rfl : k = 2 := by omega
      gi_wp2
      go_end0
      exact ⟨⟨_, rfl⟩, .inl ⟨_, rfl, hJ⟩⟩
set_option maxHeartbeats 1000000 in
theorem seeds_any (l : Int) (M : Nat) (m : Int) (w : World) :
    Calls Try.prog 26 #[.int .i64 l, .int .u64 (M : Int), .int .i64 m] w fun e w' => ∃ b0 b1 b2, e = .returned (.func (.func 39) #[] #[.pointer (some ⟨b0, 0, none⟩), .pointer (some ⟨b1, 0, none⟩), .pointer (some ⟨b2, 0, none⟩)]) ∧ Bx3 w' b0 b1 b2 l M m ∧ w.heap.size ≤ b0 ∧ w.heap.size ≤ b1 ∧ w.heap.size ≤ b2 ∧ Below w.heap.size w w' := by
  have h0 := St.nil w
  go_enter Try.func26, Try.ntmps26
  go_wp2_with (first
    | (have _ := h0; refine wpList_box_st h0 3 _ rfl rfl #[.int .i64 l] rfl ?_; clear h0; intro W1 h1 _ _)
    | (have _ := h1; refine wpList_box_st h1 34 _ rfl rfl #[.int .u64 (M : Int)] rfl ?_; clear h1; intro W2 h2 _ _)
    | (have _ := h2; refine wpList_box_st h2 3 _ rfl rfl #[.int .i64 m] rfl ?_; clear h2; intro W3 h3 _ _))
  go_ret
  exact ⟨_, _, _, rfl, ⟨h3.get 0 rfl, h3.get 1 rfl, h3.get 2 rfl⟩, h3.lo (_, _) (List.mem_of_getElem? (i := 0) rfl), h3.lo (_, _) (List.mem_of_getElem? (i := 1) rfl), h3.lo (_, _) (List.mem_of_getElem? (i := 2) rfl), h3.bel⟩
end Go.Proofs.Ytfbgpfiodgibbaa
