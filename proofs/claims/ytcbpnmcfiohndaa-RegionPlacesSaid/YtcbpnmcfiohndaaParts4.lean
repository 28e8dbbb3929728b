/- The document's words on memory: where something stands. No statement is proved here. -/
import Derived.Test.YtcbpnmcfiohndaaParts3
namespace Go.Proofs.Ytcbpnmcfiohndaa
open Go.RowKit
set_option linter.unusedVariables false
set_option linter.unusedSimpArgs false

def fndI (o : Option Pt) : Int := match o with | some x => x.b | none => 0
def FiRel (w : World) (y : Pc) (A : Option Addr) (n c : Nat) (xs : List Pt) (i : Value) (wr : World) : Prop :=
  ∃ k : Nat, k ≤ n ∧ i = .int .i64 (k : Nat) ∧ ESt w A n c xs wr ∧ Pb wr (w.heap.size + 1) y ∧ ∀ j, j < k → ∀ x, xs[j]? = some x → x.c.same y = false
theorem Pb.second (w : World) (q : Pl) (y : Pc) : Pb ((w.alloc (.cells q.arr 28)).alloc (.cells y.arr 44)) (w.heap.size + 1) y := heap_alloc2_new w _ _
attribute [local irreducible] shaped Ls Lv Wd Al right bounded fitP sw wid hasI hasL itAt pts pvs SzI sumN Pc.same fstP
set_option maxHeartbeats 1000000 in
theorem refFind_any (q : Pl) (y : Pc) (w : World) : Calls Try.prog 29 #[.agg q.arr, .agg y.arr] w fun e w' => e = .returned (.tuple #[.int .i64 (fndI (fstP (fun x => x.c.same y) (pts q))), .bool (fstP (fun x => x.c.same y) (pts q)).isSome]) ∧ Below w.heap.size w w' := by
  have N := Lib.hid ((PSt.new w q).allocd (.cells y.arr 44))
  have B := Lib.hid (Pb.second w q y)
  have PT := Lib.hid (fun W => parts_any q W)
  have few := pts_few q
  have FA := Lib.hid (fun x k hk h0 hx => @fstP_at (fun x => x.c.same y) (pts q) x k hk h0 hx)
  have FN := Lib.hid (fun h => @fstP_no (fun x => x.c.same y) (pts q) h)
  generalize pts q = xs at *
  go_enter Try.func29, Try.ntmps29
  go_wp2_with (first
    | (refine wpList_load_plan N.out.blk _ rfl rfl rfl ?_)
    | (go_at_call 48; refine (PT.out _).mono ?_; rintro e X1 ⟨A, n, c, hn, rfl, ho, hb⟩; have h1 := ESt.of hn ho hb N.out.bel; have h2 := B.out.call hb; clear N B hb ho))
  go_loopw [7] (FiRel w y A n c xs) (fun i _ => n - (intOf i).toNat)
  case atStart => exact ⟨0, by omega, rfl, h1, h2, fun j hj => absurd hj (by omega)⟩
  case round =>
    clear h1 h2
    obtain ⟨k, hk, rfl, hst, hpb, hno⟩ := hrel
    by_cases hlt : k < n
    · have g1 : ((k : Int) < (n : Int)) = True := eq_true (by omega)
      have hx : xs[k]? = some xs[k] := List.getElem?_eq_getElem (by omega)
      generalize xs[k] = x at *
      obtain ⟨g, rfl, hg, u0, u1, u2, u3, u4, u5, u6⟩ := hst.at_ hx
      obtain ⟨v0, v1, v2, v3, v4⟩ := hpb.cells
      have Q1 := fun W => eql44 x.c y W
      cases hs : x.c.same y
      · rw [hs] at Q1
        simp only [Pc.arr] at Q1
        go_wp2
        go_quiet (fail)
        go_wp2
        go_roundw
        case rel => exact ⟨k + 1, by omega, by go_num, hst.drewN _, hpb.drewN _, fun j hj z hz => by
          rcases Nat.lt_or_ge j k with h3 | h3
          · exact hno j h3 z hz
          · obtain rfl : j = k := by omega
            rw [hx] at hz; injection hz with hz; subst hz; exact hs⟩
        case measure => simp [intOf]; omega
      · rw [hs] at Q1
        simp only [Pc.arr] at Q1
        have E := Lib.hid (FA.out _ _ hx hno hs)
        go_wp2
        go_quiet (fail)
        go_wp2
        go_ret2
        exact ⟨by rw [E.out]; rfl, (hst.drewN _).bel⟩
    · have hk2 : k = n := by omega
      have g1 : ((k : Int) < (n : Int)) = False := eq_false (by omega)
      have E : Hid (fstP (fun x => x.c.same y) xs = none) := FN.out fun i z hz => by
        have : i < xs.length := by
          rcases Nat.lt_or_ge i xs.length with h1 | h1
          · exact h1
          · rw [List.getElem?_eq_none h1] at hz; cases hz
        exact hno i (by omega) z hz
      go_wp2
      go_ret2
      exact ⟨by rw [E.out]; rfl, hst.bel⟩
end Go.Proofs.Ytcbpnmcfiohndaa
