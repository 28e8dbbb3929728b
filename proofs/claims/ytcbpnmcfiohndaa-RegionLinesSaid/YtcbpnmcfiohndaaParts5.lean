/- The document's words on memory: what stands at an address. No statement is proved here. -/
import Derived.Test.YtcbpnmcfiohndaaParts3
namespace Go.Proofs.Ytcbpnmcfiohndaa
open Go.RowKit
set_option linter.unusedVariables false
set_option linter.unusedSimpArgs false

def PaRel (w : World) (m : Int) (A : Option Addr) (n c : Nat) (xs : List Pt) (i : Value) (wr : World) : Prop :=
  ∃ k : Nat, k ≤ n ∧ i = .int .i64 (k : Nat) ∧ ESt w A n c xs wr ∧ Pb wr (w.heap.size + 1) ⟨0, 0, 0, 0, 0⟩ ∧ ∀ j, j < k → ∀ x, xs[j]? = some x → inP m x = false
theorem Pb.third (w : World) (q : Pl) : Pb ((w.alloc (.cells q.arr 28)).alloc (.cells #[.int .i64 0, .int .i64 0, .int .i64 0, .int .i64 0, .int .i64 0] 44)) (w.heap.size + 1) ⟨0, 0, 0, 0, 0⟩ := heap_alloc2_new w _ _
/-- The answer's block, and a place in a block of its own. -/
structure YSt (w : World) (A : Option Addr) (n c : Nat) (xs : List Pt) (g : Nat) (x : Pc) (W : World) : Prop where
  ans : Pb W (w.heap.size + 1) ⟨0, 0, 0, 0, 0⟩
  bx : Pb W g x
  lo : w.heap.size + 1 < g
  e : ESt w A n c xs W
section
variable {w W W' : World} {A : Option Addr} {n c g : Nat} {xs : List Pt} {x d : Pc} {ops : Array Oper} {rest : List Oper} {o : Oper} {a : Act} {Q : Exit → Act → World → Prop}
theorem wpList_newY (h : Pb W (w.heap.size + 1) ⟨0, 0, 0, 0, 0⟩) (he : ESt w A n c xs W) (x : Pc) (u y : Operand) (ho : o.op = .store 44 u y) (hx : a.eval u = .pointer (some ⟨W.heap.size, 0, none⟩)) (hw : Region.wanted o (yielded ops a.tmps) = true) (hy : a.eval y = .agg x.arr)
    (k : ∀ W', YSt w A n c xs W.heap.size x W' → wpList Try.prog ops Q rest (a.put o.dst undef) W') : wpList Try.prog ops Q (o :: rest) a (W.alloc (.cells #[.int .i64 0, .int .i64 0, .int .i64 0, .int .i64 0, .int .i64 0] 44)) := by
  have hlt := h.lt
  exact wpList_store_P (Pb.new W) x u y ho hx hw hy (k _ ⟨(h.alloc _).far (by omega) _, (Pb.new W).put x, hlt, he.call ⟨rfl, rfl, rfl, by simp [World.setRow], fun k hk => (heap_setRow_far _ _ k _ (by omega)).trans (Below.heap_alloc W _ k hk)⟩⟩)
theorem wpList_offY {v : Int} (h : YSt w A n c xs g x W) (u y : Operand) (ho : o.op = .store 3 u y) (hx : a.eval u = .pointer (some ⟨g, 4, none⟩)) (hw : Region.wanted o (yielded ops a.tmps) = true) (hy : a.eval y = .int .i64 v)
    (k : ∀ W', Pb W' (w.heap.size + 1) ⟨0, 0, 0, 0, 0⟩ ∧ Pb W' g { x with o := v } ∧ Below w.heap.size w W' → wpList Try.prog ops Q rest (a.put o.dst undef) W') : wpList Try.prog ops Q (o :: rest) a W := by
  have hlo := h.lo
  have far : ∀ g' : Nat, g' ≠ g → (W.setCell ⟨g, 4, none⟩ (.int .i64 v)).heap[g']? = W.heap[g']? := fun g' hne => by
    simp [World.setCell, Array.getElem?_modify, Ne.symm hne]
  have hf2 : Pb (W.setCell ⟨g, 4, none⟩ (.int .i64 v)) g { x with o := v } := by
    have hb := h.bx
    unfold Pb at *
    simp [World.setCell, Array.getElem?_modify, hb, Pc.arr]
  refine wpList_store_at (fun W' => Pb W' (w.heap.size + 1) ⟨0, 0, 0, 0, 0⟩ ∧ Pb W' g { x with o := v } ∧ Below w.heap.size w W') u y ho hw hx hy rfl rfl sz3 (by rw [h.bx.cells.2.2.2.2]; rfl) (by have hb := h.bx; unfold Pb at hb; simp [World.frozen?, hb]) ?_ k
  exact ⟨(far _ (by omega)).trans h.ans, hf2, h.e.bel.trans ⟨rfl, rfl, rfl, by simp [World.setCell], fun k hk => far k (by omega)⟩⟩
theorem wpList_ansY (h : Pb W (w.heap.size + 1) ⟨0, 0, 0, 0, 0⟩) (hb : Below w.heap.size w W) (d : Pc) (u y : Operand) (ho : o.op = .store 44 u y) (hx : a.eval u = .pointer (some ⟨w.heap.size + 1, 0, none⟩)) (hw : Region.wanted o (yielded ops a.tmps) = true) (hy : a.eval y = .agg d.arr)
    (k : ∀ W', Pb W' (w.heap.size + 1) d → Below w.heap.size w W' → wpList Try.prog ops Q rest (a.put o.dst undef) W') : wpList Try.prog ops Q (o :: rest) a W :=
  wpList_store_P h d u y ho hx hw hy (k _ (h.put d) (hb.trans ⟨rfl, rfl, rfl, by simp [World.setRow], fun k hk => heap_setRow_far _ _ k _ (by omega)⟩))
end
attribute [local irreducible] shaped Ls Lv Wd Al right bounded fitP sw wid hasI hasL itAt pts pvs SzI sumN Pc.same fstP inP plAt hasP
set_option maxHeartbeats 2000000 in
theorem refPlace_any (q : Pl) (m : Int) (w : World) : Calls Try.prog 33 #[.agg q.arr, .int .i64 m] w fun e w' => e = .returned (.tuple #[.agg (plAt q m).arr, .bool (hasP q m)]) ∧ Below w.heap.size w w' := by
  have N := Lib.hid ((PSt.new w q).allocd (.cells #[.int .i64 0, .int .i64 0, .int .i64 0, .int .i64 0, .int .i64 0] 44))
  have B := Lib.hid (Pb.third w q)
  have PT := Lib.hid (fun W => parts_any q W)
  have few := pts_few q
  have FA := Lib.hid (fun x k hk h0 hx => fst_place_some (q := q) (m := m) (@fstP_at (inP m) (pts q) x k hk h0 hx))
  have FN := Lib.hid (fun h => fst_place_none (q := q) (m := m) (@fstP_no (inP m) (pts q) h))
  have PS := Lib.hid (fun x (hx : x ∈ pts q) => pts_small hx)
  generalize pts q = xs at *
  generalize plAt q m = P at *
  generalize hasP q m = H at *
  go_enter Try.func33, Try.ntmps33
  go_wp2_with (first
    | (refine wpList_load_plan N.out.blk _ rfl rfl rfl ?_)
    | (go_at_call 48; refine (PT.out _).mono ?_; rintro e X1 ⟨A, n, c, hn, rfl, ho, hb⟩; have h1 := ESt.of hn ho hb N.out.bel; have h2 := B.out.call hb; clear N B hb ho))
  go_loopw [7] (PaRel w m A n c xs) (fun i _ => n - (intOf i).toNat)
  case atStart => exact ⟨0, by omega, rfl, h1, h2, fun j hj => absurd hj (by omega)⟩
  case round =>
    clear h1 h2
    obtain ⟨k, hk, rfl, hst, hpb, hno⟩ := hrel
    by_cases hlt : k < n
    · have g1 : ((k : Int) < (n : Int)) = True := eq_true (by omega)
      have hx : xs[k]? = some xs[k] := List.getElem?_eq_getElem (by omega)
      have ps := PS.out xs[k] (List.getElem_mem _)
      generalize xs[k] = x at *
      obtain ⟨g, rfl, hg, u0, u1, u2, u3, u4, u5, u6⟩ := hst.at_ hx
      have w1 : IntKind.i64.wrap (x.b + x.n) = x.b + x.n := IntWalk.i64_in _ (by omega)
      by_cases h1 : x.b ≤ m
      · by_cases h2 : m < x.b + x.n
        · have hs : inP m x = true := (inP_iff _ _).2 ⟨h1, h2⟩
          obtain ⟨rfl, EP⟩ := FA.out x k hx hno hs
          replace EP := Lib.hid EP
          have w2 : IntKind.i64.wrap (m - x.b) = m - x.b := IntWalk.i64_in _ (by omega)
          have f1 : (x.b ≤ m) = True := eq_true h1
          have f2 : (m < x.b + x.n) = True := eq_true h2
          go_wp2
          have hst2 := fun k => hst.drewN k
          have hpb2 := fun k => hpb.drewN k
          go_quiet (fail)
          go_wp2_with (first
            | (refine wpList_newY (hpb2 _) (hst2 _) x.c _ _ rfl rfl rfl rfl ?_; clear hst2 hpb2; intro X3 h3; obtain ⟨g2, e2, -, z0, z1, z2, z3, z4, z5, z6⟩ := h3.e.at_ hx; injection e2 with e2; injection e2 with e2; subst e2)
            | (refine wpList_offY h3 _ _ rfl rfl rfl rfl ?_; clear h3 z0 z1 z2 z3 z4 z5 z6; rintro X4 ⟨h4, h5, h6⟩)
            | (refine wpList_load_P h5 _ rfl rfl rfl ?_)
            | (refine wpList_ansY h4 h6 _ _ _ rfl rfl rfl rfl ?_; clear h4 h5 h6; intro X5 h7 h8))
          exact bodyPost_ret (results_place Try.results33 _ _ (w.heap.size + 1) rfl _ h7) rfl ⟨by rw [EP.out]; rfl, h8⟩
        · have hs : inP m x = false := by cases hs : inP m x; rfl; exact absurd ((inP_iff _ _).1 hs).2 h2
          have f1 : (x.b ≤ m) = True := eq_true h1
          have f2 : (m < x.b + x.n) = False := eq_false h2
          go_wp2
          go_quiet (fail)
          go_wp2
          go_roundw
          case rel => exact ⟨k + 1, by omega, by go_num, hst.drewN _, hpb.drewN _, fun j hj z hz => by
            rcases Nat.lt_or_ge j k with h3 | h3
            · exact hno j h3 z hz
            · obtain rfl : j = k := by omega
              rw [hx] at hz; injection hz with hz; subst hz; exact hs⟩
          case measure => simp [intOf]; omega
      · have hs : inP m x = false := by cases hs : inP m x; rfl; exact absurd ((inP_iff _ _).1 hs).1 h1
        have f1 : (x.b ≤ m) = False := eq_false h1
        go_wp2
        go_quiet (fail)
        go_wp2
        go_roundw
        case rel => exact ⟨k + 1, by omega, by go_num, hst.drewN _, hpb.drewN _, fun j hj z hz => by
          rcases Nat.lt_or_ge j k with h3 | h3
          · exact hno j h3 z hz
          · obtain rfl : j = k := by omega
            rw [hx] at hz; injection hz with hz; subst hz; exact hs⟩
        case measure => simp [intOf]; omega
    · have hk2 : k = n := by omega
      have g1 : ((k : Int) < (n : Int)) = False := eq_false (by omega)
      obtain ⟨rfl, EP⟩ := FN.out fun i z hz => by
        have : i < xs.length := by
          rcases Nat.lt_or_ge i xs.length with h1 | h1
          · exact h1
          · rw [List.getElem?_eq_none h1] at hz; cases hz
        exact hno i (by omega) z hz
      replace EP := Lib.hid EP
      go_wp2_with (first
        | (refine wpList_ansY hpb hst.bel ⟨0, 0, 0, 0, 0⟩ _ _ rfl rfl rfl rfl ?_; intro X5 h7 h8))
      exact bodyPost_ret (results_place Try.results33 _ _ (w.heap.size + 1) rfl _ h7) rfl ⟨by rw [EP.out]; rfl, h8⟩
end Go.Proofs.Ytcbpnmcfiohndaa
