/- The document's words on memory: how much, where, what. No statement is proved here. -/
import Derived.Test.YtcbpnmcfiohndaaParts2
namespace Go.Proofs.Ytcbpnmcfiohndaa
open Go.RowKit
set_option linter.unusedVariables false
set_option linter.unusedSimpArgs false

/-- A row of parts in memory of the call's own. -/
structure ESt (w : World) (A : Option Addr) (n c : Nat) (xs : List Pt) (W : World) : Prop where
  own : W.ownsRow (w.heap.size + 1) 66 7 (.slice A n c) n (pvs xs)
  len : n = xs.length
  bel : Below w.heap.size w W
section
variable {w V W W' : World} {A : Option Addr} {n c : Nat} {xs : List Pt}
theorem ESt.drew (h : ESt w A n c xs W) : ESt w A n c xs W.drew := ⟨h.own, h.len, h.bel.drew⟩
theorem below_drewN {B : Nat} (h : Below B w W) (k : Nat) : Below B w (W.drewN k) := ⟨h.os, h.tape, h.output, h.size, h.block⟩
theorem ESt.drewN (h : ESt w A n c xs W) (k : Nat) : ESt w A n c xs (W.drewN k) := ⟨h.own, h.len, below_drewN h.bel k⟩
theorem Pb.drewN {g : Nat} {c : Pc} (h : Pb W g c) (k : Nat) : Pb (W.drewN k) g c := h
theorem ESt.call (h : ESt w A n c xs W) (hb : Below W.heap.size W W') : ESt w A n c xs W' :=
  ⟨h.own.kept (grown_of_below hb none) (by cases (Value.slice A n c).ownBlock <;> simp), h.len, h.bel.trans (hb.mono h.bel.size)⟩
theorem ESt.of (hn : n = xs.length) (ho : W.ownsRow (V.heap.size + 1) 66 7 (.slice A n c) n (pvs xs)) (hb : Below V.heap.size V W) (hV : Below w.heap.size w V) : ESt w A n c xs W := by
  refine ⟨?_, hn, hV.trans (hb.mono hV.size)⟩
  have := hV.size
  rcases ho with ⟨h1, h2 | ⟨g, cap, cur, e, hg, r⟩⟩
  · exact ⟨h1, .inl h2⟩
  · exact ⟨h1, .inr ⟨g, cap, cur, e, by omega, r⟩⟩
theorem ESt.at_ (h : ESt w A n c xs W) {i : Nat} {x : Pt} (hx : xs[i]? = some x) : ∃ g, A = some ⟨g, 0, none⟩ ∧ w.heap.size + 1 ≤ g ∧ W.cell? ⟨g, i * 7, none⟩ = some (.int .i64 x.c.k) ∧ W.cell? ⟨g, i * 7 + 1, none⟩ = some (.int .i64 x.c.n) ∧ W.cell? ⟨g, i * 7 + 2, none⟩ = some (.int .i64 x.c.l) ∧ W.cell? ⟨g, i * 7 + 3, none⟩ = some (.int .i64 x.c.i) ∧ W.cell? ⟨g, i * 7 + 4, none⟩ = some (.int .i64 x.c.o) ∧ W.cell? ⟨g, i * 7 + 5, none⟩ = some (.int .i64 x.b) ∧ W.cell? ⟨g, i * 7 + 6, none⟩ = some (.int .i64 x.n) := by
  have hi : i < xs.length := by
    rcases Nat.lt_or_ge i xs.length with h1 | h1
    · exact h1
    · rw [List.getElem?_eq_none h1] at hx; cases hx
  have hn := h.len
  have hp := fun j hj => pvs_at xs i j x hx hj
  rcases h.own.2 with ⟨_, h0⟩ | ⟨g, cap, cur, hv, hg, _⟩
  · omega
  · injection hv with h1 h2 h3
    subst h1
    have ca := fun j (hj : j < 7) => (h.own.cellAt (i * 7 + j) (by omega)).trans (hp j hj)
    exact ⟨g, rfl, hg, ca 0 (by omega), ca 1 (by omega), ca 2 (by omega), ca 3 (by omega), ca 4 (by omega), ca 5 (by omega), ca 6 (by omega)⟩
end
def SzRel (w : World) (A : Option Addr) (n c : Nat) (xs : List Pt) (s i : Value) (wr : World) : Prop :=
  ∃ k : Nat, k ≤ n ∧ s = .int .i64 (sumN (xs.take k)) ∧ i = .int .i64 (k : Nat) ∧ ESt w A n c xs wr
theorem sumN_one (x : Pt) : sumN [x] = x.n := by simp [sumN]
attribute [local irreducible] shaped Ls Lv Wd Al right bounded fitP sw wid hasI hasL itAt pts pvs SzI sumN
theorem sumN_small (q : Pl) (k : Nat) : 0 ≤ sumN ((pts q).take k) ∧ sumN ((pts q).take k) ≤ 32 * (k : Int) := by
  have h0 : ∀ x ∈ pts q, 0 ≤ x.n ∧ x.n ≤ 32 := fun x hx => by have := pts_small hx; omega
  generalize pts q = xs at *
  induction xs generalizing k with
  | nil => unfold sumN; simp; omega
  | cons x r ih =>
    cases k with
    | zero => unfold sumN; simp
    | succ k =>
      have h1 := h0 x List.mem_cons_self
      have h2 := ih k fun y hy => h0 y (List.mem_cons_of_mem _ hy)
      rw [List.take_succ_cons]
      unfold sumN
      omega
set_option maxHeartbeats 1000000 in
theorem refSize_any (q : Pl) (w : World) : Calls Try.prog 27 #[.agg q.arr] w fun e w' => e = .returned (.int .i64 (SzI q)) ∧ Below w.heap.size w w' := by
  have N := Lib.hid (PSt.new w q)
  have PT := Lib.hid (fun W => parts_any q W)
  have few := pts_few q
  have SM := Lib.hid (sumN_small q)
  have SU := Lib.hid (sumN_pts q)
  have PS := Lib.hid (fun x (hx : x ∈ pts q) => pts_small hx)
  generalize pts q = xs at *
  go_enter Try.func27, Try.ntmps27
  go_wp2_with (first
    | (refine wpList_load_plan N.out.blk _ rfl rfl rfl ?_)
    | (go_at_call 48; refine (PT.out _).mono ?_; rintro e X1 ⟨A, n, c, hn, rfl, ho, hb⟩; have h1 := ESt.of hn ho hb N.out.bel; clear N hb ho))
  go_loopw [3, 5] (SzRel w A n c xs) (fun s i _ => n - (intOf i).toNat)
  case atStart => exact ⟨0, by omega, by unfold sumN; rfl, rfl, h1⟩
  case round =>
    clear h1
    obtain ⟨k, hk, rfl, rfl, hst⟩ := hrel
    by_cases hlt : k < n
    · have g1 : ((k : Int) < (n : Int)) = True := eq_true (by omega)
      have hx : xs[k]? = some xs[k] := List.getElem?_eq_getElem (by omega)
      have sm := SM.out k
      have ps := PS.out xs[k] (List.getElem_mem _)
      have ET : Hid (sumN (xs.take (k + 1)) = sumN (xs.take k) + xs[k].n) := by
        rw [List.take_succ_eq_append_getElem (by omega), sumN_append, sumN_one]; exact rfl
      generalize xs[k] = x at *
      generalize sumN (xs.take k) = sk at *
      obtain ⟨g, rfl, hg, u0, u1, u2, u3, u4, u5, u6⟩ := hst.at_ hx
      have w1 : IntKind.i64.wrap (sk + x.n) = sk + x.n := IntWalk.i64_in _ (by omega)
      go_wp2
      go_roundw
      case rel => exact ⟨k + 1, by omega, by rw [ET.out], by go_num, hst⟩
      case measure => simp [intOf]; omega
    · have hk2 : k = n := by omega
      have g1 : ((k : Int) < (n : Int)) = False := eq_false (by omega)
      have EZ : Hid (sumN (xs.take k) = SzI q) := by rw [hk2, hn, List.take_length]; exact SU.out
      rw [EZ.out]
      go_wp2
      go_ret
      exact ⟨rfl, hst.bel⟩
end Go.Proofs.Ytcbpnmcfiohndaa
