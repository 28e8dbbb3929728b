/- Rows of bad events that are the same are told so. No statement is proved here. -/
import Derived.Test.YtpibmccofjpelaaSameMarks
namespace Go.Proofs.Ytpibmccofjpelaa
open Go.RowKit Go.Maps
set_option linter.unusedVariables false
set_option linter.unusedSimpArgs false

/-- A row of bad events that is read. -/
structure BRow (W : World) (A : Option Addr) (L : Nat) (cs : List Bm) : Prop where
  len : cs.length = L
  at_ : ∀ j x, cs[j]? = some x → ∃ g, A = some ⟨g, 0, none⟩ ∧ W.cell? ⟨g, j * 4, none⟩ = some (.int .i64 (x.e.k : Nat)) ∧ W.cell? ⟨g, j * 4 + 1, none⟩ = some (.slice x.A1 x.e.xs.length x.c1) ∧ W.cell? ⟨g, j * 4 + 2, none⟩ = some (.slice x.A2 x.e.ys.length x.c2) ∧ W.cell? ⟨g, j * 4 + 3, none⟩ = some (.int .u64 (x.e.t : Nat)) ∧ Row W W.heap.size x.A1 x.e.xs.length x.c1 x.e.xs ∧ Row W W.heap.size x.A2 x.e.ys.length x.c2 x.e.ys
theorem BRow.drewN {W : World} {A : Option Addr} {L : Nat} {cs : List Bm} (h : BRow W A L cs) (k : Nat) : BRow (W.drewN k) A L cs := ⟨h.len, h.at_⟩
theorem ZSt.brow {w W : World} {g L : Nat} {cs : List Bm} (h : ZSt w g L cs W) (hl : cs.length = L) : BRow W (some ⟨g, 0, none⟩) L cs := by
  refine ⟨hl, fun j x hx => ⟨g, rfl, ?_, ?_, ?_, ?_, (h.own x (List.mem_of_getElem? hx)).1.row, (h.own x (List.mem_of_getElem? hx)).2.1.row⟩⟩
  · have := h.rng (j * 4 + 0) _ (bvals_at cs j 0 x hx (by omega)); simpa using this
  · have := h.rng (j * 4 + 1) _ (bvals_at cs j 1 x hx (by omega)); simpa using this
  · have := h.rng (j * 4 + 2) _ (bvals_at cs j 2 x hx (by omega)); simpa using this
  · have := h.rng (j * 4 + 3) _ (bvals_at cs j 3 x hx (by omega)); simpa using this
def SbRel (w : World) (A1 A2 : Option Addr) (L : Nat) (i : Value) (wr : World) : Prop :=
  ∃ j : Nat, j ≤ L ∧ i = .int .i64 (j : Nat) ∧ Hid (∃ k, wr = w.drewN k)
set_option maxRecDepth 20000 in
set_option maxHeartbeats 2000000 in
theorem sameBad_any (A1 A2 : Option Addr) (L cp1 cp2 : Nat) (c1 c2 : List Bm) (w : World) (h1 : BRow w A1 L c1) (h2 : BRow w A2 L c2) (he : c1.map (·.e) = c2.map (·.e)) (hL : L ≤ 10000) :
    Calls Try.prog 31 #[.slice A1 L cp1, .slice A2 L cp2] w fun e w' => e = .returned (.bool true) ∧ ∃ k, w' = w.drewN k := by
  have l1 := h1.len
  have l2 := h2.len
  go_enter Try.func31, Try.ntmps31
  go_wp2
  go_loopw [5] (SbRel w A1 A2 L) (fun i _ => L - (intOf i).toNat)
  case atStart => exact ⟨0, by omega, rfl, ⟨0, rfl⟩⟩
  case round =>
    obtain ⟨j, hj, rfl, hK⟩ := hrel
    have h1' : BRow wr A1 L c1 := by obtain ⟨k, e⟩ := hK.out; rw [e]; exact h1.drewN k
    have h2' : BRow wr A2 L c2 := by obtain ⟨k, e⟩ := hK.out; rw [e]; exact h2.drewN k
    by_cases hlt : j < L
    · have g1 : ((j : Int) < (L : Int)) = True := eq_true (by omega)
      have x1 : c1[j]? = some c1[j] := List.getElem?_eq_getElem (by omega)
      have x2 : c2[j]? = some c2[j] := List.getElem?_eq_getElem (by omega)
      have em : c1[j].e = c2[j].e := by
        have h3 := congrArg (·[j]?) he
        simp only [List.getElem?_map, x1, x2, Option.map_some, Option.some.injEq] at h3
        exact h3
      generalize c1[j] = y1 at *
      generalize c2[j] = y2 at *
      obtain ⟨⟨ek, xs, ys, et⟩, B1, d1, B3, d3⟩ := y1
      obtain ⟨e', B2, d2, B4, d4⟩ := y2
      simp only at em
      subst em
      obtain ⟨ga, rfl, p0, p1, p2, p3, r1, r3⟩ := h1'.at_ j _ x1
      obtain ⟨gb, rfl, q0, q1, q2, q3, r2, r4⟩ := h2'.at_ j _ x2
      have S2 : Hid (∀ W, Row W W.heap.size B1 xs.length d1 xs → Row W W.heap.size B2 xs.length d2 xs → Calls Try.prog 46 #[.slice B1 xs.length d1, .slice B2 xs.length d2] W fun e w' => e = .returned (.bool true) ∧ ∃ k, w' = W.drewN k) := fun W a b => by have := same_any B1 B2 xs.length xs.length d1 d2 xs xs W.heap.size W a b; rwa [decide_eq_true rfl] at this
      have S4 : Hid (∀ W, Row W W.heap.size B3 ys.length d3 ys → Row W W.heap.size B4 ys.length d4 ys → Calls Try.prog 46 #[.slice B3 ys.length d3, .slice B4 ys.length d4] W fun e w' => e = .returned (.bool true) ∧ ∃ k, w' = W.drewN k) := fun W a b => by have := same_any B3 B4 ys.length ys.length d3 d4 ys ys W.heap.size W a b; rwa [decide_eq_true rfl] at this
      clear h1 h2 h1' h2'
      go_wp2
      go_quiet ((first
        | (go_at_call_of 46 (Value.slice B1 xs.length d1); exact Calls.quiet_of (S2.out _ (Row.drewN r1 _) (Row.drewN r2 _)))
        | (go_at_call_of 46 (Value.slice B3 ys.length d3); exact Calls.quiet_of (S4.out _ (Row.drewN r3 _) (Row.drewN r4 _)))))
      go_wp2
      go_roundw
      case rel => exact ⟨j + 1, by omega, by go_num, by obtain ⟨k, e⟩ := hK.out; exact ⟨_, by rw [e, World.drewN_drewN]⟩⟩
      case measure => simp [intOf]; omega
    · have g1 : ((j : Int) < (L : Int)) = False := eq_false (by omega)
      go_wp2
      go_ret
      exact ⟨rfl, hK.out⟩
end Go.Proofs.Ytpibmccofjpelaa
