/- Rows of marks that are the same are told so. No statement is proved here. -/
import Derived.Test.YtpibmccofjpelaaMarksAny
import Derived.Test.YtpibmccofjpelaaSame
import Derived.BigQuiet
namespace Go.Proofs.Ytpibmccofjpelaa
open Go.RowKit Go.Maps
set_option linter.unusedVariables false
set_option linter.unusedSimpArgs false

/-- A row of marks that is read. -/
structure KRow (W : World) (A : Option Addr) (L : Nat) (cs : List Mm) : Prop where
  len : cs.length = L
  at_ : ∀ j x, cs[j]? = some x → ∃ g, A = some ⟨g, 0, none⟩ ∧ W.cell? ⟨g, j * 2, none⟩ = some (.slice x.A x.m.1.length x.c) ∧ W.cell? ⟨g, j * 2 + 1, none⟩ = some (.int .u64 (x.m.2 : Nat)) ∧ Row W W.heap.size x.A x.m.1.length x.c x.m.1
theorem KRow.drewN {W : World} {A : Option Addr} {L : Nat} {cs : List Mm} (h : KRow W A L cs) (k : Nat) : KRow (W.drewN k) A L cs := ⟨h.len, h.at_⟩
theorem WSt.krow {w W : World} {g L : Nat} {cs : List Mm} (h : WSt w g L cs W) (hl : cs.length = L) : KRow W (some ⟨g, 0, none⟩) L cs := by
  refine ⟨hl, fun j x hx => ⟨g, rfl, ?_, ?_, (h.row x (List.mem_of_getElem? hx)).1⟩⟩
  · have := h.rng (j * 2 + 0) _ (kvals_at cs j 0 x hx (by omega)); simpa using this
  · have := h.rng (j * 2 + 1) _ (kvals_at cs j 1 x hx (by omega)); simpa using this
def SmRel (w : World) (A1 A2 : Option Addr) (L : Nat) (c1 c2 : List Mm) (i : Value) (wr : World) : Prop :=
  ∃ j : Nat, j ≤ L ∧ i = .int .i64 (j : Nat) ∧ Hid (∃ k, wr = w.drewN k)
set_option maxRecDepth 20000 in
set_option maxHeartbeats 1000000 in
theorem sameMarks_any (A1 A2 : Option Addr) (L cp1 cp2 : Nat) (c1 c2 : List Mm) (w : World) (h1 : KRow w A1 L c1) (h2 : KRow w A2 L c2) (he : c1.map (·.m) = c2.map (·.m)) (hL : L ≤ 10000) :
    Calls Try.prog 29 #[.slice A1 L cp1, .slice A2 L cp2] w fun e w' => e = .returned (.bool true) ∧ ∃ k, w' = w.drewN k := by
  have l1 := h1.len
  have l2 := h2.len
  go_enter Try.func29, Try.ntmps29
  go_wp2
  go_loopw [5] (SmRel w A1 A2 L c1 c2) (fun i _ => L - (intOf i).toNat)
  case atStart => exact ⟨0, by omega, rfl, ⟨0, rfl⟩⟩
  case round =>
    obtain ⟨j, hj, rfl, hK⟩ := hrel
    have h1' : KRow wr A1 L c1 := by obtain ⟨k, e⟩ := hK.out; rw [e]; exact h1.drewN k
    have h2' : KRow wr A2 L c2 := by obtain ⟨k, e⟩ := hK.out; rw [e]; exact h2.drewN k
    by_cases hlt : j < L
    · have g1 : ((j : Int) < (L : Int)) = True := eq_true (by omega)
      have x1 : c1[j]? = some c1[j] := List.getElem?_eq_getElem (by omega)
      have x2 : c2[j]? = some c2[j] := List.getElem?_eq_getElem (by omega)
      have em : c1[j].m = c2[j].m := by
        have h3 := congrArg (·[j]?) he
        simp only [List.getElem?_map, x1, x2, Option.map_some, Option.some.injEq] at h3
        exact h3
      generalize c1[j] = y1 at *
      generalize c2[j] = y2 at *
      obtain ⟨⟨xs, t⟩, B1, d1⟩ := y1
      obtain ⟨⟨ys, u⟩, B2, d2⟩ := y2
      simp only at em
      injection em with em1 em2
      subst em1 em2
      obtain ⟨g1', rfl, e0, e1, r1⟩ := h1'.at_ j _ x1
      obtain ⟨g2', rfl, f0, f1, r2⟩ := h2'.at_ j _ x2
      have SA := Lib.hid (fun W (hr1 : Row W W.heap.size B1 xs.length d1 xs) (hr2 : Row W W.heap.size B2 xs.length d2 xs) => same_any B1 B2 xs.length xs.length d1 d2 xs xs W.heap.size W hr1 hr2)
      clear h1 h2 h1' h2'
      have S2 : Hid (∀ W, Row W W.heap.size B1 xs.length d1 xs → Row W W.heap.size B2 xs.length d2 xs → Calls Try.prog 46 #[.slice B1 xs.length d1, .slice B2 xs.length d2] W fun e w' => e = .returned (.bool true) ∧ ∃ k, w' = W.drewN k) := fun W a b => by have := SA.out W a b; rwa [decide_eq_true rfl] at this
      go_wp2
      go_quiet ((go_at_call 46; exact Calls.quiet_of (S2.out _ (Row.drewN r1 _) (Row.drewN r2 _))))
      go_wp2
      go_roundw
      case rel => exact ⟨j + 1, by omega, by go_num, by obtain ⟨k, e⟩ := hK.out; exact ⟨_, by rw [e, World.drewN_drewN]⟩⟩
      case measure => simp [intOf]; omega
    · have g1 : ((j : Int) < (L : Int)) = False := eq_false (by omega)
      go_wp2
      go_ret
      exact ⟨rfl, hK.out⟩
end Go.Proofs.Ytpibmccofjpelaa
