/- The document's book: a message is looked for. No statement is proved here. -/
import Derived.Test.YtpibmccofjpelaaSameMarks
import Derived.Test.YtpibmccofjpelaaAnyBook
namespace Go.Proofs.Ytpibmccofjpelaa
open Go.RowKit Go.Maps
set_option linter.unusedVariables false
set_option linter.unusedSimpArgs false

theorem fN_of {α : Type} (p : α → Bool) (l : List α) (j : Nat) (x : α) (h : ∀ i y, i < j → l[i]? = some y → p y = false) (hx : l[j]? = some x) (hp : p x = true) : fN p l = j + 1 := by
  induction l generalizing j with
  | nil => simp at hx
  | cons y r ih =>
    cases j with
    | zero =>
      simp only [List.getElem?_cons_zero, Option.some.injEq] at hx
      subst hx
      simp [fN, hp]
    | succ j =>
      have hy := h 0 y (by omega) rfl
      have := ih j (fun i z hi hz => h (i + 1) z (by omega) (by simpa using hz)) (by simpa using hx)
      simp [fN, hy, this]
theorem fN_none {α : Type} (p : α → Bool) (l : List α) (h : ∀ (i : Nat) (y : α), l[i]? = some y → p y = false) : fN p l = 0 := by
  induction l with
  | nil => rfl
  | cons y r ih =>
    have hy := h 0 y rfl
    have := ih (fun i z hz => h (i + 1) z (by simpa using hz))
    simp [fN, hy, this]
/-- None of the first j marks is of the message. -/
def NotYet (cs : List Mm) (xs : List Nat) (j : Nat) : Prop := ∀ i y, i < j → cs[i]? = some y → y.m.1 ≠ xs
theorem NotYet.found {cs : List Mm} {xs : List Nat} {j : Nat} {y : Mm} (h : NotYet cs xs j) (hy : cs[j]? = some y) (e : y.m.1 = xs) : findM (cs.map (·.m)) xs = j + 1 := by
  unfold findM
  refine fN_of _ _ j y.m (fun i z hi hz => ?_) (by rw [List.getElem?_map, hy]; rfl) (by simp [e])
  rw [List.getElem?_map] at hz
  cases hc : cs[i]? with
  | none => rw [hc] at hz; cases hz
  | some u =>
    rw [hc] at hz
    simp only [Option.map_some, Option.some.injEq] at hz
    subst hz
    simpa using h i u hi hc
theorem NotYet.none {cs : List Mm} {xs : List Nat} {L : Nat} (h : NotYet cs xs L) (hl : cs.length = L) : findM (cs.map (·.m)) xs = 0 := by
  unfold findM
  refine fN_none _ _ (fun i z hz => ?_)
  rw [List.getElem?_map] at hz
  cases hc : cs[i]? with
  | none => rw [hc] at hz; cases hz
  | some u =>
    rw [hc] at hz
    simp only [Option.map_some, Option.some.injEq] at hz
    subst hz
    have hi : i < cs.length := by
      rcases Nat.lt_or_ge i cs.length with q | q
      · exact q
      · rw [List.getElem?_eq_none q] at hc; cases hc
    simpa using h i u (by omega) hc
def FiRel (w : World) (L : Nat) (cs : List Mm) (xs : List Nat) (i : Value) (wr : World) : Prop :=
  ∃ j : Nat, j ≤ L ∧ i = .int .i64 (j : Nat) ∧ NotYet cs xs j ∧ Hid (∃ k, wr = w.drewN k)
attribute [local irreducible] findM
set_option maxRecDepth 20000 in
set_option maxHeartbeats 1000000 in
theorem rfind_any (gr : Nat) (A : Option Addr) (L cp : Nat) (cs : List Mm) (B : Option Addr) (n c : Nat) (xs : List Nat) (w : World) (hc : w.cell? ⟨gr, 17, none⟩ = some (.slice A L cp)) (h1 : KRow w A L cs) (hx : Row w w.heap.size B n c xs) (hL : L ≤ 10000) :
    Calls Try.prog 28 #[.pointer (some ⟨gr, 0, none⟩), .slice B n c] w fun e w' => e = .returned (.int .i64 ((findM (cs.map (·.m)) xs : Nat) - 1 : Int)) ∧ ∃ k, w' = w.drewN k := by
  have l1 := h1.len
  go_enter Try.func28, Try.ntmps28
  go_wp2
  go_loopw [5] (FiRel w L cs xs) (fun i _ => L - (intOf i).toNat)
  case atStart => exact ⟨0, by omega, rfl, fun i y hi => absurd hi (by omega), ⟨0, rfl⟩⟩
  case round =>
    obtain ⟨j, hj, rfl, hN, hK⟩ := hrel
    have h1' : KRow wr A L cs := by obtain ⟨k, e⟩ := hK.out; rw [e]; exact h1.drewN k
    have hc' : wr.cell? ⟨gr, 17, none⟩ = some (.slice A L cp) := by obtain ⟨k, e⟩ := hK.out; rw [e]; exact hc
    have hx' : Row wr wr.heap.size B n c xs := by obtain ⟨k, e⟩ := hK.out; rw [e]; exact hx.drewN k
    by_cases hlt : j < L
    · have g1 : ((j : Int) < (L : Int)) = True := eq_true (by omega)
      have x1 : cs[j]? = some cs[j] := List.getElem?_eq_getElem (by omega)
      generalize cs[j] = y1 at *
      obtain ⟨⟨ys, t⟩, B1, d1⟩ := y1
      obtain ⟨g1', rfl, e0, e1, r1⟩ := h1'.at_ j _ x1
      have SA0 := Lib.hid (same_any B1 B ys.length n d1 c ys xs wr.heap.size wr r1 hx')
      simp only at e0
      clear h1 h1' hx hx' hc r1 e1
      by_cases he : ys = xs
      · have hf := Lib.hid (hN.found x1 he)
        subst he
        rw [decide_eq_true rfl] at SA0
        clear x1 hN
        go_wp2_with (first
          | (go_at_call 46; refine SA0.out.mono ?_; rintro e X1 ⟨rfl, hX⟩; replace hX := Lib.hid hX))
        go_ret
        exact ⟨by rw [hf.out]; simp, by obtain ⟨k, e⟩ := hK.out; obtain ⟨k1, e1⟩ := hX.out; exact ⟨_, by rw [e1, e, World.drewN_drewN]⟩⟩
      · rw [decide_eq_false he] at SA0
        replace he := Lib.hid he
        replace hN := Lib.hid hN
        go_wp2_with (first
          | (go_at_call 46; refine SA0.out.mono ?_; rintro e X1 ⟨rfl, hX⟩; replace hX := Lib.hid hX))
        go_roundw
        case rel => exact ⟨j + 1, by omega, by go_num, fun i y hi hy => by
          rcases Nat.lt_or_ge i j with q | q
          · exact hN.out i y q hy
          · have : i = j := by omega
            subst this
            rw [x1] at hy
            injection hy with hy
            subst hy
            exact he.out, by obtain ⟨k, e⟩ := hK.out; obtain ⟨k1, e1⟩ := hX.out; exact ⟨_, by rw [e1, e, World.drewN_drewN]⟩⟩
        case measure => simp [intOf]; omega
    · have g1 : ((j : Int) < (L : Int)) = False := eq_false (by omega)
      have hj2 : j = L := by omega
      subst hj2
      have hf := Lib.hid (hN.none l1)
      go_wp2
      go_ret
      exact ⟨by rw [hf.out]; rfl, hK.out⟩
end Go.Proofs.Ytpibmccofjpelaa
