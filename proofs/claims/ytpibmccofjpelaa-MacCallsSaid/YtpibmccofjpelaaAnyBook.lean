/- A book of any kind: what a call answers, and what it leaves, as functions of what the book has. No statement is proved here. -/
import Derived.Test.YtpibmccofjpelaaSameBad
import Derived.Test.YtpibmccofjpelaaToldBook
namespace Go.Proofs.Ytpibmccofjpelaa
open Go.RowKit Go.Maps
set_option linter.unusedVariables false
set_option linter.unusedSimpArgs false

/-- The tag that a message is given. -/
def tgT (K : Kd) (ms : List Mark) (xs : List Nat) : Nat := if 0 < findM ms xs then tagK K xs (findM ms xs) else tagK K xs (ms.length + 1)
/-- The marks behind it. -/
def tgM (K : Kd) (ms : List Mark) (xs : List Nat) : List Mark := if 0 < findM ms xs then ms else ms ++ [(xs, tagK K xs (ms.length + 1))]
/-- The bad event of it. -/
def tgE (K : Kd) (ms : List Mark) (xs : List Nat) : List Bd :=
  if 0 < findM ms xs then [] else match firstM ms (tagK K xs (ms.length + 1)) with
    | 0 => []
    | N + 1 => [⟨2, xs, (ms.getD N ([], 0)).1, tagK K xs (ms.length + 1)⟩]
/-- Whether a tag is a message's. -/
def vrB (K : Kd) (ms : List Mark) (xs : List Nat) (t : Nat) : Bool := okK K (findM ms xs) && decide (t = tagK K xs (findM ms xs))
/-- The bad event of that. -/
def vrE (K : Kd) (ms : List Mark) (xs : List Nat) (t : Nat) : List Bd := if vrB K ms xs t = true ∧ findM ms xs = 0 then [⟨1, xs, [], t⟩] else []
/-- What stays of where a book lies. -/
def Near (w : World) (v v' : Value) : Prop := v'.ownBlock = v.ownBlock ∨ ∃ i, w.heap.size ≤ i ∧ v'.ownBlock = some i
theorem Near.refl (w : World) (v : Value) : Near w v v := .inl rfl
section
variable {base gk : Nat} {K : Kd} {ms : List Mark} {rs : List Bm} {gl : Nat} {sv : Value} {m1 m2 : Nat} {bv : Value} {A : Option Addr} {n c : Nat} {xs : List Nat} {w : World}
theorem Gk.tag (h : Gk w base gk K ms rs gl sv m1 m2 bv) (hK : K.ok) (hx : Row w w.heap.size A n c xs) (hn : n ≤ 1000) (hm : ∀ m ∈ ms, m.1.length ≤ 1000) (hb : base ≤ w.heap.size) (hl : ms.length < 900) (hrs : rs.length < 900) (hd : ∀ a, A = some a → 0 < n → ¬ bkS gk gl sv m1 m2 bv a.block) :
    Calls Try.prog 25 #[.pointer (some ⟨gk, 0, none⟩), .slice A n c] w fun e w' => e = .returned (.int .u64 (tgT K ms xs : Nat)) ∧ ∃ sv' bv' rs', rs'.map (·.e) = rs.map (·.e) ++ tgE K ms xs ∧ Gk w' base gk K (tgM K ms xs) rs' gl sv' m1 m2 bv' ∧ Only w w' (bkS gk gl sv m1 m2 bv) ∧ Near w sv sv' ∧ Near w bv bv' := by
  have hle := findM_le ms xs
  by_cases h0 : findM ms xs = 0
  · have e1 : tgT K ms xs = tagK K xs (ms.length + 1) := by unfold tgT; rw [if_neg (by omega)]
    have e2 : tgM K ms xs = ms ++ [(xs, tagK K xs (ms.length + 1))] := by unfold tgM; rw [if_neg (by omega)]
    rw [e1, e2]
    cases hf : firstM ms (tagK K xs (ms.length + 1)) with
    | zero =>
      have e3 : tgE K ms xs = [] := by unfold tgE; rw [if_neg (by omega), hf]
      rw [e3, List.append_nil]
      cases K with
      | ideal =>
        refine (gtag_new_ideal base gk ms rs gl sv m1 m2 bv A n c xs w h hx h0 hf hb (by omega)).mono ?_
        rintro e w' ⟨rfl, sv', hg, ho, hs⟩
        exact ⟨rfl, sv', bv, rs, rfl, hg, ho, hs, Near.refl _ _⟩
      | sip key =>
        refine (gtag_new_sip base gk key hK ms rs gl sv m1 m2 bv A n c xs w h hx h0 hf hb (by omega)).mono ?_
        rintro e w' ⟨rfl, sv', hg, ho, hs⟩
        exact ⟨rfl, sv', bv, rs, rfl, hg, ho, hs, Near.refl _ _⟩
    | succ N =>
      obtain ⟨ys, hy⟩ := firstM_at hf
      have e3 : tgE K ms xs = [⟨2, xs, ys, tagK K xs (ms.length + 1)⟩] := by
        unfold tgE; rw [if_neg (by omega), hf]
        simp [List.getD_eq_getElem?_getD, hy]
      rw [e3]
      have hym := hm _ (List.mem_of_getElem? hy)
      cases K with
      | ideal =>
        refine (gtag_twin_ideal base gk ms rs gl sv m1 m2 bv A n c xs w h hx h0 N ys _ hf hy hn hym hb (by omega) (by omega) hd).mono ?_
        rintro e w' ⟨rfl, sv', bv', r, er, hg, ho, hs, hv⟩
        exact ⟨rfl, sv', bv', _, by rw [List.map_append, List.map_cons, List.map_nil, er]; rfl, hg, ho, hs, hv⟩
      | sip key =>
        refine (gtag_twin_sip base gk key hK ms rs gl sv m1 m2 bv A n c xs w h hx h0 N ys _ hf hy hn hym hb (by omega) (by omega) hd).mono ?_
        rintro e w' ⟨rfl, sv', bv', r, er, hg, ho, hs, hv⟩
        exact ⟨rfl, sv', bv', _, by rw [List.map_append, List.map_cons, List.map_nil, er]; rfl, hg, ho, hs, hv⟩
  · have e1 : tgT K ms xs = tagK K xs (findM ms xs) := by unfold tgT; rw [if_pos (by omega)]
    have e2 : tgM K ms xs = ms := by unfold tgM; rw [if_pos (by omega)]
    have e3 : tgE K ms xs = [] := by unfold tgE; rw [if_pos (by omega)]
    rw [e1, e2, e3, List.append_nil]
    have key : ∀ e w', e = Ending.returned (.int .u64 (tagK K xs (findM ms xs) : Nat)) ∧ Below w.heap.size w w' → e = Ending.returned (.int .u64 (tagK K xs (findM ms xs) : Nat)) ∧ ∃ sv' bv' rs', rs'.map (·.e) = rs.map (·.e) ∧ Gk w' base gk K ms rs' gl sv' m1 m2 bv' ∧ Only w w' (bkS gk gl sv m1 m2 bv) ∧ Near w sv sv' ∧ Near w bv bv' := fun e w' ⟨he, hB⟩ =>
      ⟨he, sv, bv, rs, rfl, h.below hB, ⟨hB.os, hB.tape, hB.output, hB.size, fun i hi _ => hB.block i hi⟩, Near.refl _ _, Near.refl _ _⟩
    cases K with
    | ideal => exact (gtag_old_ideal base gk ms rs gl sv m1 m2 bv A n c xs w h hx (by omega) (by omega)).mono key
    | sip ky => exact (gtag_old_sip base gk ky hK ms rs gl sv m1 m2 bv A n c xs w h hx (by omega) (by omega)).mono key
theorem Gk.verify (h : Gk w base gk K ms rs gl sv m1 m2 bv) (hK : K.ok) (hx : Row w w.heap.size A n c xs) (hn : n ≤ 1000) (hb : base ≤ w.heap.size) (hl : ms.length < 900) (hrs : rs.length < 900) (t : Nat) :
    Calls Try.prog 23 #[.pointer (some ⟨gk, 0, none⟩), .slice A n c, .int .u64 (t : Nat)] w fun e w' => e = .returned (.bool (vrB K ms xs t)) ∧ ∃ bv' rs', rs'.map (·.e) = rs.map (·.e) ++ vrE K ms xs t ∧ Gk w' base gk K ms rs' gl sv m1 m2 bv' ∧ Only w w' (bkS gk gl sv m1 m2 bv) ∧ Near w bv bv' := by
  have hle := findM_le ms xs
  have key : ∀ (b : Bool), vrB K ms xs t = b → vrE K ms xs t = [] → ∀ e w', e = Ending.returned (.bool b) ∧ Below w.heap.size w w' → e = Ending.returned (.bool (vrB K ms xs t)) ∧ ∃ bv' rs', rs'.map (·.e) = rs.map (·.e) ++ vrE K ms xs t ∧ Gk w' base gk K ms rs' gl sv m1 m2 bv' ∧ Only w w' (bkS gk gl sv m1 m2 bv) ∧ Near w bv bv' := fun b e1 e2 e w' ⟨he, hB⟩ => by
    rw [e1, e2, List.append_nil]
    exact ⟨he, bv, rs, rfl, h.below hB, ⟨hB.os, hB.tape, hB.output, hB.size, fun i hi _ => hB.block i hi⟩, Near.refl _ _⟩
  cases K with
  | ideal =>
    have e1 : vrB .ideal ms xs t = decide (0 < findM ms xs ∧ (t : Int) = (findM ms xs : Nat)) := by
      show (decide (0 < findM ms xs) && decide (t = findM ms xs)) = _
      generalize findM ms xs = N
      rw [Bool.eq_iff_iff]
      simp only [Bool.and_eq_true, decide_eq_true_eq]
      omega
    refine (gver_ideal base gk ms rs gl sv m1 m2 bv A n c xs w h hx (t : Nat) (by omega)).mono (key _ e1 ?_)
    unfold vrE
    rw [if_neg]
    rintro ⟨a1, a2⟩
    rw [e1] at a1
    have := of_decide_eq_true a1
    omega
  | sip ky =>
    by_cases ht : t = ssum ky xs
    · have e1 : vrB (.sip ky) ms xs t = true := by simp [vrB, okK, tagK, ht]
      by_cases h0 : findM ms xs = 0
      · have e2 : vrE (.sip ky) ms xs t = [⟨1, xs, [], t⟩] := by unfold vrE; rw [if_pos ⟨e1, h0⟩]
        rw [e1, e2]
        subst ht
        refine (gver_forged base gk ky hK ms rs gl sv m1 m2 bv A n c xs w h hx h0 hn hb (by omega)).mono ?_
        rintro e w' ⟨rfl, bv', r, er, hg, ho, hv⟩
        exact ⟨rfl, bv', _, by rw [List.map_append, List.map_cons, List.map_nil, er], hg, ho, hv⟩
      · have e2 : vrE (.sip ky) ms xs t = [] := by unfold vrE; rw [if_neg (fun hh => h0 hh.2)]
        have := (gver_has base gk ky hK ms rs gl sv m1 m2 bv A n c xs w h hx (by omega)).mono (key true e1 e2)
        rw [← ht] at this
        exact this
    · have e1 : vrB (.sip ky) ms xs t = false := by simp [vrB, okK, tagK, ht]
      have e2 : vrE (.sip ky) ms xs t = [] := by unfold vrE; rw [if_neg (fun hh => by rw [e1] at hh; cases hh.1)]
      exact (gver_no base gk ky hK ms rs gl sv m1 m2 bv A n c xs w h hx (t : Nat) (by omega)).mono (key false e1 e2)
end
end Go.Proofs.Ytpibmccofjpelaa
