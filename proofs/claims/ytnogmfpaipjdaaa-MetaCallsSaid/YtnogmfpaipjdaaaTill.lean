/- A region that draws its order: what is held of the world need hold only until operation number m is done. No statement is proved here. -/
import Derived.Test.YtnogmfpaipjdaaaLast
namespace Go.Proofs.Ytnogmfpaipjdaaa
open Go.RowKit
set_option linter.unusedVariables false

section
variable {P : Program} {ops : Array Oper} {Q : Exit → Act → World → Prop} {S : World → Prop} {m : Nat}

/-- Whatever order is picked from here on; as long as number m isn't done the world meets S. -/
def AnyC (P : Program) (ops : Array Oper) (Q : Exit → Act → World → Prop) (S : World → Prop) (m : Nat) : Nat → Array Bool → Act → World → Prop
  | 0, l, a, w => Region.ready .any ops l = [] ∧ Q .normal a w
  | f + 1, l, a, w => (Region.ready .any ops l = [] → Q .normal a w) ∧
      ∀ i ∈ Region.ready .any ops l, wpOp P ops Q i (fun a' w' => ((l.setIfInBounds i true).getD m false = false → S w') ∧ AnyC P ops Q S m f (l.setIfInBounds i true) a' w') a w

theorem AnyC.any : ∀ (f : Nat) (l : Array Bool) (a : Act) (w : World), AnyC P ops Q S m f l a w → wpAny P .any ops Q f l a w
  | 0, _, _, _, h => h
  | f + 1, _, _, _, h => ⟨h.1, fun i hi => wpOp_mono (fun a' w' k => AnyC.any f _ a' w' k.2) (h.2 i hi)⟩
theorem getD_other {l : Array Bool} {i j : Nat} {b : Bool} (h : i ≠ j) : (l.setIfInBounds i b).getD j false = l.getD j false := by
  simp only [Array.getD_eq_getD_getElem?]
  rw [Array.getElem?_setIfInBounds_ne h]

theorem AnyC.first {i : Nat} {oi : Oper} {v : Value} (hi : ops[i]? = some oi) (hsel : ∀ (j : Nat) (o : Oper) cs b, ops[j]? = some o → o.op ≠ .select cs b) (hwait : Region.waitsFor .any ops m i = true) (hne : i ≠ m)
    (hQ : ∀ c a w, Q (.panic c) (a.put oi.dst v) w → Q (.panic c) a w) (f : Nat) : ∀ (l : Array Bool) (a : Act) (w : World),
      l.getD m false = false →
      (∀ j oj, ops[j]? = some oj → j ≠ i → l.getD j true = false → (∀ e ∈ oj.after, Region.binds .any e = true → e.on ≠ i) → oi.apart ops oj = true) →
      i ∈ Region.ready .any ops l → YieldsIf P ops S oi v a → S w →
      AnyC P ops Q S m f (l.setIfInBounds i true) (a.put oi.dst v) w → AnyC P ops Q S m (f + 1) l a w := by
  induction f with
  | zero =>
    intro l a w hlm _ hr hy hS H
    refine ⟨fun h => absurd hr (by rw [h]; simp), fun j hj => ?_⟩
    by_cases e : j = i
    · subst e; exact hy.wpOp hi hS ⟨fun _ => hS, H⟩
    · have := ready_mono hj e
      rw [H.1] at this
      exact absurd this (by simp)
  | succ f ih =>
    intro l a w hlm hfree hr hy hS H
    refine ⟨fun h => absurd hr (by rw [h]; simp), fun j hj => ?_⟩
    by_cases e : j = i
    · subst e; exact hy.wpOp hi hS ⟨fun _ => hS, H⟩
    have hun := (mem_ready.1 hr).1
    have hjm : j ≠ m := fun h => by
      subst h
      have h1 := last_waits hwait hj
      rw [getD_both hun] at h1
      cases h1
    obtain ⟨hjun, oj, hoj, hall⟩ := mem_ready.1 hj
    have hnot : ∀ x ∈ oj.after, Region.binds .any x = true → x.on ≠ i := fun x hx hb h => by
      have h1 := hall x hx hb
      rw [h, getD_both hun] at h1
      cases h1
    have hlm2 : (l.setIfInBounds j true).getD m false = false := by rw [getD_other hjm]; exact hlm
    have hlm3 : ((l.setIfInBounds i true).setIfInBounds j true).getD m false = false := by rw [getD_other hjm, getD_other hne]; exact hlm
    refine wpOp_mono (fun a' w' k => ⟨fun _ => k.2.1 hlm3, ?_⟩) (wpOp_putIf hoj (hfree j oj hoj e hjun hnot) (fun cs b => hsel i oi cs b hi) (fun cs b => hsel j oj cs b hoj) hQ hy (H.2 j (ready_mono hj e)))
    refine ih _ a' w' hlm2 (fun k' ok hk hki hkun hno => hfree k' ok hk hki ?_ hno) (ready_mono hr (Ne.symm e)) k.1 (k.2.1 hlm3) ?_
    · by_cases hjk : j = k'
      · subst hjk; exact hjun
      · rw [getD_set_ne true hjk] at hkun; exact hkun
    · rw [Array.setIfInBounds_comm _ _ e]
      exact k.2.2
theorem AnyC.later {i : Nat} {oi : Oper} {v : Value} (hi : ops[i]? = some oi) (hsel : ∀ (j : Nat) (o : Oper) cs b, ops[j]? = some o → o.op ≠ .select cs b) (hne : i ≠ m)
    (hQ : ∀ c a w, Q (.panic c) (a.put oi.dst v) w → Q (.panic c) a w) (f : Nat) : ∀ (l : Array Bool) (a : Act) (w : World),
      l.getD m false = true →
      (∀ j oj, ops[j]? = some oj → j ≠ i → l.getD j true = false → (∀ e ∈ oj.after, Region.binds .any e = true → e.on ≠ i) → oi.apart ops oj = true) →
      i ∈ Region.ready .any ops l → YieldsIf P ops (fun _ => True) oi v a →
      AnyC P ops Q S m f (l.setIfInBounds i true) (a.put oi.dst v) w → AnyC P ops Q S m (f + 1) l a w := by
  induction f with
  | zero =>
    intro l a w hlm _ hr hy H
    refine ⟨fun h => absurd hr (by rw [h]; simp), fun j hj => ?_⟩
    by_cases e : j = i
    · subst e; exact hy.wpOp hi trivial ⟨fun h => (by rw [getD_other hne, hlm] at h; cases h), H⟩
    · have := ready_mono hj e
      rw [H.1] at this
      exact absurd this (by simp)
  | succ f ih =>
    intro l a w hlm hfree hr hy H
    refine ⟨fun h => absurd hr (by rw [h]; simp), fun j hj => ?_⟩
    by_cases e : j = i
    · subst e; exact hy.wpOp hi trivial ⟨fun h => (by rw [getD_other hne, hlm] at h; cases h), H⟩
    have hun := (mem_ready.1 hr).1
    obtain ⟨hjun, oj, hoj, hall⟩ := mem_ready.1 hj
    have hjm : j ≠ m := fun h => by
      subst h
      rw [getD_both hjun] at hlm
      cases hlm
    have hnot : ∀ x ∈ oj.after, Region.binds .any x = true → x.on ≠ i := fun x hx hb h => by
      have h1 := hall x hx hb
      rw [h, getD_both hun] at h1
      cases h1
    have hlm2 : (l.setIfInBounds j true).getD m false = true := by rw [getD_other hjm]; exact hlm
    refine wpOp_mono (fun a' w' k => ⟨fun h => (by rw [hlm2] at h; cases h), ?_⟩) (wpOp_putIf hoj (hfree j oj hoj e hjun hnot) (fun cs b => hsel i oi cs b hi) (fun cs b => hsel j oj cs b hoj) hQ hy (H.2 j (ready_mono hj e)))
    refine ih _ a' w' hlm2 (fun k' ok hk hki hkun hno => hfree k' ok hk hki ?_ hno) (ready_mono hr (Ne.symm e)) k.1 ?_
    · by_cases hjk : j = k'
      · subst hjk; exact hjun
      · rw [getD_set_ne true hjk] at hkun; exact hkun
    · rw [Array.setIfInBounds_comm _ _ e]
      exact k.2.2
theorem AnyC.take {i : Nat} {oi : Oper} {v : Value} {f : Nat} {l : Array Bool} {a : Act} {w : World} (hi : ops[i]? = some oi) (hs : Region.noSelect ops = true) (hf : Region.free .any ops l i = true) (hr : (Region.ready .any ops l).contains i = true)
    (hwait : Region.waitsFor .any ops m i = true) (hne : i ≠ m) (hlm : l.getD m false = false) (hQ : ∀ c a w, Q (.panic c) (a.put oi.dst v) w → Q (.panic c) a w) (hy : YieldsIf P ops S oi v a) (hS : S w)
    (h : AnyC P ops Q S m f (l.setIfInBounds i true) (a.put oi.dst v) w) : AnyC P ops Q S m (f + 1) l a w :=
  AnyC.first hi (Region.noSelect_spec hs) hwait hne hQ f l a w hlm (Region.free_spec hi hf) (by simpa using hr) hy hS h
theorem AnyC.take2 {i : Nat} {oi : Oper} {v : Value} {f : Nat} {l : Array Bool} {a : Act} {w : World} (hi : ops[i]? = some oi) (hs : Region.noSelect ops = true) (hf : Region.free .any ops l i = true) (hr : (Region.ready .any ops l).contains i = true)
    (hne : i ≠ m) (hlm : l.getD m false = true) (hQ : ∀ c a w, Q (.panic c) (a.put oi.dst v) w → Q (.panic c) a w) (hy : YieldsIf P ops (fun _ => True) oi v a)
    (h : AnyC P ops Q S m f (l.setIfInBounds i true) (a.put oi.dst v) w) : AnyC P ops Q S m (f + 1) l a w :=
  AnyC.later hi (Region.noSelect_spec hs) hne hQ f l a w hlm (Region.free_spec hi hf) (by simpa using hr) hy h
/-- The one that may come up. -/
theorem AnyC.one {i : Nat} {o : Oper} {f : Nat} {l : Array Bool} {a : Act} {w : World} (hr : Region.ready .any ops l = [i]) (ho : ops[i]? = some o)
    (h : ∀ K : Act → World → Prop, Shut (∀ a' w', ((l.setIfInBounds i true).getD m false = false → S w') → AnyC P ops Q S m f (l.setIfInBounds i true) a' w' → K a' w') → if Region.wanted o (yielded ops a.tmps) = true then Oper.wp P o a w K Q else K (a.put o.dst undef) w) :
    AnyC P ops Q S m (f + 1) l a w := by
  refine ⟨fun e => (by rw [hr] at e; cases e), fun j hj => ?_⟩
  rw [hr] at hj
  obtain rfl : j = i := by simpa using hj
  exact wpOp_step ho (fun K hK => h K (fun a' w' k1 k2 => hK a' w' ⟨k1, k2⟩))
theorem AnyC.done {l : Array Bool} {a : Act} {w : World} (hr : Region.ready .any ops l = []) (h : Q .normal a w) : ∀ f, AnyC P ops Q S m f l a w
  | 0 => ⟨hr, h⟩
  | _ + 1 => ⟨fun _ => h, by rw [hr]; simp⟩
theorem wp_region_till {id : Nat} {a : Act} {w : World} (S : World → Prop) (m : Nat) (hm : P.follows .mixedOrders = true) (h : AnyC P ops Q S m ops.size (Array.replicate ops.size false) a w.drew) : (Code.region id ops true).wp P Q a w :=
  wp_region_any hm (AnyC.any _ _ _ _ h)
end
end Go.Proofs.Ytnogmfpaipjdaaa
