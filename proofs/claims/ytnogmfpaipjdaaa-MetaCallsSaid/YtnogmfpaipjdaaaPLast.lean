/- A region that draws its order, whose last operation waits for all others: what is held of the world need not hold behind that one. No statement is proved here. -/
import Derived.Test.YtnogmfpaipjdaaaPCheck
import Derived.StillTail
namespace Go.Proofs.Ytnogmfpaipjdaaa.P
open Go.RowKit
set_option linter.unusedVariables false

section
variable {P : Program} {ops : Array Oper} {Q : Exit → Act → World → Prop} {S : World → Prop} {m : Nat}

/-- Whatever order is picked from here on; behind each operation but number m the world meets S. -/
def AnyT (P : Program) (ops : Array Oper) (Q : Exit → Act → World → Prop) (S : World → Prop) (m : Nat) : Nat → Array Bool → Act → World → Prop
  | 0, l, a, w => Region.ready .any ops l = [] ∧ Q .normal a w
  | f + 1, l, a, w => (Region.ready .any ops l = [] → Q .normal a w) ∧
      ∀ i ∈ Region.ready .any ops l, wpOp P ops Q i (fun a' w' => (i ≠ m → S w') ∧ AnyT P ops Q S m f (l.setIfInBounds i true) a' w') a w

theorem AnyT.any : ∀ (f : Nat) (l : Array Bool) (a : Act) (w : World), AnyT P ops Q S m f l a w → wpAny P .any ops Q f l a w
  | 0, _, _, _, h => h
  | f + 1, _, _, _, h => ⟨h.1, fun i hi => wpOp_mono (fun a' w' k => AnyT.any f _ a' w' k.2) (h.2 i hi)⟩

/-- Number m can't come up while number i hasn't. -/
theorem last_waits {i : Nat} (h : Region.waitsFor .any ops m i = true) {l : Array Bool} (hm : m ∈ Region.ready .any ops l) : l.getD i false = true := by
  obtain ⟨o, ho, e, he, hb, rfl⟩ := Region.waitsFor_spec h
  obtain ⟨_, o', ho', hall⟩ := mem_ready.1 hm
  obtain rfl : o' = o := Option.some.inj (ho'.symm.trans ho)
  exact hall e he hb

theorem AnyT.first {i : Nat} {oi : Oper} {v : Value} (hi : ops[i]? = some oi) (hsel : ∀ (j : Nat) (o : Oper) cs b, ops[j]? = some o → o.op ≠ .select cs b) (hwait : i ≠ m → Region.waitsFor .any ops m i = true) (hne : i ≠ m)
    (hQ : ∀ c a w, Q (.panic c) (a.put oi.dst v) w → Q (.panic c) a w) (f : Nat) : ∀ (l : Array Bool) (a : Act) (w : World),
      (∀ j oj, ops[j]? = some oj → j ≠ i → l.getD j true = false → (∀ e ∈ oj.after, Region.binds .any e = true → e.on ≠ i) → oi.apart ops oj = true) →
      i ∈ Region.ready .any ops l → YieldsIf P ops S oi v a → S w →
      AnyT P ops Q S m f (l.setIfInBounds i true) (a.put oi.dst v) w → AnyT P ops Q S m (f + 1) l a w := by
  induction f with
  | zero =>
    intro l a w _ hr hy hS H
    refine ⟨fun h => absurd hr (by rw [h]; simp), fun j hj => ?_⟩
    by_cases e : j = i
    · subst e; exact hy.wpOp hi hS ⟨fun _ => hS, H⟩
    · have := ready_mono hj e
      rw [H.1] at this
      exact absurd this (by simp)
  | succ f ih =>
    intro l a w hfree hr hy hS H
    refine ⟨fun h => absurd hr (by rw [h]; simp), fun j hj => ?_⟩
    by_cases e : j = i
    · subst e; exact hy.wpOp hi hS ⟨fun _ => hS, H⟩
    have hun := (mem_ready.1 hr).1
    have hjm : j ≠ m := fun h => by
      subst h
      have h1 := last_waits (hwait hne) hj
      rw [getD_both hun] at h1
      cases h1
    obtain ⟨hjun, oj, hoj, hall⟩ := mem_ready.1 hj
    have hnot : ∀ x ∈ oj.after, Region.binds .any x = true → x.on ≠ i := fun x hx hb h => by
      have h1 := hall x hx hb
      rw [h, getD_both hun] at h1
      cases h1
    refine wpOp_mono (fun a' w' k => ⟨k.2.1, ?_⟩) (wpOp_putIf hoj (hfree j oj hoj e hjun hnot) (fun cs b => hsel i oi cs b hi) (fun cs b => hsel j oj cs b hoj) hQ hy (H.2 j (ready_mono hj e)))
    refine ih _ a' w' (fun k' ok hk hki hkun hno => hfree k' ok hk hki ?_ hno) (ready_mono hr (Ne.symm e)) k.1 (k.2.1 hjm) ?_
    · by_cases hjk : j = k'
      · subst hjk; exact hjun
      · rw [getD_set_ne true hjk] at hkun; exact hkun
    · rw [Array.setIfInBounds_comm _ _ e]
      exact k.2.2

theorem AnyT.take {i : Nat} {oi : Oper} {v : Value} {f : Nat} {l : Array Bool} {a : Act} {w : World} (hi : ops[i]? = some oi) (hs : Region.noSelect ops = true) (hf : Region.free .any ops l i = true) (hr : (Region.ready .any ops l).contains i = true)
    (hwait : Region.waitsFor .any ops m i = true) (hne : i ≠ m) (hQ : ∀ c a w, Q (.panic c) (a.put oi.dst v) w → Q (.panic c) a w) (hy : YieldsIf P ops S oi v a) (hS : S w)
    (h : AnyT P ops Q S m f (l.setIfInBounds i true) (a.put oi.dst v) w) : AnyT P ops Q S m (f + 1) l a w :=
  AnyT.first hi (Region.noSelect_spec hs) (fun _ => hwait) hne hQ f l a w (Region.free_spec hi hf) (by simpa using hr) hy hS h
/-- The one that may come up. -/
theorem AnyT.one {i : Nat} {o : Oper} {f : Nat} {l : Array Bool} {a : Act} {w : World} (hr : Region.ready .any ops l = [i]) (ho : ops[i]? = some o)
    (h : ∀ K : Act → World → Prop, Shut (∀ a' w', (i ≠ m → S w') → AnyT P ops Q S m f (l.setIfInBounds i true) a' w' → K a' w') → if Region.wanted o (yielded ops a.tmps) = true then Oper.wp P o a w K Q else K (a.put o.dst undef) w) :
    AnyT P ops Q S m (f + 1) l a w := by
  refine ⟨fun e => (by rw [hr] at e; cases e), fun j hj => ?_⟩
  rw [hr] at hj
  obtain rfl : j = i := by simpa using hj
  exact wpOp_step ho (fun K hK => h K (fun a' w' k1 k2 => hK a' w' ⟨k1, k2⟩))
theorem AnyT.done {l : Array Bool} {a : Act} {w : World} (hr : Region.ready .any ops l = []) (h : Q .normal a w) : ∀ f, AnyT P ops Q S m f l a w
  | 0 => ⟨hr, h⟩
  | _ + 1 => ⟨fun _ => h, by rw [hr]; simp⟩
theorem wp_region_last {id : Nat} {a : Act} {w : World} (S : World → Prop) (m : Nat) (hm : P.follows .mixedOrders = true) (h : AnyT P ops Q S m ops.size (Array.replicate ops.size false) a w.drew) : (Code.region id ops true).wp P Q a w :=
  wp_region_any hm (AnyT.any _ _ _ _ h)
/-- A number is stored: the operation by itself. -/
theorem wp_store_num {o : Oper} {a : Act} {W : World} {K : Act → World → Prop} {Q : Exit → Act → World → Prop} {g i : Nat} {n : Int} (x y : Operand) (ho : o.op = .store 3 x y) (hx : a.eval x = .pointer (some ⟨g, i, none⟩)) (hy : a.eval y = .int .i64 n)
    (hc : (W.cell? ⟨g, i, none⟩).isSome = true) (hf : W.frozen? ⟨g, i, none⟩ = false) (k : K (a.put o.dst undef) (W.setCell ⟨g, i, none⟩ (.int .i64 n))) : o.wp Try.prog a W K Q := by
  unfold Oper.wp execOp
  simp only [ho, hx, hy, Instr.storeAt, Instr.sureAddr, Sem.run_bind, Sem.run_pure, Result.andThen_ok, run_storeVar_one' W g i 3 (.int .i64 n) rfl rfl hc hf sz3]
  exact k
end
end Go.Proofs.Ytnogmfpaipjdaaa.P
