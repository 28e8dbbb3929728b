/- Rows of elements of any type, that came in or that the call has made: read, made, stored into, put behind one another. No statement is proved here. -/
import Derived.Test.YtnogmfpaipjdaaaState
import Derived.Deep.MidRow
namespace Go.Proofs.Ytnogmfpaipjdaaa
open Go.RowKit
set_option linter.unusedVariables false
set_option linter.unusedSimpArgs false

theorem rangeAt_keep {w w' : World} {b o : Nat} {cs : List Value} (h : w.rangeAt b o cs) (hk : w'.heap[b]? = w.heap[b]?) : w'.rangeAt b o cs := fun j v hv => (World.cell?_of_block hk).trans (h j v hv)
/-- What an element is: its type, the type of its slices, how many cells and bytes it has, its cells, its zero value. -/
class Elt (α : Type) where
  ty : TypeId
  sl : TypeId
  sz : Nat
  by_ : Nat
  cs : α → List Value
  zv : Value
  len : ∀ x, (cs x).length = sz
  one : ∀ x, ∀ u ∈ cs x, u.oneCell' = true
  pos : 0 < sz
  und : Try.prog.underlying sl = some (.slice ty)
  inf : ∃ i, Try.prog.info? ty = some i ∧ i.zero = some zv ∧ i.size = sz ∧ i.bytes = by_
  zsz : zv.cells.size = sz
  few : by_ ≤ 1000
  low : sz ≤ 1000
variable {α : Type} [E : Elt α]
def ecells (xs : List α) : List Value := xs.flatMap Elt.cs
theorem ecells_nil : ecells ([] : List α) = [] := rfl
theorem ecells_length (xs : List α) : (ecells xs).length = xs.length * E.sz := by
  induction xs with
  | nil => simp [ecells]
  | cons m xs ih => simp only [ecells, List.flatMap_cons, List.length_append, List.length_cons] at ih ⊢; rw [ih, E.len m, Nat.add_mul, Nat.one_mul, Nat.add_comm]
theorem ecells_append (xs ys : List α) : ecells (xs ++ ys) = ecells xs ++ ecells ys := by simp [ecells]
theorem ecells_one (xs : List α) : ∀ u ∈ ecells xs, u.oneCell' = true := by
  intro u hu
  simp only [ecells, List.mem_flatMap] at hu
  obtain ⟨m, _, h⟩ := hu
  exact E.one m u h
theorem ecells_single (m : α) : ecells [m] = E.cs m := by simp [ecells]
theorem ecells_at (xs : List α) : ∀ (j : Nat) (m : α), xs[j]? = some m → ∀ (i : Nat) (v : Value), (E.cs m)[i]? = some v → (ecells xs)[j * E.sz + i]? = some v := by
  induction xs with
  | nil => intro j m h; simp at h
  | cons x xs ih =>
    intro j m hj i v hi
    simp only [ecells, List.flatMap_cons]
    have hi2 : i < (E.cs m).length := (List.getElem?_eq_some_iff.1 hi).1
    rw [E.len m] at hi2
    cases j with
    | zero =>
      simp only [List.getElem?_cons_zero, Option.some.injEq] at hj
      subst hj
      rw [List.getElem?_append_left (by rw [E.len x]; omega)]
      simpa using hi
    | succ j =>
      have e : (j + 1) * E.sz = j * E.sz + E.sz := by rw [Nat.add_mul, Nat.one_mul]
      rw [List.getElem?_append_right (by rw [E.len x]; omega), E.len x, show (j + 1) * E.sz + i - E.sz = j * E.sz + i by omega]
      exact ih j m (by simpa using hj) i v hi
/-- The slice value reads, in the world w, as the elements xs, and lies below block B. -/
def ERow (w : World) (B : Nat) (A : Option Addr) (n c : Nat) (xs : List α) : Prop :=
  xs.length = n ∧ n ≤ c ∧ c ≤ maxLen ∧ (A = none → c = 0) ∧
    (∀ a, A = some a → 0 < n → a.spot = none ∧ a.block < B ∧ ∀ j m, xs[j]? = some m → w.rangeAt a.block (a.off + j * E.sz) (E.cs m))
section
variable {w w' : World} {B B' n c : Nat} {A : Option Addr} {xs : List α}
theorem ERow.len (h : ERow w B A n c xs) : xs.length = n := h.1
theorem ERow.max (h : ERow w B A n c xs) : n ≤ 9223372036854775807 := by have h1 := h.2.1; have h2 := h.2.2.1; unfold maxLen at h2; omega
theorem ERow.at_ (h : ERow w B A n c xs) (j : Nat) (m : α) (hj : xs[j]? = some m) : ∃ b off, A = some ⟨b, off, none⟩ ∧ b < B ∧ w.rangeAt b (off + j * E.sz) (E.cs m) := by
  obtain ⟨h1, h2, h3, h4, h5⟩ := h
  have hj2 : j < xs.length := (List.getElem?_eq_some_iff.1 hj).1
  cases A with
  | none => have := h4 rfl; omega
  | some a =>
    obtain ⟨hs, hb, hc⟩ := h5 a rfl (by omega)
    obtain ⟨b, off, spot⟩ := a
    simp only at hs
    subst hs
    exact ⟨b, off, rfl, hb, hc j m hj⟩
theorem ERow.keep (h : ERow w B A n c xs) (hk : ∀ b, b < B → w'.heap[b]? = w.heap[b]?) : ERow w' B A n c xs := by
  obtain ⟨h1, h2, h3, h4, h5⟩ := h
  refine ⟨h1, h2, h3, h4, fun a ha hn => ?_⟩
  obtain ⟨hs, hb, hc⟩ := h5 a ha hn
  exact ⟨hs, hb, fun j m hj => rangeAt_keep (hc j m hj) (hk _ hb)⟩
theorem ERow.below (h : ERow w B A n c xs) (hb : Below B w w') : ERow w' B A n c xs := h.keep fun b hp => hb.block b hp
theorem ERow.wider (h : ERow w B A n c xs) (hB : B ≤ B') : ERow w B' A n c xs := by
  obtain ⟨h1, h2, h3, h4, h5⟩ := h
  refine ⟨h1, h2, h3, h4, fun a ha hn => ?_⟩
  obtain ⟨hs, hb, hc⟩ := h5 a ha hn
  exact ⟨hs, by omega, hc⟩
theorem ERow.nil_ (w : World) (B : Nat) : ERow w B none 0 0 ([] : List α) := ⟨rfl, Nat.le_refl _, by unfold maxLen; omega, fun _ => rfl, fun a ha => by cases ha⟩
/-- Without the first ones. -/
theorem ERow.drop (k : Nat) {b off : Nat} (h : ERow w B (some ⟨b, off, none⟩) n c xs) (hk : k ≤ n) : ERow w B (some ⟨b, off + k * E.sz, none⟩) (n - k) (c - k) (xs.drop k) := by
  obtain ⟨h1, h2, h3, h4, h5⟩ := h
  refine ⟨by simp [h1], by omega, by omega, (fun ha => by cases ha), fun a ha hn => ?_⟩
  injection ha with ha
  subst ha
  obtain ⟨hs, hb, hc⟩ := h5 _ rfl (by omega)
  refine ⟨rfl, hb, fun j m hj => ?_⟩
  rw [List.getElem?_drop] at hj
  have := hc (k + j) m hj
  simp only at this ⊢
  rwa [show off + k * E.sz + j * E.sz = off + (k + j) * E.sz by rw [Nat.add_mul]; omega]
/-- Only the first ones. -/
theorem ERow.take (k : Nat) (h : ERow w B A n c xs) (hk : k ≤ n) : ERow w B A k c (xs.take k) := by
  obtain ⟨h1, h2, h3, h4, h5⟩ := h
  refine ⟨by simp [h1]; omega, by omega, by omega, h4, fun a ha hn => ?_⟩
  obtain ⟨hs, hb, hc⟩ := h5 a ha (by omega)
  refine ⟨hs, hb, fun j m hj => ?_⟩
  rw [List.getElem?_take] at hj
  split at hj
  · exact hc j m hj
  · cases hj
theorem ERow.flat (h : ERow w B A n c xs) {a : Addr} (ha : A = some a) : ∀ j u, (ecells xs)[j]? = some u → w.cell? (a.add j) = some u := by
  intro j u hu
  have hj := (List.getElem?_eq_some_iff.1 hu).1
  rw [ecells_length] at hj
  have hp := E.pos
  have hq : j / E.sz < xs.length := Nat.div_lt_of_lt_mul (by rw [Nat.mul_comm]; exact hj)
  have hm : xs[j / E.sz]? = some xs[j / E.sz] := List.getElem?_eq_getElem hq
  obtain ⟨b, off, he, hb, hr⟩ := h.at_ _ _ hm
  rw [ha] at he
  injection he with he
  subst he
  have hlt : j % E.sz < (E.cs xs[j / E.sz]).length := by rw [E.len]; exact Nat.mod_lt _ hp
  have h2 := ecells_at xs _ _ hm (j % E.sz) _ (List.getElem?_eq_getElem hlt)
  have e : j / E.sz * E.sz + j % E.sz = j := by rw [Nat.mul_comm]; exact Nat.div_add_mod j E.sz
  rw [e, hu] at h2
  injection h2 with h2
  rw [h2, Addr.add_lit]
  have := hr (j % E.sz) _ (List.getElem?_eq_getElem hlt)
  rwa [show off + j / E.sz * E.sz + j % E.sz = off + j by omega] at this
end
/-- A slice value of the call's own: nil, or the head of a block of just this kind; it reads as the elements xs; its block is all of M. -/
def RL (v : Value) (xs : List α) (M : Blks) : Prop :=
  (v = .slice none 0 0 ∧ xs = [] ∧ M = []) ∨ ∃ b cap cur, v = .slice (some ⟨b, 0, none⟩) xs.length cap ∧ M = [(b, C E.ty cur)] ∧ xs.length ≤ cap ∧ cap ≤ maxLen ∧ cur.size = cap * E.sz ∧ cur.toList.take (xs.length * E.sz) = ecells xs
section
variable {w W W' : World} {v v' : Value} {xs ys : List α} {M L : Blks}
theorem RL.nil_ : RL (.slice none 0 0) ([] : List α) [] := .inl ⟨rfl, rfl, rfl⟩
theorem RL.form (h : RL v xs M) : ∃ A c, v = .slice A xs.length c ∧ (A = none → xs = [] ∧ c = 0) := by
  rcases h with ⟨rfl, rfl, rfl⟩ | ⟨b, cap, cur, rfl, _⟩
  · exact ⟨none, 0, rfl, fun _ => ⟨rfl, rfl⟩⟩
  · exact ⟨_, _, rfl, fun h => by cases h⟩
theorem RL.owns (h : RL v xs M) (hs : St w W (M ++ L)) : W.ownsRow w.heap.size E.ty E.sz v xs.length (ecells xs) := by
  refine ⟨ecells_length xs, ?_⟩
  rcases h with ⟨rfl, rfl, rfl⟩ | ⟨b, cap, cur, rfl, rfl, h1, h2, h3, h4⟩
  · exact .inl ⟨rfl, rfl⟩
  · exact .inr ⟨b, cap, cur, rfl, hs.lo (b, C E.ty cur) (by simp), hs.get 0 rfl, h1, h2, h3, h4⟩
theorem RL.row (h : RL v xs M) (hs : St w W (M ++ L)) {A : Option Addr} {n c : Nat} (hv : v = .slice A n c) : ERow W W.heap.size A n c xs := by
  rcases h with ⟨rfl, rfl, rfl⟩ | ⟨b, cap, cur, rfl, rfl, h1, h2, h3, h4⟩
  · injection hv with e1 e2 e3
    subst e1; subst e2; subst e3
    exact ERow.nil_ _ _
  · injection hv with e1 e2 e3
    subst e1; subst e2; subst e3
    have hA : At W b E.ty cur := hs.get 0 rfl
    refine ⟨rfl, h1, h2, (fun h => by cases h), fun a ha hn => ?_⟩
    injection ha with ha
    subst ha
    refine ⟨rfl, hA.lt, fun j m hj i u hi => ?_⟩
    rw [hA.cell, Nat.zero_add]
    have hx := ecells_at xs j m hj i u hi
    rw [← h4] at hx
    rw [List.getElem?_take] at hx
    split at hx
    · simpa using hx
    · cases hx
theorem RL.blk_ne (h : RL v xs M) (hs : St w W (M ++ L)) : ∀ x ∈ L, v.ownBlock ≠ some x.1 := by
  intro x hx
  rcases h with ⟨rfl, rfl, rfl⟩ | ⟨b, cap, cur, rfl, rfl, h1, h2, h3, h4⟩
  · simp [Value.ownBlock]
  · have := hs.nd
    rw [List.pairwise_append] at this
    have := this.2.2 (b, C E.ty cur) (by simp) x hx
    simpa [Value.ownBlock] using this
theorem RL.blk_lo (h : RL v xs M) (hs : St w W (M ++ L)) : ∀ k, v.ownBlock = some k → w.heap.size ≤ k := by
  intro k hk
  rcases h with ⟨rfl, rfl, rfl⟩ | ⟨b, cap, cur, rfl, rfl, h1, h2, h3, h4⟩
  · cases hk
  · injection hk with hk
    subst hk
    exact hs.lo (b, C E.ty cur) (by simp)
/-- What a row is behind an append. -/
theorem RL.back (h : RL v xs M) (hs : St w W (M ++ L)) (ho : W'.ownsRow w.heap.size E.ty E.sz v' ys.length (ecells ys)) (hg : W.grownBy W' v.ownBlock) (hat : v'.ownBlock = v.ownBlock ∨ v'.ownBlock = some W.heap.size) :
    ∃ M', RL v' ys M' ∧ St w W' (M' ++ L) := by
  have hL : St w W' L := (hs.sub (List.sublist_append_right M L)).grown hg (h.blk_ne hs) (h.blk_lo hs)
  rcases ho.2 with ⟨rfl, h0⟩ | ⟨g, cap, cur, rfl, hb, hgc, h1, h2, h3, h4⟩
  · have : ys = [] := List.eq_nil_of_length_eq_zero h0
    subst this
    exact ⟨[], .nil_, hL⟩
  · refine ⟨[(g, C E.ty cur)], .inr ⟨g, cap, cur, rfl, rfl, h1, h2, h3, h4⟩, ?_, ?_, ?_, hL.bel⟩
    · intro x hx
      rcases List.mem_cons.1 hx with rfl | hx
      · exact hgc
      · exact hL.at_ x hx
    · intro x hx
      rcases List.mem_cons.1 hx with rfl | hx
      · exact hb
      · exact hL.lo x hx
    · refine List.Pairwise.cons (fun x hx => ?_) hL.nd
      simp only
      intro e
      rcases hat with hat | hat
      · exact h.blk_ne hs x hx (by rw [← hat, e]; rfl)
      · have hx2 := heap_lt ((hs.sub (List.sublist_append_right M L)).at_ x hx)
        have : g = W.heap.size := by simpa [Value.ownBlock] using hat
        omega
/-- Elements are put behind others. -/
theorem run_append_rl (h : RL v xs M) (hs : St w W (M ++ L)) {B k c : Nat} {A : Option Addr} (hr : ERow W B A k c ys) (hl : xs.length + k ≤ 100000) (ty : TypeId) :
    ∃ v' W' M', (Builtin.append_ #[E.sl, E.sl] ty #[v, .slice A k c]).run Try.prog W = .ok v' W' ∧ RL v' (xs ++ ys) M' ∧ St w W' (M' ++ L) ∧ Below w.heap.size w W' := by
  obtain ⟨i, hi, hz, h1, h2⟩ := E.inf
  cases A with
  | none =>
    have hc := hr.2.2.2.1 rfl
    subst hc
    have hk : k = 0 := by have := hr.2.1; omega
    subst hk
    have hy : ys = [] := List.eq_nil_of_length_eq_zero hr.1
    subst hy
    rw [List.append_nil]
    exact ⟨v, W, M, run_append_owned_none (P := Try.prog) (w := W) w.heap.size E.sl ty E.ty i E.sz E.und hi v xs.length (ecells xs) (h.owns hs), h, hs, hs.bel⟩
  | some a =>
    have hlen := hr.len
    have hf := E.few
    obtain ⟨v', W', hrun, ho, hg, _, hat⟩ := run_append_own_at (P := Try.prog) W w.heap.size E.sl ty E.ty i E.zv E.sz E.by_ E.und hi hz h1 h2 E.zsz E.pos v xs.length (ecells xs) (h.owns hs) a k c (ecells ys) (by rw [ecells_length, hlen]) (hr.flat rfl) (ecells_one ys) (by unfold maxLen; omega)
      (Nat.le_trans (Nat.mul_le_mul_right _ hl) (Nat.le_trans (Nat.mul_le_mul_left _ hf) (by omega))) hs.bel.size
    have e : xs.length + k = (xs ++ ys).length := by rw [List.length_append, hlen]
    rw [e, ← ecells_append] at ho
    obtain ⟨M', h3, h4⟩ := h.back hs ho hg hat
    exact ⟨v', W', M', hrun, h3, h4, h4.bel⟩
end
section
variable {ops : Array Oper} {rest : List Oper} {o : Oper} {a : Act} {w W : World} {K : Act → World → Prop} {Q : Exit → Act → World → Prop} {L M : Blks} {v : Value} {xs ys : List α}
theorem wp_append_rl (h : RL v xs M) (hs : St w W (M ++ L)) {B k c : Nat} {A : Option Addr} (hr : ERow W B A k c ys) (s x : Operand) (ho : o.op = .call { callee := .builtin .append, args := #[s, x], argTypes := #[E.sl, E.sl] })
    (hsv : a.eval s = v) (hx : a.eval x = .slice A k c) (hl : xs.length + k ≤ 100000)
    (kk : ∀ v' W' M', RL v' (xs ++ ys) M' → St w W' (M' ++ L) → K (a.put o.dst v') W') : o.wp Try.prog a W K Q := by
  obtain ⟨v', W', M', hrun, h2, h3, h4⟩ := run_append_rl h hs hr hl o.type
  unfold Oper.wp execOp
  simp only [ho, resolve, invoke, builtin, Sem.run_bind, Sem.run_pure, Result.andThen_ok, List.map_toArray, List.map_cons, List.map_nil, hsv, hx, hrun]
  exact kk _ _ _ h2 h3
theorem wpList_append_rl (h : RL v xs M) (hs : St w W (M ++ L)) {B k c : Nat} {A : Option Addr} (hr : ERow W B A k c ys) (s x : Operand) (ho : o.op = .call { callee := .builtin .append, args := #[s, x], argTypes := #[E.sl, E.sl] }) (hw : Region.wanted o (yielded ops a.tmps) = true)
    (hsv : a.eval s = v) (hx : a.eval x = .slice A k c) (hl : xs.length + k ≤ 100000)
    (kk : ∀ v' W' M', RL v' (xs ++ ys) M' → St w W' (M' ++ L) → wpList Try.prog ops Q rest (a.put o.dst v') W') : wpList Try.prog ops Q (o :: rest) a W := by
  unfold wpList
  rw [if_pos hw]
  exact .inl (wp_append_rl h hs hr s x ho hsv hx hl kk)
/-- A cell of a block of the call's own is stored into. -/
theorem wp_cell_st (h : St w W L) (i : Nat) {g : Nat} {t : TypeId} {arr : Array Value} (hi : L[i]? = some (g, C t arr)) (ty : TypeId) (x y : Operand) (ho : o.op = .store ty x y)
    (m : Nat) (u : Value) (hx : a.eval x = .pointer (some ⟨g, m, none⟩)) (hy : a.eval y = u) (hm : m < arr.size) (hv : u.cells = #[u]) (h1 : u.oneCell' = true) (hs : (Try.prog.info? ty).map (·.size) = some 1)
    (k : ∀ W', St w W' (L.set i (g, C t (arr.setIfInBounds m u))) → K (a.put o.dst undef) W') : o.wp Try.prog a W K Q := by
  have hA : At W g t arr := h.get i hi
  unfold Oper.wp execOp
  simp only [ho, hx, hy, Instr.storeAt, Instr.sureAddr, Sem.run_bind, Sem.run_pure, Result.andThen_ok, run_storeVar_one' W g m ty u hv h1 (by rw [hA.cell m, Array.getElem?_eq_getElem hm]; rfl) (hA.frozen m) hs]
  exact k _ (h.put i hi (hA.set m u) (grown_setCell W g m u))
end
end Go.Proofs.Ytnogmfpaipjdaaa
