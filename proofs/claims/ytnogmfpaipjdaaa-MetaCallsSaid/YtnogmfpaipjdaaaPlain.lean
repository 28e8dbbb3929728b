/- What is cached, as one list in the order of its use, and how calls change it: plain facts. No statement is proved here. -/
import Derived.Test.YtnogmfpaipjdaaaCache
import Derived.Test.YtnogmfpaipjdaaaPReg2
namespace Go.Proofs.Ytnogmfpaipjdaaa
open P (Pl right hasI)
set_option linter.unusedVariables false
set_option linter.unusedSimpArgs false

/-- How many banks there are. -/
def nb (p : Pl) : Nat := p.ba.toNat
/-- What is cached of a bank, in its order. -/
def bkL (l : List Cd) (i : Nat) : List Cd := l.filter (fun c => c.bk == (i : Int))
def bankC (p : Pl) (l : List Cd) : Cs := (List.range (nb p)).map (bkL l)
def isIt (p : Pl) (x : It) : Bool := hasI p x.l x.x
theorem nb_facts {p : Pl} (h : right p = true) : 1 ≤ nb p ∧ nb p ≤ 4 ∧ p.ba = (nb p : Int) := by
  have h1 := ((P.shaped_iff p).1 (P.right_facts h).2.1).2.2.2
  unfold nb
  omega
theorem bankC_len (p : Pl) (l : List Cd) : (bankC p l).length = nb p := by simp [bankC]
theorem bankC_at (p : Pl) (l : List Cd) (i : Nat) (h : i < nb p) : (bankC p l)[i]? = some (bkL l i) := by simp [bankC, h]
theorem bankC_get (p : Pl) (l : List Cd) (i : Nat) (h : i < nb p) : (bankC p l).getD i [] = bkL l i := by
  rw [List.getD_eq_getElem?_getD, bankC_at p l i h]; rfl
theorem bankC_set (p : Pl) (l l' : List Cd) (i : Nat) (ys : List Cd) (h : i < nb p) (h1 : ∀ j, j < nb p → j ≠ i → bkL l' j = bkL l j) (h2 : bkL l' i = ys) : (bankC p l).set i ys = bankC p l' := by
  apply List.ext_getElem?
  intro j
  by_cases e : i = j
  · subst e
    rw [List.getElem?_set_self (by rw [bankC_len]; exact h), bankC_at p l' i h, h2]
  · rw [List.getElem?_set_ne e]
    by_cases hj : j < nb p
    · rw [bankC_at p l j hj, bankC_at p l' j hj, h1 j hj (Ne.symm e)]
    · rw [List.getElem?_eq_none (by rw [bankC_len]; omega), List.getElem?_eq_none (by rw [bankC_len]; omega)]
def findC (l : List Cd) (x : It) : Option Cd := l.find? (fun c => decide (c.it = x))
def getC (l : List Cd) (x : It) : Cd := (findC l x).getD zcd
def remL (l : List Cd) (x : It) : List Cd := l.filter (fun c => !decide (c.it = x))
def useL (l : List Cd) (c : Cd) : List Cd := remL l c.it ++ [c]
structure Inv (p : Pl) (l : List Cd) : Prop where
  rt : right p = true
  bk : ∀ c ∈ l, 0 ≤ c.bk ∧ c.bk < p.ba
  it : ∀ c ∈ l, isIt p c.it = true
  nd : (l.map (·.it)).Nodup
theorem Inv.nil {p : Pl} (h : right p = true) : Inv p [] := ⟨h, fun c hc => (by cases hc), fun c hc => (by cases hc), by simp⟩
section
variable {p : Pl} {l : List Cd} {x : It} {c d : Cd}
theorem findC_some (h : findC l x = some c) : c ∈ l ∧ c.it = x := by
  refine ⟨List.mem_of_find?_eq_some h, ?_⟩
  have := List.find?_some h
  simpa using this
theorem findC_none : findC l x = none ↔ ∀ c ∈ l, c.it ≠ x := by
  unfold findC
  rw [List.find?_eq_none]
  simp
theorem nd_eq (h : (l.map (·.it)).Nodup) {c d : Cd} (hc : c ∈ l) (hd : d ∈ l) (e : c.it = d.it) : c = d := by
  induction l with
  | nil => cases hc
  | cons y l ih =>
    rw [List.map_cons, List.nodup_cons] at h
    rcases List.mem_cons.1 hc with e1 | h1
    · rcases List.mem_cons.1 hd with e2 | h2
      · rw [e1, e2]
      · exact absurd (List.mem_map.2 ⟨d, h2, by rw [← e, e1]⟩) h.1
    · rcases List.mem_cons.1 hd with e2 | h2
      · exact absurd (List.mem_map.2 ⟨c, h1, by rw [e, e2]⟩) h.1
      · exact ih h.2 h1 h2
theorem findC_mem (h : (l.map (·.it)).Nodup) (hc : c ∈ l) : findC l c.it = some c := by
  cases hf : findC l c.it with
  | none => exact absurd rfl ((findC_none.1 hf) c hc)
  | some d =>
    obtain ⟨h1, h2⟩ := findC_some hf
    rw [nd_eq h h1 hc h2]
theorem mem_bkL {i : Nat} : c ∈ bkL l i ↔ c ∈ l ∧ c.bk = (i : Int) := by
  unfold bkL
  rw [List.mem_filter]
  simp
theorem bkL_nd (h : (l.map (·.it)).Nodup) (i : Nat) : ((bkL l i).map (·.it)).Nodup := h.sublist (List.filter_sublist.map _)
theorem remL_none (h : findC l x = none) : remL l x = l := by
  unfold remL
  exact List.filter_eq_self.2 (fun y hy => by have := findC_none.1 h y hy; simpa using this)
theorem bkL_rem (l : List Cd) (x : It) (i : Nat) : bkL (remL l x) i = remL (bkL l i) x := by
  unfold bkL remL
  rw [List.filter_filter, List.filter_filter]
  congr 1
  funext e
  rw [Bool.and_comm]
theorem split_at {xs : List Cd} {i : Nat} {x : Cd} (h : xs[i]? = some x) : xs = xs.take i ++ x :: xs.drop (i + 1) := by
  obtain ⟨hi, rfl⟩ := List.getElem?_eq_some_iff.1 h
  rw [← List.drop_eq_getElem_cons hi, List.take_append_drop]
/-- One is taken out at its place. -/
theorem cut_rem {xs : List Cd} {i : Nat} (hn : (xs.map (·.it)).Nodup) (h : xs[i]? = some c) : xs.take i ++ xs.drop (i + 1) = remL xs c.it := by
  have e := split_at h
  rw [e, List.map_append, List.map_cons, List.nodup_append, List.nodup_cons] at hn
  have h1 : ∀ y ∈ xs.take i, y.it ≠ c.it := fun y hy => hn.2.2 _ (List.mem_map_of_mem hy) _ List.mem_cons_self
  have h2 : ∀ y ∈ xs.drop (i + 1), y.it ≠ c.it := fun y hy hyk => hn.2.1.1 (by rw [← hyk]; exact List.mem_map_of_mem hy)
  conv => rhs; rw [e]
  unfold remL
  rw [List.filter_append, List.filter_cons, if_neg (by simp), List.filter_eq_self.2 (fun y hy => by simpa using h1 y hy), List.filter_eq_self.2 (fun y hy => by simpa using h2 y hy)]
theorem bkL_other (h : Inv p l) (hf : findC l x = some c) (i : Nat) (hi : (i : Int) ≠ c.bk) : bkL (remL l x) i = bkL l i := by
  rw [bkL_rem]
  refine remL_none (findC_none.2 fun y hy e => ?_)
  obtain ⟨h1, h2⟩ := mem_bkL.1 hy
  obtain ⟨h3, h4⟩ := findC_some hf
  rw [nd_eq h.nd h1 h3 (e.trans h4.symm)] at h2
  exact hi h2.symm
theorem Inv.rem (h : Inv p l) (x : It) : Inv p (remL l x) :=
  ⟨h.rt, fun c hc => h.bk c (List.mem_filter.1 hc).1, fun c hc => h.it c (List.mem_filter.1 hc).1, h.nd.sublist (List.filter_sublist.map _)⟩
theorem remL_not (l : List Cd) (x : It) : ∀ y ∈ remL l x, y.it ≠ x := fun y hy => by simpa using (List.mem_filter.1 hy).2
theorem Inv.use (h : Inv p l) (hb : 0 ≤ c.bk ∧ c.bk < p.ba) (hi : isIt p c.it = true) : Inv p (useL l c) := by
  have hr := h.rem c.it
  unfold useL
  refine ⟨h.rt, fun y hy => ?_, fun y hy => ?_, ?_⟩
  · rcases List.mem_append.1 hy with hy | hy
    · exact hr.bk y hy
    · rw [List.mem_singleton] at hy; subst hy; exact hb
  · rcases List.mem_append.1 hy with hy | hy
    · exact hr.it y hy
    · rw [List.mem_singleton] at hy; subst hy; exact hi
  · rw [List.map_append, List.nodup_append]
    refine ⟨hr.nd, by simp, fun a ha b hb => ?_⟩
    simp only [List.map_cons, List.map_nil, List.mem_singleton] at hb
    subst hb
    obtain ⟨y, hy, rfl⟩ := List.mem_map.1 ha
    exact remL_not l _ y hy
theorem bkL_append (l : List Cd) (c : Cd) (i : Nat) : bkL (l ++ [c]) i = bkL l i ++ (if c.bk = (i : Int) then [c] else []) := by
  unfold bkL
  rw [List.filter_append, List.filter_cons, List.filter_nil]
  by_cases h : c.bk = (i : Int)
  · simp [h]
  · simp [h]
theorem remL_len (l : List Cd) (x : It) : (remL l x).length ≤ l.length := List.length_filter_le _ _
theorem useL_len (l : List Cd) (c : Cd) : (useL l c).length ≤ l.length + 1 := by
  unfold useL
  have := remL_len l c.it
  simp; omega
theorem useL_len_in (h : Inv p l) (hf : findC l c.it = some d) : (useL l c).length ≤ l.length := by
  unfold useL
  obtain ⟨h1, h2⟩ := findC_some hf
  have : (remL l c.it).length < l.length := by
    unfold remL
    refine List.length_filter_lt_length_iff_exists.2 ⟨d, h1, by simp [h2]⟩
  simp; omega
theorem bkL_len (l : List Cd) (i : Nat) : (bkL l i).length ≤ l.length := List.length_filter_le _ _
/-- How much room a bank's cache has. -/
def roomV (p : Pl) (l : List Cd) (b : Int) : Int := if 0 ≤ b ∧ b < p.ba then p.me - ((bkL l b.toNat).length : Int) else 0
def hasB (p : Pl) (b : Int) : Bool := decide (0 ≤ b) && decide (b < p.ba)
theorem hasB_iff (p : Pl) (b : Int) : hasB p b = true ↔ 0 ≤ b ∧ b < p.ba := by simp [hasB]
def putK (p : Pl) (l : List Cd) (b : Int) (x : It) : Int := if hasB p b && isIt p x then (if (findC l x).isSome then 7 else if roomV p l b = 0 then 5 else 0) else 2
def putL (p : Pl) (l : List Cd) (b : Int) (x : It) (c : Cd) : List Cd := if putK p l b x = 0 then l ++ [c] else l
def drpK (l : List Cd) (x : It) : Int := if (findC l x).isSome then 0 else 6
def updL (l : List Cd) (x : It) (bs : List Nat) (hl : bs.length = 32) : List Cd := match findC l x with
  | some c => useL l { c with bs := bs, dt := true, hl := hl }
  | none => l
def movK (p : Pl) (l : List Cd) (x : It) (b : Int) : Int := if hasB p b then (match findC l x with
  | some c => if c.bk ≠ b ∧ roomV p l b = 0 then 5 else 0
  | none => 6) else 2
def movL (p : Pl) (l : List Cd) (x : It) (b : Int) : List Cd := match findC l x with
  | some c => if movK p l x b = 0 then useL l { c with bk := b } else l
  | none => l
theorem putK_some {b : Int} (h : putK p l b x = 0) : hasB p b = true ∧ isIt p x = true ∧ findC l x = none := by
  unfold putK at h
  split at h
  · rename_i hb
    rw [Bool.and_eq_true] at hb
    split at h
    · omega
    · rename_i hs
      exact ⟨hb.1, hb.2, by simpa using hs⟩
  · omega
theorem Inv.put (h : Inv p l) {b : Int} (e1 : c.it = x) (e2 : c.bk = b) : Inv p (putL p l b x c) := by
  unfold putL
  split
  · rename_i h0
    obtain ⟨h1, h2, h3⟩ := putK_some h0
    subst e1; subst e2
    have := h.use (c := c) ((hasB_iff p _).1 h1) h2
    unfold useL at this
    rwa [remL_none h3] at this
  · exact h
theorem Inv.upd (h : Inv p l) (bs : List Nat) (hl : bs.length = 32) : Inv p (updL l x bs hl) := by
  unfold updL
  cases hf : findC l x with
  | none => exact h
  | some c =>
    obtain ⟨h1, h2⟩ := findC_some hf
    exact h.use (c := { c with bs := bs, dt := true, hl := hl }) (h.bk c h1) (h.it c h1)
theorem movK_b {b : Int} (h : movK p l x b = 0) : hasB p b = true := by
  unfold movK at h
  split at h
  · assumption
  · omega
theorem Inv.mov (h : Inv p l) (b : Int) : Inv p (movL p l x b) := by
  unfold movL
  cases hf : findC l x with
  | none => exact h
  | some c =>
    simp only
    split
    · rename_i h0
      obtain ⟨h1, h2⟩ := findC_some hf
      exact h.use (c := { c with bk := b }) ((hasB_iff p _).1 (movK_b h0)) (h.it c h1)
    · exact h
theorem putL_len (b : Int) : (putL p l b x c).length ≤ l.length + 1 := by
  unfold putL
  split <;> simp
theorem updL_len (h : Inv p l) (bs : List Nat) (hl : bs.length = 32) : (updL l x bs hl).length ≤ l.length := by
  unfold updL
  cases hf : findC l x with
  | none => simp
  | some c =>
    have e := (findC_some hf).2
    exact useL_len_in (c := { c with bs := bs, dt := true, hl := hl }) (d := c) h (by rw [← hf, ← e])
theorem movL_len (h : Inv p l) (b : Int) : (movL p l x b).length ≤ l.length := by
  unfold movL
  cases hf : findC l x with
  | none => simp
  | some c =>
    simp only
    split
    · have e := (findC_some hf).2
      exact useL_len_in (c := { c with bk := b }) (d := c) h (by rw [← hf, ← e])
    · exact Nat.le_refl _
end
end Go.Proofs.Ytnogmfpaipjdaaa
