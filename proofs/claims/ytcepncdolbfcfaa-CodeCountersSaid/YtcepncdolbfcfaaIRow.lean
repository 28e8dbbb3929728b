/- Rows of ints: what it means that a slice value reads as a list of ints in a world, and that the call owns it; append. No statement is proved here. -/
import Derived.Test.YtcepncdolbfcfaaAppend
namespace Go.Proofs.Ytcepncdolbfcfaa
open Go.RowKit
set_option linter.unusedVariables false

def I64 (x : Int) : Prop := -9223372036854775808 ≤ x ∧ x ≤ 9223372036854775807
/-- The slice value with address A, length n and room c reads, in the world w, as the bytes xs, and lies below block B. -/
def IRow (w : World) (B : Nat) (A : Option Addr) (n c : Nat) (xs : List Int) : Prop :=
  xs.length = n ∧ (∀ x ∈ xs, I64 x) ∧ n ≤ c ∧ c ≤ maxLen ∧ (A = none → c = 0) ∧
    (∀ a, A = some a → 0 < n → a.spot = none ∧ a.block < B ∧ ∀ j, j < n → w.cell? ⟨a.block, a.off + j, none⟩ = some (.int .i64 (xs.getD j 0)))

section
variable {w w' : World} {B B' n c : Nat} {A : Option Addr} {xs : List Int}
theorem IRow.len (h : IRow w B A n c xs) : xs.length = n := h.1
theorem IRow.bytes (h : IRow w B A n c xs) : ∀ x ∈ xs, I64 x := h.2.1
theorem IRow.room (h : IRow w B A n c xs) : n ≤ c := h.2.2.1
theorem IRow.max (h : IRow w B A n c xs) : n ≤ 9223372036854775807 := by have h1 := h.2.2.1; have h2 := h.2.2.2.1; unfold maxLen at h2; omega
theorem IRow.at_ (h : IRow w B A n c xs) (hn : 0 < n) : ∃ b off, A = some ⟨b, off, none⟩ ∧ b < B ∧ ∀ j, j < n → w.cell? ⟨b, off + j, none⟩ = some (.int .i64 (xs.getD j 0)) := by
  obtain ⟨h1, h2, h3, h4, h5, h6⟩ := h
  cases A with
  | none => have := h5 rfl; omega
  | some a =>
    obtain ⟨hs, hb, hc⟩ := h6 a rfl hn
    obtain ⟨b, off, spot⟩ := a
    simp only at hs
    subst hs
    exact ⟨b, off, rfl, hb, hc⟩
theorem IRow.keep (h : IRow w B A n c xs) (hk : ∀ p : Addr, p.block < B → w'.cell? p = w.cell? p) : IRow w' B A n c xs := by
  obtain ⟨h1, h2, h3, h4, h5, h6⟩ := h
  refine ⟨h1, h2, h3, h4, h5, fun a ha hn => ?_⟩
  obtain ⟨hs, hb, hc⟩ := h6 a ha hn
  exact ⟨hs, hb, fun j hj => (hk ⟨a.block, a.off + j, none⟩ hb).trans (hc j hj)⟩
theorem IRow.wider (h : IRow w B A n c xs) (hB : B ≤ B') : IRow w B' A n c xs := by
  obtain ⟨h1, h2, h3, h4, h5, h6⟩ := h
  refine ⟨h1, h2, h3, h4, h5, fun a ha hn => ?_⟩
  obtain ⟨hs, hb, hc⟩ := h6 a ha hn
  exact ⟨hs, by omega, hc⟩
theorem IRow.below (h : IRow w B A n c xs) (hb : Below B w w') : IRow w' B A n c xs := h.keep fun _ hp => hb.cell hp
theorem IRow.drew (h : IRow w B A n c xs) : IRow w.drew B A n c xs := h
theorem IRow.drewN (h : IRow w B A n c xs) (k : Nat) : IRow (w.drewN k) B A n c xs := h
theorem IRow.alloc (h : IRow w B A n c xs) (hB : B ≤ w.heap.size) (o : Obj) : IRow (w.alloc o) B A n c xs := h.keep fun p hp => World.cell?_alloc_lt w o p (by omega)
theorem IRow.lt (h : IRow w B A n c xs) (k : Nat) : I64 (xs.getD k 0) := by
  rw [List.getD_eq_getElem?_getD]
  by_cases hk : k < xs.length
  · rw [List.getElem?_eq_getElem hk]; exact h.2.1 _ (List.getElem_mem hk)
  · rw [List.getElem?_eq_none (by omega)]; simp [I64]
theorem IRow.nil_ (w : World) (B : Nat) : IRow w B none 0 0 [] := ⟨rfl, by simp, Nat.le_refl _, by unfold maxLen; omega, fun _ => rfl, fun a ha => by cases ha⟩
end

/-- Bytes as the values that cells hold. -/
def ivals (xs : List Int) : List Value := xs.map fun (x : Int) => Value.int .i64 x
theorem ivals_append (xs ys : List Int) : ivals (xs ++ ys) = ivals xs ++ ivals ys := by simp [ivals]
theorem ivals_length (xs : List Int) : (ivals xs).length = xs.length := by simp [ivals]
theorem ivals_getElem? (xs : List Int) (j : Nat) (h : j < xs.length) : (ivals xs)[j]? = some (.int .i64 (xs.getD j 0)) := by
  simp [ivals, h]
theorem ivals_one (xs : List Int) : ∀ u ∈ ivals xs, u.oneCell' = true := by
  intro u hu
  simp only [ivals, List.mem_map] at hu
  obtain ⟨x, _, rfl⟩ := hu
  rfl

/-- The slice value with address A, length n and room c is nil, or begins at the head of a block from 'base' on that nobody else has, and reads as the bytes xs. -/
def IOwn (w : World) (base : Nat) (A : Option Addr) (n c : Nat) (xs : List Int) : Prop :=
  xs.length = n ∧ (∀ x ∈ xs, I64 x) ∧ w.ownsRow base 3 1 (.slice A n c) n (ivals xs)

section
variable {w w' : World} {base n c : Nat} {A : Option Addr} {xs : List Int}
theorem IOwn.len (h : IOwn w base A n c xs) : xs.length = n := h.1
theorem IOwn.row (h : IOwn w base A n c xs) : IRow w w.heap.size A n c xs := by
  obtain ⟨h1, h2, h3⟩ := h
  rcases h3.2 with ⟨hv, hn⟩ | ⟨g, cap, cur, hv, hb, hg, hnc, hm, hs, ht⟩
  · injection hv with e1 e2 e3
    subst e1; subst e2; subst e3
    exact ⟨h1, h2, by omega, by unfold maxLen; omega, fun _ => rfl, fun a ha => by cases ha⟩
  · injection hv with e1 e2 e3
    subst e1; subst e3
    refine ⟨h1, h2, hnc, hm, (fun h => by cases h), fun a ha _ => ?_⟩
    injection ha with ha
    subst ha
    have hlt : g < w.heap.size := (h3.lt g rfl).2
    refine ⟨rfl, hlt, fun j hj => ?_⟩
    have := h3.cells (g := g) rfl j _ (ivals_getElem? xs j (by omega))
    rwa [Addr.add_lit] at this
theorem IOwn.kept {row : Option Nat} (h : IOwn w base A n c xs) (hg : w.grownBy w' row) (hne : (Value.slice A n c).ownBlock = none ∨ (Value.slice A n c).ownBlock ≠ row) : IOwn w' base A n c xs :=
  ⟨h.1, h.2.1, h.2.2.kept hg hne⟩
theorem IOwn.alloc (h : IOwn w base A n c xs) (o : Obj) : IOwn (w.alloc o) base A n c xs := ⟨h.1, h.2.1, h.2.2.alloc o⟩
theorem IOwn.drew (h : IOwn w base A n c xs) : IOwn w.drew base A n c xs := h
theorem IOwn.drewN (h : IOwn w base A n c xs) (k : Nat) : IOwn (w.drewN k) base A n c xs := h
theorem IOwn.below (h : IOwn w base A n c xs) (hb : Below w.heap.size w w') : IOwn w' base A n c xs :=
  h.kept (grown_of_below hb none) (by cases (Value.slice A n c).ownBlock <;> simp)
theorem IOwn.lower {base' : Nat} (h : IOwn w base A n c xs) (hb : base' ≤ base) : IOwn w base' A n c xs := by
  refine ⟨h.1, h.2.1, h.2.2.1, ?_⟩
  rcases h.2.2.2 with h0 | ⟨g, cap, cur, hv, hg, hrest⟩
  · exact .inl h0
  · exact .inr ⟨g, cap, cur, hv, by omega, hrest⟩
theorem IOwn.nil_ (w : World) (base : Nat) : IOwn w base none 0 0 [] := ⟨rfl, by simp, World.ownsRow_nil _ _ _ _⟩
end

theorem info3 : (Try.prog.info? 3).map (fun i => (i.zero, i.size, i.bytes)) = some (some (.int .i64 0), 1, 8) := by kernel_rfl

theorem iown_of_ownsRow {w : World} {base n : Nat} {v : Value} {xs : List Int} (hl : xs.length = n) (hb : ∀ x ∈ xs, I64 x) (h : w.ownsRow base 3 1 v n (ivals xs)) :
    ∃ A c, v = .slice A n c ∧ IOwn w base A n c xs := by
  rcases h.2 with ⟨hv, hn⟩ | ⟨g, cap, cur, hv, _⟩
  · subst hn; exact ⟨none, 0, hv, hl, hb, hv ▸ h⟩
  · exact ⟨_, cap, hv, hl, hb, hv ▸ h⟩

theorem wpList_append_irow {ops : Array Oper} {rest : List Oper} {o : Oper} {a : Act} {Q : Exit → Act → World → Prop} (w : World) (hgd : o.guard = none) (s x : Operand)
    (ho : o.op = .call { callee := .builtin .append, args := #[s, x], argTypes := #[29, 29] })
    (base : Nat) (A : Option Addr) (n c : Nat) (xs : List Int) (hs : a.eval s = .slice A n c) (hown : IOwn w base A n c xs)
    (B : Nat) (A2 : Option Addr) (m c2 : Nat) (ys : List Int) (hx : a.eval x = .slice A2 m c2) (hr : IRow w B A2 m c2 ys)
    (hlen : n + m ≤ 1000000) (hbase : base ≤ w.heap.size)
    (h : ∀ A' c' w', IOwn w' base A' (n + m) c' (xs ++ ys) → w.grownBy w' (Value.slice A n c).ownBlock →
      ((Value.slice A' (n + m) c').ownBlock = (Value.slice A n c).ownBlock ∨ (Value.slice A' (n + m) c').ownBlock = some w.heap.size) →
      wpList Try.prog ops Q rest (a.put o.dst (.slice A' (n + m) c')) w') : wpList Try.prog ops Q (o :: rest) a w := by
  obtain ⟨i0, hi, hz0, hz1, hz2⟩ := info_parts info3
  obtain ⟨h1, h2, h3, h4, h5, h6⟩ := hr
  cases A2 with
  | none =>
    have hc := h5 rfl
    subst hc
    have hm : m = 0 := by omega
    subst hm
    have hy : ys = [] := List.eq_nil_of_length_eq_zero h1
    subst hy
    refine wpList_append_own_none hgd s x 29 ho base 3 i0 1 Try.underlying29 hi _ n (ivals xs) hs hown.2.2 hx ?_
    exact h A c w (by simpa using hown) (World.grownBy.refl w _) (.inl rfl)
  | some ad =>
    refine wpList_append_own_at w hgd s x 29 ho base 3 i0 (.int .i64 0) 1 8 Try.underlying29 hi hz0 hz1 hz2 rfl (by decide) _ n (ivals xs) hs hown.2.2 ad m c2 (ivals ys) hx ?_ ?_ (ivals_one ys) ?_ ?_ hbase ?_
    · rw [ivals_length, h1]; omega
    · intro j u hu
      have hj : j < ys.length := by
        rcases Nat.lt_or_ge j ys.length with h | h
        · exact h
        · rw [List.getElem?_eq_none (by rw [ivals_length]; exact h)] at hu; cases hu
      rw [ivals_getElem? ys j hj] at hu
      injection hu with hu
      obtain ⟨e1, hb, hc⟩ := h6 _ rfl (by omega)
      obtain ⟨b, off, spot⟩ := ad
      simp only at e1
      subst e1
      rw [Addr.add_lit, ← hu]
      exact hc j (by omega)
    · unfold maxLen; omega
    · omega
    · intro v' w' ho' hg _ hbl
      obtain ⟨A', c', rfl, hO⟩ := iown_of_ownsRow (xs := xs ++ ys) (by rw [List.length_append, hown.1, h1]) (by
        intro y hy
        rcases List.mem_append.1 hy with hy | hy
        · exact hown.2.1 y hy
        · exact h2 y hy) (by rw [ivals_append]; exact ho')
      exact h A' c' w' hO hg hbl

theorem step_append_irow {ops : Array Oper} {o : Oper} {a : Act} {K : Act → World → Prop} {Q : Exit → Act → World → Prop} {E : Prop} (w : World) (hgd : o.guard = none) (s x : Operand)
    (ho : o.op = .call { callee := .builtin .append, args := #[s, x], argTypes := #[29, 29] })
    (base : Nat) (A : Option Addr) (n c : Nat) (xs : List Int) (hs : a.eval s = .slice A n c) (hown : IOwn w base A n c xs)
    (B : Nat) (ad : Addr) (m c2 : Nat) (ys : List Int) (hx : a.eval x = .slice (some ad) m c2) (hr : IRow w B (some ad) m c2 ys)
    (hlen : n + m ≤ 1000000) (hbase : base ≤ w.heap.size)
    (h : ∀ A' c' w', IOwn w' base A' (n + m) c' (xs ++ ys) → w.grownBy w' (Value.slice A n c).ownBlock → K (a.put o.dst (.slice A' (n + m) c')) w') :
    if Region.wanted o (yielded ops a.tmps) = true then Oper.wp Try.prog o a w K Q else E := by
  have hw : Region.wanted o (yielded ops a.tmps) = true := by simp [Region.wanted, hgd]
  rw [if_pos hw]
  obtain ⟨i0, hi, hz0, hz1, hz2⟩ := info_parts info3
  obtain ⟨h1, h2, h3, h4, h5, h6⟩ := hr
  refine wp_append_own w s x 29 ho base 3 i0 (.int .i64 0) 1 8 Try.underlying29 hi hz0 hz1 hz2 rfl (by decide) _ n (ivals xs) hs hown.2.2 ad m c2 (ivals ys) hx ?_ ?_ (ivals_one ys) ?_ ?_ hbase ?_
  · rw [ivals_length, h1]; omega
  · intro j u hu
    have hj : j < ys.length := by
      rcases Nat.lt_or_ge j ys.length with h | h
      · exact h
      · rw [List.getElem?_eq_none (by rw [ivals_length]; exact h)] at hu; cases hu
    rw [ivals_getElem? ys j hj] at hu
    injection hu with hu
    obtain ⟨e1, hb, hc⟩ := h6 _ rfl (by omega)
    obtain ⟨b, off, spot⟩ := ad
    simp only at e1
    subst e1
    rw [Addr.add_lit, ← hu]
    exact hc j (by omega)
  · unfold maxLen; omega
  · omega
  · intro v' w' ho' hg _
    obtain ⟨A', c', rfl, hO⟩ := iown_of_ownsRow (xs := xs ++ ys) (by rw [List.length_append, hown.1, h1]) (by
      intro y hy
      rcases List.mem_append.1 hy with hy | hy
      · exact hown.2.1 y hy
      · exact h2 y hy) (by rw [ivals_append]; exact ho')
    exact h A' c' w' hO hg

theorem IRow.one (w : World) (x : Int) (z : Int) (hz : z = x) (hx : I64 x) : IRow (w.alloc (.cells #[.int .i64 z] 3)) (w.heap.size + 1) (some ⟨w.heap.size, 0, none⟩) 1 1 [x] := by
  subst hz
  refine ⟨rfl, by simpa using hx, Nat.le_refl _, by unfold maxLen; omega, (fun h => by cases h), fun a ha _ => ?_⟩
  injection ha with ha
  subst ha
  refine ⟨rfl, by simp, fun j hj => ?_⟩
  obtain rfl : j = 0 := by omega
  simp
theorem IOwn.empty {w : World} {base : Nat} (hb : base ≤ w.heap.size) : IOwn (w.alloc (.cells #[] 3)) base (some ⟨w.heap.size, 0, none⟩) 0 0 [] :=
  ⟨rfl, by simp, World.ownsRow_lit w #[] 0 hb (by unfold maxLen; omega) rfl⟩
theorem wpList_make_iempty {ops : Array Oper} {rest : List Oper} {o : Oper} {a : Act} {Q : Exit → Act → World → Prop} (w : World) (hgd : o.guard = none) (l c : Operand) (hop : o.op = Op.makeSlice 29 l c)
    (base : Nat) (C : Int) (n : Nat) (hl : a.eval l = .int .i64 0) (hc : a.eval c = .int .i64 C) (hC : C = (n : Int)) (hn : n ≤ 1000000) (hb : base ≤ w.heap.size)
    (h : ∀ w', IOwn w' base (some ⟨w.heap.size, 0, none⟩) 0 n [] → w.grownBy w' none → wpList Try.prog ops Q rest (a.put o.dst (.slice (some ⟨w.heap.size, 0, none⟩) 0 n)) w') :
    wpList Try.prog ops Q (o :: rest) a w := by
  obtain ⟨i0, hi, hz0, hz1, hz2⟩ := info_parts info3
  exact wpList_make_own w hgd l c 29 hop base 3 i0 (.int .i64 0) 1 Try.underlying29 hi hz0 hz1 .i64 .i64 C n hl hc hC (by rw [hz2]; omega) (by unfold maxLen; omega) hb fun w' ho hg => h w' ⟨rfl, by simp, ho⟩ hg
theorem wpList_make_izeros {ops : Array Oper} {rest : List Oper} {o : Oper} {a : Act} {Q : Exit → Act → World → Prop} (w : World) (hgd : o.guard = none) (l c : Operand) (hop : o.op = Op.makeSlice 29 l c)
    (base : Nat) (L C : Int) (n : Nat) (hl : a.eval l = .int .i64 L) (hc : a.eval c = .int .i64 C) (hL : L = (n : Int)) (hC : C = (n : Int)) (hn : n ≤ 1000000) (hb : base ≤ w.heap.size)
    (h : ∀ w', IOwn w' base (some ⟨w.heap.size, 0, none⟩) n n (List.replicate n 0) → w.grownBy w' none → wpList Try.prog ops Q rest (a.put o.dst (.slice (some ⟨w.heap.size, 0, none⟩) n n)) w') :
    wpList Try.prog ops Q (o :: rest) a w := by
  obtain ⟨i0, hi, hz0, hz1, hz2⟩ := info_parts info3
  refine wpList_make_full w hgd l c 29 hop base 3 i0 (.int .i64 0) 1 Try.underlying29 hi hz0 hz1 .i64 .i64 L C n hl hc hL hC (by rw [hz2]; omega) (by unfold maxLen; omega) hb fun w' ho hg => h w' ⟨by simp, ?_, ?_⟩ hg
  · intro x hx; rw [List.eq_of_mem_replicate hx]; simp [I64]
  · have e : ivals (List.replicate n 0) = (madeCells (Value.int IntKind.i64 0).cells (n * 1)).toList := by
      rw [show (Value.int IntKind.i64 0).cells = #[Value.int IntKind.i64 0] from rfl, toList_madeCells_one]
      simp [ivals]
    rw [e]; exact ho
theorem ibelow_first {w w2 : World} {n c : Nat} (hg : (w.alloc (.cells #[] 3)).grownBy w2 (Value.slice (some ⟨w.heap.size, 0, none⟩) n c).ownBlock) : Below w.heap.size w w2 :=
  ((Below.refl _ _).alloc (Nat.le_refl _) _).grown hg (by simp) (fun k hk => by injection hk with hk; simp only at hk; omega)
theorem ibelow_append {w wr w3 : World} {A : Option Addr} {n c : Nat} {xs : List Int} {o : Obj} (hb : Below w.heap.size w wr) (hO : IOwn wr w.heap.size A n c xs) (hg : (wr.alloc o).grownBy w3 (Value.slice A n c).ownBlock) : Below w.heap.size w w3 :=
  (hb.alloc hb.size o).grown hg (by have := hb.size; simp; omega) (fun k hk => (hO.2.2.lt k hk).1)

/-- The call hands back the bytes ys in memory of its own, and nothing that was there is changed. -/
def GivesIRow (w : World) (ys : List Int) (e : Ending) (w' : World) : Prop :=
  ∃ A c, e = .returned (.slice A ys.length c) ∧ IOwn w' w.heap.size A ys.length c ys ∧ Below w.heap.size w w'
theorem GivesIRow.out {w w' : World} {ys : List Int} {e : Ending} {N : Nat} (h : GivesIRow w ys e w') (hl : ys.length = N) :
    ∃ A c, e = .returned (.slice A N c) ∧ IOwn w' w.heap.size A N c ys ∧ Below w.heap.size w w' := by
  subst hl; exact h

theorem irow_of {w : World} {A : Option Addr} {n c : Nat} {zs : List Int} (h : IsRow .i64 w A n c zs) : ∃ xs, IRow w w.heap.size A n c xs := by
  rcases h with ⟨rfl, rfl, rfl, rfl⟩ | ⟨x, rfl, hl, hm, hz, hcell, hwz⟩
  · exact ⟨[], IRow.nil_ _ _⟩
  · refine ⟨zs.take n, by simp [hz]; omega, ?_, hl, hm, (fun h => by cases h), fun a ha hn => ?_⟩
    · intro y hy
      exact wf_i64 (hwz y (List.mem_of_mem_take hy))
    · injection ha with ha
      subst ha
      obtain ⟨b, off, spot⟩ := x
      have h0 := hcell 0 (by omega)
      have hs : spot = none := by simpa [Addr.add] using World.cell?_spot h0
      subst hs
      refine ⟨rfl, ?_, fun j hj => ?_⟩
      · rw [Addr.add_lit] at h0
        rcases Nat.lt_or_ge b w.heap.size with h | h
        · exact h
        · simp [World.cell?, Array.getElem?_eq_none h] at h0
      · have := hcell j (by omega)
        rw [Addr.add_lit] at this
        rw [this]
        congr 2
        rw [List.getD_eq_getElem?_getD, List.getD_eq_getElem?_getD, List.getElem?_take_of_lt hj]
end Go.Proofs.Ytcepncdolbfcfaa
