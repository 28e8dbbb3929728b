/- The built-in append, where bytes that may be nil are put behind bytes that the call owns. No statement is proved here. -/
import Derived.Test.YtpibmccofjpelaaWords
import Derived.Laws.AppendOwnNone
namespace Go.Proofs.Ytpibmccofjpelaa
open Go.RowKit

theorem info5 : (Try.prog.info? 5).map (fun i => (i.zero, i.size, i.bytes)) = some (some (.int .u8 0), 1, 1) := by kernel_rfl

theorem own_of_ownsRow {w : World} {base n : Nat} {v : Value} {xs : List Nat} (hl : xs.length = n) (hb : ∀ x ∈ xs, x < 256) (h : w.ownsRow base 5 1 v n (vals xs)) :
    ∃ A c, v = .slice A n c ∧ Own w base A n c xs := by
  rcases h.2 with ⟨hv, hn⟩ | ⟨g, cap, cur, hv, _⟩
  · subst hn; exact ⟨none, 0, hv, hl, hb, hv ▸ h⟩
  · exact ⟨_, cap, hv, hl, hb, hv ▸ h⟩

theorem wpList_append_row {ops : Array Oper} {rest : List Oper} {o : Oper} {a : Act} {Q : Exit → Act → World → Prop} (w : World) (hgd : o.guard = none) (s x : Operand)
    (ho : o.op = .call { callee := .builtin .append, args := #[s, x], argTypes := #[24, 24] })
    (base : Nat) (A : Option Addr) (n c : Nat) (xs : List Nat) (hs : a.eval s = .slice A n c) (hown : Own w base A n c xs)
    (B : Nat) (A2 : Option Addr) (m c2 : Nat) (ys : List Nat) (hx : a.eval x = .slice A2 m c2) (hr : Row w B A2 m c2 ys)
    (hlen : n + m ≤ 1000000) (hbase : base ≤ w.heap.size)
    (h : ∀ A' c' w', Own w' base A' (n + m) c' (xs ++ ys) → w.grownBy w' (Value.slice A n c).ownBlock →
      ((Value.slice A' (n + m) c').ownBlock = (Value.slice A n c).ownBlock ∨ (Value.slice A' (n + m) c').ownBlock = some w.heap.size) →
      wpList Try.prog ops Q rest (a.put o.dst (.slice A' (n + m) c')) w') : wpList Try.prog ops Q (o :: rest) a w := by
  obtain ⟨i0, hi, hz0, hz1, hz2⟩ := info_parts info5
  obtain ⟨h1, h2, h3, h4, h5, h6⟩ := hr
  cases A2 with
  | none =>
    have hc := h5 rfl
    subst hc
    have hm : m = 0 := by omega
    subst hm
    have hy : ys = [] := List.eq_nil_of_length_eq_zero h1
    subst hy
    refine wpList_append_own_none hgd s x 24 ho base 5 i0 1 Try.underlying24 hi _ n (vals xs) hs hown.2.2 hx ?_
    exact h A c w (by simpa using hown) (World.grownBy.refl w _) (.inl rfl)
  | some ad =>
    refine wpList_append_own_at w hgd s x 24 ho base 5 i0 (.int .u8 0) 1 1 Try.underlying24 hi hz0 hz1 hz2 rfl (by decide) _ n (vals xs) hs hown.2.2 ad m c2 (vals ys) hx ?_ ?_ (vals_one ys) ?_ ?_ hbase ?_
    · rw [vals_length, h1]; omega
    · intro j u hu
      have hj : j < ys.length := by
        rcases Nat.lt_or_ge j ys.length with h | h
        · exact h
        · rw [List.getElem?_eq_none (by rw [vals_length]; exact h)] at hu; cases hu
      rw [vals_getElem? ys j hj] at hu
      injection hu with hu
      obtain ⟨e1, hb, hc⟩ := h6 _ rfl (by omega)
      obtain ⟨b, off, spot⟩ := ad
      simp only at e1
      subst e1
      rw [Addr.add_lit, ← hu]
      exact hc j (by omega)
    · unfold maxLen; omega
    · omega
    · intro v' w' ho' hg _ hbl
      obtain ⟨A', c', rfl, hO⟩ := own_of_ownsRow (xs := xs ++ ys) (by rw [List.length_append, hown.1, h1]) (by
        intro y hy
        rcases List.mem_append.1 hy with hy | hy
        · exact hown.2.1 y hy
        · exact h2 y hy) (by rw [vals_append]; exact ho')
      exact h A' c' w' hO hg hbl

theorem step_append_row {ops : Array Oper} {o : Oper} {a : Act} {K : Act → World → Prop} {Q : Exit → Act → World → Prop} {E : Prop} (w : World) (hgd : o.guard = none) (s x : Operand)
    (ho : o.op = .call { callee := .builtin .append, args := #[s, x], argTypes := #[24, 24] })
    (base : Nat) (A : Option Addr) (n c : Nat) (xs : List Nat) (hs : a.eval s = .slice A n c) (hown : Own w base A n c xs)
    (B : Nat) (ad : Addr) (m c2 : Nat) (ys : List Nat) (hx : a.eval x = .slice (some ad) m c2) (hr : Row w B (some ad) m c2 ys)
    (hlen : n + m ≤ 1000000) (hbase : base ≤ w.heap.size)
    (h : ∀ A' c' w', Own w' base A' (n + m) c' (xs ++ ys) → w.grownBy w' (Value.slice A n c).ownBlock → K (a.put o.dst (.slice A' (n + m) c')) w') :
    if Region.wanted o (yielded ops a.tmps) = true then Oper.wp Try.prog o a w K Q else E := by
  have hw : Region.wanted o (yielded ops a.tmps) = true := by simp [Region.wanted, hgd]
  rw [if_pos hw]
  obtain ⟨i0, hi, hz0, hz1, hz2⟩ := info_parts info5
  obtain ⟨h1, h2, h3, h4, h5, h6⟩ := hr
  refine wp_append_own w s x 24 ho base 5 i0 (.int .u8 0) 1 1 Try.underlying24 hi hz0 hz1 hz2 rfl (by decide) _ n (vals xs) hs hown.2.2 ad m c2 (vals ys) hx ?_ ?_ (vals_one ys) ?_ ?_ hbase ?_
  · rw [vals_length, h1]; omega
  · intro j u hu
    have hj : j < ys.length := by
      rcases Nat.lt_or_ge j ys.length with h | h
      · exact h
      · rw [List.getElem?_eq_none (by rw [vals_length]; exact h)] at hu; cases hu
    rw [vals_getElem? ys j hj] at hu
    injection hu with hu
    obtain ⟨e1, hb, hc⟩ := h6 _ rfl (by omega)
    obtain ⟨b, off, spot⟩ := ad
    simp only at e1
    subst e1
    rw [Addr.add_lit, ← hu]
    exact hc j (by omega)
  · unfold maxLen; omega
  · omega
  · intro v' w' ho' hg _
    obtain ⟨A', c', rfl, hO⟩ := own_of_ownsRow (xs := xs ++ ys) (by rw [List.length_append, hown.1, h1]) (by
      intro y hy
      rcases List.mem_append.1 hy with hy | hy
      · exact hown.2.1 y hy
      · exact h2 y hy) (by rw [vals_append]; exact ho')
    exact h A' c' w' hO hg

theorem Row.one (w : World) (x : Nat) (z : Int) (hz : z = (x : Int)) (hx : x < 256) : Row (w.alloc (.cells #[.int .u8 z] 5)) (w.heap.size + 1) (some ⟨w.heap.size, 0, none⟩) 1 1 [x] := by
  subst hz
  refine ⟨rfl, by simpa using hx, Nat.le_refl _, by unfold maxLen; omega, (fun h => by cases h), fun a ha _ => ?_⟩
  injection ha with ha
  subst ha
  refine ⟨rfl, by simp, fun j hj => ?_⟩
  obtain rfl : j = 0 := by omega
  simp
theorem Own.empty {w : World} {base : Nat} (hb : base ≤ w.heap.size) : Own (w.alloc (.cells #[] 5)) base (some ⟨w.heap.size, 0, none⟩) 0 0 [] :=
  ⟨rfl, by simp, World.ownsRow_lit w #[] 0 hb (by unfold maxLen; omega) rfl⟩
theorem wpList_make_empty {ops : Array Oper} {rest : List Oper} {o : Oper} {a : Act} {Q : Exit → Act → World → Prop} (w : World) (hgd : o.guard = none) (l c : Operand) (hop : o.op = Op.makeSlice 24 l c)
    (base : Nat) (C : Int) (n : Nat) (hl : a.eval l = .int .i64 0) (hc : a.eval c = .int .i64 C) (hC : C = (n : Int)) (hn : n ≤ 1000000) (hb : base ≤ w.heap.size)
    (h : ∀ w', Own w' base (some ⟨w.heap.size, 0, none⟩) 0 n [] → w.grownBy w' none → wpList Try.prog ops Q rest (a.put o.dst (.slice (some ⟨w.heap.size, 0, none⟩) 0 n)) w') :
    wpList Try.prog ops Q (o :: rest) a w := by
  obtain ⟨i0, hi, hz0, hz1, hz2⟩ := info_parts info5
  exact wpList_make_own w hgd l c 24 hop base 5 i0 (.int .u8 0) 1 Try.underlying24 hi hz0 hz1 .i64 .i64 C n hl hc hC (by rw [hz2]; omega) (by unfold maxLen; omega) hb fun w' ho hg => h w' ⟨rfl, by simp, ho⟩ hg
theorem wpList_make_zeros {ops : Array Oper} {rest : List Oper} {o : Oper} {a : Act} {Q : Exit → Act → World → Prop} (w : World) (hgd : o.guard = none) (l c : Operand) (hop : o.op = Op.makeSlice 24 l c)
    (base : Nat) (L C : Int) (n : Nat) (hl : a.eval l = .int .i64 L) (hc : a.eval c = .int .i64 C) (hL : L = (n : Int)) (hC : C = (n : Int)) (hn : n ≤ 1000000) (hb : base ≤ w.heap.size)
    (h : ∀ w', Own w' base (some ⟨w.heap.size, 0, none⟩) n n (List.replicate n 0) → w.grownBy w' none → wpList Try.prog ops Q rest (a.put o.dst (.slice (some ⟨w.heap.size, 0, none⟩) n n)) w') :
    wpList Try.prog ops Q (o :: rest) a w := by
  obtain ⟨i0, hi, hz0, hz1, hz2⟩ := info_parts info5
  refine wpList_make_full w hgd l c 24 hop base 5 i0 (.int .u8 0) 1 Try.underlying24 hi hz0 hz1 .i64 .i64 L C n hl hc hL hC (by rw [hz2]; omega) (by unfold maxLen; omega) hb fun w' ho hg => h w' ⟨by simp, ?_, ?_⟩ hg
  · intro x hx; rw [List.eq_of_mem_replicate hx]; omega
  · have e : vals (List.replicate n 0) = (madeCells (Value.int IntKind.u8 0).cells (n * 1)).toList := by
      rw [show (Value.int IntKind.u8 0).cells = #[Value.int IntKind.u8 0] from rfl, toList_madeCells_one]
      simp [vals]
    rw [e]; exact ho
theorem below_first {w w2 : World} {n c : Nat} (hg : (w.alloc (.cells #[] 5)).grownBy w2 (Value.slice (some ⟨w.heap.size, 0, none⟩) n c).ownBlock) : Below w.heap.size w w2 :=
  ((Below.refl _ _).alloc (Nat.le_refl _) _).grown hg (by simp) (fun k hk => by injection hk with hk; simp only at hk; omega)
theorem below_append {w wr w3 : World} {A : Option Addr} {n c : Nat} {xs : List Nat} {o : Obj} (hb : Below w.heap.size w wr) (hO : Own wr w.heap.size A n c xs) (hg : (wr.alloc o).grownBy w3 (Value.slice A n c).ownBlock) : Below w.heap.size w w3 :=
  (hb.alloc hb.size o).grown hg (by have := hb.size; simp; omega) (fun k hk => (hO.2.2.lt k hk).1)

/-- The call hands back the bytes ys in memory of its own, and nothing that was there is changed. -/
def GivesRow (w : World) (ys : List Nat) (e : Ending) (w' : World) : Prop :=
  ∃ A c, e = .returned (.slice A ys.length c) ∧ Own w' w.heap.size A ys.length c ys ∧ Below w.heap.size w w'
theorem GivesRow.out {w w' : World} {ys : List Nat} {e : Ending} {N : Nat} (h : GivesRow w ys e w') (hl : ys.length = N) :
    ∃ A c, e = .returned (.slice A N c) ∧ Own w' w.heap.size A N c ys ∧ Below w.heap.size w w' := by
  subst hl; exact h
end Go.Proofs.Ytpibmccofjpelaa
