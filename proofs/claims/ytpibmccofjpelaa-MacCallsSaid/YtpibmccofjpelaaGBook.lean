/- A book of any kind, with bad events: what it keeps. No statement is proved here. -/
import Derived.Test.YtpibmccofjpelaaCopied
import Derived.Deep.AppendLies
import Derived.Deep.RegionLaw
namespace Go.Proofs.Ytpibmccofjpelaa
open Go.RowKit Go.Maps
set_option linter.unusedVariables false
set_option linter.unusedSimpArgs false

/-- A kind of tags. -/
inductive Kd where
  | ideal
  | sip (key : List Nat)
def Kd.face : Kd → Value
  | .ideal => .iface 82 (.agg #[])
  | .sip key => .iface 84 (.agg (arrV key))
/-- A bad event: its kind, its two messages, its tag. -/
structure Bd where
  k : Nat
  xs : List Nat
  ys : List Nat
  t : Nat
/-- A bad event in memory. -/
structure Bm where
  e : Bd
  A1 : Option Addr
  c1 : Nat
  A2 : Option Addr
  c2 : Nat
def Bm.cs (b : Bm) : List Value := [.int .i64 (b.e.k : Nat), .slice b.A1 b.e.xs.length b.c1, .slice b.A2 b.e.ys.length b.c2, .int .u64 (b.e.t : Nat)]
def bvals : List Bm → List Value
  | [] => []
  | x :: r => x.cs ++ bvals r
theorem bvals_length (xs : List Bm) : (bvals xs).length = xs.length * 4 := by
  induction xs with
  | nil => rfl
  | cons x r ih => simp only [bvals, List.length_append, ih, List.length_cons, Bm.cs, List.length_nil]; omega
theorem bvals_append (xs ys : List Bm) : bvals (xs ++ ys) = bvals xs ++ bvals ys := by
  induction xs with
  | nil => rfl
  | cons x r ih => simp [bvals, ih]
theorem bvals_at (xs : List Bm) (i j : Nat) (x : Bm) (h : xs[i]? = some x) (hj : j < 4) : (bvals xs)[i * 4 + j]? = x.cs[j]? := by
  induction xs generalizing i with
  | nil => simp at h
  | cons y r ih =>
    have hl : y.cs.length = 4 := rfl
    cases i with
    | zero =>
      simp only [List.getElem?_cons_zero, Option.some.injEq] at h
      subst h
      simp only [bvals]
      rw [List.getElem?_append_left (by omega), show 0 * 4 + j = j by omega]
    | succ i =>
      simp only [List.getElem?_cons_succ] at h
      simp only [bvals]
      rw [List.getElem?_append_right (by omega), show (i + 1) * 4 + j - y.cs.length = i * 4 + j by omega]
      exact ih i h
/-- A bad event's messages lie in memory of their own. -/
def Bm.ok (V : World) (base : Nat) (r : Bm) : Prop := Own V base r.A1 r.e.xs.length r.c1 r.e.xs ∧ Own V base r.A2 r.e.ys.length r.c2 r.e.ys ∧ r.e.xs.length ≤ 1000 ∧ r.e.ys.length ≤ 1000
/-- Block gk is a book of the kind K: its marks are ms, its bad events rs. -/
structure Gk (V : World) (base gk : Nat) (K : Kd) (ms : List Mark) (rs : List Bm) (gl : Nat) (sv : Value) (m1 m2 : Nat) (bv : Value) : Prop where
  blk : V.heap[gk]? = some (.cells #[K.face, .pointer (some ⟨gl, 0, none⟩), bv] 80 (0, 0))
  ls : MSt V base gl sv m1 m2 ms
  bad : V.ownsRow base 62 4 bv rs.length (bvals rs)
  own : ∀ r ∈ rs, r.ok V base
  lo : base ≤ gk ∧ base ≤ gl ∧ base ≤ m1 ∧ base ≤ m2
/-- The blocks that a book may change. -/
def bkS (gk gl : Nat) (sv : Value) (m1 m2 : Nat) (bv : Value) (i : Nat) : Prop := i = gk ∨ (i = gl ∨ i = m1 ∨ i = m2 ∨ sv.ownBlock = some i) ∨ bv.ownBlock = some i
/-- A block that is of none of the types that a book may change. -/
def Other (V : World) (i : Nat) : Prop := ∃ cs t q, V.heap[i]? = some (.cells cs t q) ∧ t ≠ 80 ∧ t ≠ 97 ∧ t ≠ 99 ∧ t ≠ 62
section
variable {V V2 : World} {base gk : Nat} {K : Kd} {ms : List Mark} {rs : List Bm} {gl : Nat} {sv : Value} {m1 m2 : Nat} {bv : Value}
theorem Gk.c0 (h : Gk V base gk K ms rs gl sv m1 m2 bv) : V.cell? ⟨gk, 0, none⟩ = some K.face := by rw [cell_of_row V gk 0 _ _ _ h.blk]; rfl
theorem Gk.c1 (h : Gk V base gk K ms rs gl sv m1 m2 bv) : V.cell? ⟨gk, 1, none⟩ = some (.pointer (some ⟨gl, 0, none⟩)) := by rw [cell_of_row V gk 1 _ _ _ h.blk]; rfl
theorem Gk.c2 (h : Gk V base gk K ms rs gl sv m1 m2 bv) : V.cell? ⟨gk, 2, none⟩ = some bv := by rw [cell_of_row V gk 2 _ _ _ h.blk]; rfl
theorem Gk.fz (h : Gk V base gk K ms rs gl sv m1 m2 bv) (i : Nat) : V.frozen? ⟨gk, i, none⟩ = false := by have := h.blk; simp [World.frozen?, this]
theorem Gk.lt (h : Gk V base gk K ms rs gl sv m1 m2 bv) : gk < V.heap.size := heap_lt h.blk
theorem own_at {e : TypeId} {size n : Nat} {v : Value} {xs : List Value} (h : V.ownsRow base e size v n xs) {g : Nat} (hg : v.ownBlock = some g) : base ≤ g ∧ ∃ cur, V.heap[g]? = some (.cells cur e (0, 0)) := by
  rcases h.2 with ⟨hv, _⟩ | ⟨g2, cap, cur, hv, hl, hg2, _⟩
  · rw [hv] at hg; cases hg
  · rw [hv] at hg; injection hg with hg
    have : g2 = g := hg
    subst this
    exact ⟨hl, cur, hg2⟩
theorem num_not {kt : TypeId} {b n : Nat} {f : Lit → Nat} (h : NumMap V kt b n f) {cs : Array Value} {t : TypeId} {q : Nat × Nat} : V.heap[b]? ≠ some (.cells cs t q) := fun e => by
  obtain ⟨D, ⟨es, clock, hb, _⟩, _⟩ := h
  rw [hb] at e; cases e
/-- What a book may change is of its own types, and from base on. -/
theorem Gk.not_other (h : Gk V base gk K ms rs gl sv m1 m2 bv) {i : Nat} (hi : bkS gk gl sv m1 m2 bv i) : ¬ Other V i := by
  rintro ⟨cs, t, q, hb, n1, n2, n3, n4⟩
  rcases hi with rfl | (rfl | rfl | rfl | e) | e
  · rw [h.blk] at hb; injection hb with hb; injection hb with _ hb; exact n1 hb.symm
  · rw [h.ls.blk] at hb; injection hb with hb; injection hb with _ hb; exact n2 hb.symm
  · exact num_not h.ls.n1 hb
  · exact num_not h.ls.n2 hb
  · obtain ⟨_, cur, hc⟩ := own_at h.ls.row e
    rw [hc] at hb; injection hb with hb; injection hb with _ hb; exact n3 hb.symm
  · obtain ⟨_, cur, hc⟩ := own_at h.bad e
    rw [hc] at hb; injection hb with hb; injection hb with _ hb; exact n4 hb.symm
theorem Gk.low (h : Gk V base gk K ms rs gl sv m1 m2 bv) {i : Nat} (hi : bkS gk gl sv m1 m2 bv i) : base ≤ i := by
  obtain ⟨l0, l1, l2, l3⟩ := h.lo
  rcases hi with rfl | (rfl | rfl | rfl | e) | e
  · exact l0
  · exact l1
  · exact l2
  · exact l3
  · exact (own_at h.ls.row e).1
  · exact (own_at h.bad e).1
theorem Gk.in_ (h : Gk V base gk K ms rs gl sv m1 m2 bv) {i : Nat} (hi : bkS gk gl sv m1 m2 bv i) : i < V.heap.size := by
  rcases hi with rfl | (rfl | rfl | rfl | e) | e
  · exact h.lt
  · exact h.ls.lt
  · exact h.ls.n1.lt
  · exact h.ls.n2.lt
  · obtain ⟨_, cur, hc⟩ := own_at h.ls.row e; exact heap_lt hc
  · obtain ⟨_, cur, hc⟩ := own_at h.bad e; exact heap_lt hc
/-- A row of bytes of one's own stays where blocks of bytes do. -/
theorem Own.stays {n c : Nat} {A : Option Addr} {xs : List Nat} (h : Own V base A n c xs) (hk : ∀ i, Other V i → V2.heap[i]? = V.heap[i]?) : Own V2 base A n c xs := by
  refine ⟨h.1, h.2.1, h.2.2.1, ?_⟩
  rcases h.2.2.2 with h0 | ⟨g, cap, cur, hv, hg, hb, r⟩
  · exact .inl h0
  · exact .inr ⟨g, cap, cur, hv, hg, (hk g ⟨cur, 5, (0, 0), hb, by decide, by decide, by decide, by decide⟩).trans hb, r⟩
theorem Bm.ok.stays {r : Bm} (h : r.ok V base) (hk : ∀ i, Other V i → V2.heap[i]? = V.heap[i]?) : r.ok V2 base := ⟨h.1.stays hk, h.2.1.stays hk, h.2.2⟩
theorem other_lt {i : Nat} (h : Other V i) : i < V.heap.size := by obtain ⟨cs, t, q, hb, _⟩ := h; exact heap_lt hb
theorem Gk.below (h : Gk V base gk K ms rs gl sv m1 m2 bv) (hb : Below V.heap.size V V2) : Gk V2 base gk K ms rs gl sv m1 m2 bv :=
  ⟨(hb.block gk h.lt).trans h.blk, h.ls.below hb, h.bad.kept (grown_of_below hb none) (by cases bv.ownBlock <;> simp), fun r hr => (h.own r hr).stays fun i hi => hb.block i (other_lt hi), h.lo⟩
theorem Gk.drewN (h : Gk V base gk K ms rs gl sv m1 m2 bv) (k : Nat) : Gk (V.drewN k) base gk K ms rs gl sv m1 m2 bv := ⟨h.blk, h.ls.drewN k, h.bad, h.own, h.lo⟩
end
theorem info62 : (Try.prog.info? 62).map (fun i => (i.zero, i.size, i.bytes)) = some (some (.agg (badV 0 (.slice none 0 0) (.slice none 0 0) 0)), 4, 64) := by kernel_rfl
theorem step_append_bad {ops : Array Oper} {o : Oper} {a : Act} {KK : Act → World → Prop} {Q : Exit → Act → World → Prop} {E : Prop} (w : World) (hgd : o.guard = none) (s x : Operand)
    (ho : o.op = .call { callee := .builtin .append, args := #[s, x], argTypes := #[47, 47] }) (base : Nat) (v : Value) (rs : List Bm) (hs : a.eval s = v) (hown : w.ownsRow base 62 4 v rs.length (bvals rs))
    (r : Bm) (g : Nat) (hx : a.eval x = .slice (some ⟨g, 0, none⟩) 1 1) (hB : w.heap[g]? = some (.cells (badV (r.e.k : Nat) (.slice r.A1 r.e.xs.length r.c1) (.slice r.A2 r.e.ys.length r.c2) (r.e.t : Nat)) 62 (0, 0)))
    (hlen : rs.length + 1 ≤ 1000000) (hbase : base ≤ w.heap.size)
    (h : ∀ g2 cap w', w'.ownsRow base 62 4 (.slice (some ⟨g2, 0, none⟩) (rs.length + 1) cap) (rs.length + 1) (bvals (rs ++ [r])) → w.grownBy w' v.ownBlock → (v.ownBlock = some g2 ∨ g2 = w.heap.size) → KK (a.put o.dst (.slice (some ⟨g2, 0, none⟩) (rs.length + 1) cap)) w') :
    if Region.wanted o (yielded ops a.tmps) = true then Oper.wp Try.prog o a w KK Q else E := by
  obtain ⟨i0, hi, hz0, hz1, hz2⟩ := info_parts info62
  have hw : Region.wanted o (yielded ops a.tmps) = true := by simp [Region.wanted, hgd]
  rw [if_pos hw]
  refine wp_append_lies w s x 47 ho base 62 i0 _ 4 64 Try.underlying47 hi hz0 hz1 hz2 rfl (by decide) v rs.length (bvals rs) hs hown ⟨g, 0, none⟩ 1 1 r.cs hx rfl ?_ ?_ (by omega) (by unfold maxLen; omega) (by omega) hbase _ rfl ?_
  · intro j u hu
    match j, hu with
    | 0, hu => injection hu with hu; subst hu; rw [Addr.add_lit, cell_of_row w g _ _ _ _ hB]; rfl
    | 1, hu => injection hu with hu; subst hu; rw [Addr.add_lit, cell_of_row w g _ _ _ _ hB]; rfl
    | 2, hu => injection hu with hu; subst hu; rw [Addr.add_lit, cell_of_row w g _ _ _ _ hB]; rfl
    | 3, hu => injection hu with hu; subst hu; rw [Addr.add_lit, cell_of_row w g _ _ _ _ hB]; rfl
    | n + 4, hu => simp [Bm.cs] at hu
  · intro u hu
    simp only [Bm.cs, List.mem_cons, List.not_mem_nil, or_false] at hu
    rcases hu with rfl | rfl | rfl | rfl <;> rfl
  · intro g2 cap w' h1 h2 h3 _
    refine h g2 cap w' ?_ h2 h3
    rw [bvals_append]
    have e : bvals [r] = r.cs := by simp [bvals]
    rw [e]; exact h1
end Go.Proofs.Ytpibmccofjpelaa
