/- The document's book in memory. No statement is proved here. -/
import Derived.Test.YtpibmccofjpelaaFresh
import Derived.Test.YtpibmccofjpelaaRefFind
import Derived.Test.YtpibmccofjpelaaTwoBook
import Derived.Deep.MidRow
namespace Go.Proofs.Ytpibmccofjpelaa
open Go.RowKit Go.Maps
set_option linter.unusedVariables false
set_option linter.unusedSimpArgs false

/-- The cells of the document's book. -/
def rkA (kind : Int) (key : List Nat) (mv bv : Value) : Array Value := ((.int .i64 kind : Value) :: (vals key ++ [mv, bv])).toArray
section
variable (kind : Int) (key : List Nat) (mv bv : Value)
theorem rkA_0 : (rkA kind key mv bv)[0]? = some (.int .i64 kind) := by unfold rkA; simp
theorem rkA_17 (hk : key.length = 16) : (rkA kind key mv bv)[17]? = some mv := by
  unfold rkA
  rw [List.getElem?_toArray, List.getElem?_cons_succ, List.getElem?_append_right (by rw [vals_length]; omega), vals_length, hk]
  rfl
theorem rkA_18 (hk : key.length = 16) : (rkA kind key mv bv)[18]? = some bv := by
  unfold rkA
  rw [List.getElem?_toArray, List.getElem?_cons_succ, List.getElem?_append_right (by rw [vals_length]; omega), vals_length, hk]
  rfl
theorem rkA_size (hk : key.length = 16) : (rkA kind key mv bv).size = 19 := by unfold rkA; simp [vals_length, hk]
theorem rkA_set17 (hk : key.length = 16) (v : Value) : (rkA kind key mv bv).setIfInBounds 17 v = rkA kind key v bv := by
  unfold rkA
  rw [List.setIfInBounds_toArray, List.set_cons_succ, List.set_append_right _ _ (by rw [vals_length]; omega), vals_length, hk]
  rfl
theorem rkA_set18 (hk : key.length = 16) (v : Value) : (rkA kind key mv bv).setIfInBounds 18 v = rkA kind key mv v := by
  unfold rkA
  rw [List.setIfInBounds_toArray, List.set_cons_succ, List.set_append_right _ _ (by rw [vals_length]; omega), vals_length, hk]
  rfl
end
/-- Block gr is the document's book: its marks are cs, its bad events bs. -/
structure Rk (V : World) (base gr : Nat) (kind : Int) (key : List Nat) (cs : List Mm) (bs : List Bm) (mv bv : Value) : Prop where
  blk : V.heap[gr]? = some (.cells (rkA kind key mv bv) 49 (0, 0))
  mr : V.ownsRow base 67 2 mv cs.length (kvals cs)
  bd : V.ownsRow base 62 4 bv bs.length (bvals bs)
  om : ∀ x ∈ cs, Own V base x.A x.m.1.length x.c x.m.1
  ob : ∀ r ∈ bs, r.ok V base
  lo : base ≤ gr
  k16 : key.length = 16
/-- The blocks that the document's book may change. -/
def rkS (gr : Nat) (mv bv : Value) (i : Nat) : Prop := i = gr ∨ mv.ownBlock = some i ∨ bv.ownBlock = some i
section
variable {V V2 : World} {base gr : Nat} {kind : Int} {key : List Nat} {cs : List Mm} {bs : List Bm} {mv bv : Value}
theorem Rk.lt (h : Rk V base gr kind key cs bs mv bv) : gr < V.heap.size := heap_lt h.blk
theorem Rk.cell (h : Rk V base gr kind key cs bs mv bv) (i : Nat) : V.cell? ⟨gr, i, none⟩ = (rkA kind key mv bv)[i]? := cell_of_row V gr i _ _ _ h.blk
theorem Rk.fz (h : Rk V base gr kind key cs bs mv bv) (i : Nat) : V.frozen? ⟨gr, i, none⟩ = false := by have := h.blk; simp [World.frozen?, this]
theorem Rk.c0 (h : Rk V base gr kind key cs bs mv bv) : V.cell? ⟨gr, 0, none⟩ = some (.int .i64 kind) := by rw [h.cell, rkA_0]
theorem Rk.c17 (h : Rk V base gr kind key cs bs mv bv) : V.cell? ⟨gr, 17, none⟩ = some mv := by rw [h.cell, rkA_17 _ _ _ _ h.k16]
theorem Rk.c18 (h : Rk V base gr kind key cs bs mv bv) : V.cell? ⟨gr, 18, none⟩ = some bv := by rw [h.cell, rkA_18 _ _ _ _ h.k16]
theorem Rk.in_ (h : Rk V base gr kind key cs bs mv bv) {i : Nat} (hi : rkS gr mv bv i) : i < V.heap.size := by
  rcases hi with rfl | e | e
  · exact h.lt
  · obtain ⟨_, cur, hc⟩ := own_at h.mr e; exact heap_lt hc
  · obtain ⟨_, cur, hc⟩ := own_at h.bd e; exact heap_lt hc
theorem Rk.low (h : Rk V base gr kind key cs bs mv bv) {i : Nat} (hi : rkS gr mv bv i) : base ≤ i := by
  rcases hi with rfl | e | e
  · exact h.lo
  · exact (own_at h.mr e).1
  · exact (own_at h.bd e).1
/-- A block of bytes. -/
def Byt (V : World) (i : Nat) : Prop := ∃ cs, V.heap[i]? = some (.cells cs 5 (0, 0))
theorem Byt.lt {i : Nat} (h : Byt V i) : i < V.heap.size := by obtain ⟨cs, h⟩ := h; exact heap_lt h
theorem Byt.other {i : Nat} (h : Byt V i) : Other V i := by obtain ⟨cs, h⟩ := h; exact ⟨cs, 5, (0, 0), h, by decide, by decide, by decide, by decide⟩
theorem Own.staysB {n c : Nat} {A : Option Addr} {xs : List Nat} (h : Own V base A n c xs) (hk : ∀ i, Byt V i → V2.heap[i]? = V.heap[i]?) : Own V2 base A n c xs := by
  refine ⟨h.1, h.2.1, h.2.2.1, ?_⟩
  rcases h.2.2.2 with h0 | ⟨g, cap, cur, hv, hg, hb, r⟩
  · exact .inl h0
  · exact .inr ⟨g, cap, cur, hv, hg, (hk g ⟨cur, hb⟩).trans hb, r⟩
theorem Bm.ok.staysB {r : Bm} (h : r.ok V base) (hk : ∀ i, Byt V i → V2.heap[i]? = V.heap[i]?) : r.ok V2 base := ⟨h.1.staysB hk, h.2.1.staysB hk, h.2.2⟩
theorem Rk.not_byt (h : Rk V base gr kind key cs bs mv bv) {i : Nat} (hi : rkS gr mv bv i) : ¬ Byt V i := by
  rintro ⟨cs, hb⟩
  rcases hi with rfl | e | e
  · rw [h.blk] at hb; injection hb with hb; injection hb with _ hb; cases hb
  · obtain ⟨_, cur, hc⟩ := own_at h.mr e
    rw [hc] at hb; injection hb with hb; injection hb with _ hb; cases hb
  · obtain ⟨_, cur, hc⟩ := own_at h.bd e
    rw [hc] at hb; injection hb with hb; injection hb with _ hb; cases hb
/-- The document's book stays where its blocks do, and blocks of bytes. -/
theorem Rk.stays (h : Rk V base gr kind key cs bs mv bv) (hs : ∀ i, rkS gr mv bv i → V2.heap[i]? = V.heap[i]?) (ho : ∀ i, Byt V i → V2.heap[i]? = V.heap[i]?) : Rk V2 base gr kind key cs bs mv bv :=
  ⟨(hs _ (.inl rfl)).trans h.blk, owns_stays h.mr (fun g hg => hs _ (.inr (.inl hg))), owns_stays h.bd (fun g hg => hs _ (.inr (.inr hg))), fun x hx => (h.om x hx).staysB ho, fun r hr => (h.ob r hr).staysB ho, h.lo, h.k16⟩
theorem Rk.below (h : Rk V base gr kind key cs bs mv bv) (hb : Below V.heap.size V V2) : Rk V2 base gr kind key cs bs mv bv := h.stays (fun i hi => hb.block i (h.in_ hi)) (fun i hi => hb.block i hi.lt)
theorem Rk.drewN (h : Rk V base gr kind key cs bs mv bv) (k : Nat) : Rk (V.drewN k) base gr kind key cs bs mv bv := ⟨h.blk, h.mr, h.bd, h.om, h.ob, h.lo, h.k16⟩
/-- The key of the document's book is loaded. -/
theorem Rk.loadKey (h : Rk V base gr kind key cs bs mv bv) : (loadVar 23 ⟨gr, 1, none⟩).run Try.prog V = .ok (.agg (arrV key)) V := by
  refine run_loadVar_mid (P := Try.prog) V gr 1 23 (vals key) _ (fun j v hv => ?_) Try.underlying23 rfl ?_
  · have hj : j < key.length := by
      rcases Nat.lt_or_ge j key.length with h1 | h1
      · exact h1
      · rw [List.getElem?_eq_none (by rw [vals_length]; exact h1)] at hv; cases hv
    rw [h.cell]
    unfold rkA
    rw [List.getElem?_toArray, Nat.add_comm, List.getElem?_cons_succ, List.getElem?_append_left (by rw [vals_length]; exact hj), hv]
  · rw [vals_length, h.k16]; kernel_rfl
/-- The marks as a row that is read. -/
theorem Rk.krow (h : Rk V base gr kind key cs bs mv bv) : ∃ A cp, mv = .slice A cs.length cp ∧ KRow V A cs.length cs := by
  rcases h.mr.2 with ⟨hv, hn⟩ | ⟨g, cap, cur, hv, _⟩
  · have : cs = [] := List.eq_nil_of_length_eq_zero hn
    subst this
    exact ⟨none, 0, hv, rfl, fun j x hx => by simp at hx⟩
  · refine ⟨_, cap, hv, rfl, fun j x hx => ⟨g, rfl, ?_, ?_, (h.om x (List.mem_of_getElem? hx)).row⟩⟩
    · have := h.mr.cells (g := g) (by rw [hv]; rfl) (j * 2 + 0) _ (kvals_at cs j 0 x hx (by omega))
      rw [Addr.add_lit] at this; simpa using this
    · have := h.mr.cells (g := g) (by rw [hv]; rfl) (j * 2 + 1) _ (kvals_at cs j 1 x hx (by omega))
      rw [Addr.add_lit] at this; simpa using this
theorem Rk.brow (h : Rk V base gr kind key cs bs mv bv) : ∃ A cp, bv = .slice A bs.length cp ∧ BRow V A bs.length bs := by
  rcases h.bd.2 with ⟨hv, hn⟩ | ⟨g, cap, cur, hv, _⟩
  · have : bs = [] := List.eq_nil_of_length_eq_zero hn
    subst this
    exact ⟨none, 0, hv, rfl, fun j x hx => by simp at hx⟩
  · have C : ∀ j v, (bvals bs)[j]? = some v → V.cell? ⟨g, j, none⟩ = some v := fun j v hj => by
      have := h.bd.cells (g := g) (by rw [hv]; rfl) j v hj
      rwa [Addr.add_lit, Nat.zero_add] at this
    refine ⟨_, cap, hv, rfl, fun j x hx => ⟨g, rfl, ?_, ?_, ?_, ?_, (h.ob x (List.mem_of_getElem? hx)).1.row, (h.ob x (List.mem_of_getElem? hx)).2.1.row⟩⟩
    · have := C (j * 4 + 0) _ (bvals_at bs j 0 x hx (by omega)); simpa using this
    · have := C (j * 4 + 1) _ (bvals_at bs j 1 x hx (by omega)); simpa using this
    · have := C (j * 4 + 2) _ (bvals_at bs j 2 x hx (by omega)); simpa using this
    · have := C (j * 4 + 3) _ (bvals_at bs j 3 x hx (by omega)); simpa using this
end
/-- Each mark has the tag of its message and number. -/
def Tgs (K : Kd) (cs : List Mm) : Prop := ∀ i x, cs[i]? = some x → x.m.2 = tagK K x.m.1 (i + 1)
/-- A kind as the document's book has it. -/
def Kd.num : Kd → Int
  | .ideal => 0
  | .sip _ => 1
end Go.Proofs.Ytpibmccofjpelaa
