/- A book keeps a bad event. No statement is proved here. -/
import Derived.Test.YtpibmccofjpelaaGBook
namespace Go.Proofs.Ytpibmccofjpelaa
open Go.RowKit Go.Maps
set_option linter.unusedVariables false
set_option linter.unusedSimpArgs false

section
variable {V V2 : World} {base gk : Nat} {K : Kd} {ms : List Mark} {rs : List Bm} {gl : Nat} {sv : Value} {m1 m2 : Nat} {bv : Value}
theorem Gk.apart (h : Gk V base gk K ms rs gl sv m1 m2 bv) : gk ≠ gl ∧ gk ≠ m1 ∧ gk ≠ m2 ∧ sv.ownBlock ≠ some gk ∧ bv.ownBlock ≠ some gk ∧ bv.ownBlock ≠ some gl ∧ bv.ownBlock ≠ some m1 ∧ bv.ownBlock ≠ some m2 ∧ (bv.ownBlock = none ∨ bv.ownBlock ≠ sv.ownBlock) := by
  have hb : ∀ g, bv.ownBlock = some g → ∃ cur, V.heap[g]? = some (.cells cur 62 (0, 0)) := fun g hg => (own_at h.bad hg).2
  have hs : ∀ g, sv.ownBlock = some g → ∃ cur, V.heap[g]? = some (.cells cur 99 (0, 0)) := fun g hg => (own_at h.ls.row hg).2
  refine ⟨fun e => ?_, fun e => ?_, fun e => ?_, fun e => ?_, fun e => ?_, fun e => ?_, fun e => ?_, fun e => ?_, ?_⟩
  · have h1 := h.blk; rw [e, h.ls.blk] at h1; simp at h1
  · have h1 := h.blk; rw [e] at h1; exact num_not h.ls.n1 h1
  · have h1 := h.blk; rw [e] at h1; exact num_not h.ls.n2 h1
  · obtain ⟨cur, hc⟩ := hs _ e; rw [h.blk] at hc; simp at hc
  · obtain ⟨cur, hc⟩ := hb _ e; rw [h.blk] at hc; simp at hc
  · obtain ⟨cur, hc⟩ := hb _ e; rw [h.ls.blk] at hc; simp at hc
  · obtain ⟨cur, hc⟩ := hb _ e; exact num_not h.ls.n1 hc
  · obtain ⟨cur, hc⟩ := hb _ e; exact num_not h.ls.n2 hc
  · cases hv : bv.ownBlock with
    | none => exact .inl rfl
    | some g =>
      right
      intro e
      obtain ⟨c1, h1⟩ := hb g hv
      obtain ⟨c2, h2⟩ := hs g e.symm
      rw [h1] at h2; simp at h2
/-- A list of marks stays where its blocks do. -/
theorem MSt.keep (h : MSt V base gl sv m1 m2 ms) {row : Option Nat} (hg : V.grownBy V2 row) (h1 : some gl ≠ row) (h2 : some m1 ≠ row) (h3 : some m2 ≠ row) (h4 : sv.ownBlock = none ∨ sv.ownBlock ≠ row) : MSt V2 base gl sv m1 m2 ms :=
  ⟨(hg.block gl h.lt h1).trans h.blk, h.n1.kept hg h2, h.n2.kept hg h3, h.row.kept hg h4, h.few, h.bytes, h.ne⟩
end
theorem blk_set2 {V : World} {gl : Nat} {a b c : Value} {t : TypeId} (h : V.heap[gl]? = some (.cells #[a, b, c] t (0, 0))) (x : Value) : (V.setCell ⟨gl, 2, none⟩ x).heap[gl]? = some (.cells #[a, b, x] t (0, 0)) := by
  simp [World.setCell, Array.getElem?_modify, h]
theorem Other.alloc {V : World} {i : Nat} (h : Other V i) (o : Obj) : Other (V.alloc o) i := by
  obtain ⟨cs, t, q, hb, r⟩ := h
  exact ⟨cs, t, q, (Below.heap_alloc V o i (heap_lt hb)).trans hb, r⟩
theorem note_end {base gk : Nat} {K : Kd} {ms : List Mark} {rs : List Bm} {gl : Nat} {sv : Value} {m1 m2 : Nat} {bv : Value} {w X1 W2 : World} {r : Bm} {o : Obj} {g2 cap : Nat} (hb1 : Below w.heap.size w X1) (H1 : Gk X1 base gk K ms rs gl sv m1 m2 bv) (hb : base ≤ w.heap.size)
    (o1 : Own X1 w.heap.size r.A1 r.e.xs.length r.c1 r.e.xs) (o2 : Own X1 w.heap.size r.A2 r.e.ys.length r.c2 r.e.ys) (hn1 : r.e.xs.length ≤ 1000) (hn2 : r.e.ys.length ≤ 1000)
    (e2 : W2.heap[gk]? = some (.cells #[K.face, .pointer (some ⟨gl, 0, none⟩), bv] 80 (0, 0))) (ho2 : W2.ownsRow base 62 4 (.slice (some ⟨g2, 0, none⟩) (rs.length + 1) cap) (rs.length + 1) (bvals (rs ++ [r])))
    (hg2 : (X1.alloc o).grownBy W2 bv.ownBlock) (hat2 : bv.ownBlock = some g2 ∨ g2 = (X1.alloc o).heap.size) :
    Gk (W2.setCell ⟨gk, 2, none⟩ (.slice (some ⟨g2, 0, none⟩) (rs.length + 1) cap)) base gk K ms (rs ++ [r]) gl sv m1 m2 (.slice (some ⟨g2, 0, none⟩) (rs.length + 1) cap) ∧ Only w (W2.setCell ⟨gk, 2, none⟩ (.slice (some ⟨g2, 0, none⟩) (rs.length + 1) cap)) (fun i => i = gk ∨ bv.ownBlock = some i) ∧ ((Value.slice (some ⟨g2, 0, none⟩) (rs.length + 1) cap).ownBlock = bv.ownBlock ∨ ∃ i, w.heap.size ≤ i ∧ (Value.slice (some ⟨g2, 0, none⟩) (rs.length + 1) cap).ownBlock = some i) := by
  have hs1 := hb1.size
  have hlt := H1.lt
  obtain ⟨a1, a2, a3, a4, a5, a6, a7, a8, a9⟩ := H1.apart
  have hgs : W2.grownBy (W2.setCell ⟨gk, 2, none⟩ (.slice (some ⟨g2, 0, none⟩) (rs.length + 1) cap)) (some gk) := grown_set (World.grownBy.refl W2 _) rfl _
  have hne : g2 ≠ gk := fun e => by
    subst e
    rcases hat2 with h | h
    · exact a5 h
    · simp at h; omega
  have far : ∀ i, i ≠ gk → bv.ownBlock ≠ some i → i < X1.heap.size → (W2.setCell ⟨gk, 2, none⟩ (.slice (some ⟨g2, 0, none⟩) (rs.length + 1) cap)).heap[i]? = X1.heap[i]? := fun i h1 h2 h3 =>
    (Below.heap_setCell W2 _ _ i h1).trans ((hg2.block i (by simp; omega) (fun e => h2 e.symm)).trans (Below.heap_alloc X1 o i h3))
  have oth : ∀ i, Other X1 i → (W2.setCell ⟨gk, 2, none⟩ (.slice (some ⟨g2, 0, none⟩) (rs.length + 1) cap)).heap[i]? = X1.heap[i]? := fun i hi =>
    far i (fun e => H1.not_other (.inl e) hi) (fun e => H1.not_other (.inr (.inr e)) hi) (other_lt hi)
  refine ⟨⟨blk_set2 e2 _, ?_, ?_, ?_, H1.lo⟩, ⟨hg2.os.trans hb1.os, hg2.tape.trans hb1.tape, hg2.output.trans hb1.output, ?_, ?_⟩, ?_⟩
  · refine MSt.keep (MSt.keep (H1.ls.below ((Below.refl _ _).alloc (Nat.le_refl _) o)) hg2 (fun e => a6 e.symm) (fun e => a7 e.symm) (fun e => a8 e.symm) ?_) hgs (fun e => ?_) (fun e => ?_) (fun e => ?_) ?_
    · rcases a9 with a9 | a9
      · rw [a9]; cases sv.ownBlock <;> simp
      · right; exact fun e => a9 e.symm
    · injection e with e; exact a1 e.symm
    · injection e with e; exact a2 e.symm
    · injection e with e; exact a3 e.symm
    · right; exact a4
  · have e : (rs ++ [r]).length = rs.length + 1 := by simp
    rw [e]
    exact ho2.kept hgs (.inr (fun e => by injection e with e; exact hne e))
  · intro x hx
    rcases List.mem_append.1 hx with hx | hx
    · exact (H1.own x hx).stays oth
    · simp only [List.mem_singleton] at hx
      subst hx
      exact Bm.ok.stays (r := x) ⟨o1.lower hb, o2.lower hb, hn1, hn2⟩ oth
  · have h1 := hg2.size
    simp [World.setCell] at h1 ⊢
    omega
  · intro i hi hn
    exact (far i (fun e => hn (.inl e)) (fun e => hn (.inr e)) (by omega)).trans (hb1.block i hi)
  · rcases hat2 with h | h
    · exact .inl h.symm
    · exact .inr ⟨g2, by rw [h]; simp; omega, rfl⟩
set_option maxRecDepth 20000 in
set_option maxHeartbeats 2000000 in
theorem note_any (base gk : Nat) (K : Kd) (ms : List Mark) (rs : List Bm) (gl : Nat) (sv : Value) (m1 m2 : Nat) (bv : Value) (k t : Nat) (A1 A2 : Option Addr) (n1 c1 n2 c2 : Nat) (xs ys : List Nat) (B : Nat) (w : World) (h : Gk w base gk K ms rs gl sv m1 m2 bv) (hx : Row w B A1 n1 c1 xs) (hy : Row w B A2 n2 c2 ys) (hB : B ≤ w.heap.size) (hn1 : n1 ≤ 1000) (hn2 : n2 ≤ 1000) (hb : base ≤ w.heap.size) (hl : rs.length < 1000) :
    Calls Try.prog 41 #[.pointer (some ⟨gk, 0, none⟩), .int .i64 (k : Nat), .slice A1 n1 c1, .slice A2 n2 c2, .int .u64 (t : Nat)] w fun e w' => e = .returned (.tuple #[]) ∧ ∃ bv' r, r.e = ⟨k, xs, ys, t⟩ ∧ Gk w' base gk K ms (rs ++ [r]) gl sv m1 m2 bv' ∧ Only w w' (fun i => i = gk ∨ bv.ownBlock = some i) ∧ (bv'.ownBlock = bv.ownBlock ∨ ∃ i, w.heap.size ≤ i ∧ bv'.ownBlock = some i) := by
  obtain rfl : n1 = xs.length := hx.len.symm
  obtain rfl : n2 = ys.length := hy.len.symm
  have CP := Lib.hid (copied_any (k : Nat) (t : Nat) A1 A2 xs.length c1 ys.length c2 xs ys B w.drew hx.drew hy.drew hB hn1 hn2)
  have H := Lib.hid h
  have d0 := h.c2
  clear h hx hy
  go_enter Try.func41, Try.ntmps41
  go_wp2
  go_region_law (first
    | (refine step_append_bad (X1.alloc (.cells (badV (k : Nat) (.slice A1' xs.length c1') (.slice A2' ys.length c2') (t : Nat)) 62)) rfl _ _ rfl base bv rs rfl (H1.out.bad.alloc _) ⟨⟨k, xs, ys, t⟩, A1', c1', A2', c2'⟩ X1.heap.size rfl (heap_alloc_new X1 _) (by omega) (by have := HB1.out.size; simp at this ⊢; omega) ?_; intro g2 cap W2 ho2 hg2 hat2; have e2 : W2.heap[gk]? = some (.cells #[K.face, .pointer (some ⟨gl, 0, none⟩), bv] 80 (0, 0)) := (hg2.block gk (by have := H1.out.lt; simp; omega) (fun e => H1.out.apart.2.2.2.2.1 e.symm)).trans ((Below.heap_alloc X1 _ gk H1.out.lt).trans H1.out.blk); have v2 : W2.cell? ⟨gk, 2, none⟩ = some bv := by rw [cell_of_row W2 gk 2 _ _ _ e2]; rfl
       have f2 : W2.frozen? ⟨gk, 2, none⟩ = false := by simp [World.frozen?, e2]
       have E2 := Lib.hid e2; have HO2 := Lib.hid ho2; have HG2 := Lib.hid hg2; have HA2 := Lib.hid hat2; clear e2 ho2 hg2 hat2)
    | (go_simp; go_at_call 47; refine CP.out.mono ?_; rintro e X1 ⟨A1', c1', A2', c2', rfl, o1, o2, hb1⟩; have H1 := Lib.hid ((H.out.drewN 1).below hb1); have d1 := H1.out.c2; have dA : (X1.alloc (.cells (badV (k : Nat) (.slice A1' xs.length c1') (.slice A2' ys.length c2') (t : Nat)) 62)).cell? ⟨gk, 2, none⟩ = some bv := (H1.out.below ((Below.refl _ _).alloc (Nat.le_refl _) _)).c2
       have OO := Lib.hid (And.intro o1 o2); have HB1 := Lib.hid hb1; clear o1 o2 hb1))
  all_goals
    (have hend := note_end (r := ⟨⟨k, xs, ys, t⟩, A1', c1', A2', c2'⟩) (show Below w.heap.size w X1 from ⟨HB1.out.os, HB1.out.tape, HB1.out.output, HB1.out.size, HB1.out.block⟩) H1.out hb OO.out.1 OO.out.2 hn1 hn2 E2.out HO2.out HG2.out HA2.out
     exact bodyPost_end (results_none Try.results41 _ _ _) rfl ⟨rfl, _, _, rfl, hend.1, hend.2.1, hend.2.2⟩)
end Go.Proofs.Ytpibmccofjpelaa
