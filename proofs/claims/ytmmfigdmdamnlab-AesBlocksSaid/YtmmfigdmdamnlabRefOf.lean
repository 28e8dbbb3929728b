/- The document's key: its words, and the table. No statement is proved here. -/
import Derived.Test.YtmmfigdmdamnlabRefShift
namespace Go.Proofs.Ytmmfigdmdamnlab
open Go.RowKit
set_option linter.unusedVariables false

/-- A key of the document's: words and table, in memory below block B. -/
structure RKey (V : World) (base : Nat) (key : List Nat) (gt c gb cb : Nat) (vs : List Value) : Prop where
  hi : WIn V base (some ⟨gt, 0, none⟩) 44 c (wd key) vs
  hb : U.Row V V.heap.size (some ⟨gb, 0, none⟩) 256 cb (boxTo 256)
theorem RKey.below {V V2 : World} {base : Nat} {key : List Nat} {gt c gb cb : Nat} {vs : List Value} (h : RKey V base key gt c gb cb vs) (hb : Below V.heap.size V V2) : RKey V2 base key gt c gb cb vs := ⟨h.hi.below hb, (h.hb.below hb).wider hb.size⟩
theorem WIn.lower {V : World} {base base' k c : Nat} {A : Option Addr} {ws : Nat → List Nat} {vs : List Value} (h : WIn V base A k c ws vs) (hb : base' ≤ base) : WIn V base' A k c ws vs := by
  refine ⟨⟨h.top.1, ?_⟩, fun j hj => ?_⟩
  · rcases h.top.2 with h0 | ⟨g, cap, cur, hv, hg, hrest⟩
    · exact .inl h0
    · exact .inr ⟨g, cap, cur, hv, by omega, hrest⟩
  · obtain ⟨g, e, hg, hB⟩ := h.rows j hj
    exact ⟨g, e, by omega, hB⟩
theorem own_head {w : World} {base n c : Nat} {A : Option Addr} {xs : List Nat} (h : U.Own w base A n c xs) (hn : 0 < n) : ∃ g, A = some ⟨g, 0, none⟩ := by
  rcases h.2.2.2 with ⟨_, h0⟩ | ⟨g, cap, cur, hv, _⟩
  · omega
  · injection hv with e; exact ⟨g, e⟩
/-- Block g is just two values. -/
def Blk2 (V : World) (g : Nat) (a b : Value) : Prop := V.heap[g]? = some (.cells #[a, b] 31 (0, 0))
theorem Blk2.lt {V : World} {g : Nat} {a b : Value} (h : Blk2 V g a b) : g < V.heap.size := by
  rcases Nat.lt_or_ge g V.heap.size with hlt | hge
  · exact hlt
  · unfold Blk2 at h; rw [Array.getElem?_eq_none hge] at h; cases h
theorem Blk2.c0 {V : World} {g : Nat} {a b : Value} (h : Blk2 V g a b) : V.cell? ⟨g, 0, none⟩ = some a := by rw [cell_of_row V g 0 _ _ _ h]; rfl
theorem Blk2.c1 {V : World} {g : Nat} {a b : Value} (h : Blk2 V g a b) : V.cell? ⟨g, 1, none⟩ = some b := by rw [cell_of_row V g 1 _ _ _ h]; rfl
theorem Blk2.frozen {V : World} {g : Nat} {a b : Value} (h : Blk2 V g a b) (i : Nat) : V.frozen? ⟨g, i, none⟩ = false := by
  unfold Blk2 at h
  simp [World.frozen?, h]
theorem Blk2.below {V V' : World} {g B : Nat} {a b : Value} (h : Blk2 V g a b) (hb : Below B V V') (hg : g < B) : Blk2 V' g a b := (hb.block g hg).trans h
theorem Blk2.set {V : World} {g : Nat} {a b : Value} (h : Blk2 V g a b) (x y : Value) : Blk2 ((V.setCell ⟨g, 0, none⟩ x).setCell ⟨g, 1, none⟩ y) g x y := by
  unfold Blk2 at h ⊢
  simp [World.setCell, Array.getElem?_modify, h]
theorem Blk2.new (V : World) (a b : Value) : Blk2 (V.alloc (.cells #[a, b] 31)) V.heap.size a b := heap_alloc_new V _
theorem Blk2.load {V : World} {g : Nat} {a b : Value} (h : Blk2 V g a b) : (loadVar 31 ⟨g, 0, none⟩).run Try.prog V = .ok (.agg #[a, b]) V := by
  have h0 := h.c0
  have h1 := h.c1
  go_simp
attribute [local irreducible] wd boxTo

set_option maxRecDepth 20000 in
set_option maxHeartbeats 1000000 in
theorem refOf_any (key : List Nat) (lk : key.length = 16) (bk : ∀ x ∈ key, x < 256) (w : World) :
    Calls Try.prog 14 #[.agg (arrV key)] w fun e w' => ∃ gt c gb cb vs, e = .returned (.agg #[.slice (some ⟨gt, 0, none⟩) 44 c, .slice (some ⟨gb, 0, none⟩) 256 cb]) ∧ RKey w' w.heap.size key gt c gb cb vs ∧ Below w.heap.size w w' := by
  have LK := Lib.hid lk
  have BK := Lib.hid bk
  have K0 := Lib.hid ((Blk.new w 27 key).alloc (.cells #[.slice none 0 0, .slice none 0 0] 31))
  have B0 := Lib.hid (((Below.refl w.heap.size w).alloc (Nat.le_refl _) (Obj.cells (arrV key) 27)).alloc (by simp) (Obj.cells #[.slice none 0 0, .slice none 0 0] 31))
  have T0 : Hid (Blk2 ((w.alloc (.cells (arrV key) 27)).alloc (.cells #[.slice none 0 0, .slice none 0 0] 31)) (w.heap.size + 1) (.slice none 0 0) (.slice none 0 0)) := by
    have := Blk2.new (w.alloc (.cells (arrV key) 27)) (.slice none 0 0) (.slice none 0 0)
    rw [show (w.alloc (.cells (arrV key) 27)).heap.size = w.heap.size + 1 by simp] at this
    exact this
  clear lk bk
  go_enter Try.func14, Try.ntmps14
  go_wp2_with (first
    | (go_at_call 23; refine (refBox_any _).mono ?_; intro e X1 hG; obtain ⟨Ab, cb, he, hOb, hb1⟩ := hG.out (boxTo_length 256); obtain ⟨gb, hgb⟩ := own_head hOb (by omega); subst hgb; subst he; have OB := Lib.hid hOb; have K1 := Lib.hid (K0.out.below hb1 K0.out.lt); have S1 := Lib.hid (B0.out.trans (hb1.mono B0.out.size)); have T1 := Lib.hid (T0.out.below hb1 T0.out.lt); have Z1 := Lib.hid (show w.heap.size + 1 < X1.heap.size from T1.out.lt); clear hOb hb1 hG)
    | (refine wpList_load_mid rfl 27 _ rfl w.heap.size 0 rfl (vals key) _ (whole_range K1.out LK.out) Try.underlying27 rfl (sz16 key LK.out) ?_)
    | (go_at_call 24; refine (refWords_any key LK.out BK.out gb 0 cb _ OB.out.row).mono ?_; rintro e X2 ⟨gt, c, vs, rfl, hi, hb2⟩; have HI := Lib.hid hi; have OB2 := Lib.hid (OB.out.below hb2); have S2 := Lib.hid (S1.out.trans (hb2.mono S1.out.size)); have Z2 := Lib.hid S1.out.size; have T2 := Lib.hid (T1.out.below hb2 T1.out.lt); have t0 := T2.out.c0; have t1 := T2.out.c1; have f0 := T2.out.frozen 0; have f1 := T2.out.frozen 1; clear hi hb2)
    | fail)
  have ZZ : Hid (w.heap.size + 1 < ((w.alloc (.cells (arrV key) 27)).alloc (.cells #[.slice none 0 0, .slice none 0 0] 31)).heap.size) := T0.out.lt
  have T3 := T2.out.set (.slice (some ⟨gt, 0, none⟩) 44 c) (.slice (some ⟨gb, 0, none⟩) 256 cb)
  have hgr : X2.grownBy ((X2.setCell ⟨w.heap.size + 1, 0, none⟩ (.slice (some ⟨gt, 0, none⟩) 44 c)).setCell ⟨w.heap.size + 1, 1, none⟩ (.slice (some ⟨gb, 0, none⟩) 256 cb)) (some (w.heap.size + 1)) := grown_setCell (g := w.heap.size + 1) (p := ⟨w.heap.size + 1, 1, none⟩) (grown_setCell (g := w.heap.size + 1) (p := ⟨w.heap.size + 1, 0, none⟩) ⟨rfl, rfl, rfl, Nat.le_refl _, fun _ _ _ => rfl⟩ (.inl rfl) _) (.inl rfl) _
  refine bodyPost_ret (results_arr Try.results14 _ _ (w.heap.size + 1) rfl _ T3.load) rfl ⟨gt, c, gb, cb, vs, rfl, ⟨(HI.out.kept hgr ?_).lower Z2.out, ?_⟩, S2.out.grown hgr S2.out.size (fun k hk => by injection hk with hk; omega)⟩
  · intro g hg
    injection hg with hg
    subst hg
    have hz := Z1.out
    refine ⟨fun e => ?_, fun j hj g' e => ?_⟩
    · have := (HI.out.top.lt gt rfl).1
      injection e with e
      have e' : gt = w.heap.size + 1 := e
      omega
    · obtain ⟨g2, e2, hb2, _⟩ := HI.out.rows j hj
      rw [e] at e2
      injection e2 with e2
      injection e2 with e2
      injection e2 with e2
      injection e2 with e2
      omega
  · have hO := OB2.out.kept hgr (.inr (fun e => by
      have h1 := (OB.out.2.2.lt gb rfl).1
      injection e with e
      have h2 : gb = w.heap.size + 1 := e
      have h3 := ZZ.out
      omega))
    exact hO.row
end Go.Proofs.Ytmmfigdmdamnlab
