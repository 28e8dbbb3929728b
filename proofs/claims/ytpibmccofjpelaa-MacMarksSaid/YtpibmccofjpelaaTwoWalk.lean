/- The law of two books. No statement is proved here. -/
import Derived.Test.YtpibmccofjpelaaTwoBook
namespace Go.Proofs.Ytpibmccofjpelaa
open Go.RowKit Go.Maps
set_option linter.unusedVariables false
set_option linter.unusedSimpArgs false

theorem and_one (k : Int) : bits .and .i64 k 1 = 0 ∨ bits .and .i64 k 1 = 1 := by
  have e : bits .and .i64 k 1 = IntKind.i64.wrap (((BitVec.ofInt 64 k &&& BitVec.ofInt 64 1).toNat : Nat) : Int) := rfl
  rw [e, BitVec.toNat_and, show (BitVec.ofInt 64 1).toNat = 1 from rfl, Nat.and_one_is_mod]
  rcases Nat.mod_two_eq_zero_or_one (BitVec.ofInt 64 k).toNat with h | h
  · rw [h]; exact .inl (by decide)
  · rw [h]; exact .inr (by decide)
/-- Two books apart that have the same. -/
structure Duo (w : World) (K : Kd) (ga gb : Nat) (ms : List Mark) (ra rb : List Bm) (few : Nat) (W : World) : Prop where
  ex : ∃ la sa a1 a2 va lb sb b1 b2 vb, Gk W w.heap.size ga K ms ra la sa a1 a2 va ∧ Gk W w.heap.size gb K ms rb lb sb b1 b2 vb ∧ ∀ i, bkS ga la sa a1 a2 va i → ¬ bkS gb lb sb b1 b2 vb i
  mrk : ∀ m ∈ ms, m.1.length ≤ 1000
  la : ms.length ≤ few ∧ ra.length ≤ few ∧ rb.length ≤ few
  ev : ra.map (·.e) = rb.map (·.e)
  bel : Below w.heap.size w W
section
variable {w W W' : World} {K : Kd} {ga gb few g n c : Nat} {ms : List Mark} {ra rb : List Bm} {x : Cl} {A : Option Addr}
theorem Duo.call (h : Duo w K ga gb ms ra rb few W) (hb : Below W.heap.size W W') : Duo w K ga gb ms ra rb few W' := by
  obtain ⟨la, sa, a1, a2, va, lb, sb, b1, b2, vb, h1, h2, h3⟩ := h.ex
  exact ⟨⟨la, sa, a1, a2, va, lb, sb, b1, b2, vb, h1.below hb, h2.below hb, h3⟩, h.mrk, h.la, h.ev, h.bel.trans (hb.mono h.bel.size)⟩
theorem Duo.more {f2 : Nat} (h : Duo w K ga gb ms ra rb few W) (hf : few ≤ f2) : Duo w K ga gb ms ra rb f2 W := ⟨h.ex, h.mrk, ⟨Nat.le_trans h.la.1 hf, Nat.le_trans h.la.2.1 hf, Nat.le_trans h.la.2.2 hf⟩, h.ev, h.bel⟩
theorem Pair.duo (h : Pair w K ga gb ms ms ra rb few g x A n c W) (he : ra.map (·.e) = rb.map (·.e)) : Duo w K ga gb ms ra rb few W := ⟨h.ex, h.mka, ⟨h.la.1, h.la.2, h.lb.2⟩, he, h.bel⟩
theorem Duo.pair (h : Duo w K ga gb ms ra rb few W) (hr : Row W w.heap.size A n c x.xs) (hn : n ≤ 1000) : Pair w K ga gb ms ms ra rb few W.heap.size x A n c (W.alloc (.cells #[.bool x.v, .bool x.o, .slice A n c, .int .u64 (x.t : Nat)] 51)) :=
  have hB := (Below.refl W.heap.size W).alloc (Nat.le_refl _) (.cells #[.bool x.v, .bool x.o, .slice A n c, .int .u64 (x.t : Nat)] 51)
  have h' := h.call hB
  ⟨h'.ex, h.mrk, h.mrk, ⟨h.la.1, h.la.2.1⟩, ⟨h.la.1, h.la.2.2⟩, KB.new W x _, hr.below (below_low hB h.bel.size), hn, h'.bel⟩
theorem Pair.drew {ma mb : List Mark} (h : Pair w K ga gb ma mb ra rb few g x A n c W) : Pair w K ga gb ma mb ra rb few g x A n c W.drew := by
  obtain ⟨la, sa, a1, a2, va, lb, sb, b1, b2, vb, h1, h2, h3⟩ := h.ex
  exact ⟨⟨la, sa, a1, a2, va, lb, sb, b1, b2, vb, h1.drewN 1, h2.drewN 1, h3⟩, h.mka, h.mkb, h.la, h.lb, h.kb, h.row, h.len, h.bel.drew⟩
theorem Duo.marksA (h : Duo w K ga gb ms ra rb few W) : Calls Try.prog 30 #[.pointer (some ⟨ga, 0, none⟩)] W fun e w' => ∃ g, e = .returned (.slice (some ⟨g, 0, none⟩) ms.length ms.length) ∧ ∃ cs, cs.map (·.m) = ms ∧ WSt W g ms.length cs w' := by
  obtain ⟨la, sa, a1, a2, va, lb, sb, b1, b2, vb, h1, h2, h3⟩ := h.ex
  exact marks_any w.heap.size ga K ms ra la sa a1 a2 va W h1 h.mrk
theorem Duo.badA (h : Duo w K ga gb ms ra rb few W) (hf : few ≤ 1000) : Calls Try.prog 32 #[.pointer (some ⟨ga, 0, none⟩)] W fun e w' => ∃ g cs, e = .returned (.slice (some ⟨g, 0, none⟩) ra.length ra.length) ∧ cs.map (·.e) = ra.map (·.e) ∧ ZSt W g ra.length cs w' := by
  obtain ⟨la, sa, a1, a2, va, lb, sb, b1, b2, vb, h1, h2, h3⟩ := h.ex
  exact bad_any w.heap.size ga K ms ra la sa a1 a2 va W h1 (Nat.le_trans h.la.2.1 hf)
theorem Duo.symm (h : Duo w K ga gb ms ra rb few W) : Duo w K gb ga ms rb ra few W := by
  obtain ⟨la, sa, a1, a2, va, lb, sb, b1, b2, vb, h1, h2, h3⟩ := h.ex
  exact ⟨⟨lb, sb, b1, b2, vb, la, sa, a1, a2, va, h2, h1, fun i hi hj => h3 i hj hi⟩, h.mrk, ⟨h.la.1, h.la.2.2, h.la.2.1⟩, h.ev.symm, h.bel⟩
theorem Duo.badB (h : Duo w K ga gb ms ra rb few W) (hf : few ≤ 1000) : Calls Try.prog 32 #[.pointer (some ⟨gb, 0, none⟩)] W fun e w' => ∃ g cs, e = .returned (.slice (some ⟨g, 0, none⟩) ra.length ra.length) ∧ cs.map (·.e) = ra.map (·.e) ∧ ZSt W g ra.length cs w' := by
  have hl : rb.length = ra.length := by have := congrArg List.length h.ev; simp at this; omega
  have := h.symm.badA hf
  rw [hl, ← h.ev] at this
  exact this
theorem Duo.drewN (h : Duo w K ga gb ms ra rb few W) (k : Nat) : Duo w K ga gb ms ra rb few (W.drewN k) := by
  obtain ⟨la, sa, a1, a2, va, lb, sb, b1, b2, vb, h1, h2, h3⟩ := h.ex
  exact ⟨⟨la, sa, a1, a2, va, lb, sb, b1, b2, vb, h1.drewN k, h2.drewN k, h3⟩, h.mrk, h.la, h.ev, below_drewN h.bel⟩
theorem KRow.below {L : Nat} {cs : List Mm} (h : KRow W A L cs) (hb : Below W.heap.size W W') : KRow W' A L cs := ⟨h.len, fun j x hx => by
  obtain ⟨g, rfl, e0, e1, r⟩ := h.at_ j x hx
  have lt : g < W.heap.size := cell_lt e0
  exact ⟨g, rfl, (hb.cell (p := ⟨g, _, none⟩) lt).trans e0, (hb.cell (p := ⟨g, _, none⟩) lt).trans e1, (r.below hb).wider hb.size⟩⟩
theorem BRow.below {L : Nat} {cs : List Bm} (h : BRow W A L cs) (hb : Below W.heap.size W W') : BRow W' A L cs := ⟨h.len, fun j x hx => by
  obtain ⟨g, rfl, e0, e1, e2, e3, r, s⟩ := h.at_ j x hx
  have lt : g < W.heap.size := cell_lt e0
  exact ⟨g, rfl, (hb.cell (p := ⟨g, _, none⟩) lt).trans e0, (hb.cell (p := ⟨g, _, none⟩) lt).trans e1, (hb.cell (p := ⟨g, _, none⟩) lt).trans e2, (hb.cell (p := ⟨g, _, none⟩) lt).trans e3, (r.below hb).wider hb.size, (s.below hb).wider hb.size⟩⟩
end
def DuRel (w : World) (K : Kd) (ga gb n : Nat) (i : Value) (wr : World) : Prop :=
  ∃ (k : Nat) (ms : List Mark) (ra rb : List Bm), k ≤ n ∧ i = .int .i64 (k : Nat) ∧ Duo w K ga gb ms ra rb (2 * k) wr
attribute [local irreducible] findM firstM ssum tgT tgM tgE vrB vrE
set_option maxHeartbeats 4000000 in
set_option maxRecDepth 20000 in
theorem two_walk (kind : Int) (key : List Nat) (hk : key.length = 16) (bk : ∀ x ∈ key, x < 256) (A : Option Addr) (n c : Nat) (cs : List Cl) (w : World) (h : CallsIn w w.heap.size A n cs) (hn : n ≤ 9223372036854775807) :
    Calls Try.prog 11 #[.int .i64 kind, .agg (arrV key), .slice A n c] w fun e w' => e = .returned (.bool true) ∧ Below w.heap.size w w' := by
  have SP := Lib.hid (fun W => macSpeaks_true W)
  have GR : Hid (∀ W, Below w.heap.size w W → Calls Try.prog 22 #[.slice A n c] W fun e w' => ∃ b : Bool, e = .returned (.bool b) ∧ (b = false → small cs) ∧ Below W.heap.size W w') := fun W hW => by
    have h2 : CallsIn W W.heap.size A n cs := by
      obtain ⟨h1, h2, h3⟩ := h.below hW
      refine ⟨h1, h2, fun a ha hn => ?_⟩
      obtain ⟨g1, g2, g3⟩ := h3 a ha hn
      refine ⟨g1, Nat.lt_of_lt_of_le g2 hW.size, fun j x hx => ?_⟩
      obtain ⟨A', m, c', e0, e1, e2, e3, r, ht⟩ := g3 j x hx
      exact ⟨A', m, c', e0, e1, e2, e3, r.wider hW.size, ht⟩
    exact great_any A n c cs W h2 hn
  obtain ⟨kd, K, hkd, hKd, NW⟩ : ∃ (kd : Int) (K : Kd), bits .and .i64 kind 1 = kd ∧ Hid K.ok ∧ Hid (∀ W, w.heap.size ≤ W.heap.size → Calls Try.prog 21 #[.int .i64 kd, .agg (arrV key)] W fun e w' => ∃ gk gl m1 m2, e = .returned (.tuple #[.pointer (some ⟨gk, 0, none⟩), .int .i64 0]) ∧ Gk w' w.heap.size gk K [] [] gl (.slice none 0 0) m1 m2 (.slice none 0 0) ∧ (W.heap.size ≤ gk ∧ W.heap.size ≤ gl ∧ W.heap.size ≤ m1 ∧ W.heap.size ≤ m2) ∧ Below W.heap.size W w') := by
    rcases and_one kind with e | e
    · exact ⟨0, .ideal, e, trivial, fun W hW => gnew_ideal key w.heap.size W hW⟩
    · exact ⟨1, .sip key, e, ⟨hk, bk⟩, fun W hW => gnew_sip key w.heap.size W hW hk⟩
  have HKd : Hid K.ok := hKd
  have HC := Lib.hid h
  have hlen := h.1
  have B0 := Lib.hid ((Below.refl w.heap.size w).alloc (Nat.le_refl _) (Obj.cells (arrV key) 23))
  have K0 := Lib.hid (Blk.new w 23 key)
  have SZ := Lib.hid (sz16 key hk)
  have HK := Lib.hid (And.intro hk bk)
  clear h hk bk hKd
  go_enter Try.func11, Try.ntmps11
  go_wp2_with (first
    | (go_at_call 20; refine (SP.out _).mono ?_; rintro e X1 ⟨rfl, hb⟩; have B1 := Lib.hid (B0.out.trans (hb.mono B0.out.size)); have K1 : Hid (Blk X1 w.heap.size 23 key) := (hb.block _ (heap_lt K0.out)).trans K0.out; clear hb)
    | (refine wpList_load_mid rfl 23 _ rfl w.heap.size 0 rfl (vals key) _ (whole_range K1.out HK.out.1) Try.underlying23 rfl SZ.out ?_)
    | (have := K1; go_at_call 21; refine (NW.out _ B1.out.size).mono ?_; rintro e X2 ⟨ga, la, a1, a2, rfl, hG, hll, hb⟩; have G2 := Lib.hid hG; have B2 := Lib.hid (B1.out.trans (hb.mono B1.out.size)); have K2 : Hid (Blk X2 w.heap.size 23 key) := (hb.block _ (heap_lt K1.out)).trans K1.out; clear hG hll hb K1)
    | (have := K2; refine wpList_load_mid rfl 23 _ rfl w.heap.size 0 rfl (vals key) _ (whole_range K2.out HK.out.1) Try.underlying23 rfl SZ.out ?_)
    | (have := K2; go_at_call 21; refine (NW.out _ B2.out.size).mono ?_; rintro e X3 ⟨gb, lb, b1, b2, rfl, hG, hll, hb⟩; have U0 : Hid (Duo w K ga gb [] [] [] 0 X3) := ⟨⟨_, _, _, _, _, _, _, _, _, _, G2.out.below hb, hG, fun i hi hj => (by have q := G2.out.in_ hi; rcases hj with e | (e | e | e | e) | e; omega; omega; omega; omega; cases e; cases e)⟩, fun m hm => absurd hm (by simp), by simp, rfl, B2.out.trans (hb.mono B2.out.size)⟩; clear hG hll hb K2)
    | (have := U0; go_at_call 22; refine (GR.out _ U0.out.bel).mono ?_; rintro e X4 ⟨b, rfl, hsm, hb⟩; have U1 := Lib.hid (U0.out.call hb); replace hsm := Lib.hid hsm; clear hb U0; cases b))
  · have sm := hsm.out trivial
    have sm1 := sm.1
    have SM := Lib.hid sm.2
    clear sm hsm GR NW SP B0 K0 B1 B2 G2
    go_loopw [47] (DuRel w K ga gb n) (fun i _ => n - (intOf i).toNat)
    case atStart => exact ⟨0, [], [], [], by omega, rfl, U1.out⟩
    case round =>
      clear U1
      obtain ⟨k, ms, ra, rb, hkn, rfl, hU⟩ := hrel
      by_cases hlt : k < n
      · have g1 : ((k : Int) < (n : Int)) = True := eq_true (by omega)
        have hx : cs[k]? = some cs[k] := List.getElem?_eq_getElem (by omega)
        have hmem := SM.out cs[k] (List.getElem_mem _)
        generalize cs[k] = x at *
        obtain ⟨b, off, rfl, hb, A', m, c', e0, e1, e2, e3, r, ht⟩ := (HC.out.below hU.bel).at_ k x hx
        have rl := r.len
        obtain ⟨xv, xo, xs, xt⟩ := x
        have hm100 : m ≤ 1000 := by simp only at hmem rl; omega
        have JJ := Lib.hid (Duo.pair (x := ⟨xv, xo, xs, xt⟩) hU r hm100)
        have hev := Lib.hid hU.ev
        clear hU r hx
        cases xv
        · go_wp2
          have H0 := Lib.hid JJ.out.drew.kb
          have J0 := Lib.hid JJ.out.drew
          refine wp_region_held_drew (S := fun W => KB W wr.heap.size ⟨false, xo, xs, xt⟩ (.slice A' m c')) (by kernel_rfl) H0.out (fun _ => ?_)
          generalize World.drew _ = V0 at *
          refine wpAnyH_take (i := 0) (v := .pointer (some ⟨wr.heap.size, 0, none⟩)) rfl (by kernel_rfl) (by kernel_rfl) (by kernel_rfl) (fun _ _ _ h => h) (Or.inl ⟨by rfl, fun W hW => by clear hW; go_simp⟩) H0.out ?_
          try simp only [Act.put, List.getElem_toArray, List.getElem_cons_succ, List.getElem_cons_zero, List.setIfInBounds_toArray, List.set_cons_zero, List.set_cons_succ]
          refine wpAnyH_take (i := 1) (v := .bool false) rfl (by kernel_rfl) (by kernel_rfl) (by kernel_rfl) (fun _ _ _ h => h) (Or.inl ⟨by rfl, fun W hW => by have hc := hW.c0; clear hW; go_simp⟩) H0.out ?_
          try simp only [Act.put, List.getElem_toArray, List.getElem_cons_succ, List.getElem_cons_zero, List.setIfInBounds_toArray, List.set_cons_zero, List.set_cons_succ]
          refine wpAnyH_take (i := 2) (v := .bool false) rfl (by kernel_rfl) (by kernel_rfl) (by kernel_rfl) (fun _ _ _ h => h) (Or.inl ⟨by rfl, fun W hW => by clear hW; go_simp⟩) H0.out ?_
          try simp only [Act.put, List.getElem_toArray, List.getElem_cons_succ, List.getElem_cons_zero, List.setIfInBounds_toArray, List.set_cons_zero, List.set_cons_succ]
          refine wpAnyH_take (i := 3) (v := undef) rfl (by kernel_rfl) (by kernel_rfl) (by kernel_rfl) (fun _ _ _ h => h) (Or.inr ⟨by rfl, rfl⟩) H0.out ?_
          try simp only [Act.put, List.getElem_toArray, List.getElem_cons_succ, List.getElem_cons_zero, List.setIfInBounds_toArray, List.set_cons_zero, List.set_cons_succ]
          refine wpAnyH_take (i := 4) (v := undef) rfl (by kernel_rfl) (by kernel_rfl) (by kernel_rfl) (fun _ _ _ h => h) (Or.inr ⟨by rfl, rfl⟩) H0.out ?_
          try simp only [Act.put, List.getElem_toArray, List.getElem_cons_succ, List.getElem_cons_zero, List.setIfInBounds_toArray, List.set_cons_zero, List.set_cons_succ]
          refine wpAnyH_take (i := 5) (v := undef) rfl (by kernel_rfl) (by kernel_rfl) (by kernel_rfl) (fun _ _ _ h => h) (Or.inr ⟨by rfl, rfl⟩) H0.out ?_
          try simp only [Act.put, List.getElem_toArray, List.getElem_cons_succ, List.getElem_cons_zero, List.setIfInBounds_toArray, List.set_cons_zero, List.set_cons_succ]
          refine wpAnyH_take (i := 6) (v := undef) rfl (by kernel_rfl) (by kernel_rfl) (by kernel_rfl) (fun _ _ _ h => h) (Or.inr ⟨by rfl, rfl⟩) H0.out ?_
          try simp only [Act.put, List.getElem_toArray, List.getElem_cons_succ, List.getElem_cons_zero, List.setIfInBounds_toArray, List.set_cons_zero, List.set_cons_succ]
          refine wpAnyH_take (i := 7) (v := undef) rfl (by kernel_rfl) (by kernel_rfl) (by kernel_rfl) (fun _ _ _ h => h) (Or.inr ⟨by rfl, rfl⟩) H0.out ?_
          try simp only [Act.put, List.getElem_toArray, List.getElem_cons_succ, List.getElem_cons_zero, List.setIfInBounds_toArray, List.set_cons_zero, List.set_cons_succ]
          refine wpAnyH_take (i := 8) (v := undef) rfl (by kernel_rfl) (by kernel_rfl) (by kernel_rfl) (fun _ _ _ h => h) (Or.inr ⟨by rfl, rfl⟩) H0.out ?_
          try simp only [Act.put, List.getElem_toArray, List.getElem_cons_succ, List.getElem_cons_zero, List.setIfInBounds_toArray, List.set_cons_zero, List.set_cons_succ]
          refine wpAnyH_take (i := 9) (v := undef) rfl (by kernel_rfl) (by kernel_rfl) (by kernel_rfl) (fun _ _ _ h => h) (Or.inr ⟨by rfl, rfl⟩) H0.out ?_
          try simp only [Act.put, List.getElem_toArray, List.getElem_cons_succ, List.getElem_cons_zero, List.setIfInBounds_toArray, List.set_cons_zero, List.set_cons_succ]
          refine wpAnyH_take (i := 10) (v := undef) rfl (by kernel_rfl) (by kernel_rfl) (by kernel_rfl) (fun _ _ _ h => h) (Or.inr ⟨by rfl, rfl⟩) H0.out ?_
          try simp only [Act.put, List.getElem_toArray, List.getElem_cons_succ, List.getElem_cons_zero, List.setIfInBounds_toArray, List.set_cons_zero, List.set_cons_succ]
          refine wpAnyH_take (i := 11) (v := undef) rfl (by kernel_rfl) (by kernel_rfl) (by kernel_rfl) (fun _ _ _ h => h) (Or.inr ⟨by rfl, rfl⟩) H0.out ?_
          try simp only [Act.put, List.getElem_toArray, List.getElem_cons_succ, List.getElem_cons_zero, List.setIfInBounds_toArray, List.set_cons_zero, List.set_cons_succ]
          refine wpAnyH_take (i := 12) (v := undef) rfl (by kernel_rfl) (by kernel_rfl) (by kernel_rfl) (fun _ _ _ h => h) (Or.inr ⟨by rfl, rfl⟩) H0.out ?_
          try simp only [Act.put, List.getElem_toArray, List.getElem_cons_succ, List.getElem_cons_zero, List.setIfInBounds_toArray, List.set_cons_zero, List.set_cons_succ]
          refine wpAnyH_take (i := 13) (v := undef) rfl (by kernel_rfl) (by kernel_rfl) (by kernel_rfl) (fun _ _ _ h => h) (Or.inr ⟨by rfl, rfl⟩) H0.out ?_
          try simp only [Act.put, List.getElem_toArray, List.getElem_cons_succ, List.getElem_cons_zero, List.setIfInBounds_toArray, List.set_cons_zero, List.set_cons_succ]
          refine wpAnyH_take (i := 14) (v := undef) rfl (by kernel_rfl) (by kernel_rfl) (by kernel_rfl) (fun _ _ _ h => h) (Or.inr ⟨by rfl, rfl⟩) H0.out ?_
          try simp only [Act.put, List.getElem_toArray, List.getElem_cons_succ, List.getElem_cons_zero, List.setIfInBounds_toArray, List.set_cons_zero, List.set_cons_succ]
          refine wpAnyH_take (i := 15) (v := undef) rfl (by kernel_rfl) (by kernel_rfl) (by kernel_rfl) (fun _ _ _ h => h) (Or.inr ⟨by rfl, rfl⟩) H0.out ?_
          try simp only [Act.put, List.getElem_toArray, List.getElem_cons_succ, List.getElem_cons_zero, List.setIfInBounds_toArray, List.set_cons_zero, List.set_cons_succ]
          refine wpAnyH_take (i := 16) (v := .bool false) rfl (by kernel_rfl) (by kernel_rfl) (by kernel_rfl) (fun _ _ _ h => h) (Or.inl ⟨by rfl, fun W hW => by clear hW; go_simp⟩) H0.out ?_
          try simp only [Act.put, List.getElem_toArray, List.getElem_cons_succ, List.getElem_cons_zero, List.setIfInBounds_toArray, List.set_cons_zero, List.set_cons_succ]
          refine wpAnyH_take (i := 17) (v := .bool false) rfl (by kernel_rfl) (by kernel_rfl) (by kernel_rfl) (fun _ _ _ h => h) (Or.inl ⟨by rfl, fun W hW => by clear hW; go_simp⟩) H0.out ?_
          try simp only [Act.put, List.getElem_toArray, List.getElem_cons_succ, List.getElem_cons_zero, List.setIfInBounds_toArray, List.set_cons_zero, List.set_cons_succ]
          refine wpAnyH_take (i := 18) (v := .pointer (some ⟨wr.heap.size, 0, none⟩)) rfl (by kernel_rfl) (by kernel_rfl) (by kernel_rfl) (fun _ _ _ h => h) (Or.inl ⟨by rfl, fun W hW => by clear hW; go_simp⟩) H0.out ?_
          try simp only [Act.put, List.getElem_toArray, List.getElem_cons_succ, List.getElem_cons_zero, List.setIfInBounds_toArray, List.set_cons_zero, List.set_cons_succ]
          refine wpAnyH_take (i := 19) (v := .bool false) rfl (by kernel_rfl) (by kernel_rfl) (by kernel_rfl) (fun _ _ _ h => h) (Or.inl ⟨by rfl, fun W hW => by have hc := hW.c0; clear hW; go_simp⟩) H0.out ?_
          try simp only [Act.put, List.getElem_toArray, List.getElem_cons_succ, List.getElem_cons_zero, List.setIfInBounds_toArray, List.set_cons_zero, List.set_cons_succ]
          refine wpAnyH_take (i := 20) (v := .bool true) rfl (by kernel_rfl) (by kernel_rfl) (by kernel_rfl) (fun _ _ _ h => h) (Or.inl ⟨by rfl, fun W hW => by clear hW; go_simp⟩) H0.out ?_
          try simp only [Act.put, List.getElem_toArray, List.getElem_cons_succ, List.getElem_cons_zero, List.setIfInBounds_toArray, List.set_cons_zero, List.set_cons_succ]
          refine wpAnyH_take (i := 21) (v := .bool true) rfl (by kernel_rfl) (by kernel_rfl) (by kernel_rfl) (fun _ _ _ h => h) (Or.inl ⟨by rfl, fun W hW => by clear hW; go_simp⟩) H0.out ?_
          try simp only [Act.put, List.getElem_toArray, List.getElem_cons_succ, List.getElem_cons_zero, List.setIfInBounds_toArray, List.set_cons_zero, List.set_cons_succ]
          refine wpAnyH_take (i := 22) (v := .pointer (some ⟨ga, 0, none⟩)) rfl (by kernel_rfl) (by kernel_rfl) (by kernel_rfl) (fun _ _ _ h => h) (Or.inl ⟨by rfl, fun W hW => by clear hW; go_simp⟩) H0.out ?_
          try simp only [Act.put, List.getElem_toArray, List.getElem_cons_succ, List.getElem_cons_zero, List.setIfInBounds_toArray, List.set_cons_zero, List.set_cons_succ]
          refine wpAnyH_take (i := 23) (v := .pointer (some ⟨wr.heap.size, 2, none⟩)) rfl (by kernel_rfl) (by kernel_rfl) (by kernel_rfl) (fun _ _ _ h => h) (Or.inl ⟨by rfl, fun W hW => by clear hW; go_simp⟩) H0.out ?_
          try simp only [Act.put, List.getElem_toArray, List.getElem_cons_succ, List.getElem_cons_zero, List.setIfInBounds_toArray, List.set_cons_zero, List.set_cons_succ]
          refine wpAnyH_take (i := 24) (v := (.slice A' m c')) rfl (by kernel_rfl) (by kernel_rfl) (by kernel_rfl) (fun _ _ _ h => h) (Or.inl ⟨by rfl, fun W hW => by have hc := hW.c2; clear hW; go_simp⟩) H0.out ?_
          try simp only [Act.put, List.getElem_toArray, List.getElem_cons_succ, List.getElem_cons_zero, List.setIfInBounds_toArray, List.set_cons_zero, List.set_cons_succ]
          refine wpAnyH_take (i := 26) (v := .pointer (some ⟨gb, 0, none⟩)) rfl (by kernel_rfl) (by kernel_rfl) (by kernel_rfl) (fun _ _ _ h => h) (Or.inl ⟨by rfl, fun W hW => by clear hW; go_simp⟩) H0.out ?_
          try simp only [Act.put, List.getElem_toArray, List.getElem_cons_succ, List.getElem_cons_zero, List.setIfInBounds_toArray, List.set_cons_zero, List.set_cons_succ]
          refine wpAnyH_take (i := 27) (v := .pointer (some ⟨wr.heap.size, 2, none⟩)) rfl (by kernel_rfl) (by kernel_rfl) (by kernel_rfl) (fun _ _ _ h => h) (Or.inl ⟨by rfl, fun W hW => by clear hW; go_simp⟩) H0.out ?_
          try simp only [Act.put, List.getElem_toArray, List.getElem_cons_succ, List.getElem_cons_zero, List.setIfInBounds_toArray, List.set_cons_zero, List.set_cons_succ]
          refine wpAnyH_take (i := 28) (v := (.slice A' m c')) rfl (by kernel_rfl) (by kernel_rfl) (by kernel_rfl) (fun _ _ _ h => h) (Or.inl ⟨by rfl, fun W hW => by have hc := hW.c2; clear hW; go_simp⟩) H0.out ?_
          try simp only [Act.put, List.getElem_toArray, List.getElem_cons_succ, List.getElem_cons_zero, List.setIfInBounds_toArray, List.set_cons_zero, List.set_cons_succ]
          refine wpAnyH_ready (rs := [25]) (by kernel_rfl) (by simp) ?_
          refine AllReadyH.cons rfl (fun K hK => ?_) AllReadyH.nil
          go_simp
          go_at_call 25
          refine (J0.out.tagA HKd.out (by omega)).mono ?_
          rintro e V1_ ⟨rfl, ra1, ev1, J1⟩
          have H1_ := Lib.hid J1.kb
          replace J1 := Lib.hid J1
          replace ev1 := Lib.hid ev1
          refine hK.out _ _ H1_.out (fun _ => ?_)
          clear hK K
          try simp only [Act.put, List.getElem_toArray, List.getElem_cons_succ, List.getElem_cons_zero, List.setIfInBounds_toArray, List.set_cons_zero, List.set_cons_succ]
          refine wpAnyH_ready (rs := [29]) (by kernel_rfl) (by simp) ?_
          refine AllReadyH.cons rfl (fun K hK => ?_) AllReadyH.nil
          go_simp
          go_at_call 25
          refine (J1.out.symm.tagA HKd.out (by omega)).mono ?_
          rintro e V2_ ⟨rfl, rb1, ev2, J2⟩
          have H2_ := Lib.hid J2.kb
          replace J2 := Lib.hid J2
          replace ev2 := Lib.hid ev2
          refine hK.out _ _ H2_.out (fun _ => ?_)
          clear hK K
          try simp only [Act.put, List.getElem_toArray, List.getElem_cons_succ, List.getElem_cons_zero, List.setIfInBounds_toArray, List.set_cons_zero, List.set_cons_succ]
          refine wpAnyH_take (i := 30) (v := .bool false) rfl (by kernel_rfl) (by kernel_rfl) (by kernel_rfl) (fun _ _ _ h => h) (Or.inl ⟨by rfl, fun W hW => by clear hW; go_simp⟩) H2_.out ?_
          try simp only [Act.put, List.getElem_toArray, List.getElem_cons_succ, List.getElem_cons_zero, List.setIfInBounds_toArray, List.set_cons_zero, List.set_cons_succ]
          refine wpAnyH_take (i := 31) (v := .bool false) rfl (by kernel_rfl) (by kernel_rfl) (by kernel_rfl) (fun _ _ _ h => h) (Or.inl ⟨by rfl, fun W hW => by clear hW; go_simp⟩) H2_.out ?_
          try simp only [Act.put, List.getElem_toArray, List.getElem_cons_succ, List.getElem_cons_zero, List.setIfInBounds_toArray, List.set_cons_zero, List.set_cons_succ]
          refine wpAnyH_take (i := 32) (v := .bool false) rfl (by kernel_rfl) (by kernel_rfl) (by kernel_rfl) (fun _ _ _ h => h) (Or.inl ⟨by rfl, fun W hW => by clear hW; go_simp⟩) H2_.out ?_
          try simp only [Act.put, List.getElem_toArray, List.getElem_cons_succ, List.getElem_cons_zero, List.setIfInBounds_toArray, List.set_cons_zero, List.set_cons_succ]
          refine wpAnyH_done (by kernel_rfl) ?_ _
          clear H0 H1_ H2_
          go_wp2
          go_roundw
          case rel => exact ⟨k + 1, _, ra1, rb1, by omega, by go_num, (J2.out.symm.duo (by rw [ev1.out, ev2.out, hev.out])).more (by omega)⟩
          case measure => simp [intOf]; omega
        · go_wp2
          have H0 := Lib.hid JJ.out.drew.kb
          have J0 := Lib.hid JJ.out.drew
          refine wp_region_held_drew (S := fun W => KB W wr.heap.size ⟨true, xo, xs, xt⟩ (.slice A' m c')) (by kernel_rfl) H0.out (fun _ => ?_)
          generalize World.drew _ = V0 at *
          refine wpAnyH_take (i := 0) (v := .pointer (some ⟨wr.heap.size, 0, none⟩)) rfl (by kernel_rfl) (by kernel_rfl) (by kernel_rfl) (fun _ _ _ h => h) (Or.inl ⟨by rfl, fun W hW => by clear hW; go_simp⟩) H0.out ?_
          try simp only [Act.put, List.getElem_toArray, List.getElem_cons_succ, List.getElem_cons_zero, List.setIfInBounds_toArray, List.set_cons_zero, List.set_cons_succ]
          refine wpAnyH_take (i := 1) (v := .bool true) rfl (by kernel_rfl) (by kernel_rfl) (by kernel_rfl) (fun _ _ _ h => h) (Or.inl ⟨by rfl, fun W hW => by have hc := hW.c0; clear hW; go_simp⟩) H0.out ?_
          try simp only [Act.put, List.getElem_toArray, List.getElem_cons_succ, List.getElem_cons_zero, List.setIfInBounds_toArray, List.set_cons_zero, List.set_cons_succ]
          refine wpAnyH_take (i := 2) (v := .bool true) rfl (by kernel_rfl) (by kernel_rfl) (by kernel_rfl) (fun _ _ _ h => h) (Or.inl ⟨by rfl, fun W hW => by clear hW; go_simp⟩) H0.out ?_
          try simp only [Act.put, List.getElem_toArray, List.getElem_cons_succ, List.getElem_cons_zero, List.setIfInBounds_toArray, List.set_cons_zero, List.set_cons_succ]
          refine wpAnyH_take (i := 3) (v := .pointer (some ⟨ga, 0, none⟩)) rfl (by kernel_rfl) (by kernel_rfl) (by kernel_rfl) (fun _ _ _ h => h) (Or.inl ⟨by rfl, fun W hW => by clear hW; go_simp⟩) H0.out ?_
          try simp only [Act.put, List.getElem_toArray, List.getElem_cons_succ, List.getElem_cons_zero, List.setIfInBounds_toArray, List.set_cons_zero, List.set_cons_succ]
          refine wpAnyH_take (i := 4) (v := .pointer (some ⟨wr.heap.size, 2, none⟩)) rfl (by kernel_rfl) (by kernel_rfl) (by kernel_rfl) (fun _ _ _ h => h) (Or.inl ⟨by rfl, fun W hW => by clear hW; go_simp⟩) H0.out ?_
          try simp only [Act.put, List.getElem_toArray, List.getElem_cons_succ, List.getElem_cons_zero, List.setIfInBounds_toArray, List.set_cons_zero, List.set_cons_succ]
          refine wpAnyH_take (i := 5) (v := (.slice A' m c')) rfl (by kernel_rfl) (by kernel_rfl) (by kernel_rfl) (fun _ _ _ h => h) (Or.inl ⟨by rfl, fun W hW => by have hc := hW.c2; clear hW; go_simp⟩) H0.out ?_
          try simp only [Act.put, List.getElem_toArray, List.getElem_cons_succ, List.getElem_cons_zero, List.setIfInBounds_toArray, List.set_cons_zero, List.set_cons_succ]
          refine wpAnyH_take (i := 6) (v := .pointer (some ⟨wr.heap.size, 3, none⟩)) rfl (by kernel_rfl) (by kernel_rfl) (by kernel_rfl) (fun _ _ _ h => h) (Or.inl ⟨by rfl, fun W hW => by clear hW; go_simp⟩) H0.out ?_
          try simp only [Act.put, List.getElem_toArray, List.getElem_cons_succ, List.getElem_cons_zero, List.setIfInBounds_toArray, List.set_cons_zero, List.set_cons_succ]
          refine wpAnyH_take (i := 7) (v := .int .u64 (xt : Nat)) rfl (by kernel_rfl) (by kernel_rfl) (by kernel_rfl) (fun _ _ _ h => h) (Or.inl ⟨by rfl, fun W hW => by have hc := hW.c3; clear hW; go_simp⟩) H0.out ?_
          try simp only [Act.put, List.getElem_toArray, List.getElem_cons_succ, List.getElem_cons_zero, List.setIfInBounds_toArray, List.set_cons_zero, List.set_cons_succ]
          refine wpAnyH_take (i := 9) (v := .pointer (some ⟨gb, 0, none⟩)) rfl (by kernel_rfl) (by kernel_rfl) (by kernel_rfl) (fun _ _ _ h => h) (Or.inl ⟨by rfl, fun W hW => by clear hW; go_simp⟩) H0.out ?_
          try simp only [Act.put, List.getElem_toArray, List.getElem_cons_succ, List.getElem_cons_zero, List.setIfInBounds_toArray, List.set_cons_zero, List.set_cons_succ]
          refine wpAnyH_take (i := 10) (v := .pointer (some ⟨wr.heap.size, 2, none⟩)) rfl (by kernel_rfl) (by kernel_rfl) (by kernel_rfl) (fun _ _ _ h => h) (Or.inl ⟨by rfl, fun W hW => by clear hW; go_simp⟩) H0.out ?_
          try simp only [Act.put, List.getElem_toArray, List.getElem_cons_succ, List.getElem_cons_zero, List.setIfInBounds_toArray, List.set_cons_zero, List.set_cons_succ]
          refine wpAnyH_take (i := 11) (v := (.slice A' m c')) rfl (by kernel_rfl) (by kernel_rfl) (by kernel_rfl) (fun _ _ _ h => h) (Or.inl ⟨by rfl, fun W hW => by have hc := hW.c2; clear hW; go_simp⟩) H0.out ?_
          try simp only [Act.put, List.getElem_toArray, List.getElem_cons_succ, List.getElem_cons_zero, List.setIfInBounds_toArray, List.set_cons_zero, List.set_cons_succ]
          refine wpAnyH_take (i := 12) (v := .pointer (some ⟨wr.heap.size, 3, none⟩)) rfl (by kernel_rfl) (by kernel_rfl) (by kernel_rfl) (fun _ _ _ h => h) (Or.inl ⟨by rfl, fun W hW => by clear hW; go_simp⟩) H0.out ?_
          try simp only [Act.put, List.getElem_toArray, List.getElem_cons_succ, List.getElem_cons_zero, List.setIfInBounds_toArray, List.set_cons_zero, List.set_cons_succ]
          refine wpAnyH_take (i := 13) (v := .int .u64 (xt : Nat)) rfl (by kernel_rfl) (by kernel_rfl) (by kernel_rfl) (fun _ _ _ h => h) (Or.inl ⟨by rfl, fun W hW => by have hc := hW.c3; clear hW; go_simp⟩) H0.out ?_
          try simp only [Act.put, List.getElem_toArray, List.getElem_cons_succ, List.getElem_cons_zero, List.setIfInBounds_toArray, List.set_cons_zero, List.set_cons_succ]
          refine wpAnyH_ready (rs := [8]) (by kernel_rfl) (by simp) ?_
          refine AllReadyH.cons rfl (fun K hK => ?_) AllReadyH.nil
          go_simp
          go_at_call 23
          refine (J0.out.verA HKd.out (by omega) xt).mono ?_
          rintro e V1_ ⟨rfl, ra1, ev1, J1⟩
          have H1_ := Lib.hid J1.kb
          replace J1 := Lib.hid J1
          replace ev1 := Lib.hid ev1
          refine hK.out _ _ H1_.out (fun _ => ?_)
          clear hK K
          try simp only [Act.put, List.getElem_toArray, List.getElem_cons_succ, List.getElem_cons_zero, List.setIfInBounds_toArray, List.set_cons_zero, List.set_cons_succ]
          refine wpAnyH_ready (rs := [14]) (by kernel_rfl) (by simp) ?_
          refine AllReadyH.cons rfl (fun K hK => ?_) AllReadyH.nil
          go_simp
          go_at_call 23
          refine (J1.out.symm.verA HKd.out (by omega) xt).mono ?_
          rintro e V2_ ⟨rfl, rb1, ev2, J2⟩
          have H2_ := Lib.hid J2.kb
          replace J2 := Lib.hid J2
          replace ev2 := Lib.hid ev2
          refine hK.out _ _ H2_.out (fun _ => ?_)
          clear hK K
          try simp only [Act.put, List.getElem_toArray, List.getElem_cons_succ, List.getElem_cons_zero, List.setIfInBounds_toArray, List.set_cons_zero, List.set_cons_succ]
          refine wpAnyH_take (i := 15) (v := .bool false) rfl (by kernel_rfl) (by kernel_rfl) (by kernel_rfl) (fun _ _ _ h => h) (Or.inl ⟨by rfl, fun W hW => by clear hW; go_simp⟩) H2_.out ?_
          try simp only [Act.put, List.getElem_toArray, List.getElem_cons_succ, List.getElem_cons_zero, List.setIfInBounds_toArray, List.set_cons_zero, List.set_cons_succ]
          refine wpAnyH_take (i := 16) (v := .bool false) rfl (by kernel_rfl) (by kernel_rfl) (by kernel_rfl) (fun _ _ _ h => h) (Or.inl ⟨by rfl, fun W hW => by clear hW; go_simp⟩) H2_.out ?_
          try simp only [Act.put, List.getElem_toArray, List.getElem_cons_succ, List.getElem_cons_zero, List.setIfInBounds_toArray, List.set_cons_zero, List.set_cons_succ]
          refine wpAnyH_take (i := 17) (v := .bool false) rfl (by kernel_rfl) (by kernel_rfl) (by kernel_rfl) (fun _ _ _ h => h) (Or.inl ⟨by rfl, fun W hW => by clear hW; go_simp⟩) H2_.out ?_
          try simp only [Act.put, List.getElem_toArray, List.getElem_cons_succ, List.getElem_cons_zero, List.setIfInBounds_toArray, List.set_cons_zero, List.set_cons_succ]
          refine wpAnyH_take (i := 18) (v := .pointer (some ⟨wr.heap.size, 0, none⟩)) rfl (by kernel_rfl) (by kernel_rfl) (by kernel_rfl) (fun _ _ _ h => h) (Or.inl ⟨by rfl, fun W hW => by clear hW; go_simp⟩) H2_.out ?_
          try simp only [Act.put, List.getElem_toArray, List.getElem_cons_succ, List.getElem_cons_zero, List.setIfInBounds_toArray, List.set_cons_zero, List.set_cons_succ]
          refine wpAnyH_take (i := 19) (v := .bool true) rfl (by kernel_rfl) (by kernel_rfl) (by kernel_rfl) (fun _ _ _ h => h) (Or.inl ⟨by rfl, fun W hW => by have hc := hW.c0; clear hW; go_simp⟩) H2_.out ?_
          try simp only [Act.put, List.getElem_toArray, List.getElem_cons_succ, List.getElem_cons_zero, List.setIfInBounds_toArray, List.set_cons_zero, List.set_cons_succ]
          refine wpAnyH_take (i := 20) (v := .bool false) rfl (by kernel_rfl) (by kernel_rfl) (by kernel_rfl) (fun _ _ _ h => h) (Or.inl ⟨by rfl, fun W hW => by clear hW; go_simp⟩) H2_.out ?_
          try simp only [Act.put, List.getElem_toArray, List.getElem_cons_succ, List.getElem_cons_zero, List.setIfInBounds_toArray, List.set_cons_zero, List.set_cons_succ]
          refine wpAnyH_take (i := 21) (v := .bool false) rfl (by kernel_rfl) (by kernel_rfl) (by kernel_rfl) (fun _ _ _ h => h) (Or.inl ⟨by rfl, fun W hW => by clear hW; go_simp⟩) H2_.out ?_
          try simp only [Act.put, List.getElem_toArray, List.getElem_cons_succ, List.getElem_cons_zero, List.setIfInBounds_toArray, List.set_cons_zero, List.set_cons_succ]
          refine wpAnyH_take (i := 22) (v := undef) rfl (by kernel_rfl) (by kernel_rfl) (by kernel_rfl) (fun _ _ _ h => h) (Or.inr ⟨by rfl, rfl⟩) H2_.out ?_
          try simp only [Act.put, List.getElem_toArray, List.getElem_cons_succ, List.getElem_cons_zero, List.setIfInBounds_toArray, List.set_cons_zero, List.set_cons_succ]
          refine wpAnyH_take (i := 23) (v := undef) rfl (by kernel_rfl) (by kernel_rfl) (by kernel_rfl) (fun _ _ _ h => h) (Or.inr ⟨by rfl, rfl⟩) H2_.out ?_
          try simp only [Act.put, List.getElem_toArray, List.getElem_cons_succ, List.getElem_cons_zero, List.setIfInBounds_toArray, List.set_cons_zero, List.set_cons_succ]
          refine wpAnyH_take (i := 24) (v := undef) rfl (by kernel_rfl) (by kernel_rfl) (by kernel_rfl) (fun _ _ _ h => h) (Or.inr ⟨by rfl, rfl⟩) H2_.out ?_
          try simp only [Act.put, List.getElem_toArray, List.getElem_cons_succ, List.getElem_cons_zero, List.setIfInBounds_toArray, List.set_cons_zero, List.set_cons_succ]
          refine wpAnyH_take (i := 25) (v := undef) rfl (by kernel_rfl) (by kernel_rfl) (by kernel_rfl) (fun _ _ _ h => h) (Or.inr ⟨by rfl, rfl⟩) H2_.out ?_
          try simp only [Act.put, List.getElem_toArray, List.getElem_cons_succ, List.getElem_cons_zero, List.setIfInBounds_toArray, List.set_cons_zero, List.set_cons_succ]
          refine wpAnyH_take (i := 26) (v := undef) rfl (by kernel_rfl) (by kernel_rfl) (by kernel_rfl) (fun _ _ _ h => h) (Or.inr ⟨by rfl, rfl⟩) H2_.out ?_
          try simp only [Act.put, List.getElem_toArray, List.getElem_cons_succ, List.getElem_cons_zero, List.setIfInBounds_toArray, List.set_cons_zero, List.set_cons_succ]
          refine wpAnyH_take (i := 27) (v := undef) rfl (by kernel_rfl) (by kernel_rfl) (by kernel_rfl) (fun _ _ _ h => h) (Or.inr ⟨by rfl, rfl⟩) H2_.out ?_
          try simp only [Act.put, List.getElem_toArray, List.getElem_cons_succ, List.getElem_cons_zero, List.setIfInBounds_toArray, List.set_cons_zero, List.set_cons_succ]
          refine wpAnyH_take (i := 28) (v := undef) rfl (by kernel_rfl) (by kernel_rfl) (by kernel_rfl) (fun _ _ _ h => h) (Or.inr ⟨by rfl, rfl⟩) H2_.out ?_
          try simp only [Act.put, List.getElem_toArray, List.getElem_cons_succ, List.getElem_cons_zero, List.setIfInBounds_toArray, List.set_cons_zero, List.set_cons_succ]
          refine wpAnyH_take (i := 29) (v := undef) rfl (by kernel_rfl) (by kernel_rfl) (by kernel_rfl) (fun _ _ _ h => h) (Or.inr ⟨by rfl, rfl⟩) H2_.out ?_
          try simp only [Act.put, List.getElem_toArray, List.getElem_cons_succ, List.getElem_cons_zero, List.setIfInBounds_toArray, List.set_cons_zero, List.set_cons_succ]
          refine wpAnyH_take (i := 30) (v := undef) rfl (by kernel_rfl) (by kernel_rfl) (by kernel_rfl) (fun _ _ _ h => h) (Or.inr ⟨by rfl, rfl⟩) H2_.out ?_
          try simp only [Act.put, List.getElem_toArray, List.getElem_cons_succ, List.getElem_cons_zero, List.setIfInBounds_toArray, List.set_cons_zero, List.set_cons_succ]
          refine wpAnyH_take (i := 31) (v := .bool false) rfl (by kernel_rfl) (by kernel_rfl) (by kernel_rfl) (fun _ _ _ h => h) (Or.inl ⟨by rfl, fun W hW => by clear hW; go_simp⟩) H2_.out ?_
          try simp only [Act.put, List.getElem_toArray, List.getElem_cons_succ, List.getElem_cons_zero, List.setIfInBounds_toArray, List.set_cons_zero, List.set_cons_succ]
          refine wpAnyH_take (i := 32) (v := .bool false) rfl (by kernel_rfl) (by kernel_rfl) (by kernel_rfl) (fun _ _ _ h => h) (Or.inl ⟨by rfl, fun W hW => by clear hW; go_simp⟩) H2_.out ?_
          try simp only [Act.put, List.getElem_toArray, List.getElem_cons_succ, List.getElem_cons_zero, List.setIfInBounds_toArray, List.set_cons_zero, List.set_cons_succ]
          refine wpAnyH_done (by kernel_rfl) ?_ _
          clear H0 H1_ H2_
          go_wp2
          go_roundw
          case rel => exact ⟨k + 1, _, ra1, rb1, by omega, by go_num, (J2.out.symm.duo (by rw [ev1.out, ev2.out, hev.out])).more (by omega)⟩
          case measure => simp [intOf]; omega
      · have g1 : ((k : Int) < (n : Int)) = False := eq_false (by omega)
        have HU := Lib.hid hU
        have hla := hU.la
        clear hU
        go_wp2_with (first
          | (have := HU; go_at_call 30; refine HU.out.marksA.mono ?_; rintro e X5 ⟨g5, rfl, c5, ec5, z5⟩; have U5 := Lib.hid (HU.out.call z5.bel); have R5 := Lib.hid (z5.krow (by rw [← ec5]; simp)); replace ec5 := Lib.hid ec5; clear z5 HU)
          | (have := U5; go_at_call 30; refine U5.out.symm.marksA.mono ?_; rintro e X6 ⟨g6, rfl, c6, ec6, z6⟩; have U6 := Lib.hid (U5.out.call z6.bel); have R6 := Lib.hid (z6.krow (by rw [← ec6]; simp)); have R56 := Lib.hid (R5.out.below z6.bel); replace ec6 := Lib.hid ec6; clear z6 U5)
          | (have := U6; go_at_call 29; refine (sameMarks_any _ _ ms.length ms.length ms.length c5 c6 X6 R56.out R6.out (by rw [ec5.out, ec6.out]) (by omega)).mono ?_; rintro e X7 ⟨rfl, k7, rfl⟩; have U7 := Lib.hid (U6.out.drewN k7); clear U6)
          | (have := U7; go_at_call 32; refine (U7.out.badA (by omega)).mono ?_; rintro e X8 ⟨g8, c8, rfl, ec8, z8⟩; have U8 := Lib.hid (U7.out.call z8.bel); have R8 := Lib.hid (z8.brow (by have := congrArg List.length ec8; simpa using this)); replace ec8 := Lib.hid ec8; clear z8 U7)
          | (have := U8; go_at_call 32; refine (U8.out.badB (by omega)).mono ?_; rintro e X9 ⟨g9, c9, rfl, ec9, z9⟩; have U9 := Lib.hid (U8.out.call z9.bel); have R9 := Lib.hid (z9.brow (by have := congrArg List.length ec9; simpa using this)); have R89 := Lib.hid (R8.out.below z9.bel); replace ec9 := Lib.hid ec9; clear z9 U8)
          | (have := U9; go_at_call 31; refine (sameBad_any _ _ ra.length ra.length ra.length c8 c9 X9 R89.out R9.out (by rw [ec8.out, ec9.out]) (by omega)).mono ?_; rintro e X10 ⟨rfl, k10, rfl⟩; have U10 := Lib.hid (U9.out.drewN k10); clear U9))
        go_ret
        exact ⟨rfl, U10.out.bel⟩
  · go_ret
    exact ⟨rfl, U1.out.bel⟩
end Go.Proofs.Ytpibmccofjpelaa
