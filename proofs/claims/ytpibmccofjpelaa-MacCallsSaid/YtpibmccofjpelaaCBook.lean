/- The program's book and the document's beside each other, with a copy of the call's message. No statement is proved here. -/
import Derived.Test.YtpibmccofjpelaaRefTagS
namespace Go.Proofs.Ytpibmccofjpelaa
open Go.RowKit Go.Maps
set_option linter.unusedVariables false
set_option linter.unusedSimpArgs false

set_option maxRecDepth 20000 in
set_option maxHeartbeats 1000000 in
theorem gnew_other (key : List Nat) (kind : Int) (h0 : kind ≠ 0) (h1 : kind ≠ 1) (w : World) :
    Calls Try.prog 21 #[.int .i64 kind, .agg (arrV key)] w fun e w' => e = .returned (.tuple #[.pointer none, .int .i64 1]) ∧ Below w.heap.size w w' := by
  have B0 := Lib.hid ((Below.refl w.heap.size w).alloc (Nat.le_refl _) (Obj.cells (arrV key) 23))
  have e0 : (kind = 0) = False := eq_false h0
  have e1 : (kind = 1) = False := eq_false h1
  have NW := Lib.hid (fun W (h : w.heap.size ≤ W.heap.size) => marksNew_any w.heap.size W h)
  go_enter Try.func21, Try.ntmps21
  go_wp2_with (first
    | (go_at_call 39; refine (NW.out _ (by simp)).mono ?_; rintro e X1 ⟨gl, m1, m2, rfl, hM, l0, l1, l2, hb1⟩; have B1 := Lib.hid (B0.out.trans (hb1.mono B0.out.size)); clear hM l0 l1 l2 hb1)
    | fail)
  exact bodyPost_ret (results_tmp2 Try.results21 _ _ _) rfl ⟨rfl, B1.out.alloc B1.out.size _⟩

/-- A slice does not lie in block g. -/
def OffV (g : Nat) (A : Option Addr) : Prop := ∀ n c, (Value.slice A n c).ownBlock ≠ some g
def Bm.off (g : Nat) (r : Bm) : Prop := OffV g r.A1 ∧ OffV g r.A2
def Mm.off (g : Nat) (x : Mm) : Prop := OffV g x.A
theorem offV_of {g n c : Nat} {A : Option Addr} (h : (Value.slice A n c).ownBlock ≠ some g) : OffV g A := fun n' c' => by cases A <;> exact h
section
variable {V V2 : World} {base gk gr : Nat} {K : Kd} {ms : List Mark} {rs : List Bm} {gl : Nat} {sv : Value} {m1 m2 : Nat} {bv mv dv : Value} {kind : Int} {key : List Nat} {cs : List Mm} {bs : List Bm} {A : Option Addr} {n c g : Nat} {xs : List Nat}
theorem Own.off_hi (h : Own V base A n c xs) (hg : g < base) : OffV g A := offV_of (n := n) (c := c) fun e => by have := (own_at h.2.2 e).1; omega
theorem Own.off_lo (h : Own V base A n c xs) (hg : V.heap.size ≤ g) : OffV g A := offV_of (n := n) (c := c) fun e => by obtain ⟨_, cur, hc⟩ := own_at h.2.2 e; have := heap_lt hc; omega
theorem Bm.ok.off_hi {r : Bm} (h : r.ok V base) (hg : g < base) : r.off g := ⟨h.1.off_hi hg, h.2.1.off_hi hg⟩
theorem Bm.ok.off_lo {r : Bm} (h : r.ok V base) (hg : V.heap.size ≤ g) : r.off g := ⟨h.1.off_lo hg, h.2.1.off_lo hg⟩
theorem Own.byt (h : Own V base A n c xs) (e : (Value.slice A n c).ownBlock = some g) : Byt V g := by obtain ⟨_, cur, hc⟩ := own_at h.2.2 e; exact ⟨cur, hc⟩
theorem Own.far_ (h : Own V base A n c xs) (ho : OffV g A) (hk : ∀ i, i ≠ g → V2.heap[i]? = V.heap[i]?) : Own V2 base A n c xs := by
  refine ⟨h.1, h.2.1, owns_stays h.2.2 fun j hj => hk j fun e => ?_⟩
  subst e
  exact ho _ _ hj
theorem Bm.ok.far_ {r : Bm} (h : r.ok V base) (ho : r.off g) (hk : ∀ i, i ≠ g → V2.heap[i]? = V.heap[i]?) : r.ok V2 base := ⟨h.1.far_ ho.1 hk, h.2.1.far_ ho.2 hk, h.2.2⟩
/-- A block of bytes that the program's book does not have is changed. -/
theorem Gk.far_ (h : Gk V base gk K ms rs gl sv m1 m2 bv) (hb : Byt V g) (ho : ∀ r ∈ rs, r.off g) (hk : ∀ i, i ≠ g → V2.heap[i]? = V.heap[i]?) : Gk V2 base gk K ms rs gl sv m1 m2 bv := by
  have hs : ∀ i, bkS gk gl sv m1 m2 bv i → V2.heap[i]? = V.heap[i]? := fun i hi => hk i fun e => by subst e; exact h.not_other hi hb.other
  exact ⟨(hs _ (.inl rfl)).trans h.blk, ⟨(hs _ (.inr (.inl (.inl rfl)))).trans h.ls.blk, h.ls.n1.stays (hs _ (.inr (.inl (.inr (.inl rfl))))), h.ls.n2.stays (hs _ (.inr (.inl (.inr (.inr (.inl rfl)))))), owns_stays h.ls.row (fun g hg => hs _ (.inr (.inl (.inr (.inr (.inr hg)))))), h.ls.few, h.ls.bytes, h.ls.ne⟩,
    owns_stays h.bad (fun g hg => hs _ (.inr (.inr hg))), fun r hr => (h.own r hr).far_ (ho r hr) hk, h.lo⟩
theorem Rk.far_ (h : Rk V base gr kind key cs bs mv dv) (hb : Byt V g) (hc : ∀ x ∈ cs, x.off g) (ho : ∀ r ∈ bs, r.off g) (hk : ∀ i, i ≠ g → V2.heap[i]? = V.heap[i]?) : Rk V2 base gr kind key cs bs mv dv := by
  have hs : ∀ i, rkS gr mv dv i → V2.heap[i]? = V.heap[i]? := fun i hi => hk i fun e => by subst e; exact h.not_byt hi hb
  exact ⟨(hs _ (.inl rfl)).trans h.blk, owns_stays h.mr (fun g hg => hs _ (.inr (.inl hg))), owns_stays h.bd (fun g hg => hs _ (.inr (.inr hg))), fun x hx => (h.om x hx).far_ (hc x hx) hk, fun r hr => (h.ob r hr).far_ (ho r hr) hk, h.lo, h.k16⟩
/-- The program's book stays where its blocks do, and blocks of bytes. -/
theorem Gk.staysB (h : Gk V base gk K ms rs gl sv m1 m2 bv) (hs : ∀ i, bkS gk gl sv m1 m2 bv i → V2.heap[i]? = V.heap[i]?) (ho : ∀ i, Byt V i → V2.heap[i]? = V.heap[i]?) : Gk V2 base gk K ms rs gl sv m1 m2 bv :=
  ⟨(hs _ (.inl rfl)).trans h.blk, ⟨(hs _ (.inr (.inl (.inl rfl)))).trans h.ls.blk, h.ls.n1.stays (hs _ (.inr (.inl (.inr (.inl rfl))))), h.ls.n2.stays (hs _ (.inr (.inl (.inr (.inr (.inl rfl)))))), owns_stays h.ls.row (fun g hg => hs _ (.inr (.inl (.inr (.inr (.inr hg)))))), h.ls.few, h.ls.bytes, h.ls.ne⟩,
    owns_stays h.bad (fun g hg => hs _ (.inr (.inr hg))), fun r hr => (h.own r hr).staysB ho, h.lo⟩
/-- Of which types the document's book's blocks are. -/
theorem Rk.ty (h : Rk V base gr kind key cs bs mv dv) {i : Nat} (hi : rkS gr mv dv i) {c : Array Value} {t : TypeId} {q : Nat × Nat} (hb : V.heap[i]? = some (.cells c t q)) : t = 49 ∨ t = 67 ∨ t = 62 := by
  rcases hi with rfl | e | e
  · rw [h.blk] at hb; injection hb with hb; injection hb with _ hb; exact .inl hb.symm
  · obtain ⟨_, cur, hc⟩ := own_at h.mr e
    rw [hc] at hb; injection hb with hb; injection hb with _ hb; exact .inr (.inl hb.symm)
  · obtain ⟨_, cur, hc⟩ := own_at h.bd e
    rw [hc] at hb; injection hb with hb; injection hb with _ hb; exact .inr (.inr hb.symm)
theorem Rk.not_call (h : Rk V base gr kind key cs bs mv dv) {x : Cl} {v : Value} {i : Nat} (hi : rkS gr mv dv i) : ¬ KB V i x v := fun hb => by
  have := h.ty hi hb; revert this; decide
theorem Rk.not_key (h : Rk V base gr kind key cs bs mv dv) {ks : List Nat} {i : Nat} (hi : rkS gr mv dv i) : ¬ Blk V i 23 ks := fun hb => by
  have := h.ty hi hb; revert this; decide
end
theorem KB.other {W : World} {g : Nat} {x : Cl} {v : Value} (h : KB W g x v) : Other W g := ⟨_, 51, _, h, by decide, by decide, by decide, by decide⟩
theorem Blk.other23 {W : World} {g : Nat} {ks : List Nat} (h : Blk W g 23 ks) : Other W g := ⟨_, 23, _, h, by decide, by decide, by decide, by decide⟩
theorem Own.put {w : World} {base g n c : Nat} {xs : List Nat} (h : Own w base (some ⟨g, 0, none⟩) n c xs) (j x : Nat) (hx : x < 256) : Own (w.setCell ⟨g, j, none⟩ (.int .u8 (x : Int))) base (some ⟨g, 0, none⟩) n c (xs.set j x) := by
  refine ⟨by rw [List.length_set]; exact h.1, set_bytes h.2.1 j x hx, ?_⟩
  have := h.2.2.stored j (.int .u8 (x : Int))
  have e : vals (xs.set j x) = (vals xs).set j (.int .u8 (x : Int)) := by simp [vals, List.map_set]
  rw [e]; exact this.1
theorem Own.headA {w : World} {base n c : Nat} {A : Option Addr} {xs : List Nat} (h : Own w base A n c xs) (hn : 0 < n) : ∃ g, A = some ⟨g, 0, none⟩ := by
  rcases h.2.2.2 with ⟨_, h0⟩ | ⟨g, cap, cur, hv, _⟩
  · omega
  · injection hv with e; exact ⟨g, e⟩
theorem Own.cellA {w : World} {base g n c : Nat} {xs : List Nat} (h : Own w base (some ⟨g, 0, none⟩) n c xs) (j : Nat) (hj : j < n) : w.cell? ⟨g, j, none⟩ = some (.int .u8 ((xs.getD j 0 : Nat) : Int)) := by
  rw [h.2.2.cellAt j (by omega)]
  exact vals_getElem? xs j (by rw [h.1]; exact hj)
/-- Both books, a call in block g, and a copy of bytes of the law's own. -/
structure Bes (w : World) (K : Kd) (key : List Nat) (gk gr : Nat) (ms : List Mark) (cs : List Mm) (rs bs : List Bm) (few g : Nat) (x : Cl) (A : Option Addr) (n c : Nat) (Ao : Option Addr) (co lim : Nat) (ys : List Nat) (W : World) : Prop where
  ex : ∃ gl sv m1 m2 bv mv dv, Gk W w.heap.size gk K ms rs gl sv m1 m2 bv ∧ Rk W w.heap.size gr K.num key cs bs mv dv ∧ ∀ i, bkS gk gl sv m1 m2 bv i → ¬ rkS gr mv dv i
  tg : Tgs K cs
  mkm : ∀ m ∈ ms, m.1.length ≤ 1000
  mkc : ∀ y ∈ cs, y.m.1.length ≤ 1000
  fw : ms.length ≤ few ∧ rs.length ≤ few ∧ cs.length ≤ few ∧ bs.length ≤ few
  kb : KB W g x (.slice A n c)
  kbl : Blk W w.heap.size 23 key
  row : Row W w.heap.size A n c x.xs
  own : Own W lim Ao n co ys
  off : ∀ o, (Value.slice Ao n co).ownBlock = some o → (∀ r ∈ rs, r.off o) ∧ (∀ r ∈ bs, r.off o) ∧ ∀ y ∈ cs, y.off o
  len : n ≤ 1000
  lo : w.heap.size ≤ lim
  klo : w.heap.size ≤ g
  bel : Below w.heap.size w W
section
variable {w W W' : World} {K : Kd} {key : List Nat} {gk gr few g n c co lim : Nat} {ms : List Mark} {cs : List Mm} {rs bs : List Bm} {x : Cl} {A Ao : Option Addr} {ys : List Nat}
theorem Bes.call (h : Bes w K key gk gr ms cs rs bs few g x A n c Ao co lim ys W) (hb : Below W.heap.size W W') : Bes w K key gk gr ms cs rs bs few g x A n c Ao co lim ys W' := by
  obtain ⟨gl, sv, m1, m2, bv, mv, dv, h1, h2, h3⟩ := h.ex
  have hB := hb.mono h.bel.size
  exact ⟨⟨gl, sv, m1, m2, bv, mv, dv, h1.below hb, h2.below hb, h3⟩, h.tg, h.mkm, h.mkc, h.fw, h.kb.below hb, h.kbl.below hb h.kbl.lt, h.row.below hB, h.own.below hb, h.off, h.len, h.lo, h.klo, h.bel.trans hB⟩
theorem Bes.drewN (h : Bes w K key gk gr ms cs rs bs few g x A n c Ao co lim ys W) (k : Nat) : Bes w K key gk gr ms cs rs bs few g x A n c Ao co lim ys (W.drewN k) := h.call (below_drewN (Below.refl _ _))
theorem Bes.drew (h : Bes w K key gk gr ms cs rs bs few g x A n c Ao co lim ys W) : Bes w K key gk gr ms cs rs bs few g x A n c Ao co lim ys W.drew := h.drewN 1
theorem Bes.more {f2 : Nat} (h : Bes w K key gk gr ms cs rs bs few g x A n c Ao co lim ys W) (hf : few ≤ f2) : Bes w K key gk gr ms cs rs bs f2 g x A n c Ao co lim ys W := ⟨h.ex, h.tg, h.mkm, h.mkc, ⟨Nat.le_trans h.fw.1 hf, Nat.le_trans h.fw.2.1 hf, Nat.le_trans h.fw.2.2.1 hf, Nat.le_trans h.fw.2.2.2 hf⟩, h.kb, h.kbl, h.row, h.own, h.off, h.len, h.lo, h.klo, h.bel⟩
theorem mem_off {rs rs' : List Bm} {o : Nat} (h : ∀ r ∈ rs, r.off o) (h' : ∀ r ∈ rs', r.off o) : ∀ r ∈ rs ++ rs', r.off o := fun r hr => by
  rcases List.mem_append.1 hr with hr | hr
  · exact h r hr
  · exact h' r hr
/-- The program's book is told to tag the copy. -/
theorem Bes.ptag (h : Bes w K key gk gr ms cs rs bs few g x A n c Ao co lim ys W) (hK : K.ok) (hf : few < 800) : Calls Try.prog 25 #[.pointer (some ⟨gk, 0, none⟩), .slice Ao n co] W fun e w' => e = .returned (.int .u64 (tgT K ms ys : Nat)) ∧ ∃ rs', rs'.map (·.e) = rs.map (·.e) ++ tgE K ms ys ∧ Bes w K key gk gr (tgM K ms ys) cs rs' bs (few + 1) g x A n c Ao co lim ys w' := by
  obtain ⟨gl, sv, m1, m2, bv, mv, dv, h1, h2, h3⟩ := h.ex
  have fw := h.fw
  have hyl : ys.length ≤ 1000 := by rw [h.own.len]; exact h.len
  have hd : ∀ a, Ao = some a → 0 < n → ¬ bkS gk gl sv m1 m2 bv a.block := fun a ha hn e => by
    subst ha
    exact h1.not_other e (h.own.byt (g := a.block) rfl).other
  refine (h1.tagF hK h.own.row h.len h.mkm h.bel.size (by omega) (by omega) hd).mono ?_
  rintro e w' ⟨rfl, sv', bv', rs', hev, hrs, hg, ho, n1, n2⟩
  have oth : ∀ i, Other W i → w'.heap[i]? = W.heap[i]? := fun i hi => ho.block i (other_lt hi) (fun e => h1.not_other e hi)
  have byt : ∀ i, Byt W i → w'.heap[i]? = W.heap[i]? := fun i hi => oth i hi.other
  have hB : Below w.heap.size W w' := ⟨ho.os, ho.tape, ho.output, ho.size, fun i hi => ho.block i (Nat.lt_of_lt_of_le hi h.bel.size) (fun e => by have := h1.low e; omega)⟩
  have e1 := tgM_len K ms ys
  have e2 := tgE_len K ms ys
  have e3 := congrArg List.length hev
  simp only [List.length_map] at e3
  refine ⟨rfl, rs ++ rs', by rw [List.map_append, hev], ⟨gl, sv', m1, m2, bv', mv, dv, hg, h2.stays (fun i hi => ho.block i (h2.in_ hi) (fun e => h3 i e hi)) byt, fun i hi hj => ?_⟩, h.tg, tgM_mem h.mkm hyl, h.mkc, ⟨by omega, by rw [List.length_append]; omega, by omega, by omega⟩, (oth _ h.kb.other).trans h.kb, (oth _ h.kbl.other23).trans h.kbl, h.row.below hB, h.own.staysB byt, fun o hoo => ?_, h.len, h.lo, h.klo, h.bel.trans hB⟩
  · rcases near_S n1 n2 hi with q | q
    · exact h3 i q hj
    · have := h2.in_ hj; omega
  · obtain ⟨f1, f2, f3⟩ := h.off o hoo
    exact ⟨mem_off f1 fun r hr => (hrs r hr).off_hi (h.own.byt hoo).lt, f2, f3⟩
/-- The program's book is asked whether a tag is the copy's. -/
theorem Bes.pver (h : Bes w K key gk gr ms cs rs bs few g x A n c Ao co lim ys W) (hK : K.ok) (hf : few < 800) (t : Nat) : Calls Try.prog 23 #[.pointer (some ⟨gk, 0, none⟩), .slice Ao n co, .int .u64 (t : Nat)] W fun e w' => e = .returned (.bool (vrB K ms ys t)) ∧ ∃ rs', rs'.map (·.e) = rs.map (·.e) ++ vrE K ms ys t ∧ Bes w K key gk gr ms cs rs' bs (few + 1) g x A n c Ao co lim ys w' := by
  obtain ⟨gl, sv, m1, m2, bv, mv, dv, h1, h2, h3⟩ := h.ex
  have fw := h.fw
  refine (h1.verifyF hK h.own.row h.len h.bel.size (by omega) (by omega) t).mono ?_
  rintro e w' ⟨rfl, bv', rs', hev, hrs, hg, ho, n2⟩
  have oth : ∀ i, Other W i → w'.heap[i]? = W.heap[i]? := fun i hi => ho.block i (other_lt hi) (fun e => h1.not_other e hi)
  have byt : ∀ i, Byt W i → w'.heap[i]? = W.heap[i]? := fun i hi => oth i hi.other
  have hB : Below w.heap.size W w' := ⟨ho.os, ho.tape, ho.output, ho.size, fun i hi => ho.block i (Nat.lt_of_lt_of_le hi h.bel.size) (fun e => by have := h1.low e; omega)⟩
  have e2 := vrE_len K ms ys t
  have e3 := congrArg List.length hev
  simp only [List.length_map] at e3
  refine ⟨rfl, rs ++ rs', by rw [List.map_append, hev], ⟨gl, sv, m1, m2, bv', mv, dv, hg, h2.stays (fun i hi => ho.block i (h2.in_ hi) (fun e => h3 i e hi)) byt, fun i hi hj => ?_⟩, h.tg, h.mkm, h.mkc, ⟨by omega, by rw [List.length_append]; omega, by omega, by omega⟩, (oth _ h.kb.other).trans h.kb, (oth _ h.kbl.other23).trans h.kbl, h.row.below hB, h.own.staysB byt, fun o hoo => ?_, h.len, h.lo, h.klo, h.bel.trans hB⟩
  · rcases near_S (Near.refl W sv) n2 hi with q | q
    · exact h3 i q hj
    · have := h2.in_ hj; omega
  · obtain ⟨f1, f2, f3⟩ := h.off o hoo
    exact ⟨mem_off f1 fun r hr => (hrs r hr).off_hi (h.own.byt hoo).lt, f2, f3⟩
/-- The program's book is asked whether the copy was given a tag. -/
theorem Bes.phas (h : Bes w K key gk gr ms cs rs bs few g x A n c Ao co lim ys W) : Calls Try.prog 27 #[.pointer (some ⟨gk, 0, none⟩), .slice Ao n co] W fun e w' => e = .returned (.bool (decide (0 < findM ms ys))) ∧ Bes w K key gk gr ms cs rs bs few g x A n c Ao co lim ys w' := by
  obtain ⟨gl, sv, m1, m2, bv, mv, dv, h1, h2, h3⟩ := h.ex
  refine (ghas_any w.heap.size gk K ms rs gl sv m1 m2 bv Ao n co ys W h1 h.own.row).mono ?_
  rintro e w' ⟨rfl, k, rfl⟩
  exact ⟨rfl, h.drewN k⟩
/-- The document's book is asked where the message's mark is. -/
theorem Bes.rfind (h : Bes w K key gk gr ms cs rs bs few g x A n c Ao co lim ys W) (hf : few < 800) : Calls Try.prog 28 #[.pointer (some ⟨gr, 0, none⟩), .slice A n c] W fun e w' => e = .returned (.int .i64 ((findM (cs.map (·.m)) x.xs : Nat) - 1 : Int)) ∧ Bes w K key gk gr ms cs rs bs few g x A n c Ao co lim ys w' := by
  obtain ⟨gl, sv, m1, m2, bv, mv, dv, h1, h2, h3⟩ := h.ex
  have fw := h.fw
  obtain ⟨B, cp, rfl, hr⟩ := h2.krow
  refine (rfind_any gr B cs.length cp cs A n c x.xs W h2.c17 hr (h.row.wider h.bel.size) (by omega)).mono ?_
  rintro e w' ⟨rfl, k, rfl⟩
  exact ⟨rfl, h.drewN k⟩
/-- What the document's book may change leaves all else. -/
theorem Bes.rstep {kn : Int} {mv dv : Value} {gl : Nat} {sv : Value} {m1 m2 : Nat} {bv : Value} (h : Bes w K key gk gr ms cs rs bs few g x A n c Ao co lim ys W) (h1 : Gk W w.heap.size gk K ms rs gl sv m1 m2 bv) (h2 : Rk W w.heap.size gr kn key cs bs mv dv) (h3 : ∀ i, bkS gk gl sv m1 m2 bv i → ¬ rkS gr mv dv i) (ho : Only W W' (rkS gr mv dv)) :
    Gk W' w.heap.size gk K ms rs gl sv m1 m2 bv ∧ KB W' g x (.slice A n c) ∧ Blk W' w.heap.size 23 key ∧ Row W' w.heap.size A n c x.xs ∧ Own W' lim Ao n co ys ∧ Below w.heap.size w W' := by
  have byt : ∀ i, Byt W i → W'.heap[i]? = W.heap[i]? := fun i hi => ho.block i hi.lt (fun e => h2.not_byt e hi)
  have hB : Below w.heap.size W W' := ⟨ho.os, ho.tape, ho.output, ho.size, fun i hi => ho.block i (Nat.lt_of_lt_of_le hi h.bel.size) (fun e => by have := h2.low e; omega)⟩
  exact ⟨h1.staysB (fun i hi => ho.block i (h1.in_ hi) (h3 i hi)) byt, (ho.block g h.kb.lt (fun e => h2.not_call e h.kb)).trans h.kb, (ho.block _ (heap_lt h.kbl) (fun e => h2.not_key e h.kbl)).trans h.kbl, h.row.below hB, h.own.staysB byt, h.bel.trans hB⟩
theorem rkS_near {w : World} {gr : Nat} {mv mv' dv dv' : Value} (h1 : Near w mv mv') (h2 : Near w dv dv') {i : Nat} (hi : rkS gr mv' dv' i) : rkS gr mv dv i ∨ w.heap.size ≤ i := by
  rcases hi with rfl | e | e
  · exact .inl (.inl rfl)
  · rcases h1 with q | ⟨j, q1, q2⟩
    · exact .inl (.inr (.inl (q ▸ e)))
    · rw [q2] at e; injection e with e; exact .inr (by omega)
  · rcases h2 with q | ⟨j, q1, q2⟩
    · exact .inl (.inr (.inr (q ▸ e)))
    · rw [q2] at e; injection e with e; exact .inr (by omega)
/-- The document's book is asked whether a tag is the message's. -/
theorem Bes.rver (h : Bes w K key gk gr ms cs rs bs few g x A n c Ao co lim ys W) (hK : K.ok) (hKk : K = .ideal ∨ K = .sip key) (hf : few < 800) (t : Nat) : Calls Try.prog 24 #[.pointer (some ⟨gr, 0, none⟩), .slice A n c, .int .u64 (t : Nat)] W fun e w' => e = .returned (.bool (vrB K (cs.map (·.m)) x.xs t)) ∧ ∃ bs', bs'.map (·.e) = bs.map (·.e) ++ vrE K (cs.map (·.m)) x.xs t ∧ Bes w K key gk gr ms cs rs bs' (few + 1) g x A n c Ao co lim ys w' := by
  obtain ⟨gl, sv, m1, m2, bv, mv, dv, h1, h2, h3⟩ := h.ex
  have fw := h.fw
  have hR := h.row.wider h.bel.size
  have quiet : ∀ (b : Bool), vrB K (cs.map (·.m)) x.xs t = b → vrE K (cs.map (·.m)) x.xs t = [] → ∀ e w', e = Ending.returned (.bool b) ∧ Below W.heap.size W w' → e = Ending.returned (.bool (vrB K (cs.map (·.m)) x.xs t)) ∧ ∃ bs', bs'.map (·.e) = bs.map (·.e) ++ vrE K (cs.map (·.m)) x.xs t ∧ Bes w K key gk gr ms cs rs bs' (few + 1) g x A n c Ao co lim ys w' := fun b e1 e2 e w' ⟨he, hB⟩ => by
    rw [e1, e2]
    exact ⟨he, bs, by simp, (h.call hB).more (by omega)⟩
  rcases hKk with rfl | rfl
  · refine (rver_ideal h2 h.tg hR t (by omega)).mono ?_
    rintro e w' ⟨rfl, k, rfl⟩
    refine quiet _ rfl ?_ _ _ ⟨rfl, below_drewN (Below.refl _ _)⟩
    unfold vrE vrB
    rw [if_neg]
    rintro ⟨q1, q2⟩
    rw [q2] at q1
    simp [okK] at q1
  · have bk := hK.2
    by_cases ht : t = ssum key x.xs
    · subst ht
      have hb : vrB (.sip key) (cs.map (·.m)) x.xs (ssum key x.xs) = true := by unfold vrB; simp [okK, tagK]
      by_cases h0 : findM (cs.map (·.m)) x.xs = 0
      · refine (rver_forged h2 bk hR h.len (by omega) h0 h.bel.size (by omega)).mono ?_
        rintro e w' ⟨rfl, dv', r, hre, hg, ho, n2, hro⟩
        have ho' : Only W w' (rkS gr mv dv) := ho.mono (fun i hi => by rcases hi with e | e; exact .inl e; exact .inr (.inr e))
        obtain ⟨s1, s2, s2k, s3, s4, s5⟩ := h.rstep h1 h2 h3 ho'
        rw [hb]
        refine ⟨rfl, bs ++ [r], ?_, ⟨gl, sv, m1, m2, bv, mv, dv', s1, hg, fun i hi hj => ?_⟩, h.tg, h.mkm, h.mkc, ⟨by omega, by omega, by omega, by rw [List.length_append]; simp; omega⟩, s2, s2k, s3, s4, fun o hoo => ?_, h.len, h.lo, h.klo, s5⟩
        · unfold vrE
          rw [if_pos ⟨hb, h0⟩, List.map_append, List.map_singleton, hre]
        · rcases rkS_near (Near.refl W mv) n2 hj with q | q
          · exact h3 i hi q
          · have := h1.in_ hi; omega
        · obtain ⟨f1, f2, f3⟩ := h.off o hoo
          exact ⟨f1, mem_off f2 fun r' hr' => by rw [List.mem_singleton.1 hr']; exact hro.off_hi (h.own.byt hoo).lt, f3⟩
      · exact (rver_has h2 bk hR h.len (by omega) (by omega)).mono (quiet true hb (by unfold vrE; rw [if_neg (fun q => h0 q.2)]))
    · have hb : vrB (.sip key) (cs.map (·.m)) x.xs t = false := by unfold vrB; simp [okK, tagK, ht]
      exact (rver_no h2 bk hR h.len t (by omega) ht).mono (quiet false hb (by unfold vrE; rw [hb, if_neg (fun q => by cases q.1)]))
end
theorem tgs_snoc {K : Kd} {cs : List Mm} {y : Mm} {xs : List Nat} (h : Tgs K cs) (hy : y.m = (xs, tagK K xs (cs.length + 1))) : Tgs K (cs ++ [y]) := fun i z hz => by
  rcases Nat.lt_or_ge i cs.length with q | q
  · rw [List.getElem?_append_left q] at hz
    exact h i z hz
  · rw [List.getElem?_append_right q] at hz
    have : i - cs.length = 0 := by
      rcases Nat.eq_zero_or_pos (i - cs.length) with e | e
      · exact e
      · rw [List.getElem?_eq_none (by simp; omega)] at hz; cases hz
    rw [this] at hz
    simp only [List.getElem?_cons_zero, Option.some.injEq] at hz
    subst hz
    have e : i = cs.length := by omega
    subst e
    rw [hy]
section
variable {w W W' : World} {K : Kd} {key : List Nat} {gk gr few g n c co lim : Nat} {ms : List Mark} {cs : List Mm} {rs bs : List Bm} {x : Cl} {A Ao : Option Addr} {ys : List Nat}
/-- The document's book tags the message. -/
theorem Bes.rtag (h : Bes w K key gk gr ms cs rs bs few g x A n c Ao co lim ys W) (hK : K.ok) (hKk : K = .ideal ∨ K = .sip key) (hf : few < 800) : Calls Try.prog 26 #[.pointer (some ⟨gr, 0, none⟩), .slice A n c] W fun e w' => e = .returned (.int .u64 (tgT K (cs.map (·.m)) x.xs : Nat)) ∧ ∃ cs' bs', cs'.map (·.m) = tgM K (cs.map (·.m)) x.xs ∧ bs'.map (·.e) = bs.map (·.e) ++ tgE K (cs.map (·.m)) x.xs ∧ Bes w K key gk gr ms cs' rs bs' (few + 1) g x A n c Ao co lim ys w' := by
  obtain ⟨gl, sv, m1, m2, bv, mv, dv, h1, h2, h3⟩ := h.ex
  have fw := h.fw
  have hR := h.row.wider h.bel.size
  have hxl : x.xs.length ≤ 1000 := by rw [h.row.len]; exact h.len
  by_cases h0 : findM (cs.map (·.m)) x.xs = 0
  · have e1 : tgT K (cs.map (·.m)) x.xs = tagK K x.xs (cs.length + 1) := by unfold tgT; rw [if_neg (by omega), List.length_map]
    have e2 : tgM K (cs.map (·.m)) x.xs = cs.map (·.m) ++ [(x.xs, tagK K x.xs (cs.length + 1))] := by unfold tgM; rw [if_neg (by omega), List.length_map]
    have HN : Calls Try.prog 26 #[.pointer (some ⟨gr, 0, none⟩), .slice A n c] W (RNew W w.heap.size gr K.num key cs bs mv dv x.xs (tagK K x.xs (cs.length + 1))) := by
      rcases hKk with rfl | rfl
      · exact rtag_new_ideal h2 hR h.len (by omega) h.bel.size (by omega) h.mkc h0
      · exact rtag_new_sip h2 hK.2 hR h.len (by omega) h.bel.size (by omega) h.mkc h0
    refine HN.mono ?_
    rintro e w' ⟨rfl, mv', dv', y, rs', hym, hyo, hev, hg, ho, n1, n2⟩
    obtain ⟨s1, s2, s2k, s3, s4, s5⟩ := h.rstep h1 h2 h3 ho
    rw [e1, e2]
    have hl : rs'.length ≤ 1 := by
      rcases hev with ⟨_, rfl⟩ | ⟨N, z, r, _, _, rfl, _⟩
      · simp
      · simp
    refine ⟨rfl, cs ++ [y], bs ++ rs', by rw [List.map_append, List.map_singleton, hym], ?_, ⟨gl, sv, m1, m2, bv, mv', dv', s1, hg, fun i hi hj => ?_⟩, tgs_snoc h.tg hym, h.mkm, fun z hz => ?_, ⟨by omega, by omega, by rw [List.length_append]; simp; omega, by rw [List.length_append]; omega⟩, s2, s2k, s3, s4, fun o hoo => ?_, h.len, h.lo, h.klo, s5⟩
    · rw [List.map_append]
      congr 1
      unfold tgE
      rw [if_neg (by omega), List.length_map]
      rcases hev with ⟨q, rfl⟩ | ⟨N, z, r, q, hz, rfl, hre, _⟩
      · rw [q]; rfl
      · rw [q]
        show [r.e] = _
        rw [hre]
        simp [List.getD_eq_getElem?_getD, hz]
    · rcases rkS_near n1 n2 hj with q | q
      · exact h3 i hi q
      · have := h1.in_ hi; omega
    · rcases List.mem_append.1 hz with hz | hz
      · exact h.mkc z hz
      · rw [List.mem_singleton.1 hz, hym]; exact hxl
    · obtain ⟨f1, f2, f3⟩ := h.off o hoo
      have hlt := (h.own.byt hoo).lt
      have fy : y.off o := hyo.off_hi hlt
      refine ⟨f1, mem_off f2 fun r' hr' => ?_, fun z hz => ?_⟩
      · rcases hev with ⟨_, rfl⟩ | ⟨N, z, r, q, hz, rfl, hre, ra1, ra2⟩
        · cases hr'
        · rw [List.mem_singleton.1 hr']
          refine ⟨?_, ?_⟩
          · rw [ra1]; exact fy
          · rw [ra2]; exact f3 z (List.mem_of_getElem? hz)
      · rcases List.mem_append.1 hz with hz | hz
        · exact f3 z hz
        · rw [List.mem_singleton.1 hz]; exact fy
  · obtain ⟨N, hN⟩ : ∃ N, findM (cs.map (·.m)) x.xs = N + 1 := ⟨findM (cs.map (·.m)) x.xs - 1, by omega⟩
    have e1 : tgT K (cs.map (·.m)) x.xs = tagK K x.xs (N + 1) := by unfold tgT; rw [if_pos (by omega), hN]
    have e2 : tgM K (cs.map (·.m)) x.xs = cs.map (·.m) := by unfold tgM; rw [if_pos (by omega)]
    have e3 : tgE K (cs.map (·.m)) x.xs = [] := by unfold tgE; rw [if_pos (by omega)]
    refine (rtag_old h2 h.tg hR (by omega) N hN).mono ?_
    rintro e w' ⟨rfl, k, rfl⟩
    rw [e1, e2, e3]
    exact ⟨rfl, cs, bs, rfl, by simp, (h.drewN k).more (by omega)⟩
/-- A byte of the copy is changed. -/
theorem Bes.poke {go : Nat} (h : Bes w K key gk gr ms cs rs bs few g x A n c (some ⟨go, 0, none⟩) co lim ys W) (j : Nat) : Bes w K key gk gr ms cs rs bs few g x A n c (some ⟨go, 0, none⟩) co lim (ys.set j 238) (W.setCell ⟨go, j, none⟩ (.int .u8 238)) := by
  obtain ⟨gl, sv, m1, m2, bv, mv, dv, h1, h2, h3⟩ := h.ex
  have hgo : (Value.slice (some ⟨go, 0, none⟩) n co).ownBlock = some go := rfl
  have hb := h.own.byt hgo
  obtain ⟨f1, f2, f3⟩ := h.off go hgo
  have far : ∀ i, i ≠ go → (W.setCell ⟨go, j, none⟩ (.int .u8 238)).heap[i]? = W.heap[i]? := fun i hi => Below.heap_setCell W _ _ i hi
  have hlo : lim ≤ go := (own_at h.own.2.2 hgo).1
  have hB : Below w.heap.size W (W.setCell ⟨go, j, none⟩ (.int .u8 238)) := (Below.refl _ _).setCell (p := ⟨go, j, none⟩) (Nat.le_trans h.lo hlo) _
  refine ⟨⟨gl, sv, m1, m2, bv, mv, dv, h1.far_ hb f1 far, h2.far_ hb f3 f2 far, h3⟩, h.tg, h.mkm, h.mkc, h.fw, (far g fun e => ?_).trans h.kb, (far _ fun e => ?_).trans h.kbl, h.row.below hB, Own.put h.own j 238 (by omega), h.off, h.len, h.lo, h.klo, h.bel.trans hB⟩
  · subst e
    obtain ⟨cur, hc⟩ := hb
    have := h.kb
    rw [KB, hc] at this
    injection this with this
    injection this with _ this
    cases this
  · obtain ⟨cur, hc⟩ := hb
    have := h.kbl
    rw [Blk, e, hc] at this
    injection this with this
    injection this with _ this
    cases this
end
/-- Both books, which have the same. -/
structure Dd (w : World) (K : Kd) (key : List Nat) (gk gr : Nat) (cs : List Mm) (rs bs : List Bm) (few : Nat) (W : World) : Prop where
  ex : ∃ gl sv m1 m2 bv mv dv, Gk W w.heap.size gk K (cs.map (·.m)) rs gl sv m1 m2 bv ∧ Rk W w.heap.size gr K.num key cs bs mv dv ∧ ∀ i, bkS gk gl sv m1 m2 bv i → ¬ rkS gr mv dv i
  tg : Tgs K cs
  mkc : ∀ y ∈ cs, y.m.1.length ≤ 1000
  fw : rs.length ≤ few ∧ cs.length ≤ few ∧ bs.length ≤ few
  ev : rs.map (·.e) = bs.map (·.e)
  kbl : Blk W w.heap.size 23 key
  bel : Below w.heap.size w W
theorem mk_mem {cs : List Mm} (h : ∀ y ∈ cs, y.m.1.length ≤ 1000) : ∀ m ∈ cs.map (·.m), m.1.length ≤ 1000 := fun m hm => by
  obtain ⟨y, hy, rfl⟩ := List.mem_map.1 hm; exact h y hy
section
variable {w W W' : World} {K : Kd} {key : List Nat} {gk gr few g n c co lim : Nat} {ms : List Mark} {cs : List Mm} {rs bs : List Bm} {x : Cl} {A Ao : Option Addr} {ys : List Nat}
theorem Bes.dd (h : Bes w K key gk gr ms cs rs bs few g x A n c Ao co lim ys W) (hms : cs.map (·.m) = ms) (hev : rs.map (·.e) = bs.map (·.e)) : Dd w K key gk gr cs rs bs few W := by
  subst hms
  exact ⟨h.ex, h.tg, h.mkc, h.fw.2, hev, h.kbl, h.bel⟩
/-- A copy of the call's message was made. -/
theorem Dd.bes (h : Dd w K key gk gr cs rs bs few W) (hB : Below W.heap.size W W') (hk : KB W' g x (.slice A n c)) (hr : Row W w.heap.size A n c x.xs) (ho : Own W' lim Ao n co x.xs) (hn : n ≤ 1000) (hl : W.heap.size ≤ lim) (hg : w.heap.size ≤ g) : Bes w K key gk gr (cs.map (·.m)) cs rs bs few g x A n c Ao co lim x.xs W' := by
  obtain ⟨gl, sv, m1, m2, bv, mv, dv, h1, h2, h3⟩ := h.ex
  have hB' := hB.mono h.bel.size
  have fw := h.fw
  refine ⟨⟨gl, sv, m1, m2, bv, mv, dv, h1.below hB, h2.below hB, h3⟩, h.tg, mk_mem h.mkc, h.mkc, ⟨by rw [List.length_map]; exact fw.2.1, fw⟩, hk, h.kbl.below hB h.kbl.lt, hr.below hB', ho, fun o hoo => ?_, hn, Nat.le_trans h.bel.size hl, hg, h.bel.trans hB'⟩
  have hlo : W.heap.size ≤ o := Nat.le_trans hl (own_at ho.2.2 hoo).1
  exact ⟨fun r hr => (h1.own r hr).off_lo hlo, fun r hr => (h2.ob r hr).off_lo hlo, fun y hy => (h2.om y hy).off_lo hlo⟩
theorem Dd.call (h : Dd w K key gk gr cs rs bs few W) (hb : Below W.heap.size W W') : Dd w K key gk gr cs rs bs few W' := by
  obtain ⟨gl, sv, m1, m2, bv, mv, dv, h1, h2, h3⟩ := h.ex
  exact ⟨⟨gl, sv, m1, m2, bv, mv, dv, h1.below hb, h2.below hb, h3⟩, h.tg, h.mkc, h.fw, h.ev, h.kbl.below hb h.kbl.lt, h.bel.trans (hb.mono h.bel.size)⟩
theorem Dd.more {f2 : Nat} (h : Dd w K key gk gr cs rs bs few W) (hf : few ≤ f2) : Dd w K key gk gr cs rs bs f2 W := ⟨h.ex, h.tg, h.mkc, ⟨Nat.le_trans h.fw.1 hf, Nat.le_trans h.fw.2.1 hf, Nat.le_trans h.fw.2.2 hf⟩, h.ev, h.kbl, h.bel⟩
theorem grown_copy {X Y : World} {A' : Option Addr} {c' n : Nat} {xs : List Nat} (hO : Own Y X.heap.size A' (0 + n) c' ([] ++ xs)) (hg : (X.alloc (.cells #[] 5)).grownBy Y (Value.slice (some ⟨X.heap.size, 0, none⟩) 0 0).ownBlock) : Below X.heap.size X Y ∧ Own Y X.heap.size A' n c' xs :=
  ⟨⟨hg.os, hg.tape, hg.output, by have := hg.size; simp at this; omega, fun i hi => (hg.block i (by simp; omega) (by intro e; injection e with e; have : i = X.heap.size := e; omega)).trans (Below.heap_alloc X _ i hi)⟩, by simpa using hO⟩
/-- The tag of the call in the law's block is another. -/
theorem Bes.retag {t : Nat} (h : Bes w K key gk gr ms cs rs bs few g x A n c Ao co lim ys W) : Bes w K key gk gr ms cs rs bs few g { x with t := t } A n c Ao co lim ys (W.setCell ⟨g, 3, none⟩ (.int .u64 (t : Nat))) := by
  obtain ⟨gl, sv, m1, m2, bv, mv, dv, h1, h2, h3⟩ := h.ex
  have far : ∀ i, i ≠ g → (W.setCell ⟨g, 3, none⟩ (.int .u64 (t : Nat))).heap[i]? = W.heap[i]? := fun i hi => Below.heap_setCell W _ _ i hi
  have hB : Below w.heap.size W (W.setCell ⟨g, 3, none⟩ (.int .u64 (t : Nat))) := (Below.refl _ _).setCell (p := ⟨g, 3, none⟩) h.klo _
  have byt : ∀ i, Byt W i → (W.setCell ⟨g, 3, none⟩ (.int .u64 (t : Nat))).heap[i]? = W.heap[i]? := fun i hi => far i fun e => by
    subst e
    obtain ⟨cur, hc⟩ := hi
    have := h.kb
    rw [KB, hc] at this
    injection this with this
    injection this with _ this
    cases this
  refine ⟨⟨gl, sv, m1, m2, bv, mv, dv, h1.staysB (fun i hi => far i fun e => ?_) byt, h2.stays (fun i hi => far i fun e => ?_) byt, h3⟩, h.tg, h.mkm, h.mkc, h.fw, ?_, (far _ fun e => ?_).trans h.kbl, h.row.below hB, h.own.staysB byt, h.off, h.len, h.lo, h.klo, h.bel.trans hB⟩
  · subst e; exact h1.not_other hi h.kb.other
  · subst e; exact h2.not_call hi h.kb
  · have := h.kb
    rw [KB] at this ⊢
    simp [World.setCell, Array.getElem?_modify, this]
  · have := h.kbl
    have h5 := h.kb
    rw [KB, ← e] at h5
    rw [Blk, h5] at this
    injection this with this
    injection this with _ this
    cases this
end
end Go.Proofs.Ytpibmccofjpelaa
