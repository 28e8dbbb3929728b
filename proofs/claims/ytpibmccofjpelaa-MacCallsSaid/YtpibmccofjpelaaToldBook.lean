/- A book with tags by a key: its tags and its bad events are right. No statement is proved here. -/
import Derived.Test.YtpibmccofjpelaaBadAny
namespace Go.Proofs.Ytpibmccofjpelaa
open Go.RowKit Go.Maps
set_option linter.unusedVariables false
set_option linter.unusedSimpArgs false

theorem fN_at {α : Type} (p : α → Bool) (l : List α) (N : Nat) (h : fN p l = N + 1) : ∃ x, l[N]? = some x ∧ p x = true := by
  induction l generalizing N with
  | nil => simp [fN] at h
  | cons y r ih =>
    simp only [fN] at h
    by_cases hy : p y = true
    · rw [if_pos hy] at h
      obtain rfl : N = 0 := by omega
      exact ⟨y, rfl, hy⟩
    · rw [if_neg hy] at h
      split at h
      · omega
      · rename_i hz
        obtain ⟨M, rfl⟩ : ∃ M, N = M + 1 := ⟨N - 1, by omega⟩
        obtain ⟨x, h1, h2⟩ := ih M (by omega)
        exact ⟨x, by simpa using h1, h2⟩
theorem firstM_at {ms : List Mark} {t N : Nat} (h : firstM ms t = N + 1) : ∃ ys, ms[N]? = some (ys, t) := by
  obtain ⟨⟨ys, u⟩, h1, h2⟩ := fN_at _ _ N h
  simp only [beq_iff_eq] at h2
  subst h2
  exact ⟨ys, h1⟩
/-- A book with tags by a key, all of it from w on; its tags, and its bad events, are right. -/
structure USt (w : World) (key : List Nat) (gk : Nat) (ms : List Mark) (rs : List Bm) (few : Nat) (W : World) : Prop where
  ex : ∃ gl sv m1 m2 bv, Gk W w.heap.size gk (.sip key) ms rs gl sv m1 m2 bv
  mrk : ∀ m ∈ ms, m.2 = ssum key m.1 ∧ m.1.length ≤ 1000
  bd : ∀ r ∈ rs, r.e.t = ssum key r.e.xs ∧ (r.e.k = 2 → r.e.t = ssum key r.e.ys)
  l1 : ms.length ≤ few
  l2 : rs.length ≤ few
  kbl : Blk W w.heap.size 23 key
  bel : Below w.heap.size w W
/-- And a call in a block. -/
structure TSt (w : World) (key : List Nat) (gk : Nat) (ms : List Mark) (rs : List Bm) (few : Nat) (g : Nat) (x : Cl) (A : Option Addr) (n c : Nat) (W : World) : Prop where
  u : USt w key gk ms rs few W
  kb : KB W g x (.slice A n c)
  row : Row W w.heap.size A n c x.xs
  len : n ≤ 1000
section
variable {w W W' : World} {key : List Nat} {gk few g n c : Nat} {ms : List Mark} {rs : List Bm} {x : Cl} {A : Option Addr}
theorem Blk.klt (h : Blk W g 23 key) : g < W.heap.size := heap_lt h
theorem USt.call (h : USt w key gk ms rs few W) (hb : Below W.heap.size W W') : USt w key gk ms rs few W' := by
  obtain ⟨gl, sv, m1, m2, bv, hg⟩ := h.ex
  exact ⟨⟨gl, sv, m1, m2, bv, hg.below hb⟩, h.mrk, h.bd, h.l1, h.l2, (hb.block _ (heap_lt h.kbl)).trans h.kbl, h.bel.trans (hb.mono h.bel.size)⟩
theorem USt.more {f2 : Nat} (h : USt w key gk ms rs few W) (hf : few ≤ f2) : USt w key gk ms rs f2 W := ⟨h.ex, h.mrk, h.bd, Nat.le_trans h.l1 hf, Nat.le_trans h.l2 hf, h.kbl, h.bel⟩
theorem TSt.call (h : TSt w key gk ms rs few g x A n c W) (hb : Below W.heap.size W W') : TSt w key gk ms rs few g x A n c W' :=
  ⟨h.u.call hb, h.kb.below hb, h.row.below (below_low hb h.u.bel.size), h.len⟩
theorem TSt.drewN (h : TSt w key gk ms rs few g x A n c W) (k : Nat) : TSt w key gk ms rs few g x A n c (W.drewN k) := by
  obtain ⟨gl, sv, m1, m2, bv, hg⟩ := h.u.ex
  exact ⟨⟨⟨gl, sv, m1, m2, bv, hg.drewN k⟩, h.u.mrk, h.u.bd, h.u.l1, h.u.l2, h.u.kbl, below_drewN h.u.bel⟩, h.kb.drewN k, h.row.drewN k, h.len⟩
theorem TSt.new (h : USt w key gk ms rs few W) (hr : Row W w.heap.size A n c x.xs) (hn : n ≤ 1000) : TSt w key gk ms rs few W.heap.size x A n c (W.alloc (.cells #[.bool x.v, .bool x.o, .slice A n c, .int .u64 (x.t : Nat)] 51)) :=
  have hB := (Below.refl W.heap.size W).alloc (Nat.le_refl _) (.cells #[.bool x.v, .bool x.o, .slice A n c, .int .u64 (x.t : Nat)] 51)
  ⟨h.call hB, KB.new W x _, hr.below (below_low hB h.bel.size), hn⟩
/-- What a book changes leaves the rest. -/
theorem TSt.changed {gl : Nat} {sv : Value} {m1 m2 : Nat} {bv : Value} {ms' : List Mark} {rs' : List Bm} {f2 : Nat} (h : TSt w key gk ms rs few g x A n c W) (hg : Gk W w.heap.size gk (.sip key) ms rs gl sv m1 m2 bv) (ho : Only W W' (bkS gk gl sv m1 m2 bv))
    (hx : ∃ gl sv m1 m2 bv, Gk W' w.heap.size gk (.sip key) ms' rs' gl sv m1 m2 bv) (hm : ∀ m ∈ ms', m.2 = ssum key m.1 ∧ m.1.length ≤ 1000) (hb : ∀ r ∈ rs', r.e.t = ssum key r.e.xs ∧ (r.e.k = 2 → r.e.t = ssum key r.e.ys)) (l1 : ms'.length ≤ f2) (l2 : rs'.length ≤ f2) : TSt w key gk ms' rs' f2 g x A n c W' := by
  have oth : ∀ i, Other W i → W'.heap[i]? = W.heap[i]? := fun i hi => ho.block i (other_lt hi) (fun e => hg.not_other e hi)
  have low : ∀ i, i < w.heap.size → W'.heap[i]? = W.heap[i]? := fun i hi => ho.block i (Nat.lt_of_lt_of_le hi h.u.bel.size) (fun e => by have := hg.low e; omega)
  have hB : Below w.heap.size W W' := ⟨ho.os, ho.tape, ho.output, ho.size, low⟩
  exact ⟨⟨hx, hm, hb, l1, l2, (oth _ ⟨_, 23, _, h.u.kbl, by decide, by decide, by decide, by decide⟩).trans h.u.kbl, h.u.bel.trans hB⟩, (oth _ ⟨_, 51, _, h.kb, by decide, by decide, by decide, by decide⟩).trans h.kb, h.row.below hB, h.len⟩
theorem TSt.away {gl : Nat} {sv : Value} {m1 m2 : Nat} {bv : Value} (h : TSt w key gk ms rs few g x A n c W) (hg : Gk W w.heap.size gk (.sip key) ms rs gl sv m1 m2 bv) : ∀ a, A = some a → 0 < n → ¬ bkS gk gl sv m1 m2 bv a.block := fun a ha hn e => by
  have h1 := hg.low e
  have h2 := (h.row.2.2.2.2.2 a ha hn).2.1
  omega
theorem TSt.tag (h : TSt w key gk ms rs few g x A n c W) (hk : key.length = 16) (bk : ∀ x ∈ key, x < 256) (hf : few < 900) : Calls Try.prog 25 #[.pointer (some ⟨gk, 0, none⟩), .slice A n c] W fun e w' => ∃ (t : Nat) (ms' : List Mark) (rs' : List Bm), e = .returned (.int .u64 t) ∧ TSt w key gk ms' rs' (few + 1) g x A n c w' := by
  obtain ⟨gl, sv, m1, m2, bv, hg⟩ := h.u.ex
  have hle := findM_le ms x.xs
  have l1 := h.u.l1
  have l2 := h.u.l2
  have hxl : x.xs.length ≤ 1000 := by rw [h.row.len]; exact h.len
  have hmk : ∀ m ∈ ms ++ [(x.xs, ssum key x.xs)], m.2 = ssum key m.1 ∧ m.1.length ≤ 1000 := fun m hm => by
    rcases List.mem_append.1 hm with hm | hm
    · exact h.u.mrk m hm
    · simp only [List.mem_singleton] at hm; subst hm; exact ⟨rfl, hxl⟩
  by_cases h0 : findM ms x.xs = 0
  · cases hf1 : firstM ms (ssum key x.xs) with
    | zero =>
      refine (gtag_new_sip w.heap.size gk key ⟨hk, bk⟩ ms rs gl sv m1 m2 bv A n c x.xs W hg (h.row.wider h.u.bel.size) h0 hf1 h.u.bel.size (by omega)).mono ?_
      rintro e w' ⟨rfl, sv', hg', ho, _⟩
      exact ⟨_, _, _, rfl, h.changed hg ho ⟨gl, sv', m1, m2, bv, hg'⟩ hmk h.u.bd (by simp; omega) (by omega)⟩
    | succ N =>
      obtain ⟨ys, hy⟩ := firstM_at hf1
      have hym := h.u.mrk _ (List.mem_of_getElem? hy)
      refine (gtag_twin_sip w.heap.size gk key ⟨hk, bk⟩ ms rs gl sv m1 m2 bv A n c x.xs W hg (h.row.wider h.u.bel.size) h0 N ys _ hf1 hy h.len hym.2 h.u.bel.size (by omega) (by omega) (h.away hg)).mono ?_
      rintro e w' ⟨rfl, sv', bv', r, er, hg', ho, _, _⟩
      refine ⟨_, _, _, rfl, h.changed hg ho ⟨gl, sv', m1, m2, bv', hg'⟩ hmk (fun q hq => ?_) (by simp; omega) (by simp; omega)⟩
      rcases List.mem_append.1 hq with hq | hq
      · exact h.u.bd q hq
      · simp only [List.mem_singleton] at hq; subst hq; rw [er]; exact ⟨rfl, fun _ => hym.1⟩
  · refine (gtag_old_sip w.heap.size gk key ⟨hk, bk⟩ ms rs gl sv m1 m2 bv A n c x.xs W hg (h.row.wider h.u.bel.size) (by omega) (by omega)).mono ?_
    rintro e w' ⟨rfl, hB⟩
    have h' := h.call hB
    exact ⟨_, ms, rs, rfl, h'.u.more (by omega), h'.kb, h'.row, h'.len⟩
theorem TSt.verify (h : TSt w key gk ms rs few g x A n c W) (hk : key.length = 16) (bk : ∀ x ∈ key, x < 256) (hf : few < 900) (t : Nat) : Calls Try.prog 23 #[.pointer (some ⟨gk, 0, none⟩), .slice A n c, .int .u64 (t : Nat)] W fun e w' => ∃ (b : Bool) (rs' : List Bm), e = .returned (.bool b) ∧ TSt w key gk ms rs' (few + 1) g x A n c w' ∧ ((b = false ∧ rs'.length = rs.length) ∨ (b = true ∧ 0 < findM ms x.xs ∧ rs'.length = rs.length) ∨ (b = true ∧ findM ms x.xs = 0 ∧ rs'.length = rs.length + 1)) := by
  obtain ⟨gl, sv, m1, m2, bv, hg⟩ := h.u.ex
  have l1 := h.u.l1
  have l2 := h.u.l2
  by_cases ht : t = ssum key x.xs
  · subst ht
    by_cases h0 : findM ms x.xs = 0
    · refine (gver_forged w.heap.size gk key ⟨hk, bk⟩ ms rs gl sv m1 m2 bv A n c x.xs W hg (h.row.wider h.u.bel.size) h0 h.len h.u.bel.size (by omega)).mono ?_
      rintro e w' ⟨rfl, bv', r, er, hg', ho, _⟩
      refine ⟨true, _, rfl, h.changed hg ho ⟨gl, sv, m1, m2, bv', hg'⟩ h.u.mrk (fun q hq => ?_) (by omega) (by simp; omega), .inr (.inr ⟨rfl, h0, by simp⟩)⟩
      rcases List.mem_append.1 hq with hq | hq
      · exact h.u.bd q hq
      · simp only [List.mem_singleton] at hq; subst hq; rw [er]; exact ⟨rfl, fun e => absurd (show (1 : Nat) = 2 from e) (by decide)⟩
    · refine (gver_has w.heap.size gk key ⟨hk, bk⟩ ms rs gl sv m1 m2 bv A n c x.xs W hg (h.row.wider h.u.bel.size) (by omega)).mono ?_
      rintro e w' ⟨rfl, hB⟩
      have h' := h.call hB
      exact ⟨true, rs, rfl, ⟨h'.u.more (by omega), h'.kb, h'.row, h'.len⟩, .inr (.inl ⟨rfl, by omega, rfl⟩)⟩
  · refine (gver_no w.heap.size gk key ⟨hk, bk⟩ ms rs gl sv m1 m2 bv A n c x.xs W hg (h.row.wider h.u.bel.size) (t : Nat) (by omega)).mono ?_
    rintro e w' ⟨rfl, hB⟩
    have h' := h.call hB
    exact ⟨false, rs, rfl, ⟨h'.u.more (by omega), h'.kb, h'.row, h'.len⟩, .inl ⟨rfl, rfl⟩⟩
theorem TSt.has (h : TSt w key gk ms rs few g x A n c W) : Calls Try.prog 27 #[.pointer (some ⟨gk, 0, none⟩), .slice A n c] W fun e w' => e = .returned (.bool (decide (0 < findM ms x.xs))) ∧ TSt w key gk ms rs few g x A n c w' := by
  obtain ⟨gl, sv, m1, m2, bv, hg⟩ := h.u.ex
  refine (ghas_any w.heap.size gk (.sip key) ms rs gl sv m1 m2 bv A n c x.xs W hg (h.row.wider h.u.bel.size)).mono ?_
  rintro e w' ⟨rfl, k, rfl⟩
  exact ⟨rfl, h.drewN k⟩
theorem USt.bad (h : USt w key gk ms rs few W) (hf : few < 1000) : Calls Try.prog 32 #[.pointer (some ⟨gk, 0, none⟩)] W fun e w' => ∃ gz cs, e = .returned (.slice (some ⟨gz, 0, none⟩) rs.length rs.length) ∧ cs.map (·.e) = rs.map (·.e) ∧ ZSt W gz rs.length cs w' := by
  obtain ⟨gl, sv, m1, m2, bv, hg⟩ := h.ex
  have l2 := h.l2
  exact bad_any w.heap.size gk (.sip key) ms rs gl sv m1 m2 bv W hg (by omega)
theorem TSt.bad (h : TSt w key gk ms rs few g x A n c W) (hf : few < 1000) : Calls Try.prog 32 #[.pointer (some ⟨gk, 0, none⟩)] W fun e w' => ∃ gz, e = .returned (.slice (some ⟨gz, 0, none⟩) rs.length rs.length) ∧ TSt w key gk ms rs few g x A n c w' := by
  refine (h.u.bad hf).mono ?_
  rintro e w' ⟨gz, cs, rfl, _, hz⟩
  exact ⟨gz, rfl, h.call hz.bel⟩
theorem TSt.sum (h : TSt w key gk ms rs few g x A n c W) (hk : key.length = 16) (bk : ∀ x ∈ key, x < 256) : Calls Try.prog 14 #[.agg (arrV key), .slice A n c] W fun e w' => e = .returned (.int .u64 (ssum key x.xs : Nat)) ∧ TSt w key gk ms rs few g x A n c w' := by
  have hl := h.len
  refine (refSum_any key A n c x.xs W hk bk (h.row.wider h.u.bel.size) (by omega)).mono ?_
  rintro e w' ⟨rfl, hb⟩
  exact ⟨by rw [ssum_eq key x.xs hk bk h.row.bytes], h.call hb⟩
/-- The call's tag is set. -/
theorem TSt.setTag (h : TSt w key gk ms rs few g x A n c W) (hg0 : w.heap.size < g) (t : Nat) : TSt w key gk ms rs few g { x with t := t } A n c (W.setCell ⟨g, 3, none⟩ (.int .u64 (t : Nat))) := by
  obtain ⟨gl, sv, m1, m2, bv, hg⟩ := h.u.ex
  have far : ∀ i, i ≠ g → (W.setCell ⟨g, 3, none⟩ (.int .u64 (t : Nat))).heap[i]? = W.heap[i]? := fun i hi => Below.heap_setCell W _ _ i hi
  have hgs : W.grownBy (W.setCell ⟨g, 3, none⟩ (.int .u64 (t : Nat))) (some g) := grown_set (World.grownBy.refl W _) rfl _
  have ho : Other W g := ⟨_, 51, _, h.kb, by decide, by decide, by decide, by decide⟩
  have ns : ∀ i, bkS gk gl sv m1 m2 bv i → i ≠ g := fun i hi e => hg.not_other (e ▸ hi) ho
  have hB : Below w.heap.size W (W.setCell ⟨g, 3, none⟩ (.int .u64 (t : Nat))) := ⟨rfl, rfl, rfl, by simp [World.setCell], fun i hi => far i (by omega)⟩
  have keep : ∀ {A : Option Addr} {n c : Nat} {xs : List Nat}, Own W w.heap.size A n c xs → Own (W.setCell ⟨g, 3, none⟩ (.int .u64 (t : Nat))) w.heap.size A n c xs := fun {A n c xs} ho => by
    refine ⟨ho.1, ho.2.1, ho.2.2.1, ?_⟩
    rcases ho.2.2.2 with h0 | ⟨b, cap, cur, hv, hg2, hb, q⟩
    · exact .inl h0
    · refine .inr ⟨b, cap, cur, hv, hg2, (far b (fun e => ?_)).trans hb, q⟩
      subst e
      have := h.kb
      unfold KB at this
      rw [this] at hb; simp at hb
  refine ⟨⟨⟨gl, sv, m1, m2, bv, (far gk (ns _ (.inl rfl))).trans hg.blk, hg.ls.keep hgs (fun e => by injection e with e; exact ns _ (.inr (.inl (.inl rfl))) e) (fun e => by injection e with e; exact ns _ (.inr (.inl (.inr (.inl rfl)))) e) (fun e => by injection e with e; exact ns _ (.inr (.inl (.inr (.inr (.inl rfl))))) e) ?_, hg.bad.kept hgs ?_, fun r hr => ⟨keep (hg.own r hr).1, keep (hg.own r hr).2.1, (hg.own r hr).2.2⟩, hg.lo⟩, h.u.mrk, h.u.bd, h.u.l1, h.u.l2, (far _ (by omega)).trans h.u.kbl, h.u.bel.trans hB⟩, ?_, h.row.below hB, h.len⟩
  · cases hv : sv.ownBlock with
    | none => exact .inl rfl
    | some b => exact .inr (fun e => by injection e with e; exact ns _ (.inr (.inl (.inr (.inr (.inr (by rw [hv])))))) e)
  · cases hv : bv.ownBlock with
    | none => exact .inl rfl
    | some b => exact .inr (fun e => by injection e with e; exact ns _ (.inr (.inr (by rw [hv]))) e)
  · have := h.kb
    unfold KB at *
    simp [World.setCell, Array.getElem?_modify, this]
end
end Go.Proofs.Ytpibmccofjpelaa
