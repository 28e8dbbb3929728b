/- Two books of one kind, apart in memory. No statement is proved here. -/
import Derived.Test.YtpibmccofjpelaaAnyBook
namespace Go.Proofs.Ytpibmccofjpelaa
open Go.RowKit Go.Maps
set_option linter.unusedVariables false
set_option linter.unusedSimpArgs false

theorem NumMap.stays {V V2 : World} {kt : TypeId} {b n : Nat} {f : Lit → Nat} (h : NumMap V kt b n f) (hb : V2.heap[b]? = V.heap[b]?) : NumMap V2 kt b n f := by
  obtain ⟨D, ⟨es, clock, h1, h2⟩, h3, h4⟩ := h
  exact ⟨D, ⟨es, clock, hb.trans h1, h2⟩, h3, h4⟩
theorem owns_stays {V V2 : World} {base : Nat} {e : TypeId} {size n : Nat} {v : Value} {xs : List Value} (h : V.ownsRow base e size v n xs) (hb : ∀ g, v.ownBlock = some g → V2.heap[g]? = V.heap[g]?) : V2.ownsRow base e size v n xs := by
  refine ⟨h.1, ?_⟩
  rcases h.2 with h0 | ⟨g, cap, cur, hv, hg, hc, r⟩
  · exact .inl h0
  · exact .inr ⟨g, cap, cur, hv, hg, (hb g (by rw [hv]; rfl)).trans hc, r⟩
/-- A book stays where its blocks do, and blocks of no book's types. -/
theorem Gk.stays {V V2 : World} {base gk : Nat} {K : Kd} {ms : List Mark} {rs : List Bm} {gl : Nat} {sv : Value} {m1 m2 : Nat} {bv : Value} (h : Gk V base gk K ms rs gl sv m1 m2 bv) (hs : ∀ i, bkS gk gl sv m1 m2 bv i → V2.heap[i]? = V.heap[i]?) (ho : ∀ i, Other V i → V2.heap[i]? = V.heap[i]?) : Gk V2 base gk K ms rs gl sv m1 m2 bv :=
  ⟨(hs _ (.inl rfl)).trans h.blk, ⟨(hs _ (.inr (.inl (.inl rfl)))).trans h.ls.blk, h.ls.n1.stays (hs _ (.inr (.inl (.inr (.inl rfl))))), h.ls.n2.stays (hs _ (.inr (.inl (.inr (.inr (.inl rfl)))))), owns_stays h.ls.row (fun g hg => hs _ (.inr (.inl (.inr (.inr (.inr hg)))))), h.ls.few, h.ls.bytes, h.ls.ne⟩,
    owns_stays h.bad (fun g hg => hs _ (.inr (.inr hg))), fun r hr => (h.own r hr).stays ho, h.lo⟩
theorem near_S {w : World} {gk gl : Nat} {sv sv' : Value} {m1 m2 : Nat} {bv bv' : Value} (h1 : Near w sv sv') (h2 : Near w bv bv') {i : Nat} (hi : bkS gk gl sv' m1 m2 bv' i) : bkS gk gl sv m1 m2 bv i ∨ w.heap.size ≤ i := by
  rcases hi with rfl | (rfl | rfl | rfl | e) | e
  · exact .inl (.inl rfl)
  · exact .inl (.inr (.inl (.inl rfl)))
  · exact .inl (.inr (.inl (.inr (.inl rfl))))
  · exact .inl (.inr (.inl (.inr (.inr (.inl rfl)))))
  · rcases h1 with q | ⟨j, q1, q2⟩
    · exact .inl (.inr (.inl (.inr (.inr (.inr (q ▸ e))))))
    · rw [q2] at e; injection e with e; exact .inr (by omega)
  · rcases h2 with q | ⟨j, q1, q2⟩
    · exact .inl (.inr (.inr (q ▸ e)))
    · rw [q2] at e; injection e with e; exact .inr (by omega)
/-- Two books apart, and a call in a block. -/
structure Pair (w : World) (K : Kd) (ga gb : Nat) (ma mb : List Mark) (ra rb : List Bm) (few : Nat) (g : Nat) (x : Cl) (A : Option Addr) (n c : Nat) (W : World) : Prop where
  ex : ∃ la sa a1 a2 va lb sb b1 b2 vb, Gk W w.heap.size ga K ma ra la sa a1 a2 va ∧ Gk W w.heap.size gb K mb rb lb sb b1 b2 vb ∧ ∀ i, bkS ga la sa a1 a2 va i → ¬ bkS gb lb sb b1 b2 vb i
  mka : ∀ m ∈ ma, m.1.length ≤ 1000
  mkb : ∀ m ∈ mb, m.1.length ≤ 1000
  la : ma.length ≤ few ∧ ra.length ≤ few
  lb : mb.length ≤ few ∧ rb.length ≤ few
  kb : KB W g x (.slice A n c)
  row : Row W w.heap.size A n c x.xs
  len : n ≤ 1000
  bel : Below w.heap.size w W
section
variable {w W W' : World} {K : Kd} {ga gb few g n c : Nat} {ma mb : List Mark} {ra rb : List Bm} {x : Cl} {A : Option Addr}
theorem Pair.symm (h : Pair w K ga gb ma mb ra rb few g x A n c W) : Pair w K gb ga mb ma rb ra few g x A n c W := by
  obtain ⟨la, sa, a1, a2, va, lb, sb, b1, b2, vb, h1, h2, h3⟩ := h.ex
  exact ⟨⟨lb, sb, b1, b2, vb, la, sa, a1, a2, va, h2, h1, fun i hi hj => h3 i hj hi⟩, h.mkb, h.mka, h.lb, h.la, h.kb, h.row, h.len, h.bel⟩
theorem tgM_mem {K : Kd} {ms : List Mark} {xs : List Nat} (hm : ∀ m ∈ ms, m.1.length ≤ 1000) (hx : xs.length ≤ 1000) : ∀ m ∈ tgM K ms xs, m.1.length ≤ 1000 := fun m h => by
  unfold tgM at h
  split at h
  · exact hm m h
  · rcases List.mem_append.1 h with h | h
    · exact hm m h
    · simp only [List.mem_singleton] at h; subst h; exact hx
theorem tgM_len (K : Kd) (ms : List Mark) (xs : List Nat) : (tgM K ms xs).length ≤ ms.length + 1 := by
  unfold tgM; split <;> simp
theorem tgE_len (K : Kd) (ms : List Mark) (xs : List Nat) : (tgE K ms xs).length ≤ 1 := by
  unfold tgE; split
  · simp
  · split <;> simp
theorem vrE_len (K : Kd) (ms : List Mark) (xs : List Nat) (t : Nat) : (vrE K ms xs t).length ≤ 1 := by
  unfold vrE; split <;> simp
/-- The first book is told to tag the call's message. -/
theorem Pair.tagA (h : Pair w K ga gb ma mb ra rb few g x A n c W) (hK : K.ok) (hf : few < 800) : Calls Try.prog 25 #[.pointer (some ⟨ga, 0, none⟩), .slice A n c] W fun e w' => e = .returned (.int .u64 (tgT K ma x.xs : Nat)) ∧ ∃ ra', ra'.map (·.e) = ra.map (·.e) ++ tgE K ma x.xs ∧ Pair w K ga gb (tgM K ma x.xs) mb ra' rb (few + 1) g x A n c w' := by
  obtain ⟨la, sa, a1, a2, va, lb, sb, b1, b2, vb, h1, h2, h3⟩ := h.ex
  have l1 := h.la
  have l2 := h.lb
  have hxl : x.xs.length ≤ 1000 := by rw [h.row.len]; exact h.len
  have hd : ∀ a, A = some a → 0 < n → ¬ bkS ga la sa a1 a2 va a.block := fun a ha hn e => by
    have q1 := h1.low e
    have q2 := (h.row.2.2.2.2.2 a ha hn).2.1
    omega
  refine (h1.tag hK (h.row.wider h.bel.size) h.len h.mka h.bel.size (by omega) (by omega) hd).mono ?_
  rintro e w' ⟨rfl, sv', bv', rs', hev, hg, ho, n1, n2⟩
  have oth : ∀ i, Other W i → w'.heap[i]? = W.heap[i]? := fun i hi => ho.block i (other_lt hi) (fun e => h1.not_other e hi)
  have hB : Below w.heap.size W w' := ⟨ho.os, ho.tape, ho.output, ho.size, fun i hi => ho.block i (Nat.lt_of_lt_of_le hi h.bel.size) (fun e => by have := h1.low e; omega)⟩
  have e1 := tgM_len K ma x.xs
  have e2 := tgE_len K ma x.xs
  have e3 := congrArg List.length hev
  simp only [List.length_map, List.length_append] at e3
  refine ⟨rfl, rs', hev, ⟨la, sv', a1, a2, bv', lb, sb, b1, b2, vb, hg, h2.stays (fun i hi => ho.block i (h2.in_ hi) (fun e => h3 i e hi)) oth, fun i hi hj => ?_⟩, tgM_mem h.mka hxl, h.mkb, ⟨by omega, by omega⟩, ⟨by omega, by omega⟩, (oth _ ⟨_, 51, _, h.kb, by decide, by decide, by decide, by decide⟩).trans h.kb, h.row.below hB, h.len, h.bel.trans hB⟩
  rcases near_S n1 n2 hi with q | q
  · exact h3 i q hj
  · have := h2.in_ hj; omega
/-- The first book is asked whether a tag is the message's. -/
theorem Pair.verA (h : Pair w K ga gb ma mb ra rb few g x A n c W) (hK : K.ok) (hf : few < 800) (t : Nat) : Calls Try.prog 23 #[.pointer (some ⟨ga, 0, none⟩), .slice A n c, .int .u64 (t : Nat)] W fun e w' => e = .returned (.bool (vrB K ma x.xs t)) ∧ ∃ ra', ra'.map (·.e) = ra.map (·.e) ++ vrE K ma x.xs t ∧ Pair w K ga gb ma mb ra' rb (few + 1) g x A n c w' := by
  obtain ⟨la, sa, a1, a2, va, lb, sb, b1, b2, vb, h1, h2, h3⟩ := h.ex
  have l1 := h.la
  have l2 := h.lb
  refine (h1.verify hK (h.row.wider h.bel.size) h.len h.bel.size (by omega) (by omega) t).mono ?_
  rintro e w' ⟨rfl, bv', rs', hev, hg, ho, n2⟩
  have oth : ∀ i, Other W i → w'.heap[i]? = W.heap[i]? := fun i hi => ho.block i (other_lt hi) (fun e => h1.not_other e hi)
  have hB : Below w.heap.size W w' := ⟨ho.os, ho.tape, ho.output, ho.size, fun i hi => ho.block i (Nat.lt_of_lt_of_le hi h.bel.size) (fun e => by have := h1.low e; omega)⟩
  have e2 := vrE_len K ma x.xs t
  have e3 := congrArg List.length hev
  simp only [List.length_map, List.length_append] at e3
  refine ⟨rfl, rs', hev, ⟨la, sa, a1, a2, bv', lb, sb, b1, b2, vb, hg, h2.stays (fun i hi => ho.block i (h2.in_ hi) (fun e => h3 i e hi)) oth, fun i hi hj => ?_⟩, h.mka, h.mkb, ⟨by omega, by omega⟩, ⟨by omega, by omega⟩, (oth _ ⟨_, 51, _, h.kb, by decide, by decide, by decide, by decide⟩).trans h.kb, h.row.below hB, h.len, h.bel.trans hB⟩
  rcases near_S (Near.refl W sa) n2 hi with q | q
  · exact h3 i q hj
  · have := h2.in_ hj; omega
end
end Go.Proofs.Ytpibmccofjpelaa
