/- A book and a map of its marks. No statement is proved here. -/
import Derived.Test.YtpibmccofjpelaaMarkMap
namespace Go.Proofs.Ytpibmccofjpelaa
open Go.RowKit Go.Maps
set_option linter.unusedVariables false
set_option linter.unusedSimpArgs false

/-- A book, whose marks are ms, and a map, which holds ns. -/
structure Mk (w : World) (K : Kd) (ga gm : Nat) (ms ns : List Mark) (rs : List Bm) (few : Nat) (W : World) : Prop where
  ex : ∃ la sa a1 a2 va, Gk W w.heap.size ga K ms rs la sa a1 a2 va ∧ ¬ bkS ga la sa a1 a2 va gm
  mrk : ∀ m ∈ ms, m.1.length ≤ 1000
  la : ms.length ≤ few ∧ rs.length ≤ few
  mp : TMap W K gm few ns
  lo : w.heap.size ≤ gm
  bel : Below w.heap.size w W
/-- .. and a call in a block. -/
structure MkC (w : World) (K : Kd) (ga gm : Nat) (ms ns : List Mark) (rs : List Bm) (few g : Nat) (x : Cl) (A : Option Addr) (n c : Nat) (W : World) : Prop where
  u : Mk w K ga gm ms ns rs few W
  kb : KB W g x (.slice A n c)
  row : Row W w.heap.size A n c x.xs
  len : n ≤ 1000
section
variable {w W W' : World} {K : Kd} {ga gm few g n c : Nat} {ms ns : List Mark} {rs : List Bm} {x : Cl} {A : Option Addr}
theorem TMap.mono {V : World} {b k k' : Nat} (h : TMap V K b k ms) (hk : k ≤ k') : TMap V K b k' ms := by
  obtain ⟨D, h1, h2⟩ := h
  exact ⟨D, h1.mono hk, h2⟩
theorem Mk.call (h : Mk w K ga gm ms ns rs few W) (hb : Below W.heap.size W W') : Mk w K ga gm ms ns rs few W' := by
  obtain ⟨la, sa, a1, a2, va, h1, h2⟩ := h.ex
  exact ⟨⟨la, sa, a1, a2, va, h1.below hb, h2⟩, h.mrk, h.la, h.mp.below hb, h.lo, h.bel.trans (hb.mono h.bel.size)⟩
theorem Mk.more {f2 : Nat} (h : Mk w K ga gm ms ns rs few W) (hf : few ≤ f2) : Mk w K ga gm ms ns rs f2 W := ⟨h.ex, h.mrk, ⟨Nat.le_trans h.la.1 hf, Nat.le_trans h.la.2 hf⟩, h.mp.mono hf, h.lo, h.bel⟩
theorem Mk.drewN (h : Mk w K ga gm ms ns rs few W) (k : Nat) : Mk w K ga gm ms ns rs few (W.drewN k) := by
  obtain ⟨la, sa, a1, a2, va, h1, h2⟩ := h.ex
  exact ⟨⟨la, sa, a1, a2, va, h1.drewN k, h2⟩, h.mrk, h.la, h.mp.stays rfl, h.lo, below_drewN h.bel⟩
theorem MkC.drewN (h : MkC w K ga gm ms ns rs few g x A n c W) (k : Nat) : MkC w K ga gm ms ns rs few g x A n c (W.drewN k) := ⟨h.u.drewN k, h.kb.drewN k, h.row.drewN k, h.len⟩
theorem MkC.new (h : Mk w K ga gm ms ns rs few W) (hr : Row W w.heap.size A n c x.xs) (hn : n ≤ 1000) : MkC w K ga gm ms ns rs few W.heap.size x A n c (W.alloc (.cells #[.bool x.v, .bool x.o, .slice A n c, .int .u64 (x.t : Nat)] 51)) :=
  have hB := (Below.refl W.heap.size W).alloc (Nat.le_refl _) (.cells #[.bool x.v, .bool x.o, .slice A n c, .int .u64 (x.t : Nat)] 51)
  ⟨h.call hB, KB.new W x _, hr.below (below_low hB h.bel.size), hn⟩
/-- A map is made beside a book. -/
theorem Mk.made {la : Nat} {sa : Value} {a1 a2 : Nat} {va : Value} (h : Gk W w.heap.size ga K [] [] la sa a1 a2 va) (hb : Below w.heap.size w W) : Mk w K ga W.heap.size [] [] [] 0 (W.alloc (.map #[] 0)) :=
  have hB := (Below.refl W.heap.size W).alloc (Nat.le_refl _) (.map #[] 0)
  ⟨⟨la, sa, a1, a2, va, h.below hB, fun e => by have := h.in_ e; omega⟩, fun m hm => absurd hm (by simp), by simp, TMap.made W K, hb.size, hb.alloc hb.size _⟩
/-- What a book changes leaves the map. -/
theorem Mk.changed {la : Nat} {sa : Value} {a1 a2 : Nat} {va : Value} {sv' bv' : Value} {ms' : List Mark} {rs' : List Bm} {f2 : Nat} (h : Mk w K ga gm ms ns rs few W) (h1 : Gk W w.heap.size ga K ms rs la sa a1 a2 va) (h2 : ¬ bkS ga la sa a1 a2 va gm)
    (hg : Gk W' w.heap.size ga K ms' rs' la sv' a1 a2 bv') (ho : Only W W' (bkS ga la sa a1 a2 va)) (n1 : Near W sa sv') (n2 : Near W va bv') (hm : ∀ m ∈ ms', m.1.length ≤ 1000) (hl : ms'.length ≤ f2 ∧ rs'.length ≤ f2) (hf : few ≤ f2) : Mk w K ga gm ms' ns rs' f2 W' := by
  have hB : Below w.heap.size W W' := ⟨ho.os, ho.tape, ho.output, ho.size, fun i hi => ho.block i (Nat.lt_of_lt_of_le hi h.bel.size) (fun e => by have := h1.low e; omega)⟩
  refine ⟨⟨la, sv', a1, a2, bv', hg, fun e => ?_⟩, hm, hl, (h.mp.stays (ho.block gm h.mp.lt h2)).mono hf, h.lo, h.bel.trans hB⟩
  rcases near_S n1 n2 e with q | q
  · exact h2 q
  · have := h.mp.lt; omega
theorem MkC.tag (h : MkC w K ga gm ms ns rs few g x A n c W) (hK : K.ok) (hf : few < 800) : Calls Try.prog 25 #[.pointer (some ⟨ga, 0, none⟩), .slice A n c] W fun e w' => e = .returned (.int .u64 (tgT K ms x.xs : Nat)) ∧ ∃ rs', MkC w K ga gm (tgM K ms x.xs) ns rs' (few + 1) g x A n c w' := by
  obtain ⟨la, sa, a1, a2, va, h1, h2⟩ := h.u.ex
  have l1 := h.u.la
  have hxl : x.xs.length ≤ 1000 := by rw [h.row.len]; exact h.len
  have hd : ∀ a, A = some a → 0 < n → ¬ bkS ga la sa a1 a2 va a.block := fun a ha hn e => by
    have q1 := h1.low e
    have q2 := (h.row.2.2.2.2.2 a ha hn).2.1
    omega
  refine (h1.tag hK (h.row.wider h.u.bel.size) h.len h.u.mrk h.u.bel.size (by omega) (by omega) hd).mono ?_
  rintro e w' ⟨rfl, sv', bv', rs', hev, hg, ho, n1, n2⟩
  have oth : ∀ i, Other W i → w'.heap[i]? = W.heap[i]? := fun i hi => ho.block i (other_lt hi) (fun e => h1.not_other e hi)
  have hB : Below w.heap.size W w' := ⟨ho.os, ho.tape, ho.output, ho.size, fun i hi => ho.block i (Nat.lt_of_lt_of_le hi h.u.bel.size) (fun e => by have := h1.low e; omega)⟩
  have e1 := tgM_len K ms x.xs
  have e2 := tgE_len K ms x.xs
  have e3 := congrArg List.length hev
  simp only [List.length_map, List.length_append] at e3
  exact ⟨rfl, rs', h.u.changed h1 h2 hg ho n1 n2 (tgM_mem h.u.mrk hxl) ⟨by omega, by omega⟩ (by omega), (oth _ ⟨_, 51, _, h.kb, by decide, by decide, by decide, by decide⟩).trans h.kb, h.row.below hB, h.len⟩
theorem Mk.ver (h : Mk w K ga gm ms ns rs few W) (hK : K.ok) (hf : few < 800) {xs : List Nat} (hx : Row W W.heap.size A n c xs) (hn : n ≤ 1000) (t : Nat) : Calls Try.prog 23 #[.pointer (some ⟨ga, 0, none⟩), .slice A n c, .int .u64 (t : Nat)] W fun e w' => e = .returned (.bool (vrB K ms xs t)) ∧ (∃ rs', rs'.length ≤ rs.length + (vrE K ms xs t).length ∧ Mk w K ga gm ms ns rs' (few + 1) w') ∧ (∀ i, Other W i → w'.heap[i]? = W.heap[i]?) ∧ W.heap.size ≤ w'.heap.size ∧ Below w.heap.size W w' := by
  obtain ⟨la, sa, a1, a2, va, h1, h2⟩ := h.ex
  have l1 := h.la
  refine (h1.verify hK hx hn h.bel.size (by omega) (by omega) t).mono ?_
  rintro e w' ⟨rfl, bv', rs', hev, hg, ho, n2⟩
  have oth : ∀ i, Other W i → w'.heap[i]? = W.heap[i]? := fun i hi => ho.block i (other_lt hi) (fun e => h1.not_other e hi)
  have hB : Below w.heap.size W w' := ⟨ho.os, ho.tape, ho.output, ho.size, fun i hi => ho.block i (Nat.lt_of_lt_of_le hi h.bel.size) (fun e => by have := h1.low e; omega)⟩
  have e2 := vrE_len K ms xs t
  have e3 := congrArg List.length hev
  simp only [List.length_map, List.length_append] at e3
  exact ⟨rfl, ⟨rs', by omega, h.changed h1 h2 hg ho (Near.refl W sa) n2 h.mrk ⟨by omega, by omega⟩ (by omega)⟩, oth, ho.size, hB⟩
theorem MkC.ver (h : MkC w K ga gm ms ns rs few g x A n c W) (hK : K.ok) (hf : few < 800) (t : Nat) : Calls Try.prog 23 #[.pointer (some ⟨ga, 0, none⟩), .slice A n c, .int .u64 (t : Nat)] W fun e w' => e = .returned (.bool (vrB K ms x.xs t)) ∧ ∃ rs', MkC w K ga gm ms ns rs' (few + 1) g x A n c w' := by
  refine (h.u.ver hK hf (h.row.wider h.u.bel.size) h.len t).mono ?_
  rintro e w' ⟨rfl, ⟨rs', _, hM⟩, oth, _, hB⟩
  exact ⟨rfl, rs', hM, (oth _ ⟨_, 51, _, h.kb, by decide, by decide, by decide, by decide⟩).trans h.kb, h.row.below hB, h.len⟩
/-- The map is told of a mark. -/
theorem MkC.put (h : MkC w K ga gm (tgM K ns x.xs) ns rs few g x A n c W) (hf : few < 900) (ht : tgT K ns x.xs < 18446744073709551616) :
    ∃ w', (Instr.mapUpdate 64 (.map (some gm)) (.string (txt x.xs)) (.int .u64 (tgT K ns x.xs : Nat))).run Try.prog W = .ok () w' ∧ Mk w K ga gm (tgM K ns x.xs) (tgM K ns x.xs) rs (few + 1) w' := by
  obtain ⟨la, sa, a1, a2, va, h1, h2⟩ := h.u.ex
  have hxl : x.xs.length ≤ 1000 := by rw [h.row.len]; exact h.len
  obtain ⟨w', hrun, hm, hg⟩ := h.u.mp.put (by omega) h.row.bytes hxl ht
  have blk : ∀ i, i < W.heap.size → i ≠ gm → w'.heap[i]? = W.heap[i]? := fun i hi hne => hg.block i hi (fun e => by injection e with e; exact hne e)
  refine ⟨w', hrun, ⟨la, sa, a1, a2, va, h1.stays (fun i hi => blk i (h1.in_ hi) (fun e => h2 (e ▸ hi))) (fun i hi => blk i (other_lt hi) (fun e => h.u.mp.not_other (e ▸ hi))), h2⟩, h.u.mrk, ⟨by have := h.u.la; omega, by have := h.u.la; omega⟩, hm, h.u.lo, h.u.bel.trans ⟨hg.os, hg.tape, hg.output, hg.size, fun i hi => blk i (Nat.lt_of_lt_of_le hi h.u.bel.size) (fun e => by have := h.u.lo; omega)⟩⟩
end
end Go.Proofs.Ytpibmccofjpelaa
