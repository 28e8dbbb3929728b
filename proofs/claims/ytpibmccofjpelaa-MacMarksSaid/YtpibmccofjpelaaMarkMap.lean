/- A map from messages to tags, of a call's own, that holds what a book's marks are. No statement is proved here. -/
import Derived.Test.YtpibmccofjpelaaTwoBook
import Derived.Maps.OwnSet
namespace Go.Proofs.Ytpibmccofjpelaa
open Go.RowKit Go.Maps
set_option linter.unusedVariables false
set_option linter.unusedSimpArgs false

/-- The tag that stands at a message; 0, if there is none. -/
def valK (K : Kd) (ms : List Mark) (xs : List Nat) : Nat := if findM ms xs = 0 then 0 else tagK K xs (findM ms xs)
/-- The marks are of one message each, with its tag. -/
def Good (K : Kd) (ms : List Mark) : Prop := ∀ i m, ms[i]? = some m → findM ms m.1 = i + 1 ∧ m.2 = tagK K m.1 (i + 1)
theorem findM_tgM_same (K : Kd) (ms : List Mark) (xs : List Nat) : findM (tgM K ms xs) xs = if findM ms xs = 0 then ms.length + 1 else findM ms xs := by
  unfold tgM
  by_cases h : findM ms xs = 0
  · rw [if_neg (by omega), if_pos h]
    unfold findM at *
    rw [fN_snoc, if_pos h]
    simp
  · rw [if_pos (by omega), if_neg h]
theorem findM_tgM_other (K : Kd) (ms : List Mark) {xs ys : List Nat} (hne : ys ≠ xs) : findM (tgM K ms xs) ys = findM ms ys := by
  unfold tgM
  split
  · rfl
  · unfold findM at *
    rw [fN_snoc]
    split
    · rename_i h
      rw [h, if_neg]
      simp only [beq_iff_eq]
      exact fun e => hne e.symm
    · rfl
theorem valK_tgM_same (K : Kd) (ms : List Mark) (xs : List Nat) : valK K (tgM K ms xs) xs = tgT K ms xs := by
  unfold valK tgT
  rw [findM_tgM_same]
  by_cases h : findM ms xs = 0
  · rw [if_pos h, if_neg (by omega), if_neg (by omega)]
  · rw [if_neg h, if_neg h, if_pos (by omega)]
theorem Good.nil (K : Kd) : Good K [] := fun i m h => by simp at h
theorem Good.tag {K : Kd} {ms : List Mark} (h : Good K ms) (xs : List Nat) : Good K (tgM K ms xs) := by
  intro i m hm
  by_cases h0 : findM ms xs = 0
  · have e : tgM K ms xs = ms ++ [(xs, tagK K xs (ms.length + 1))] := by unfold tgM; rw [if_neg (by omega)]
    rcases Nat.lt_or_ge i ms.length with hl | hl
    · rw [e, List.getElem?_append_left hl] at hm
      have := h i m hm
      have hne : m.1 ≠ xs := fun q => by rw [q, h0] at this; omega
      rw [findM_tgM_other K ms hne]
      exact this
    · rw [e, List.getElem?_append_right hl] at hm
      have hi : i - ms.length = 0 := by
        rcases Nat.eq_zero_or_pos (i - ms.length) with q | q
        · exact q
        · rw [List.getElem?_eq_none (by simp; omega)] at hm; cases hm
      rw [hi] at hm
      simp only [List.getElem?_cons_zero, Option.some.injEq] at hm
      subst hm
      rw [findM_tgM_same, if_pos h0]
      have : i = ms.length := by omega
      subst this
      exact ⟨rfl, rfl⟩
  · have e : tgM K ms xs = ms := by unfold tgM; rw [if_pos (by omega)]
    rw [e] at hm ⊢
    exact h i m hm
theorem zero25 (w : World) : (zeroValue 25).run Try.prog w = .ok (.int .u64 0) w := by kernel_rfl
theorem str_inj {xs ys : List Nat} (hx : ∀ x ∈ xs, x < 256) (hy : ∀ x ∈ ys, x < 256) (h : ys ≠ xs) : Lit.string (ys.map UInt8.ofNat) ≠ Lit.string (xs.map UInt8.ofNat) := fun e => by
  injection e with e
  have := congrArg (List.map UInt8.toNat) e
  rw [back_bytes xs hx, back_bytes ys hy] at this
  exact h this
/-- Block b is a map from messages to tags that holds the marks ms. -/
def TMap (V : World) (K : Kd) (b n : Nat) (ms : List Mark) : Prop :=
  ∃ D : DataW Unit, V.ownsMap Try.prog 9 (plainElem Try.prog 25) b n D ∧ Tidy D ∧ Maps.size D = ms.length ∧ ∀ xs : List Nat, (∀ x ∈ xs, x < 256) → Maps.has D (.string (xs.map UInt8.ofNat)) = decide (0 < findM ms xs) ∧ D.atKey (.string (xs.map UInt8.ofNat)) (.lit (.int .u64 0)) = .lit (.int .u64 (valK K ms xs : Nat))
section
variable {V V2 : World} {K : Kd} {b n : Nat} {ms : List Mark}
theorem TMap.lt (h : TMap V K b n ms) : b < V.heap.size := by obtain ⟨D, h1, _⟩ := h; exact h1.lt
theorem TMap.stays (h : TMap V K b n ms) (hb : V2.heap[b]? = V.heap[b]?) : TMap V2 K b n ms := by
  obtain ⟨D, ⟨es, clock, h1, h2⟩, h3⟩ := h
  exact ⟨D, ⟨es, clock, hb.trans h1, h2⟩, h3⟩
theorem TMap.below (h : TMap V K b n ms) (hb : Below V.heap.size V V2) : TMap V2 K b n ms := h.stays (hb.block b h.lt)
theorem TMap.not_other (h : TMap V K b n ms) : ¬ Other V b := by
  obtain ⟨D, ⟨es, clock, hb, _⟩, _⟩ := h
  rintro ⟨cs, t, q, e, _⟩
  rw [hb] at e; cases e
theorem TMap.made (V : World) (K : Kd) : TMap (V.alloc (.map #[] 0)) K V.heap.size 0 [] := ⟨.map [], World.ownsMap_made V Try.prog 9 _, tidy_empty, rfl, fun xs _ => ⟨rfl, rfl⟩⟩
theorem TMap.look (h : TMap V K b n ms) {xs : List Nat} (hx : ∀ x ∈ xs, x < 256) (hl : xs.length ≤ 1000) :
    (Instr.lookup 64 (.map (some b)) (.string (txt xs)) true).run Try.prog V = .ok (.tuple #[.int .u64 (valK K ms xs : Nat), .bool (decide (0 < findM ms xs))]) V := by
  obtain ⟨D, h1, h2, h3, h4⟩ := h
  obtain ⟨e1, e2⟩ := h4 xs hx
  obtain ⟨v, ps, hrun, hv⟩ := h1.look_ok (string_keyed Try.underlying9) Try.underlying64 (zero25 V) (plainElem_int Try.underlying25 (by decide)) (key_string (n := xs.length) rfl (by omega))
  obtain ⟨c, rfl, hc, _⟩ := plainElem_int_inv Try.underlying25 hv
  rw [e2] at hc
  have hc := congrArg Prod.fst hc
  injection hc with hc
  injection hc with _ hc
  rw [hrun, e1, ← hc]
theorem TMap.len (h : TMap V K b n ms) (ty : TypeId) : (Builtin.len_ #[64] ty #[.map (some b)]).run Try.prog V = .ok (.int .i64 (ms.length : Nat)) V := by
  obtain ⟨D, h1, h2, h3, h4⟩ := h
  rw [h1.len Try.underlying64 ty, h3]
theorem TMap.put (h : TMap V K b n ms) (hn : n < 1000000) {xs : List Nat} (hx : ∀ x ∈ xs, x < 256) (hl : xs.length ≤ 1000) (ht : tgT K ms xs < 18446744073709551616) :
    ∃ w', (Instr.mapUpdate 64 (.map (some b)) (.string (txt xs)) (.int .u64 (tgT K ms xs : Nat))).run Try.prog V = .ok () w' ∧ TMap w' K b (n + 1) (tgM K ms xs) ∧ V.grownBy w' (some b) := by
  obtain ⟨D, h1, h2, h3, h4⟩ := h
  have hwf : (Lit.int .u64 (tgT K ms xs : Nat)).wf = true := by simp [Lit.wf, IntKind.min, IntKind.max, IntKind.bits, IntKind.signed]; omega
  obtain ⟨w', hrun, ho, hg⟩ := h1.update (string_keyed Try.underlying9) Try.underlying64 (by unfold maxLen; omega) (key_string (n := xs.length) rfl (by omega)) (plainElem_int Try.underlying25 hwf)
  have hk : WideAt.IsKeyLit (Lit.string (xs.map UInt8.ofNat)) := by trivial
  refine ⟨w', hrun, ⟨_, ho, h2.put hk _, ?_, fun ys hy => ?_⟩, hg⟩
  · rw [size_put h2, (h4 xs hx).1, h3]
    unfold tgM
    by_cases q : 0 < findM ms xs
    · simp [q]
    · simp [q]
  · by_cases e : ys = xs
    · subst e
      rw [has_put_same h2.isMap hk, atKey_put_same h2.isMap hk, valK_tgM_same, findM_tgM_same]
      refine ⟨?_, rfl⟩
      symm
      apply decide_eq_true
      split <;> omega
    · have hne := str_inj hx hy e
      rw [has_put_other hne, atKey_put_other hne, findM_tgM_other K ms e]
      have ev : valK K (tgM K ms xs) ys = valK K ms ys := by unfold valK; rw [findM_tgM_other K ms e]
      rw [ev]
      exact h4 ys hy
end
end Go.Proofs.Ytpibmccofjpelaa
