/- What a book with ideal tags keeps: its tags are the numbers of its marks. No statement is proved here. -/
import Derived.Test.YtpibmccofjpelaaBookBad
namespace Go.Proofs.Ytpibmccofjpelaa
open Go.RowKit Go.Maps
set_option linter.unusedVariables false

/-- No tag is past the last mark's number. -/
def Few (ms : List Mark) : Prop := ∀ u, ms.length < u → firstM ms u = 0
theorem Few.nil_ : Few [] := fun u _ => rfl
theorem Few.snoc {ms : List Mark} (h : Few ms) (xs : List Nat) : Few (ms ++ [(xs, ms.length + 1)]) := fun u hu => by
  simp only [List.length_append, List.length_singleton] at hu
  rw [firstM_snoc, h u (by omega), if_pos rfl, if_neg (by omega)]
theorem findM_le (ms : List Mark) (xs : List Nat) : findM ms xs ≤ ms.length := fN_le _ _
theorem findM_new {ms : List Mark} {xs : List Nat} (h0 : findM ms xs = 0) : findM (ms ++ [(xs, ms.length + 1)]) xs = ms.length + 1 := by
  rw [findM_snoc ms xs _ h0, if_pos rfl]
/-- What changes just blocks from B on keeps what is below B. -/
theorem Only.low {w w' : World} {S : Nat → Prop} {B : Nat} (h : Only w w' S) (hB : B ≤ w.heap.size) (hS : ∀ i, S i → B ≤ i) : ∀ i, i < B → w'.heap[i]? = w.heap[i]? :=
  fun i hi => h.block i (by omega) fun hs => by have := hS i hs; omega
/-- A book with ideal tags, all of it from base on. -/
structure Ib (V : World) (base gk : Nat) (ms : List Mark) (few : Nat) : Prop where
  ex : ∃ gl sv m1 m2, BSt V base gk gl sv m1 m2 ms ∧ base ≤ gl ∧ base ≤ m1 ∧ base ≤ m2
  num : Few ms
  len : ms.length ≤ few
theorem own_low {V : World} {base gl : Nat} {sv : Value} {m1 m2 : Nat} {ms : List Mark} (h : MSt V base gl sv m1 m2 ms) (i : Nat) (hi : sv.ownBlock = some i) : base ≤ i := by
  rcases h.row.2 with ⟨hv, _⟩ | ⟨g2, cap, cur, hv, hl, hr⟩
  · rw [hv] at hi; cases hi
  · rw [hv] at hi
    injection hi with e
    have e' : g2 = i := e
    omega
set_option maxHeartbeats 400000 in
theorem tag_ideal (base gk : Nat) (ms : List Mark) (few : Nat) (A : Option Addr) (n c : Nat) (xs : List Nat) (w : World) (h : Ib w base gk ms few) (hx : Row w w.heap.size A n c xs) (hb : base ≤ w.heap.size) (hf : few < 5000) :
    Calls Try.prog 25 #[.pointer (some ⟨gk, 0, none⟩), .slice A n c] w fun e w' => ∃ t : Nat, ∃ ms', e = .returned (.int .u64 t) ∧ 0 < t ∧ t ≤ few + 1 ∧ findM ms' xs = t ∧ Ib w' base gk ms' (few + 1) ∧ Below base w w' := by
  obtain ⟨⟨gl, sv, m1, m2, hS, b0, b1, b2⟩, hN, hL⟩ := h
  have hle := findM_le ms xs
  by_cases h0 : findM ms xs = 0
  · refine (tag_new base gk gl sv m1 m2 ms A n c xs w hS hx h0 (hN _ (by omega)) hb (by omega)).mono ?_
    rintro e w' ⟨rfl, sv', hS', hO⟩
    refine ⟨ms.length + 1, _, rfl, by omega, by omega, findM_new h0, ⟨⟨gl, sv', m1, m2, hS', b0, b1, b2⟩, hN.snoc xs, by simp; omega⟩, ?_⟩
    refine ⟨hO.os, hO.tape, hO.output, hO.size, hO.low hb ?_⟩
    rintro i (rfl | rfl | rfl | e)
    · exact b0
    · exact b1
    · exact b2
    · exact own_low hS.ls i e
  · refine (tag_old base gk gl sv m1 m2 ms A n c xs w hS hx (by omega) (by omega)).mono ?_
    rintro e w' ⟨rfl, hB⟩
    exact ⟨findM ms xs, ms, rfl, by omega, by omega, rfl, ⟨⟨gl, sv, m1, m2, hS.below hB, b0, b1, b2⟩, hN, by omega⟩, ⟨hB.os, hB.tape, hB.output, hB.size, fun i hi => hB.block i (by omega)⟩⟩
theorem Ib.below {V V2 : World} {base gk : Nat} {ms : List Mark} {few : Nat} (h : Ib V base gk ms few) (hb : Below V.heap.size V V2) : Ib V2 base gk ms few := by
  obtain ⟨⟨gl, sv, m1, m2, hS, b⟩, hN, hL⟩ := h
  exact ⟨⟨gl, sv, m1, m2, hS.below hb, b⟩, hN, hL⟩
theorem Ib.drewN {V : World} {base gk : Nat} {ms : List Mark} {few : Nat} (h : Ib V base gk ms few) (k : Nat) : Ib (V.drewN k) base gk ms few := by
  obtain ⟨⟨gl, sv, m1, m2, hS, b⟩, hN, hL⟩ := h
  exact ⟨⟨gl, sv, m1, m2, hS.drewN k, b⟩, hN, hL⟩
theorem Ib.more {V : World} {base gk : Nat} {ms : List Mark} {few f2 : Nat} (h : Ib V base gk ms few) (hf : few ≤ f2) : Ib V base gk ms f2 := ⟨h.ex, h.num, Nat.le_trans h.len hf⟩
theorem verify_ideal (base gk : Nat) (ms : List Mark) (few : Nat) (A : Option Addr) (n c : Nat) (xs : List Nat) (t : Int) (w : World) (h : Ib w base gk ms few) (hx : Row w w.heap.size A n c xs) (hf : few < 5000) :
    Calls Try.prog 23 #[.pointer (some ⟨gk, 0, none⟩), .slice A n c, .int .u64 t] w fun e w' => e = .returned (.bool (decide (0 < findM ms xs ∧ t = (findM ms xs : Nat)))) ∧ Below w.heap.size w w' := by
  obtain ⟨⟨gl, sv, m1, m2, hS, b⟩, hN, hL⟩ := h
  have hle := findM_le ms xs
  by_cases h0 : findM ms xs = 0
  · rw [decide_eq_false (by omega)]
    exact verify_none base gk gl sv m1 m2 ms A n c xs t w hS hx h0
  · rw [show decide (0 < findM ms xs ∧ t = (findM ms xs : Nat)) = decide (t = (findM ms xs : Nat)) by simp [Nat.pos_of_ne_zero h0]]
    exact verify_some base gk gl sv m1 m2 ms A n c xs t w hS hx (by omega) (by omega)
theorem has_ideal (base gk : Nat) (ms : List Mark) (few : Nat) (A : Option Addr) (n c : Nat) (xs : List Nat) (w : World) (h : Ib w base gk ms few) (hx : Row w w.heap.size A n c xs) :
    Calls Try.prog 27 #[.pointer (some ⟨gk, 0, none⟩), .slice A n c] w fun e w' => e = .returned (.bool (decide (0 < findM ms xs))) ∧ ∃ k, w' = w.drewN k := by
  obtain ⟨⟨gl, sv, m1, m2, hS, b⟩, hN, hL⟩ := h
  exact has_any base gk gl sv m1 m2 ms A n c xs w hS hx
theorem bad_ideal (base gk : Nat) (ms : List Mark) (few : Nat) (w : World) (h : Ib w base gk ms few) :
    Calls Try.prog 32 #[.pointer (some ⟨gk, 0, none⟩)] w fun e w' => (∃ g, e = .returned (.slice (some ⟨g, 0, none⟩) 0 0)) ∧ Below w.heap.size w w' := by
  obtain ⟨⟨gl, sv, m1, m2, hS, b⟩, hN, hL⟩ := h
  exact bad_none base gk gl sv m1 m2 ms w hS
theorem new_ideal (key : List Nat) (base : Nat) (w : World) (hb : base ≤ w.heap.size) :
    Calls Try.prog 21 #[.int .i64 0, .agg (arrV key)] w fun e w' => ∃ gk, e = .returned (.tuple #[.pointer (some ⟨gk, 0, none⟩), .int .i64 0]) ∧ Ib w' base gk [] 0 ∧ w.heap.size ≤ gk ∧ Below w.heap.size w w' := by
  refine (macNew_ideal key base w hb).mono ?_
  rintro e w' ⟨gk, gl, m1, m2, rfl, hS, l0, l1, l2, l3, hB⟩
  exact ⟨gk, rfl, ⟨⟨gl, _, m1, m2, hS, by omega, by omega, by omega⟩, Few.nil_, Nat.le_refl _⟩, l0, hB⟩
end Go.Proofs.Ytpibmccofjpelaa
