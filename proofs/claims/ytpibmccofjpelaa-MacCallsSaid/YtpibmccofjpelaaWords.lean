/- Plain words for this seat's proofs: what it means that a slice value reads as a list of bytes in a world, and that the call owns it. No statement is proved here. -/
import Derived.Test.YtpibmccofjpelaaRows
import Derived.WalkKit
import Derived.Below
import Derived.Laws.OwnMore
import Derived.Deep.QuietTactic
import Derived.BigQuiet
import Derived.Deep.Draws
import Derived.Lib.Hide
import Derived.Maps.AppendAt
namespace Go.Proofs.Ytpibmccofjpelaa
open Go.RowKit

/-- The slice value with address A, length n and room c reads, in the world w, as the bytes xs, and lies below block B. -/
def Row (w : World) (B : Nat) (A : Option Addr) (n c : Nat) (xs : List Nat) : Prop :=
  xs.length = n ∧ (∀ x ∈ xs, x < 256) ∧ n ≤ c ∧ c ≤ maxLen ∧ (A = none → c = 0) ∧
    (∀ a, A = some a → 0 < n → a.spot = none ∧ a.block < B ∧ ∀ j, j < n → w.cell? ⟨a.block, a.off + j, none⟩ = some (.int .u8 ((xs.getD j 0 : Nat) : Int)))

section
variable {w w' : World} {B B' n c : Nat} {A : Option Addr} {xs : List Nat}
theorem Row.len (h : Row w B A n c xs) : xs.length = n := h.1
theorem Row.bytes (h : Row w B A n c xs) : ∀ x ∈ xs, x < 256 := h.2.1
theorem Row.room (h : Row w B A n c xs) : n ≤ c := h.2.2.1
theorem Row.max (h : Row w B A n c xs) : n ≤ 9223372036854775807 := by have h1 := h.2.2.1; have h2 := h.2.2.2.1; unfold maxLen at h2; omega
theorem Row.at_ (h : Row w B A n c xs) (hn : 0 < n) : ∃ b off, A = some ⟨b, off, none⟩ ∧ b < B ∧ ∀ j, j < n → w.cell? ⟨b, off + j, none⟩ = some (.int .u8 ((xs.getD j 0 : Nat) : Int)) := by
  obtain ⟨h1, h2, h3, h4, h5, h6⟩ := h
  cases A with
  | none => have := h5 rfl; omega
  | some a =>
    obtain ⟨hs, hb, hc⟩ := h6 a rfl hn
    obtain ⟨b, off, spot⟩ := a
    simp only at hs
    subst hs
    exact ⟨b, off, rfl, hb, hc⟩
theorem Row.keep (h : Row w B A n c xs) (hk : ∀ p : Addr, p.block < B → w'.cell? p = w.cell? p) : Row w' B A n c xs := by
  obtain ⟨h1, h2, h3, h4, h5, h6⟩ := h
  refine ⟨h1, h2, h3, h4, h5, fun a ha hn => ?_⟩
  obtain ⟨hs, hb, hc⟩ := h6 a ha hn
  exact ⟨hs, hb, fun j hj => (hk ⟨a.block, a.off + j, none⟩ hb).trans (hc j hj)⟩
theorem Row.wider (h : Row w B A n c xs) (hB : B ≤ B') : Row w B' A n c xs := by
  obtain ⟨h1, h2, h3, h4, h5, h6⟩ := h
  refine ⟨h1, h2, h3, h4, h5, fun a ha hn => ?_⟩
  obtain ⟨hs, hb, hc⟩ := h6 a ha hn
  exact ⟨hs, by omega, hc⟩
theorem Row.below (h : Row w B A n c xs) (hb : Below B w w') : Row w' B A n c xs := h.keep fun _ hp => hb.cell hp
theorem Row.drew (h : Row w B A n c xs) : Row w.drew B A n c xs := h
theorem Row.drewN (h : Row w B A n c xs) (k : Nat) : Row (w.drewN k) B A n c xs := h
theorem Row.alloc (h : Row w B A n c xs) (hB : B ≤ w.heap.size) (o : Obj) : Row (w.alloc o) B A n c xs := h.keep fun p hp => World.cell?_alloc_lt w o p (by omega)
theorem Row.lt (h : Row w B A n c xs) (k : Nat) : xs.getD k 0 < 256 := by
  rw [List.getD_eq_getElem?_getD]
  by_cases hk : k < xs.length
  · rw [List.getElem?_eq_getElem hk]; exact h.2.1 _ (List.getElem_mem hk)
  · rw [List.getElem?_eq_none (by omega)]; simp
theorem Row.nil_ (w : World) (B : Nat) : Row w B none 0 0 [] := ⟨rfl, by simp, Nat.le_refl _, by unfold maxLen; omega, fun _ => rfl, fun a ha => by cases ha⟩
end

/-- Bytes as the values that cells hold. -/
def vals (xs : List Nat) : List Value := xs.map fun (x : Nat) => Value.int .u8 (x : Int)
theorem vals_append (xs ys : List Nat) : vals (xs ++ ys) = vals xs ++ vals ys := by simp [vals]
theorem vals_length (xs : List Nat) : (vals xs).length = xs.length := by simp [vals]
theorem vals_getElem? (xs : List Nat) (j : Nat) (h : j < xs.length) : (vals xs)[j]? = some (.int .u8 ((xs.getD j 0 : Nat) : Int)) := by
  simp [vals, h]
theorem vals_one (xs : List Nat) : ∀ u ∈ vals xs, u.oneCell' = true := by
  intro u hu
  simp only [vals, List.mem_map] at hu
  obtain ⟨x, _, rfl⟩ := hu
  rfl

/-- The slice value with address A, length n and room c is nil, or begins at the head of a block from 'base' on that nobody else has, and reads as the bytes xs. -/
def Own (w : World) (base : Nat) (A : Option Addr) (n c : Nat) (xs : List Nat) : Prop :=
  xs.length = n ∧ (∀ x ∈ xs, x < 256) ∧ w.ownsRow base 5 1 (.slice A n c) n (vals xs)

section
variable {w w' : World} {base n c : Nat} {A : Option Addr} {xs : List Nat}
theorem Own.len (h : Own w base A n c xs) : xs.length = n := h.1
theorem Own.row (h : Own w base A n c xs) : Row w w.heap.size A n c xs := by
  obtain ⟨h1, h2, h3⟩ := h
  rcases h3.2 with ⟨hv, hn⟩ | ⟨g, cap, cur, hv, hb, hg, hnc, hm, hs, ht⟩
  · injection hv with e1 e2 e3
    subst e1; subst e2; subst e3
    exact ⟨h1, h2, by omega, by unfold maxLen; omega, fun _ => rfl, fun a ha => by cases ha⟩
  · injection hv with e1 e2 e3
    subst e1; subst e3
    refine ⟨h1, h2, hnc, hm, (fun h => by cases h), fun a ha _ => ?_⟩
    injection ha with ha
    subst ha
    have hlt : g < w.heap.size := (h3.lt g rfl).2
    refine ⟨rfl, hlt, fun j hj => ?_⟩
    have := h3.cells (g := g) rfl j _ (vals_getElem? xs j (by omega))
    rwa [Addr.add_lit] at this
theorem Own.kept {row : Option Nat} (h : Own w base A n c xs) (hg : w.grownBy w' row) (hne : (Value.slice A n c).ownBlock = none ∨ (Value.slice A n c).ownBlock ≠ row) : Own w' base A n c xs :=
  ⟨h.1, h.2.1, h.2.2.kept hg hne⟩
theorem Own.alloc (h : Own w base A n c xs) (o : Obj) : Own (w.alloc o) base A n c xs := ⟨h.1, h.2.1, h.2.2.alloc o⟩
theorem Own.drew (h : Own w base A n c xs) : Own w.drew base A n c xs := h
theorem Own.drewN (h : Own w base A n c xs) (k : Nat) : Own (w.drewN k) base A n c xs := h
theorem grown_of_below (h : Below w.heap.size w w') (row : Option Nat) : w.grownBy w' row := ⟨h.os, h.tape, h.output, h.size, fun i hi _ => h.block i hi⟩
theorem Own.below (h : Own w base A n c xs) (hb : Below w.heap.size w w') : Own w' base A n c xs :=
  h.kept (grown_of_below hb none) (by cases (Value.slice A n c).ownBlock <;> simp)
theorem Own.lower {base' : Nat} (h : Own w base A n c xs) (hb : base' ≤ base) : Own w base' A n c xs := by
  refine ⟨h.1, h.2.1, h.2.2.1, ?_⟩
  rcases h.2.2.2 with h0 | ⟨g, cap, cur, hv, hg, hrest⟩
  · exact .inl h0
  · exact .inr ⟨g, cap, cur, hv, by omega, hrest⟩
theorem below_drewN {B k : Nat} (h : Below B w w') : Below B w (w'.drewN k) := ⟨h.os, h.tape, h.output, h.size, h.block⟩
theorem Own.nil_ (w : World) (base : Nat) : Own w base none 0 0 [] := ⟨rfl, by simp, World.ownsRow_nil _ _ _ _⟩
end

theorem ret_bool {a b : Bool} (h : a = b) : Ending.returned (.bool a) = .returned (.bool b) := by rw [h]
theorem ret_int {k : IntKind} {a b : Int} (h : a = b) : Ending.returned (.int k a) = .returned (.int k b) := by rw [h]

/-- What the frame of a law's proof tells of a slice of bytes that came in: it is nil, or leads to a row of as many cells as it has room. -/
def IsRow (k : IntKind) (w : World) (a : Option Addr) (len cap : Nat) (zs : List Int) : Prop :=
  (a = none ∧ len = 0 ∧ cap = 0 ∧ zs = []) ∨
  ∃ x, a = some x ∧ len ≤ cap ∧ cap ≤ maxLen ∧ zs.length = cap ∧ (∀ i, i < zs.length → w.cell? (x.add i) = some (.int k (zs.getD i 0))) ∧ ∀ n ∈ zs, (Lit.int k n).wf = true

theorem wf_u8 {n : Int} (h : (Lit.int .u8 n).wf = true) : 0 ≤ n ∧ n < 256 := by
  simp [Lit.wf, IntKind.min, IntKind.max, IntKind.bits, IntKind.signed] at h
  omega
theorem wf_u64 {n : Int} (h : (Lit.int .u64 n).wf = true) : 0 ≤ n ∧ n < 18446744073709551616 := by
  simp [Lit.wf, IntKind.min, IntKind.max, IntKind.bits, IntKind.signed] at h
  omega
theorem wf_i64 {n : Int} (h : (Lit.int .i64 n).wf = true) : -9223372036854775808 ≤ n ∧ n ≤ 9223372036854775807 := by
  simp [Lit.wf, IntKind.min, IntKind.max, IntKind.bits, IntKind.signed] at h
  omega

theorem row_of {w : World} {A : Option Addr} {n c : Nat} {zs : List Int} (h : IsRow .u8 w A n c zs) : ∃ xs, Row w w.heap.size A n c xs := by
  rcases h with ⟨rfl, rfl, rfl, rfl⟩ | ⟨x, rfl, hl, hm, hz, hcell, hwz⟩
  · exact ⟨[], Row.nil_ _ _⟩
  · refine ⟨(zs.take n).map Int.toNat, by simp [hz]; omega, ?_, hl, hm, (fun h => by cases h), fun a ha hn => ?_⟩
    · intro y hy
      simp only [List.mem_map] at hy
      obtain ⟨z, hz1, rfl⟩ := hy
      have := wf_u8 (hwz z (List.mem_of_mem_take hz1))
      omega
    · injection ha with ha
      subst ha
      obtain ⟨b, off, spot⟩ := x
      have h0 := hcell 0 (by omega)
      have hs : spot = none := by simpa [Addr.add] using World.cell?_spot h0
      subst hs
      refine ⟨rfl, ?_, fun j hj => ?_⟩
      · rw [Addr.add_lit] at h0
        rcases Nat.lt_or_ge b w.heap.size with h | h
        · exact h
        · simp [World.cell?, Array.getElem?_eq_none h] at h0
      · have := hcell j (by omega)
        rw [Addr.add_lit] at this
        rw [this]
        have hb := wf_u8 (hwz (zs.getD j 0) (by
          rw [List.getD_eq_getElem?_getD, List.getElem?_eq_getElem (by omega)]; exact List.getElem_mem _))
        congr 2
        rw [List.getD_eq_getElem?_getD, List.getElem?_eq_getElem (by omega)] at hb ⊢
        rw [List.getD_eq_getElem?_getD, List.getElem?_map, List.getElem?_take_of_lt hj, List.getElem?_eq_getElem (by omega)]
        simp at hb ⊢
        omega
end Go.Proofs.Ytpibmccofjpelaa
