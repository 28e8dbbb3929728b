/- What a row of rows of bytes that comes in is. No statement is proved here. -/
import Derived.Test.YtpibmccofjpelaaPartsWalk
import Derived.Test.YtpibmccofjpelaaOpen
import Derived.Deep.Matrix
namespace Go.Proofs.Ytpibmccofjpelaa
open Go.ChangeShapes Go.WideShapes Go.ChangeAt Go.RowKit Go.Deep
set_option linter.unusedVariables false

theorem cell_lt {W : World} {b o : Nat} {v : Value} (h : W.cell? ⟨b, o, none⟩ = some v) : b < W.heap.size := by
  rcases Nat.lt_or_ge b W.heap.size with h1 | h1
  · exact h1
  · simp [World.cell?, Array.getElem?_eq_none h1] at h
theorem open_rows {H : Type} {enc : TypeId × Value → H} {W : World} {held : Bool} {A : Option Addr} {n c : Nat} {d : DataW H} {ps : List MemPlace} (hd : DataW.Trod enc Try.prog W 0 (fun _ => true) held 31 (.slice A n c) d ps) :
    (∃ xss, RowsIn W W.heap.size A n xss) ∧ n ≤ 9223372036854775807 := by
  obtain ⟨fuel, hf⟩ := hd
  rcases open_int_rows Try.underlying31 Try.underlying24 Try.underlying5 (by kernel_rfl) (by kernel_rfl) hf with ⟨hcs, _⟩ | ⟨a, len, cap, AA, L, C, Z, hcs, hb, hl, hm, _, hx⟩
  · simp [Value.cells] at hcs
    obtain ⟨rfl, rfl, rfl⟩ := hcs
    exact ⟨⟨[], rfl, fun _ => rfl, fun a ha => by cases ha⟩, by omega⟩
  · simp [Value.cells] at hcs
    obtain ⟨rfl, rfl, rfl⟩ := hcs
    refine ⟨?_, by unfold maxLen at hm; omega⟩
    have each : ∀ r, r < n → ∃ xs, Row W W.heap.size (AA r) (L r) (C r) xs := fun r hr => by
      obtain ⟨_, h1, h2, h3, h4, h5, h6⟩ := hx r (by omega)
      refine row_of (zs := Z r) ?_
      cases hA : AA r with
      | none =>
        have hc := h5 hA
        have hz : Z r = [] := List.eq_nil_of_length_eq_zero (by omega)
        exact .inl ⟨rfl, by omega, hc, hz⟩
      | some x =>
        refine .inr ⟨x, rfl, h1, h2, h3, fun i hi => (h6 x hA).2 i (by omega), h4⟩
    obtain ⟨X, hX⟩ := choose_lt each
    refine ⟨(List.range n).map X, by simp, (fun h => by cases h), fun a' ha hn => ?_⟩
    injection ha with ha
    subst ha
    obtain ⟨b, off, spot⟩ := a
    have h0 := (hx 0 (by omega)).1
    have hs : spot = none := by simpa [Addr.add] using World.cell?_spot h0
    subst hs
    rw [Addr.add_lit] at h0
    refine ⟨rfl, cell_lt h0, fun j hj => ⟨AA j, L j, C j, ?_, ?_⟩⟩
    · have := (hx j (by omega)).1
      rwa [Addr.add_lit] at this
    · have := hX j hj
      simpa [List.getD_eq_getElem?_getD, hj] using this
end Go.Proofs.Ytpibmccofjpelaa
