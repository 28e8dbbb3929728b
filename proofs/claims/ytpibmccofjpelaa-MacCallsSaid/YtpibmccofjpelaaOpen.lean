/- What a block, or a row of four numbers, that comes in is. No statement is proved here. -/
import Derived.Test.YtpibmccofjpelaaSpeaks
import Derived.WideKeyArr2
import Derived.ProofKit
namespace Go.Proofs.Ytpibmccofjpelaa
open Go.ChangeShapes Go.WideShapes Go.ChangeAt Go.RowKit
set_option linter.unusedVariables false

theorem arr23 : WideMaps.ArrKey Try.prog 23 5 16 := ⟨Try.underlying23, by kernel_rfl, by kernel_rfl, by kernel_rfl⟩
theorem mapM_each {α β : Type} {f : α → Option β} : ∀ (L : List α) (xs : List β), L.mapM f = some xs → ∀ i ∈ L, ∃ y, f i = some y
  | [], _, _ => fun i hi => by cases hi
  | j :: L, xs, h => by
    rw [List.mapM_cons] at h
    simp only [bind, Option.bind_eq_some_iff, pure, Option.some.injEq] at h
    obtain ⟨y, hy, ys, hys, rfl⟩ := h
    intro i hi
    rcases List.mem_cons.1 hi with rfl | hi
    · exact ⟨y, hy⟩
    · exact mapM_each L ys hys i hi
def natOf : Value → Nat
  | .int _ a => a.toNat
  | _ => 0
theorem open_block {H : Type} {enc : TypeId × Value → H} {W : World} {base b0 : Nat} {sp : Nat → Bool} {held : Bool} {r : Reach} {v : Value} {d : DataW H} {ps : List MemPlace} (ho : Value.okWide Try.prog W r b0 23 v) (hd : DataW.Trod enc Try.prog W base sp held 23 v d ps) :
    ∃ l : List Nat, v = .agg (arrV l) ∧ l.length = 16 ∧ ∀ x ∈ l, x < 256 := by
  obtain ⟨xs, rfl, hn⟩ := WideMaps.okWide_arr arr23 ho
  obtain ⟨fuel, hf⟩ := hd
  cases fuel with
  | zero => simp [DataW.trod] at hf
  | succ m =>
    rw [DataW.trod_step] at hf
    unfold DataW.trodStep at hf
    simp only [arr23.hu, Value.cells] at hf
    rw [if_pos (by rw [arr23.size]; simpa using hn)] at hf
    simp only [Option.map_eq_some_iff] at hf
    obtain ⟨ys, hy, -⟩ := hf
    have hc : ∀ i, i < 16 → ∃ a : Nat, a < 256 ∧ xs.toList[i]? = some (.int .u8 (a : Int)) := by
      intro i hi
      obtain ⟨y, hy⟩ := mapM_each _ _ hy i (List.mem_range.2 hi)
      obtain ⟨a, ea, rfl, wa⟩ := DataW.trod_int Try.underlying5 hy
      rw [arr23.one, Nat.mul_one] at ea
      obtain ⟨h1, h2⟩ := wf_u8 wa
      obtain ⟨n, rfl⟩ := Int.eq_ofNat_of_zero_le h1
      refine ⟨n, by omega, ?_⟩
      have h0 := congrArg (·[0]?) ea
      simpa using h0
    have hl : xs.toList.length = 16 := by simpa using hn
    refine ⟨xs.toList.map natOf, ?_, by simpa using hn, ?_⟩
    · have : vals (xs.toList.map natOf) = xs.toList := by
        refine List.ext_getElem? fun i => ?_
        by_cases hi : i < 16
        · obtain ⟨a, _, e⟩ := hc i hi
          simp only [vals, List.map_map, List.getElem?_map, e]
          simp [natOf]
        · rw [List.getElem?_eq_none (by rw [vals_length, List.length_map, hl]; omega), List.getElem?_eq_none (by omega)]
      unfold arrV
      rw [this]
    · intro x hx
      obtain ⟨v, hv, rfl⟩ := List.mem_map.1 hx
      obtain ⟨i, hi, rfl⟩ := List.mem_iff_getElem.1 hv
      obtain ⟨a, ha, e⟩ := hc i (by omega)
      rw [List.getElem?_eq_getElem hi] at e
      injection e with e
      rw [e]
      simpa [natOf] using ha
theorem arr26 : WideMaps.ArrKey Try.prog 26 25 4 := ⟨Try.underlying26, by kernel_rfl, by kernel_rfl, by kernel_rfl⟩
theorem open_four {H : Type} {enc : TypeId × Value → H} {W : World} {base b0 : Nat} {sp : Nat → Bool} {held : Bool} {r : Reach} {v : Value} {d : DataW H} {ps : List MemPlace} (ho : Value.okWide Try.prog W r b0 26 v) (hd : DataW.Trod enc Try.prog W base sp held 26 v d ps) :
    ∃ u : V, v = .agg #[.int .u64 (u.a : Int), .int .u64 (u.b : Int), .int .u64 (u.c : Int), .int .u64 (u.d : Int)] ∧ u.ok := by
  obtain ⟨xs, rfl, hn⟩ := WideMaps.okWide_arr arr26 ho
  obtain ⟨fuel, hf⟩ := hd
  cases fuel with
  | zero => simp [DataW.trod] at hf
  | succ m =>
    rw [DataW.trod_step] at hf
    unfold DataW.trodStep at hf
    simp only [arr26.hu, Value.cells] at hf
    rw [if_pos (by rw [arr26.size]; simpa using hn)] at hf
    simp only [Option.map_eq_some_iff] at hf
    obtain ⟨ys, hy, -⟩ := hf
    have hc : ∀ i, i < 4 → ∃ a : Nat, a < 18446744073709551616 ∧ xs.toList[i]? = some (.int .u64 (a : Int)) := by
      intro i hi
      obtain ⟨y, hy⟩ := mapM_each _ _ hy i (List.mem_range.2 hi)
      obtain ⟨a, ea, rfl, wa⟩ := DataW.trod_int Try.underlying25 hy
      rw [arr26.one, Nat.mul_one] at ea
      obtain ⟨h1, h2⟩ := wf_u64 wa
      obtain ⟨n, rfl⟩ := Int.eq_ofNat_of_zero_le h1
      refine ⟨n, by omega, ?_⟩
      have h0 := congrArg (·[0]?) ea
      simpa using h0
    have hl : xs.toList.length = 4 := by simpa using hn
    obtain ⟨a0, l0, e0⟩ := hc 0 (by omega)
    obtain ⟨a1, l1, e1⟩ := hc 1 (by omega)
    obtain ⟨a2, l2, e2⟩ := hc 2 (by omega)
    obtain ⟨a3, l3, e3⟩ := hc 3 (by omega)
    refine ⟨⟨a0, a1, a2, a3⟩, ?_, ⟨l0, l1, l2, l3⟩⟩
    congr 1
    rw [← Array.toList_inj]
    refine List.ext_getElem? fun i => ?_
    match i with
    | 0 => rw [e0]; rfl
    | 1 => rw [e1]; rfl
    | 2 => rw [e2]; rfl
    | 3 => rw [e3]; rfl
    | n + 4 => rw [List.getElem?_eq_none (by omega)]; rfl
end Go.Proofs.Ytpibmccofjpelaa
