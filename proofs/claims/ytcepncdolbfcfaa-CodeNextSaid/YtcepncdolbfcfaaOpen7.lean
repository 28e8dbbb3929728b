/- What lines, counters, items and numbers that come in are. No statement is proved here. -/
import Derived.Test.YtcepncdolbfcfaaCodePlain
import Derived.Test.YtcepncdolbfcfaaOpen
import Derived.WideKeyArr2
import Derived.OpenShut
import Derived.ProofKit
import Derived.WalkKit
import Derived.ShutString
import Derived.ChangeOld
namespace Go.Proofs.Ytcepncdolbfcfaa
open Go.ChangeShapes Go.WideShapes Go.ChangeAt Go.RowKit
set_option linter.unusedVariables false
set_option linter.unusedSimpArgs false

theorem arr33 : WideMaps.ArrKey Try.prog 33 5 32 := ⟨Try.underlying33, by kernel_rfl, by kernel_rfl, by kernel_rfl⟩
theorem mapM_each {α β : Type} {f : α → Option β} : ∀ (L : List α) (xs : List β), L.mapM f = some xs → ∀ i ∈ L, ∃ y, f i = some y
  | [], _, _ => fun i hi => by cases hi
  | j :: L, xs, h => by
    rw [List.mapM_cons] at h
    simp only [bind, Option.bind_eq_some_iff, pure, Option.some.injEq] at h
    obtain ⟨y, hy, ys, hys, rfl⟩ := h
    intro i hi
    rcases List.mem_cons.1 hi with rfl | hi
    · exact ⟨y, hy⟩
    · exact mapM_each L ys hys i hi
section
variable {H : Type} {enc : TypeId × Value → H} {W : World} {base b0 : Nat} {sp : Nat → Bool} {held : Bool} {r : Reach} {v : Value} {d : DataW H} {ps : List MemPlace}
theorem open_line (ho : Value.okWide Try.prog W r b0 33 v) (hd : DataW.Trod enc Try.prog W base sp held 33 v d ps) :
    ∃ l : List Nat, v = .agg (arrV l) ∧ IsLine l := by
  obtain ⟨xs, rfl, hn⟩ := WideMaps.okWide_arr arr33 ho
  obtain ⟨fuel, hf⟩ := hd
  cases fuel with
  | zero => simp [DataW.trod] at hf
  | succ m =>
    rw [DataW.trod_step] at hf
    unfold DataW.trodStep at hf
    simp only [arr33.hu, Value.cells] at hf
    rw [if_pos (by rw [arr33.size]; simpa using hn)] at hf
    simp only [Option.map_eq_some_iff] at hf
    obtain ⟨ys, hy, -⟩ := hf
    have hc : ∀ i, i < 32 → ∃ a : Nat, a < 256 ∧ xs.toList[i]? = some (.int .u8 (a : Int)) := by
      intro i hi
      obtain ⟨y, hy⟩ := mapM_each _ _ hy i (List.mem_range.2 hi)
      obtain ⟨a, ea, rfl, wa⟩ := DataW.trod_int Try.underlying5 hy
      rw [arr33.one, Nat.mul_one] at ea
      obtain ⟨h1, h2⟩ := wf_u8 wa
      obtain ⟨n, rfl⟩ := Int.eq_ofNat_of_zero_le h1
      refine ⟨n, by omega, ?_⟩
      have h0 := congrArg (·[0]?) ea
      simpa using h0
    have hl : xs.toList.length = 32 := by simpa using hn
    refine ⟨xs.toList.map natOf, ?_, by simpa using hn, ?_⟩
    · have : vals (xs.toList.map natOf) = xs.toList := by
        refine List.ext_getElem? fun i => ?_
        by_cases hi : i < 32
        · obtain ⟨a, _, e⟩ := hc i hi
          simp only [vals, List.map_map, List.getElem?_map, e]
          simp [natOf]
        · rw [List.getElem?_eq_none (by rw [vals_length, List.length_map, hl]; omega), List.getElem?_eq_none (by omega)]
      unfold arrV
      rw [this]
    · intro x hx
      obtain ⟨v, hv, rfl⟩ := List.mem_map.1 hx
      obtain ⟨i, hi, rfl⟩ := List.mem_iff_getElem.1 hv
      obtain ⟨a, ha, e⟩ := hc i (by omega)
      rw [List.getElem?_eq_getElem hi] at e
      injection e with e
      rw [e]
      simpa [natOf] using ha
theorem open_i64 (ho : Value.okWide Try.prog W r b0 3 v) (hd : DataW.Trod enc Try.prog W base sp held 3 v d ps) : ∃ x : Int, v = .int .i64 x ∧ I64 x := by
  obtain ⟨x, rfl⟩ := okWide_int Try.underlying3 ho
  obtain ⟨fuel, hf⟩ := hd
  obtain ⟨n, e, -, wf⟩ := DataW.trod_int Try.underlying3 hf
  simp [Value.cells] at e
  subst e
  exact ⟨x, rfl, wf_i64 wf⟩
theorem open_u64 (ho : Value.okWide Try.prog W r b0 22 v) (hd : DataW.Trod enc Try.prog W base sp held 22 v d ps) : ∃ n : Nat, v = .int .u64 (n : Int) ∧ n < 18446744073709551616 := by
  obtain ⟨x, rfl⟩ := okWide_int Try.underlying22 ho
  obtain ⟨fuel, hf⟩ := hd
  obtain ⟨n, e, -, wf⟩ := DataW.trod_int Try.underlying22 hf
  simp [Value.cells] at e
  subst e
  obtain ⟨h1, h2⟩ := wf_u64 wf
  obtain ⟨k, rfl⟩ := Int.eq_ofNat_of_zero_le h1
  exact ⟨k, rfl, by omega⟩
theorem types52 : Try.prog.cellTypes Try.prog.depth 52 = some [3, 3] := by kernel_rfl
theorem cellsOf3 : Try.prog.cellsOf 3 = 1 := by kernel_rfl
theorem cellsOf22 : Try.prog.cellsOf 22 = 1 := by kernel_rfl
theorem cellsOf29 : Try.prog.cellsOf 29 = 1 := by kernel_rfl
theorem cellsOf52 : Try.prog.cellsOf 52 = 2 := by kernel_rfl
theorem cellsOf31 : Try.prog.cellsOf 31 = 2 := by kernel_rfl
theorem two_cells {l : List Value} (h : l.length = 2) : ∃ a b, l = [a, b] := by
  match l, h with
  | [a, b], _ => exact ⟨a, b, rfl⟩
theorem agg_of {t : TypeId} {fs : Array Field} (hu : Try.prog.underlying t = some (.struct fs)) (ho : Value.okWide Try.prog W r b0 t v) : ∃ cs, v = .agg cs := by
  simp only [Value.okWide, hu] at ho
  obtain ⟨cs, rfl, -⟩ := ho
  exact ⟨cs, rfl⟩
theorem open_item (ho : Value.okWide Try.prog W r b0 52 v) (hd : DataW.Trod enc Try.prog W base sp held 52 v d ps) : ∃ a b : Int, v = .agg #[.int .i64 a, .int .i64 b] ∧ I64 a ∧ I64 b := by
  obtain ⟨cs, rfl⟩ := agg_of Try.underlying52 ho
  obtain ⟨fuel, hf⟩ := hd
  obtain ⟨ys, n2, _, _, hl, hy, hfs⟩ := DataW.trod_struct Try.underlying52 hf
  simp only [Value.cells, cellsOf52] at hl
  obtain ⟨x0, x1, e⟩ := two_cells hl
  simp only [Value.cells] at hfs
  rw [e] at hfs
  have f0 := hfs 0 { name := "Level", type := 3, offset := 0, embedded := false, tag := "", pkgPath := "", byteOffset := 0 } rfl
  have f1 := hfs 1 { name := "Index", type := 3, offset := 1, embedded := false, tag := "", pkgPath := "", byteOffset := 8 } rfl
  rw [List.getElem?_eq_getElem (by rw [hy]; decide)] at f0 f1
  simp only [cellsOf3, List.drop_zero, List.drop_succ_cons, List.take_succ_cons, List.take_zero] at f0 f1
  obtain ⟨a, q0, -, w0⟩ := DataW.trod_int Try.underlying3 f0
  obtain ⟨b, q1, -, w1⟩ := DataW.trod_int Try.underlying3 f1
  injection q0 with q0
  injection q1 with q1
  subst q0 q1
  refine ⟨a, b, ?_, wf_i64 w0, wf_i64 w1⟩
  congr 1
  rw [← Array.toList_inj, e]
theorem open_counters (ho : Value.okWide Try.prog W r b0 31 v) (hd : DataW.Trod enc Try.prog W 0 (fun _ => true) held 31 v d ps) : ∃ (M n c : Nat) (A : Option Addr) (ms : List Int), v = .agg #[.int .u64 (M : Int), .slice A n c] ∧ M < 18446744073709551616 ∧ IRow W W.heap.size A n c ms := by
  obtain ⟨cs, rfl⟩ := agg_of Try.underlying31 ho
  obtain ⟨fuel, hf⟩ := hd
  obtain ⟨ys, n2, _, _, hl, hy, hfs⟩ := DataW.trod_struct Try.underlying31 hf
  simp only [Value.cells, cellsOf31] at hl
  obtain ⟨x0, x1, e⟩ := two_cells hl
  simp only [Value.cells] at hfs
  rw [e] at hfs
  have f0 := hfs 0 { name := "Major", type := 22, offset := 0, embedded := false, tag := "", pkgPath := "", byteOffset := 0 } rfl
  have f1 := hfs 1 { name := "Minors", type := 29, offset := 1, embedded := false, tag := "", pkgPath := "", byteOffset := 8 } rfl
  rw [List.getElem?_eq_getElem (by rw [hy]; decide)] at f0 f1
  simp only [cellsOf22, cellsOf29, List.drop_zero, List.drop_succ_cons, List.take_succ_cons, List.take_zero] at f0 f1
  obtain ⟨a, q0, -, w0⟩ := DataW.trod_int Try.underlying22 f0
  injection q0 with q0
  subst q0
  obtain ⟨z1, z2⟩ := wf_u64 w0
  obtain ⟨M, rfl⟩ := Int.eq_ofNat_of_zero_le z1
  have row : ∃ A' m' c', x1 = .slice A' m' c' ∧ ∃ xs, IRow W W.heap.size A' m' c' xs := by
    rcases open_ints Try.underlying29 Try.underlying3 (by kernel_rfl) f1 with ⟨hc2, _⟩ | ⟨x, ln, cp, zs, hc2, _, g1, g2, g3, _, g4, g5⟩
    · injection hc2 with hc2
      exact ⟨none, 0, 0, hc2, irow_of (zs := []) (.inl ⟨rfl, rfl, rfl, rfl⟩)⟩
    · injection hc2 with hc2
      simp only [if_true] at g3
      exact ⟨some x, ln, cp, hc2, irow_of (zs := zs) (.inr ⟨x, rfl, g1, g2, g3, g4, g5⟩)⟩
  obtain ⟨A', m', c', q2, xs, hr2⟩ := row
  subst q2
  refine ⟨M, m', c', A', xs, ?_, by omega, hr2⟩
  congr 1
  rw [← Array.toList_inj, e]
end
end Go.Proofs.Ytcepncdolbfcfaa
