/- What a row of calls that comes in is; whether they are too many. No statement is proved here. -/
import Derived.Test.YtpibmccofjpelaaOpenRows
import Derived.Test.YtpibmccofjpelaaMacSpeaks
import Derived.Deep.Slices
namespace Go.Proofs.Ytpibmccofjpelaa
open Go.ChangeShapes Go.WideShapes Go.ChangeAt Go.RowKit Go.Deep
set_option linter.unusedVariables false
set_option linter.unusedSimpArgs false

/-- A call: whether it verifies, whether the tag is the message's own, the message's bytes, the tag. -/
structure Cl where
  v : Bool
  o : Bool
  xs : List Nat
  t : Nat
instance : Inhabited Cl := ⟨⟨false, false, [], 0⟩⟩
/-- The four cells of a call from b, off on. -/
def ClAt (w : World) (B : Nat) (b off : Nat) (x : Cl) : Prop :=
  ∃ A m c, w.cell? ⟨b, off, none⟩ = some (.bool x.v) ∧ w.cell? ⟨b, off + 1, none⟩ = some (.bool x.o) ∧ w.cell? ⟨b, off + 2, none⟩ = some (.slice A m c) ∧ w.cell? ⟨b, off + 3, none⟩ = some (.int .u64 (x.t : Nat)) ∧ Row w B A m c x.xs ∧ x.t < 18446744073709551616
def CallsIn (w : World) (B : Nat) (A : Option Addr) (n : Nat) (cs : List Cl) : Prop :=
  cs.length = n ∧ (A = none → n = 0) ∧ ∀ a, A = some a → 0 < n → a.spot = none ∧ a.block < B ∧ ∀ j x, cs[j]? = some x → ClAt w B a.block (a.off + j * 4) x
section
variable {w w' : World} {B n : Nat} {A : Option Addr} {cs : List Cl}
theorem CallsIn.below (h : CallsIn w B A n cs) (hb : Below B w w') : CallsIn w' B A n cs := by
  refine ⟨h.1, h.2.1, fun a ha hn => ?_⟩
  obtain ⟨h1, h2, h3⟩ := h.2.2 a ha hn
  refine ⟨h1, h2, fun j x hx => ?_⟩
  obtain ⟨A', m, c, e0, e1, e2, e3, r, ht⟩ := h3 j x hx
  exact ⟨A', m, c, (hb.cell (p := ⟨a.block, _, none⟩) h2).trans e0, (hb.cell (p := ⟨a.block, _, none⟩) h2).trans e1, (hb.cell (p := ⟨a.block, _, none⟩) h2).trans e2, (hb.cell (p := ⟨a.block, _, none⟩) h2).trans e3, r.below hb, ht⟩
theorem CallsIn.at_ (h : CallsIn w B A n cs) (j : Nat) (x : Cl) (hx : cs[j]? = some x) : ∃ b off, A = some ⟨b, off, none⟩ ∧ b < B ∧ ClAt w B b (off + j * 4) x := by
  have hj : j < cs.length := by
    rcases Nat.lt_or_ge j cs.length with h1 | h1
    · exact h1
    · rw [List.getElem?_eq_none h1] at hx; cases hx
  have hn := h.1
  cases A with
  | none => have := h.2.1 rfl; omega
  | some a =>
    obtain ⟨h1, h2, h3⟩ := h.2.2 a rfl (by omega)
    obtain ⟨b, off, spot⟩ := a
    simp only at h1
    subst h1
    exact ⟨b, off, rfl, h2, h3 j x hx⟩
end
theorem four {l : List Value} (h : l.length = 4) : ∃ a b c d, l = [a, b, c, d] := by
  match l, h with
  | [a, b, c, d], _ => exact ⟨a, b, c, d, rfl⟩
theorem cellsOf51 : Try.prog.cellsOf 51 = 4 := by kernel_rfl
theorem cellsOf4 : Try.prog.cellsOf 4 = 1 := by kernel_rfl
theorem cellsOf24 : Try.prog.cellsOf 24 = 1 := by kernel_rfl
theorem cellsOf25 : Try.prog.cellsOf 25 = 1 := by kernel_rfl
theorem cells4 {W : World} {a : Addr} {l : List Value} (h : W.cells? 0 a 4 = some l) : ∃ x0 x1 x2 x3, l = [x0, x1, x2, x3] ∧ W.cell? (a.add 0) = some x0 ∧ W.cell? (a.add 1) = some x1 ∧ W.cell? (a.add 2) = some x2 ∧ W.cell? (a.add 3) = some x3 := by
  unfold World.cells? at h
  rw [if_pos (Nat.zero_le _)] at h
  have hl := mapM_some_length h
  obtain ⟨x0, x1, x2, x3, rfl⟩ := four (l := l) (by simpa using hl)
  refine ⟨x0, x1, x2, x3, rfl, ?_, ?_, ?_, ?_⟩
  · simpa using mapM_some_get h 0 0 rfl
  · simpa using mapM_some_get h 1 1 rfl
  · simpa using mapM_some_get h 2 2 rfl
  · simpa using mapM_some_get h 3 3 rfl
theorem open_calls {H : Type} {enc : TypeId × Value → H} {W : World} {held : Bool} {A : Option Addr} {n c : Nat} {d : DataW H} {ps : List MemPlace} (hd : DataW.Trod enc Try.prog W 0 (fun _ => true) held 39 (.slice A n c) d ps) :
    (∃ cs, CallsIn W W.heap.size A n cs) ∧ n ≤ 9223372036854775807 := by
  obtain ⟨fuel, hf⟩ := hd
  rcases open_slice Try.underlying39 hf with ⟨hcs, _⟩ | ⟨a, len, cap, m, n', D, P, hcs, hb, hl, hm, hmm, _, hx⟩
  · simp [Value.cells] at hcs
    obtain ⟨rfl, rfl, rfl⟩ := hcs
    exact ⟨⟨[], rfl, fun _ => rfl, fun a ha => by cases ha⟩, by omega⟩
  · simp [Value.cells] at hcs
    obtain ⟨rfl, rfl, rfl⟩ := hcs
    simp only [if_true] at hmm
    refine ⟨?_, by unfold maxLen at hm; omega⟩
    have each : ∀ r, r < n → ∃ x : Cl, ∃ A' m' c', W.cell? ((a.add (r * 4)).add 0) = some (.bool x.v) ∧ W.cell? ((a.add (r * 4)).add 1) = some (.bool x.o) ∧ W.cell? ((a.add (r * 4)).add 2) = some (.slice A' m' c') ∧ W.cell? ((a.add (r * 4)).add 3) = some (.int .u64 (x.t : Nat)) ∧ Row W W.heap.size A' m' c' x.xs ∧ x.t < 18446744073709551616 := fun r hr => by
      obtain ⟨l, h1, h2⟩ := hx r (by omega)
      rw [cellsOf51] at h1
      obtain ⟨x0, x1, x2, x3, rfl, e0, e1, e2, e3⟩ := cells4 h1
      obtain ⟨ys, n2, _, _, _, _, hfs⟩ := DataW.trod_struct Try.underlying51 h2
      have f0 := hfs 0 { name := "Verify", type := 4, offset := 0, embedded := false, tag := "", pkgPath := "", byteOffset := 0 } rfl
      have f1 := hfs 1 { name := "Own", type := 4, offset := 1, embedded := false, tag := "", pkgPath := "", byteOffset := 1 } rfl
      have f2 := hfs 2 { name := "Message", type := 24, offset := 2, embedded := false, tag := "", pkgPath := "", byteOffset := 8 } rfl
      have f3 := hfs 3 { name := "Tag", type := 25, offset := 3, embedded := false, tag := "", pkgPath := "", byteOffset := 32 } rfl
      have hy : ys.length = 4 := by assumption
      rw [List.getElem?_eq_getElem (by omega)] at f0 f1 f2 f3
      simp only [cellsOf4, cellsOf24, cellsOf25, List.drop_zero, List.drop_succ_cons, List.take_succ_cons, List.take_zero] at f0 f1 f2 f3
      obtain ⟨b0, q0, -⟩ := DataW.trod_bool Try.underlying4 f0
      obtain ⟨b1, q1, -⟩ := DataW.trod_bool Try.underlying4 f1
      obtain ⟨z, q3, -, wz⟩ := DataW.trod_int Try.underlying25 f3
      obtain ⟨z1, z2⟩ := wf_u64 wz
      injection q0 with q0
      injection q1 with q1
      injection q3 with q3
      have row : ∃ A' m' c', x2 = .slice A' m' c' ∧ ∃ xs, Row W W.heap.size A' m' c' xs := by
        rcases open_ints Try.underlying24 Try.underlying5 (by kernel_rfl) f2 with ⟨hc2, _⟩ | ⟨x, ln, cp, zs, hc2, _, g1, g2, g3, _, g4, g5⟩
        · injection hc2 with hc2
          exact ⟨none, 0, 0, hc2, row_of (zs := []) (.inl ⟨rfl, rfl, rfl, rfl⟩)⟩
        · injection hc2 with hc2
          simp only [if_true] at g3
          exact ⟨some x, ln, cp, hc2, row_of (zs := zs) (.inr ⟨x, rfl, g1, g2, g3, g4, g5⟩)⟩
      obtain ⟨A', m', c', q2, xs, hr2⟩ := row
      subst q0 q1 q2 q3
      refine ⟨⟨b0, b1, xs, z.toNat⟩, A', m', c', e0, e1, e2, ?_, hr2, by simp only; omega⟩
      rw [e3]; simp only [Int.toNat_of_nonneg z1]
    obtain ⟨X, hX⟩ := choose_lt each
    refine ⟨(List.range n).map X, by simp, (fun h => by cases h), fun a' ha hn => ?_⟩
    injection ha with ha
    subst ha
    obtain ⟨b, off, spot⟩ := a
    obtain ⟨_, _, _, h0, -⟩ := hX 0 (by omega)
    have hs : spot = none := by simpa [Addr.add] using World.cell?_spot h0
    subst hs
    rw [Addr.add_lit, Addr.add_lit] at h0
    refine ⟨rfl, cell_lt h0, fun j x hj => ?_⟩
    have hjn : j < n := by
      rcases Nat.lt_or_ge j n with h1 | h1
      · exact h1
      · rw [List.getElem?_eq_none (by simpa using h1)] at hj; cases hj
    have ex : x = X j := by
      simp only [List.getElem?_map, List.getElem?_range hjn, Option.map_some, Option.some.injEq] at hj
      exact hj.symm
    subst ex
    obtain ⟨A', m', c', e0, e1, e2, e3, r, ht⟩ := hX j hjn
    simp only [Addr.add_lit, Nat.add_zero] at e0 e1 e2 e3
    exact ⟨A', m', c', e0, e1, e2, e3, r, ht⟩
/-- Calls that are looked at: at most 60, of messages of at most 100 bytes. -/
def small (cs : List Cl) : Prop := cs.length ≤ 60 ∧ ∀ x ∈ cs, x.xs.length ≤ 100
def GrRel (w : World) (A : Option Addr) (n : Nat) (cs : List Cl) (i : Value) (wr : World) : Prop :=
  ∃ k : Nat, k ≤ n ∧ i = .int .i64 (k : Nat) ∧ Below w.heap.size w wr ∧ ∀ j x, j < k → cs[j]? = some x → x.xs.length ≤ 100
set_option maxHeartbeats 1000000 in
theorem great_any (A : Option Addr) (n c : Nat) (cs : List Cl) (w : World) (h : CallsIn w w.heap.size A n cs) (hn : n ≤ 9223372036854775807) :
    Calls Try.prog 22 #[.slice A n c] w fun e w' => ∃ b : Bool, e = .returned (.bool b) ∧ (b = false → small cs) ∧ Below w.heap.size w w' := by
  by_cases h60 : 60 < n
  · go_enter Try.func22, Try.ntmps22
    go_wp2
    go_ret
    exact ⟨true, rfl, (fun h => by cases h), Below.refl _ _⟩
  · have hlen := h.1
    go_enter Try.func22, Try.ntmps22
    go_wp2
    go_loopw [10] (GrRel w A n cs) (fun i _ => n - (intOf i).toNat)
    case atStart => exact ⟨0, by omega, rfl, Below.refl _ _, fun j x hj => absurd hj (by omega)⟩
    case round =>
      obtain ⟨k, hk, rfl, hB, hall⟩ := hrel
      by_cases hlt : k < n
      · have g1 : ((k : Int) < (n : Int)) = True := eq_true (by omega)
        have hx : cs[k]? = some cs[k] := List.getElem?_eq_getElem (by omega)
        generalize cs[k] = x at *
        obtain ⟨b, off, rfl, hb, A', m, c', e0, e1, e2, e3, r, ht⟩ := (h.below hB).at_ k x hx
        have rl := r.len
        have rm := r.max
        by_cases hm : 100 < m
        · go_wp2
          go_ret
          exact ⟨true, rfl, (fun h => by cases h), hB.alloc hB.size _⟩
        · go_wp2
          go_roundw
          case rel => exact ⟨k + 1, by omega, by go_num, hB.alloc hB.size _, fun j y hj hy => by
            rcases Nat.lt_or_ge j k with h3 | h3
            · exact hall j y h3 hy
            · obtain rfl : j = k := by omega
              rw [hx] at hy; injection hy with hy; subst hy; omega⟩
          case measure => simp [intOf]; omega
      · have hk2 : k = n := by omega
        have g1 : ((k : Int) < (n : Int)) = False := eq_false (by omega)
        go_wp2
        go_ret
        refine ⟨false, rfl, fun _ => ⟨by omega, fun x hx => ?_⟩, hB⟩
        obtain ⟨j, hj, rfl⟩ := List.mem_iff_getElem.1 hx
        exact hall j _ (by omega) (List.getElem?_eq_getElem hj)
end Go.Proofs.Ytpibmccofjpelaa
