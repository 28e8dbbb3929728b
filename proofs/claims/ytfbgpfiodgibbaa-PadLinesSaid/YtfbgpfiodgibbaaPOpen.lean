/- What keys, seeds and calls that come in are. No statement is proved here. -/
import Derived.Test.YtfbgpfiodgibbaaPCall
import Derived.Test.YtfbgpfiodgibbaaAOpen
import Derived.ProofKit
import Derived.OpenShut
import Derived.Deep.Slices
namespace Go.Proofs.Ytfbgpfiodgibbaa
open Go.ChangeShapes Go.WideShapes Go.ChangeAt Go.RowKit Go.Deep
open A (arrV vals)
set_option linter.unusedVariables false
set_option linter.unusedSimpArgs false

theorem wf_u8 {n : Int} (h : (Lit.int .u8 n).wf = true) : 0 ≤ n ∧ n < 256 := by
  simp [Lit.wf, IntKind.min, IntKind.max, IntKind.bits, IntKind.signed] at h
  omega
theorem wf_u64 {n : Int} (h : (Lit.int .u64 n).wf = true) : 0 ≤ n ∧ n < 18446744073709551616 := by
  simp [Lit.wf, IntKind.min, IntKind.max, IntKind.bits, IntKind.signed] at h
  omega
theorem wf_i64 {n : Int} (h : (Lit.int .i64 n).wf = true) : I64 n := by
  simp [Lit.wf, IntKind.min, IntKind.max, IntKind.bits, IntKind.signed] at h
  unfold I64
  omega
theorem one_at {cs : List Value} {i : Nat} {v : Value} (h : (cs.drop i).take 1 = [v]) : cs[i]? = some v := by
  have h1 : ((cs.drop i).take 1)[0]? = some v := by rw [h]; rfl
  rw [List.getElem?_take_of_lt (by omega), List.getElem?_drop] at h1
  simpa using h1
theorem cell_lt {W : World} {b o : Nat} {v : Value} (h : W.cell? ⟨b, o, none⟩ = some v) : b < W.heap.size := by
  rcases Nat.lt_or_ge b W.heap.size with h1 | h1
  · exact h1
  · simp [World.cell?, Array.getElem?_eq_none h1] at h
theorem open_rowE {α : Type} [E : Elt α] [Inhabited α] (p : α → Prop) {H : Type} {enc : TypeId × Value → H} {W : World} {held : Bool} {A : Option Addr} {n c : Nat} {d : DataW H} {ps : List MemPlace} (hd : DataW.Trod enc Try.prog W 0 (fun _ => true) held E.sl (.slice A n c) d ps)
    (hce : Try.prog.cellsOf E.ty = E.sz) (dec : ∀ fuel cs x, DataW.trod enc Try.prog W 0 (fun _ => true) held fuel E.ty cs = some x → ∃ m : α, p m ∧ cs = E.cs m) :
    ∃ xs : List α, ERow W W.heap.size A n c xs ∧ ∀ x ∈ xs, p x := by
  obtain ⟨fuel, hf⟩ := hd
  rcases open_slice E.und hf with ⟨hcs, _⟩ | ⟨a, len, cap, m, n', D, P, hcs, hb, hl, hm, hmm, _, hx⟩
  · simp [Value.cells] at hcs
    obtain ⟨rfl, rfl, rfl⟩ := hcs
    exact ⟨[], ERow.nil_ _ _, fun x h => by cases h⟩
  · simp [Value.cells] at hcs
    obtain ⟨rfl, rfl, rfl⟩ := hcs
    simp only [if_true] at hmm
    have each : ∀ r, r < n → ∃ x : α, p x ∧ ∀ j u, (E.cs x)[j]? = some u → W.cell? ((a.add (r * E.sz)).add j) = some u := fun r hr => by
      obtain ⟨l, h1, h2⟩ := hx r (by omega)
      rw [hce] at h1
      obtain ⟨x, hp, rfl⟩ := dec _ _ _ h2
      refine ⟨x, hp, fun j u hu => ?_⟩
      unfold World.cells? at h1
      rw [if_pos (Nat.zero_le _)] at h1
      have hj : j < E.sz := by have := (List.getElem?_eq_some_iff.1 hu).1; rwa [E.len] at this
      have := mapM_some_get h1 j j (by rw [List.getElem?_range hj])
      rw [this]
      exact hu
    obtain ⟨X, hX⟩ := choose_lt each
    refine ⟨(List.range n).map X, ⟨by simp, hl, hm, (fun h => by cases h), fun a' ha hn => ?_⟩, fun x hx => ?_⟩
    · injection ha with ha
      subst ha
      obtain ⟨b, off, spot⟩ := a
      have hp := E.pos
      have hl0 : 0 < (E.cs (X 0)).length := by rw [E.len]; exact hp
      have h0 := (hX 0 (by omega)).2 0 _ (List.getElem?_eq_getElem hl0)
      have hs : spot = none := by simpa [Addr.add] using World.cell?_spot h0
      subst hs
      rw [Addr.add_lit, Addr.add_lit] at h0
      refine ⟨rfl, cell_lt h0, fun j x hj => ?_⟩
      have hjn : j < n := by
        rcases Nat.lt_or_ge j n with h1 | h1
        · exact h1
        · rw [List.getElem?_eq_none (by simpa using h1)] at hj; cases hj
      have ex : x = X j := by
        simp only [List.getElem?_map, List.getElem?_range hjn, Option.map_some, Option.some.injEq] at hj
        exact hj.symm
      subst ex
      intro i u hu
      have := (hX j hjn).2 i u hu
      rwa [Addr.add_lit, Addr.add_lit] at this
    · obtain ⟨j, hj, rfl⟩ := List.mem_map.1 hx
      exact (hX j (by simpa using hj)).1
theorem cellsOf3 : Try.prog.cellsOf 3 = 1 := by kernel_rfl
theorem cellsOf4 : Try.prog.cellsOf 4 = 1 := by kernel_rfl
theorem cellsOf5 : Try.prog.cellsOf 5 = 1 := by kernel_rfl
theorem cellsOf34 : Try.prog.cellsOf 34 = 1 := by kernel_rfl
theorem cellsOf36 : Try.prog.cellsOf 36 = 32 := by kernel_rfl
theorem cellsOf38 : Try.prog.cellsOf 38 = 36 := by kernel_rfl
theorem cellsOf42 : Try.prog.cellsOf 42 = 4 := by kernel_rfl
def natOf : Value → Nat
  | .int _ a => a.toNat
  | _ => 0
section
variable {H : Type} {enc : TypeId × Value → H} {W : World} {base : Nat} {sp : Nat → Bool} {held : Bool}
theorem seed_dec (fuel : Nat) (cs : List Value) (x : DataW H × List MemPlace) (h : DataW.trod enc Try.prog W base sp held fuel 42 cs = some x) : ∃ s : Sd, s.Ok ∧ cs = s.cs := by
  obtain ⟨ys, n2, _, _, hl, hy, hfs⟩ := DataW.trod_struct Try.underlying42 h
  rw [cellsOf42] at hl
  have f0 := hfs 0 { name := "Line", type := 3, offset := 0, embedded := false, tag := "", pkgPath := "", byteOffset := 0 } rfl
  have f1 := hfs 1 { name := "Major", type := 34, offset := 1, embedded := false, tag := "", pkgPath := "", byteOffset := 8 } rfl
  have f2 := hfs 2 { name := "Minor", type := 3, offset := 2, embedded := false, tag := "", pkgPath := "", byteOffset := 16 } rfl
  have f3 := hfs 3 { name := "Block", type := 3, offset := 3, embedded := false, tag := "", pkgPath := "", byteOffset := 24 } rfl
  have hy : ys.length = 4 := hy
  rw [List.getElem?_eq_getElem (by omega)] at f0 f1 f2 f3
  simp only [cellsOf3, cellsOf34] at f0 f1 f2 f3
  obtain ⟨z0, q0, -, w0⟩ := DataW.trod_int Try.underlying3 f0
  obtain ⟨z1, q1, -, w1⟩ := DataW.trod_int Try.underlying34 f1
  obtain ⟨z2, q2, -, w2⟩ := DataW.trod_int Try.underlying3 f2
  obtain ⟨z3, q3, -, w3⟩ := DataW.trod_int Try.underlying3 f3
  have c0 := one_at q0
  have c1 := one_at q1
  have c2 := one_at q2
  have c3 := one_at q3
  obtain ⟨u1, u2⟩ := wf_u64 w1
  refine ⟨⟨z0, z1.toNat, z2, z3⟩, ⟨wf_i64 w0, by simp only; omega, wf_i64 w2, wf_i64 w3⟩, ?_⟩
  refine List.ext_getElem? fun i => ?_
  unfold Sd.cs
  rcases (show i = 0 ∨ i = 1 ∨ i = 2 ∨ i = 3 ∨ 4 ≤ i by omega) with rfl | rfl | rfl | rfl | h1
  · rw [c0]; rfl
  · rw [c1]; simp only [List.getElem?_cons_succ, List.getElem?_cons_zero]; rw [Int.toNat_of_nonneg u1]
  · rw [c2]; rfl
  · rw [c3]; rfl
  · rw [List.getElem?_eq_none (by omega), List.getElem?_eq_none (by simp; omega)]
theorem call_dec (fuel : Nat) (cs : List Value) (x : DataW H × List MemPlace) (h : DataW.trod enc Try.prog W base sp held fuel 38 cs = some x) : ∃ c : Cl, c.Ok ∧ cs = c.cs := by
  obtain ⟨ys, n2, _, _, hl, hy, hfs⟩ := DataW.trod_struct Try.underlying38 h
  rw [cellsOf38] at hl
  have f0 := hfs 0 { name := "Open", type := 4, offset := 0, embedded := false, tag := "", pkgPath := "", byteOffset := 0 } rfl
  have f1 := hfs 1 { name := "Line", type := 3, offset := 1, embedded := false, tag := "", pkgPath := "", byteOffset := 8 } rfl
  have f2 := hfs 2 { name := "Major", type := 34, offset := 2, embedded := false, tag := "", pkgPath := "", byteOffset := 16 } rfl
  have f3 := hfs 3 { name := "Minor", type := 3, offset := 3, embedded := false, tag := "", pkgPath := "", byteOffset := 24 } rfl
  have f4 := hfs 4 { name := "Bytes", type := 36, offset := 4, embedded := false, tag := "", pkgPath := "", byteOffset := 32 } rfl
  have hy : ys.length = 5 := hy
  rw [List.getElem?_eq_getElem (by omega)] at f0 f1 f2 f3 f4
  simp only [cellsOf3, cellsOf4, cellsOf34, cellsOf36] at f0 f1 f2 f3 f4
  obtain ⟨b0, q0, -⟩ := DataW.trod_bool Try.underlying4 f0
  obtain ⟨z1, q1, -, w1⟩ := DataW.trod_int Try.underlying3 f1
  obtain ⟨z2, q2, -, w2⟩ := DataW.trod_int Try.underlying34 f2
  obtain ⟨z3, q3, -, w3⟩ := DataW.trod_int Try.underlying3 f3
  obtain ⟨zs, mm, _, _, hl6, hz, hes⟩ := DataW.trod_array Try.underlying36 f4
  have c0 := one_at q0
  have c1 := one_at q1
  have c2 := one_at q2
  have c3 := one_at q3
  have cd : ∀ i, i < 32 → ∃ k : Nat, k < 256 ∧ cs[4 + i]? = some (.int .u8 (k : Int)) := fun i hi => by
    have := hes i hi
    rw [List.getElem?_eq_getElem (by omega), cellsOf5, Nat.mul_one] at this
    obtain ⟨z, q, -, wz⟩ := DataW.trod_int Try.underlying5 this
    have h1 := one_at q
    rw [List.getElem?_take_of_lt hi, List.getElem?_drop] at h1
    obtain ⟨z1, z2⟩ := wf_u8 wz
    exact ⟨z.toNat, by omega, by rw [h1, Int.toNat_of_nonneg z1]⟩
  obtain ⟨u1, u2⟩ := wf_u64 w2
  refine ⟨⟨b0, z1, z2.toNat, z3, (List.range 32).map fun i => natOf (cs.getD (4 + i) undef), by simp⟩, ⟨wf_i64 w1, by simp only; omega, wf_i64 w3, fun x hx => ?_⟩, ?_⟩
  · simp only [List.mem_map, List.mem_range] at hx
    obtain ⟨i, hi, rfl⟩ := hx
    obtain ⟨k, hk, hc⟩ := cd i hi
    rw [List.getD_eq_getElem?_getD, hc]
    simpa [natOf] using hk
  refine List.ext_getElem? fun i => ?_
  unfold Cl.cs
  rcases (show i = 0 ∨ i = 1 ∨ i = 2 ∨ i = 3 ∨ (4 ≤ i ∧ i < 36) ∨ 36 ≤ i by omega) with rfl | rfl | rfl | rfl | ⟨h1, h2⟩ | h1
  · rw [c0]; rfl
  · rw [c1]; rfl
  · rw [c2]; show _ = some (Value.int .u64 ((z2.toNat : Nat) : Int)); rw [Int.toNat_of_nonneg u1]
  · rw [c3]; rfl
  · obtain ⟨j, rfl⟩ : ∃ j, i = 4 + j := ⟨i - 4, by omega⟩
    obtain ⟨k, _, hk⟩ := cd j (by omega)
    rw [hk, List.getElem?_append_right (by simp)]
    simp only [vals, List.length_cons, List.length_nil, List.getElem?_map]
    rw [show 4 + j - (0 + 1 + 1 + 1 + 1) = j by omega, List.getElem?_range (by omega)]
    simp [List.getD_eq_getElem?_getD, hk, natOf]
  · rw [List.getElem?_eq_none (by omega), List.getElem?_eq_none (by simp [vals]; omega)]
theorem open_key {r : Reach} {b0 : Nat} {v : Value} {d : DataW H} {ps : List MemPlace} (ho : Value.okWide Try.prog W r b0 23 v) (hd : DataW.Trod enc Try.prog W base sp held 23 v d ps) : ∃ l : List Nat, v = .agg (arrV l) ∧ IsKey l := by
  obtain ⟨l, h1, h2, h3⟩ := A.open_block ho hd
  exact ⟨l, h1, h2, h3⟩
theorem open_seed {r : Reach} {b0 : Nat} {v : Value} {d : DataW H} {ps : List MemPlace} (ho : Value.okWide Try.prog W r b0 42 v) (hd : DataW.Trod enc Try.prog W base sp held 42 v d ps) : ∃ s : Sd, v = .agg s.arr ∧ s.Ok := by
  simp only [Value.okWide, Try.underlying42] at ho
  obtain ⟨cs, rfl, -⟩ := ho
  obtain ⟨fuel, hf⟩ := hd
  obtain ⟨s, h1, h2⟩ := seed_dec fuel cs.toList _ hf
  refine ⟨s, ?_, h1⟩
  congr 1
  apply Array.ext'
  rw [h2]; rfl
theorem open_call {r : Reach} {b0 : Nat} {v : Value} {d : DataW H} {ps : List MemPlace} (ho : Value.okWide Try.prog W r b0 38 v) (hd : DataW.Trod enc Try.prog W base sp held 38 v d ps) : ∃ c : Cl, v = .agg c.arr ∧ c.Ok := by
  simp only [Value.okWide, Try.underlying38] at ho
  obtain ⟨cs, rfl, -⟩ := ho
  obtain ⟨fuel, hf⟩ := hd
  obtain ⟨s, h1, h2⟩ := call_dec fuel cs.toList _ hf
  refine ⟨s, ?_, h1⟩
  congr 1
  apply Array.ext'
  rw [h2]; rfl
end
theorem open_calls {H : Type} {enc : TypeId × Value → H} {W : World} {held : Bool} {A : Option Addr} {n c : Nat} {d : DataW H} {ps : List MemPlace} (hd : DataW.Trod enc Try.prog W 0 (fun _ => true) held 24 (.slice A n c) d ps) :
    ∃ xs : List Cl, ERow W W.heap.size A n c xs ∧ ∀ x ∈ xs, x.Ok := open_rowE (α := Cl) Cl.Ok hd cellsOf38 call_dec
end Go.Proofs.Ytfbgpfiodgibbaa
