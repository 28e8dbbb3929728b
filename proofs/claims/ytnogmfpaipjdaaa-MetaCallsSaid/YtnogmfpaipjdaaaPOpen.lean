/- What a plan that comes in is. No statement is proved here. -/
import Derived.Test.YtnogmfpaipjdaaaPFit
import Derived.Test.YtnogmfpaipjdaaaRows
import Derived.ProofKit
namespace Go.Proofs.Ytnogmfpaipjdaaa.P
open Go.ChangeShapes Go.WideShapes Go.ChangeAt Go.RowKit
set_option maxRecDepth 20000
set_option linter.unusedVariables false

def natOf : Value → Nat
  | .int _ a => a.toNat
  | _ => 0
theorem types28 : Try.prog.cellTypes Try.prog.depth 28 = some [3, 3, 3, 3, 3, 3, 22, 3, 3, 3, 3, 3, 3, 3, 5, 5, 5, 5, 5, 5, 5, 5, 5, 5, 5, 5, 5, 5, 5, 5, 5, 5, 5, 5, 5, 5, 5, 5, 5, 5, 5, 5, 5, 5, 5, 5] := by kernel_rfl
theorem cell_int {W : World} {r : Reach} {b0 : Nat} {v : Value} (h : Cell.okWide Try.prog W r b0 3 v) : ∃ n, v = .int .i64 n := by
  simp only [Cell.okWide, Try.underlying3] at h
  cases v <;> simp_all [Cell.ok, Try.underlying3]
theorem cell_u64 {W : World} {r : Reach} {b0 : Nat} {v : Value} (h : Cell.okWide Try.prog W r b0 22 v) : ∃ n, v = .int .u64 n := by
  simp only [Cell.okWide, Try.underlying22] at h
  cases v <;> simp_all [Cell.ok, Try.underlying22]
theorem cell_u8 {W : World} {r : Reach} {b0 : Nat} {v : Value} (h : Cell.okWide Try.prog W r b0 5 v) : ∃ n : Nat, v = .int .u8 (n : Int) := by
  simp only [Cell.okWide, Try.underlying5] at h
  cases v <;> simp_all [Cell.ok, Try.underlying5]
  rename_i n
  obtain ⟨m, hm⟩ := Int.eq_ofNat_of_zero_le (show (0 : Int) ≤ n by have := h.2.1; simpa [IntKind.min, IntKind.signed] using this)
  exact ⟨m, hm⟩
theorem open_plan {W : World} {r : Reach} {b0 : Nat} {v : Value} (ho : Value.okWide Try.prog W r b0 28 v) : ∃ p : Pl, v = .agg p.arr := by
  simp only [Value.okWide, Try.underlying28] at ho
  obtain ⟨cs, rfl, hs, ts, hts, -, hc⟩ := ho
  have hs' : cs.size = 46 := hs.trans (by kernel_rfl)
  obtain rfl := Option.some.inj (hts.symm.trans types28)
  have at_ : ∀ i, i < 46 → ∃ v, cs[i]? = some v := fun i hi => ⟨cs[i]'(by omega), Array.getElem?_eq_getElem (by omega)⟩
  have hb : ∀ i, i < 32 → ∃ n : Nat, cs[14 + i]? = some (.int .u8 (n : Int)) := by
    intro i hi
    obtain ⟨v, hv⟩ := at_ (14 + i) (by omega)
    obtain ⟨u, hu, hk⟩ := hc _ v hv
    have e : u = 5 := by
      simp only [List.length_cons, List.length_nil] at hu
      rw [show (14 + i) % (0 + 1 + 1 + 1 + 1 + 1 + 1 + 1 + 1 + 1 + 1 + 1 + 1 + 1 + 1 + 1 + 1 + 1 + 1 + 1 + 1 + 1 + 1 + 1 + 1 + 1 + 1 + 1 + 1 + 1 + 1 + 1 + 1 + 1 + 1 + 1 + 1 + 1 + 1 + 1 + 1 + 1 + 1 + 1 + 1 + 1 + 1) = 14 + i from Nat.mod_eq_of_lt (by omega)] at hu
      rw [show [3, 3, 3, 3, 3, 3, 22, 3, 3, 3, 3, 3, 3, 3, 5, 5, 5, 5, 5, 5, 5, 5, 5, 5, 5, 5, 5, 5, 5, 5, 5, 5, 5, 5, 5, 5, 5, 5, 5, 5, 5, 5, 5, 5, 5, 5] = [3, 3, 3, 3, 3, 3, 22, 3, 3, 3, 3, 3, 3, 3] ++ List.replicate 32 5 from rfl, List.getElem?_append_right (by simp), List.getElem?_replicate] at hu
      split at hu
      · exact (Option.some.inj hu).symm
      · cases hu
    subst e
    obtain ⟨n, rfl⟩ := cell_u8 hk
    exact ⟨n, hv⟩
  obtain ⟨v0, hv0⟩ := at_ 0 (by omega)
  obtain ⟨u0, hu0, hk0⟩ := hc 0 v0 hv0
  obtain rfl : 3 = u0 := Option.some.inj hu0
  obtain ⟨n0, rfl⟩ := cell_int hk0
  obtain ⟨v1, hv1⟩ := at_ 1 (by omega)
  obtain ⟨u1, hu1, hk1⟩ := hc 1 v1 hv1
  obtain rfl : 3 = u1 := Option.some.inj hu1
  obtain ⟨n1, rfl⟩ := cell_int hk1
  obtain ⟨v2, hv2⟩ := at_ 2 (by omega)
  obtain ⟨u2, hu2, hk2⟩ := hc 2 v2 hv2
  obtain rfl : 3 = u2 := Option.some.inj hu2
  obtain ⟨n2, rfl⟩ := cell_int hk2
  obtain ⟨v3, hv3⟩ := at_ 3 (by omega)
  obtain ⟨u3, hu3, hk3⟩ := hc 3 v3 hv3
  obtain rfl : 3 = u3 := Option.some.inj hu3
  obtain ⟨n3, rfl⟩ := cell_int hk3
  obtain ⟨v4, hv4⟩ := at_ 4 (by omega)
  obtain ⟨u4, hu4, hk4⟩ := hc 4 v4 hv4
  obtain rfl : 3 = u4 := Option.some.inj hu4
  obtain ⟨n4, rfl⟩ := cell_int hk4
  obtain ⟨v5, hv5⟩ := at_ 5 (by omega)
  obtain ⟨u5, hu5, hk5⟩ := hc 5 v5 hv5
  obtain rfl : 3 = u5 := Option.some.inj hu5
  obtain ⟨n5, rfl⟩ := cell_int hk5
  obtain ⟨v6, hv6⟩ := at_ 6 (by omega)
  obtain ⟨u6, hu6, hk6⟩ := hc 6 v6 hv6
  obtain rfl : 22 = u6 := Option.some.inj hu6
  obtain ⟨n6, rfl⟩ := cell_u64 hk6
  obtain ⟨v7, hv7⟩ := at_ 7 (by omega)
  obtain ⟨u7, hu7, hk7⟩ := hc 7 v7 hv7
  obtain rfl : 3 = u7 := Option.some.inj hu7
  obtain ⟨n7, rfl⟩ := cell_int hk7
  obtain ⟨v8, hv8⟩ := at_ 8 (by omega)
  obtain ⟨u8, hu8, hk8⟩ := hc 8 v8 hv8
  obtain rfl : 3 = u8 := Option.some.inj hu8
  obtain ⟨n8, rfl⟩ := cell_int hk8
  obtain ⟨v9, hv9⟩ := at_ 9 (by omega)
  obtain ⟨u9, hu9, hk9⟩ := hc 9 v9 hv9
  obtain rfl : 3 = u9 := Option.some.inj hu9
  obtain ⟨n9, rfl⟩ := cell_int hk9
  obtain ⟨v10, hv10⟩ := at_ 10 (by omega)
  obtain ⟨u10, hu10, hk10⟩ := hc 10 v10 hv10
  obtain rfl : 3 = u10 := Option.some.inj hu10
  obtain ⟨n10, rfl⟩ := cell_int hk10
  obtain ⟨v11, hv11⟩ := at_ 11 (by omega)
  obtain ⟨u11, hu11, hk11⟩ := hc 11 v11 hv11
  obtain rfl : 3 = u11 := Option.some.inj hu11
  obtain ⟨n11, rfl⟩ := cell_int hk11
  obtain ⟨v12, hv12⟩ := at_ 12 (by omega)
  obtain ⟨u12, hu12, hk12⟩ := hc 12 v12 hv12
  obtain rfl : 3 = u12 := Option.some.inj hu12
  obtain ⟨n12, rfl⟩ := cell_int hk12
  obtain ⟨v13, hv13⟩ := at_ 13 (by omega)
  obtain ⟨u13, hu13, hk13⟩ := hc 13 v13 hv13
  obtain rfl : 3 = u13 := Option.some.inj hu13
  obtain ⟨n13, rfl⟩ := cell_int hk13
  refine ⟨⟨n0, n1, n2, n3, n4, n5, n6, n7, n8, n9, n10, n11, n12, n13, (List.range 32).map fun i => natOf (cs.getD (14 + i) undef), by simp⟩, ?_⟩
  congr 1
  refine Array.ext_getElem? fun i => ?_
  rcases (show i = 0 ∨ i = 1 ∨ i = 2 ∨ i = 3 ∨ i = 4 ∨ i = 5 ∨ i = 6 ∨ i = 7 ∨ i = 8 ∨ i = 9 ∨ i = 10 ∨ i = 11 ∨ i = 12 ∨ i = 13 ∨ (14 ≤ i ∧ i < 46) ∨ 46 ≤ i by omega) with rfl | rfl | rfl | rfl | rfl | rfl | rfl | rfl | rfl | rfl | rfl | rfl | rfl | rfl | ⟨h1, h2⟩ | h1
  · rw [hv0, Pl.at0]
  · rw [hv1, Pl.at1]
  · rw [hv2, Pl.at2]
  · rw [hv3, Pl.at3]
  · rw [hv4, Pl.at4]
  · rw [hv5, Pl.at5]
  · rw [hv6, Pl.at6]
  · rw [hv7, Pl.at7]
  · rw [hv8, Pl.at8]
  · rw [hv9, Pl.at9]
  · rw [hv10, Pl.at10]
  · rw [hv11, Pl.at11]
  · rw [hv12, Pl.at12]
  · rw [hv13, Pl.at13]
  · obtain ⟨j, rfl⟩ : ∃ j, i = 14 + j := ⟨i - 14, by omega⟩
    obtain ⟨n, hn⟩ := hb j (by omega)
    rw [hn]
    unfold Pl.arr Pl.cs
    rw [List.getElem?_toArray, List.getElem?_append_right (by simp [Pl.nums])]
    simp only [vals, Pl.nums, List.length_cons, List.length_nil, List.getElem?_map]
    rw [show 14 + j - (0 + 1 + 1 + 1 + 1 + 1 + 1 + 1 + 1 + 1 + 1 + 1 + 1 + 1 + 1) = j by omega, List.getElem?_range (by omega)]
    simp [Array.getD_eq_getD_getElem?, hn, natOf]
  · rw [Array.getElem?_eq_none (by omega), Array.getElem?_eq_none (by rw [Pl.arr_size]; omega)]
end Go.Proofs.Ytnogmfpaipjdaaa.P
