/- What the document's cipher does to bytes: they stand for others, rows are turned. No statement is proved here. -/
import Derived.Test.YtmmfigdmdamnlabRefAdd
namespace Go.Proofs.Ytmmfigdmdamnlab
open Go.RowKit
set_option linter.unusedVariables false

theorem own_set {w : World} {base g n c : Nat} {xs : List Nat} (h : U.Own w base (some ⟨g, 0, none⟩) n c xs) (j x : Nat) (hx : x < 256) : U.Own (w.setCell ⟨g, j, none⟩ (.int .u8 (x : Int))) base (some ⟨g, 0, none⟩) n c (xs.set j x) := by
  refine ⟨by rw [List.length_set]; exact h.1, set_lt _ h.2.1 j x hx, ?_⟩
  have := h.2.2.stored j (.int .u8 (x : Int))
  have e : U.vals (xs.set j x) = (U.vals xs).set j (.int .u8 (x : Int)) := by simp [U.vals, List.map_set]
  rw [e]; exact this.1
theorem own_cellAt {w : World} {base g n c : Nat} {xs : List Nat} (h : U.Own w base (some ⟨g, 0, none⟩) n c xs) (j : Nat) (hj : j < n) : w.cell? ⟨g, j, none⟩ = some (.int .u8 ((xs.getD j 0 : Nat) : Int)) := by
  rw [h.2.2.cellAt j (by omega)]
  exact U.vals_getElem? xs j (by rw [h.1]; exact hj)
/-- The bytes behind m steps. -/
def shR (xs : List Nat) : Nat → List Nat
  | 0 => List.replicate 16 0
  | m + 1 => (shR xs m).set (m / 4 + 4 * (m % 4)) (sub (xs.getD (m / 4 + 4 * ((m % 4 + m / 4) % 4)) 0))
theorem shR_length (xs : List Nat) (m : Nat) : (shR xs m).length = 16 := by
  induction m with
  | zero => simp [shR]
  | succ m ih => rw [shR, List.length_set]; exact ih
theorem shR_getD (xs : List Nat) (m : Nat) (hm : m ≤ 16) (t : Nat) (ht : t < 16) : (shR xs m).getD t 0 = if 4 * (t % 4) + t / 4 < m then sub (xs.getD (from_ t) 0) else 0 := by
  induction m with
  | zero => rw [if_neg (by omega), shR, List.getD_eq_getElem?_getD, List.getElem?_replicate, if_pos ht]; rfl
  | succ m ih =>
    rw [shR, getD_set2, ih (by omega), shR_length]
    by_cases e : t = m / 4 + 4 * (m % 4)
    · have e1 : 4 * (t % 4) + t / 4 = m := by omega
      rw [if_pos ⟨e, by omega⟩, if_pos (by omega)]
      unfold from_
      have e2 : t % 4 = m / 4 := by omega
      have e3 : t / 4 = m % 4 := by omega
      rw [e2, e3]
    · rw [if_neg (by omega)]
      by_cases h2 : 4 * (t % 4) + t / 4 < m
      · rw [if_pos h2, if_pos (by omega)]
      · rw [if_neg h2, if_neg (by omega)]
theorem shR_eq (key xs : List Nat) (hk : key.length = 16) (bk : ∀ x ∈ key, x < 256) (hx : xs.length = 16) (bx : ∀ x ∈ xs, x < 256) : shR xs 16 = shTo (stTo (cells key) xs 16) 16 := by
  refine list_ext _ _ (shR_length xs 16) (shTo_length _ 16) fun i hi => ?_
  have hf : from_ i < 16 := by unfold from_; omega
  rw [shR_getD xs 16 (by omega) i hi, if_pos (by omega), shTo_getD _ i hi, stTo_getD _ _ _ hx hf, cells_table key hk bk _ (getD_lt xs bx _)]
def ShRel (w : World) (xs : List Nat) (f : Nat → Nat) (i : Value) (wr : World) : Prop :=
  ∃ k, k ≤ 4 ∧ i = .int .i64 (k : Nat) ∧ U.Own wr w.heap.size (some ⟨w.heap.size, 0, none⟩) 16 16 (shR xs (f k)) ∧ Below w.heap.size w wr
theorem shR_step (xs : List Nat) (r c : Nat) (hc : c < 4) : shR xs (4 * r + (c + 1)) = (shR xs (4 * r + c)).set (r + 4 * c) (sub (xs.getD (r + 4 * ((c + r) % 4)) 0)) := by
  rw [show 4 * r + (c + 1) = (4 * r + c) + 1 by omega, shR, show (4 * r + c) / 4 = r by omega, show (4 * r + c) % 4 = c by omega]
attribute [local irreducible] shR sub boxTo

set_option maxRecDepth 20000 in
set_option maxHeartbeats 1000000 in
theorem refShift_any (bs os cs bb ob cb : Nat) (xs : List Nat) (w : World) (hx : U.Row w w.heap.size (some ⟨bs, os, none⟩) 16 cs xs) (hb : U.Row w w.heap.size (some ⟨bb, ob, none⟩) 256 cb (boxTo 256)) :
    Calls Try.prog 32 #[.slice (some ⟨bs, os, none⟩) 16 cs, .slice (some ⟨bb, ob, none⟩) 256 cb] w (U.GivesRow w (shR xs 16)) := by
  have HX := Lib.hid hx
  have HBX := Lib.hid hb
  clear hx hb
  have E0 : Hid (shR xs (4 * 0) = List.replicate 16 0) := by unfold shR; exact rfl
  go_enter Try.func32, Try.ntmps32
  go_wp2_with (first
    | (refine U.wpList_make_zeros _ rfl _ _ rfl w.heap.size 16 16 16 rfl rfl rfl rfl (by omega) (Nat.le_refl _) ?_; intro w1 hO1 hg1)
    | fail)
  have HO1 := Lib.hid hO1
  have HB1 := Lib.hid ((Below.refl w.heap.size w).grown hg1 (Nat.le_refl _) (fun k hk => by cases hk))
  clear hO1 hg1
  go_loopw [6] (ShRel w xs (fun k => 4 * k)) (fun i _ => 4 - (intOf i).toNat)
  case atStart => exact ⟨0, Nat.zero_le _, rfl, by show U.Own _ _ _ _ _ (shR xs (4 * 0)); rw [E0.out]; exact HO1.out, HB1.out⟩
  case round =>
    clear HO1 HB1
    obtain ⟨r, hr, rfl, hO, hB⟩ := hrel
    have HO := Lib.hid hO
    have HB := Lib.hid hB
    clear hO hB
    by_cases hlr : r < 4
    · go_wp2
      go_loopw [7] (ShRel w xs (fun k => 4 * r + k)) (fun i _ => 4 - (intOf i).toNat)
      case atStart => exact ⟨0, Nat.zero_le _, rfl, HO.out, HB.out⟩
      case round =>
        clear HO HB
        obtain ⟨c, hc, rfl, hO, hB⟩ := hrel
        have HO := Lib.hid hO
        have HB := Lib.hid hB
        clear hO hB
        by_cases hlc : c < 4
        · have ES := Lib.hid (shR_step xs r c hlc)
          have co := own_cellAt HO.out (r + 4 * c) (by omega)
          have fo := HO.out.2.2.frozenAt (r + 4 * c)
          obtain ⟨_, hbs, hcx⟩ := HX.out.2.2.2.2.2 ⟨bs, os, none⟩ rfl (by omega)
          obtain ⟨_, hbb, hcb⟩ := HBX.out.2.2.2.2.2 ⟨bb, ob, none⟩ rfl (by omega)
          have lx := HX.out.lt (r + 4 * ((c + r) % 4))
          have cx := (HB.out.cell (p := ⟨bs, os + (r + 4 * ((c + r) % 4)), none⟩) hbs).trans (hcx (r + 4 * ((c + r) % 4)) (by omega))
          have cb2 := (HB.out.cell (p := ⟨bb, ob + xs.getD (r + 4 * ((c + r) % 4)) 0, none⟩) hbb).trans (hcb (xs.getD (r + 4 * ((c + r) % 4)) 0) lx)
          rw [boxTo_getD _ lx] at cb2
          clear hcx hcb
          generalize xs.getD (r + 4 * ((c + r) % 4)) 0 = x at *
          have ls := sub_lt x
          generalize sub x = z at *
          have hq : (c + r) % 4 < 4 := by omega
          have r1 : ((r : Int) + 4 * (c : Int)).toNat = r + 4 * c := by omega
          have r2 : ((r : Int) + 4 * (((c : Int) + (r : Int)) % 4)).toNat = r + 4 * ((c + r) % 4) := by omega
          have b1 : (0 : Int) ≤ (r : Int) + 4 * (c : Int) ∧ (r : Int) + 4 * (c : Int) < 16 := by omega
          have b2 : (0 : Int) ≤ (r : Int) + 4 * (((c : Int) + (r : Int)) % 4) ∧ (r : Int) + 4 * (((c : Int) + (r : Int)) % 4) < 16 := by omega
          have b3 : (0 : Int) ≤ (x : Int) ∧ (x : Int) < 256 := by omega
          go_wp2
          go_roundw
          case rel => exact ⟨c + 1, hlc, by go_num, by rw [ES.out]; exact own_set HO.out (r + 4 * c) z ls, HB.out.setCell (p := ⟨w.heap.size, r + 4 * c, none⟩) (Nat.le_refl _) _⟩
          case measure => simp [intOf]; omega
        · have e : 4 * r + c = 4 * (r + 1) := by omega
          have HO2 : Hid (U.Own wr w.heap.size (some ⟨w.heap.size, 0, none⟩) 16 16 (shR xs (4 * (r + 1)))) := by rw [← e]; exact HO.out
          clear e HO
          go_wp2
          go_roundw
          case rel => exact ⟨r + 1, by omega, by go_num, HO2.out, HB.out⟩
          case measure => simp [intOf]; omega
    · have e : 4 * r = 16 := by omega
      have HO2 : Hid (U.Own wr w.heap.size (some ⟨w.heap.size, 0, none⟩) 16 16 (shR xs 16)) := by rw [show shR xs 16 = shR xs (4 * r) by rw [e]]; exact HO.out
      have LL := Lib.hid (shR_length xs 16)
      clear e HO
      go_wp2
      go_ret
      refine ⟨some ⟨w.heap.size, 0, none⟩, 16, ?_, ?_, HB.out⟩
      · rw [LL.out]; rfl
      · rw [LL.out]; exact HO2.out
end Go.Proofs.Ytmmfigdmdamnlab
