/- What the document's cipher does to bytes: a round's key is added. No statement is proved here. -/
import Derived.Test.YtmmfigdmdamnlabRefWords
namespace Go.Proofs.Ytmmfigdmdamnlab
open Go.RowKit
set_option linter.unusedVariables false

/-- Bytes, words of a round added: the first k. -/
def arTo (xs : List Nat) (ws : Nat → List Nat) (r k : Nat) : List Nat := (List.range k).map fun i => xs.getD i 0 ^^^ (ws (4 * r + i / 4)).getD (i % 4) 0
theorem arTo_succ (xs : List Nat) (ws : Nat → List Nat) (r k : Nat) : arTo xs ws r (k + 1) = arTo xs ws r k ++ [xs.getD k 0 ^^^ (ws (4 * r + k / 4)).getD (k % 4) 0] := by unfold arTo; rw [List.range_succ, List.map_append]; rfl
theorem arTo_length (xs : List Nat) (ws : Nat → List Nat) (r k : Nat) : (arTo xs ws r k).length = k := by simp [arTo]
structure TB (w W : World) : Prop where
  hw : Below w.heap.size w W
theorem TB.alloc {w W : World} (h : TB w W) (o : Obj) : TB w (W.alloc o) := ⟨h.hw.alloc h.hw.size o⟩
def ArRel (w : World) (xs : List Nat) (ws : Nat → List Nat) (r : Nat) (s i : Value) (wr : World) : Prop :=
  ∃ k A c, k ≤ 16 ∧ i = .int .i64 (k : Nat) ∧ s = .slice A k c ∧ U.Own wr w.heap.size A k c (arTo xs ws r k) ∧ Below w.heap.size w wr
attribute [local irreducible] arTo

set_option maxRecDepth 20000 in
set_option maxHeartbeats 1000000 in
theorem refAdd_any (bs os cs : Nat) (xs : List Nat) (base gt c2 : Nat) (ws : Nat → List Nat) (vs : List Value) (r : Nat) (w : World) (hx : U.Row w w.heap.size (some ⟨bs, os, none⟩) 16 cs xs) (hi : WIn w base (some ⟨gt, 0, none⟩) 44 c2 ws vs) (hr : r ≤ 10) (hws : ∀ j, j < 44 → (ws j).length = 4 ∧ ∀ x ∈ ws j, x < 256) :
    Calls Try.prog 31 #[.slice (some ⟨bs, os, none⟩) 16 cs, .slice (some ⟨gt, 0, none⟩) 44 c2, .int .i64 r] w (U.GivesRow w (arTo xs ws r 16)) := by
  have HX := Lib.hid hx
  have HI := Lib.hid hi
  have HWS := Lib.hid hws
  clear hx hi hws
  have E0 : Hid (arTo xs ws r 0 = []) := by unfold arTo; exact rfl
  go_enter Try.func31, Try.ntmps31
  go_wp2
  go_loopw [7, 8] (ArRel w xs ws r) (fun _ i _ => 16 - (intOf i).toNat)
  case atStart => exact ⟨0, _, 0, Nat.zero_le _, rfl, rfl, by rw [E0.out]; exact U.Own.empty (Nat.le_refl _), (Below.refl _ _).alloc (Nat.le_refl _) _⟩
  case round =>
    obtain ⟨k, A, c, hk, rfl, rfl, hO, hb⟩ := hrel
    have HO := Lib.hid hO
    have HB := Lib.hid hb
    clear hO hb
    by_cases hlt : k < 16
    · have ES := Lib.hid (arTo_succ xs ws r k)
      obtain ⟨_, hbs, hcx⟩ := HX.out.2.2.2.2.2 ⟨bs, os, none⟩ rfl (by omega)
      have cx := hcx k hlt
      have lx := HX.out.lt k
      have hj : 4 * r + k / 4 < 44 := by omega
      obtain ⟨gj, ct, hgj, hBj⟩ := HI.out.word (4 * r + k / 4) hj
      have cy := hBj.cell (k % 4) (by rw [(HWS.out _ hj).1]; omega)
      have ly := getD_lt _ (HWS.out _ hj).2 (k % 4)
      have hgt := (HI.out.top.lt gt rfl).2
      have hgl := hBj.lt
      simp only at cx hbs
      have q1 : IntKind.i64.wrap (4 * (r : Int)) = 4 * (r : Int) := IntWalk.i64_in _ (by omega)
      have q2 : IntKind.i64.wrap (4 * (r : Int) + (k : Int) / 4) = 4 * (r : Int) + (k : Int) / 4 := IntWalk.i64_in _ (by omega)
      have q3 : ((k : Int)).tmod 4 = (k : Int) % 4 := Int.tmod_eq_emod_of_nonneg (by omega)
      have q4 : ((k : Int)).tdiv 4 = (k : Int) / 4 := Int.tdiv_eq_ediv_of_nonneg (by omega)
      have q5 : (4 * (r : Int) + (k : Int) / 4).toNat = 4 * r + k / 4 := by omega
      have q6 : ((k : Int) % 4).toNat = k % 4 := by omega
      have b1 : (0 : Int) ≤ 4 * (r : Int) + (k : Int) / 4 ∧ 4 * (r : Int) + (k : Int) / 4 < 44 := by omega
      have b2 : (0 : Int) ≤ (k : Int) % 4 ∧ (k : Int) % 4 < 4 := by omega
      have b3 : (0 : Int) ≤ (k : Int) ∧ (k : Int) < 16 := by omega
      have q7 : IntKind.i64.wrap ((k : Int) / 4) = (k : Int) / 4 := IntWalk.i64_in _ (by omega)
      have q8 : IntKind.i64.wrap ((k : Int) % 4) = (k : Int) % 4 := IntWalk.i64_in _ (by omega)
      have hxy := u8_xor_nat _ _ lx ly
      have lxy := Nat.xor_lt_two_pow (n := 8) lx ly
      generalize xs.getD k 0 = x at *
      generalize (ws (4 * r + k / 4)).getD (k % 4) 0 = y at *
      generalize x ^^^ y = z at *
      generalize 4 * r + k / 4 = j at *
      generalize k % 4 = t at *
      have KK : Hid (∀ W, TB w W → W.cell? ⟨bs, os + k, none⟩ = some (.int .u8 (x : Int)) ∧ W.cell? ⟨gt, j, none⟩ = some (.slice (some ⟨gj, 0, none⟩) 4 4) ∧ W.cell? ⟨gj, t, none⟩ = some (.int .u8 (y : Int)) ∧ TB w W) := fun W h => ⟨(h.hw.cell (p := ⟨bs, os + k, none⟩) hbs).trans cx, (h.hw.cell (p := ⟨gt, j, none⟩) hgt).trans ct, (h.hw.cell (p := ⟨gj, t, none⟩) hgl).trans cy, h⟩
      clear cx ct cy hcx hbs hgt hgl hgj hBj lx ly hj
      have T0 : Hid (TB w wr.drew) := ⟨below_drewN (k := 1) HB.out⟩
      have HOd := Lib.hid (HO.out.drewN 1)
      have ZS := Lib.hid HB.out.size
      go_wp2
      go_region_held3 (fun W => W.cell? ⟨bs, os + k, none⟩ = some (.int .u8 (x : Int)) ∧ W.cell? ⟨gt, j, none⟩ = some (.slice (some ⟨gj, 0, none⟩) 4 4) ∧ W.cell? ⟨gj, t, none⟩ = some (.int .u8 (y : Int)) ∧ TB w W)
        (first | exact KK.out _ T0.out | exact KK.out _ (T0.out.alloc _) | exact KK.out _ ⟨U.below_append T0.out.hw HO.out.drew hg3⟩)
        (first | (refine U.step_append_row _ rfl _ _ rfl w.heap.size A k c _ rfl (HO.out.drew.alloc _) (wr.drew.heap.size + 1) ⟨wr.drew.heap.size, 0, none⟩ 1 1 [z] rfl (U.Row.one wr.drew z _ rfl lxy) (by omega) (by have := ZS.out; simp; omega) ?_; intro A3 c3 w3 hO3 hg3))
      have HO3 := Lib.hid hO3
      have HB3 := Lib.hid (U.below_append T0.out.hw HO.out.drew hg3)
      clear hO3 hg3
      go_wp2
      go_roundw
      case rel => exact ⟨k + 1, A3, c3, hlt, by go_num, rfl, by rw [ES.out]; exact HO3.out, HB3.out⟩
      case measure => simp [intOf]; omega
    · have e : k = 16 := by omega
      have HO2 : Hid (U.Own wr w.heap.size A k c (arTo xs ws r 16)) := by rw [show arTo xs ws r 16 = arTo xs ws r k by rw [e]]; exact HO.out
      have LL : Hid ((arTo xs ws r 16).length = k) := by rw [arTo_length, e]; exact rfl
      clear e HO
      go_wp2
      go_ret
      refine ⟨A, c, ?_, ?_, HB.out⟩
      · rw [LL.out]; rfl
      · rw [LL.out]; exact HO2.out
end Go.Proofs.Ytmmfigdmdamnlab
