/- The document's example is met. No statement is proved here. -/
import Derived.Test.YtpibmccofjpelaaSumEq
import Derived.Test.YtpibmccofjpelaaAppend
namespace Go.Proofs.Ytpibmccofjpelaa
open Go.RowKit
set_option linter.unusedVariables false

/-- The key of the example, its first k bytes laid. -/
def keyTo (k : Nat) : List Nat := List.range k ++ List.replicate (16 - k) 0
def bytesTo (k : Nat) : List Nat := List.range (min k 15)
theorem keyTo_length (k : Nat) (h : k ≤ 16) : (keyTo k).length = 16 := by simp [keyTo]; omega
theorem keyTo_succ : ∀ k : Fin 16, (keyTo k.val).set k.val k.val = keyTo (k.val + 1) := by decide
theorem bytesTo_succ (k : Nat) (h : k < 15) : bytesTo k ++ [k] = bytesTo (k + 1) := by
  unfold bytesTo
  rw [Nat.min_eq_left (by omega), Nat.min_eq_left (by omega), List.range_succ]
theorem bytesTo_last (k : Nat) (h : ¬ k < 15) : bytesTo k = bytesTo (k + 1) := by
  unfold bytesTo
  rw [Nat.min_eq_right (by omega), Nat.min_eq_right (by omega)]
def PRel (w : World) (s i : Value) (wr : World) : Prop :=
  ∃ k A c, k ≤ 16 ∧ i = .int .i64 (k : Nat) ∧ s = .slice A (min k 15) c ∧ Own wr w.heap.size A (min k 15) c (bytesTo k) ∧ (∀ g, (Value.slice A (min k 15) c).ownBlock = some g → g ≠ w.heap.size + 1) ∧ Blk wr (w.heap.size + 1) 23 (keyTo k) ∧ Below w.heap.size w wr

theorem Own.setOther {w : World} {base n c g : Nat} {A : Option Addr} {xs : List Nat} (h : Own w base A n c xs) (hne : ∀ g', (Value.slice A n c).ownBlock = some g' → g' ≠ g) {p : Addr} (hp : p.block = g) (v : Value) : Own (w.setCell p v) base A n c xs :=
  h.kept (row := some g) (grown_set (World.grownBy.refl w _) hp v) (by
    cases hb : (Value.slice A n c).ownBlock with
    | none => exact .inl rfl
    | some x => exact .inr (fun e => hne x hb (by injection e)))
theorem Blk.grown {w w' : World} {g : Nat} {t : TypeId} {xs : List Nat} {row : Option Nat} (h : Blk w g t xs) (hg : w.grownBy w' row) (hne : some g ≠ row) : Blk w' g t xs := (hg.block g h.lt hne).trans h
theorem prel_start (w : World) : PRel w (.slice (some ⟨w.heap.size, 0, none⟩) 0 0) (.int .i64 0) ((w.alloc (.cells #[] 5)).alloc (.cells (arrV (keyTo 0)) 23)) := by
  have h1 := Blk.new (w.alloc (.cells #[] 5)) 23 (keyTo 0)
  rw [show (w.alloc (.cells #[] 5)).heap.size = w.heap.size + 1 by simp] at h1
  exact ⟨0, _, 0, Nat.zero_le _, rfl, rfl, (Own.empty (Nat.le_refl _)).alloc _, (fun g hg => by injection hg with hg; simp only at hg; omega), h1, ((Below.refl _ _).alloc (Nat.le_refl _) _).alloc (by simp) _⟩
theorem keyTo_zero : arrV (keyTo 0) = #[.int .u8 0, .int .u8 0, .int .u8 0, .int .u8 0, .int .u8 0, .int .u8 0, .int .u8 0, .int .u8 0, .int .u8 0, .int .u8 0, .int .u8 0, .int .u8 0, .int .u8 0, .int .u8 0, .int .u8 0, .int .u8 0] := rfl
theorem keyTo_all : keyTo 16 = [0, 1, 2, 3, 4, 5, 6, 7, 8, 9, 10, 11, 12, 13, 14, 15] := by decide
theorem bytesTo_all : bytesTo 16 = [0, 1, 2, 3, 4, 5, 6, 7, 8, 9, 10, 11, 12, 13, 14] := by decide
theorem keyTo_lt : ∀ x ∈ keyTo 16, x < 256 := by decide
attribute [local irreducible] ssum keyTo bytesTo
set_option maxRecDepth 10000 in
set_option maxHeartbeats 1000000 in
theorem speaks_any (w : World) : Calls Try.prog 12 #[] w fun e w' => e = .returned (.bool true) ∧ Below w.heap.size w w' := by
  go_enter Try.func12, Try.ntmps12
  go_wp2
  go_loopw [2, 3] (PRel w) (fun _ i _ => 16 - (intOf i).toNat)
  case atStart => have := prel_start w; rw [keyTo_zero] at this; exact this
  case round =>
    obtain ⟨k, A, c, hk, rfl, rfl, hO, hne, hK, hb⟩ := hrel
    have HO := Lib.hid hO
    have HN := Lib.hid hne
    have HK := Lib.hid hK
    have HB := Lib.hid hb
    clear hO hne hK hb
    by_cases hlt : k < 16
    · have qk := HK.out.cell k (by rw [keyTo_length k hk]; exact hlt)
      have pk := HK.out.frozen k
      have wk : IntKind.u8.wrap (k : Int) = (k : Int) := IntWalk.u8_in _ (by omega)
      have HK1 : Hid (Blk (wr.setCell ⟨w.heap.size + 1, k, none⟩ (.int .u8 (k : Int))) (w.heap.size + 1) 23 (keyTo (k + 1))) := by
        have := HK.out.set_ k k
        rw [keyTo_succ ⟨k, hlt⟩] at this
        exact this
      have HO1 := Lib.hid (HO.out.setOther (fun g' h => HN.out g' h) (p := ⟨w.heap.size + 1, k, none⟩) rfl (.int .u8 (k : Int)))
      have HB1 := Lib.hid (HB.out.setCell (p := ⟨w.heap.size + 1, k, none⟩) (Nat.le_succ _) (.int .u8 (k : Int)))
      by_cases h15 : k < 15
      · have e1 : min k 15 + 1 = min (k + 1) 15 := by omega
        have E1 := Lib.hid e1
        have ES := Lib.hid (bytesTo_succ k h15)
        clear e1
        go_wp2_with (at_builtin; refine wpList_append_row _ rfl _ _ rfl w.heap.size A (min k 15) c _ rfl (HO1.out.alloc _) (wr.heap.size + 1) (some ⟨wr.heap.size, 0, none⟩) 1 1 [k] rfl (by have h := Row.one (wr.setCell ⟨w.heap.size + 1, k, none⟩ (.int .u8 (k : Int))) k _ rfl (by omega); simpa using h) (by omega) (by have := HB.out.size; simp; omega) ?_; intro A3 c3 w3 hO3 hg3 hbl3)
        have HO3 := Lib.hid hO3
        have HK3 := Lib.hid ((HK1.out.alloc (.cells #[.int .u8 (k : Int)] 5)).grown hg3 (fun e => HN.out _ e.symm rfl))
        have HB3 := Lib.hid ((HB1.out.alloc HB1.out.size (.cells #[.int .u8 (k : Int)] 5)).grown hg3 (by have := HB.out.size; simp; omega) (fun x hx => (HO.out.2.2.lt x hx).1))
        have HN3 : Hid (∀ g, (Value.slice A3 (min k 15 + 1) c3).ownBlock = some g → g ≠ w.heap.size + 1) := fun g hg => by
          rcases hbl3 with h | h
          · exact HN.out g (by rw [← h]; exact hg)
          · rw [h] at hg
            injection hg with hg
            have h1 := HK.out.lt
            simp at hg
            omega
        clear hO3 hg3 hbl3
        go_roundw
        case rel => exact ⟨k + 1, A3, c3, hlt, by go_num, by rw [E1.out], by rw [← E1.out, ← ES.out]; exact HO3.out, by rw [← E1.out]; exact HN3.out, HK3.out, HB3.out⟩
        case measure => simp [intOf]; omega
      · go_wp2
        go_roundw
        case rel => exact ⟨k + 1, A, c, hlt, by go_num, by rw [show min k 15 = min (k + 1) 15 by omega], by rw [← bytesTo_last k h15, ← show min k 15 = min (k + 1) 15 by omega]; exact HO1.out, by rw [← show min k 15 = min (k + 1) 15 by omega]; exact HN.out, HK1.out, HB1.out⟩
        case measure => simp [intOf]; omega
    · have e16 : k = 16 := by omega
      have HK1 : Hid (Blk wr (w.heap.size + 1) 23 (keyTo 16)) := by rw [← e16]; exact HK.out
      have m15 : min k 15 = 15 := by omega
      have HO1 : Hid (Own wr w.heap.size A 15 c (bytesTo 16)) := by rw [← e16]; rw [m15] at HO; exact HO.out
      have LK := Lib.hid (keyTo_length 16 (by omega))
      have BK := Lib.hid keyTo_lt
      have ES : Hid (ssum (keyTo 16) (bytesTo 16) = 11613035633349379557) := by rw [keyTo_all, bytesTo_all]; exact example_sum
      have SS := Lib.hid (sipSum_any (keyTo 16) A 15 c (bytesTo 16) wr LK.out BK.out HO1.out.row)
      have hN : (((ssum (keyTo 16) (bytesTo 16) : Nat) : Int) == 11613035633349379557) = true := by rw [ES.out]; rfl
      generalize ssum (keyTo 16) (bytesTo 16) = N at *
      clear ES
      generalize hKK : keyTo 16 = KK at *
      clear hKK
      have HR := Lib.hid (whole_range HK1.out LK.out)
      have SZ := Lib.hid (sz16 KK LK.out)
      clear HO HK HN
      rw [m15]
      clear e16 m15
      go_wp2_with (first
        | (refine wpList_load_mid rfl 23 _ rfl (w.heap.size + 1) 0 rfl (vals KK) _ HR.out Try.underlying23 rfl SZ.out ?_)
        | (go_at_call 13; refine SS.out.mono ?_; rintro e X1 ⟨rfl, hb1⟩))
      go_ret
      exact ⟨rfl, HB.out.trans (hb1.mono HB.out.size)⟩
end Go.Proofs.Ytpibmccofjpelaa
