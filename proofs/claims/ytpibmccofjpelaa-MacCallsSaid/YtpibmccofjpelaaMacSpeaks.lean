/- A book speaks as the document's example says. No statement is proved here. -/
import Derived.Test.YtpibmccofjpelaaBookAll
import Derived.Lib.SlBytesConst
namespace Go.Proofs.Ytpibmccofjpelaa
open Go.RowKit Go.Maps
set_option linter.unusedVariables false

theorem below_low {w w' : World} {B : Nat} (h : Below w.heap.size w w') (hB : B ≤ w.heap.size) : Below B w w' := ⟨h.os, h.tape, h.output, h.size, fun i hi => h.block i (by omega)⟩
theorem tag_fresh (base gk : Nat) (ms : List Mark) (few : Nat) (A : Option Addr) (n c : Nat) (xs : List Nat) (w : World) (h : Ib w base gk ms few) (hx : Row w w.heap.size A n c xs) (hb : base ≤ w.heap.size) (hf : few < 5000) (h0 : findM ms xs = 0) :
    Calls Try.prog 25 #[.pointer (some ⟨gk, 0, none⟩), .slice A n c] w fun e w' => e = .returned (.int .u64 ((ms.length + 1 : Nat) : Int)) ∧ Ib w' base gk (ms ++ [(xs, ms.length + 1)]) (few + 1) ∧ Below base w w' := by
  obtain ⟨⟨gl, sv, m1, m2, hS, b0, b1, b2⟩, hN, hL⟩ := h
  refine (tag_new base gk gl sv m1 m2 ms A n c xs w hS hx h0 (hN _ (by omega)) hb (by omega)).mono ?_
  rintro e w' ⟨rfl, sv', hS', hO⟩
  refine ⟨rfl, ⟨⟨gl, sv', m1, m2, hS', b0, b1, b2⟩, hN.snoc xs, by simp; omega⟩, ?_⟩
  refine ⟨hO.os, hO.tape, hO.output, hO.size, hO.low hb ?_⟩
  rintro i (rfl | rfl | rfl | e)
  · exact b0
  · exact b1
  · exact b2
  · exact own_low hS.ls i e
theorem tag_again (base gk : Nat) (ms : List Mark) (few : Nat) (A : Option Addr) (n c : Nat) (xs : List Nat) (w : World) (h : Ib w base gk ms few) (hx : Row w w.heap.size A n c xs) (hf : few < 5000) (h0 : 0 < findM ms xs) :
    Calls Try.prog 25 #[.pointer (some ⟨gk, 0, none⟩), .slice A n c] w fun e w' => e = .returned (.int .u64 (findM ms xs : Nat)) ∧ Below w.heap.size w w' := by
  obtain ⟨⟨gl, sv, m1, m2, hS, b⟩, hN, hL⟩ := h
  have hle := findM_le ms xs
  exact tag_old base gk gl sv m1 m2 ms A n c xs w hS hx h0 (by omega)
theorem conv_one (z : Int) (W : World) : (convert 24 24 (.slice (some ⟨W.heap.size, 0, none⟩) 1 1)).run Try.prog (W.alloc (.cells #[.int .u8 z] 5)) = .ok (.slice (some ⟨W.heap.size, 0, none⟩) 1 1) (W.alloc (.cells #[.int .u8 z] 5 (1, 2))) := Lib.run_convert_bytes_const W 24 5 #[.int .u8 z] 1 1 Try.underlying24 Try.underlying5
theorem row_here (X : World) (x : Nat) (hx : x < 256) : Row (X.alloc (.cells #[.int .u8 (x : Int)] 5 (1, 2))) (X.alloc (.cells #[.int .u8 (x : Int)] 5 (1, 2))).heap.size (some ⟨X.heap.size, 0, none⟩) 1 1 [x] := by
  refine ⟨rfl, by simpa using hx, Nat.le_refl _, by unfold maxLen; omega, (fun h => by cases h), fun a ha _ => ?_⟩
  injection ha with ha
  subst ha
  refine ⟨rfl, by simp, fun j hj => ?_⟩
  obtain rfl : j = 0 := by omega
  rw [show (0 : Nat) + 0 = 0 from rfl, cell_of_row _ _ 0 _ _ _ (heap_alloc_new X _)]
  rfl
def spoken : List Mark := [([97], 1), ([98], 2)]
set_option maxRecDepth 20000 in
set_option maxHeartbeats 1000000 in
theorem macSpeaks_true (w : World) :
    Calls Try.prog 20 #[] w fun e w' => e = .returned (.bool true) ∧ Below w.heap.size w w' := by
  have NW := Lib.hid (new_ideal (List.replicate 16 0) w.heap.size)
  have cv97 := conv_one 97
  have cv98 := conv_one 98
  have T1 : Hid (∀ gk W, Ib W w.heap.size gk [] 0 → w.heap.size ≤ W.heap.size → Calls Try.prog 25 #[.pointer (some ⟨gk, 0, none⟩), .slice (some ⟨W.heap.size, 0, none⟩) 1 1] (W.alloc (.cells #[.int .u8 97] 5 (1, 2))) fun e w' => e = .returned (.int .u64 1) ∧ Ib w' w.heap.size gk [([97], 1)] 1 ∧ Below w.heap.size W w') := fun gk W hI hW => by
    have hB := (Below.refl W.heap.size W).alloc (Nat.le_refl _) (.cells #[.int .u8 97] 5 (1, 2))
    refine (tag_fresh _ gk [] 0 _ 1 1 [97] _ (hI.below hB) (row_here W 97 (by omega)) (Nat.le_trans hW hB.size) (by omega) rfl).mono ?_
    rintro e w' ⟨rfl, h1, h2⟩
    exact ⟨rfl, h1, (below_low hB hW).trans h2⟩
  have T2 : Hid (∀ gk W, Ib W w.heap.size gk [([97], 1)] 1 → w.heap.size ≤ W.heap.size → Calls Try.prog 25 #[.pointer (some ⟨gk, 0, none⟩), .slice (some ⟨W.heap.size, 0, none⟩) 1 1] (W.alloc (.cells #[.int .u8 98] 5 (1, 2))) fun e w' => e = .returned (.int .u64 2) ∧ Ib w' w.heap.size gk spoken 2 ∧ Below w.heap.size W w') := fun gk W hI hW => by
    have hB := (Below.refl W.heap.size W).alloc (Nat.le_refl _) (.cells #[.int .u8 98] 5 (1, 2))
    refine (tag_fresh _ gk _ 1 _ 1 1 [98] _ (hI.below hB) (row_here W 98 (by omega)) (Nat.le_trans hW hB.size) (by omega) (by decide)).mono ?_
    rintro e w' ⟨rfl, h1, h2⟩
    exact ⟨rfl, h1, (below_low hB hW).trans h2⟩
  have T3 : Hid (∀ gk W, Ib W w.heap.size gk spoken 2 → w.heap.size ≤ W.heap.size → Calls Try.prog 25 #[.pointer (some ⟨gk, 0, none⟩), .slice (some ⟨W.heap.size, 0, none⟩) 1 1] (W.alloc (.cells #[.int .u8 97] 5 (1, 2))) fun e w' => e = .returned (.int .u64 1) ∧ Ib w' w.heap.size gk spoken 2 ∧ Below w.heap.size W w') := fun gk W hI hW => by
    have hB := (Below.refl W.heap.size W).alloc (Nat.le_refl _) (.cells #[.int .u8 97] 5 (1, 2))
    refine (tag_again _ gk spoken 2 _ 1 1 [97] _ (hI.below hB) (row_here W 97 (by omega)) (by omega) (by decide)).mono ?_
    rintro e w' ⟨rfl, h2⟩
    exact ⟨rfl, (hI.below hB).below h2, (below_low hB hW).trans (below_low h2 (Nat.le_trans hW hB.size))⟩
  have V1 : Hid (∀ gk W, Ib W w.heap.size gk spoken 2 → w.heap.size ≤ W.heap.size → Calls Try.prog 23 #[.pointer (some ⟨gk, 0, none⟩), .slice (some ⟨W.heap.size, 0, none⟩) 1 1, .int .u64 2] (W.alloc (.cells #[.int .u8 97] 5 (1, 2))) fun e w' => e = .returned (.bool false) ∧ Ib w' w.heap.size gk spoken 2 ∧ Below w.heap.size W w') := fun gk W hI hW => by
    have hB := (Below.refl W.heap.size W).alloc (Nat.le_refl _) (.cells #[.int .u8 97] 5 (1, 2))
    refine (verify_ideal _ gk spoken 2 _ 1 1 [97] 2 _ (hI.below hB) (row_here W 97 (by omega)) (by omega)).mono ?_
    rintro e w' ⟨rfl, h2⟩
    exact ⟨ret_bool (by decide), (hI.below hB).below h2, (below_low hB hW).trans (below_low h2 (Nat.le_trans hW hB.size))⟩
  have V2 : Hid (∀ gk W, Ib W w.heap.size gk spoken 2 → w.heap.size ≤ W.heap.size → Calls Try.prog 23 #[.pointer (some ⟨gk, 0, none⟩), .slice (some ⟨W.heap.size, 0, none⟩) 1 1, .int .u64 2] (W.alloc (.cells #[.int .u8 98] 5 (1, 2))) fun e w' => e = .returned (.bool true) ∧ Ib w' w.heap.size gk spoken 2 ∧ Below w.heap.size W w') := fun gk W hI hW => by
    have hB := (Below.refl W.heap.size W).alloc (Nat.le_refl _) (.cells #[.int .u8 98] 5 (1, 2))
    refine (verify_ideal _ gk spoken 2 _ 1 1 [98] 2 _ (hI.below hB) (row_here W 98 (by omega)) (by omega)).mono ?_
    rintro e w' ⟨rfl, h2⟩
    exact ⟨ret_bool (by decide), (hI.below hB).below h2, (below_low hB hW).trans (below_low h2 (Nat.le_trans hW hB.size))⟩
  go_enter Try.func20, Try.ntmps20
  go_wp2_with (first
    | (go_at_call 21; refine (NW.out _ (by simp)).mono ?_; rintro e X1 ⟨gk, rfl, hI, l0, hB⟩; have I1 := Lib.hid hI; have B1 := Lib.hid hB; clear hI hB)
    | (go_at_call 25; refine (T1.out _ _ I1.out B1.out.size).mono ?_; rintro e X2 ⟨rfl, hI, hB⟩; have I2 := Lib.hid hI; have B2 := Lib.hid (B1.out.trans hB); clear hI hB I1)
    | (go_at_call 25; refine (T2.out _ _ I2.out B2.out.size).mono ?_; rintro e X3 ⟨rfl, hI, hB⟩; have I3 := Lib.hid hI; have B3 := Lib.hid (B2.out.trans hB); clear hI hB I2)
    | (go_at_call 25; refine (T3.out _ _ I3.out B3.out.size).mono ?_; rintro e X4 ⟨rfl, hI, hB⟩; have I4 := Lib.hid hI; have B4 := Lib.hid (B3.out.trans hB); clear hI hB I3)
    | (go_at_call 23; refine (V1.out _ _ I4.out B4.out.size).mono ?_; rintro e X5 ⟨rfl, hI, hB⟩; have I5 := Lib.hid hI; have B5 := Lib.hid (B4.out.trans hB); clear hI hB I4)
    | (go_at_call 23; refine (V2.out _ _ I5.out B5.out.size).mono ?_; rintro e X6 ⟨rfl, hI, hB⟩; have B6 := Lib.hid (B5.out.trans hB); clear hI hB I5)
    | fail)
  go_ret
  exact ⟨rfl, B6.out⟩
end Go.Proofs.Ytpibmccofjpelaa
