/- A book with ideal tags: made; what its tags are. No statement is proved here. -/
import Derived.Test.YtpibmccofjpelaaMarksAdd2
namespace Go.Proofs.Ytpibmccofjpelaa
open Go.RowKit Go.Maps
set_option linter.unusedVariables false

/-- Block gk is a book with ideal tags and no bad event, whose list of marks is ms. -/
structure BSt (V : World) (base gk gl : Nat) (sv : Value) (m1 m2 : Nat) (ms : List Mark) : Prop where
  blk : V.heap[gk]? = some (.cells #[.iface 82 (.agg #[]), .pointer (some ⟨gl, 0, none⟩), .slice none 0 0] 80 (0, 0))
  ls : MSt V base gl sv m1 m2 ms
section
variable {V V2 : World} {base gk gl : Nat} {sv : Value} {m1 m2 : Nat} {ms : List Mark}
theorem BSt.lt (h : BSt V base gk gl sv m1 m2 ms) : gk < V.heap.size := by
  rcases Nat.lt_or_ge gk V.heap.size with hlt | hge
  · exact hlt
  · have := h.blk; rw [Array.getElem?_eq_none hge] at this; cases this
theorem BSt.c0 (h : BSt V base gk gl sv m1 m2 ms) : V.cell? ⟨gk, 0, none⟩ = some (.iface 82 (.agg #[])) := by rw [cell_of_row V gk 0 _ _ _ h.blk]; rfl
theorem BSt.c1 (h : BSt V base gk gl sv m1 m2 ms) : V.cell? ⟨gk, 1, none⟩ = some (.pointer (some ⟨gl, 0, none⟩)) := by rw [cell_of_row V gk 1 _ _ _ h.blk]; rfl
theorem BSt.c2 (h : BSt V base gk gl sv m1 m2 ms) : V.cell? ⟨gk, 2, none⟩ = some (.slice none 0 0) := by rw [cell_of_row V gk 2 _ _ _ h.blk]; rfl
theorem BSt.below (h : BSt V base gk gl sv m1 m2 ms) (hb : Below V.heap.size V V2) : BSt V2 base gk gl sv m1 m2 ms := ⟨(hb.block gk h.lt).trans h.blk, h.ls.below hb⟩
theorem BSt.drewN (h : BSt V base gk gl sv m1 m2 ms) (k : Nat) : BSt (V.drewN k) base gk gl sv m1 m2 ms := ⟨h.blk, h.ls.drewN k⟩
end
set_option maxHeartbeats 1000000 in
theorem macNew_ideal (key : List Nat) (base : Nat) (w : World) (hb : base ≤ w.heap.size) :
    Calls Try.prog 21 #[.int .i64 0, .agg (arrV key)] w fun e w' => ∃ gk gl m1 m2, e = .returned (.tuple #[.pointer (some ⟨gk, 0, none⟩), .int .i64 0]) ∧ BSt w' base gk gl (.slice none 0 0) m1 m2 [] ∧ w.heap.size ≤ gk ∧ w.heap.size ≤ gl ∧ w.heap.size ≤ m1 ∧ w.heap.size ≤ m2 ∧ Below w.heap.size w w' := by
  have NW := Lib.hid (fun W (h : base ≤ W.heap.size) => marksNew_any base W h)
  have B0 := Lib.hid ((Below.refl w.heap.size w).alloc (Nat.le_refl _) (Obj.cells (arrV key) 23))
  have Z0 : Hid ((w.alloc (Obj.cells (arrV key) 23)).heap.size = w.heap.size + 1) := by simp [Hid]
  go_enter Try.func21, Try.ntmps21
  go_wp2_with (first
    | (go_at_call 39; refine (NW.out _ (by simp; omega)).mono ?_; rintro e X1 ⟨gl, m1, m2, rfl, hM, l0, l1, l2, hb1⟩; have HM := Lib.hid hM; have HB1 := Lib.hid hb1; have LL := Lib.hid (And.intro l0 (And.intro l1 l2)); clear hM hb1 l0 l1 l2)
    | fail)
  have hb2 := B0.out.trans (HB1.out.mono B0.out.size)
  have hz := Z0.out
  have hs := hb2.size
  obtain ⟨l0, l1, l2⟩ := LL.out
  refine bodyPost_ret (results_tmp2 Try.results21 _ _ _) rfl ⟨X1.heap.size, gl, m1, m2, rfl, ⟨heap_alloc_new X1 _, ?_⟩, hs, by omega, by omega, by omega, hb2.alloc hs _⟩
  exact HM.out.below ((Below.refl _ _).alloc (Nat.le_refl _) _)
set_option maxHeartbeats 1000000 in
theorem tagOf_ideal (A : Option Addr) (n c : Nat) (N : Nat) (hN : N < 1000000) (w : World) :
    Calls Try.prog 65 #[.agg #[], .slice A n c, .int .i64 N] w fun e w' => e = .returned (.tuple #[.int .u64 (N : Nat), .bool (decide (0 < N))]) ∧ Below w.heap.size w w' := by
  go_enter Try.func65, Try.ntmps65
  go_wp2
  exact bodyPost_ret (results_tmp2 Try.results65 _ _ _) rfl ⟨rfl, (Below.refl _ _).alloc (Nat.le_refl _) _⟩
set_option maxHeartbeats 1000000 in
theorem has_any (base gk gl : Nat) (sv : Value) (m1 m2 : Nat) (ms : List Mark) (A : Option Addr) (n c : Nat) (xs : List Nat) (w : World) (h : BSt w base gk gl sv m1 m2 ms) (hx : Row w w.heap.size A n c xs) :
    Calls Try.prog 27 #[.pointer (some ⟨gk, 0, none⟩), .slice A n c] w fun e w' => e = .returned (.bool (decide (0 < findM ms xs))) ∧ ∃ k, w' = w.drewN k := by
  have FI := Lib.hid (find_any base gl sv m1 m2 ms A n c xs _ w h.ls hx)
  have c1 := h.c1
  clear h hx
  generalize findM ms xs = N at *
  go_enter Try.func27, Try.ntmps27
  go_wp2_with (first
    | (go_at_call 40; refine FI.out.mono ?_; rintro e X1 ⟨rfl, k, rfl⟩)
    | fail)
  go_ret
  exact ⟨ret_bool (by simp), _, rfl⟩
end Go.Proofs.Ytpibmccofjpelaa
