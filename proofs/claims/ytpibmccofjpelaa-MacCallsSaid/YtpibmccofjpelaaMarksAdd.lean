/- A list of marks: made, told how long it is, made longer. No statement is proved here. -/
import Derived.Test.YtpibmccofjpelaaMarks
import Derived.StillTailTactics
namespace Go.Proofs.Ytpibmccofjpelaa
open Go.RowKit Go.Maps
set_option linter.unusedVariables false

theorem MSt.form {V : World} {base gl : Nat} {sv : Value} {m1 m2 : Nat} {ms : List Mark} (h : MSt V base gl sv m1 m2 ms) : ∃ A c, sv = .slice A ms.length c := by
  rcases h.row.2 with ⟨hv, hn⟩ | ⟨g, cap, cur, hv, _⟩
  · exact ⟨none, 0, by rw [hv, hn]⟩
  · exact ⟨_, cap, hv⟩
set_option maxHeartbeats 1000000 in
theorem len_any (base gl : Nat) (sv : Value) (m1 m2 : Nat) (ms : List Mark) (w : World) (h : MSt w base gl sv m1 m2 ms) :
    Calls Try.prog 42 #[.pointer (some ⟨gl, 0, none⟩)] w fun e w' => e = .returned (.int .i64 (ms.length : Nat)) ∧ w' = w := by
  obtain ⟨A, c, rfl⟩ := h.form
  have c0 := h.c0
  clear h
  generalize ms.length = N at *
  go_enter Try.func42, Try.ntmps42
  go_wp2
  go_ret
  exact ⟨rfl, rfl⟩
set_option maxHeartbeats 1000000 in
theorem marksNew_any (base : Nat) (w : World) (hb : base ≤ w.heap.size) :
    Calls Try.prog 39 #[] w fun e w' => ∃ gl m1 m2, e = .returned (.pointer (some ⟨gl, 0, none⟩)) ∧ MSt w' base gl (.slice none 0 0) m1 m2 [] ∧ w.heap.size ≤ gl ∧ w.heap.size ≤ m1 ∧ w.heap.size ≤ m2 ∧ Below w.heap.size w w' := by
  have hm : ∀ t (W : World), (Instr.makeMap t none).run Try.prog W = .ok (.map (some W.heap.size)) (W.alloc (.map #[] 0)) := fun t W => run_makeMap t W
  go_enter Try.func39, Try.ntmps39
  go_wp2
  go_ret
  have e1 : (w.alloc (.map #[] 0)).heap.size = w.heap.size + 1 := by simp
  have e2 : ((w.alloc (.map #[] 0)).alloc (.map #[] 0)).heap.size = w.heap.size + 1 + 1 := by simp
  have h1 := ((NumMap.made w 9).alloc (.map #[] 0)).alloc (.cells #[.slice none 0 0, .map (some w.heap.size), .map (some (w.heap.size + 1))] 97)
  have h2 := (NumMap.made (w.alloc (.map #[] 0)) 25).alloc (.cells #[.slice none 0 0, .map (some w.heap.size), .map (some (w.heap.size + 1))] 97)
  rw [e1] at h2
  have h3 := heap_alloc_new ((w.alloc (.map #[] 0)).alloc (.map #[] 0)) (.cells #[.slice none 0 0, .map (some w.heap.size), .map (some (w.heap.size + 1))] 97)
  rw [e2] at h3
  have f1 : strF [] = fun _ => 0 := by funext kl; cases kl <;> rfl
  have f2 : tagF [] = fun _ => 0 := by
    funext kl
    cases kl with
    | int k t =>
      cases k with
      | u64 => show (if 0 ≤ t then firstM [] t.toNat else 0) = 0; split <;> rfl
      | _ => rfl
    | _ => rfl
  refine ⟨w.heap.size + 1 + 1, w.heap.size, w.heap.size + 1, rfl, ⟨h3, by rw [f1]; exact h1, by rw [f2]; exact h2, ⟨rfl, .inl ⟨rfl, rfl⟩⟩, by simp, by simp, by omega⟩, by omega, Nat.le_refl _, by omega, ?_⟩
  exact (((Below.refl _ _).alloc (Nat.le_refl _) _).alloc (by simp) _).alloc (by simp; omega) _

/-- Nothing has changed but blocks that S tells, and new ones. -/
structure Only (w w' : World) (S : Nat → Prop) : Prop where
  os : w'.os = w.os
  tape : w'.tape = w.tape
  output : w'.output = w.output
  size : w.heap.size ≤ w'.heap.size
  block : ∀ i, i < w.heap.size → ¬ S i → w'.heap[i]? = w.heap[i]?
theorem Only.refl (w : World) (S : Nat → Prop) : Only w w S := ⟨rfl, rfl, rfl, Nat.le_refl _, fun _ _ _ => rfl⟩
theorem Only.grown {w w1 w2 : World} {S : Nat → Prop} {row : Option Nat} (h : Only w w1 S) (hg : w1.grownBy w2 row) (hr : ∀ g, row = some g → S g ∨ w.heap.size ≤ g) : Only w w2 S :=
  ⟨hg.os.trans h.os, hg.tape.trans h.tape, hg.output.trans h.output, Nat.le_trans h.size hg.size, fun i hi hn => (hg.block i (Nat.lt_of_lt_of_le hi h.size) (fun e => by
    rcases hr i e.symm with h1 | h1
    · exact hn h1
    · omega)).trans (h.block i hi hn)⟩
theorem Only.drewN {w w1 : World} {S : Nat → Prop} (h : Only w w1 S) (k : Nat) : Only w (w1.drewN k) S := ⟨h.os, h.tape, h.output, h.size, h.block⟩
theorem Only.alloc {w w1 : World} {S : Nat → Prop} (h : Only w w1 S) (o : Obj) : Only w (w1.alloc o) S := h.grown (World.grownBy_alloc w1 o none) (fun g hg => by cases hg)
theorem info99 : (Try.prog.info? 99).map (fun i => (i.zero, i.size, i.bytes)) = some (some (.agg #[.string ByteArray.empty, .int .u64 0]), 2, 24) := by kernel_rfl
theorem findM_snoc (ms : List Mark) (xs : List Nat) (t : Nat) (h0 : findM ms xs = 0) (ys : List Nat) : findM (ms ++ [(xs, t)]) ys = if ys = xs then ms.length + 1 else findM ms ys := by
  unfold findM at *
  rw [fN_snoc]
  by_cases e : ys = xs
  · subst e; rw [if_pos h0, if_pos rfl]; simp
  · have hb : (xs == ys) = false := by simp only [beq_eq_false_iff_ne, ne_eq]; exact fun h => e h.symm
    rw [if_neg e]
    simp only [hb, Bool.false_eq_true, if_false]
    split
    · rename_i h; exact h.symm
    · rfl
theorem firstM_snoc (ms : List Mark) (xs : List Nat) (t u : Nat) : firstM (ms ++ [(xs, t)]) u = if firstM ms u = 0 then (if t = u then ms.length + 1 else 0) else firstM ms u := by
  unfold firstM
  rw [fN_snoc]
  simp only [beq_iff_eq]
end Go.Proofs.Ytpibmccofjpelaa
