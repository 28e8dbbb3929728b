/- Reads and writes of memory. No statement is proved here. -/
import Derived.Test.YtbmdkmnkbchokaaMem4
namespace Go.Proofs.Ytbmdkmnkbchokaa
open Go.RowKit
set_option linter.unusedVariables false
set_option linter.unusedSimpArgs false

/-- Memory behind a read of n bytes from a place on. -/
def Mm.read (m : Mm) (a n : Nat) : Mm := ({ m with rd := m.rd + 1 } : Mm).opened a n
/-- Memory behind a write. -/
def Mm.write (m : Mm) (a : Nat) (ys : List Nat) : Mm :=
  if 0 < m.dr then { ({ m with wr := m.wr + 1 } : Mm).opened a ys.length with dr := m.dr - 1 } else { ({ m with wr := m.wr + 1 } : Mm).opened a ys.length with xs := over m.xs a ys }
attribute [local irreducible] arrV Mm.arr
theorem Mm.Ok.rdUp {m : Mm} (h : m.Ok) (h1 : m.rd + 1 ≤ 1000000000000) : ({ m with rd := m.rd + 1 } : Mm).Ok := ⟨h.four, h.bytes, h.len, h.dr0, h.dr1, by have := h.rd0; simp only; omega, h1, h.wr0, h.wr1, h.op0, h.op1⟩
theorem Mm.Ok.wrUp {m : Mm} (h : m.Ok) (h1 : m.wr + 1 ≤ 1000000000000) : ({ m with wr := m.wr + 1 } : Mm).Ok := ⟨h.four, h.bytes, h.len, h.dr0, h.dr1, h.rd0, h.rd1, by have := h.wr0; simp only; omega, h1, h.op0, h.op1⟩
section
variable {w W : World} {L : List (Nat × TypeId × Array Value)} {g b : Nat} {m : Mm}
theorem has_nat (a n N : Nat) : hasB N (a : Int) (n : Int) = decide (a + n ≤ N) := by
  unfold hasB; exact decide_eq_decide.2 (by omega)
set_option maxHeartbeats 1000000 in
theorem read_no (a n : Int) (h : St w W ((g, 45, m.arr b) :: L)) (hm : m.Ok) (a0 : -9223372036854775808 ≤ a) (a1 : a ≤ 9223372036854775807) (n0 : -9223372036854775808 ≤ n) (n1 : n ≤ 9223372036854775807) (hh : hasB m.xs.length a n = false) :
    Calls Try.prog 14 #[.pointer (some ⟨g, 0, none⟩), .int .i64 a, .int .i64 n] W fun e W' => e = .returned (.tuple #[.slice none 0 0, .int .i64 2]) ∧ W = W' := by
  have H := Lib.hid (has_any a n h hm a0 a1 n0 n1)
  rw [hh] at H
  clear hh h hm
  go_enter Try.func14, Try.ntmps14
  go_wp2_with (go_at_call 21; refine H.out.mono ?_; rintro e W1 ⟨rfl, rfl⟩)
  go_ret2
  exact ⟨rfl, rfl⟩
set_option maxHeartbeats 1000000 in
theorem read_yes (a n : Nat) (h : St w W ((g, 45, m.arr b) :: (b, 5, arrV m.xs) :: L)) (hm : m.Ok) (hr : m.rd + 1 ≤ 1000000000000) (hh : a + n ≤ m.xs.length) :
    Calls Try.prog 14 #[.pointer (some ⟨g, 0, none⟩), .int .i64 a, .int .i64 n] W fun e W' => ∃ r, e = .returned (.tuple #[.slice (some ⟨r, 0, none⟩) n n, .int .i64 0]) ∧ St w W' ((g, 45, (m.read a n).arr b) :: (b, 5, arrV m.xs) :: (L ++ [(r, 5, arrV ((m.xs.drop a).take n))])) := by
  have hl := hm.len
  have H := Lib.hid (has_any a n h hm (by omega) (by omega) (by omega) (by omega))
  rw [has_nat, decide_eq_true hh] at H
  have d3 := h.cell 0 rfl 3 _ (m.at3 b)
  have r0 := hm.rd0
  have S1 := Lib.hid (m.set3 b (m.rd + 1))
  have sz := Lib.hid (show 3 < (m.arr b).size by rw [m.size, hm.four]; omega)
  have hb := Lib.hid hm.bytes
  have hm1 := hm.rdUp hr
  have O := Lib.hid (fun W h => openRows_any (w := w) (W := W) (L := (b, 5, arrV m.xs) :: L) (g := g) (b := b) a n h hm1 (by omega))
  have e2 : (({ m with rd := m.rd + 1 } : Mm).opened a n) = m.read a n := rfl
  rw [e2] at O
  have c0 := Lib.hid ((m.read a n).at0 b)
  have ex : (m.read a n).xs = m.xs := rfl
  rw [ex] at c0
  have HX : Hid (m.xs.length = m.xs.length) := rfl
  generalize m.read a n = m2 at *
  clear e2 ex hm hm1
  by_cases hcut : a = m.xs.length
  · have hn0 : n = 0 := by omega
    subst hn0
    have T : Hid (∀ W h, Calls Try.prog 23 #[.slice (some ⟨b, 0, none⟩) 0 0] W fun e W' => e = .returned (.slice (some ⟨W.heap.size, 0, none⟩) 0 0) ∧ St w W' (((g, 45, m2.arr b) :: (b, 5, arrV m.xs) :: L) ++ [(W.heap.size, 5, arrV [])])) := fun W h => twin_any (some ⟨b, 0, none⟩) 0 0 [] w W _ h ⟨rfl, by simp, Nat.le_refl _, by unfold maxLen; omega, (fun h => by cases h), fun a ha hn => by omega⟩ (by omega)
    generalize m.xs.length = N at *
    subst hcut
    go_enter Try.func14, Try.ntmps14
    go_wp2_with (first
      | (go_at_call 21; refine H.out.mono ?_; rintro e W1 ⟨rfl, rfl⟩)
      | (refine wpList_cell_st h 0 rfl 3 (.tmp 21) (.tmp 18) rfl rfl 3 (.int .i64 (m.rd + 1)) rfl rfl sz.out rfl rfl sz3 ?_; clear h d3; intro W1 h1 _; replace h1 := S1.out ▸ h1)
      | (go_at_call 22; refine (O.out _ h1).mono ?_; rintro e W2 ⟨rfl, h2⟩; clear h1; have q0 := h2.cell 0 rfl 0 _ c0.out)
      | (go_at_call 23; refine (T.out _ h2).mono ?_; rintro e W3 ⟨rfl, h3⟩))
    go_ret2
    exact ⟨_, rfl, by simpa using h3⟩
  · have hlt : a < m.xs.length := by omega
    have T : Hid (∀ W h, Calls Try.prog 23 #[.slice (some ⟨b, a, none⟩) n (m.xs.length - a)] W fun e W' => e = .returned (.slice (some ⟨W.heap.size, 0, none⟩) n n) ∧ St w W' (((g, 45, m2.arr b) :: (b, 5, arrV m.xs) :: L) ++ [(W.heap.size, 5, arrV ((m.xs.drop a).take n))])) := fun W h => twin_any (some ⟨b, a, none⟩) n (m.xs.length - a) _ w W _ h ((h.get 1 rfl).brow hb.out a n _ hh (by omega) (by omega)) (by omega)
    generalize (m.xs.drop a).take n = zs at *
    generalize m.xs.length = N at *
    have hc1 : ¬ (a : Int) = (N : Int) := by omega
    go_enter Try.func14, Try.ntmps14
    go_wp2_with (first
      | (go_at_call 21; refine H.out.mono ?_; rintro e W1 ⟨rfl, rfl⟩)
      | (refine wpList_cell_st h 0 rfl 3 (.tmp 21) (.tmp 18) rfl rfl 3 (.int .i64 (m.rd + 1)) rfl rfl sz.out rfl rfl sz3 ?_; clear h d3; intro W1 h1 _; replace h1 := S1.out ▸ h1)
      | (go_at_call 22; refine (O.out _ h1).mono ?_; rintro e W2 ⟨rfl, h2⟩; clear h1; have q0 := h2.cell 0 rfl 0 _ c0.out)
      | (go_at_call 23; refine (T.out _ h2).mono ?_; rintro e W3 ⟨rfl, h3⟩))
    go_ret2
    exact ⟨_, rfl, by simpa using h3⟩
end
end Go.Proofs.Ytbmdkmnkbchokaa
