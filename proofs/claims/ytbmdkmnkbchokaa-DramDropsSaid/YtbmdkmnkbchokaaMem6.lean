/- Writes of memory. No statement is proved here. -/
import Derived.Test.YtbmdkmnkbchokaaMem5
namespace Go.Proofs.Ytbmdkmnkbchokaa
open Go.RowKit
set_option linter.unusedVariables false
set_option linter.unusedSimpArgs false
attribute [local irreducible] arrV Mm.arr
section
variable {w W : World} {L : List (Nat × TypeId × Array Value)} {g b : Nat} {m : Mm}
set_option maxHeartbeats 1000000 in
theorem write_no (a : Int) (A : Option Addr) (n c : Nat) (h : St w W ((g, 45, m.arr b) :: L)) (hm : m.Ok) (a0 : -9223372036854775808 ≤ a) (a1 : a ≤ 9223372036854775807) (n1 : n ≤ 5000) (hh : hasB m.xs.length a n = false) :
    Calls Try.prog 10 #[.pointer (some ⟨g, 0, none⟩), .int .i64 a, .slice A n c] W fun e W' => e = .returned (.int .i64 2) ∧ W = W' := by
  have H := Lib.hid (has_any a n h hm a0 a1 (by omega) (by omega))
  rw [hh] at H
  clear hh h hm
  go_enter Try.func10, Try.ntmps10
  go_wp2_with (go_at_call 21; refine H.out.mono ?_; rintro e W1 ⟨rfl, rfl⟩)
  go_ret
  exact ⟨rfl, rfl⟩
set_option maxHeartbeats 1000000 in
theorem write_yes (a n c r i : Nat) (ys : List Nat) (h : St w W ((g, 45, m.arr b) :: (b, 5, arrV m.xs) :: L)) (hi : L[i]? = some (r, 5, arrV ys)) (hn : ys.length = n) (hy : ∀ y ∈ ys, y < 256) (hc : n ≤ c) (hc2 : c ≤ 5000) (hm : m.Ok) (hw : m.wr + 1 ≤ 1000000000000) (hh : a + n ≤ m.xs.length) :
    Calls Try.prog 10 #[.pointer (some ⟨g, 0, none⟩), .int .i64 a, .slice (some ⟨r, 0, none⟩) n c] W fun e W' => e = .returned (.int .i64 0) ∧ St w W' ((g, 45, (m.write a ys).arr b) :: (b, 5, arrV (m.write a ys).xs) :: L) := by
  have hl := hm.len
  have H := Lib.hid (has_any a n h hm (by omega) (by omega) (by omega) (by omega))
  rw [has_nat, decide_eq_true hh] at H
  have d4 := h.cell 0 rfl 4 _ (m.at4 b)
  have r0 := hm.wr0
  have dr0 := hm.dr0
  have dr1 := hm.dr1
  have S1 := Lib.hid (m.set4 b (m.wr + 1))
  have sz := Lib.hid (show 4 < (m.arr b).size by rw [m.size, hm.four]; omega)
  have hb := Lib.hid hm.bytes
  have hm1 := hm.wrUp hw
  have O := Lib.hid (fun W h => openRows_any (w := w) (W := W) (L := (b, 5, arrV m.xs) :: L) (g := g) (b := b) a n h hm1 (by omega))
  generalize hm2 : (({ m with wr := m.wr + 1 } : Mm).opened a n) = m2 at *
  have edr : m2.dr = m.dr := by rw [← hm2]; rfl
  have ex : m2.xs = m.xs := by rw [← hm2]; rfl
  have e4 : m2.os.length = 4 := by rw [← hm2]; unfold Mm.opened; simp only; rw [opns_len, hm.four]
  have EW : Hid (m.write a ys = if 0 < m.dr then { m2 with dr := m.dr - 1 } else { m2 with xs := over m.xs a ys }) := by unfold Mm.write; rw [hn, hm2]; exact rfl
  have c0 := m2.at0 b
  have c2 := m2.at2 b
  have S2 := Lib.hid (m2.set2 b (m.dr - 1))
  have sz2 := Lib.hid (show 2 < (m2.arr b).size by rw [m2.size, e4]; omega)
  rw [ex] at c0
  rw [edr] at c2
  have C0 := Lib.hid c0
  have C2 := Lib.hid c2
  have EX := Lib.hid ex
  have EN := Lib.hid hn
  have HI := Lib.hid hi
  clear hm2 edr ex e4 c0 c2 hm hm1 hn hi
  by_cases hdr : 0 < m.dr
  · have ht : decide (0 < m.dr) = true := by simpa using hdr
    rw [if_pos hdr] at EW
    go_enter Try.func10, Try.ntmps10
    go_wp2_with (first
      | (go_at_call 21; refine H.out.mono ?_; rintro e W1 ⟨rfl, rfl⟩)
      | (refine wpList_cell_st h 0 rfl 3 (.tmp 21) (.tmp 18) rfl rfl 4 (.int .i64 (m.wr + 1)) rfl rfl sz.out rfl rfl sz3 ?_; clear h d4; intro W1 h1 _; replace h1 := S1.out ▸ h1)
      | (go_at_call 22; refine (O.out _ h1).mono ?_; rintro e W2 ⟨rfl, h2⟩; clear h1; have q0 := h2.cell 0 rfl 0 _ C0.out; have q2 := h2.cell 0 rfl 2 _ C2.out)
      | (refine wpList_cell_st h2 0 rfl 3 (.tmp 38) (.tmp 36) rfl rfl 2 (.int .i64 (m.dr - 1)) rfl rfl sz2.out rfl rfl sz3 ?_; clear h2 q0 q2; intro W3 h3 _))
    go_ret
    rw [EW.out]
    simp only [EX.out]
    refine ⟨rfl, ?_⟩
    rw [S2.out] at h3
    rw [EX.out] at h3
    exact h3
  · have hd0 : m.dr = 0 := by omega
    rw [if_neg hdr] at EW
    have ht : decide (0 < m.dr) = false := by simpa using hdr
    have EA : Hid (({ m2 with xs := over m.xs a ys } : Mm).arr b = m2.arr b) := Mm.arr_len _ _ b (by simp only; rw [over_len _ _ _ (by rw [EN.out]; exact hh), EX.out]) rfl rfl rfl rfl rfl
    have R : Hid (∀ W, St w W ((g, 45, m2.arr b) :: (b, 5, arrV m.xs) :: L) → Row W W.heap.size (some ⟨r, 0, none⟩) n c ys) := fun W h => by
      have := (h.get (i + 2) (g := r) (t := 5) (arr := arrV ys) (by simpa using HI.out)).brow hy 0 n c (by rw [EN.out]; omega) hc (by omega)
      rwa [List.drop_zero, List.take_of_length_le (by rw [EN.out]; exact Nat.le_refl _)] at this
    by_cases hcut : a = m.xs.length
    · have hn0 : n = 0 := by omega
      subst hn0
      have ey : ys = [] := List.eq_nil_of_length_eq_zero EN.out
      subst ey
      rw [over_nil] at EW
      generalize hN : m.xs.length = N at *
      have HN := Lib.hid hN
      clear hN
      subst hcut
      clear hd0
      go_enter Try.func10, Try.ntmps10
      go_wp2_with (first
        | (go_at_call 21; refine H.out.mono ?_; rintro e W1 ⟨rfl, rfl⟩)
        | (refine wpList_cell_st h 0 rfl 3 (.tmp 21) (.tmp 18) rfl rfl 4 (.int .i64 (m.wr + 1)) rfl rfl sz.out rfl rfl sz3 ?_; clear h d4; intro W1 h1 _; replace h1 := S1.out ▸ h1)
        | (go_at_call 22; refine (O.out _ h1).mono ?_; rintro e W2 ⟨rfl, h2⟩; clear h1; have q0 := h2.cell 0 rfl 0 _ C0.out; have q2 := h2.cell 0 rfl 2 _ C2.out)
        | (refine wpList_copyB_st h2 1 rfl (.tmp 44) (.tmp 45) rfl rfl 0 0 0 0 c _ _ _ [] rfl rfl (R.out _ h2) (fun h => absurd h (by simp)) (by simp) ?_; clear h2 q0 q2; intro W3 h3 _))
      go_ret
      rw [EW.out]
      refine ⟨rfl, ?_⟩
      rw [over_nil] at EA
      rw [EA.out]
      simpa [over_nil] using h3
    · have hlt : a < m.xs.length := by omega
      have hc1 : ¬ (a : Int) = (m.xs.length : Int) := by omega
      have ET : Hid (ys.take (m.xs.length - a) = ys) := List.take_of_length_le (by rw [EN.out]; omega)
      have hmin : Hid (Nat.min n (m.xs.length - a) = n) := Nat.min_eq_left (by omega)
      generalize hN : m.xs.length = N at *
      have HN := Lib.hid hN
      clear hN hd0
      go_enter Try.func10, Try.ntmps10
      go_wp2_with (first
        | (go_at_call 21; refine H.out.mono ?_; rintro e W1 ⟨rfl, rfl⟩)
        | (refine wpList_cell_st h 0 rfl 3 (.tmp 21) (.tmp 18) rfl rfl 4 (.int .i64 (m.wr + 1)) rfl rfl sz.out rfl rfl sz3 ?_; clear h d4; intro W1 h1 _; replace h1 := S1.out ▸ h1)
        | (go_at_call 22; refine (O.out _ h1).mono ?_; rintro e W2 ⟨rfl, h2⟩; clear h1; have q0 := h2.cell 0 rfl 0 _ C0.out; have q2 := h2.cell 0 rfl 2 _ C2.out)
        | (refine wpList_copyB_st h2 1 rfl (.tmp 44) (.tmp 45) rfl rfl a (N - a) (N - a) n c _ _ _ ys rfl rfl (R.out _ h2) (fun _ => rfl) (by rw [hmin.out, HN.out]; exact hh) ?_; clear h2 q0 q2; intro W3 h3 _))
      go_ret
      rw [EW.out]
      refine ⟨rfl, ?_⟩
      rw [EA.out]
      rw [ET.out] at h3
      exact h3
end
end Go.Proofs.Ytbmdkmnkbchokaa
