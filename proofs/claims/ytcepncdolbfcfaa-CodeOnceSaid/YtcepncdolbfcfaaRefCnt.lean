/- The bytes of counters, as the document says. No statement is proved here. -/
import Derived.Test.YtcepncdolbfcfaaLine
namespace Go.Proofs.Ytcepncdolbfcfaa
open Go.RowKit
set_option linter.unusedVariables false
set_option linter.unusedSimpArgs false
attribute [local irreducible] arrV shaped Ls right putN

/-- The bytes of counters, the first i Minors put. -/
def cb (M : Nat) (ms : List Int) (m : Nat) : Nat → List Nat
  | 0 => nb M 8 ++ nb 0 24
  | i + 1 => putN (cb M ms m i) (64 + i * m) (ms.getD i 0).toNat m
theorem cb_len (M : Nat) (ms : List Int) (m i : Nat) : (cb M ms m i).length = 32 := by
  induction i with
  | zero => simp [cb, nb_length]
  | succ i ih => rw [cb, putN_length, ih]
theorem cb_lt (M : Nat) (ms : List Int) (m i : Nat) : ∀ x ∈ cb M ms m i, x < 256 := by
  induction i with
  | zero =>
    intro x hx
    rcases List.mem_append.1 hx with hx | hx
    · exact nb_lt _ _ x hx
    · exact nb_lt _ _ x hx
  | succ i ih => exact putN_lt _ _ _ _ ih
theorem i64_small (a : Nat) (h : a < 1000000) : IntKind.i64.wrap (a : Int) = (a : Int) := by
  simp [IntKind.wrap, IntKind.bits, IntKind.signed]; omega
theorem mst_lt (m : Nat) (x : Int) (h0 : 0 ≤ x) (h : x ≤ mst m) : x.toNat < 2 ^ m := by
  unfold mst at h
  have : 1 ≤ 2 ^ m := Nat.one_le_two_pow
  omega
/-- Counters that are right for a plan of n lines of m bits. -/
structure Good (M n m : Nat) (ms : List Int) : Prop where
  M64 : M < 18446744073709551616
  len : ms.length = n
  n8 : n ≤ 8
  m1 : 1 ≤ m
  m8 : m ≤ 8
  mn : ∀ j, j < n → 0 ≤ ms.getD j 0 ∧ ms.getD j 0 ≤ mst m
def RCRel (w : World) (p : Pl) (g g2 M n c m : Nat) (A0 : Option Addr) (ms : List Int) (b i : Value) (wr : World) : Prop :=
  ∃ j A cb', j ≤ n ∧ i = .int .i64 (j : Nat) ∧ b = .slice A 32 cb' ∧ Own wr w.heap.size A 32 cb' (cb M ms m j) ∧ St w wr [(w.heap.size, 28, p.arr), (g, 31, #[.int .u64 (M : Int), .slice A0 n c]), (g2, 33, arrV zeros)]
set_option maxHeartbeats 2000000 in
set_option maxRecDepth 20000 in
theorem refCounters_any (p : Pl) (M n m c : Nat) (A0 : Option Addr) (ms : List Int) (w : World) (hr : IRow w w.heap.size A0 n c ms) (hg : Good M n m ms) (hp3 : p.li = (n : Int)) (hp5 : p.mi = (m : Int)) :
    Calls Try.prog 15 #[.agg p.arr, .agg #[.int .u64 M, .slice A0 n c]] w fun e w' => e = .returned (.agg (arrV (cb M ms m n))) ∧ Below w.heap.size w w' := by
  have p5 : p.arr[5]? = some (.int .i64 (m : Int)) := by rw [p.at5, hp5]
  have p3 : p.arr[3]? = some (.int .i64 (n : Int)) := by rw [p.at3, hp3]
  have hm8 := hg.m8
  have hm1 := hg.m1
  have hn8 := hg.n8
  have hM := hg.M64
  have MN := Lib.hid hg.mn
  have N1 := Lib.hid (fun W A n c xs h1 h2 => refNumber_any A n c xs M 8 W h1 h2 hM (by omega) (by omega))
  have N2 := Lib.hid (fun W A n c xs h1 h2 => refNumber_any A n c xs 0 24 W h1 h2 (by omega) (by omega) (by omega))
  have LN := Lib.hid (fun A c xs W h => line_any A c xs W h)
  have h0 := St.nil w
  have HR := Lib.hid hr
  have P5 := Lib.hid p5
  have P3 := Lib.hid p3
  clear hp3 hp5 hg hr p5 p3
  go_enter Try.func15, Try.ntmps15
  go_wp2_with (first
    | (refine wpList_box_st h0 28 _ rfl rfl p.arr rfl ?_; clear h0; intro W1 h1 s1 _)
    | (refine wpList_box_st h1 31 _ rfl rfl #[.int .u64 M, .slice A0 n c] rfl ?_; clear h1; intro W2 h2 s2 _)
    | (refine wpList_alloc_st h2 33 rfl rfl _ (arrV zeros) zv33 rfl ?_; clear h2; intro W3 h3 s3 _; have d0 := h3.cell 1 rfl 0 (.int .u64 M) rfl; have l0 := (h3.get 1 rfl).lt)
    | (go_at_call 38; refine (N1.out _ _ _ _ [] (Own.empty (Nat.le_refl _)).row (by omega)).mono ?_; intro e W4 hN; obtain ⟨A, cc, rfl, hO, hb1⟩ := GivesRow.out (N := 8) hN rfl; have h4 := h3.call (((Below.refl _ _).alloc (Nat.le_refl _) _).trans (hb1.mono (by simp))); have z4 := Lib.hid hb1.size; clear h3 hN hb1 N1 d0 l0)
    | (go_at_call 38; refine (N2.out _ _ _ _ _ hO.row (by omega)).mono ?_; intro e W5 hN; clear hO; obtain ⟨A, cc, rfl, hO, hb1⟩ := GivesRow.out (N := 32) hN rfl; have h5 := h4.call hb1; have z5 := Lib.hid hb1.size; clear h4 hN hb1 N2))
  have hO5 : Own W5 w.heap.size A 32 cc (cb M ms m 0) := by
    have e := (hO.lower (base' := w.heap.size) (by have := z5.out; have z := z4.out; simp at z; have := s1.out; have := s2.out; have := s3.out; omega))
    simpa [cb, many] using e
  clear hO s1 s2 s3 z4 z5
  go_loopw [5, 6] (RCRel w p W1.heap.size W2.heap.size M n c m A0 ms) (fun _ i _ => n - (intOf i).toNat)
  case atStart => exact ⟨0, A, cc, by omega, rfl, rfl, hO5, h5⟩
  case round =>
    clear hO5 h5
    obtain ⟨j, A, cb', hj, rfl, rfl, hO, h5⟩ := hrel
    have hc3 := h5.cell 0 rfl 3 _ P3.out
    by_cases hlt : j < n
    · obtain ⟨b, off, rfl, hb, hcs⟩ := HR.out.at_ (by omega)
      have hcw := hcs j (by omega)
      obtain ⟨mn1, mn2⟩ := MN.out j hlt
      have xl := mst_lt m _ mn1 mn2
      obtain ⟨x, hx⟩ : ∃ x : Nat, ms.getD j 0 = (x : Int) := ⟨(ms.getD j 0).toNat, by omega⟩
      rw [hx] at hcw
      have xe : (ms.getD j 0).toNat = x := by omega
      rw [xe] at xl
      have x255 := (mst_bd m hm8).2
      have x64 : x < 18446744073709551616 := by omega
      have CB : Hid (cb M ms m (j + 1) = putN (cb M ms m j) (64 + j * m) x m) := by rw [cb, xe]; exact rfl
      clear mn1 mn2 xe hcs
      have HXX := Lib.hid hx
      clear hx
      have hmul : j * m ≤ 7 * 8 := Nat.mul_le_mul (by omega) hm8
      have hmul2 : (j + 1) * m ≤ 8 * 8 := Nat.mul_le_mul (by omega) hm8
      rw [Nat.add_mul, Nat.one_mul] at hmul2
      have ez : (j : Int) * (m : Int) = ((j * m : Nat) : Int) := by simp
      generalize j * m = z at *
      have ey : (64 : Int) + (z : Int) = ((64 + z : Nat) : Int) := by omega
      have PT := Lib.hid (fun W h => refPut_any A 32 cb' (64 + z) m x (cb M ms m j) W h (by omega) (by omega) (by omega) (by omega) xl x64)
      generalize hy : 64 + z = y at *
      have ew : IntKind.u64.wrap (x : Int) = (x : Int) := wrap_nat x x64
      have g1 : ((j : Int) < (n : Int)) = True := eq_true (by omega)
      have em : IntKind.i64.wrap ((j : Int) * (m : Int)) = (z : Int) := by rw [ez]; exact i64_small z (by omega)
      have ep : IntKind.i64.wrap (64 + (z : Int)) = (y : Int) := by rw [ey]; exact i64_small y (by omega)
      clear ez ey hy hmul hmul2 x255
      go_wp2
      have H0 := Lib.hid h5.drew
      have ROW := Lib.hid (hO.drew.row)
      refine wp_region_held_drew (S := fun W => St w W [(w.heap.size, 28, p.arr), (W1.heap.size, 31, #[.int .u64 (M : Int), .slice (some ⟨b, off, none⟩) n c]), (W2.heap.size, 33, arrV zeros)]) (by kernel_rfl) H0.out (fun _ => ?_)
      generalize wr.drew = V0 at *
      have p5 := P5.out
      clear hO h5 hc3
      refine wpAnyH_take (i := 0) (v := .slice A 32 cb') rfl (by kernel_rfl) (by kernel_rfl) (by kernel_rfl) (fun _ _ _ h => h) (Or.inl ⟨by rfl, fun W hW => by clear hW; go_simp⟩) H0.out ?_
      try simp only [Act.put, List.getElem_toArray, List.getElem_cons_succ, List.getElem_cons_zero, List.setIfInBounds_toArray, List.set_cons_zero, List.set_cons_succ]
      refine wpAnyH_take (i := 1) (v := .int .i64 (j : Int)) rfl (by kernel_rfl) (by kernel_rfl) (by kernel_rfl) (fun _ _ _ h => h) (Or.inl ⟨by rfl, fun W hW => by clear hW; go_simp⟩) H0.out ?_
      try simp only [Act.put, List.getElem_toArray, List.getElem_cons_succ, List.getElem_cons_zero, List.setIfInBounds_toArray, List.set_cons_zero, List.set_cons_succ]
      refine wpAnyH_take (i := 2) (v := .pointer (some ⟨w.heap.size, 5, none⟩)) rfl (by kernel_rfl) (by kernel_rfl) (by kernel_rfl) (fun _ _ _ h => h) (Or.inl ⟨by rfl, fun W hW => by clear hW; go_simp⟩) H0.out ?_
      try simp only [Act.put, List.getElem_toArray, List.getElem_cons_succ, List.getElem_cons_zero, List.setIfInBounds_toArray, List.set_cons_zero, List.set_cons_succ]
      refine wpAnyH_take (i := 3) (v := .int .i64 (m : Int)) rfl (by kernel_rfl) (by kernel_rfl) (by kernel_rfl) (fun _ _ _ h => h) (Or.inl ⟨by rfl, fun W hW => by have hc := (hW.cell 0 rfl 5 (.int .i64 (m : Int)) p5); clear hW; go_simp⟩) H0.out ?_
      try simp only [Act.put, List.getElem_toArray, List.getElem_cons_succ, List.getElem_cons_zero, List.setIfInBounds_toArray, List.set_cons_zero, List.set_cons_succ]
      refine wpAnyH_take (i := 4) (v := .int .i64 (z : Int)) rfl (by kernel_rfl) (by kernel_rfl) (by kernel_rfl) (fun _ _ _ h => h) (Or.inl ⟨by rfl, fun W hW => by clear hW; go_simp⟩) H0.out ?_
      try simp only [Act.put, List.getElem_toArray, List.getElem_cons_succ, List.getElem_cons_zero, List.setIfInBounds_toArray, List.set_cons_zero, List.set_cons_succ]
      refine wpAnyH_take (i := 5) (v := .int .i64 (y : Int)) rfl (by kernel_rfl) (by kernel_rfl) (by kernel_rfl) (fun _ _ _ h => h) (Or.inl ⟨by rfl, fun W hW => by clear hW; go_simp⟩) H0.out ?_
      try simp only [Act.put, List.getElem_toArray, List.getElem_cons_succ, List.getElem_cons_zero, List.setIfInBounds_toArray, List.set_cons_zero, List.set_cons_succ]
      refine wpAnyH_take (i := 6) (v := .pointer (some ⟨w.heap.size, 5, none⟩)) rfl (by kernel_rfl) (by kernel_rfl) (by kernel_rfl) (fun _ _ _ h => h) (Or.inl ⟨by rfl, fun W hW => by clear hW; go_simp⟩) H0.out ?_
      try simp only [Act.put, List.getElem_toArray, List.getElem_cons_succ, List.getElem_cons_zero, List.setIfInBounds_toArray, List.set_cons_zero, List.set_cons_succ]
      refine wpAnyH_take (i := 7) (v := .int .i64 (m : Int)) rfl (by kernel_rfl) (by kernel_rfl) (by kernel_rfl) (fun _ _ _ h => h) (Or.inl ⟨by rfl, fun W hW => by have hc := (hW.cell 0 rfl 5 (.int .i64 (m : Int)) p5); clear hW; go_simp⟩) H0.out ?_
      try simp only [Act.put, List.getElem_toArray, List.getElem_cons_succ, List.getElem_cons_zero, List.setIfInBounds_toArray, List.set_cons_zero, List.set_cons_succ]
      refine wpAnyH_take (i := 8) (v := .pointer (some ⟨W1.heap.size, 1, none⟩)) rfl (by kernel_rfl) (by kernel_rfl) (by kernel_rfl) (fun _ _ _ h => h) (Or.inl ⟨by rfl, fun W hW => by clear hW; go_simp⟩) H0.out ?_
      try simp only [Act.put, List.getElem_toArray, List.getElem_cons_succ, List.getElem_cons_zero, List.setIfInBounds_toArray, List.set_cons_zero, List.set_cons_succ]
      refine wpAnyH_take (i := 9) (v := .slice (some ⟨b, off, none⟩) n c) rfl (by kernel_rfl) (by kernel_rfl) (by kernel_rfl) (fun _ _ _ h => h) (Or.inl ⟨by rfl, fun W hW => by have hc := hW.cell 1 rfl 1 (.slice (some ⟨b, off, none⟩) n c) rfl; clear hW; go_simp⟩) H0.out ?_
      try simp only [Act.put, List.getElem_toArray, List.getElem_cons_succ, List.getElem_cons_zero, List.setIfInBounds_toArray, List.set_cons_zero, List.set_cons_succ]
      refine wpAnyH_take (i := 10) (v := .int .i64 (j : Int)) rfl (by kernel_rfl) (by kernel_rfl) (by kernel_rfl) (fun _ _ _ h => h) (Or.inl ⟨by rfl, fun W hW => by clear hW; go_simp⟩) H0.out ?_
      try simp only [Act.put, List.getElem_toArray, List.getElem_cons_succ, List.getElem_cons_zero, List.setIfInBounds_toArray, List.set_cons_zero, List.set_cons_succ]
      refine wpAnyH_take (i := 11) (v := .pointer (some ⟨b, off + j, none⟩)) rfl (by kernel_rfl) (by kernel_rfl) (by kernel_rfl) (fun _ _ _ h => h) (Or.inl ⟨by rfl, fun W hW => by clear hW; go_simp⟩) H0.out ?_
      try simp only [Act.put, List.getElem_toArray, List.getElem_cons_succ, List.getElem_cons_zero, List.setIfInBounds_toArray, List.set_cons_zero, List.set_cons_succ]
      refine wpAnyH_take (i := 12) (v := .int .i64 (x : Int)) rfl (by kernel_rfl) (by kernel_rfl) (by kernel_rfl) (fun _ _ _ h => h) (Or.inl ⟨by rfl, fun W hW => by have hc := (hW.bel.cell (p := ⟨b, off + j, none⟩) hb).trans hcw; clear hW; go_simp⟩) H0.out ?_
      try simp only [Act.put, List.getElem_toArray, List.getElem_cons_succ, List.getElem_cons_zero, List.setIfInBounds_toArray, List.set_cons_zero, List.set_cons_succ]
      refine wpAnyH_take (i := 13) (v := .int .u64 (x : Int)) rfl (by kernel_rfl) (by kernel_rfl) (by kernel_rfl) (fun _ _ _ h => h) (Or.inl ⟨by rfl, fun W hW => by clear hW; go_simp⟩) H0.out ?_
      try simp only [Act.put, List.getElem_toArray, List.getElem_cons_succ, List.getElem_cons_zero, List.setIfInBounds_toArray, List.set_cons_zero, List.set_cons_succ]
      refine wpAnyH_ready (rs := [14]) (by kernel_rfl) (by simp) ?_
      refine AllReadyH.cons rfl (fun K hK => ?_) AllReadyH.nil
      go_simp
      go_at_call 39
      refine (PT.out _ ROW.out).mono ?_
      rintro e V1 ⟨A1, c1, rfl, hO1, hb1⟩
      have H1_ := Lib.hid (H0.out.call hb1)
      refine hK.out _ _ H1_.out (fun _ => ?_)
      clear hK K
      try simp only [Act.put, List.getElem_toArray, List.getElem_cons_succ, List.getElem_cons_zero, List.setIfInBounds_toArray, List.set_cons_zero, List.set_cons_succ]
      refine wpAnyH_take (i := 15) (v := .tuple #[.slice A1 32 c1, .int .i64 0]) rfl (by kernel_rfl) (by kernel_rfl) (by kernel_rfl) (fun _ _ _ h => h) (Or.inl ⟨by rfl, fun W hW => by clear hW; go_simp⟩) H1_.out ?_
      try simp only [Act.put, List.getElem_toArray, List.getElem_cons_succ, List.getElem_cons_zero, List.setIfInBounds_toArray, List.set_cons_zero, List.set_cons_succ]
      refine wpAnyH_take (i := 16) (v := .slice A1 32 c1) rfl (by kernel_rfl) (by kernel_rfl) (by kernel_rfl) (fun _ _ _ h => h) (Or.inl ⟨by rfl, fun W hW => by clear hW; go_simp⟩) H1_.out ?_
      try simp only [Act.put, List.getElem_toArray, List.getElem_cons_succ, List.getElem_cons_zero, List.setIfInBounds_toArray, List.set_cons_zero, List.set_cons_succ]
      refine wpAnyH_take (i := 17) (v := .int .i64 0) rfl (by kernel_rfl) (by kernel_rfl) (by kernel_rfl) (fun _ _ _ h => h) (Or.inl ⟨by rfl, fun W hW => by clear hW; go_simp⟩) H1_.out ?_
      try simp only [Act.put, List.getElem_toArray, List.getElem_cons_succ, List.getElem_cons_zero, List.setIfInBounds_toArray, List.set_cons_zero, List.set_cons_succ]
      refine wpAnyH_take (i := 18) (v := .slice A1 32 c1) rfl (by kernel_rfl) (by kernel_rfl) (by kernel_rfl) (fun _ _ _ h => h) (Or.inl ⟨by rfl, fun W hW => by clear hW; go_simp⟩) H1_.out ?_
      try simp only [Act.put, List.getElem_toArray, List.getElem_cons_succ, List.getElem_cons_zero, List.setIfInBounds_toArray, List.set_cons_zero, List.set_cons_succ]
      refine wpAnyH_done (by kernel_rfl) ?_ _

      clear p5
      go_wp2
      go_roundw
      case rel => exact ⟨j + 1, A1, c1, by omega, by go_num, rfl, by rw [CB.out]; exact hO1.lower H0.out.bel.size, H1_.out⟩
      case measure => simp [intOf]; omega
    · obtain rfl : j = n := by omega
      have S8 := Lib.hid (sz33 (cb_len M ms m j))
      have Sz8 : Hid ((arrV (cb M ms m j)).size = (arrV zeros).size) := by rw [arrV_size, arrV_size, cb_len]; exact rfl
      have Sx8 := Lib.hid (arrV_all (cb M ms m j))
      go_wp2_with (first
        | (go_at_call 40; refine (LN.out _ _ _ _ hO.row).mono ?_; rintro e W7 ⟨rfl, hb7⟩; have h6 := h5.call hb7; clear h5 hb7)
        | (refine wpList_store_st h6 2 rfl 33 _ _ rfl rfl rfl rfl S8.out Sz8.out Sx8.out ?_; clear h6; intro W8 h8 _))
      refine bodyPost_ret (results_arr Try.results15 _ _ _ rfl _ ((h8.get 2 rfl).loadV 33 _ Try.underlying33 rfl S8.out)) rfl ?_
      exact ⟨rfl, h8.bel⟩
end Go.Proofs.Ytcepncdolbfcfaa
