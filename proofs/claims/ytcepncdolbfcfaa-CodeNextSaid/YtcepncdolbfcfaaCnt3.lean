/- The bytes of counters, the program's. No statement is proved here. -/
import Derived.Test.YtcepncdolbfcfaaRefCnt
namespace Go.Proofs.Ytcepncdolbfcfaa
open Go.RowKit
set_option linter.unusedVariables false
set_option linter.unusedSimpArgs false
attribute [local irreducible] arrV shaped Ls right putN

theorem St.sub {w W : World} {L L' : List (Nat × TypeId × Array Value)} (h : St w W L) (hs : L'.Sublist L) : St w W L' :=
  ⟨fun x hx => h.at_ x (hs.subset hx), fun x hx => h.lo x (hs.subset hx), h.nd.sublist hs, h.bel⟩
theorem St.snoc {w W : World} {L : List (Nat × TypeId × Array Value)} (h : St w W L) {g : Nat} {t : TypeId} {arr : Array Value} (hA : At W g t arr) (hne : ∀ x ∈ L, x.1 ≠ g) (hlo : w.heap.size ≤ g) : St w W (L ++ [(g, t, arr)]) := by
  refine ⟨fun x hx => ?_, fun x hx => ?_, ?_, h.bel⟩
  · rcases List.mem_append.1 hx with hx | hx
    · exact h.at_ x hx
    · rw [List.mem_singleton] at hx; subst hx; exact hA
  · rcases List.mem_append.1 hx with hx | hx
    · exact h.lo x hx
    · rw [List.mem_singleton] at hx; subst hx; exact hlo
  · rw [List.pairwise_append]
    refine ⟨h.nd, List.pairwise_singleton _ _, fun x hx y hy => ?_⟩
    rw [List.mem_singleton] at hy; subst hy
    exact hne x hx
theorem nb_getD (v k j : Nat) (h : j < k) : (nb v k).getD j 0 = v / 256 ^ j % 256 := by
  induction k generalizing v j with
  | zero => omega
  | succ k ih =>
    cases j with
    | zero => simp [nb]
    | succ j =>
      rw [nb, List.getD_cons_succ, ih (v / 256) j (by omega), Nat.div_div_eq_div_mul, Nat.pow_succ, Nat.mul_comm]
theorem nb_bit (v k i : Nat) (h : i < 8 * k) : bitAt (nb v k) i = v.testBit i := by
  unfold bitAt
  rw [nb_getD v k (i / 8) (by omega), show 256 = 2 ^ 8 from rfl, ← Nat.pow_mul, Nat.testBit_mod_two_pow, Nat.testBit_div_two_pow]
  simp only [decide_eq_true (show i % 8 < 8 by omega), Bool.true_and]
  congr 1; omega
theorem nb_zero (k : Nat) : nb 0 k = List.replicate k 0 := by
  induction k with
  | zero => rfl
  | succ k ih => rw [nb, List.replicate_succ]; simp [ih]
theorem bitAt_append (xs ys : List Nat) (i : Nat) : bitAt (xs ++ ys) i = if i < 8 * xs.length then bitAt xs i else bitAt ys (i - 8 * xs.length) := by
  unfold bitAt
  by_cases h : i < 8 * xs.length
  · rw [if_pos h, List.getD_eq_getElem?_getD, List.getD_eq_getElem?_getD, List.getElem?_append_left (by omega)]
  · rw [if_neg h, List.getD_eq_getElem?_getD, List.getD_eq_getElem?_getD, List.getElem?_append_right (by omega)]
    rw [show i / 8 - xs.length = (i - 8 * xs.length) / 8 by omega, show i % 8 = (i - 8 * xs.length) % 8 by omega]
theorem bitAt_zeros (n i : Nat) : bitAt (List.replicate n 0) i = false := by
  unfold bitAt
  rw [List.getD_eq_getElem?_getD, List.getElem?_replicate]
  split <;> simp
theorem first_put (M : Nat) : putN zeros 0 M 64 = nb M 8 ++ nb 0 24 := by
  have hz : ∀ x ∈ zeros, x < 256 := by intro x hx; rw [List.eq_of_mem_replicate hx]; omega
  refine bits_ext _ _ (by rw [putN_length]; simp [nb_length, zeros]) (putN_lt _ _ _ _ hz) (fun x hx => ?_) fun i hi => ?_
  · rcases List.mem_append.1 hx with hx | hx
    · exact nb_lt _ _ x hx
    · exact nb_lt _ _ x hx
  · rw [putN_bit zeros 0 M 64 i hz (by simp [zeros]), bitAt_append, nb_length, nb_zero 24]
    by_cases h : i < 64
    · rw [if_pos (by omega), if_pos (by omega), nb_bit M 8 i (by omega), Nat.sub_zero]
    · rw [if_neg (by omega), if_neg (by omega), bitAt_zeros]
      exact bitAt_zeros 32 i
set_option maxHeartbeats 2000000 in
theorem counters_no (p : Pl) (M : Nat) (A : Option Addr) (n c : Nat) (ms : List Int) (w : World) (hr : IRow w w.heap.size A n c ms) (hn : n ≤ 60) (hw : wrg p M ms ≠ 0) :
    Calls Try.prog 10 #[.agg p.arr, .agg #[.int .u64 M, .slice A n c]] w (GivesL w zeros (wrg p M ms)) := by
  have C := Lib.hid (fun W h => codeCheck_any p M A n c ms W h hn)
  have SP := Lib.hid (show (Try.prog.info? 28).map (·.size) = some p.arr.size by rw [p.arr_size]; exact sz28)
  have S0 := Lib.hid (sz33 zeros_len)
  have S2 := Lib.hid (arrV_all zeros)
  have HR := Lib.hid hr
  have h0 := St.nil w
  clear hr
  generalize wrg p M ms = e0 at *
  have g1 : (e0 == 0) = false := by simpa using hw
  have g2 : (e0 != 0) = true := by simpa using hw
  go_enter Try.func10, Try.ntmps10
  go_wp2_with (first
    | (refine wpList_box_st h0 28 _ rfl rfl p.arr rfl ?_; clear h0; intro W1 h1 _ _)
    | (refine wpList_box_st h1 31 _ rfl rfl #[.int .u64 M, .slice A n c] rfl ?_; clear h1; intro W2 h2 _ _)
    | (refine wpList_alloc_st h2 33 rfl rfl _ (arrV zeros) zv33 rfl ?_; clear h2; intro W3 h3 _ _)
    | (refine wpList_load_st h3 0 rfl 28 _ _ rfl rfl rfl Try.underlying28 rfl SP.out ?_)
    | (refine wpList_load_st h3 1 rfl 31 _ _ rfl rfl rfl Try.underlying31 rfl sz31 ?_)
    | (go_at_call 28; refine (C.out _ ((HR.out.below h3.bel).wider h3.bel.size)).mono ?_; rintro e W4 ⟨rfl, hb⟩; have h4 := h3.call hb; clear h3 hb)
    | (refine wpList_build_as 33 #[] rfl rfl (arrV zeros) (by simpa using build33) ?_)
    | (refine wpList_store_st h4 2 rfl 33 _ _ rfl rfl rfl rfl S0.out rfl S2.out ?_; clear h4; intro W5 h5 _))
  refine bodyPost_ret (results_cell_tmp Try.results10 _ _ _ rfl _ ((h5.get 2 rfl).loadV 33 _ Try.underlying33 rfl S0.out)) rfl ?_
  exact ⟨rfl, h5.bel⟩
def CtRel (w : World) (p : Pl) (g g2 g3 M n c m : Nat) (A0 : Option Addr) (ms : List Int) (i : Value) (wr : World) : Prop :=
  ∃ j, j ≤ n ∧ i = .int .i64 (j : Nat) ∧ St w wr [(w.heap.size, 28, p.arr), (g, 31, #[.int .u64 (M : Int), .slice A0 n c]), (g2, 33, arrV zeros)] ∧ Blk wr g3 33 (cb M ms m j)
set_option maxHeartbeats 2000000 in
set_option maxRecDepth 20000 in
theorem counters_yes (p : Pl) (M n m c : Nat) (A0 : Option Addr) (ms : List Int) (w : World) (hr : IRow w w.heap.size A0 n c ms) (hg : Good M n m ms) (hp3 : p.li = (n : Int)) (hp5 : p.mi = (m : Int)) (hw : wrg p M ms = 0) :
    Calls Try.prog 10 #[.agg p.arr, .agg #[.int .u64 M, .slice A0 n c]] w (GivesL w (cb M ms m n) 0) := by
  have p5 : p.arr[5]? = some (.int .i64 (m : Int)) := by rw [p.at5, hp5]
  have hm8 := hg.m8
  have hm1 := hg.m1
  have hn8 := hg.n8
  have hM := hg.M64
  have MN := Lib.hid hg.mn
  have C := Lib.hid (fun W h => codeCheck_any p M A0 n c ms W h (by omega))
  have MA0 := Lib.hid (fun s hs W => minorAt_any p m s hp5 hm8 hs W)
  have SP := Lib.hid (show (Try.prog.info? 28).map (·.size) = some p.arr.size by rw [p.arr_size]; exact sz28)
  have PT00 : Hid (∀ g W, Blk W g 33 zeros → Calls Try.prog 29 #[.slice (some ⟨g, 0, none⟩) 32 32, .int .i64 0, .int .i64 64, .int .u64 M] W (LeavesB W g 33 (cb M ms m 0) (.int .i64 0))) := fun g W hB => by
    have := put_blk g 32 32 0 64 M 33 zeros W hB rfl (by intro x hx; rw [List.eq_of_mem_replicate hx]; omega) (by omega) (by omega) (by omega) (by omega) hM
    rw [first_put] at this
    exact this
  have HR := Lib.hid hr
  have P5 := Lib.hid p5
  have h0 := St.nil w
  rw [hw] at C
  clear hp3 hp5 hg hr p5 hw
  go_enter Try.func10, Try.ntmps10
  go_wp2_with (first
    | (refine wpList_box_st h0 28 _ rfl rfl p.arr rfl ?_; clear h0; intro W1 h1 _ _)
    | (refine wpList_box_st h1 31 _ rfl rfl #[.int .u64 M, .slice A0 n c] rfl ?_; clear h1; intro W2 h2 _ _)
    | (refine wpList_alloc_st h2 33 rfl rfl _ (arrV zeros) zv33 rfl ?_; clear h2; intro W3 h3 _ _)
    | (refine wpList_load_st h3 0 rfl 28 _ _ rfl rfl rfl Try.underlying28 rfl SP.out ?_)
    | (refine wpList_load_st h3 1 rfl 31 _ _ rfl rfl rfl Try.underlying31 rfl sz31 ?_)
    | (go_at_call 28; refine (C.out _ ((HR.out.below h3.bel).wider h3.bel.size)).mono ?_; rintro e W4 ⟨rfl, hb⟩; have h4 := h3.call hb; clear h3 hb)
    | (refine wpList_alloc_st h4 33 rfl rfl _ (arrV zeros) zv33 rfl ?_; clear h4; intro W5 h5 _ _))
  have BLK0 := Lib.hid (show Blk W5.drew W4.heap.size 33 zeros from (h5.get 3 rfl).drew)
  have LO0 := h5.lo _ (List.mem_of_getElem? (i := 3) rfl)
  have h5' : St w W5 [(w.heap.size, 28, p.arr), (W1.heap.size, 31, #[.int .u64 (M : Int), .slice A0 n c]), (W2.heap.size, 33, arrV zeros)] := h5.sub (by exact List.sublist_append_left _ _)
  have NE0 : ∀ x ∈ [(w.heap.size, 28, p.arr), (W1.heap.size, 31, #[.int .u64 (M : Int), .slice A0 n c]), (W2.heap.size, 33, arrV zeros)], x.1 ≠ W4.heap.size := fun x hx => by
    have := (List.pairwise_append.1 (show ([(w.heap.size, 28, p.arr), (W1.heap.size, 31, #[.int .u64 (M : Int), .slice A0 n c]), (W2.heap.size, 33, arrV zeros)] ++ [(W4.heap.size, 33, arrV zeros)]).Pairwise (fun x y : Nat × TypeId × Array Value => x.1 ≠ y.1) from h5.nd)).2.2 x hx _ (List.mem_singleton.2 rfl)
    exact this
  have H0 := Lib.hid h5'.drew
  simp only at LO0
  refine wp_region_held_drew (S := fun W => St w W [(w.heap.size, 28, p.arr), (W1.heap.size, 31, #[.int .u64 (M : Int), .slice A0 n c]), (W2.heap.size, 33, arrV zeros)]) (by kernel_rfl) H0.out (fun _ => ?_)
  clear h5 h5'
  generalize W4.heap.size = g3 at *
  generalize W5.drew = V0 at *
  have BLK := BLK0
  have PT0 := Lib.hid (fun W h => PT00.out g3 W h)
  have NE : Hid (∀ x ∈ [(w.heap.size, 28, p.arr), (W1.heap.size, 31, #[.int .u64 (M : Int), .slice A0 n c]), (W2.heap.size, 33, arrV zeros)], some g3 ≠ some x.1) := fun x hx e => NE0 x hx (by injection e with e; exact e.symm)
  have LO : Hid (∀ k, some g3 = some k → w.heap.size ≤ k) := fun k e => by injection e with e; omega
  clear BLK0 PT00 NE0
  refine wpAnyH_take (i := 0) (v := .slice (some ⟨g3, 0, none⟩) 32 32) rfl (by kernel_rfl) (by kernel_rfl) (by kernel_rfl) (fun _ _ _ h => h) (Or.inl ⟨by rfl, fun W hW => by clear hW; go_simp⟩) H0.out ?_
  try simp only [Act.put, List.getElem_toArray, List.getElem_cons_succ, List.getElem_cons_zero, List.setIfInBounds_toArray, List.set_cons_zero, List.set_cons_succ]
  refine wpAnyH_take (i := 1) (v := .pointer (some ⟨W1.heap.size, 0, none⟩)) rfl (by kernel_rfl) (by kernel_rfl) (by kernel_rfl) (fun _ _ _ h => h) (Or.inl ⟨by rfl, fun W hW => by clear hW; go_simp⟩) H0.out ?_
  try simp only [Act.put, List.getElem_toArray, List.getElem_cons_succ, List.getElem_cons_zero, List.setIfInBounds_toArray, List.set_cons_zero, List.set_cons_succ]
  refine wpAnyH_take (i := 2) (v := .int .u64 (M : Int)) rfl (by kernel_rfl) (by kernel_rfl) (by kernel_rfl) (fun _ _ _ h => h) (Or.inl ⟨by rfl, fun W hW => by have hc := hW.cell 1 rfl 0 (.int .u64 (M : Int)) rfl; clear hW; go_simp⟩) H0.out ?_
  try simp only [Act.put, List.getElem_toArray, List.getElem_cons_succ, List.getElem_cons_zero, List.setIfInBounds_toArray, List.set_cons_zero, List.set_cons_succ]
  refine wpAnyH_ready (rs := [3]) (by kernel_rfl) (by simp) ?_
  refine AllReadyH.cons rfl (fun K hK => ?_) AllReadyH.nil
  go_simp
  go_at_call 29
  refine (PT0.out _ BLK.out).mono ?_
  rintro e V1 ⟨rfl, hB1, hg1⟩
  have H1_ := Lib.hid (H0.out.grown hg1 NE.out LO.out)
  refine hK.out _ _ H1_.out (fun _ => ?_)
  clear hK K
  try simp only [Act.put, List.getElem_toArray, List.getElem_cons_succ, List.getElem_cons_zero, List.setIfInBounds_toArray, List.set_cons_zero, List.set_cons_succ]
  refine wpAnyH_done (by kernel_rfl) ?_ _

  have d1 := H1_.out.cell 1 rfl 1 (.slice A0 n c) rfl
  go_wp2
  have hB1' := Lib.hid hB1
  clear hB1 d1 BLK PT0 H0
  go_loopw [24] (CtRel w p W1.heap.size W2.heap.size g3 M n c m A0 ms) (fun i _ => n - (intOf i).toNat)
  case atStart => exact ⟨0, by omega, rfl, H1_.out, hB1'.out⟩
  case round =>
    obtain ⟨j, hj, rfl, h6, hB6⟩ := hrel
    clear H1_ hB1' hg1
    by_cases hlt : j < n
    · obtain ⟨b, off, rfl, hb, hcs⟩ := HR.out.at_ (by omega)
      have hcw := hcs j (by omega)
      obtain ⟨mn1, mn2⟩ := MN.out j hlt
      have xl := mst_lt m _ mn1 mn2
      obtain ⟨x, hx⟩ : ∃ x : Nat, ms.getD j 0 = (x : Int) := ⟨(ms.getD j 0).toNat, by omega⟩
      rw [hx] at hcw
      have xe : (ms.getD j 0).toNat = x := by omega
      rw [xe] at xl
      have x255 := (mst_bd m hm8).2
      have x64 : x < 18446744073709551616 := by omega
      have CB : Hid (cb M ms m (j + 1) = putN (cb M ms m j) (64 + j * m) x m) := by rw [cb, xe]; exact rfl
      clear mn1 mn2 xe hcs
      have HXX := Lib.hid hx
      clear hx
      have hmul2 : (j + 1) * m ≤ 8 * 8 := Nat.mul_le_mul (by omega) hm8
      rw [Nat.add_mul, Nat.one_mul] at hmul2
      have MA := Lib.hid (fun W => MA0.out j (by omega) W)
      have PT := Lib.hid (fun W h => put_blk g3 32 32 (64 + j * m) m x 33 (cb M ms m j) W h (cb_len _ _ _ _) (cb_lt _ _ _ _) (by omega) (by omega) (by omega) xl x64)
      generalize 64 + j * m = y at *
      have ew : IntKind.u64.wrap (x : Int) = (x : Int) := wrap_nat x x64
      have hcr := (h6.bel.cell (p := ⟨b, off + j, none⟩) hb).trans hcw
      clear hmul2 x255
      go_wp2
      have H0 := Lib.hid h6.drew
      have BLK := Lib.hid hB6.drew
      refine wp_region_held_drew (S := fun W => St w W [(w.heap.size, 28, p.arr), (W1.heap.size, 31, #[.int .u64 (M : Int), .slice (some ⟨b, off, none⟩) n c]), (W2.heap.size, 33, arrV zeros)]) (by kernel_rfl) H0.out (fun _ => ?_)
      generalize wr.drew = V0 at *
      have p5 := P5.out
      clear hB6 h6 hcr
      refine wpAnyH_take (i := 0) (v := .slice (some ⟨g3, 0, none⟩) 32 32) rfl (by kernel_rfl) (by kernel_rfl) (by kernel_rfl) (fun _ _ _ h => h) (Or.inl ⟨by rfl, fun W hW => by clear hW; go_simp⟩) H0.out ?_
      try simp only [Act.put, List.getElem_toArray, List.getElem_cons_succ, List.getElem_cons_zero, List.setIfInBounds_toArray, List.set_cons_zero, List.set_cons_succ]
      refine wpAnyH_take (i := 1) (v := .agg p.arr) rfl (by kernel_rfl) (by kernel_rfl) (by kernel_rfl) (fun _ _ _ h => h) (yields_at 28 _ _ rfl (by rfl) rfl Try.underlying28 rfl SP.out (fun W hW => hW.get 0 rfl)) H0.out ?_
      try simp only [Act.put, List.getElem_toArray, List.getElem_cons_succ, List.getElem_cons_zero, List.setIfInBounds_toArray, List.set_cons_zero, List.set_cons_succ]
      refine wpAnyH_take (i := 2) (v := .int .i64 (j : Int)) rfl (by kernel_rfl) (by kernel_rfl) (by kernel_rfl) (fun _ _ _ h => h) (Or.inl ⟨by rfl, fun W hW => by clear hW; go_simp⟩) H0.out ?_
      try simp only [Act.put, List.getElem_toArray, List.getElem_cons_succ, List.getElem_cons_zero, List.setIfInBounds_toArray, List.set_cons_zero, List.set_cons_succ]
      refine wpAnyH_take (i := 4) (v := .pointer (some ⟨w.heap.size, 5, none⟩)) rfl (by kernel_rfl) (by kernel_rfl) (by kernel_rfl) (fun _ _ _ h => h) (Or.inl ⟨by rfl, fun W hW => by clear hW; go_simp⟩) H0.out ?_
      try simp only [Act.put, List.getElem_toArray, List.getElem_cons_succ, List.getElem_cons_zero, List.setIfInBounds_toArray, List.set_cons_zero, List.set_cons_succ]
      refine wpAnyH_take (i := 5) (v := .int .i64 (m : Int)) rfl (by kernel_rfl) (by kernel_rfl) (by kernel_rfl) (fun _ _ _ h => h) (Or.inl ⟨by rfl, fun W hW => by have hc := (hW.cell 0 rfl 5 (.int .i64 (m : Int)) p5); clear hW; go_simp⟩) H0.out ?_
      try simp only [Act.put, List.getElem_toArray, List.getElem_cons_succ, List.getElem_cons_zero, List.setIfInBounds_toArray, List.set_cons_zero, List.set_cons_succ]
      refine wpAnyH_take (i := 6) (v := .int .i64 (x : Int)) rfl (by kernel_rfl) (by kernel_rfl) (by kernel_rfl) (fun _ _ _ h => h) (Or.inl ⟨by rfl, fun W hW => by clear hW; go_simp⟩) H0.out ?_
      try simp only [Act.put, List.getElem_toArray, List.getElem_cons_succ, List.getElem_cons_zero, List.setIfInBounds_toArray, List.set_cons_zero, List.set_cons_succ]
      refine wpAnyH_take (i := 7) (v := .int .u64 (x : Int)) rfl (by kernel_rfl) (by kernel_rfl) (by kernel_rfl) (fun _ _ _ h => h) (Or.inl ⟨by rfl, fun W hW => by clear hW; go_simp⟩) H0.out ?_
      try simp only [Act.put, List.getElem_toArray, List.getElem_cons_succ, List.getElem_cons_zero, List.setIfInBounds_toArray, List.set_cons_zero, List.set_cons_succ]
      refine wpAnyH_ready (rs := [3]) (by kernel_rfl) (by simp) ?_
      refine AllReadyH.cons rfl (fun K hK => ?_) AllReadyH.nil
      go_simp
      go_at_call 30
      refine (MA.out _).mono ?_
      rintro e V1 ⟨rfl, hb1⟩
      have H1_ := Lib.hid (H0.out.call hb1)
      have BLK1 := Lib.hid (BLK.out.below hb1 BLK.out.lt)
      refine hK.out _ _ H1_.out (fun _ => ?_)
      clear hK K
      try simp only [Act.put, List.getElem_toArray, List.getElem_cons_succ, List.getElem_cons_zero, List.setIfInBounds_toArray, List.set_cons_zero, List.set_cons_succ]
      refine wpAnyH_ready (rs := [8]) (by kernel_rfl) (by simp) ?_
      refine AllReadyH.cons rfl (fun K hK => ?_) AllReadyH.nil
      go_simp
      go_at_call 29
      refine (PT.out _ BLK1.out).mono ?_
      rintro e V2 ⟨rfl, hB2, hg2⟩
      have H2_ := Lib.hid (H1_.out.grown hg2 NE.out LO.out)
      refine hK.out _ _ H2_.out (fun _ => ?_)
      clear hK K
      try simp only [Act.put, List.getElem_toArray, List.getElem_cons_succ, List.getElem_cons_zero, List.setIfInBounds_toArray, List.set_cons_zero, List.set_cons_succ]
      refine wpAnyH_done (by kernel_rfl) ?_ _

      clear p5
      go_wp2
      go_roundw
      case rel => exact ⟨j + 1, by omega, by go_num, H2_.out, by rw [CB.out]; exact hB2⟩
      case measure => simp [intOf]; omega
    · obtain rfl : j = n := by omega
      have S8 := Lib.hid (sz33 (cb_len M ms m j))
      have Sz8 : Hid ((arrV (cb M ms m j)).size = (arrV zeros).size) := by rw [arrV_size, arrV_size, cb_len]; exact rfl
      have Sx8 := Lib.hid (arrV_all (cb M ms m j))
      have A6 : At wr g3 33 (arrV (cb M ms m j)) := hB6
      go_wp2_with (first
        | (refine wpList_load_at A6 33 _ _ rfl rfl rfl Try.underlying33 rfl S8.out ?_)
        | (refine wpList_store_st h6 2 rfl 33 _ _ rfl rfl rfl rfl S8.out Sz8.out Sx8.out ?_; clear h6; intro W8 h8 _))
      refine bodyPost_ret (results_cell_tmp Try.results10 _ _ _ rfl _ ((h8.get 2 rfl).loadV 33 _ Try.underlying33 rfl S8.out)) rfl ?_
      exact ⟨rfl, h8.bel⟩
end Go.Proofs.Ytcepncdolbfcfaa
