/- The counters that bytes tell, the document's. No statement is proved here. -/
import Derived.Test.YtcepncdolbfcfaaCount
namespace Go.Proofs.Ytcepncdolbfcfaa
open Go.RowKit
set_option linter.unusedVariables false
set_option linter.unusedSimpArgs false
attribute [local irreducible] arrV shaped Ls right putN iarr

theorem ist_append {w W W3 : World} {L : List (Nat × TypeId × Array Value)} {A : Option Addr} {n c base : Nat} {ys : List Int} (h : St w W L) (hO : IOwn W base A n c ys) (hb : ∀ x ∈ L, x.1 < base) (hlo : w.heap.size ≤ base) (hg : W.grownBy W3 (Value.slice A n c).ownBlock) : St w W3 L :=
  h.grown hg (fun x hx e => by have := (hO.2.2.lt _ e).1; have := hb x hx; omega) (fun k hk => by have := (hO.2.2.lt _ hk).1; omega)
def RcRel (w : World) (p : Pl) (xs : List Nat) (W1 W2 g5 base R n m : Nat) (i : Value) (wr : World) : Prop :=
  ∃ j A c, j ≤ n ∧ i = .int .i64 (j : Nat) ∧ St w wr [(w.heap.size, 28, p.arr), (W1, 33, arrV xs), (W2, 31, #[.int .u64 0, .slice none 0 0]), (g5, 31, #[.int .u64 (R : Int), .slice A j c])] ∧ IOwn wr base A j c (cnL xs m j) ∧ base ≤ wr.heap.size
set_option maxHeartbeats 4000000 in
set_option maxRecDepth 20000 in
theorem refCount_any (p : Pl) (xs : List Nat) (n m : Nat) (w : World) (hp : right p = true) (hl : xs.length = 32) (hb : ∀ x ∈ xs, x < 256) (hp3 : p.li = (n : Int)) (hp5 : p.mi = (m : Int)) :
    Calls Try.prog 14 #[.agg p.arr, .agg (arrV xs)] w fun e w' => ∃ A c, e = .returned (.agg #[.int .u64 (le (xs.take 8) : Nat), .slice A n c]) ∧ IRow w' w'.heap.size A n c (cnL xs m n) ∧ Below w.heap.size w w' := by
  have hmi := right_mi hp
  have hli := right_li hp
  have p5 : p.arr[5]? = some (.int .i64 (m : Int)) := by rw [p.at5, hp5]
  have p3 : p.arr[3]? = some (.int .i64 (n : Int)) := by rw [p.at3, hp3]
  have hm8 : m ≤ 8 := by omega
  have hn8 : n ≤ 8 := by omega
  have XL := Lib.hid hl
  have XB := Lib.hid hb
  have EX : Hid ((xs.drop 0).take 32 = xs) := by rw [List.drop_zero, List.take_of_length_le (by rw [XL.out]; omega)]; exact rfl
  have RD : Hid (∀ g W, Row W W.heap.size (some ⟨g, 0, none⟩) 32 32 ((xs.drop 0).take 32) → Calls Try.prog 36 #[.slice (some ⟨g, 0, none⟩) 32 32] W fun e w' => e = .returned (.int .u64 (le (xs.take 8) : Nat)) ∧ W = w') := fun g W h => by
    have := refRead_any _ _ _ _ _ W h
    rw [List.drop_zero, List.take_take] at this
    exact this
  generalize le (xs.take 8) = R at *
  have P5 := Lib.hid p5
  have P3 := Lib.hid p3
  have h0 := St.nil w
  clear hp3 hp5 p5 p3 hp hl hb
  go_enter Try.func14, Try.ntmps14
  go_wp2_with (first
    | (refine wpList_box_st h0 28 _ rfl rfl p.arr rfl ?_; clear h0; intro W1 h1 s1 _)
    | (refine wpList_box_st h1 33 _ rfl rfl (arrV xs) rfl ?_; clear h1; intro W2 h2 s2 _)
    | (refine wpList_alloc_st h2 31 rfl rfl _ #[.int .u64 0, .slice none 0 0] zv31 rfl ?_; clear h2; intro W3 h3 s3 _)
    | (go_at_call 36; refine (RD.out _ _ (Blk.row (h3.get 1 rfl) XB.out 0 32 32 (by rw [XL.out]; omega) (by omega) (by omega))).mono ?_; rintro e W4 ⟨rfl, rfl⟩)
    | (refine wpList_alloc_st h3 31 rfl rfl _ #[.int .u64 0, .slice none 0 0] zv31 rfl ?_; clear h3; intro W5 h5 s5 _)
    | (refine wpList_store_st h5 3 rfl 31 _ _ rfl rfl rfl rfl sz31 rfl (cell2 _ _ _ _) ?_; clear h5; intro W6 h6 _))
  have BS : Hid (w.heap.size < W5.heap.size ∧ W1.heap.size < W5.heap.size ∧ W2.heap.size < W5.heap.size ∧ W3.heap.size < W5.heap.size) := by
    have := s1.out; have := s2.out; have := s3.out; have := s5.out; exact ⟨by omega, by omega, by omega, by omega⟩
  have h6s := (h6.get 3 rfl).lt
  have BT : Hid (W5.heap.size ≤ W6.heap.size) := by have := s5.out; exact (by omega : W5.heap.size ≤ W6.heap.size)
  clear s1 s2 s3 s5 RD h6s
  generalize W3.heap.size = g5 at *
  generalize W5.heap.size = base at *
  go_loopw [6] (RcRel w p xs W1.heap.size W2.heap.size g5 base R n m) (fun i _ => n - (intOf i).toNat)
  case atStart => exact ⟨0, none, 0, by omega, rfl, h6, IOwn.nil_ _ _, BT.out⟩
  case round =>
    obtain ⟨j, A, c, hj, rfl, h7, hO, bs⟩ := hrel
    clear h6 BT
    have hc3 := h7.cell 0 rfl 3 _ P3.out
    by_cases hlt : j < n
    · have hmul2 : (j + 1) * m ≤ 8 * 8 := Nat.mul_le_mul (by omega) hm8
      rw [Nat.add_mul, Nat.one_mul] at hmul2
      have GT := Lib.hid (fun W h => refGet_any (some ⟨W1.heap.size, 0, none⟩) 32 32 (64 + j * m) m xs W h (by omega) (by omega) (by omega))
      have hq := getN_lt xs (64 + j * m) m
      have h28 : 2 ^ m ≤ 2 ^ 8 := Nat.pow_le_pow_right (by omega) hm8
      have ql : getN xs (64 + j * m) m < 256 := by omega
      have ST := Lib.hid (cnL_succ xs m j)
      clear hq h28
      generalize getN xs (64 + j * m) m = q at *
      have ez : (j : Int) * (m : Int) = ((j * m : Nat) : Int) := by simp
      generalize j * m = z at *
      have ey : (64 : Int) + (z : Int) = ((64 + z : Nat) : Int) := by omega
      generalize hy : 64 + z = y at *
      have g1 : ((j : Int) < (n : Int)) = True := eq_true (by omega)
      have em : IntKind.i64.wrap ((j : Int) * (m : Int)) = (z : Int) := by rw [ez]; exact i64_small z (by omega)
      have ep : IntKind.i64.wrap (64 + (z : Int)) = (y : Int) := by rw [ey]; exact i64_small y (by omega)
      have ew : IntKind.i64.wrap (q : Int) = (q : Int) := i64_small q (by omega)
      clear ez ey hy hmul2
      go_wp2
      have H0 := Lib.hid h7.drew
      have hO0 := hO.drew
      refine wp_region_held_drew (S := fun W => St w W [(w.heap.size, 28, p.arr), (W1.heap.size, 33, arrV xs), (W2.heap.size, 31, #[.int .u64 0, .slice none 0 0]), (g5, 31, #[.int .u64 (R : Int), .slice A j c])]) (by kernel_rfl) H0.out (fun _ => ?_)
      have bs0 : base ≤ wr.drew.heap.size := bs
      generalize wr.drew = V0 at *
      have p5 := P5.out
      clear h7 hO hc3
      refine wpAnyH_take (i := 0) (v := .slice (some ⟨W1.heap.size, 0, none⟩) 32 32) rfl (by kernel_rfl) (by kernel_rfl) (by kernel_rfl) (fun _ _ _ h => h) (Or.inl ⟨by rfl, fun W hW => by clear hW; go_simp⟩) H0.out ?_
      try simp only [Act.put, List.getElem_toArray, List.getElem_cons_succ, List.getElem_cons_zero, List.setIfInBounds_toArray, List.set_cons_zero, List.set_cons_succ]
      refine wpAnyH_take (i := 1) (v := .int .i64 (j : Int)) rfl (by kernel_rfl) (by kernel_rfl) (by kernel_rfl) (fun _ _ _ h => h) (Or.inl ⟨by rfl, fun W hW => by clear hW; go_simp⟩) H0.out ?_
      try simp only [Act.put, List.getElem_toArray, List.getElem_cons_succ, List.getElem_cons_zero, List.setIfInBounds_toArray, List.set_cons_zero, List.set_cons_succ]
      refine wpAnyH_take (i := 2) (v := .pointer (some ⟨w.heap.size, 5, none⟩)) rfl (by kernel_rfl) (by kernel_rfl) (by kernel_rfl) (fun _ _ _ h => h) (Or.inl ⟨by rfl, fun W hW => by clear hW; go_simp⟩) H0.out ?_
      try simp only [Act.put, List.getElem_toArray, List.getElem_cons_succ, List.getElem_cons_zero, List.setIfInBounds_toArray, List.set_cons_zero, List.set_cons_succ]
      refine wpAnyH_take (i := 3) (v := .int .i64 (m : Int)) rfl (by kernel_rfl) (by kernel_rfl) (by kernel_rfl) (fun _ _ _ h => h) (Or.inl ⟨by rfl, fun W hW => by have hc := (hW.cell 0 rfl 5 (.int .i64 (m : Int)) p5); clear hW; go_simp⟩) H0.out ?_
      try simp only [Act.put, List.getElem_toArray, List.getElem_cons_succ, List.getElem_cons_zero, List.setIfInBounds_toArray, List.set_cons_zero, List.set_cons_succ]
      refine wpAnyH_take (i := 4) (v := .int .i64 (z : Int)) rfl (by kernel_rfl) (by kernel_rfl) (by kernel_rfl) (fun _ _ _ h => h) (Or.inl ⟨by rfl, fun W hW => by clear hW; go_simp⟩) H0.out ?_
      try simp only [Act.put, List.getElem_toArray, List.getElem_cons_succ, List.getElem_cons_zero, List.setIfInBounds_toArray, List.set_cons_zero, List.set_cons_succ]
      refine wpAnyH_take (i := 5) (v := .int .i64 (y : Int)) rfl (by kernel_rfl) (by kernel_rfl) (by kernel_rfl) (fun _ _ _ h => h) (Or.inl ⟨by rfl, fun W hW => by clear hW; go_simp⟩) H0.out ?_
      try simp only [Act.put, List.getElem_toArray, List.getElem_cons_succ, List.getElem_cons_zero, List.setIfInBounds_toArray, List.set_cons_zero, List.set_cons_succ]
      refine wpAnyH_take (i := 6) (v := .pointer (some ⟨w.heap.size, 5, none⟩)) rfl (by kernel_rfl) (by kernel_rfl) (by kernel_rfl) (fun _ _ _ h => h) (Or.inl ⟨by rfl, fun W hW => by clear hW; go_simp⟩) H0.out ?_
      try simp only [Act.put, List.getElem_toArray, List.getElem_cons_succ, List.getElem_cons_zero, List.setIfInBounds_toArray, List.set_cons_zero, List.set_cons_succ]
      refine wpAnyH_take (i := 7) (v := .int .i64 (m : Int)) rfl (by kernel_rfl) (by kernel_rfl) (by kernel_rfl) (fun _ _ _ h => h) (Or.inl ⟨by rfl, fun W hW => by have hc := (hW.cell 0 rfl 5 (.int .i64 (m : Int)) p5); clear hW; go_simp⟩) H0.out ?_
      try simp only [Act.put, List.getElem_toArray, List.getElem_cons_succ, List.getElem_cons_zero, List.setIfInBounds_toArray, List.set_cons_zero, List.set_cons_succ]
      refine wpAnyH_ready (rs := [8]) (by kernel_rfl) (by simp) ?_
      refine AllReadyH.cons rfl (fun K hK => ?_) AllReadyH.nil
      go_simp
      go_at_call 37
      refine (GT.out _ (EX.out ▸ Blk.row (H0.out.get 1 rfl) XB.out 0 32 32 (by rw [XL.out]; omega) (by omega) (by omega))).mono ?_
      rintro e V1 ⟨rfl, hb1⟩
      have H1_ := Lib.hid (H0.out.call hb1)
      have hO1 := hO0.below hb1
      refine hK.out _ _ H1_.out (fun _ => ?_)
      clear hK K
      try simp only [Act.put, List.getElem_toArray, List.getElem_cons_succ, List.getElem_cons_zero, List.setIfInBounds_toArray, List.set_cons_zero, List.set_cons_succ]
      refine wpAnyH_take (i := 9) (v := .tuple #[.int .u64 (q : Int), .int .i64 0]) rfl (by kernel_rfl) (by kernel_rfl) (by kernel_rfl) (fun _ _ _ h => h) (Or.inl ⟨by rfl, fun W hW => by clear hW; go_simp⟩) H1_.out ?_
      try simp only [Act.put, List.getElem_toArray, List.getElem_cons_succ, List.getElem_cons_zero, List.setIfInBounds_toArray, List.set_cons_zero, List.set_cons_succ]
      refine wpAnyH_take (i := 10) (v := .int .u64 (q : Int)) rfl (by kernel_rfl) (by kernel_rfl) (by kernel_rfl) (fun _ _ _ h => h) (Or.inl ⟨by rfl, fun W hW => by clear hW; go_simp⟩) H1_.out ?_
      try simp only [Act.put, List.getElem_toArray, List.getElem_cons_succ, List.getElem_cons_zero, List.setIfInBounds_toArray, List.set_cons_zero, List.set_cons_succ]
      refine wpAnyH_take (i := 11) (v := .int .i64 0) rfl (by kernel_rfl) (by kernel_rfl) (by kernel_rfl) (fun _ _ _ h => h) (Or.inl ⟨by rfl, fun W hW => by clear hW; go_simp⟩) H1_.out ?_
      try simp only [Act.put, List.getElem_toArray, List.getElem_cons_succ, List.getElem_cons_zero, List.setIfInBounds_toArray, List.set_cons_zero, List.set_cons_succ]
      refine wpAnyH_take (i := 12) (v := .int .u64 (q : Int)) rfl (by kernel_rfl) (by kernel_rfl) (by kernel_rfl) (fun _ _ _ h => h) (Or.inl ⟨by rfl, fun W hW => by clear hW; go_simp⟩) H1_.out ?_
      try simp only [Act.put, List.getElem_toArray, List.getElem_cons_succ, List.getElem_cons_zero, List.setIfInBounds_toArray, List.set_cons_zero, List.set_cons_succ]
      refine wpAnyH_take (i := 13) (v := .int .i64 0) rfl (by kernel_rfl) (by kernel_rfl) (by kernel_rfl) (fun _ _ _ h => h) (Or.inl ⟨by rfl, fun W hW => by clear hW; go_simp⟩) H1_.out ?_
      try simp only [Act.put, List.getElem_toArray, List.getElem_cons_succ, List.getElem_cons_zero, List.setIfInBounds_toArray, List.set_cons_zero, List.set_cons_succ]
      refine wpAnyH_done (by kernel_rfl) ?_ _
      clear p5 em ep
      have b1 := hb1.size
      clear hb1 H0 hO0
      have h8 := H1_.out
      clear H1_
      have d1 := h8.cell 3 rfl 1 (.slice A j c) rfl
      have l1 := (h8.get 3 rfl).lt
      go_wp2_with (first
        | (refine wpList_append_irow _ rfl _ _ rfl base A j c _ rfl (hO1.alloc _) _ _ 1 1 [(q : Int)] rfl (IRow.one V1 (q : Int) (q : Int) rfl (by unfold I64; omega)) (by omega) (by simp; omega) ?_; intro A' c' W9 hO9 hg9 _; have h9 := ist_append (St.call h8 ((Below.refl _ _).alloc (Nat.le_refl _) _)) (hO1.alloc _) (fun x hx => by simp at hx; obtain ⟨t1, t2, t3, t4⟩ := BS.out; rcases hx with rfl | rfl | rfl | rfl <;> assumption) (by have := BS.out.1; omega) hg9; clear d1 l1 h8)
        | (refine wpList_cell_st h9 3 rfl 29 _ _ rfl rfl 1 (.slice A' (j + 1) c') rfl rfl (by simp) rfl rfl sz29 ?_; clear h9; intro W10 h10 hg10))
      go_roundw
      case rel =>
        refine ⟨j + 1, A', c', by omega, by go_num, h10, ?_, ?_⟩
        · rw [ST.out]
          exact hO9.kept hg10 (by
            by_cases e : (Value.slice A' (j + 1) c').ownBlock = some g5
            · exact absurd (hO9.2.2.lt _ e).1 (by have := BS.out.2.2.2; omega)
            · exact .inr e)
        · have := hg9.size
          have := hg10.size
          simp at *
          omega
      case measure => simp [intOf]; omega
    · obtain rfl : j = n := by omega
      go_wp2_with (first
        | (refine wpList_load_st h7 3 rfl 31 _ _ rfl rfl rfl Try.underlying31 rfl sz31 ?_)
        | (refine wpList_store_st h7 2 rfl 31 _ _ rfl rfl rfl rfl sz31 rfl (cell2 _ _ _ _) ?_; have h7' := h7; clear h7; intro W8 h8 hg8))
      refine bodyPost_ret (results_arr Try.results14 _ _ _ rfl _ ((h8.get 2 rfl).loadV 31 _ Try.underlying31 rfl sz31)) rfl ?_
      have hO8 := hO.kept hg8 (by
        by_cases e : (Value.slice A j c).ownBlock = some W2.heap.size
        · exact absurd (hO.2.2.lt _ e).1 (by have := BS.out.2.2.1; omega)
        · exact .inr e)
      exact ⟨_, _, rfl, hO8.row, h8.bel⟩
end Go.Proofs.Ytcepncdolbfcfaa
