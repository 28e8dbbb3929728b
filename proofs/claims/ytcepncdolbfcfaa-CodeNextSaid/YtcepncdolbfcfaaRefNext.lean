/- The counters behind a write of a line, the document's. No statement is proved here. -/
import Derived.Test.YtcepncdolbfcfaaNext
namespace Go.Proofs.Ytcepncdolbfcfaa
open Go.RowKit
set_option linter.unusedVariables false
set_option linter.unusedSimpArgs false
attribute [local irreducible] arrV shaped Ls right putN iarr

def RnRel (w : World) (p : Pl) (A0 : Option Addr) (M n c : Nat) (W1 W2 g10 base : Nat) (T : List Int) (i : Value) (wr : World) : Prop :=
  ∃ j A c', j ≤ n ∧ i = .int .i64 (j : Nat) ∧ St w wr [(w.heap.size, 28, p.arr), (W1, 31, #[.int .u64 (M : Int), .slice A0 n c]), (W2, 31, #[.int .u64 0, .slice none 0 0]), (g10, 31, #[.int .u64 (M : Int), .slice A j c'])] ∧ IOwn wr base A j c' (T.take j) ∧ base ≤ wr.heap.size
theorem take_getD (T : List Int) (j : Nat) (h : j < T.length) : T.take (j + 1) = T.take j ++ [T.getD j 0] := by
  rw [List.take_succ_eq_append_getElem h, List.getD_eq_getElem?_getD, List.getElem?_eq_getElem h]; rfl
set_option maxHeartbeats 4000000 in
set_option maxRecDepth 20000 in
theorem refNext_any (p : Pl) (M : Nat) (A : Option Addr) (n c : Nat) (ms : List Int) (s : Int) (w : World) (hr : IRow w w.heap.size A n c ms) (hn : n ≤ 60) :
    Calls Try.prog 26 #[.agg p.arr, .agg #[.int .u64 M, .slice A n c], .int .i64 s] w (GivesN w (nxt p M ms s)) := by
  have C := Lib.hid (fun W h => refWrong_any p M A n c ms W h hn)
  have SP := Lib.hid (show (Try.prog.info? 28).map (·.size) = some p.arr.size by rw [p.arr_size]; exact sz28)
  have HR := Lib.hid hr
  have hlen := hr.len
  have h0 := St.nil w
  clear hr
  by_cases hw : wrg p M ms = 0
  · obtain ⟨n', m, hg, hp3, hp5, hpr, hM, hn1⟩ := wrg_good hw
    obtain rfl : n = n' := by have := hg.len; omega
    have p3 : p.arr[3]? = some (.int .i64 (n : Int)) := by rw [p.at3, hp3]
    have P3 := Lib.hid p3
    rw [hw] at C
    by_cases hs : s < 0 ∨ p.li ≤ s
    · have E : Hid (nxt p M ms s = ⟨0, [], false, 2⟩) := by unfold nxt; rw [if_neg (by rw [hw]; simp), if_pos hs]; exact rfl
      generalize nxt p M ms s = X at *
      clear hw hg p3 hpr hM
      rcases hs with hs | hs
      · go_enter Try.func26, Try.ntmps26
        go_wp2_with (first
          | (refine wpList_box_st h0 28 _ rfl rfl p.arr rfl ?_; clear h0; intro W1 h1 _ _)
          | (refine wpList_box_st h1 31 _ rfl rfl #[.int .u64 (M : Int), .slice A n c] rfl ?_; clear h1; intro W2 h2 _ _)
          | (refine wpList_alloc_st h2 31 rfl rfl _ #[.int .u64 0, .slice none 0 0] zv31 rfl ?_; clear h2; intro W3 h3 _ _)
          | (refine wpList_load_st h3 0 rfl 28 _ _ rfl rfl rfl Try.underlying28 rfl SP.out ?_)
          | (refine wpList_load_st h3 1 rfl 31 _ _ rfl rfl rfl Try.underlying31 rfl sz31 ?_)
          | (go_at_call 11; refine (C.out _ ((HR.out.below h3.bel).wider h3.bel.size)).mono ?_; rintro e W4 ⟨rfl, hb4⟩; have h4 := h3.call hb4; have c3 := PBlk.c3 (h4.get 0 rfl); have c6 := PBlk.c6 (h4.get 0 rfl); have d0 := h4.cell 1 rfl 0 (.int .u64 (M : Int)) rfl; clear h3 hb4)
          | (refine wpList_store_st h4 2 rfl 31 _ _ rfl rfl rfl rfl sz31 rfl (cell2 _ _ _ _) ?_; clear h4 c3 c6 d0; intro W5 h5 _))
        refine bodyPost_ret (results_cell_tmp2 Try.results26 _ _ _ rfl _ ((h5.get 2 rfl).loadV 31 _ Try.underlying31 rfl sz31)) rfl ?_
        rw [E.out]
        exact gives_none h5.bel
      · have g0 : ¬ s < 0 := by omega
        go_enter Try.func26, Try.ntmps26
        go_wp2_with (first
          | (refine wpList_box_st h0 28 _ rfl rfl p.arr rfl ?_; clear h0; intro W1 h1 _ _)
          | (refine wpList_box_st h1 31 _ rfl rfl #[.int .u64 (M : Int), .slice A n c] rfl ?_; clear h1; intro W2 h2 _ _)
          | (refine wpList_alloc_st h2 31 rfl rfl _ #[.int .u64 0, .slice none 0 0] zv31 rfl ?_; clear h2; intro W3 h3 _ _)
          | (refine wpList_load_st h3 0 rfl 28 _ _ rfl rfl rfl Try.underlying28 rfl SP.out ?_)
          | (refine wpList_load_st h3 1 rfl 31 _ _ rfl rfl rfl Try.underlying31 rfl sz31 ?_)
          | (go_at_call 11; refine (C.out _ ((HR.out.below h3.bel).wider h3.bel.size)).mono ?_; rintro e W4 ⟨rfl, hb4⟩; have h4 := h3.call hb4; have c3 := PBlk.c3 (h4.get 0 rfl); have c6 := PBlk.c6 (h4.get 0 rfl); have d0 := h4.cell 1 rfl 0 (.int .u64 (M : Int)) rfl; clear h3 hb4)
          | (refine wpList_store_st h4 2 rfl 31 _ _ rfl rfl rfl rfl sz31 rfl (cell2 _ _ _ _) ?_; clear h4 c3 c6 d0; intro W5 h5 _))
        refine bodyPost_ret (results_cell_tmp2 Try.results26 _ _ _ rfl _ ((h5.get 2 rfl).loadV 31 _ Try.underlying31 rfl sz31)) rfl ?_
        rw [E.out]
        exact gives_none h5.bel
    · obtain ⟨s, rfl⟩ : ∃ k : Nat, s = (k : Int) := ⟨s.toNat, by omega⟩
      have hsn : s < n := by omega
      have RM := Lib.hid (fun W => refMost_any p m hp5 hg.m8 W)
      obtain ⟨b, off, rfl, hb, hcs⟩ := HR.out.at_ (by omega)
      have hcw := hcs s hsn
      obtain ⟨x1, x2⟩ := hg.mn s hsn
      have m255 := (mst_bd m hg.m8).2
      have HCS := Lib.hid hcs
      have I6 := Lib.hid (fun x hx => HR.out.2.1 x hx)
      have E : Hid (nxt p M ms (s : Int) = if ms.getD s 0 < mst m then ⟨M, ms.set s (ms.getD s 0 + 1), false, 0⟩ else if (M : Int) = p.ma then ⟨0, [], false, 21⟩ else ⟨M + 1, List.replicate n 0, true, 0⟩) := by
        unfold nxt; rw [if_neg (by rw [hw]; simp), if_neg hs, hp5, Int.toNat_natCast, Int.toNat_natCast, hlen]; exact rfl
      generalize nxt p M ms (s : Int) = X at *
      have hma := right_ma hpr
      generalize hgx : ms.getD s 0 = x at *
      generalize mst m = mk at *
      clear hw hg hpr hcs p3
      have g0 : ¬ (s : Int) < 0 := by omega
      have g1 : ¬ p.li ≤ (s : Int) := by omega
      have HGX := Lib.hid hgx
      clear hgx
      go_enter Try.func26, Try.ntmps26
      go_upto_region 7 with (first
        | (refine wpList_box_st h0 28 _ rfl rfl p.arr rfl ?_; clear h0; intro W1 h1 s1 _)
        | (refine wpList_box_st h1 31 _ rfl rfl #[.int .u64 (M : Int), .slice (some ⟨b, off, none⟩) n c] rfl ?_; clear h1; intro W2 h2 s2 _)
        | (refine wpList_alloc_st h2 31 rfl rfl _ #[.int .u64 0, .slice none 0 0] zv31 rfl ?_; clear h2; intro W3 h3 s3 _)
        | (refine wpList_load_st h3 0 rfl 28 _ _ rfl rfl rfl Try.underlying28 rfl SP.out ?_)
        | (refine wpList_load_st h3 1 rfl 31 _ _ rfl rfl rfl Try.underlying31 rfl sz31 ?_)
        | (go_at_call 11; refine (C.out _ ((HR.out.below h3.bel).wider h3.bel.size)).mono ?_; rintro e W4 ⟨rfl, hb4⟩; have h4 := h3.call hb4; have c3 := PBlk.c3 (h4.get 0 rfl); have d0 := h4.cell 1 rfl 0 (.int .u64 (M : Int)) rfl; have z4 := Lib.hid hb4.size; clear h3 hb4)
        | (refine wpList_alloc_st h4 31 rfl rfl _ #[.int .u64 0, .slice none 0 0] zv31 rfl ?_; clear h4 c3 d0; intro W6 h6 s6 _)
        | (refine wpList_store_st h6 3 rfl 31 _ _ rfl rfl rfl rfl sz31 rfl (cell2 _ _ _ _) ?_; clear h6; intro W7 h7 hg7))
      have BS : Hid (w.heap.size < W6.heap.size ∧ W1.heap.size < W6.heap.size ∧ W2.heap.size < W6.heap.size ∧ W4.heap.size < W6.heap.size) := by
        have := s1.out; have := s2.out; have := s3.out; have := s6.out; have := z4.out
        exact ⟨by omega, by omega, by omega, by omega⟩
      have BT := Lib.hid hg7.size
      clear s1 s2 s3 s6 z4 hg7
      generalize W4.heap.size = g10 at *
      generalize W6.heap.size = base at *
      have H0 := Lib.hid h7.drew
      refine wp_region_held_drew (S := fun W => St w W [(w.heap.size, 28, p.arr), (W1.heap.size, 31, #[.int .u64 (M : Int), .slice (some ⟨b, off, none⟩) n c]), (W2.heap.size, 31, #[.int .u64 0, .slice none 0 0]), (g10, 31, #[.int .u64 (M : Int), .slice none 0 0])]) (by kernel_rfl) H0.out (fun _ => ?_)
      have BT0 : Hid (base ≤ W7.drew.heap.size) := BT.out
      clear BT
      generalize W7.drew = V0 at *
      clear h7 C
      by_cases hx : x = mk
      · have q3 : (x == mk) = true := by simpa using hx
        have hx2 : ¬ x < mk := by omega
        have HX := Lib.hid hx
        clear hx
        refine wpAnyH_take (i := 0) (v := .pointer (some ⟨W1.heap.size, 1, none⟩)) rfl (by kernel_rfl) (by kernel_rfl) (by kernel_rfl) (fun _ _ _ h => h) (Or.inl ⟨by rfl, fun W hW => by clear hW; go_simp⟩) H0.out ?_
        try simp only [Act.put, List.getElem_toArray, List.getElem_cons_succ, List.getElem_cons_zero, List.setIfInBounds_toArray, List.set_cons_zero, List.set_cons_succ]
        refine wpAnyH_take (i := 1) (v := .slice (some ⟨b, off, none⟩) n c) rfl (by kernel_rfl) (by kernel_rfl) (by kernel_rfl) (fun _ _ _ h => h) (Or.inl ⟨by rfl, fun W hW => by have hc := hW.cell 1 rfl 1 (.slice (some ⟨b, off, none⟩) n c) rfl; clear hW; go_simp⟩) H0.out ?_
        try simp only [Act.put, List.getElem_toArray, List.getElem_cons_succ, List.getElem_cons_zero, List.setIfInBounds_toArray, List.set_cons_zero, List.set_cons_succ]
        refine wpAnyH_take (i := 2) (v := .int .i64 (s : Int)) rfl (by kernel_rfl) (by kernel_rfl) (by kernel_rfl) (fun _ _ _ h => h) (Or.inl ⟨by rfl, fun W hW => by clear hW; go_simp⟩) H0.out ?_
        try simp only [Act.put, List.getElem_toArray, List.getElem_cons_succ, List.getElem_cons_zero, List.setIfInBounds_toArray, List.set_cons_zero, List.set_cons_succ]
        refine wpAnyH_take (i := 3) (v := .pointer (some ⟨b, off + s, none⟩)) rfl (by kernel_rfl) (by kernel_rfl) (by kernel_rfl) (fun _ _ _ h => h) (Or.inl ⟨by rfl, fun W hW => by clear hW; go_simp⟩) H0.out ?_
        try simp only [Act.put, List.getElem_toArray, List.getElem_cons_succ, List.getElem_cons_zero, List.setIfInBounds_toArray, List.set_cons_zero, List.set_cons_succ]
        refine wpAnyH_take (i := 4) (v := .int .i64 x) rfl (by kernel_rfl) (by kernel_rfl) (by kernel_rfl) (fun _ _ _ h => h) (Or.inl ⟨by rfl, fun W hW => by have hc := (hW.bel.cell (p := ⟨b, off + s, none⟩) hb).trans hcw; clear hW; go_simp⟩) H0.out ?_
        try simp only [Act.put, List.getElem_toArray, List.getElem_cons_succ, List.getElem_cons_zero, List.setIfInBounds_toArray, List.set_cons_zero, List.set_cons_succ]
        refine wpAnyH_take (i := 5) (v := .agg p.arr) rfl (by kernel_rfl) (by kernel_rfl) (by kernel_rfl) (fun _ _ _ h => h) (yields_at 28 _ _ rfl (by rfl) rfl Try.underlying28 rfl SP.out (fun W hW => hW.get 0 rfl)) H0.out ?_
        try simp only [Act.put, List.getElem_toArray, List.getElem_cons_succ, List.getElem_cons_zero, List.setIfInBounds_toArray, List.set_cons_zero, List.set_cons_succ]
        refine wpAnyH_ready (rs := [6]) (by kernel_rfl) (by simp) ?_
        refine AllReadyH.cons rfl (fun K hK => ?_) AllReadyH.nil
        go_simp
        go_at_call 32
        refine (RM.out _).mono ?_
        rintro e V1_ ⟨rfl, hb1_⟩
        have H1_ := Lib.hid (H0.out.call hb1_)
        have hb1s := hb1_.size
        clear hb1_
        refine hK.out _ _ H1_.out (fun _ => ?_)
        clear hK K
        try simp only [Act.put, List.getElem_toArray, List.getElem_cons_succ, List.getElem_cons_zero, List.setIfInBounds_toArray, List.set_cons_zero, List.set_cons_succ]
        refine wpAnyH_take (i := 7) (v := .bool true) rfl (by kernel_rfl) (by kernel_rfl) (by kernel_rfl) (fun _ _ _ h => h) (Or.inl ⟨by rfl, fun W hW => by clear hW; go_simp⟩) H1_.out ?_
        try simp only [Act.put, List.getElem_toArray, List.getElem_cons_succ, List.getElem_cons_zero, List.setIfInBounds_toArray, List.set_cons_zero, List.set_cons_succ]
        refine wpAnyH_take (i := 8) (v := .bool true) rfl (by kernel_rfl) (by kernel_rfl) (by kernel_rfl) (fun _ _ _ h => h) (Or.inl ⟨by rfl, fun W hW => by clear hW; go_simp⟩) H1_.out ?_
        try simp only [Act.put, List.getElem_toArray, List.getElem_cons_succ, List.getElem_cons_zero, List.setIfInBounds_toArray, List.set_cons_zero, List.set_cons_succ]
        refine wpAnyH_done (by kernel_rfl) ?_ _
        have h8 := H1_.out
        have BT1 := Lib.hid (Nat.le_trans BT0.out hb1s)
        clear q3
        have c6 := PBlk.c6 (h8.get 0 rfl)
        have d0 := h8.cell 1 rfl 0 (.int .u64 (M : Int)) rfl
        by_cases hM2 : (M : Int) = p.ma
        · have E1 : Hid (X = ⟨0, [], false, 21⟩) := by rw [E.out, if_neg hx2, if_pos hM2]; exact rfl
          have q2 : ((M : Int) == p.ma) = true := by simpa using hM2
          have HM2 := Lib.hid hM2
          clear hM2
          go_wp2_with (refine wpList_store_st h8 2 rfl 31 _ _ rfl rfl rfl rfl sz31 rfl (cell2 _ _ _ _) ?_; clear h8 d0 c6; intro W9 h9 hg9)
          refine bodyPost_ret (results_cell_tmp2 Try.results26 _ _ _ rfl _ ((h9.get 2 rfl).loadV 31 _ Try.underlying31 rfl sz31)) rfl ?_
          rw [E1.out]
          exact gives_none h9.bel
        · have E1 : Hid (X = ⟨M + 1, List.replicate n 0, true, 0⟩) := by rw [E.out, if_neg hx2, if_neg hM2]; exact rfl
          have q2 : ((M : Int) == p.ma) = false := by simpa using hM2
          have q4 : IntKind.u64.wrap ((M : Int) + 1) = ((M + 1 : Nat) : Int) := by simp [IntKind.wrap, IntKind.bits, IntKind.signed]; omega
          have TL : Hid ((List.replicate n (0 : Int)).length = n) := by simp [Hid]
          clear hM2 E

          go_wp2
          go_loopw [12] (RnRel w p (some ⟨b, off, none⟩) M n c W1.heap.size W2.heap.size g10 base (List.replicate n 0)) (fun i _ => n - (intOf i).toNat)
          case atStart => exact ⟨0, none, 0, by omega, rfl, h8, IOwn.nil_ _ _, BT1.out⟩
          case round =>
            obtain ⟨j, A, c', hj, rfl, h9, hO, bs⟩ := hrel
            clear h8
            have hc3 := h9.cell 0 rfl 3 _ P3.out
            have d1 := h9.cell 1 rfl 1 (.slice (some ⟨b, off, none⟩) n c) rfl
            by_cases hlt : j < n
            · have hcj := (h9.bel.cell (p := ⟨b, off + j, none⟩) hb).trans (HCS.out j hlt)
              have g3 : ((j : Int) < (n : Int)) = True := eq_true (by omega)
              have yI : I64 (ms.getD j 0) := HR.out.lt j
              have TD := Lib.hid (take_getD (List.replicate n 0) j (by rw [TL.out]; exact hlt))
              have l9 := (h9.get 3 rfl).lt
              have e1 := h9.cell 3 rfl 1 (.slice A j c') rfl
              have tv : (List.replicate n (0 : Int)).getD j 0 = 0 := by rw [List.getD_eq_getElem?_getD, List.getElem?_replicate]; split <;> rfl
              have TV := Lib.hid tv
              generalize ms.getD j 0 = y at *
              clear tv
              go_wp2_with (first
                | (refine wpList_append_irow _ rfl _ _ rfl base A j c' _ rfl (hO.alloc _) _ _ 1 1 [(0 : Int)] rfl (IRow.one wr (0 : Int) (0 : Int) rfl (by unfold I64 at *; omega)) (by omega) (by simp; omega) ?_; intro A' c2 W9 hO9 hg9 _; have h10 := ist_append (St.call h9 ((Below.refl _ _).alloc (Nat.le_refl _) _)) (hO.alloc _) (fun x hx => by simp at hx; obtain ⟨t1, t2, t3, t4⟩ := BS.out; rcases hx with rfl | rfl | rfl | rfl <;> assumption) (by have := BS.out.1; omega) hg9; clear d1 h9 hc3 hcj l9 e1)
                | (refine wpList_cell_st h10 3 rfl 29 _ _ rfl rfl 1 (.slice A' (j + 1) c2) rfl rfl (by simp) rfl rfl sz29 ?_; clear h10; intro W10 h11 hg10))
              go_roundw
              case rel =>
                refine ⟨j + 1, A', c2, by omega, by go_num, h11, ?_, ?_⟩
                · rw [TD.out, TV.out]
                  exact hO9.kept hg10 (by
                    by_cases e : (Value.slice A' (j + 1) c2).ownBlock = some g10
                    · exact absurd (hO9.2.2.lt _ e).1 (by have := BS.out.2.2.2; omega)
                    · exact .inr e)
                · have := hg9.size
                  have := hg10.size
                  simp at *
                  omega
              case measure => simp [intOf]; omega
            · obtain rfl : j = n := by omega
              have g3 : ¬ (j : Int) < (j : Int) := by omega
              have e9 : (List.replicate j (0 : Int)).take j = List.replicate j 0 := List.take_of_length_le (by rw [TL.out]; omega)
              rw [e9] at hO
              have d0 := h9.cell 3 rfl 0 (.int .u64 (M : Int)) rfl
              go_wp2_with (first
                | (refine wpList_cell_st h9 3 rfl 22 _ _ rfl rfl 0 (.int .u64 ((M + 1 : Nat) : Int)) rfl rfl (by simp) rfl rfl sz22 ?_; clear h9 d0 hc3 d1; intro W10 h11 hg11)
                | (refine wpList_load_st h11 3 rfl 31 _ _ rfl rfl rfl Try.underlying31 rfl sz31 ?_)
                | (refine wpList_store_st h11 2 rfl 31 _ _ rfl rfl rfl rfl sz31 rfl (cell2 _ _ _ _) ?_; clear h11; intro W12 h12 hg12))
              refine bodyPost_ret (results_cell_tmp2 Try.results26 _ _ _ rfl _ ((h12.get 2 rfl).loadV 31 _ Try.underlying31 rfl sz31)) rfl ?_
              rw [E1.out]
              have hO11 := hO.kept hg11 (by
                by_cases e : (Value.slice A j c').ownBlock = some g10
                · exact absurd (hO.2.2.lt _ e).1 (by have := BS.out.2.2.2; omega)
                · exact .inr e)
              have hO12 := hO11.kept hg12 (by
                by_cases e : (Value.slice A j c').ownBlock = some W2.heap.size
                · exact absurd (hO.2.2.lt _ e).1 (by have := BS.out.2.2.1; omega)
                · exact .inr e)
              have e8 : (List.replicate j (0 : Int)).length = j := by simp
              exact ⟨_, _, by simp only [e8]; rfl, by simp only [e8]; exact hO12.row, h12.bel⟩
  
      · have q3 : (x == mk) = false := by simpa using hx
        have hx2 : x < mk := by omega
        refine wpAnyH_take (i := 0) (v := .pointer (some ⟨W1.heap.size, 1, none⟩)) rfl (by kernel_rfl) (by kernel_rfl) (by kernel_rfl) (fun _ _ _ h => h) (Or.inl ⟨by rfl, fun W hW => by clear hW; go_simp⟩) H0.out ?_
        try simp only [Act.put, List.getElem_toArray, List.getElem_cons_succ, List.getElem_cons_zero, List.setIfInBounds_toArray, List.set_cons_zero, List.set_cons_succ]
        refine wpAnyH_take (i := 1) (v := .slice (some ⟨b, off, none⟩) n c) rfl (by kernel_rfl) (by kernel_rfl) (by kernel_rfl) (fun _ _ _ h => h) (Or.inl ⟨by rfl, fun W hW => by have hc := hW.cell 1 rfl 1 (.slice (some ⟨b, off, none⟩) n c) rfl; clear hW; go_simp⟩) H0.out ?_
        try simp only [Act.put, List.getElem_toArray, List.getElem_cons_succ, List.getElem_cons_zero, List.setIfInBounds_toArray, List.set_cons_zero, List.set_cons_succ]
        refine wpAnyH_take (i := 2) (v := .int .i64 (s : Int)) rfl (by kernel_rfl) (by kernel_rfl) (by kernel_rfl) (fun _ _ _ h => h) (Or.inl ⟨by rfl, fun W hW => by clear hW; go_simp⟩) H0.out ?_
        try simp only [Act.put, List.getElem_toArray, List.getElem_cons_succ, List.getElem_cons_zero, List.setIfInBounds_toArray, List.set_cons_zero, List.set_cons_succ]
        refine wpAnyH_take (i := 3) (v := .pointer (some ⟨b, off + s, none⟩)) rfl (by kernel_rfl) (by kernel_rfl) (by kernel_rfl) (fun _ _ _ h => h) (Or.inl ⟨by rfl, fun W hW => by clear hW; go_simp⟩) H0.out ?_
        try simp only [Act.put, List.getElem_toArray, List.getElem_cons_succ, List.getElem_cons_zero, List.setIfInBounds_toArray, List.set_cons_zero, List.set_cons_succ]
        refine wpAnyH_take (i := 4) (v := .int .i64 x) rfl (by kernel_rfl) (by kernel_rfl) (by kernel_rfl) (fun _ _ _ h => h) (Or.inl ⟨by rfl, fun W hW => by have hc := (hW.bel.cell (p := ⟨b, off + s, none⟩) hb).trans hcw; clear hW; go_simp⟩) H0.out ?_
        try simp only [Act.put, List.getElem_toArray, List.getElem_cons_succ, List.getElem_cons_zero, List.setIfInBounds_toArray, List.set_cons_zero, List.set_cons_succ]
        refine wpAnyH_take (i := 5) (v := .agg p.arr) rfl (by kernel_rfl) (by kernel_rfl) (by kernel_rfl) (fun _ _ _ h => h) (yields_at 28 _ _ rfl (by rfl) rfl Try.underlying28 rfl SP.out (fun W hW => hW.get 0 rfl)) H0.out ?_
        try simp only [Act.put, List.getElem_toArray, List.getElem_cons_succ, List.getElem_cons_zero, List.setIfInBounds_toArray, List.set_cons_zero, List.set_cons_succ]
        refine wpAnyH_ready (rs := [6]) (by kernel_rfl) (by simp) ?_
        refine AllReadyH.cons rfl (fun K hK => ?_) AllReadyH.nil
        go_simp
        go_at_call 32
        refine (RM.out _).mono ?_
        rintro e V1_ ⟨rfl, hb1_⟩
        have H1_ := Lib.hid (H0.out.call hb1_)
        have hb1s := hb1_.size
        clear hb1_
        refine hK.out _ _ H1_.out (fun _ => ?_)
        clear hK K
        try simp only [Act.put, List.getElem_toArray, List.getElem_cons_succ, List.getElem_cons_zero, List.setIfInBounds_toArray, List.set_cons_zero, List.set_cons_succ]
        refine wpAnyH_take (i := 7) (v := .bool false) rfl (by kernel_rfl) (by kernel_rfl) (by kernel_rfl) (fun _ _ _ h => h) (Or.inl ⟨by rfl, fun W hW => by clear hW; go_simp⟩) H1_.out ?_
        try simp only [Act.put, List.getElem_toArray, List.getElem_cons_succ, List.getElem_cons_zero, List.setIfInBounds_toArray, List.set_cons_zero, List.set_cons_succ]
        refine wpAnyH_take (i := 8) (v := .bool false) rfl (by kernel_rfl) (by kernel_rfl) (by kernel_rfl) (fun _ _ _ h => h) (Or.inl ⟨by rfl, fun W hW => by clear hW; go_simp⟩) H1_.out ?_
        try simp only [Act.put, List.getElem_toArray, List.getElem_cons_succ, List.getElem_cons_zero, List.setIfInBounds_toArray, List.set_cons_zero, List.set_cons_succ]
        refine wpAnyH_done (by kernel_rfl) ?_ _
        have h8 := H1_.out
        have BT1 := Lib.hid (Nat.le_trans BT0.out hb1s)
        have E1 : Hid (X = ⟨M, ms.set s (x + 1), false, 0⟩) := by rw [E.out, if_pos hx2]; exact rfl
        have TL : Hid ((ms.set s (x + 1)).length = n) := by rw [List.length_set]; exact hlen
        have q6 : IntKind.i64.wrap (x + 1) = x + 1 := by simp [IntKind.wrap, IntKind.bits, IntKind.signed]; omega
        clear q3 E

        go_wp2
        go_loopw [12] (RnRel w p (some ⟨b, off, none⟩) M n c W1.heap.size W2.heap.size g10 base (ms.set s (x + 1))) (fun i _ => n - (intOf i).toNat)
        case atStart => exact ⟨0, none, 0, by omega, rfl, h8, IOwn.nil_ _ _, BT1.out⟩
        case round =>
          obtain ⟨j, A, c', hj, rfl, h9, hO, bs⟩ := hrel
          clear h8
          have hc3 := h9.cell 0 rfl 3 _ P3.out
          have d1 := h9.cell 1 rfl 1 (.slice (some ⟨b, off, none⟩) n c) rfl
          by_cases hlt : j < n
          · have hcj := (h9.bel.cell (p := ⟨b, off + j, none⟩) hb).trans (HCS.out j hlt)
            have g3 : ((j : Int) < (n : Int)) = True := eq_true (by omega)
            have yI : I64 (ms.getD j 0) := HR.out.lt j
            have TD := Lib.hid (take_getD (ms.set s (x + 1)) j (by rw [TL.out]; exact hlt))
            have l9 := (h9.get 3 rfl).lt
            have e1 := h9.cell 3 rfl 1 (.slice A j c') rfl
            by_cases hjs : j = s
            · subst hjs
              have q5 : ((j : Int) == (j : Int)) = true := by simp
              have tv : (ms.set j (x + 1)).getD j 0 = x + 1 := by rw [List.getD_eq_getElem?_getD, List.getElem?_set_self (by omega)]; rfl
              have TV := Lib.hid tv
              rw [HGX.out] at hcj yI
              clear tv
              go_wp2_with (first
                | (refine wpList_append_irow _ rfl _ _ rfl base A j c' _ rfl (hO.alloc _) _ _ 1 1 [(x + 1)] rfl (IRow.one wr (x + 1) (x + 1) rfl (by unfold I64 at *; omega)) (by omega) (by simp; omega) ?_; intro A' c2 W9 hO9 hg9 _; have h10 := ist_append (St.call h9 ((Below.refl _ _).alloc (Nat.le_refl _) _)) (hO.alloc _) (fun x hx => by simp at hx; obtain ⟨t1, t2, t3, t4⟩ := BS.out; rcases hx with rfl | rfl | rfl | rfl <;> assumption) (by have := BS.out.1; omega) hg9; clear d1 h9 hc3 hcj l9 e1)
                | (refine wpList_cell_st h10 3 rfl 29 _ _ rfl rfl 1 (.slice A' (j + 1) c2) rfl rfl (by simp) rfl rfl sz29 ?_; clear h10; intro W10 h11 hg10))
              go_roundw
              case rel =>
                refine ⟨j + 1, A', c2, by omega, by go_num, h11, ?_, ?_⟩
                · rw [TD.out, TV.out]
                  exact hO9.kept hg10 (by
                    by_cases e : (Value.slice A' (j + 1) c2).ownBlock = some g10
                    · exact absurd (hO9.2.2.lt _ e).1 (by have := BS.out.2.2.2; omega)
                    · exact .inr e)
                · have := hg9.size
                  have := hg10.size
                  simp at *
                  omega
              case measure => simp [intOf]; omega
            · have q5 : ((j : Int) == (s : Int)) = false := by simp; omega
              have tv : (ms.set s (x + 1)).getD j 0 = ms.getD j 0 := by rw [List.getD_eq_getElem?_getD, List.getElem?_set_ne (by omega), ← List.getD_eq_getElem?_getD]
              have TV := Lib.hid tv
              generalize ms.getD j 0 = y at *
              clear tv
              go_wp2_with (first
                | (refine wpList_append_irow _ rfl _ _ rfl base A j c' _ rfl (hO.alloc _) _ _ 1 1 [y] rfl (IRow.one wr y y rfl (by unfold I64 at *; omega)) (by omega) (by simp; omega) ?_; intro A' c2 W9 hO9 hg9 _; have h10 := ist_append (St.call h9 ((Below.refl _ _).alloc (Nat.le_refl _) _)) (hO.alloc _) (fun x hx => by simp at hx; obtain ⟨t1, t2, t3, t4⟩ := BS.out; rcases hx with rfl | rfl | rfl | rfl <;> assumption) (by have := BS.out.1; omega) hg9; clear d1 h9 hc3 hcj l9 e1)
                | (refine wpList_cell_st h10 3 rfl 29 _ _ rfl rfl 1 (.slice A' (j + 1) c2) rfl rfl (by simp) rfl rfl sz29 ?_; clear h10; intro W10 h11 hg10))
              go_roundw
              case rel =>
                refine ⟨j + 1, A', c2, by omega, by go_num, h11, ?_, ?_⟩
                · rw [TD.out, TV.out]
                  exact hO9.kept hg10 (by
                    by_cases e : (Value.slice A' (j + 1) c2).ownBlock = some g10
                    · exact absurd (hO9.2.2.lt _ e).1 (by have := BS.out.2.2.2; omega)
                    · exact .inr e)
                · have := hg9.size
                  have := hg10.size
                  simp at *
                  omega
              case measure => simp [intOf]; omega
          · obtain rfl : j = n := by omega
            have g3 : ¬ (j : Int) < (j : Int) := by omega
            have e9 : (ms.set s (x + 1)).take j = ms.set s (x + 1) := List.take_of_length_le (by rw [TL.out]; omega)
            rw [e9] at hO
            go_wp2_with (first
              | (refine wpList_load_st h9 3 rfl 31 _ _ rfl rfl rfl Try.underlying31 rfl sz31 ?_)
              | (refine wpList_store_st h9 2 rfl 31 _ _ rfl rfl rfl rfl sz31 rfl (cell2 _ _ _ _) ?_; clear h9 hc3 d1; intro W12 h12 hg12))
            refine bodyPost_ret (results_cell_tmp2 Try.results26 _ _ _ rfl _ ((h12.get 2 rfl).loadV 31 _ Try.underlying31 rfl sz31)) rfl ?_
            rw [E1.out]
            have hO12 := hO.kept hg12 (by
              by_cases e : (Value.slice A j c').ownBlock = some W2.heap.size
              · exact absurd (hO.2.2.lt _ e).1 (by have := BS.out.2.2.1; omega)
              · exact .inr e)
            have e8 : (ms.set s (x + 1)).length = j := TL.out
            exact ⟨_, _, by simp only [e8]; rfl, by simp only [e8]; exact hO12.row, h12.bel⟩

  · have E : Hid (nxt p M ms s = ⟨0, [], false, wrg p M ms⟩) := by unfold nxt; rw [if_pos hw]; exact rfl
    generalize nxt p M ms s = X at *
    generalize wrg p M ms = e0 at *
    have g1 : (e0 == 0) = false := by simpa using hw
    have g2 : (e0 != 0) = true := by simpa using hw
    go_enter Try.func26, Try.ntmps26
    go_wp2_with (first
      | (refine wpList_box_st h0 28 _ rfl rfl p.arr rfl ?_; clear h0; intro W1 h1 _ _)
      | (refine wpList_box_st h1 31 _ rfl rfl #[.int .u64 (M : Int), .slice A n c] rfl ?_; clear h1; intro W2 h2 _ _)
      | (refine wpList_alloc_st h2 31 rfl rfl _ #[.int .u64 0, .slice none 0 0] zv31 rfl ?_; clear h2; intro W3 h3 _ _)
      | (refine wpList_load_st h3 0 rfl 28 _ _ rfl rfl rfl Try.underlying28 rfl SP.out ?_)
      | (refine wpList_load_st h3 1 rfl 31 _ _ rfl rfl rfl Try.underlying31 rfl sz31 ?_)
      | (go_at_call 11; refine (C.out _ ((HR.out.below h3.bel).wider h3.bel.size)).mono ?_; rintro e W4 ⟨rfl, hb4⟩; have h4 := h3.call hb4; have c3 := PBlk.c3 (h4.get 0 rfl); have c6 := PBlk.c6 (h4.get 0 rfl); have d0 := h4.cell 1 rfl 0 (.int .u64 (M : Int)) rfl; clear h3 hb4)
      | (refine wpList_store_st h4 2 rfl 31 _ _ rfl rfl rfl rfl sz31 rfl (cell2 _ _ _ _) ?_; clear h4 c3 c6 d0; intro W5 h5 _))
    refine bodyPost_ret (results_cell_tmp2 Try.results26 _ _ _ rfl _ ((h5.get 2 rfl).loadV 31 _ Try.underlying31 rfl sz31)) rfl ?_
    rw [E.out]
    exact gives_none h5.bel
end Go.Proofs.Ytcepncdolbfcfaa
