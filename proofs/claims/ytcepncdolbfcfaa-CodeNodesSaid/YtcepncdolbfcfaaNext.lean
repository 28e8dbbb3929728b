/- The counters behind a write of a line, the program's. No statement is proved here. -/
import Derived.Test.YtcepncdolbfcfaaSameC
namespace Go.Proofs.Ytcepncdolbfcfaa
open Go.RowKit
set_option linter.unusedVariables false
set_option linter.unusedSimpArgs false
attribute [local irreducible] arrV shaped Ls right putN iarr

theorem iown_head {w : World} {base n c : Nat} {A : Option Addr} {xs : List Int} (h : IOwn w base A n c xs) (hn : 0 < n) : ∃ g, A = some ⟨g, 0, none⟩ := by
  rcases h.2.2.2 with ⟨_, h0⟩ | ⟨g, cap, cur, hv, _⟩
  · omega
  · injection hv with e; exact ⟨g, e⟩
theorem ivals_set (xs : List Int) (j : Nat) (b : Int) : ivals (xs.set j b) = (ivals xs).set j (.int .i64 b) := by simp [ivals, List.map_set]
theorem wpList_irow_set {ops : Array Oper} {rest : List Oper} {o : Oper} {a : Act} {W : World} {Q : Exit → Act → World → Prop} {base g n c : Nat} {xs : List Int} (hO : IOwn W base (some ⟨g, 0, none⟩) n c xs) (j : Nat) (hj : j < n) (v : Int) (hv : I64 v) (x y : Operand) (ho : o.op = .store 3 x y) (hw : Region.wanted o (yielded ops a.tmps) = true)
    (hx : a.eval x = .pointer (some ⟨g, j, none⟩)) (hy : a.eval y = .int .i64 v) (k : ∀ W', IOwn W' base (some ⟨g, 0, none⟩) n c (xs.set j v) → W.grownBy W' (some g) → wpList Try.prog ops Q rest (a.put o.dst undef) W') : wpList Try.prog ops Q (o :: rest) a W := by
  have hc := hO.2.2.cellAt j (by omega)
  rw [ivals_getElem? xs j (by rw [hO.1]; omega)] at hc
  have hf := hO.2.2.frozenAt j
  obtain ⟨h1, h2⟩ := hO.2.2.stored j (.int .i64 v)
  refine wpList_store_at (fun W' => IOwn W' base (some ⟨g, 0, none⟩) n c (xs.set j v) ∧ W.grownBy W' (some g)) x y ho hw hx hy rfl rfl sz3 (by rw [hc]; rfl) hf ⟨⟨by rw [List.length_set]; exact hO.1, fun u hu => ?_, by rw [ivals_set]; exact h1⟩, h2⟩ fun W' hW => k W' hW.1 hW.2
  rcases List.mem_or_eq_of_mem_set hu with hu | rfl
  · exact hO.2.1 u hu
  · exact hv
theorem St.apart {w W : World} {L : List (Nat × TypeId × Array Value)} {g : Nat} (h : St w W L) (hg : W.heap.size ≤ g) : ∀ x ∈ L, some g ≠ some x.1 := fun x hx e => by
  injection e with e
  have := (h.at_ x hx).lt
  omega
/-- What a write of a line gives: counters, whether all must be enciphered anew, a code. -/
structure Nx where
  M : Nat
  ms : List Int
  over : Bool
  code : Int
def nxt (p : Pl) (M : Nat) (ms : List Int) (s : Int) : Nx :=
  if wrg p M ms ≠ 0 then ⟨0, [], false, wrg p M ms⟩
  else if s < 0 ∨ p.li ≤ s then ⟨0, [], false, 2⟩
  else if ms.getD s.toNat 0 < mst p.mi.toNat then ⟨M, ms.set s.toNat (ms.getD s.toNat 0 + 1), false, 0⟩
  else if (M : Int) = p.ma then ⟨0, [], false, 21⟩ else ⟨M + 1, List.replicate ms.length 0, true, 0⟩
def GivesN (w : World) (x : Nx) (e : Ending) (w' : World) : Prop :=
  ∃ A c, e = .returned (.tuple #[.agg #[.int .u64 x.M, .slice A x.ms.length c], .bool x.over, .int .i64 x.code]) ∧ IRow w' w'.heap.size A x.ms.length c x.ms ∧ Below w.heap.size w w'
theorem gives_none {w W : World} {code : Int} (hb : Below w.heap.size w W) : GivesN w ⟨0, [], false, code⟩ (.returned (.tuple #[.agg #[.int .u64 0, .slice none 0 0], .bool false, .int .i64 code])) W :=
  ⟨none, 0, rfl, IRow.nil_ _ _, hb⟩
theorem wrg_good {p : Pl} {M : Nat} {ms : List Int} (h : wrg p M ms = 0) : ∃ n m : Nat, Good M n m ms ∧ p.li = (n : Int) ∧ p.mi = (m : Int) ∧ right p = true ∧ (M : Int) ≤ p.ma ∧ 1 ≤ n := by
  unfold wrg at h
  cases hp : right p
  · rw [hp] at h; simp at h
  · rw [hp] at h
    simp only [if_true] at h
    by_cases hc : (M : Int) ≤ p.ma ∧ (ms.length : Int) = p.li ∧ ms.any (bad (mst p.mi.toNat)) = false
    · obtain ⟨h1, h2, h3⟩ := hc
      have hmi := right_mi hp
      have hli := right_li hp
      have hma := right_ma hp
      refine ⟨ms.length, p.mi.toNat, ⟨by omega, rfl, by omega, by omega, by omega, fun j hj => ?_⟩, h2.symm, by omega, rfl, h1, by omega⟩
      rw [List.any_eq_false] at h3
      have := h3 ms[j] (List.getElem_mem hj)
      rw [List.getD_eq_getElem?_getD, List.getElem?_eq_getElem hj]
      simp only [Option.getD_some]
      simp [bad] at this
      omega
    · rw [if_neg hc] at h; omega
set_option maxHeartbeats 4000000 in
set_option maxRecDepth 20000 in
theorem next_any (p : Pl) (M : Nat) (A : Option Addr) (n c : Nat) (ms : List Int) (s : Int) (w : World) (hr : IRow w w.heap.size A n c ms) (hn : n ≤ 60) :
    Calls Try.prog 25 #[.agg p.arr, .agg #[.int .u64 M, .slice A n c], .int .i64 s] w (GivesN w (nxt p M ms s)) := by
  have C := Lib.hid (fun W h => codeCheck_any p M A n c ms W h hn)
  have SP := Lib.hid (show (Try.prog.info? 28).map (·.size) = some p.arr.size by rw [p.arr_size]; exact sz28)
  have HR := Lib.hid hr
  have hlen := hr.len
  have h0 := St.nil w
  clear hr
  by_cases hw : wrg p M ms = 0
  · obtain ⟨n', m, hg, hp3, hp5, hpr, hM, hn1⟩ := wrg_good hw
    obtain rfl : n = n' := by have := hg.len; omega
    have p3 : p.arr[3]? = some (.int .i64 (n : Int)) := by rw [p.at3, hp3]
    have P3 := Lib.hid p3
    rw [hw] at C
    by_cases hs : s < 0 ∨ p.li ≤ s
    · have E : Hid (nxt p M ms s = ⟨0, [], false, 2⟩) := by unfold nxt; rw [if_neg (by rw [hw]; simp), if_pos hs]; exact rfl
      generalize nxt p M ms s = X at *
      clear hw hg p3 hpr hM
      rcases hs with hs | hs
      · go_enter Try.func25, Try.ntmps25
        go_wp2_with (first
          | (refine wpList_box_st h0 28 _ rfl rfl p.arr rfl ?_; clear h0; intro W1 h1 _ _)
          | (refine wpList_box_st h1 31 _ rfl rfl #[.int .u64 (M : Int), .slice A n c] rfl ?_; clear h1; intro W2 h2 _ _)
          | (refine wpList_alloc_st h2 31 rfl rfl _ #[.int .u64 0, .slice none 0 0] zv31 rfl ?_; clear h2; intro W3 h3 _ _)
          | (refine wpList_load_st h3 0 rfl 28 _ _ rfl rfl rfl Try.underlying28 rfl SP.out ?_)
          | (refine wpList_load_st h3 1 rfl 31 _ _ rfl rfl rfl Try.underlying31 rfl sz31 ?_)
          | (go_at_call 28; refine (C.out _ ((HR.out.below h3.bel).wider h3.bel.size)).mono ?_; rintro e W4 ⟨rfl, hb4⟩; have h4 := h3.call hb4; have c3 := PBlk.c3 (h4.get 0 rfl); have c6 := PBlk.c6 (h4.get 0 rfl); have d0 := h4.cell 1 rfl 0 (.int .u64 (M : Int)) rfl; clear h3 hb4)
          | (refine wpList_store_st h4 2 rfl 31 _ _ rfl rfl rfl rfl sz31 rfl (cell2 _ _ _ _) ?_; clear h4 c3 c6 d0; intro W5 h5 _))
        refine bodyPost_ret (results_cell_tmp2 Try.results25 _ _ _ rfl _ ((h5.get 2 rfl).loadV 31 _ Try.underlying31 rfl sz31)) rfl ?_
        rw [E.out]
        exact gives_none h5.bel
      · have g0 : ¬ s < 0 := by omega
        go_enter Try.func25, Try.ntmps25
        go_wp2_with (first
          | (refine wpList_box_st h0 28 _ rfl rfl p.arr rfl ?_; clear h0; intro W1 h1 _ _)
          | (refine wpList_box_st h1 31 _ rfl rfl #[.int .u64 (M : Int), .slice A n c] rfl ?_; clear h1; intro W2 h2 _ _)
          | (refine wpList_alloc_st h2 31 rfl rfl _ #[.int .u64 0, .slice none 0 0] zv31 rfl ?_; clear h2; intro W3 h3 _ _)
          | (refine wpList_load_st h3 0 rfl 28 _ _ rfl rfl rfl Try.underlying28 rfl SP.out ?_)
          | (refine wpList_load_st h3 1 rfl 31 _ _ rfl rfl rfl Try.underlying31 rfl sz31 ?_)
          | (go_at_call 28; refine (C.out _ ((HR.out.below h3.bel).wider h3.bel.size)).mono ?_; rintro e W4 ⟨rfl, hb4⟩; have h4 := h3.call hb4; have c3 := PBlk.c3 (h4.get 0 rfl); have c6 := PBlk.c6 (h4.get 0 rfl); have d0 := h4.cell 1 rfl 0 (.int .u64 (M : Int)) rfl; clear h3 hb4)
          | (refine wpList_store_st h4 2 rfl 31 _ _ rfl rfl rfl rfl sz31 rfl (cell2 _ _ _ _) ?_; clear h4 c3 c6 d0; intro W5 h5 _))
        refine bodyPost_ret (results_cell_tmp2 Try.results25 _ _ _ rfl _ ((h5.get 2 rfl).loadV 31 _ Try.underlying31 rfl sz31)) rfl ?_
        rw [E.out]
        exact gives_none h5.bel
    · obtain ⟨s, rfl⟩ : ∃ k : Nat, s = (k : Int) := ⟨s.toNat, by omega⟩
      have hsn : s < n := by omega
      have MM := Lib.hid (fun W => mostMinor_any p m hp5 hg.m8 W)
      obtain ⟨b, off, rfl, hb, hcs⟩ := HR.out.at_ (by omega)
      have hcw := hcs s hsn
      obtain ⟨x1, x2⟩ := hg.mn s hsn
      have m255 := (mst_bd m hg.m8).2
      have CL := Lib.hid (fun W h => cloneI_any (some ⟨b, off, none⟩) n c ms W h (by omega) hn)
      have I6 := Lib.hid (fun x hx => HR.out.2.1 x hx)
      have E : Hid (nxt p M ms (s : Int) = if ms.getD s 0 < mst m then ⟨M, ms.set s (ms.getD s 0 + 1), false, 0⟩ else if (M : Int) = p.ma then ⟨0, [], false, 21⟩ else ⟨M + 1, List.replicate n 0, true, 0⟩) := by
        unfold nxt; rw [if_neg (by rw [hw]; simp), if_neg hs, hp5, Int.toNat_natCast, Int.toNat_natCast, hlen]; exact rfl
      generalize nxt p M ms (s : Int) = X at *
      have hma := right_ma hpr
      generalize hgx : ms.getD s 0 = x at *
      generalize mst m = mk at *
      clear hw hg hpr hcs p3
      have g0 : ¬ (s : Int) < 0 := by omega
      have g1 : ¬ p.li ≤ (s : Int) := by omega
      by_cases hx : x < mk
      · have E1 : Hid (X = ⟨M, ms.set s (x + 1), false, 0⟩) := by rw [E.out, if_pos hx]; exact rfl
        have q0 : (x < mk) = True := eq_true hx
        have q1 : IntKind.i64.wrap (x + 1) = x + 1 := by simp [IntKind.wrap, IntKind.bits, IntKind.signed]; omega
        clear E hx hp3
        have HGX := Lib.hid hgx
        clear hgx
        go_enter Try.func25, Try.ntmps25
        go_wp2_with (first
          | (refine wpList_box_st h0 28 _ rfl rfl p.arr rfl ?_; clear h0; intro W1 h1 _ _)
          | (refine wpList_box_st h1 31 _ rfl rfl #[.int .u64 (M : Int), .slice (some ⟨b, off, none⟩) n c] rfl ?_; clear h1; intro W2 h2 _ _)
          | (refine wpList_alloc_st h2 31 rfl rfl _ #[.int .u64 0, .slice none 0 0] zv31 rfl ?_; clear h2; intro W3 h3 _ _)
          | (refine wpList_load_st h3 0 rfl 28 _ _ rfl rfl rfl Try.underlying28 rfl SP.out ?_)
          | (refine wpList_load_st h3 1 rfl 31 _ _ rfl rfl rfl Try.underlying31 rfl sz31 ?_)
          | (go_at_call 28; refine (C.out _ ((HR.out.below h3.bel).wider h3.bel.size)).mono ?_; rintro e W4 ⟨rfl, hb4⟩; have h4 := h3.call hb4; have c3 := PBlk.c3 (h4.get 0 rfl); have c6 := PBlk.c6 (h4.get 0 rfl); have d0 := h4.cell 1 rfl 0 (.int .u64 (M : Int)) rfl; clear h3 hb4)
          | (refine wpList_store_st h4 2 rfl 31 _ _ rfl rfl rfl rfl sz31 rfl (cell2 _ _ _ _) ?_; clear h4 c3 c6 d0; intro W5 h5 _))
        have H0 := Lib.hid h4.drew
        refine wp_region_held_drew (S := fun W => St w W [(w.heap.size, 28, p.arr), (W1.heap.size, 31, #[.int .u64 (M : Int), .slice (some ⟨b, off, none⟩) n c]), (W2.heap.size, 31, #[.int .u64 0, .slice none 0 0])]) (by kernel_rfl) H0.out (fun _ => ?_)
        generalize W4.drew = V0 at *
        clear h4 c3 c6 d0
        refine wpAnyH_take (i := 0) (v := .pointer (some ⟨W1.heap.size, 1, none⟩)) rfl (by kernel_rfl) (by kernel_rfl) (by kernel_rfl) (fun _ _ _ h => h) (Or.inl ⟨by rfl, fun W hW => by clear hW; go_simp⟩) H0.out ?_
        try simp only [Act.put, List.getElem_toArray, List.getElem_cons_succ, List.getElem_cons_zero, List.setIfInBounds_toArray, List.set_cons_zero, List.set_cons_succ]
        refine wpAnyH_take (i := 1) (v := .slice (some ⟨b, off, none⟩) n c) rfl (by kernel_rfl) (by kernel_rfl) (by kernel_rfl) (fun _ _ _ h => h) (Or.inl ⟨by rfl, fun W hW => by have hc := hW.cell 1 rfl 1 (.slice (some ⟨b, off, none⟩) n c) rfl; clear hW; go_simp⟩) H0.out ?_
        try simp only [Act.put, List.getElem_toArray, List.getElem_cons_succ, List.getElem_cons_zero, List.setIfInBounds_toArray, List.set_cons_zero, List.set_cons_succ]
        refine wpAnyH_take (i := 2) (v := .int .i64 (s : Int)) rfl (by kernel_rfl) (by kernel_rfl) (by kernel_rfl) (fun _ _ _ h => h) (Or.inl ⟨by rfl, fun W hW => by clear hW; go_simp⟩) H0.out ?_
        try simp only [Act.put, List.getElem_toArray, List.getElem_cons_succ, List.getElem_cons_zero, List.setIfInBounds_toArray, List.set_cons_zero, List.set_cons_succ]
        refine wpAnyH_take (i := 3) (v := .pointer (some ⟨b, off + s, none⟩)) rfl (by kernel_rfl) (by kernel_rfl) (by kernel_rfl) (fun _ _ _ h => h) (Or.inl ⟨by rfl, fun W hW => by clear hW; go_simp⟩) H0.out ?_
        try simp only [Act.put, List.getElem_toArray, List.getElem_cons_succ, List.getElem_cons_zero, List.setIfInBounds_toArray, List.set_cons_zero, List.set_cons_succ]
        refine wpAnyH_take (i := 4) (v := .int .i64 x) rfl (by kernel_rfl) (by kernel_rfl) (by kernel_rfl) (fun _ _ _ h => h) (Or.inl ⟨by rfl, fun W hW => by have hc := (hW.bel.cell (p := ⟨b, off + s, none⟩) hb).trans hcw; clear hW; go_simp⟩) H0.out ?_
        try simp only [Act.put, List.getElem_toArray, List.getElem_cons_succ, List.getElem_cons_zero, List.setIfInBounds_toArray, List.set_cons_zero, List.set_cons_succ]
        refine wpAnyH_take (i := 5) (v := .agg p.arr) rfl (by kernel_rfl) (by kernel_rfl) (by kernel_rfl) (fun _ _ _ h => h) (yields_at 28 _ _ rfl (by rfl) rfl Try.underlying28 rfl SP.out (fun W hW => hW.get 0 rfl)) H0.out ?_
        try simp only [Act.put, List.getElem_toArray, List.getElem_cons_succ, List.getElem_cons_zero, List.setIfInBounds_toArray, List.set_cons_zero, List.set_cons_succ]
        refine wpAnyH_ready (rs := [6]) (by kernel_rfl) (by simp) ?_
        refine AllReadyH.cons rfl (fun K hK => ?_) AllReadyH.nil
        go_simp
        go_at_call 44
        refine (MM.out _).mono ?_
        rintro e V1_ ⟨rfl, hb1_⟩
        have H1_ := Lib.hid (H0.out.call hb1_)
        clear hb1_
        refine hK.out _ _ H1_.out (fun _ => ?_)
        clear hK K
        try simp only [Act.put, List.getElem_toArray, List.getElem_cons_succ, List.getElem_cons_zero, List.setIfInBounds_toArray, List.set_cons_zero, List.set_cons_succ]
        refine wpAnyH_take (i := 7) (v := .bool true) rfl (by kernel_rfl) (by kernel_rfl) (by kernel_rfl) (fun _ _ _ h => h) (Or.inl ⟨by rfl, fun W hW => by clear hW; go_simp⟩) H1_.out ?_
        try simp only [Act.put, List.getElem_toArray, List.getElem_cons_succ, List.getElem_cons_zero, List.setIfInBounds_toArray, List.set_cons_zero, List.set_cons_succ]
        refine wpAnyH_take (i := 8) (v := .bool true) rfl (by kernel_rfl) (by kernel_rfl) (by kernel_rfl) (fun _ _ _ h => h) (Or.inl ⟨by rfl, fun W hW => by clear hW; go_simp⟩) H1_.out ?_
        try simp only [Act.put, List.getElem_toArray, List.getElem_cons_succ, List.getElem_cons_zero, List.setIfInBounds_toArray, List.set_cons_zero, List.set_cons_succ]
        refine wpAnyH_done (by kernel_rfl) ?_ _
        have h5 := H1_.out
        have d1 := h5.cell 1 rfl 1 (.slice (some ⟨b, off, none⟩) n c) rfl
        clear q0
        have l0 := (H1_.out.get 0 rfl).lt
        have l1 := (H1_.out.get 1 rfl).lt
        have l2 := (H1_.out.get 2 rfl).lt
        have w0 := H1_.out.bel.size
        go_wp2_with (first
          | (go_at_call 45; refine (CL.out _ ((HR.out.below h5.bel).wider h5.bel.size)).mono ?_; intro e W6 hG; obtain ⟨A6, c6, rfl, hO6, hb6⟩ := GivesIRow.out (N := n) hG hlen; have h6 := h5.call hb6; have d0 := h6.cell 1 rfl 0 (.int .u64 (M : Int)) rfl; obtain ⟨g, rfl⟩ := iown_head hO6 (by omega); have hgl := (hO6.2.2.lt g rfl).1; have hk6 := hO6.2.2.cellAt s (by omega); rw [ivals_getElem? ms s (by omega), HGX.out] at hk6; clear h5 d1 hG hb6 CL d0)
          | (refine wpList_irow_set hO6 s hsn (x + 1) (by unfold I64; omega) _ _ rfl rfl rfl rfl ?_; intro W7 hO7 hg7; have h7 := h6.grown hg7 (St.apart H1_.out hgl) (fun k hk => by injection hk with hk; omega); have d0 := h7.cell 1 rfl 0 (.int .u64 (M : Int)) rfl; clear hO6 h6 hk6)
          | (refine wpList_store_st h7 2 rfl 31 _ _ rfl rfl rfl rfl sz31 rfl (cell2 _ _ _ _) ?_; clear h7 d0; intro W8 h8 hg8))
        refine bodyPost_ret (results_cell_tmp2 Try.results25 _ _ _ rfl _ ((h8.get 2 rfl).loadV 31 _ Try.underlying31 rfl sz31)) rfl ?_
        rw [E1.out]
        have hO8 := hO7.kept hg8 (.inr (fun e => by injection e with e; simp only at e; omega))
        have e8 : (ms.set s (x + 1)).length = n := by rw [List.length_set]; exact hlen
        exact ⟨_, _, by simp only [e8]; rfl, by simp only [e8]; exact hO8.row, h8.bel⟩
      · have q0 : (x < mk) = False := eq_false hx
        have q3 : ((x : Int) == mk) = true := by simp; omega
        have HGX := Lib.hid hgx
        clear hgx hp3
        by_cases hM2 : (M : Int) = p.ma
        · have E1 : Hid (X = ⟨0, [], false, 21⟩) := by rw [E.out, if_neg hx, if_pos hM2]; exact rfl
          have q2 : ((M : Int) == p.ma) = true := by simpa using hM2
          have HM2 := Lib.hid hM2
          clear E hx hM2
          go_enter Try.func25, Try.ntmps25
          go_wp2_with (first
            | (refine wpList_box_st h0 28 _ rfl rfl p.arr rfl ?_; clear h0; intro W1 h1 _ _)
            | (refine wpList_box_st h1 31 _ rfl rfl #[.int .u64 (M : Int), .slice (some ⟨b, off, none⟩) n c] rfl ?_; clear h1; intro W2 h2 _ _)
            | (refine wpList_alloc_st h2 31 rfl rfl _ #[.int .u64 0, .slice none 0 0] zv31 rfl ?_; clear h2; intro W3 h3 _ _)
            | (refine wpList_load_st h3 0 rfl 28 _ _ rfl rfl rfl Try.underlying28 rfl SP.out ?_)
            | (refine wpList_load_st h3 1 rfl 31 _ _ rfl rfl rfl Try.underlying31 rfl sz31 ?_)
            | (go_at_call 28; refine (C.out _ ((HR.out.below h3.bel).wider h3.bel.size)).mono ?_; rintro e W4 ⟨rfl, hb4⟩; have h4 := h3.call hb4; have c3 := PBlk.c3 (h4.get 0 rfl); have c6 := PBlk.c6 (h4.get 0 rfl); have d0 := h4.cell 1 rfl 0 (.int .u64 (M : Int)) rfl; clear h3 hb4)
            | (refine wpList_store_st h4 2 rfl 31 _ _ rfl rfl rfl rfl sz31 rfl (cell2 _ _ _ _) ?_; clear h4 c3 c6 d0; intro W5 h5 _))
          have H0 := Lib.hid h4.drew
          refine wp_region_held_drew (S := fun W => St w W [(w.heap.size, 28, p.arr), (W1.heap.size, 31, #[.int .u64 (M : Int), .slice (some ⟨b, off, none⟩) n c]), (W2.heap.size, 31, #[.int .u64 0, .slice none 0 0])]) (by kernel_rfl) H0.out (fun _ => ?_)
          generalize W4.drew = V0 at *
          clear h4 c3 c6 d0
          refine wpAnyH_take (i := 0) (v := .pointer (some ⟨W1.heap.size, 1, none⟩)) rfl (by kernel_rfl) (by kernel_rfl) (by kernel_rfl) (fun _ _ _ h => h) (Or.inl ⟨by rfl, fun W hW => by clear hW; go_simp⟩) H0.out ?_
          try simp only [Act.put, List.getElem_toArray, List.getElem_cons_succ, List.getElem_cons_zero, List.setIfInBounds_toArray, List.set_cons_zero, List.set_cons_succ]
          refine wpAnyH_take (i := 1) (v := .slice (some ⟨b, off, none⟩) n c) rfl (by kernel_rfl) (by kernel_rfl) (by kernel_rfl) (fun _ _ _ h => h) (Or.inl ⟨by rfl, fun W hW => by have hc := hW.cell 1 rfl 1 (.slice (some ⟨b, off, none⟩) n c) rfl; clear hW; go_simp⟩) H0.out ?_
          try simp only [Act.put, List.getElem_toArray, List.getElem_cons_succ, List.getElem_cons_zero, List.setIfInBounds_toArray, List.set_cons_zero, List.set_cons_succ]
          refine wpAnyH_take (i := 2) (v := .int .i64 (s : Int)) rfl (by kernel_rfl) (by kernel_rfl) (by kernel_rfl) (fun _ _ _ h => h) (Or.inl ⟨by rfl, fun W hW => by clear hW; go_simp⟩) H0.out ?_
          try simp only [Act.put, List.getElem_toArray, List.getElem_cons_succ, List.getElem_cons_zero, List.setIfInBounds_toArray, List.set_cons_zero, List.set_cons_succ]
          refine wpAnyH_take (i := 3) (v := .pointer (some ⟨b, off + s, none⟩)) rfl (by kernel_rfl) (by kernel_rfl) (by kernel_rfl) (fun _ _ _ h => h) (Or.inl ⟨by rfl, fun W hW => by clear hW; go_simp⟩) H0.out ?_
          try simp only [Act.put, List.getElem_toArray, List.getElem_cons_succ, List.getElem_cons_zero, List.setIfInBounds_toArray, List.set_cons_zero, List.set_cons_succ]
          refine wpAnyH_take (i := 4) (v := .int .i64 x) rfl (by kernel_rfl) (by kernel_rfl) (by kernel_rfl) (fun _ _ _ h => h) (Or.inl ⟨by rfl, fun W hW => by have hc := (hW.bel.cell (p := ⟨b, off + s, none⟩) hb).trans hcw; clear hW; go_simp⟩) H0.out ?_
          try simp only [Act.put, List.getElem_toArray, List.getElem_cons_succ, List.getElem_cons_zero, List.setIfInBounds_toArray, List.set_cons_zero, List.set_cons_succ]
          refine wpAnyH_take (i := 5) (v := .agg p.arr) rfl (by kernel_rfl) (by kernel_rfl) (by kernel_rfl) (fun _ _ _ h => h) (yields_at 28 _ _ rfl (by rfl) rfl Try.underlying28 rfl SP.out (fun W hW => hW.get 0 rfl)) H0.out ?_
          try simp only [Act.put, List.getElem_toArray, List.getElem_cons_succ, List.getElem_cons_zero, List.setIfInBounds_toArray, List.set_cons_zero, List.set_cons_succ]
          refine wpAnyH_ready (rs := [6]) (by kernel_rfl) (by simp) ?_
          refine AllReadyH.cons rfl (fun K hK => ?_) AllReadyH.nil
          go_simp
          go_at_call 44
          refine (MM.out _).mono ?_
          rintro e V1_ ⟨rfl, hb1_⟩
          have H1_ := Lib.hid (H0.out.call hb1_)
          clear hb1_
          refine hK.out _ _ H1_.out (fun _ => ?_)
          clear hK K
          try simp only [Act.put, List.getElem_toArray, List.getElem_cons_succ, List.getElem_cons_zero, List.setIfInBounds_toArray, List.set_cons_zero, List.set_cons_succ]
          refine wpAnyH_take (i := 7) (v := .bool false) rfl (by kernel_rfl) (by kernel_rfl) (by kernel_rfl) (fun _ _ _ h => h) (Or.inl ⟨by rfl, fun W hW => by clear hW; go_simp⟩) H1_.out ?_
          try simp only [Act.put, List.getElem_toArray, List.getElem_cons_succ, List.getElem_cons_zero, List.setIfInBounds_toArray, List.set_cons_zero, List.set_cons_succ]
          refine wpAnyH_take (i := 8) (v := .bool false) rfl (by kernel_rfl) (by kernel_rfl) (by kernel_rfl) (fun _ _ _ h => h) (Or.inl ⟨by rfl, fun W hW => by clear hW; go_simp⟩) H1_.out ?_
          try simp only [Act.put, List.getElem_toArray, List.getElem_cons_succ, List.getElem_cons_zero, List.setIfInBounds_toArray, List.set_cons_zero, List.set_cons_succ]
          refine wpAnyH_done (by kernel_rfl) ?_ _
          have h5 := H1_.out
          have d0 := h5.cell 1 rfl 0 (.int .u64 (M : Int)) rfl
          have c6 := PBlk.c6 (h5.get 0 rfl)
          go_wp2_with (refine wpList_store_st h5 2 rfl 31 _ _ rfl rfl rfl rfl sz31 rfl (cell2 _ _ _ _) ?_; clear h5 d0 c6; intro W8 h8 hg8)
          refine bodyPost_ret (results_cell_tmp2 Try.results25 _ _ _ rfl _ ((h8.get 2 rfl).loadV 31 _ Try.underlying31 rfl sz31)) rfl ?_
          rw [E1.out]
          exact gives_none h8.bel
        · have E1 : Hid (X = ⟨M + 1, List.replicate n 0, true, 0⟩) := by rw [E.out, if_neg hx, if_neg hM2]; exact rfl
          have q2 : ((M : Int) == p.ma) = false := by simpa using hM2
          have q4 : IntKind.u64.wrap ((M : Int) + 1) = ((M + 1 : Nat) : Int) := by simp [IntKind.wrap, IntKind.bits, IntKind.signed]; omega
          clear E hx hM2
          go_enter Try.func25, Try.ntmps25
          go_wp2_with (first
            | (refine wpList_box_st h0 28 _ rfl rfl p.arr rfl ?_; clear h0; intro W1 h1 _ _)
            | (refine wpList_box_st h1 31 _ rfl rfl #[.int .u64 (M : Int), .slice (some ⟨b, off, none⟩) n c] rfl ?_; clear h1; intro W2 h2 _ _)
            | (refine wpList_alloc_st h2 31 rfl rfl _ #[.int .u64 0, .slice none 0 0] zv31 rfl ?_; clear h2; intro W3 h3 _ _)
            | (refine wpList_load_st h3 0 rfl 28 _ _ rfl rfl rfl Try.underlying28 rfl SP.out ?_)
            | (refine wpList_load_st h3 1 rfl 31 _ _ rfl rfl rfl Try.underlying31 rfl sz31 ?_)
            | (go_at_call 28; refine (C.out _ ((HR.out.below h3.bel).wider h3.bel.size)).mono ?_; rintro e W4 ⟨rfl, hb4⟩; have h4 := h3.call hb4; have c3 := PBlk.c3 (h4.get 0 rfl); have c6 := PBlk.c6 (h4.get 0 rfl); have d0 := h4.cell 1 rfl 0 (.int .u64 (M : Int)) rfl; clear h3 hb4)
            | (refine wpList_store_st h4 2 rfl 31 _ _ rfl rfl rfl rfl sz31 rfl (cell2 _ _ _ _) ?_; clear h4 c3 c6 d0; intro W5 h5 _))
          have H0 := Lib.hid h4.drew
          refine wp_region_held_drew (S := fun W => St w W [(w.heap.size, 28, p.arr), (W1.heap.size, 31, #[.int .u64 (M : Int), .slice (some ⟨b, off, none⟩) n c]), (W2.heap.size, 31, #[.int .u64 0, .slice none 0 0])]) (by kernel_rfl) H0.out (fun _ => ?_)
          generalize W4.drew = V0 at *
          clear h4 c3 c6 d0
          refine wpAnyH_take (i := 0) (v := .pointer (some ⟨W1.heap.size, 1, none⟩)) rfl (by kernel_rfl) (by kernel_rfl) (by kernel_rfl) (fun _ _ _ h => h) (Or.inl ⟨by rfl, fun W hW => by clear hW; go_simp⟩) H0.out ?_
          try simp only [Act.put, List.getElem_toArray, List.getElem_cons_succ, List.getElem_cons_zero, List.setIfInBounds_toArray, List.set_cons_zero, List.set_cons_succ]
          refine wpAnyH_take (i := 1) (v := .slice (some ⟨b, off, none⟩) n c) rfl (by kernel_rfl) (by kernel_rfl) (by kernel_rfl) (fun _ _ _ h => h) (Or.inl ⟨by rfl, fun W hW => by have hc := hW.cell 1 rfl 1 (.slice (some ⟨b, off, none⟩) n c) rfl; clear hW; go_simp⟩) H0.out ?_
          try simp only [Act.put, List.getElem_toArray, List.getElem_cons_succ, List.getElem_cons_zero, List.setIfInBounds_toArray, List.set_cons_zero, List.set_cons_succ]
          refine wpAnyH_take (i := 2) (v := .int .i64 (s : Int)) rfl (by kernel_rfl) (by kernel_rfl) (by kernel_rfl) (fun _ _ _ h => h) (Or.inl ⟨by rfl, fun W hW => by clear hW; go_simp⟩) H0.out ?_
          try simp only [Act.put, List.getElem_toArray, List.getElem_cons_succ, List.getElem_cons_zero, List.setIfInBounds_toArray, List.set_cons_zero, List.set_cons_succ]
          refine wpAnyH_take (i := 3) (v := .pointer (some ⟨b, off + s, none⟩)) rfl (by kernel_rfl) (by kernel_rfl) (by kernel_rfl) (fun _ _ _ h => h) (Or.inl ⟨by rfl, fun W hW => by clear hW; go_simp⟩) H0.out ?_
          try simp only [Act.put, List.getElem_toArray, List.getElem_cons_succ, List.getElem_cons_zero, List.setIfInBounds_toArray, List.set_cons_zero, List.set_cons_succ]
          refine wpAnyH_take (i := 4) (v := .int .i64 x) rfl (by kernel_rfl) (by kernel_rfl) (by kernel_rfl) (fun _ _ _ h => h) (Or.inl ⟨by rfl, fun W hW => by have hc := (hW.bel.cell (p := ⟨b, off + s, none⟩) hb).trans hcw; clear hW; go_simp⟩) H0.out ?_
          try simp only [Act.put, List.getElem_toArray, List.getElem_cons_succ, List.getElem_cons_zero, List.setIfInBounds_toArray, List.set_cons_zero, List.set_cons_succ]
          refine wpAnyH_take (i := 5) (v := .agg p.arr) rfl (by kernel_rfl) (by kernel_rfl) (by kernel_rfl) (fun _ _ _ h => h) (yields_at 28 _ _ rfl (by rfl) rfl Try.underlying28 rfl SP.out (fun W hW => hW.get 0 rfl)) H0.out ?_
          try simp only [Act.put, List.getElem_toArray, List.getElem_cons_succ, List.getElem_cons_zero, List.setIfInBounds_toArray, List.set_cons_zero, List.set_cons_succ]
          refine wpAnyH_ready (rs := [6]) (by kernel_rfl) (by simp) ?_
          refine AllReadyH.cons rfl (fun K hK => ?_) AllReadyH.nil
          go_simp
          go_at_call 44
          refine (MM.out _).mono ?_
          rintro e V1_ ⟨rfl, hb1_⟩
          have H1_ := Lib.hid (H0.out.call hb1_)
          clear hb1_
          refine hK.out _ _ H1_.out (fun _ => ?_)
          clear hK K
          try simp only [Act.put, List.getElem_toArray, List.getElem_cons_succ, List.getElem_cons_zero, List.setIfInBounds_toArray, List.set_cons_zero, List.set_cons_succ]
          refine wpAnyH_take (i := 7) (v := .bool false) rfl (by kernel_rfl) (by kernel_rfl) (by kernel_rfl) (fun _ _ _ h => h) (Or.inl ⟨by rfl, fun W hW => by clear hW; go_simp⟩) H1_.out ?_
          try simp only [Act.put, List.getElem_toArray, List.getElem_cons_succ, List.getElem_cons_zero, List.setIfInBounds_toArray, List.set_cons_zero, List.set_cons_succ]
          refine wpAnyH_take (i := 8) (v := .bool false) rfl (by kernel_rfl) (by kernel_rfl) (by kernel_rfl) (fun _ _ _ h => h) (Or.inl ⟨by rfl, fun W hW => by clear hW; go_simp⟩) H1_.out ?_
          try simp only [Act.put, List.getElem_toArray, List.getElem_cons_succ, List.getElem_cons_zero, List.setIfInBounds_toArray, List.set_cons_zero, List.set_cons_succ]
          refine wpAnyH_done (by kernel_rfl) ?_ _
          have h5 := H1_.out
          have d0 := h5.cell 1 rfl 0 (.int .u64 (M : Int)) rfl
          have c6 := PBlk.c6 (h5.get 0 rfl)
          go_wp2
          have HF := h5.drew
          have H1 : St w V1_.drew [(w.heap.size, 28, p.arr), (W1.heap.size, 31, #[.int .u64 (M : Int), .slice (some ⟨b, off, none⟩) n c])] := HF.sub (by exact List.sublist_append_left _ _)
          have p3 := P3.out
          refine wp_region_held_drew (S := fun W => St w W [(w.heap.size, 28, p.arr), (W1.heap.size, 31, #[.int .u64 (M : Int), .slice (some ⟨b, off, none⟩) n c])]) (by kernel_rfl) H1 (fun _ => ?_)
          clear H0 d0 c6
          generalize V1_.drew = V0 at *
          clear h5
          refine wpAnyH_take (i := 0) (v := .pointer (some ⟨W1.heap.size, 0, none⟩)) rfl (by kernel_rfl) (by kernel_rfl) (by kernel_rfl) (fun _ _ _ h => h) (Or.inl ⟨by rfl, fun W hW => by clear hW; go_simp⟩) (H1) ?_
          try simp only [Act.put, List.getElem_toArray, List.getElem_cons_succ, List.getElem_cons_zero, List.setIfInBounds_toArray, List.set_cons_zero, List.set_cons_succ]
          refine wpAnyH_take (i := 1) (v := .int .u64 (M : Int)) rfl (by kernel_rfl) (by kernel_rfl) (by kernel_rfl) (fun _ _ _ h => h) (Or.inl ⟨by rfl, fun W hW => by have hc := hW.cell 1 rfl 0 (.int .u64 (M : Int)) rfl; clear hW; go_simp⟩) (H1) ?_
          try simp only [Act.put, List.getElem_toArray, List.getElem_cons_succ, List.getElem_cons_zero, List.setIfInBounds_toArray, List.set_cons_zero, List.set_cons_succ]
          refine wpAnyH_take (i := 2) (v := .int .u64 ((M + 1 : Nat) : Int)) rfl (by kernel_rfl) (by kernel_rfl) (by kernel_rfl) (fun _ _ _ h => h) (Or.inl ⟨by rfl, fun W hW => by clear hW; go_simp⟩) (H1) ?_
          try simp only [Act.put, List.getElem_toArray, List.getElem_cons_succ, List.getElem_cons_zero, List.setIfInBounds_toArray, List.set_cons_zero, List.set_cons_succ]
          refine wpAnyH_take (i := 3) (v := .pointer (some ⟨w.heap.size, 3, none⟩)) rfl (by kernel_rfl) (by kernel_rfl) (by kernel_rfl) (fun _ _ _ h => h) (Or.inl ⟨by rfl, fun W hW => by clear hW; go_simp⟩) (H1) ?_
          try simp only [Act.put, List.getElem_toArray, List.getElem_cons_succ, List.getElem_cons_zero, List.setIfInBounds_toArray, List.set_cons_zero, List.set_cons_succ]
          refine wpAnyH_take (i := 4) (v := .int .i64 (n : Int)) rfl (by kernel_rfl) (by kernel_rfl) (by kernel_rfl) (fun _ _ _ h => h) (Or.inl ⟨by rfl, fun W hW => by have hc := (hW.cell 0 rfl 3 (.int .i64 (n : Int)) p3); clear hW; go_simp⟩) (H1) ?_
          try simp only [Act.put, List.getElem_toArray, List.getElem_cons_succ, List.getElem_cons_zero, List.setIfInBounds_toArray, List.set_cons_zero, List.set_cons_succ]
          refine wpAnyH_ready (rs := [5]) (by kernel_rfl) (by simp) ?_
          refine (AllReadyH.cons rfl (fun K hK => ?_) AllReadyH.nil)
          rw [if_pos (by rfl)]
          refine wp_make_st HF _ _ rfl n rfl rfl (by omega) ?_
          intro V1 F1 B1
          refine hK.out _ _ (F1.sub (by exact List.sublist_append_left _ _)) (fun _ => ?_)
          clear hK K
          try simp only [Act.put, List.getElem_toArray, List.getElem_cons_succ, List.getElem_cons_zero, List.setIfInBounds_toArray, List.set_cons_zero, List.set_cons_succ]
          refine wpAnyH_take (i := 6) (v := .agg #[.int .u64 ((M + 1 : Nat) : Int), .slice (some ⟨V0.heap.size, 0, none⟩) n n]) rfl (by kernel_rfl) (by kernel_rfl) (by kernel_rfl) (fun _ _ _ h => h) (Or.inl ⟨by rfl, fun W hW => by clear hW; go_simp⟩) (F1.sub (by exact List.sublist_append_left _ _)) ?_
          try simp only [Act.put, List.getElem_toArray, List.getElem_cons_succ, List.getElem_cons_zero, List.setIfInBounds_toArray, List.set_cons_zero, List.set_cons_succ]
          refine wpAnyH_ready (rs := [7]) (by kernel_rfl) (by simp) ?_
          refine (AllReadyH.cons rfl (fun K hK => ?_) AllReadyH.nil)
          rw [if_pos (by rfl)]
          refine wp_store_st F1 2 rfl 31 _ _ rfl rfl rfl sz31 rfl (cell2 _ _ _ _) ?_
          intro V2 F2 B2
          refine hK.out _ _ (F2.sub (by exact List.sublist_append_left _ _)) (fun _ => ?_)
          clear hK K
          try simp only [Act.put, List.getElem_toArray, List.getElem_cons_succ, List.getElem_cons_zero, List.setIfInBounds_toArray, List.set_cons_zero, List.set_cons_succ]
          refine wpAnyH_take (i := 8) (v := .bool true) rfl (by kernel_rfl) (by kernel_rfl) (by kernel_rfl) (fun _ _ _ h => h) (Or.inl ⟨by rfl, fun W hW => by clear hW; go_simp⟩) (F2.sub (by exact List.sublist_append_left _ _)) ?_
          try simp only [Act.put, List.getElem_toArray, List.getElem_cons_succ, List.getElem_cons_zero, List.setIfInBounds_toArray, List.set_cons_zero, List.set_cons_succ]
          refine wpAnyH_take (i := 9) (v := .int .i64 0) rfl (by kernel_rfl) (by kernel_rfl) (by kernel_rfl) (fun _ _ _ h => h) (Or.inl ⟨by rfl, fun W hW => by clear hW; go_simp⟩) (F2.sub (by exact List.sublist_append_left _ _)) ?_
          try simp only [Act.put, List.getElem_toArray, List.getElem_cons_succ, List.getElem_cons_zero, List.setIfInBounds_toArray, List.set_cons_zero, List.set_cons_succ]
          refine wpAnyH_done (by kernel_rfl) ?_ _
          go_wp2
          refine bodyPost_ret (results_cell_tmp2 Try.results25 _ _ _ rfl _ ((F2.get 2 rfl).loadV 31 _ Try.underlying31 rfl sz31)) rfl ?_
          rw [E1.out]
          have e8 : (List.replicate n (0 : Int)).length = n := by simp
          exact ⟨_, _, by simp only [e8]; rfl, by simp only [e8]; exact (F2.get 3 rfl).irow (fun x hx => by rw [List.eq_of_mem_replicate hx]; simp [I64]) n (by simp) (by omega), F2.bel⟩
  · have E : Hid (nxt p M ms s = ⟨0, [], false, wrg p M ms⟩) := by unfold nxt; rw [if_pos hw]; exact rfl
    generalize nxt p M ms s = X at *
    generalize wrg p M ms = e0 at *
    have g1 : (e0 == 0) = false := by simpa using hw
    have g2 : (e0 != 0) = true := by simpa using hw
    go_enter Try.func25, Try.ntmps25
    go_wp2_with (first
      | (refine wpList_box_st h0 28 _ rfl rfl p.arr rfl ?_; clear h0; intro W1 h1 _ _)
      | (refine wpList_box_st h1 31 _ rfl rfl #[.int .u64 (M : Int), .slice A n c] rfl ?_; clear h1; intro W2 h2 _ _)
      | (refine wpList_alloc_st h2 31 rfl rfl _ #[.int .u64 0, .slice none 0 0] zv31 rfl ?_; clear h2; intro W3 h3 _ _)
      | (refine wpList_load_st h3 0 rfl 28 _ _ rfl rfl rfl Try.underlying28 rfl SP.out ?_)
      | (refine wpList_load_st h3 1 rfl 31 _ _ rfl rfl rfl Try.underlying31 rfl sz31 ?_)
      | (go_at_call 28; refine (C.out _ ((HR.out.below h3.bel).wider h3.bel.size)).mono ?_; rintro e W4 ⟨rfl, hb4⟩; have h4 := h3.call hb4; have c3 := PBlk.c3 (h4.get 0 rfl); have c6 := PBlk.c6 (h4.get 0 rfl); have d0 := h4.cell 1 rfl 0 (.int .u64 (M : Int)) rfl; clear h3 hb4)
      | (refine wpList_store_st h4 2 rfl 31 _ _ rfl rfl rfl rfl sz31 rfl (cell2 _ _ _ _) ?_; clear h4 c3 c6 d0; intro W5 h5 _))
    refine bodyPost_ret (results_cell_tmp2 Try.results25 _ _ _ rfl _ ((h5.get 2 rfl).loadV 31 _ Try.underlying31 rfl sz31)) rfl ?_
    rw [E.out]
    exact gives_none h5.bel
end Go.Proofs.Ytcepncdolbfcfaa
