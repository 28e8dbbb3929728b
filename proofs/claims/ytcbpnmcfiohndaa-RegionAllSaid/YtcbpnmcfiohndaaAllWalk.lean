/- The law of all addresses. No statement is proved here. -/
import Derived.Test.YtcbpnmcfiohndaaAllPure
import Derived.Deep.CutBlock
namespace Go.Proofs.Ytcbpnmcfiohndaa
open Go.RowKit
set_option linter.unusedVariables false
set_option linter.unusedSimpArgs false

theorem Al_pos {q : Pl} (hq : right q = true) : 1 ≤ Al q := by
  have hs := (right_facts hq).2.1
  obtain ⟨h1, h2, -⟩ := (shaped_iff q).1 hs
  unfold Al
  rw [if_pos hs]
  have := Int.mul_pos (show 0 < q.pa by omega) (show 0 < q.li by omega)
  omega
/-- What the round at an address wants. -/
theorem at_facts {q : Pl} {m : Nat} (hq : right q = true) (h : (m : Int) < SzI q) : hasP q m = true ∧ ∃ (k n l i : Int) (o b : Nat), plAt q m = ⟨k, n, l, i, (o : Nat)⟩ ∧ b + o = m ∧
    ((k = 1 ∧ hasL q n = true ∧ DaI q n = (b : Nat)) ∨ (k = 2 ∧ hasL q n = true ∧ TaI q n = (b : Nat)) ∨ (k = 3 ∧ hasI q l i = true ∧ ItI q l i = (b : Nat))) := by
  obtain ⟨-, a1⟩ := Al_bounds q
  by_cases k1 : (m : Int) < 32 * Al q
  · obtain ⟨h1, e1, h2, d⟩ := plAt_one hq k1
    exact ⟨h1, _, _, _, _, _, _, e1, by omega, .inl ⟨rfl, h2, d⟩⟩
  by_cases k2 : (m : Int) < 40 * Al q
  · obtain ⟨h1, e1, h2, d⟩ := plAt_two hq (by omega) k2
    exact ⟨h1, _, _, _, _, _, _, e1, by omega, .inr (.inl ⟨rfl, h2, d⟩)⟩
  obtain ⟨k, j, -, h1, e1, h2, d⟩ := plAt_three (m := m) hq (by omega) h
  exact ⟨h1, _, _, _, _, _, _, e1, by omega, .inr (.inr ⟨rfl, h2, d⟩)⟩
def AdRel (w : World) (q : Pl) (g Z : Nat) (s : Value) (wr : World) : Prop :=
  ∃ (m : Nat) (c : Pc), m ≤ Z ∧ s = .int .i64 (m : Nat) ∧ LSt w q g c wr ∧ (∀ m', m = m' + 1 → c = (plAt q (m' : Nat)).fst)
section
variable {w W W' : World} {q : Pl} {g g5 g7 : Nat} {c x : Pc} {k n l i o v : Int}
theorem Pb.five (h : Pb W g ⟨k, n, l, i, o⟩) : W.cell? ⟨g, 0, none⟩ = some (.int .i64 k) ∧ W.cell? ⟨g, 1, none⟩ = some (.int .i64 n) ∧ W.cell? ⟨g, 2, none⟩ = some (.int .i64 l) ∧ W.cell? ⟨g, 3, none⟩ = some (.int .i64 i) ∧ W.cell? ⟨g, 4, none⟩ = some (.int .i64 o) := h.cells
theorem wpList_offD {ops : Array Oper} {rest : List Oper} {p : Oper} {a : Act} {Q : Exit → Act → World → Prop} (h : CSt w q g c g5 x g7 ⟨k, n, l, i, o⟩ W) (u y : Operand) (ho : p.op = .store 3 u y) (hx : a.eval u = .pointer (some ⟨g7, 4, none⟩)) (hw : Region.wanted p (yielded ops a.tmps) = true) (hy : a.eval y = .int .i64 v)
    (kk : ∀ W', CSt w q g c g5 x g7 ⟨k, n, l, i, v⟩ W' → wpList Try.prog ops Q rest (a.put p.dst undef) W') : wpList Try.prog ops Q (p :: rest) a W := wpList_offC h u y ho hx hw hy kk
theorem same_cases {q : Pl} {m : Nat} (hq : right q = true) (h : (m : Int) < SzI q) (e : plAt q m = ⟨k, n, l, i, o⟩) (hc : ∀ m', m = m' + 1 → c = (plAt q (m' : Nat)).fst) (h0 : m = 0 → o = 0) : ∃ b : Bool, Pc.same ⟨k, n, l, i, 0⟩ c = b ∧ ((m = 0 ∧ o = 0) ∨ (0 < m ∧ o = 0 ∧ b = false) ∨ (0 < m ∧ ¬ o = 0 ∧ b = true)) := by
  refine ⟨_, rfl, ?_⟩
  cases m with
  | zero => exact .inl ⟨rfl, h0 rfl⟩
  | succ m =>
    have hf := fst_facts hq h
    rw [← hc m rfl, e] at hf
    have hf2 : Pc.same ⟨k, n, l, i, 0⟩ c = !decide (o = 0) := hf
    by_cases ho : o = 0
    · exact .inr (.inl ⟨by omega, ho, by rw [hf2, decide_eq_true ho]; rfl⟩)
    · exact .inr (.inr ⟨by omega, ho, by rw [hf2, decide_eq_false ho]; rfl⟩)
end
theorem sz44q (c : Pc) : (Try.prog.info? 44).map (·.size) = some c.arr.size := sz44
theorem szz (c d : Pc) : c.arr.size = d.arr.size := rfl
theorem Pc.one (c : Pc) : c.arr.all (·.oneCell') = true := by simp [Pc.arr, Value.oneCell']
theorem AdRel.mk' {w : World} {q : Pl} {g Z : Nat} {s : Value} {wr : World} (m : Nat) (c : Pc) (h1 : m ≤ Z) (h2 : s = .int .i64 (m : Nat)) (h3 : LSt w q g c wr) (h4 : ∀ m', m = m' + 1 → c = (plAt q (m' : Nat)).fst) : AdRel w q g Z s wr := ⟨m, c, h1, h2, h3, h4⟩
theorem AdRel.out {w : World} {q : Pl} {g Z : Nat} {s : Value} {wr : World} (h : AdRel w q g Z s wr) : ∃ (m : Nat) (c : Pc), m ≤ Z ∧ s = .int .i64 (m : Nat) ∧ LSt w q g c wr ∧ (∀ m', m = m' + 1 → c = (plAt q (m' : Nat)).fst) := h
section
variable {w W W' : World} {q q' : Pl}
theorem wpList_planA {ops : Array Oper} {rest : List Oper} {o : Oper} {a : Act} {Q : Exit → Act → World → Prop} (h : PSt w w.heap.size q W) (x y : Operand) (ho : o.op = .store 28 x y) (hx : a.eval x = .pointer (some ⟨w.heap.size, 0, none⟩)) (hw : Region.wanted o (yielded ops a.tmps) = true) (hy : a.eval y = .agg q'.arr)
    (k : ∀ W', PSt w w.heap.size q' W' → wpList Try.prog ops Q rest (a.put o.dst undef) W') : wpList Try.prog ops Q (o :: rest) a W := by
  unfold wpList
  rw [if_pos hw]
  refine .inl (wp_store_row 28 x y ho w.heap.size q'.arr hx hy 28 q.arr h.blk (by rw [q'.arr_size]; exact sz28) (by rw [q'.arr_size, q.arr_size]) q'.arr_all (k _ ?_))
  exact ⟨h.blk.putAll, h.bel.trans ⟨rfl, rfl, rfl, by simp [World.setRow], fun k hk => heap_setRow_far W _ k _ (by omega)⟩⟩
end
attribute [local irreducible] shaped Ls Lv Wd Al right bounded fitP sw hasI hasL ItI DaI TaI SzI hasP plAt Pc.arr Pc.same Pc.fst AdRel
set_option maxHeartbeats 8000000 in
set_option maxRecDepth 20000 in
theorem raddr_any (p : Pl) (w : World) : Calls Try.prog 10 #[.agg p.arr] w fun e w' => e = .returned (.bool true) ∧ Below w.heap.size w w' := by
  have SP := Lib.hid (fun W => speaks6_true W)
  have FT := Lib.hid (fun W => refFit_any p W)
  have N := Lib.hid (PSt.new w p)
  have hq := fit_right p
  generalize fitP p = q at *
  have SZ := Lib.hid (fun W => size_any q W)
  have PZ := Lib.hid (fun W => place_any q (SzI q) W)
  have hz0 : hasP q (SzI q) = false := by unfold hasP; rw [decide_eq_false (Int.lt_irrefl _), Bool.and_false]
  have hzb : 0 ≤ SzI q ∧ SzI q < 100000 ∧ SzI q % 8 = 0 := by
    have sh := sh_of (right_facts hq).2.1
    have s1 := sw_le sh.n1 sh.n2 sh.a1 sh.a2 (Lv q) (by rw [sh.lv (right_facts hq).2.1]; exact Nat.le_refl _)
    obtain ⟨a0, a1⟩ := Al_bounds q
    unfold SzI; rw [if_pos hq]; omega
  rw [hz0] at PZ
  generalize hP9 : plAt q (SzI q) = P9 at PZ
  clear hz0 hP9
  have AF : Hid (∀ m : Nat, (m : Int) < SzI q → _) := fun m hm => at_facts (m := m) hq hm
  have SC := @same_cases
  obtain ⟨Z, hZ⟩ : ∃ Z : Nat, SzI q = (Z : Int) := ⟨(SzI q).toNat, by omega⟩
  rw [hZ] at SZ PZ hzb
  have z1 : Z < 100000 := by omega
  have z2 : Z % 8 = 0 := by omega
  have z3 : ((Z : Int).tmod 8) = 0 := by rw [Int.tmod_eq_emod_of_nonneg (by omega)]; omega
  have z4 : (Z : Int) % 8 = 0 := by omega
  have HZ := Lib.hid hZ
  clear hzb hZ SC
  go_enter Try.func10, Try.ntmps10
  go_wp2_with (first
    | (go_at_call 25; refine (SP.out _).mono ?_; rintro e X0 ⟨rfl, hb⟩; have h1 := N.out.call hb; clear N hb)
    | (refine wpList_load_plan h1.blk _ rfl rfl rfl ?_)
    | (go_at_call 24; refine (FT.out _).mono ?_; rintro e X1 ⟨rfl, hb⟩; have h2 := h1.call hb; clear h1 hb)
    | (refine wpList_planA h2 _ _ rfl rfl rfl rfl ?_; clear h2; intro X2 h3)
    | (refine wpList_newL h3 ⟨0, 0, 0, 0, 0⟩ _ _ rfl rfl rfl (by unfold Pc.arr; rfl) ?_; clear h3; intro X3 h4; generalize X2.heap.size = g at *))
  go_loopw [4] (AdRel w q g Z) (fun s _ => Z - (intOf s).toNat)
  case atStart => exact AdRel.mk' 0 _ (by omega) rfl h4 (fun m' hm' => absurd hm' (by omega))
  case round =>
    clear h4
    obtain ⟨m, c, hm, rfl, hst, hrel2⟩ := hrel.out
    by_cases hlt : m < Z
    · obtain ⟨hp, k, n, l, i, o, b, E, hbo, F⟩ := AF.out m (by rw [HZ.out]; omega)
      have PL := Lib.hid (fun W => place_any q (m : Nat) W)
      rw [hp, E] at PL
      obtain ⟨s, hs, cs⟩ := same_cases hq (by rw [HZ.out]; omega) E hrel2 (by omega)
      have Q1 := Lib.hid (fun W => eql44 ⟨k, n, l, i, 0⟩ c W)
      have Q2 := Lib.hid (fun W => neq44 ⟨k, n, l, i, 0⟩ c W)
      rw [hs] at Q1 Q2
      replace E := Lib.hid E
      have g1 : ((m : Int) < (Z : Int)) = True := eq_true (by omega)
      clear hp AF hs hrel2
      go_upto_block 2 with (first
        | (refine wpList_load_plan hst.st.blk _ rfl rfl rfl ?_)
        | (have := hst; go_at_call 26; refine (SZ.out _).mono ?_; rintro e X1 ⟨rfl, hb⟩; have h1 := hst.call hb; clear hst hb)
        | (refine wpList_load_plan h1.st.blk _ rfl rfl rfl ?_)
        | (have := h1; go_at_call 32; refine (PL.out _).mono ?_; rintro e X2 ⟨rfl, hb⟩; have h2 := h1.call hb; clear h1 hb)
        | (refine wpList_newB h2 ⟨k, n, l, i, (o : Nat)⟩ _ _ rfl rfl rfl rfl ?_; clear h2; intro X3 h3; generalize X2.heap.size = g5 at *)
        | (refine wpList_load_P h3.bx _ rfl rfl rfl ?_)
        | (refine wpList_newC h3 ⟨k, n, l, i, (o : Nat)⟩ _ _ rfl rfl rfl rfl ?_; clear h3; intro X4 h4; generalize X3.heap.size = g7 at *)
        | (refine wpList_offD h4 _ _ rfl rfl rfl rfl ?_; clear h4; intro X5 h5; obtain ⟨u0, u1, u2, u3, u4⟩ := h5.b.bx.five))
      go_cut [6, 8] from 16 to 97 (fun s6 s8 wx => s6 = .bool true ∧ s8 = .int .i64 (b : Nat) ∧ CSt w q g c g5 ⟨k, n, l, i, (o : Nat)⟩ g7 ⟨k, n, l, i, 0⟩ wx)
      case first =>
        clear E Q1 Q2 cs
        rcases F with ⟨rfl, hh, hB⟩ | ⟨rfl, hh, hB⟩ | ⟨rfl, hh, hB⟩
        · have BK := Lib.hid (fun W => data_any q n W)
          rw [hh, hB] at BK
          go_wp2_with (first
            | (refine wpList_load_plan h5.b.l.st.blk _ rfl rfl rfl ?_)
            | (have := h5; go_at_call 28; refine (BK.out _).mono ?_; rintro e X6 ⟨rfl, hb⟩; have h6 := h5.call hb; clear u0 u1 u2 u3 u4 h5 hb))
          go_meet
          exact ⟨rfl, rfl, h6⟩
        · have BK := Lib.hid (fun W => tag_any q n W)
          rw [hh, hB] at BK
          go_wp2_with (first
            | (refine wpList_load_plan h5.b.l.st.blk _ rfl rfl rfl ?_)
            | (have := h5; go_at_call 30; refine (BK.out _).mono ?_; rintro e X6 ⟨rfl, hb⟩; have h6 := h5.call hb; clear u0 u1 u2 u3 u4 h5 hb))
          go_meet
          exact ⟨rfl, rfl, h6⟩
        · have BK := Lib.hid (fun W => item_any q l i W)
          rw [hh, hB] at BK
          go_wp2_with (first
            | (refine wpList_load_plan h5.b.l.st.blk _ rfl rfl rfl ?_)
            | (have := h5; go_at_call 31; refine (BK.out _).mono ?_; rintro e X6 ⟨rfl, hb⟩; have h6 := h5.call hb; clear u0 u1 u2 u3 u4 h5 hb))
          go_meet
          exact ⟨rfl, rfl, h6⟩
      case rest =>
        clear u0 u1 u2 u3 u4 h5 F
        obtain ⟨rfl, rfl, h6⟩ := hcut
        obtain ⟨u0, u1, u2, u3, u4⟩ := h6.b.bx.five
        replace Q1 := Q1.out
        replace Q2 := Q2.out
        have w1 : IntKind.i64.wrap ((b : Int) + (o : Int)) = (m : Int) := by rw [show (b : Int) + (o : Int) = (m : Int) by omega]; exact IntWalk.i64_in _ (by omega)
        have w2 : IntKind.i64.wrap ((m : Int) + 1) = (m : Int) + 1 := IntWalk.i64_in _ (by omega)
        rcases cs with ⟨hm1, ho⟩ | ⟨hm1, ho, rfl⟩ | ⟨hm1, ho, rfl⟩
        · have g5 : (0 < (m : Int)) = False := eq_false (by omega)
          have g8 : (0 < m) = False := eq_false (by omega)
          have g6 : ((o : Int) = 0) = True := eq_true ho
          have g7 : (o = 0) = True := eq_true (by omega)
          replace hm1 := Lib.hid hm1
          replace ho := Lib.hid ho
          cases s
          · go_wp2_with (first
              | (refine wpList_load_P h6.bf _ rfl rfl rfl ?_)
              | (refine wpList_load_P h6.b.l.bc _ rfl rfl rfl ?_)
              | (refine wpList_lastC h6 ⟨k, n, l, i, 0⟩ _ _ rfl rfl rfl rfl ?_; clear u0 u1 u2 u3 u4 h6; intro X7 h7))
            all_goals (go_roundw)
            case rel => exact AdRel.mk' (m + 1) ⟨k, n, l, i, 0⟩ (by omega) (by go_num) h7 (fun m' hm' => by obtain rfl : m = m' := (by omega); rw [E.out]; unfold Pc.fst; rfl)
            case measure => simp [intOf]; omega
          · go_wp2_with (first
              | (refine wpList_load_P h6.bf _ rfl rfl rfl ?_)
              | (refine wpList_load_P h6.b.l.bc _ rfl rfl rfl ?_)
              | (refine wpList_lastC h6 ⟨k, n, l, i, 0⟩ _ _ rfl rfl rfl rfl ?_; clear u0 u1 u2 u3 u4 h6; intro X7 h7))
            all_goals (go_roundw)
            case rel => exact AdRel.mk' (m + 1) ⟨k, n, l, i, 0⟩ (by omega) (by go_num) h7 (fun m' hm' => by obtain rfl : m = m' := (by omega); rw [E.out]; unfold Pc.fst; rfl)
            case measure => simp [intOf]; omega
        · have g5 : (0 < (m : Int)) = True := eq_true (by omega)
          have g8 : (0 < m) = True := eq_true (by omega)
          have g6 : ((o : Int) = 0) = True := eq_true ho
          have g7 : (o = 0) = True := eq_true (by omega)
          replace ho := Lib.hid ho
          go_wp2_with (first
            | (refine wpList_load_P h6.bf _ rfl rfl rfl ?_)
            | (refine wpList_load_P h6.b.l.bc _ rfl rfl rfl ?_)
            | (refine wpList_lastC h6 ⟨k, n, l, i, 0⟩ _ _ rfl rfl rfl rfl ?_; clear u0 u1 u2 u3 u4 h6; intro X7 h7))
          all_goals (go_roundw)
          case rel => exact AdRel.mk' (m + 1) ⟨k, n, l, i, 0⟩ (by omega) (by go_num) h7 (fun m' hm' => by obtain rfl : m = m' := (by omega); rw [E.out]; unfold Pc.fst; rfl)
          case measure => simp [intOf]; omega
        · have g5 : (0 < (m : Int)) = True := eq_true (by omega)
          have g8 : (0 < m) = True := eq_true (by omega)
          have g6 : ((o : Int) = 0) = False := eq_false ho
          have g7 : (o = 0) = False := eq_false (by omega)
          have g9 : ((o : Int) == 0) = false := by simpa using ho
          have g10 : (o == 0) = false := by simp; omega
          have g11 : ((o : Int) != 0) = true := by simp; omega
          go_wp2_with (first
            | (refine wpList_load_P h6.bf _ rfl rfl rfl ?_)
            | (refine wpList_load_P h6.b.l.bc _ rfl rfl rfl ?_)
            | (refine wpList_lastC h6 ⟨k, n, l, i, 0⟩ _ _ rfl rfl rfl rfl ?_; clear u0 u1 u2 u3 u4 h6; intro X7 h7))
          all_goals (go_roundw)
          case rel => exact AdRel.mk' (m + 1) ⟨k, n, l, i, 0⟩ (by omega) (by go_num) h7 (fun m' hm' => by obtain rfl : m = m' := (by omega); rw [E.out]; unfold Pc.fst; rfl)
          case measure => simp [intOf]; omega
    · have hk2 : m = Z := by omega
      have g1 : ((m : Int) < (Z : Int)) = False := eq_false (by omega)
      clear hrel2 AF HZ
      go_wp2_with (first
        | (refine wpList_load_plan hst.st.blk _ rfl rfl rfl ?_)
        | (go_at_call 26; refine (SZ.out _).mono ?_; rintro e X1 ⟨rfl, hb⟩; have h1 := hst.call hb; clear hst hb))
      have hst := h1
      clear h1
      have H0 := Lib.hid hst.st.drew
      refine wp_region_held_drew (S := fun W => PSt w w.heap.size q W) (by kernel_rfl) H0.out (fun _ => ?_)
      generalize World.drew _ = V0 at *
      refine wpAnyH_take (i := 0) (v := .agg q.arr) rfl (by kernel_rfl) (by kernel_rfl) (by kernel_rfl) (fun _ _ _ h => h) (yields_plan _ rfl (by rfl) rfl (fun W hW => hW.blk)) H0.out ?_
      try simp only [Act.put, List.getElem_toArray, List.getElem_cons_succ, List.getElem_cons_zero, List.setIfInBounds_toArray, List.set_cons_zero, List.set_cons_succ]
      refine wpAnyH_take (i := 1) (v := .agg q.arr) rfl (by kernel_rfl) (by kernel_rfl) (by kernel_rfl) (fun _ _ _ h => h) (yields_plan _ rfl (by rfl) rfl (fun W hW => hW.blk)) H0.out ?_
      try simp only [Act.put, List.getElem_toArray, List.getElem_cons_succ, List.getElem_cons_zero, List.setIfInBounds_toArray, List.set_cons_zero, List.set_cons_succ]
      refine wpAnyH_ready (rs := [2, 7]) (by kernel_rfl) (by simp) ?_
      refine AllReadyH.cons rfl (fun K hK => ?_) (AllReadyH.cons rfl (fun K hK => ?_) AllReadyH.nil)
      · go_simp
        go_at_call 26
        refine (SZ.out _).mono ?_
        rintro e V1 ⟨rfl, hb⟩
        have H1 := Lib.hid (H0.out.call hb)
        clear hb
        refine hK.out _ _ H1.out (fun _ => ?_)
        clear hK K
        try simp only [Act.put, List.getElem_toArray, List.getElem_cons_succ, List.getElem_cons_zero, List.setIfInBounds_toArray, List.set_cons_zero, List.set_cons_succ]
        refine wpAnyH_ready (rs := [3, 7]) (by kernel_rfl) (by simp) ?_
        refine AllReadyH.cons rfl (fun K hK => ?_) (AllReadyH.cons rfl (fun K hK => ?_) AllReadyH.nil)
        · go_simp
          go_at_call 32
          refine (PZ.out _).mono ?_
          rintro e V2 ⟨rfl, hb⟩
          have H2 := Lib.hid (H1.out.call hb)
          clear hb
          refine hK.out _ _ H2.out (fun _ => ?_)
          clear hK K
          try simp only [Act.put, List.getElem_toArray, List.getElem_cons_succ, List.getElem_cons_zero, List.setIfInBounds_toArray, List.set_cons_zero, List.set_cons_succ]
          refine wpAnyH_take (i := 4) (v := .tuple #[.agg (Pc.arr P9), .bool false]) rfl (by kernel_rfl) (by kernel_rfl) (by kernel_rfl) (fun _ _ _ h => h) (Or.inl ⟨by rfl, fun W hW => by clear hW; go_simp⟩) H2.out ?_
          try simp only [Act.put, List.getElem_toArray, List.getElem_cons_succ, List.getElem_cons_zero, List.setIfInBounds_toArray, List.set_cons_zero, List.set_cons_succ]
          refine wpAnyH_take (i := 5) (v := .agg (Pc.arr P9)) rfl (by kernel_rfl) (by kernel_rfl) (by kernel_rfl) (fun _ _ _ h => h) (Or.inl ⟨by rfl, fun W hW => by clear hW; go_simp⟩) H2.out ?_
          try simp only [Act.put, List.getElem_toArray, List.getElem_cons_succ, List.getElem_cons_zero, List.setIfInBounds_toArray, List.set_cons_zero, List.set_cons_succ]
          refine wpAnyH_take (i := 6) (v := .bool false) rfl (by kernel_rfl) (by kernel_rfl) (by kernel_rfl) (fun _ _ _ h => h) (Or.inl ⟨by rfl, fun W hW => by clear hW; go_simp⟩) H2.out ?_
          try simp only [Act.put, List.getElem_toArray, List.getElem_cons_succ, List.getElem_cons_zero, List.setIfInBounds_toArray, List.set_cons_zero, List.set_cons_succ]
          refine wpAnyH_ready (rs := [7]) (by kernel_rfl) (by simp) ?_
          refine AllReadyH.cons rfl (fun K hK => ?_) AllReadyH.nil
          go_simp
          have H3 := Lib.hid (H2.out.allocd (.cells #[.int .i64 0, .int .i64 0, .int .i64 0, .int .i64 0, .int .i64 0] 44))
          have hz := Pb.new V2
          have hlo := blk_lt H2.out.blk
          refine hK.out _ _ H3.out (fun _ => ?_)
          clear hK K
          generalize World.alloc V2 _ = V9 at *
          generalize V2.heap.size = g9 at *
          try simp only [Act.put, List.getElem_toArray, List.getElem_cons_succ, List.getElem_cons_zero, List.setIfInBounds_toArray, List.set_cons_zero, List.set_cons_succ]
          refine wpAnyH_ready (rs := [8]) (by kernel_rfl) (by simp) ?_
          refine AllReadyH.cons rfl (fun K hK => ?_) AllReadyH.nil
          rw [if_pos (by rfl)]
          refine wp_store_row 44 _ _ rfl g9 (Pc.arr P9) rfl rfl 44 _ hz (sz44q P9) (szz _ P9) (Pc.one P9) ?_
          have HE := Lib.hid (H3.out.setFar hlo (Pc.arr P9))
          refine hK.out _ _ HE.out (fun _ => ?_)
          clear hK K hz hlo
          generalize World.setRow _ _ _ = V10 at *
          try simp only [Act.put, List.getElem_toArray, List.getElem_cons_succ, List.getElem_cons_zero, List.setIfInBounds_toArray, List.set_cons_zero, List.set_cons_succ]
          refine wpAnyH_take (i := 9) (v := .bool false) rfl (by kernel_rfl) (by kernel_rfl) (by kernel_rfl) (fun _ _ _ h => h) (Or.inl ⟨by rfl, fun W hW => by clear hW; go_simp⟩) HE.out ?_
          try simp only [Act.put, List.getElem_toArray, List.getElem_cons_succ, List.getElem_cons_zero, List.setIfInBounds_toArray, List.set_cons_zero, List.set_cons_succ]
          refine wpAnyH_done (by kernel_rfl) ?_ _
          go_wp2_with (first
              | (refine wpList_load_plan HE.out.blk _ rfl rfl rfl ?_)
              | (go_at_call 26; refine (SZ.out _).mono ?_; rintro e X1 ⟨rfl, hb⟩; have HF := HE.out.call hb; clear HE hb))
          go_ret
          exact ⟨rfl, HF.bel⟩
        · go_simp
          have H2 := Lib.hid (H1.out.allocd (.cells #[.int .i64 0, .int .i64 0, .int .i64 0, .int .i64 0, .int .i64 0] 44))
          have hz := Pb.new V1
          have hlo := blk_lt H1.out.blk
          refine hK.out _ _ H2.out (fun _ => ?_)
          clear hK K
          generalize World.alloc V1 _ = V9 at *
          generalize V1.heap.size = g9 at *
          try simp only [Act.put, List.getElem_toArray, List.getElem_cons_succ, List.getElem_cons_zero, List.setIfInBounds_toArray, List.set_cons_zero, List.set_cons_succ]
          refine wpAnyH_ready (rs := [3]) (by kernel_rfl) (by simp) ?_
          refine AllReadyH.cons rfl (fun K hK => ?_) AllReadyH.nil
          go_simp
          go_at_call 32
          refine (PZ.out _).mono ?_
          rintro e V2 ⟨rfl, hb⟩
          have H3 := Lib.hid (H2.out.call hb)
          have hz := hz.call hb
          clear hb
          refine hK.out _ _ H3.out (fun _ => ?_)
          clear hK K
          try simp only [Act.put, List.getElem_toArray, List.getElem_cons_succ, List.getElem_cons_zero, List.setIfInBounds_toArray, List.set_cons_zero, List.set_cons_succ]
          refine wpAnyH_take (i := 4) (v := .tuple #[.agg (Pc.arr P9), .bool false]) rfl (by kernel_rfl) (by kernel_rfl) (by kernel_rfl) (fun _ _ _ h => h) (Or.inl ⟨by rfl, fun W hW => by clear hW; go_simp⟩) H3.out ?_
          try simp only [Act.put, List.getElem_toArray, List.getElem_cons_succ, List.getElem_cons_zero, List.setIfInBounds_toArray, List.set_cons_zero, List.set_cons_succ]
          refine wpAnyH_take (i := 5) (v := .agg (Pc.arr P9)) rfl (by kernel_rfl) (by kernel_rfl) (by kernel_rfl) (fun _ _ _ h => h) (Or.inl ⟨by rfl, fun W hW => by clear hW; go_simp⟩) H3.out ?_
          try simp only [Act.put, List.getElem_toArray, List.getElem_cons_succ, List.getElem_cons_zero, List.setIfInBounds_toArray, List.set_cons_zero, List.set_cons_succ]
          refine wpAnyH_take (i := 6) (v := .bool false) rfl (by kernel_rfl) (by kernel_rfl) (by kernel_rfl) (fun _ _ _ h => h) (Or.inl ⟨by rfl, fun W hW => by clear hW; go_simp⟩) H3.out ?_
          try simp only [Act.put, List.getElem_toArray, List.getElem_cons_succ, List.getElem_cons_zero, List.setIfInBounds_toArray, List.set_cons_zero, List.set_cons_succ]
          refine wpAnyH_ready (rs := [8]) (by kernel_rfl) (by simp) ?_
          refine AllReadyH.cons rfl (fun K hK => ?_) AllReadyH.nil
          rw [if_pos (by rfl)]
          refine wp_store_row 44 _ _ rfl g9 (Pc.arr P9) rfl rfl 44 _ hz (sz44q P9) (szz _ P9) (Pc.one P9) ?_
          have HE := Lib.hid (H3.out.setFar hlo (Pc.arr P9))
          refine hK.out _ _ HE.out (fun _ => ?_)
          clear hK K hz hlo
          generalize World.setRow _ _ _ = V10 at *
          try simp only [Act.put, List.getElem_toArray, List.getElem_cons_succ, List.getElem_cons_zero, List.setIfInBounds_toArray, List.set_cons_zero, List.set_cons_succ]
          refine wpAnyH_take (i := 9) (v := .bool false) rfl (by kernel_rfl) (by kernel_rfl) (by kernel_rfl) (fun _ _ _ h => h) (Or.inl ⟨by rfl, fun W hW => by clear hW; go_simp⟩) HE.out ?_
          try simp only [Act.put, List.getElem_toArray, List.getElem_cons_succ, List.getElem_cons_zero, List.setIfInBounds_toArray, List.set_cons_zero, List.set_cons_succ]
          refine wpAnyH_done (by kernel_rfl) ?_ _
          go_wp2_with (first
              | (refine wpList_load_plan HE.out.blk _ rfl rfl rfl ?_)
              | (go_at_call 26; refine (SZ.out _).mono ?_; rintro e X1 ⟨rfl, hb⟩; have HF := HE.out.call hb; clear HE hb))
          go_ret
          exact ⟨rfl, HF.bel⟩
      · go_simp
        have H1 := Lib.hid (H0.out.allocd (.cells #[.int .i64 0, .int .i64 0, .int .i64 0, .int .i64 0, .int .i64 0] 44))
        have hz := Pb.new V0
        have hlo := blk_lt H0.out.blk
        refine hK.out _ _ H1.out (fun _ => ?_)
        clear hK K
        generalize World.alloc V0 _ = V9 at *
        generalize V0.heap.size = g9 at *
        try simp only [Act.put, List.getElem_toArray, List.getElem_cons_succ, List.getElem_cons_zero, List.setIfInBounds_toArray, List.set_cons_zero, List.set_cons_succ]
        refine wpAnyH_ready (rs := [2]) (by kernel_rfl) (by simp) ?_
        refine AllReadyH.cons rfl (fun K hK => ?_) AllReadyH.nil
        go_simp
        go_at_call 26
        refine (SZ.out _).mono ?_
        rintro e V1 ⟨rfl, hb⟩
        have H2 := Lib.hid (H1.out.call hb)
        have hz := hz.call hb
        clear hb
        refine hK.out _ _ H2.out (fun _ => ?_)
        clear hK K
        try simp only [Act.put, List.getElem_toArray, List.getElem_cons_succ, List.getElem_cons_zero, List.setIfInBounds_toArray, List.set_cons_zero, List.set_cons_succ]
        refine wpAnyH_ready (rs := [3]) (by kernel_rfl) (by simp) ?_
        refine AllReadyH.cons rfl (fun K hK => ?_) AllReadyH.nil
        go_simp
        go_at_call 32
        refine (PZ.out _).mono ?_
        rintro e V2 ⟨rfl, hb⟩
        have H3 := Lib.hid (H2.out.call hb)
        have hz := hz.call hb
        clear hb
        refine hK.out _ _ H3.out (fun _ => ?_)
        clear hK K
        try simp only [Act.put, List.getElem_toArray, List.getElem_cons_succ, List.getElem_cons_zero, List.setIfInBounds_toArray, List.set_cons_zero, List.set_cons_succ]
        refine wpAnyH_take (i := 4) (v := .tuple #[.agg (Pc.arr P9), .bool false]) rfl (by kernel_rfl) (by kernel_rfl) (by kernel_rfl) (fun _ _ _ h => h) (Or.inl ⟨by rfl, fun W hW => by clear hW; go_simp⟩) H3.out ?_
        try simp only [Act.put, List.getElem_toArray, List.getElem_cons_succ, List.getElem_cons_zero, List.setIfInBounds_toArray, List.set_cons_zero, List.set_cons_succ]
        refine wpAnyH_take (i := 5) (v := .agg (Pc.arr P9)) rfl (by kernel_rfl) (by kernel_rfl) (by kernel_rfl) (fun _ _ _ h => h) (Or.inl ⟨by rfl, fun W hW => by clear hW; go_simp⟩) H3.out ?_
        try simp only [Act.put, List.getElem_toArray, List.getElem_cons_succ, List.getElem_cons_zero, List.setIfInBounds_toArray, List.set_cons_zero, List.set_cons_succ]
        refine wpAnyH_take (i := 6) (v := .bool false) rfl (by kernel_rfl) (by kernel_rfl) (by kernel_rfl) (fun _ _ _ h => h) (Or.inl ⟨by rfl, fun W hW => by clear hW; go_simp⟩) H3.out ?_
        try simp only [Act.put, List.getElem_toArray, List.getElem_cons_succ, List.getElem_cons_zero, List.setIfInBounds_toArray, List.set_cons_zero, List.set_cons_succ]
        refine wpAnyH_ready (rs := [8]) (by kernel_rfl) (by simp) ?_
        refine AllReadyH.cons rfl (fun K hK => ?_) AllReadyH.nil
        rw [if_pos (by rfl)]
        refine wp_store_row 44 _ _ rfl g9 (Pc.arr P9) rfl rfl 44 _ hz (sz44q P9) (szz _ P9) (Pc.one P9) ?_
        have HE := Lib.hid (H3.out.setFar hlo (Pc.arr P9))
        refine hK.out _ _ HE.out (fun _ => ?_)
        clear hK K hz hlo
        generalize World.setRow _ _ _ = V10 at *
        try simp only [Act.put, List.getElem_toArray, List.getElem_cons_succ, List.getElem_cons_zero, List.setIfInBounds_toArray, List.set_cons_zero, List.set_cons_succ]
        refine wpAnyH_take (i := 9) (v := .bool false) rfl (by kernel_rfl) (by kernel_rfl) (by kernel_rfl) (fun _ _ _ h => h) (Or.inl ⟨by rfl, fun W hW => by clear hW; go_simp⟩) HE.out ?_
        try simp only [Act.put, List.getElem_toArray, List.getElem_cons_succ, List.getElem_cons_zero, List.setIfInBounds_toArray, List.set_cons_zero, List.set_cons_succ]
        refine wpAnyH_done (by kernel_rfl) ?_ _
        go_wp2_with (first
            | (refine wpList_load_plan HE.out.blk _ rfl rfl rfl ?_)
            | (go_at_call 26; refine (SZ.out _).mono ?_; rintro e X1 ⟨rfl, hb⟩; have HF := HE.out.call hb; clear HE hb))
        go_ret
        exact ⟨rfl, HF.bel⟩
end Go.Proofs.Ytcbpnmcfiohndaa
