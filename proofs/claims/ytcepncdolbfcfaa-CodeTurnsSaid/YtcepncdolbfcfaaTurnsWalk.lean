/- The law of a line's turns. No statement is proved here. -/
import Derived.Test.YtcepncdolbfcfaaCodePlain
namespace Go.Proofs.Ytcepncdolbfcfaa
open Go.RowKit
set_option linter.unusedVariables false
set_option linter.unusedSimpArgs false

theorem St.drop1 {w W : World} {a b c : Nat × TypeId × Array Value} (h : St w W [a, b, c]) : St w W [a, c] := h.sub ((List.Sublist.refl [c]).cons b |>.cons_cons a)
/-- Noughts, but for one. -/
def tr (n s : Nat) (i : Int) : List Int := (List.replicate n 0).set s i
theorem tr_len (n s : Nat) (i : Int) : (tr n s i).length = n := by simp [tr]
theorem tr_at (n s : Nat) (i : Int) (h : s < n) : (tr n s i).getD s 0 = i := by
  unfold tr; rw [List.getD_eq_getElem?_getD, List.getElem?_set_self (by simpa using h)]; rfl
theorem tr_zero (n s : Nat) : tr n s 0 = List.replicate n 0 := by
  unfold tr
  refine List.ext_getElem? fun j => ?_
  rw [List.getElem?_set, List.getElem?_replicate]
  split
  · subst_vars; split <;> simp_all
  · rfl
theorem tr_mem {n s : Nat} {i x : Int} (h : x ∈ tr n s i) : x = 0 ∨ x = i := by
  rcases List.mem_or_eq_of_mem_set h with h | h
  · exact .inl (List.eq_of_mem_replicate h)
  · exact .inr h
theorem tr_set (n s : Nat) (i j : Int) : (tr n s i).set s j = tr n s j := by unfold tr; simp
theorem tr_wrg {q : Pl} {n m s : Nat} {i : Int} (hq : right q = true) (h3 : q.li = (n : Int)) (h5 : q.mi = (m : Int)) (h6 : 0 ≤ q.ma) (h0 : 0 ≤ i) (hi : i ≤ mst m) : wrg q 0 (tr n s i) = 0 := by
  unfold wrg
  rw [hq, if_pos rfl, if_pos]
  refine ⟨by simpa using h6, by rw [tr_len, h3], ?_⟩
  rw [h5, Int.toNat_natCast, List.any_eq_false]
  intro x hx
  rcases tr_mem hx with rfl | rfl
  · simp [bad]; omega
  · simp [bad]; omega
theorem tr_next {q : Pl} {n m s : Nat} {i : Int} (hq : right q = true) (h3 : q.li = (n : Int)) (h5 : q.mi = (m : Int)) (h6 : 0 ≤ q.ma) (hs : s < n) (h0 : 0 ≤ i) (hi : i < mst m) : nxt q 0 (tr n s i) (s : Int) = ⟨0, tr n s (i + 1), false, 0⟩ := by
  unfold nxt
  rw [if_neg (by rw [tr_wrg hq h3 h5 h6 h0 (by omega)]; simp), if_neg (by omega), h5, Int.toNat_natCast, Int.toNat_natCast, tr_at n s i hs, if_pos hi, tr_set]
theorem tr_end {q : Pl} {n m s : Nat} (hq : right q = true) (h3 : q.li = (n : Int)) (h5 : q.mi = (m : Int)) (h6 : 0 ≤ q.ma) (hs : s < n) (hm : 0 ≤ mst m) : nxt q 0 (tr n s (mst m)) (s : Int) = if q.ma = 0 then ⟨0, [], false, 21⟩ else ⟨1, List.replicate n 0, true, 0⟩ := by
  unfold nxt
  rw [if_neg (by rw [tr_wrg hq h3 h5 h6 hm (by omega)]; simp), if_neg (by omega), h5, Int.toNat_natCast, Int.toNat_natCast, tr_at n s _ hs, if_neg (by omega), tr_len]
  by_cases h : q.ma = 0
  · rw [if_pos (by rw [h]; rfl), if_pos h]
  · rw [if_neg (fun e => h (by rw [← e]; rfl)), if_neg h]
theorem IRow.besideAt {W W' : World} {B g n c : Nat} {A : Option Addr} {xs : List Int} (h : IRow W B A n c xs) (hne : ∀ a, A = some a → 0 < n → a.block ≠ g) (hg : W.grownBy W' (some g)) (hB : B ≤ W.heap.size) : IRow W' B A n c xs := by
  obtain ⟨h1, h2, h3, h4, h5, h6⟩ := h
  refine ⟨h1, h2, h3, h4, h5, fun a ha hn => ?_⟩
  obtain ⟨hs, hb, hc⟩ := h6 a ha hn
  exact ⟨hs, hb, fun j hj => (World.cell?_of_block (a := ⟨a.block, a.off + j, none⟩) (hg.block a.block (by omega) (by intro e; injection e with e; exact hne a ha hn e))).trans (hc j hj)⟩
theorem IRow.off31 {W : World} {B g n c : Nat} {A A' : Option Addr} {xs : List Int} {M : Int} {n' c' : Nat} (h : IRow W B A n c xs) (hA : At W g 31 #[.int .u64 M, .slice A' n' c']) : ∀ a, A = some a → 0 < n → a.block ≠ g := by
  intro a ha hn e
  obtain ⟨hs, hb, hc⟩ := h.2.2.2.2.2 a ha hn
  have h0 := hc 0 hn
  rw [e, hA.cell] at h0
  rcases (show a.off + 0 = 0 ∨ a.off + 0 = 1 ∨ 2 ≤ a.off + 0 by omega) with h1 | h1 | h1
  · rw [h1] at h0; simp at h0
  · rw [h1] at h0; simp at h0
  · rw [Array.getElem?_eq_none (by simpa using h1)] at h0; cases h0
attribute [local irreducible] arrV shaped Ls right putN iarr cb fitP tr
def TuRel (w : World) (q : Pl) (n s P2 g5 : Nat) (i : Value) (wr : World) : Prop :=
  ∃ j A c, 1 ≤ j ∧ j ≤ P2 ∧ i = .int .i64 (j : Nat) ∧ St w wr [(w.heap.size, 28, q.arr), (g5, 31, #[.int .u64 0, .slice A n c])] ∧ IRow wr wr.heap.size A n c (tr n s ((j : Int) - 1))
set_option maxHeartbeats 4000000 in
set_option maxRecDepth 20000 in
theorem turns_any (p : Pl) (slot : Int) (w : World) (hma : 0 ≤ p.ma) :
    Calls Try.prog 7 #[.agg p.arr, .int .i64 slot] w fun e w' => e = .returned (.bool true) ∧ Below w.heap.size w w' := by
  have SK := Lib.hid (fun W => speaks_true W)
  have F := Lib.hid (fun W => refFit_any p W)
  have hq := fit_right p
  have hq6 : 0 ≤ (fitP p).ma := by unfold fitP bounded; simp only; omega
  have hmi := right_mi hq
  have hli := right_li hq
  generalize fitP p = q at *
  obtain ⟨n, h3⟩ : ∃ n : Nat, q.li = (n : Int) := ⟨q.li.toNat, by omega⟩
  obtain ⟨m, h5⟩ : ∃ m : Nat, q.mi = (m : Int) := ⟨q.mi.toNat, by omega⟩
  have p3 : q.arr[3]? = some (.int .i64 (n : Int)) := by rw [q.at3, h3]
  have p5 : q.arr[5]? = some (.int .i64 (m : Int)) := by rw [q.at5, h5]
  have P3 := Lib.hid p3
  have P5 := Lib.hid p5
  have hn8 : n ≤ 8 := by omega
  have hn1 : 1 ≤ n := by omega
  have hm8 : m ≤ 8 := by omega
  have hm1 : 1 ≤ m := by omega
  have SP := Lib.hid (show (Try.prog.info? 28).map (·.size) = some p.arr.size by rw [p.arr_size]; exact sz28)
  have SQ := Lib.hid (show (Try.prog.info? 28).map (·.size) = some q.arr.size by rw [q.arr_size]; exact sz28)
  have SZ : Hid (q.arr.size = p.arr.size) := by rw [q.arr_size, p.arr_size]; exact rfl
  have SA := Lib.hid q.arr_all
  have h0 := St.nil w
  clear p3 p5 hmi hli hma
  by_cases hs : slot < 0 ∨ (n : Int) ≤ slot
  · rcases hs with hs | hs
    · go_enter Try.func7, Try.ntmps7
      go_wp2_with (first
        | (refine wpList_box_st h0 28 _ rfl rfl p.arr rfl ?_; clear h0; intro W1 h1 _ _)
        | (go_at_call 9; refine (SK.out _).mono ?_; rintro e W2 ⟨rfl, hb⟩; have h2 := h1.call hb; clear h1 hb)
        | (refine wpList_load_st h2 0 rfl 28 _ _ rfl rfl rfl Try.underlying28 rfl SP.out ?_)
        | (go_at_call 27; refine (F.out _).mono ?_; rintro e W3 ⟨rfl, hb⟩; have h3 := h2.call hb; clear h2 hb)
        | (refine wpList_store_st h3 0 rfl 28 _ _ rfl rfl rfl rfl SQ.out SZ.out SA.out ?_; clear h3; intro W4 h4 _; have c3 := h4.cell 0 rfl 3 _ P3.out)
        | (refine wpList_make_st h4 _ _ rfl rfl n rfl rfl (by omega) ?_; clear h4 c3; intro W5 h5 _)
        | (refine wpList_alloc_st h5 31 rfl rfl _ #[.int .u64 0, .slice none 0 0] zv31 rfl ?_; clear h5; intro W6 h6 _ _)
        | (refine wpList_store_st h6 2 rfl 31 _ _ rfl rfl rfl rfl sz31 rfl (cell2 _ _ _ _) ?_; clear h6; intro W8 h8 _; have c3 := h8.cell 0 rfl 3 _ P3.out))
      go_ret
      exact ⟨rfl, h8.bel⟩
    · have g0 : ¬ slot < 0 := by omega
      go_enter Try.func7, Try.ntmps7
      go_wp2_with (first
        | (refine wpList_box_st h0 28 _ rfl rfl p.arr rfl ?_; clear h0; intro W1 h1 _ _)
        | (go_at_call 9; refine (SK.out _).mono ?_; rintro e W2 ⟨rfl, hb⟩; have h2 := h1.call hb; clear h1 hb)
        | (refine wpList_load_st h2 0 rfl 28 _ _ rfl rfl rfl Try.underlying28 rfl SP.out ?_)
        | (go_at_call 27; refine (F.out _).mono ?_; rintro e W3 ⟨rfl, hb⟩; have h3 := h2.call hb; clear h2 hb)
        | (refine wpList_store_st h3 0 rfl 28 _ _ rfl rfl rfl rfl SQ.out SZ.out SA.out ?_; clear h3; intro W4 h4 _; have c3 := h4.cell 0 rfl 3 _ P3.out)
        | (refine wpList_make_st h4 _ _ rfl rfl n rfl rfl (by omega) ?_; clear h4 c3; intro W5 h5 _)
        | (refine wpList_alloc_st h5 31 rfl rfl _ #[.int .u64 0, .slice none 0 0] zv31 rfl ?_; clear h5; intro W6 h6 _ _)
        | (refine wpList_store_st h6 2 rfl 31 _ _ rfl rfl rfl rfl sz31 rfl (cell2 _ _ _ _) ?_; clear h6; intro W8 h8 _; have c3 := h8.cell 0 rfl 3 _ P3.out))
      go_ret
      exact ⟨rfl, h8.bel⟩
  · obtain ⟨s, rfl⟩ : ∃ k : Nat, slot = (k : Int) := ⟨slot.toNat, by omega⟩
    have hsn : s < n := by omega
    have g0 : decide ((s : Int) < 0) = false := decide_eq_false (by omega)
    have g1 : decide ((n : Int) ≤ (s : Int)) = false := decide_eq_false (by omega)
    have g2 : decide (n ≤ s) = false := decide_eq_false (by omega)
    have mb := mst_bd m hm8
    have TN := Lib.hid (fun i h0 hi => tr_next (s := s) (i := i) hq h3 h5 hq6 hsn h0 hi)
    have TE := Lib.hid (tr_end hq h3 h5 hq6 hsn mb.1)
    have TA := Lib.hid (fun i => tr_at n s i hsn)
    have MS : Hid (mst m = ((2 ^ m : Nat) : Int) - 1) := by unfold mst; have := Nat.one_le_two_pow (n := m); exact (by omega : ((2 ^ m - 1 : Nat) : Int) = ((2 ^ m : Nat) : Int) - 1)
    have p28 : 2 ^ m ≤ 2 ^ 8 := Nat.pow_le_pow_right (by omega) hm8
    have p21 : 2 ≤ 2 ^ m := by have := Nat.pow_le_pow_right (n := 2) (by omega) hm1; omega
    have sh1 : wrap64 ((2 : Int) ^ m) = ((2 ^ m : Nat) : Int) := by
      have e : ((2 : Int) ^ m) = ((2 ^ m : Nat) : Int) := by simp
      rw [e]
      have lt := Nat.lt_of_le_of_lt p28 (show 2 ^ 8 < 1000 by decide)
      generalize 2 ^ m = z at *
      unfold wrap64
      omega
    have NXa : Hid (∀ A c i W, IRow W W.heap.size A n c (tr n s i) → Calls Try.prog 25 #[.agg q.arr, .agg #[.int .u64 0, .slice A n c], .int .i64 (s : Int)] W (GivesN W (nxt q 0 (tr n s i) (s : Int)))) := fun A c i W h => next_any q 0 A n c (tr n s i) (s : Int) W h (by omega)
    generalize hP : 2 ^ m = P2 at *
    have HP := Lib.hid hP
    clear hP
    go_enter Try.func7, Try.ntmps7
    go_wp2_with (first
      | (refine wpList_box_st h0 28 _ rfl rfl p.arr rfl ?_; clear h0; intro W1 h1 _ _)
      | (go_at_call 9; refine (SK.out _).mono ?_; rintro e W2 ⟨rfl, hb⟩; have h2 := h1.call hb; clear h1 hb)
      | (refine wpList_load_st h2 0 rfl 28 _ _ rfl rfl rfl Try.underlying28 rfl SP.out ?_)
      | (go_at_call 27; refine (F.out _).mono ?_; rintro e W3 ⟨rfl, hb⟩; have h3 := h2.call hb; clear h2 hb)
      | (refine wpList_store_st h3 0 rfl 28 _ _ rfl rfl rfl rfl SQ.out SZ.out SA.out ?_; clear h3; intro W4 h4 _; have c3 := h4.cell 0 rfl 3 _ P3.out)
      | (refine wpList_make_st h4 _ _ rfl rfl n rfl rfl (by omega) ?_; clear h4 c3; intro W5 h5 _)
      | (refine wpList_alloc_st h5 31 rfl rfl _ #[.int .u64 0, .slice none 0 0] zv31 rfl ?_; clear h5; intro W6 h6 _ _)
      | (refine wpList_store_st h6 2 rfl 31 _ _ rfl rfl rfl rfl sz31 rfl (cell2 _ _ _ _) ?_; clear h6; intro W8 h8 _; have c3 := h8.cell 0 rfl 3 _ P3.out))
    have hr8 : IRow W8 W8.heap.size (some ⟨W4.heap.size, 0, none⟩) n n (tr n s 0) := by
      rw [tr_zero]
      exact (h8.get 1 rfl).irow (fun x hx => by rw [List.eq_of_mem_replicate hx]; simp [I64]) n (by simp) (by omega)
    have h8' : St w W8 [(w.heap.size, 28, q.arr), (W5.heap.size, 31, #[.int .u64 0, .slice (some ⟨W4.heap.size, 0, none⟩) n n])] := St.drop1 h8
    clear h8
    generalize W5.heap.size = g5 at *
    go_loopw [6] (TuRel w q n s P2 g5) (fun i _ => P2 - (intOf i).toNat)
    case atStart => exact ⟨1, _, _, by omega, by omega, rfl, h8', by simpa using hr8⟩
    case round =>
      obtain ⟨j, A, c, hj1, hj2, rfl, h9, hr9⟩ := hrel
      clear h8' hr8 c3
      have c5 := h9.cell 0 rfl 5 _ P5.out
      by_cases hlt : j < P2
      · have E := TN.out ((j : Int) - 1) (by omega) (by rw [MS.out]; omega)
        have NX : Hid (∀ W, IRow W W.heap.size A n c (tr n s ((j : Int) - 1)) → Calls Try.prog 25 #[.agg q.arr, .agg #[.int .u64 0, .slice A n c], .int .i64 (s : Int)] W (Gives1 W 0 (tr n s (j : Int)) n false 0)) := fun W h => by
          have := NXa.out A c _ W h
          rw [E, show (j : Int) - 1 + 1 = (j : Int) by omega] at this
          unfold GivesN at this
          simp only [tr_len] at this
          exact this
        have g3 : ((j : Int) < (P2 : Int)) = True := eq_true (by omega)
        have q5 : ((j : Int) == (j : Int)) = true := by simp
        clear E
        go_wp2_with (first
          | (refine wpList_load_st h9 0 rfl 28 _ _ rfl rfl rfl Try.underlying28 rfl SQ.out ?_)
          | (refine wpList_load_st h9 1 rfl 31 _ _ rfl rfl rfl Try.underlying31 rfl sz31 ?_)
          | (go_at_call 25; refine (NX.out _ hr9).mono ?_; rintro e W10 ⟨A10, c10, rfl, hr10, hb⟩; have h10 := h9.call hb; clear h9 hr9 hb c5)
          | (refine wpList_alloc_st h10 31 rfl rfl _ #[.int .u64 0, .slice none 0 0] zv31 rfl ?_; clear h10; intro W11 h11 _ b11; have hr11 := hr10.below b11; have z11 := b11.size; clear hr10 b11)
          | (refine wpList_store_st h11 2 rfl 31 _ _ rfl rfl rfl rfl sz31 rfl (cell2 _ _ _ _) ?_; intro W12 h12 hg12; have hr12 := (hr11.beside hg12 z11).wider (Nat.le_trans z11 hg12.size); obtain ⟨b2, o2, rfl, hb2, hc2⟩ := hr12.at_ (by omega); have hk := hc2 s hsn; rw [TA.out] at hk; have d0 := h12.cell 2 rfl 0 (.int .u64 0) rfl; have d1 := h12.cell 2 rfl 1 (.slice (some ⟨b2, o2, none⟩) n c10) rfl; clear h11 hr11 hg12 z11 hc2)
          | (refine wpList_load_st h12 2 rfl 31 _ _ rfl rfl rfl Try.underlying31 rfl sz31 ?_)
          | (refine wpList_store_st h12 1 rfl 31 _ _ rfl rfl rfl rfl sz31 rfl (cell2 _ _ _ _) ?_; intro W13 h13 hg13; have hr13 := (hr12.besideAt (hr12.off31 (h12.get 1 rfl)) hg13 (Nat.le_refl _)).wider hg13.size; clear h12 hr12 hg13 hk d0 d1 hb2))
        go_roundw
        case rel =>
          have R : TuRel w q n s P2 g5 (.int .i64 ((j : Int) + 1)) W13 := ⟨j + 1, _, _, by omega, by omega, by go_num, h13.sub (by exact List.sublist_append_left _ _), by rw [show ((j + 1 : Nat) : Int) - 1 = (j : Int) by omega]; exact hr13⟩
          first | exact R | ((repeat apply Exists.intro); exact ⟨R, rfl⟩)
        case measure => simp [intOf]; omega
      · obtain rfl : j = P2 := by omega
        have g3 : ((j : Int) < (j : Int)) = False := eq_false (by omega)
        have E := TE.out
        rw [MS.out] at E
        by_cases hma : q.ma = 0
        · rw [if_pos hma] at E
          have NX : Hid (∀ W, IRow W W.heap.size A n c (tr n s ((j : Int) - 1)) → Calls Try.prog 25 #[.agg q.arr, .agg #[.int .u64 0, .slice A n c], .int .i64 (s : Int)] W (Gives1 W 0 [] 0 false 21)) := fun W h => by
            have := NXa.out A c _ W h
            rw [E] at this
            exact this
          have HM := Lib.hid hma
          clear E hma
          go_wp2_with (first
            | (refine wpList_load_st h9 0 rfl 28 _ _ rfl rfl rfl Try.underlying28 rfl SQ.out ?_)
            | (refine wpList_load_st h9 1 rfl 31 _ _ rfl rfl rfl Try.underlying31 rfl sz31 ?_)
            | (go_at_call 25; refine (NX.out _ hr9).mono ?_; rintro e W10 ⟨A10, c10, rfl, hr10, hb⟩; have h10 := h9.call hb; clear h9 hr9 hb c5)
            | (refine wpList_alloc_st h10 31 rfl rfl _ #[.int .u64 0, .slice none 0 0] zv31 rfl ?_; clear h10; intro W11 h11 _ b11; have hr11 := hr10.below b11; have z11 := b11.size; clear hr10 b11)
            | (refine wpList_store_st h11 2 rfl 31 _ _ rfl rfl rfl rfl sz31 rfl (cell2 _ _ _ _) ?_; intro W12 h12 hg12; have c6 := PBlk.c6 (h12.get 0 rfl); rw [HM.out] at c6; clear h11 hr11 hg12 z11))
          go_ret
          exact ⟨rfl, h12.bel⟩
        · rw [if_neg hma] at E
          have NX : Hid (∀ W, IRow W W.heap.size A n c (tr n s ((j : Int) - 1)) → Calls Try.prog 25 #[.agg q.arr, .agg #[.int .u64 0, .slice A n c], .int .i64 (s : Int)] W (Gives1 W 1 (List.replicate n 0) n true 0)) := fun W h => by
            have := NXa.out A c _ W h
            rw [E] at this
            unfold GivesN at this
            simp only [List.length_replicate] at this
            exact this
          have SM : Hid (∀ A1 A2 c1 c2 W, IRow W W.heap.size A1 n c1 (List.replicate n 0) → IRow W W.heap.size A2 n c2 (List.replicate n 0) → Calls Try.prog 13 #[.agg #[.int .u64 1, .slice A1 n c1], .agg #[.int .u64 1, .slice A2 n c2]] W fun e w' => e = .returned (.bool true) ∧ Below W.heap.size W w') := fun A1 A2 c1 c2 W h1 h2 => by
            have := refSame_any 1 1 n n c1 c2 A1 A2 (List.replicate n 0) (List.replicate n 0) W h1 h2
            rw [decide_eq_true ⟨rfl, rfl⟩] at this
            exact this
          have g7 : (q.ma == 0) = false := by simpa using hma
          clear E hma
          go_wp2_with (first
            | (refine wpList_load_st h9 0 rfl 28 _ _ rfl rfl rfl Try.underlying28 rfl SQ.out ?_)
            | (refine wpList_load_st h9 1 rfl 31 _ _ rfl rfl rfl Try.underlying31 rfl sz31 ?_)
            | (go_at_call 25; refine (NX.out _ hr9).mono ?_; rintro e W10 ⟨A10, c10, rfl, hr10, hb⟩; have h10 := h9.call hb; clear h9 hr9 hb c5)
            | (refine wpList_alloc_st h10 31 rfl rfl _ #[.int .u64 0, .slice none 0 0] zv31 rfl ?_; clear h10; intro W11 h11 _ b11; have hr11 := hr10.below b11; have z11 := b11.size; clear hr10 b11)
            | (refine wpList_store_st h11 2 rfl 31 _ _ rfl rfl rfl rfl sz31 rfl (cell2 _ _ _ _) ?_; intro W12 h12 hg12; have hr12 := (hr11.beside hg12 z11).wider (Nat.le_trans z11 hg12.size); have c6 := PBlk.c6 (h12.get 0 rfl); clear h11 hr11 hg12 z11))
          have H0 : Hid (St w W12.drew [(w.heap.size, 28, q.arr), (W10.heap.size, 31, #[.int .u64 1, .slice A10 n c10])]) := (St.drop1 h12).drew
          have hr9 : IRow W12.drew W12.drew.heap.size A10 n c10 (List.replicate n 0) := hr12
          have p3 := P3.out
          refine wp_region_held_drew (S := fun W => St w W [(w.heap.size, 28, q.arr), (W10.heap.size, 31, #[.int .u64 1, .slice A10 n c10])]) (by kernel_rfl) H0.out (fun _ => ?_)
          generalize W12.drew = V0 at *
          generalize W10.heap.size = g10 at *
          clear h12 hr12 c6
          refine wpAnyH_take (i := 0) (v := .int .i64 0) rfl (by kernel_rfl) (by kernel_rfl) (by kernel_rfl) (fun _ _ _ h => h) (Or.inl ⟨by rfl, fun W hW => by clear hW; go_simp⟩) (H0.out) ?_
          try simp only [Act.put, List.getElem_toArray, List.getElem_cons_succ, List.getElem_cons_zero, List.setIfInBounds_toArray, List.set_cons_zero, List.set_cons_succ]
          refine wpAnyH_take (i := 1) (v := .bool true) rfl (by kernel_rfl) (by kernel_rfl) (by kernel_rfl) (fun _ _ _ h => h) (Or.inl ⟨by rfl, fun W hW => by clear hW; go_simp⟩) (H0.out) ?_
          try simp only [Act.put, List.getElem_toArray, List.getElem_cons_succ, List.getElem_cons_zero, List.setIfInBounds_toArray, List.set_cons_zero, List.set_cons_succ]
          refine wpAnyH_take (i := 2) (v := .bool true) rfl (by kernel_rfl) (by kernel_rfl) (by kernel_rfl) (fun _ _ _ h => h) (Or.inl ⟨by rfl, fun W hW => by clear hW; go_simp⟩) (H0.out) ?_
          try simp only [Act.put, List.getElem_toArray, List.getElem_cons_succ, List.getElem_cons_zero, List.setIfInBounds_toArray, List.set_cons_zero, List.set_cons_succ]
          refine wpAnyH_take (i := 3) (v := .bool true) rfl (by kernel_rfl) (by kernel_rfl) (by kernel_rfl) (fun _ _ _ h => h) (Or.inl ⟨by rfl, fun W hW => by clear hW; go_simp⟩) (H0.out) ?_
          try simp only [Act.put, List.getElem_toArray, List.getElem_cons_succ, List.getElem_cons_zero, List.setIfInBounds_toArray, List.set_cons_zero, List.set_cons_succ]
          refine wpAnyH_take (i := 4) (v := .bool true) rfl (by kernel_rfl) (by kernel_rfl) (by kernel_rfl) (fun _ _ _ h => h) (Or.inl ⟨by rfl, fun W hW => by clear hW; go_simp⟩) (H0.out) ?_
          try simp only [Act.put, List.getElem_toArray, List.getElem_cons_succ, List.getElem_cons_zero, List.setIfInBounds_toArray, List.set_cons_zero, List.set_cons_succ]
          refine wpAnyH_take (i := 5) (v := .bool true) rfl (by kernel_rfl) (by kernel_rfl) (by kernel_rfl) (fun _ _ _ h => h) (Or.inl ⟨by rfl, fun W hW => by clear hW; go_simp⟩) (H0.out) ?_
          try simp only [Act.put, List.getElem_toArray, List.getElem_cons_succ, List.getElem_cons_zero, List.setIfInBounds_toArray, List.set_cons_zero, List.set_cons_succ]
          refine wpAnyH_take (i := 6) (v := .pointer (some ⟨g10, 0, none⟩)) rfl (by kernel_rfl) (by kernel_rfl) (by kernel_rfl) (fun _ _ _ h => h) (Or.inl ⟨by rfl, fun W hW => by clear hW; go_simp⟩) (H0.out) ?_
          try simp only [Act.put, List.getElem_toArray, List.getElem_cons_succ, List.getElem_cons_zero, List.setIfInBounds_toArray, List.set_cons_zero, List.set_cons_succ]
          refine wpAnyH_take (i := 7) (v := .int .u64 1) rfl (by kernel_rfl) (by kernel_rfl) (by kernel_rfl) (fun _ _ _ h => h) (Or.inl ⟨by rfl, fun W hW => by have hc := hW.cell 1 rfl 0 (.int .u64 1) rfl; clear hW; go_simp⟩) (H0.out) ?_
          try simp only [Act.put, List.getElem_toArray, List.getElem_cons_succ, List.getElem_cons_zero, List.setIfInBounds_toArray, List.set_cons_zero, List.set_cons_succ]
          refine wpAnyH_take (i := 8) (v := .bool true) rfl (by kernel_rfl) (by kernel_rfl) (by kernel_rfl) (fun _ _ _ h => h) (Or.inl ⟨by rfl, fun W hW => by clear hW; go_simp⟩) (H0.out) ?_
          try simp only [Act.put, List.getElem_toArray, List.getElem_cons_succ, List.getElem_cons_zero, List.setIfInBounds_toArray, List.set_cons_zero, List.set_cons_succ]
          refine wpAnyH_take (i := 9) (v := .bool true) rfl (by kernel_rfl) (by kernel_rfl) (by kernel_rfl) (fun _ _ _ h => h) (Or.inl ⟨by rfl, fun W hW => by clear hW; go_simp⟩) (H0.out) ?_
          try simp only [Act.put, List.getElem_toArray, List.getElem_cons_succ, List.getElem_cons_zero, List.setIfInBounds_toArray, List.set_cons_zero, List.set_cons_succ]
          refine wpAnyH_take (i := 10) (v := .bool true) rfl (by kernel_rfl) (by kernel_rfl) (by kernel_rfl) (fun _ _ _ h => h) (Or.inl ⟨by rfl, fun W hW => by clear hW; go_simp⟩) (H0.out) ?_
          try simp only [Act.put, List.getElem_toArray, List.getElem_cons_succ, List.getElem_cons_zero, List.setIfInBounds_toArray, List.set_cons_zero, List.set_cons_succ]
          refine wpAnyH_take (i := 11) (v := .agg #[.int .u64 1, .slice A10 n c10]) rfl (by kernel_rfl) (by kernel_rfl) (by kernel_rfl) (fun _ _ _ h => h) (yields_at 31 _ _ rfl (by rfl) rfl Try.underlying31 rfl sz31 (fun W hW => hW.get 1 rfl)) (H0.out) ?_
          try simp only [Act.put, List.getElem_toArray, List.getElem_cons_succ, List.getElem_cons_zero, List.setIfInBounds_toArray, List.set_cons_zero, List.set_cons_succ]
          refine wpAnyH_take (i := 12) (v := .pointer (some ⟨w.heap.size, 3, none⟩)) rfl (by kernel_rfl) (by kernel_rfl) (by kernel_rfl) (fun _ _ _ h => h) (Or.inl ⟨by rfl, fun W hW => by clear hW; go_simp⟩) (H0.out) ?_
          try simp only [Act.put, List.getElem_toArray, List.getElem_cons_succ, List.getElem_cons_zero, List.setIfInBounds_toArray, List.set_cons_zero, List.set_cons_succ]
          refine wpAnyH_take (i := 13) (v := .int .i64 (n : Int)) rfl (by kernel_rfl) (by kernel_rfl) (by kernel_rfl) (fun _ _ _ h => h) (Or.inl ⟨by rfl, fun W hW => by have hc := (hW.cell 0 rfl 3 (.int .i64 (n : Int)) p3); clear hW; go_simp⟩) (H0.out) ?_
          try simp only [Act.put, List.getElem_toArray, List.getElem_cons_succ, List.getElem_cons_zero, List.setIfInBounds_toArray, List.set_cons_zero, List.set_cons_succ]
          refine wpAnyH_ready (rs := [14]) (by kernel_rfl) (by simp) ?_
          refine (AllReadyH.cons rfl (fun K hK => ?_) AllReadyH.nil)
          rw [if_pos (by rfl)]
          refine wp_make_st H0.out _ _ rfl n rfl rfl (by omega) ?_
          intro V1 F1 B1
          replace hr9 := (hr9.below B1).wider B1.size
          refine hK.out _ _ (F1.pre) (fun _ => ?_)
          clear hK K
          try simp only [Act.put, List.getElem_toArray, List.getElem_cons_succ, List.getElem_cons_zero, List.setIfInBounds_toArray, List.set_cons_zero, List.set_cons_succ]
          refine wpAnyH_take (i := 15) (v := .agg #[.int .u64 1, .slice (some ⟨V0.heap.size, 0, none⟩) n n]) rfl (by kernel_rfl) (by kernel_rfl) (by kernel_rfl) (fun _ _ _ h => h) (Or.inl ⟨by rfl, fun W hW => by clear hW; go_simp⟩) (F1.pre) ?_
          try simp only [Act.put, List.getElem_toArray, List.getElem_cons_succ, List.getElem_cons_zero, List.setIfInBounds_toArray, List.set_cons_zero, List.set_cons_succ]
          refine wpAnyH_ready (rs := [16]) (by kernel_rfl) (by simp) ?_
          refine (AllReadyH.cons rfl (fun K hK => ?_) AllReadyH.nil)
          go_simp
          go_at_call 13
          refine (SM.out _ _ _ _ _ hr9 ((F1.get 2 rfl).irow (fun x hx => by rw [List.eq_of_mem_replicate hx]; simp [I64]) n (by simp) (by omega))).mono ?_
          rintro e V2 ⟨rfl, hb⟩
          have F2 := F1.call hb
          refine hK.out _ _ (F2.pre) (fun _ => ?_)
          clear hK K
          try simp only [Act.put, List.getElem_toArray, List.getElem_cons_succ, List.getElem_cons_zero, List.setIfInBounds_toArray, List.set_cons_zero, List.set_cons_succ]
          refine wpAnyH_take (i := 17) (v := .bool true) rfl (by kernel_rfl) (by kernel_rfl) (by kernel_rfl) (fun _ _ _ h => h) (Or.inl ⟨by rfl, fun W hW => by clear hW; go_simp⟩) (F2.pre) ?_
          try simp only [Act.put, List.getElem_toArray, List.getElem_cons_succ, List.getElem_cons_zero, List.setIfInBounds_toArray, List.set_cons_zero, List.set_cons_succ]
          refine wpAnyH_take (i := 18) (v := .bool true) rfl (by kernel_rfl) (by kernel_rfl) (by kernel_rfl) (fun _ _ _ h => h) (Or.inl ⟨by rfl, fun W hW => by clear hW; go_simp⟩) (F2.pre) ?_
          try simp only [Act.put, List.getElem_toArray, List.getElem_cons_succ, List.getElem_cons_zero, List.setIfInBounds_toArray, List.set_cons_zero, List.set_cons_succ]
          refine wpAnyH_done (by kernel_rfl) ?_ _
          go_wp2
          go_ret
          exact ⟨rfl, F2.bel⟩
end Go.Proofs.Ytcepncdolbfcfaa
