/- The law of a queue's turns. No statement is proved here. -/
import Derived.Test.YtacjdeppigdbjaaOrderWalk
import Derived.Test.YtacjdeppigdbjaaSlc
namespace Go.Proofs.Ytacjdeppigdbjaa
open Go.RowKit
set_option linter.unusedVariables false
set_option linter.unusedSimpArgs false

theorem box_range {W : World} {b : Nat} {m : Msg} (h : At W b 31 m.arr) : W.rangeAt b 0 m.cs := fun j v hv => by
  rw [Nat.zero_add, h.cell]
  simpa [Msg.arr] using hv
theorem all_row {w W : World} {g R b N : Nat} {xs : List Msg} {L : Blks} (h : QQ w W g R xs ((b, C 31 (marr xs)) :: L)) (hN : xs.length = N) : ERow W W.heap.size (some ⟨b, 0, none⟩) xs.length xs.length xs :=
  h.at_.mrow xs.length xs.length rfl (Nat.le_refl _) (by have := h.1; have := h.2.1; unfold maxLen; omega)
theorem from_row {w V : World} {A : Option Addr} {n c : Nat} {xs : List Msg} (h : ERow w w.heap.size A n c xs) (hb : Below w.heap.size w V) (k : Nat) (hk : k ≤ n) : ERow V w.heap.size (dropA A c k 38) (n - k) (c - k) (xs.drop k) := (h.below hb).from_ k hk
attribute [local irreducible] Msg.arr bufM marr
def R3 (w : World) (g R : Nat) (list : List Msg) (o i : Value) (wr : World) : Prop :=
  ∃ k out : Nat, k ≤ list.length ∧ out ≤ k ∧ i = .int .i64 (k : Nat) ∧ o = .int .i64 (out : Nat) ∧ QQ w wr g R ((list.take k).drop out) []
set_option maxRecDepth 20000 in
set_option maxHeartbeats 8000000 in
theorem turns_walk (room : Int) (A : Option Addr) (n c : Nat) (list : List Msg) (w : World) (hr : ERow w w.heap.size A n c list) :
    Calls Try.prog 5 #[.int .i64 room, .slice A n c] w fun e w' => e = .returned (.bool true) ∧ Below w.heap.size w w' := by
  have SK := Lib.hid (fun W => speaks_any W)
  have hl := hr.len
  have mx := hr.max
  by_cases h100 : 200 < n
  · have q : ((200 : Int) < (n : Int)) = True := eq_true (by omega)
    have q' : decide ((200 : Int) < (n : Int)) = true := decide_eq_true (by omega)
    clear hr
    go_enter Try.func5, Try.ntmps5
    go_wp2_with (go_at_call 9; refine (SK.out _).mono ?_; rintro e W1 ⟨rfl, hb⟩)
    go_ret
    exact ⟨rfl, hb⟩
  have q : ((200 : Int) < (n : Int)) = False := eq_false (by omega)
  have q' : decide ((200 : Int) < (n : Int)) = false := decide_eq_false (by omega)
  by_cases hr1 : room < 1
  · have p1 : decide (room < 1) = true := decide_eq_true hr1
    clear hr
    go_enter Try.func5, Try.ntmps5
    go_wp2_with (go_at_call 9; refine (SK.out _).mono ?_; rintro e W1 ⟨rfl, hb⟩)
    go_ret
    exact ⟨rfl, hb⟩
  have p1 : decide (room < 1) = false := decide_eq_false hr1
  by_cases h50 : 50 < room
  · have p2 : decide (50 < room) = true := decide_eq_true h50
    clear hr
    go_enter Try.func5, Try.ntmps5
    go_wp2_with (go_at_call 9; refine (SK.out _).mono ?_; rintro e W1 ⟨rfl, hb⟩)
    go_ret
    exact ⟨rfl, hb⟩
  have p2 : decide (50 < room) = false := decide_eq_false h50
  obtain ⟨R, rfl⟩ : ∃ R : Nat, room = (R : Int) := ⟨room.toNat, by omega⟩
  have hR : clampR (R : Int) = R := by unfold clampR; omega
  have NW := Lib.hid (fun W (h : St w W []) => qnew_any (R : Int) h)
  rw [hR] at NW
  clear hR
  obtain ⟨b1, o1, hA⟩ := hr.addr
  replace hA := Lib.hid hA
  have HC := Lib.hid hr.2.1
  have HR := Lib.hid hr
  replace hl := Lib.hid hl
  have S0 := Lib.hid (St.nil w)
  have hR1 : 1 ≤ R ∧ R ≤ 50 := by omega
  clear hr
  go_enter Try.func5, Try.ntmps5
  go_wp2_with (first
    | (go_at_call 9; refine (SK.out _).mono ?_; rintro e W1 ⟨rfl, hb⟩; have h0 := S0.out.call hb; clear hb SK)
    | (have _ := h0; go_at_call 10; refine (NW.out _ h0).mono ?_; clear h0; rintro e W2 ⟨g, rfl, h1⟩; clear NW))
  clear p1 p2 hr1 h50 q'
  go_loopw [6, 28] (R3 w g R list) (fun _ i _ => n - (intOf i).toNat)
  case atStart => exact ⟨0, 0, by omega, by omega, rfl, rfl, h1⟩
  case round =>
    obtain ⟨i, out, hi, ho, rfl, rfl, h3⟩ := hrel
    rw [hl.out] at hi
    clear h1
    by_cases hlt : i < n
    · have g1 : ((i : Int) < (n : Int)) = True := eq_true (by omega)
      have hi2 : i < list.length := by have := hl.out; omega
      have hm : list[i]? = some list[i] := List.getElem?_eq_getElem hi2
      generalize list[i] = m at *
      have hA2 := hA.out (by omega)
      subst hA2
      obtain ⟨hb1, r1⟩ := HR.out.at2 i m hm
      have r1' : w.rangeAt b1 (o1 + i * 38) m.cs := r1
      have tl := Lib.hid (show ((list.take i).drop out).length = i - out by simp; omega)
      replace r1' := Lib.hid r1'
      replace hb1 := Lib.hid hb1
      have hle := h3.1
      rw [tl.out] at hle
      clear r1 hi2
      have hoR : (R : Int) - ((i - out : Nat) : Int) = (R : Int) - ((i : Int) - (out : Int)) := by omega
      by_cases hfull : i - out = R
      · obtain ⟨x, hx, hd⟩ := take_at list i out (by omega) (by have := hl.out; simp; omega)
        obtain ⟨hb2, r2⟩ := HR.out.at2 out x hx
        have r2' : w.rangeAt b1 (o1 + out * 38) x.cs := r2
        replace r2' := Lib.hid r2'
        have hon : out < n := by omega
        have YE := Lib.hid (show (list.take i).drop (out + 1) ++ [m] = (list.take (i + 1)).drop (out + 1) by
          rw [List.take_add_one, hm, List.drop_append_of_le_length (by have := hl.out; simp; omega)]; rfl)
        have XL := Lib.hid (show ((list.take i).drop (out + 1)).length < R by have := hl.out; simp; omega)
        have YL := Lib.hid (show ((list.take (i + 1)).drop (out + 1)).length = R by have := hl.out; simp; omega)
        have NQ : ∀ W, (binOp .neq 31 (.agg x.arr) (.agg x.arr)).run Try.prog W = .ok (.bool false) W := fun W => by rw [neq_msg, decide_eq_true rfl]; rfl
        have wi : ((R : Int) != (i : Int) + 1 - ((out : Int) + 1)) = false := by simp; omega
        have HD := Lib.hid (show (x :: (list.take i).drop (out + 1)).length = R by have := hl.out; simp; omega)
        rw [hd] at h3
        replace hx := Lib.hid hx
        replace hm := Lib.hid hm
        have hout := Lib.hid (show out + 1 ≤ i + 1 by omega)
        replace hfull := Lib.hid hfull
        clear r2 hb2 hle hd
        go_wp2_with (first
          | (have _ := h3; refine wpList_loadM (m := m) (b := b1) (off := o1 + i * 38) (rangeAt_keep r1'.out (h3.bel.block _ hb1.out)) (.tmp 31) rfl rfl rfl ?_)
          | (have _ := h3; refine wpList_alloc_q h3 31 rfl rfl _ zmsg.arr zero31 rfl ?_; intro X2 h5; clear h3; generalize wr.heap.size = bm at *)
          | (have _ := h5; refine wpList_store_q (arr' := m.arr) h5 0 rfl 31 (.tmp 8) (.tmp 32) rfl rfl rfl rfl (by rw [Msg.arr_size]; exact sz31) (by simp only [Msg.arr_size]) (Msg.arr_one _) ?_; clear h5; intro X3 h6)
          | (have _ := h6; go_at_call 18; refine (room_any h6).mono ?_; rintro e X4 ⟨rfl, j4, rfl⟩; rw [HD.out]; have h7 := h6.drewN j4; clear h6)
          | (have _ := h7; go_at_call 12; refine (take_cons h7).mono ?_; clear h7; rintro e X5 ⟨rfl, h8⟩)
          | (have _ := h8; refine wpList_alloc_q h8 31 rfl rfl _ zmsg.arr zero31 rfl ?_; intro X6 h9; clear h8; generalize X5.heap.size = b at *)
          | (have _ := h9; refine wpList_store_q (arr' := x.arr) h9 0 rfl 31 (.tmp 9) (.tmp 39) rfl rfl rfl rfl (by rw [Msg.arr_size]; exact sz31) (by simp only [Msg.arr_size]) (Msg.arr_one _) ?_; clear h9; intro X7 h10))
        have hq : QQ w X7.drew g R _ _ := h10.drewN 1
        have H0 := Lib.hid (show At X7.drew b 31 x.arr ∧ X7.drew.rangeAt b1 (o1 + out * 38) x.cs from ⟨hq.at2 0 rfl, rangeAt_keep r2'.out (hq.bel.block _ hb1.out)⟩)
        refine wp_region_held_drew (S := fun W => At W b 31 x.arr ∧ W.rangeAt b1 (o1 + out * 38) x.cs) (by kernel_rfl) H0.out (fun _ => ?_)
        clear h10
        generalize X7.drew = V0 at *
        refine wpAnyH_take (i := 0) (v := .int .i64 0) rfl (by kernel_rfl) (by kernel_rfl) (by kernel_rfl) (fun _ _ _ h => h) (Or.inl ⟨by rfl, fun W hW => by clear hW; go_simp⟩) H0.out ?_
        try simp only [Act.put, List.getElem_toArray, List.getElem_cons_succ, List.getElem_cons_zero, List.setIfInBounds_toArray, List.set_cons_zero, List.set_cons_succ]
        refine wpAnyH_take (i := 1) (v := .bool false) rfl (by kernel_rfl) (by kernel_rfl) (by kernel_rfl) (fun _ _ _ h => h) (Or.inl ⟨by rfl, fun W hW => by clear hW; go_simp⟩) H0.out ?_
        try simp only [Act.put, List.getElem_toArray, List.getElem_cons_succ, List.getElem_cons_zero, List.setIfInBounds_toArray, List.set_cons_zero, List.set_cons_succ]
        refine wpAnyH_take (i := 2) (v := .bool false) rfl (by kernel_rfl) (by kernel_rfl) (by kernel_rfl) (fun _ _ _ h => h) (Or.inl ⟨by rfl, fun W hW => by clear hW; go_simp⟩) H0.out ?_
        try simp only [Act.put, List.getElem_toArray, List.getElem_cons_succ, List.getElem_cons_zero, List.setIfInBounds_toArray, List.set_cons_zero, List.set_cons_succ]
        refine wpAnyH_take (i := 3) (v := .agg x.arr) rfl (by kernel_rfl) (by kernel_rfl) (by kernel_rfl) (fun _ _ _ h => h) (yields_at 31 _ _ rfl (by rfl) rfl Try.underlying31 rfl (by rw [Msg.arr_size]; exact sz31) (fun W hW => hW.1)) H0.out ?_
        try simp only [Act.put, List.getElem_toArray, List.getElem_cons_succ, List.getElem_cons_zero, List.setIfInBounds_toArray, List.set_cons_zero, List.set_cons_succ]
        refine wpAnyH_take (i := 4) (v := .slice (some ⟨b1, o1, none⟩) n c) rfl (by kernel_rfl) (by kernel_rfl) (by kernel_rfl) (fun _ _ _ h => h) (Or.inl ⟨by rfl, fun W hW => by clear hW; go_simp⟩) H0.out ?_
        try simp only [Act.put, List.getElem_toArray, List.getElem_cons_succ, List.getElem_cons_zero, List.setIfInBounds_toArray, List.set_cons_zero, List.set_cons_succ]
        refine wpAnyH_take (i := 5) (v := .int .i64 (out : Int)) rfl (by kernel_rfl) (by kernel_rfl) (by kernel_rfl) (fun _ _ _ h => h) (Or.inl ⟨by rfl, fun W hW => by clear hW; go_simp⟩) H0.out ?_
        try simp only [Act.put, List.getElem_toArray, List.getElem_cons_succ, List.getElem_cons_zero, List.setIfInBounds_toArray, List.set_cons_zero, List.set_cons_succ]
        refine wpAnyH_take (i := 6) (v := .pointer (some ⟨b1, o1 + out * 38, none⟩)) rfl (by kernel_rfl) (by kernel_rfl) (by kernel_rfl) (fun _ _ _ h => h) (Or.inl ⟨by rfl, fun W hW => by clear hW; go_simp⟩) H0.out ?_
        try simp only [Act.put, List.getElem_toArray, List.getElem_cons_succ, List.getElem_cons_zero, List.setIfInBounds_toArray, List.set_cons_zero, List.set_cons_succ]
        refine wpAnyH_take (i := 7) (v := .agg x.arr) rfl (by kernel_rfl) (by kernel_rfl) (by kernel_rfl) (fun _ _ _ h => h) (yields_loadM _ rfl (by rfl) rfl (fun W hW => hW.2)) H0.out ?_
        try simp only [Act.put, List.getElem_toArray, List.getElem_cons_succ, List.getElem_cons_zero, List.setIfInBounds_toArray, List.set_cons_zero, List.set_cons_succ]
        refine wpAnyH_take (i := 8) (v := .bool false) rfl (by kernel_rfl) (by kernel_rfl) (by kernel_rfl) (fun _ _ _ h => h) (Or.inl ⟨by rfl, fun W hW => by clear hW; go_simp⟩) H0.out ?_
        try simp only [Act.put, List.getElem_toArray, List.getElem_cons_succ, List.getElem_cons_zero, List.setIfInBounds_toArray, List.set_cons_zero, List.set_cons_succ]
        refine wpAnyH_take (i := 9) (v := .bool false) rfl (by kernel_rfl) (by kernel_rfl) (by kernel_rfl) (fun _ _ _ h => h) (Or.inl ⟨by rfl, fun W hW => by clear hW; go_simp⟩) H0.out ?_
        try simp only [Act.put, List.getElem_toArray, List.getElem_cons_succ, List.getElem_cons_zero, List.setIfInBounds_toArray, List.set_cons_zero, List.set_cons_succ]
        refine wpAnyH_done (by kernel_rfl) ?_ _
        replace hq := hq.tail
        have BX := Lib.hid (hq.at2 0 rfl)
        go_wp2_with (first
          | (have _ := hq; refine wpList_loadM (m := m) (b := bm) (off := 0) (box_range BX.out) (.tmp 8) rfl rfl rfl ?_)
          | (have _ := hq; go_at_call 14; refine (put_ok hq XL.out).mono ?_; clear hq; rintro e X5 ⟨rfl, hz⟩; rw [YE.out] at hz)
          | (have _ := hz; go_at_call 17; refine (len_any hz).mono ?_; rintro e X6 ⟨rfl, j6, rfl⟩; replace hz := hz.drewN j6; (try rw [World.drewN_drewN] at hz); rw [YL.out])
          | (have _ := hz; go_at_call 18; refine (room_any hz).mono ?_; rintro e X7 ⟨rfl, j7, rfl⟩; replace hz := hz.drewN j7; (try rw [World.drewN_drewN] at hz); rw [YL.out]))
        go_roundw
        case rel => exact ⟨i + 1, out + 1, by have := hl.out; omega, by omega, by go_num, by go_num, hz.sub (List.nil_sublist _)⟩
        case measure => simp [intOf]; omega
      · have hle2 : i - out < R := by omega
        have YE := Lib.hid (show (list.take i).drop out ++ [m] = (list.take (i + 1)).drop out by
          rw [List.take_add_one, hm, List.drop_append_of_le_length (by have := hl.out; simp; omega)]; rfl)
        have XL := Lib.hid (show ((list.take i).drop out).length < R by rw [tl.out]; exact hle2)
        obtain ⟨d, hd⟩ : ∃ d, d = i - out := ⟨_, rfl⟩
        have YL0 : ((list.take (i + 1)).drop out).length = d + 1 := by have := hl.out; simp; omega
        have z1 : ((R : Int) - (d : Int) == 0) = false := by simp; omega
        have HD := Lib.hid (show ((list.take i).drop out).length = d by rw [tl.out, hd])
        obtain ⟨N, hN⟩ : ∃ N, N = d + 1 := ⟨_, rfl⟩
        rw [← hN] at YL0
        have YL := Lib.hid YL0
        have wi : ((N : Int) != (i : Int) + 1 - (out : Int)) = false := by simp; omega
        have wr2 : ((N : Int) + ((R : Int) - (N : Int)) != (R : Int)) = false := by simp; omega
        have hNb : N ≤ 60 := by omega
        replace hm := Lib.hid hm
        have hout := Lib.hid (show out ≤ i + 1 by omega)
        clear hle hd hle2 YL0 hfull hN
        go_wp2_with (first
          | (have _ := h3; refine wpList_loadM (m := m) (b := b1) (off := o1 + i * 38) (rangeAt_keep r1'.out (h3.bel.block _ hb1.out)) (.tmp 31) rfl rfl rfl ?_)
          | (have _ := h3; refine wpList_alloc_q h3 31 rfl rfl _ zmsg.arr zero31 rfl ?_; intro X2 h5; clear h3; generalize wr.heap.size = bm at *)
          | (have _ := h5; refine wpList_store_q (arr' := m.arr) h5 0 rfl 31 (.tmp 8) (.tmp 32) rfl rfl rfl rfl (by rw [Msg.arr_size]; exact sz31) (by simp only [Msg.arr_size]) (Msg.arr_one _) ?_; clear h5; intro X3 h6)
          | (have _ := h6; go_at_call 18; refine (room_any h6).mono ?_; rintro e X4 ⟨rfl, j4, rfl⟩; rw [HD.out]; have hq := h6.drewN j4; have BX := Lib.hid (hq.at2 0 rfl); clear h6)
          | (have _ := hq; refine wpList_loadM (m := m) (b := bm) (off := 0) (box_range BX.out) (.tmp 8) rfl rfl rfl ?_)
          | (have _ := hq; go_at_call 14; refine (put_ok hq XL.out).mono ?_; clear hq; rintro e X5 ⟨rfl, hz⟩; rw [YE.out] at hz)
          | (have _ := hz; go_at_call 17; refine (len_any hz).mono ?_; rintro e X6 ⟨rfl, j6, rfl⟩; replace hz := hz.drewN j6; (try rw [World.drewN_drewN] at hz); rw [YL.out])
          | (have _ := hz; go_at_call 18; refine (room_any hz).mono ?_; rintro e X7 ⟨rfl, j7, rfl⟩; replace hz := hz.drewN j7; (try rw [World.drewN_drewN] at hz); rw [YL.out]))
        go_roundw
        case rel => exact ⟨i + 1, out, by have := hl.out; omega, by omega, by go_num, by go_num, hz.sub (List.nil_sublist _)⟩
        case measure => simp [intOf]; omega
    · obtain rfl : n = i := by omega
      have g1 : ((n : Int) < (n : Int)) = False := eq_false (by omega)
      have hys : (list.take n).drop out = list.drop out := by rw [List.take_of_length_le (by rw [hl.out]; exact Nat.le_refl _)]
      rw [hys] at h3
      have YL := Lib.hid (show (list.drop out).length = n - out by rw [List.length_drop, hl.out])
      have HO := Lib.hid ho
      go_wp2
      generalize hyy : list.drop out = ys at *
      replace hyy := Lib.hid hyy
      replace h3 : QQ w wr.drew g R ys [] := h3.drewN 1
      have H0 := Lib.hid (trivial : True)
      refine wp_region_held_drew (S := fun W => True) (by kernel_rfl) H0.out (fun _ => ?_)
      generalize wr.drew = V0 at *
      refine wpAnyH_take (i := 0) (v := .pointer (some ⟨g, 0, none⟩)) rfl (by kernel_rfl) (by kernel_rfl) (by kernel_rfl) (fun _ _ _ h => h) (Or.inl ⟨by rfl, fun W hW => by clear hW; go_simp⟩) H0.out ?_
      try simp only [Act.put, List.getElem_toArray, List.getElem_cons_succ, List.getElem_cons_zero, List.setIfInBounds_toArray, List.set_cons_zero, List.set_cons_succ]
      refine wpAnyH_take (i := 2) (v := .slice A n c) rfl (by kernel_rfl) (by kernel_rfl) (by kernel_rfl) (fun _ _ _ h => h) (Or.inl ⟨by rfl, fun W hW => by clear hW; go_simp⟩) H0.out ?_
      try simp only [Act.put, List.getElem_toArray, List.getElem_cons_succ, List.getElem_cons_zero, List.setIfInBounds_toArray, List.set_cons_zero, List.set_cons_succ]
      refine wpAnyH_take (i := 3) (v := .int .i64 (out : Int)) rfl (by kernel_rfl) (by kernel_rfl) (by kernel_rfl) (fun _ _ _ h => h) (Or.inl ⟨by rfl, fun W hW => by clear hW; go_simp⟩) H0.out ?_
      try simp only [Act.put, List.getElem_toArray, List.getElem_cons_succ, List.getElem_cons_zero, List.setIfInBounds_toArray, List.set_cons_zero, List.set_cons_succ]
      refine wpAnyH_take (i := 4) (v := .slice (dropA A c out 38) (n - out) (c - out)) rfl (by kernel_rfl) (by kernel_rfl) (by kernel_rfl) (fun _ _ _ h => h) (Or.inl ⟨by rfl, fun W hW => exec_slice_from (α := Msg) (.tmp 78) (.tmp 79) rfl rfl rfl HO.out HC.out W⟩) H0.out ?_
      try simp only [Act.put, List.getElem_toArray, List.getElem_cons_succ, List.getElem_cons_zero, List.setIfInBounds_toArray, List.set_cons_zero, List.set_cons_succ]
      refine wpAnyH_ready (rs := [1]) (by kernel_rfl) (by simp) ?_
      refine AllReadyH.cons rfl (fun K hK => ?_) AllReadyH.nil
      go_simp
      go_at_call 20
      refine (all_any h3).mono ?_
      rintro e V1 ⟨b, rfl, h4⟩
      clear h3
      have H1_ := Lib.hid (trivial : True)
      have FS := same_any _ _ _ _ _ _ _ _ _ _ V1 (all_row h4 rfl) (from_row HR.out h4.bel out HO.out)
      rw [hyy.out, decide_eq_true rfl] at FS
      replace FS := Lib.hid FS
      refine hK.out _ _ H1_.out (fun _ => ?_)
      clear hK K
      try simp only [Act.put, List.getElem_toArray, List.getElem_cons_succ, List.getElem_cons_zero, List.setIfInBounds_toArray, List.set_cons_zero, List.set_cons_succ]
      refine wpAnyH_ready (rs := [5]) (by kernel_rfl) (by simp) ?_
      refine AllReadyH.cons rfl (fun K hK => ?_) AllReadyH.nil
      go_simp
      go_at_call 19
      refine (FS.out).mono ?_
      rintro e V2 ⟨rfl, j2, rfl⟩
      have H2_ := Lib.hid (trivial : True)
      refine hK.out _ _ H2_.out (fun _ => ?_)
      clear hK K
      try simp only [Act.put, List.getElem_toArray, List.getElem_cons_succ, List.getElem_cons_zero, List.setIfInBounds_toArray, List.set_cons_zero, List.set_cons_succ]
      refine wpAnyH_take (i := 6) (v := .bool true) rfl (by kernel_rfl) (by kernel_rfl) (by kernel_rfl) (fun _ _ _ h => h) (Or.inl ⟨by rfl, fun W hW => by clear hW; go_simp⟩) H2_.out ?_
      try simp only [Act.put, List.getElem_toArray, List.getElem_cons_succ, List.getElem_cons_zero, List.setIfInBounds_toArray, List.set_cons_zero, List.set_cons_succ]
      refine wpAnyH_done (by kernel_rfl) ?_ _
      go_wp2
      go_ret
      exact ⟨rfl, (h4.drewN j2).bel⟩
end Go.Proofs.Ytacjdeppigdbjaa
