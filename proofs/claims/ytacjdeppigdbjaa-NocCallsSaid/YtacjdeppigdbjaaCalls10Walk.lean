/- The law of a net's calls. No statement is proved here. -/
import Derived.Test.YtacjdeppigdbjaaCall10
namespace Go.Proofs.Ytacjdeppigdbjaa
open Go.RowKit
set_option linter.unusedVariables false
set_option linter.unusedSimpArgs false
theorem room_all {n R : Nat} {c : Nat → List Msg} {l : Lk} (h : hasO n l = true) : roomOf n R c l = (R : Int) - ((allOf n c l).length : Nat) := by simp [roomOf, allOf, h]
theorem room_no {n R : Nat} {c : Nat → List Msg} {l : Lk} (h : hasO n l = false) : roomOf n R c l = 0 ∧ allOf n c l = [] := by simp [roomOf, allOf, h]
theorem bp_same {w W : World} {g gr n R N : Nat} {c : Nat → List Msg} {xs : List Sn} {al : List Msg} {L M35 M17 L2 : Blks} {v v17 : Value} {A : Option Addr} (k : BP w W g gr n R c xs (M35 ++ L) v) (hv : AllV (.slice A N N) al M35) (hr : RL v17 al M17) (hs : St w W (M17 ++ L2)) (hN : al.length ≤ 100000) :
    Calls Try.prog 19 #[.slice A N N, v17] W fun e w' => e = .returned (.bool true) ∧ ∃ j, w' = W.drewN j := by
  obtain ⟨q, u, ps, M0, hr0, h1⟩ := k
  obtain ⟨e1, e2⟩ := hv.row h1 (fun x hx => by simp [hx]) hN
  obtain ⟨A2, c2, rfl, _⟩ := hr.form
  have := same_any _ _ _ _ _ _ _ _ al al W e2 (hr.row hs rfl)
  rwa [decide_eq_true rfl] at this
def R2 (w : World) (X : Blks) (LN : Nat) (i : Value) (wr : World) : Prop :=
  ∃ k : Nat, k ≤ LN ∧ i = .int .i64 (k : Nat) ∧ St w wr X
attribute [local irreducible] Msg.arr bufM marr Cn.arr tkM tkK tkC sendK sendC hasO lsTo lks allOf roomOf msgsTo numsTo rcn narr parr mixp
def R10 (w : World) (g gr nn R n b7 : Nat) (l : Lk) (i : Value) (wr : World) : Prop :=
  ∃ (k : Nat) (c : Nat → List Msg) (xs : List Sn), k ≤ n ∧ i = .int .i64 (k : Nat) ∧ Rl nn c xs ∧ xs.length ≤ k ∧ BN w wr g gr nn R c xs [(b7, C 51 #[.int .i64 l.a, .int .i64 l.b, .int .i64 l.d])]
set_option maxRecDepth 20000 in
set_option maxHeartbeats 8000000 in
theorem calls10_walk (nodes room : Int) (A0 : Option Addr) (n c0 : Nat) (list : List Cn) (l : Lk) (w : World) (hr : ERow w w.heap.size A0 n c0 list) :
    Calls Try.prog 6 #[.int .i64 nodes, .int .i64 room, .slice A0 n c0, .agg #[.int .i64 l.a, .int .i64 l.b, .int .i64 l.d]] w fun e w' => e = .returned (.bool true) ∧ Below w.heap.size w w' := by
  have SK := Lib.hid (fun W => speaks10_any W)
  have hl := hr.len
  have mx := hr.max
  have S0 := Lib.hid (St.nil w)
  by_cases h100 : 60 < n
  · have q : ((60 : Int) < (n : Int)) = True := eq_true (by omega)
    clear hr
    go_enter Try.func6, Try.ntmps6
    go_wp2_with (first
      | (refine wpList_box_st S0.out 51 _ rfl rfl #[.int .i64 l.a, .int .i64 l.b, .int .i64 l.d] rfl ?_; intro W0 h0 _ _; replace h0 := h0.front; generalize w.heap.size = b7 at *)
      | (have _ := h0; go_at_call 21; refine (SK.out _).mono ?_; rintro e W1 ⟨rfl, hb⟩; replace h0 := h0.call hb; clear hb))
    go_ret
    exact ⟨rfl, h0.bel⟩
  have q : ((60 : Int) < (n : Int)) = False := eq_false (by omega)
  have NW := Lib.hid (fun W L (h : St w W L) => nnew_any nodes room h)
  have RW := Lib.hid (fun W g q u ps L (h : NX w W g q u (clampN nodes) (clampR room) ps (fun _ => []) L) => bn_new nodes room h)
  generalize clampR room = R at *
  generalize clampN nodes = nn at *
  obtain ⟨b1, o1, hA⟩ := hr.addr
  replace hA := Lib.hid hA
  have HR := Lib.hid hr
  replace hl := Lib.hid hl
  clear hr
  go_enter Try.func6, Try.ntmps6
  go_wp2_with (first
    | (refine wpList_box_st S0.out 51 _ rfl rfl #[.int .i64 l.a, .int .i64 l.b, .int .i64 l.d] rfl ?_; intro W0 h0 _ _; replace h0 := h0.front; generalize hb7 : w.heap.size = b7)
    | (have _ := h0; go_at_call 21; refine (SK.out _).mono ?_; rintro e W1 ⟨rfl, hb⟩; replace h0 := h0.call hb; clear hb SK)
    | (have _ := h0; go_at_call 22; refine (NW.out _ _ h0).mono ?_; clear h0; rintro e W2 ⟨g, q, u, ps, rfl, h1⟩; clear NW)
    | (have _ := h1; go_at_call 23; refine (RW.out _ _ _ _ _ _ h1).mono ?_; clear h1; rintro e W3 ⟨gr, rfl, h2⟩; clear RW))
  rw [hb7] at h2
  go_loopw [36] (R10 w g gr nn R n b7 l) (fun i _ => n - (intOf i).toNat)
  case atStart => exact ⟨0, _, [], by omega, rfl, Rl.nil (fun _ => rfl), by simp, h2⟩
  case round =>
    obtain ⟨k, c, xs, hk, rfl, hR, hlx, h3⟩ := hrel
    clear h2
    have HR1 := Lib.hid hR
    clear hR
    by_cases hlt : k < n
    · have g1 : ((k : Int) < (n : Int)) = True := eq_true (by omega)
      have hi2 : k < list.length := by have := hl.out; omega
      have hm : list[k]? = some list[k] := List.getElem?_eq_getElem hi2
      generalize list[k] = cl at *
      have hA2 := hA.out (by omega)
      subst hA2
      obtain ⟨hb1, r1⟩ := HR.out.at2 k cl hm
      have r1' : w.rangeAt b1 (o1 + k * 42) cl.cs := r1
      replace r1' := Lib.hid r1'
      replace hb1 := Lib.hid hb1
      clear r1 hi2 hm
      by_cases hw : cl.wh = 0
      · have hw0 := Lib.hid hw
        clear hw
        have B24 := Lib.hid (fun W L (h : BN w W g gr nn R c xs L) => bn24 h cl.l)
        have B26 := Lib.hid (fun W L (h : BN w W g gr nn R (tkC nn c cl.l) xs L) => bn26 h HR1.out (by have := hlx; omega) cl.l false)
        generalize tkM nn c cl.l = T at *
        generalize tkK nn c cl.l = K at *
        generalize tkC nn c cl.l = c2 at *
        have NQ : ∀ W, (binOp .neq 31 (.agg T.arr) (.agg T.arr)).run Try.prog W = .ok (.bool false) W := fun W => by rw [neq_msg, decide_eq_true rfl]; rfl
        go_wp2_with (first
          | (have _ := h3; refine wpList_load57 (c := cl) (b := b1) (off := o1 + k * 42) (rangeAt_keep r1'.out (h3.bel.block _ hb1.out)) (.tmp 38) rfl rfl rfl ?_)
          | (have _ := h3; refine wpList_alloc_bn h3 57 rfl rfl _ zcn.arr zero57 rfl ?_; intro X1 h4; clear h3; generalize wr.heap.size = b12 at *)
          | (have _ := h4; refine wpList_store_bn (arr' := cl.arr) h4 0 rfl 57 (.tmp 12) (.tmp 39) rfl rfl rfl rfl (by rw [Cn.arr_size]; exact sz57) (by simp only [Cn.arr_size]) (Cn.arr_one _) ?_; clear h4; intro X2 h4a; replace h4a : BN w X2 g gr nn R c xs [(b12, C 57 cl.arr), (b7, C 51 #[.int .i64 l.a, .int .i64 l.b, .int .i64 l.d])] := h4a; have c12 := h4a.st.cell 0 rfl 0 (.int .i64 cl.wh) cl.at0; rw [hw0.out] at c12)
          | (have _ := h4a; refine wpList_alloc_bn h4a 31 rfl rfl _ zmsg.arr zero31 rfl ?_; clear h4a c12; intro X3 h5; generalize X2.heap.size = b13 at *)
          | (have _ := h5; refine wpList_store_bn (arr' := zmsg.arr) h5 0 rfl 31 (.tmp 13) (.tmp 60) rfl rfl rfl (by rw [zarr_lit]; rfl) (by rw [Msg.arr_size]; exact sz31) (by simp only [Msg.arr_size]) (Msg.arr_one _) ?_; clear h5; intro X4 h6; replace h6 : BN w X4 g gr nn R c xs [(b13, C 31 zmsg.arr), (b12, C 57 cl.arr), (b7, C 51 #[.int .i64 l.a, .int .i64 l.b, .int .i64 l.d])] := h6; have c12 := h6.st.cell 1 rfl 0 (.int .i64 cl.wh) cl.at0; rw [hw0.out] at c12)
          | (have _ := h6; refine wpList_loadL (l := cl.l) (b := b12) (off := 1) (cn_link (h6.st.get 1 rfl)) (.tmp 66) rfl rfl rfl ?_)
          | (have _ := h6; go_at_call 24; refine (B24.out _ _ h6).mono ?_; clear h6 c12; rintro e X5 ⟨rfl, h7⟩)
          | (have _ := h7; refine wpList_store_bn (arr' := T.arr) h7 0 rfl 31 (.tmp 13) (.tmp 69) rfl rfl rfl rfl (by rw [Msg.arr_size]; exact sz31) (by simp only [Msg.arr_size]) (Msg.arr_one _) ?_; clear h7; intro X6 h8; replace h8 : BN w X6 g gr nn R c2 xs [(b13, C 31 T.arr), (b12, C 57 cl.arr), (b7, C 51 #[.int .i64 l.a, .int .i64 l.b, .int .i64 l.d])] := h8; have c12 := h8.st.cell 1 rfl 0 (.int .i64 cl.wh) cl.at0; rw [hw0.out] at c12)
          | (have _ := h8; refine wpList_loadL (l := cl.l) (b := b12) (off := 1) (cn_link (h8.st.get 1 rfl)) (.tmp 80) rfl rfl rfl ?_)
          | (have _ := h8; go_at_call 26; refine (B26.out _ _ h8).mono ?_; clear h8 c12; rintro e X7 ⟨rfl, xs2, h9, hR2, hl2⟩)
          | (have _ := h9; refine wpList_alloc_bn h9 31 rfl rfl _ zmsg.arr zero31 rfl ?_; clear h9; intro X8 h10; generalize X7.heap.size = b15 at *)
          | (have _ := h10; refine wpList_store_bn (arr' := T.arr) h10 0 rfl 31 (.tmp 15) (.tmp 86) rfl rfl rfl rfl (by rw [Msg.arr_size]; exact sz31) (by simp only [Msg.arr_size]) (Msg.arr_one _) ?_; clear h10; intro X9 h11; replace h11 : BN w X9 g gr nn R c2 xs2 [(b15, C 31 T.arr), (b13, C 31 T.arr), (b12, C 57 cl.arr), (b7, C 51 #[.int .i64 l.a, .int .i64 l.b, .int .i64 l.d])] := h11)
          | (have _ := h11; refine wpList_loadM (off := 0) (boxb_range (h11.st.get 1 rfl)) (.tmp 13) rfl rfl rfl ?_)
          | (have _ := h11; refine wpList_loadM (off := 0) (boxb_range (h11.st.get 0 rfl)) (.tmp 15) rfl rfl rfl ?_))
        go_roundw
        case rel => exact ⟨k + 1, c2, xs2, by omega, by go_num, by simpa using hR2, by omega, h11.sub ((((List.sublist_cons_self _ _).trans (List.sublist_cons_self _ _)).trans (List.sublist_cons_self _ _)))⟩
        case measure => simp [intOf]; omega
      by_cases hw1 : cl.wh = 1
      · replace hw := hw1
        clear hw1
        have hw0 := Lib.hid hw
        clear hw
        have B24 := Lib.hid (fun W L (h : BN w W g gr nn R c xs L) => bn25 h cl.l)
        have B26 := Lib.hid (fun W L (h : BN w W g gr nn R c xs L) => bn26 h HR1.out (by have := hlx; omega) cl.l true)
        generalize tkM nn c cl.l = T at *
        generalize tkK nn c cl.l = K at *
        have NQ : ∀ W, (binOp .neq 31 (.agg T.arr) (.agg T.arr)).run Try.prog W = .ok (.bool false) W := fun W => by rw [neq_msg, decide_eq_true rfl]; rfl
        go_wp2_with (first
          | (have _ := h3; refine wpList_load57 (c := cl) (b := b1) (off := o1 + k * 42) (rangeAt_keep r1'.out (h3.bel.block _ hb1.out)) (.tmp 38) rfl rfl rfl ?_)
          | (have _ := h3; refine wpList_alloc_bn h3 57 rfl rfl _ zcn.arr zero57 rfl ?_; intro X1 h4; clear h3; generalize wr.heap.size = b12 at *)
          | (have _ := h4; refine wpList_store_bn (arr' := cl.arr) h4 0 rfl 57 (.tmp 12) (.tmp 39) rfl rfl rfl rfl (by rw [Cn.arr_size]; exact sz57) (by simp only [Cn.arr_size]) (Cn.arr_one _) ?_; clear h4; intro X2 h4a; replace h4a : BN w X2 g gr nn R c xs [(b12, C 57 cl.arr), (b7, C 51 #[.int .i64 l.a, .int .i64 l.b, .int .i64 l.d])] := h4a; have c12 := h4a.st.cell 0 rfl 0 (.int .i64 cl.wh) cl.at0; rw [hw0.out] at c12)
          | (have _ := h4a; refine wpList_alloc_bn h4a 31 rfl rfl _ zmsg.arr zero31 rfl ?_; clear h4a c12; intro X3 h5; generalize X2.heap.size = b13 at *)
          | (have _ := h5; refine wpList_store_bn (arr' := zmsg.arr) h5 0 rfl 31 (.tmp 13) (.tmp 60) rfl rfl rfl (by rw [zarr_lit]; rfl) (by rw [Msg.arr_size]; exact sz31) (by simp only [Msg.arr_size]) (Msg.arr_one _) ?_; clear h5; intro X4 h6; replace h6 : BN w X4 g gr nn R c xs [(b13, C 31 zmsg.arr), (b12, C 57 cl.arr), (b7, C 51 #[.int .i64 l.a, .int .i64 l.b, .int .i64 l.d])] := h6; have c12 := h6.st.cell 1 rfl 0 (.int .i64 cl.wh) cl.at0; rw [hw0.out] at c12)
          | (have _ := h6; refine wpList_loadL (l := cl.l) (b := b12) (off := 1) (cn_link (h6.st.get 1 rfl)) (.tmp 73) rfl rfl rfl ?_)
          | (have _ := h6; go_at_call 25; refine (B24.out _ _ h6).mono ?_; clear h6 c12; rintro e X5 ⟨rfl, h7⟩)
          | (have _ := h7; refine wpList_store_bn (arr' := T.arr) h7 0 rfl 31 (.tmp 13) (.tmp 76) rfl rfl rfl rfl (by rw [Msg.arr_size]; exact sz31) (by simp only [Msg.arr_size]) (Msg.arr_one _) ?_; clear h7; intro X6 h8; replace h8 : BN w X6 g gr nn R c xs [(b13, C 31 T.arr), (b12, C 57 cl.arr), (b7, C 51 #[.int .i64 l.a, .int .i64 l.b, .int .i64 l.d])] := h8; have c12 := h8.st.cell 1 rfl 0 (.int .i64 cl.wh) cl.at0; rw [hw0.out] at c12)
          | (have _ := h8; refine wpList_loadL (l := cl.l) (b := b12) (off := 1) (cn_link (h8.st.get 1 rfl)) (.tmp 80) rfl rfl rfl ?_)
          | (have _ := h8; go_at_call 26; refine (B26.out _ _ h8).mono ?_; clear h8 c12; rintro e X7 ⟨rfl, xs2, h9, hR2, hl2⟩)
          | (have _ := h9; refine wpList_alloc_bn h9 31 rfl rfl _ zmsg.arr zero31 rfl ?_; clear h9; intro X8 h10; generalize X7.heap.size = b15 at *)
          | (have _ := h10; refine wpList_store_bn (arr' := T.arr) h10 0 rfl 31 (.tmp 15) (.tmp 86) rfl rfl rfl rfl (by rw [Msg.arr_size]; exact sz31) (by simp only [Msg.arr_size]) (Msg.arr_one _) ?_; clear h10; intro X9 h11; replace h11 : BN w X9 g gr nn R c xs2 [(b15, C 31 T.arr), (b13, C 31 T.arr), (b12, C 57 cl.arr), (b7, C 51 #[.int .i64 l.a, .int .i64 l.b, .int .i64 l.d])] := h11)
          | (have _ := h11; refine wpList_loadM (off := 0) (boxb_range (h11.st.get 1 rfl)) (.tmp 13) rfl rfl rfl ?_)
          | (have _ := h11; refine wpList_loadM (off := 0) (boxb_range (h11.st.get 0 rfl)) (.tmp 15) rfl rfl rfl ?_))
        go_roundw
        case rel => exact ⟨k + 1, c, xs2, by omega, by go_num, by simpa using hR2, by omega, h11.sub ((((List.sublist_cons_self _ _).trans (List.sublist_cons_self _ _)).trans (List.sublist_cons_self _ _)))⟩
        case measure => simp [intOf]; omega
      · have z0 : (cl.wh == 0) = false := by simpa using hw
        have z1 : (cl.wh == 1) = false := by simpa using hw1
        have z2 : (cl.wh = 0) = False := eq_false hw
        have z3 : (cl.wh = 1) = False := eq_false hw1
        have B27 := Lib.hid (fun W L xs (h : BN w W g gr nn R c xs L) => bn27 h cl.l.a cl.m)
        have B28 := Lib.hid (fun W L (h : BN w W g gr nn R (sendC nn R c cl.l.a cl.m) xs L) => bn28 h HR1.out (by have := hlx; omega) cl.l.a cl.m)
        generalize sendK nn R c cl.l.a cl.m = KS at *
        generalize sendC nn R c cl.l.a cl.m = c2 at *
        clear hw hw1
        go_wp2_with (first
          | (have _ := h3; refine wpList_load57 (c := cl) (b := b1) (off := o1 + k * 42) (rangeAt_keep r1'.out (h3.bel.block _ hb1.out)) (.tmp 38) rfl rfl rfl ?_)
          | (have _ := h3; refine wpList_alloc_bn h3 57 rfl rfl _ zcn.arr zero57 rfl ?_; intro X1 h4; clear h3; generalize wr.heap.size = b12 at *)
          | (have _ := h4; refine wpList_store_bn (arr' := cl.arr) h4 0 rfl 57 (.tmp 12) (.tmp 39) rfl rfl rfl rfl (by rw [Cn.arr_size]; exact sz57) (by simp only [Cn.arr_size]) (Cn.arr_one _) ?_; clear h4; intro X2 h4a; replace h4a : BN w X2 g gr nn R c xs [(b12, C 57 cl.arr), (b7, C 51 #[.int .i64 l.a, .int .i64 l.b, .int .i64 l.d])] := h4a; have c12 := h4a.st.cell 0 rfl 0 (.int .i64 cl.wh) cl.at0)
        )
        have h5 := h4a.drewN 1
        have H0 := Lib.hid (show At X2.drew b12 57 cl.arr from h5.st.get 0 rfl)
        replace h5 : BN w X2.drew g gr nn R c xs _ := h5
        clear h4a c12
        refine wp_region_held_drew (S := fun W => At W b12 57 cl.arr) (by kernel_rfl) H0.out (fun _ => ?_)
        generalize X2.drew = V0 at *
        refine wpAnyH_take (i := 0) (v := .pointer (some ⟨g, 0, none⟩)) rfl (by kernel_rfl) (by kernel_rfl) (by kernel_rfl) (fun _ _ _ h => h) (Or.inl ⟨by rfl, fun W hW => by clear hW; go_simp⟩) H0.out ?_
        try simp only [Act.put, List.getElem_toArray, List.getElem_cons_succ, List.getElem_cons_zero, List.setIfInBounds_toArray, List.set_cons_zero, List.set_cons_succ]
        refine wpAnyH_take (i := 1) (v := .pointer (some ⟨b12, 1, none⟩)) rfl (by kernel_rfl) (by kernel_rfl) (by kernel_rfl) (fun _ _ _ h => h) (Or.inl ⟨by rfl, fun W hW => by clear hW; go_simp⟩) H0.out ?_
        try simp only [Act.put, List.getElem_toArray, List.getElem_cons_succ, List.getElem_cons_zero, List.setIfInBounds_toArray, List.set_cons_zero, List.set_cons_succ]
        refine wpAnyH_take (i := 2) (v := .pointer (some ⟨b12, 1, none⟩)) rfl (by kernel_rfl) (by kernel_rfl) (by kernel_rfl) (fun _ _ _ h => h) (Or.inl ⟨by rfl, fun W hW => by clear hW; go_simp⟩) H0.out ?_
        try simp only [Act.put, List.getElem_toArray, List.getElem_cons_succ, List.getElem_cons_zero, List.setIfInBounds_toArray, List.set_cons_zero, List.set_cons_succ]
        refine wpAnyH_take (i := 3) (v := .int .i64 cl.l.a) rfl (by kernel_rfl) (by kernel_rfl) (by kernel_rfl) (fun _ _ _ h => h) (Or.inl ⟨by rfl, fun W hW => by have hc := (show W.cell? ⟨b12, 1, none⟩ = some (.int .i64 cl.l.a) from (hW.cell 1).trans cl.at1); clear hW; go_simp⟩) H0.out ?_
        try simp only [Act.put, List.getElem_toArray, List.getElem_cons_succ, List.getElem_cons_zero, List.setIfInBounds_toArray, List.set_cons_zero, List.set_cons_succ]
        refine wpAnyH_take (i := 4) (v := .pointer (some ⟨b12, 4, none⟩)) rfl (by kernel_rfl) (by kernel_rfl) (by kernel_rfl) (fun _ _ _ h => h) (Or.inl ⟨by rfl, fun W hW => by clear hW; go_simp⟩) H0.out ?_
        try simp only [Act.put, List.getElem_toArray, List.getElem_cons_succ, List.getElem_cons_zero, List.setIfInBounds_toArray, List.set_cons_zero, List.set_cons_succ]
        refine wpAnyH_take (i := 5) (v := .agg cl.m.arr) rfl (by kernel_rfl) (by kernel_rfl) (by kernel_rfl) (fun _ _ _ h => h) (yields_loadM _ rfl (by rfl) rfl (fun W hW => cn_msg hW)) H0.out ?_
        try simp only [Act.put, List.getElem_toArray, List.getElem_cons_succ, List.getElem_cons_zero, List.setIfInBounds_toArray, List.set_cons_zero, List.set_cons_succ]
        refine wpAnyH_take (i := 7) (v := .pointer (some ⟨gr, 0, none⟩)) rfl (by kernel_rfl) (by kernel_rfl) (by kernel_rfl) (fun _ _ _ h => h) (Or.inl ⟨by rfl, fun W hW => by clear hW; go_simp⟩) H0.out ?_
        try simp only [Act.put, List.getElem_toArray, List.getElem_cons_succ, List.getElem_cons_zero, List.setIfInBounds_toArray, List.set_cons_zero, List.set_cons_succ]
        refine wpAnyH_take (i := 8) (v := .pointer (some ⟨b12, 1, none⟩)) rfl (by kernel_rfl) (by kernel_rfl) (by kernel_rfl) (fun _ _ _ h => h) (Or.inl ⟨by rfl, fun W hW => by clear hW; go_simp⟩) H0.out ?_
        try simp only [Act.put, List.getElem_toArray, List.getElem_cons_succ, List.getElem_cons_zero, List.setIfInBounds_toArray, List.set_cons_zero, List.set_cons_succ]
        refine wpAnyH_take (i := 9) (v := .pointer (some ⟨b12, 1, none⟩)) rfl (by kernel_rfl) (by kernel_rfl) (by kernel_rfl) (fun _ _ _ h => h) (Or.inl ⟨by rfl, fun W hW => by clear hW; go_simp⟩) H0.out ?_
        try simp only [Act.put, List.getElem_toArray, List.getElem_cons_succ, List.getElem_cons_zero, List.setIfInBounds_toArray, List.set_cons_zero, List.set_cons_succ]
        refine wpAnyH_take (i := 10) (v := .int .i64 cl.l.a) rfl (by kernel_rfl) (by kernel_rfl) (by kernel_rfl) (fun _ _ _ h => h) (Or.inl ⟨by rfl, fun W hW => by have hc := (show W.cell? ⟨b12, 1, none⟩ = some (.int .i64 cl.l.a) from (hW.cell 1).trans cl.at1); clear hW; go_simp⟩) H0.out ?_
        try simp only [Act.put, List.getElem_toArray, List.getElem_cons_succ, List.getElem_cons_zero, List.setIfInBounds_toArray, List.set_cons_zero, List.set_cons_succ]
        refine wpAnyH_take (i := 11) (v := .pointer (some ⟨b12, 4, none⟩)) rfl (by kernel_rfl) (by kernel_rfl) (by kernel_rfl) (fun _ _ _ h => h) (Or.inl ⟨by rfl, fun W hW => by clear hW; go_simp⟩) H0.out ?_
        try simp only [Act.put, List.getElem_toArray, List.getElem_cons_succ, List.getElem_cons_zero, List.setIfInBounds_toArray, List.set_cons_zero, List.set_cons_succ]
        refine wpAnyH_take (i := 12) (v := .agg cl.m.arr) rfl (by kernel_rfl) (by kernel_rfl) (by kernel_rfl) (fun _ _ _ h => h) (yields_loadM _ rfl (by rfl) rfl (fun W hW => cn_msg hW)) H0.out ?_
        try simp only [Act.put, List.getElem_toArray, List.getElem_cons_succ, List.getElem_cons_zero, List.setIfInBounds_toArray, List.set_cons_zero, List.set_cons_succ]
        refine wpAnyH_ready (rs := [6]) (by kernel_rfl) (by simp) ?_
        refine AllReadyH.cons rfl (fun K hK => ?_) AllReadyH.nil
        go_simp
        go_at_call 27
        refine (B27.out _ _ _ h5).mono ?_
        rintro e V1 ⟨rfl, k1⟩
        have H1_ := Lib.hid (show At V1 b12 57 cl.arr from k1.st.get 0 rfl)
        clear h5
        refine hK.out _ _ H1_.out (fun _ => ?_)
        clear hK K
        try simp only [Act.put, List.getElem_toArray, List.getElem_cons_succ, List.getElem_cons_zero, List.setIfInBounds_toArray, List.set_cons_zero, List.set_cons_succ]
        refine wpAnyH_ready (rs := [13]) (by kernel_rfl) (by simp) ?_
        refine AllReadyH.cons rfl (fun K hK => ?_) AllReadyH.nil
        go_simp
        go_at_call 28
        refine (B28.out _ _ k1).mono ?_
        rintro e V2 ⟨rfl, xs2, k2, hR2, hl2⟩
        have H2_ := Lib.hid (show At V2 b12 57 cl.arr from k2.st.get 0 rfl)
        clear k1
        refine hK.out _ _ H2_.out (fun _ => ?_)
        clear hK K
        try simp only [Act.put, List.getElem_toArray, List.getElem_cons_succ, List.getElem_cons_zero, List.setIfInBounds_toArray, List.set_cons_zero, List.set_cons_succ]
        refine wpAnyH_take (i := 14) (v := .bool false) rfl (by kernel_rfl) (by kernel_rfl) (by kernel_rfl) (fun _ _ _ h => h) (Or.inl ⟨by rfl, fun W hW => by clear hW; go_simp⟩) H2_.out ?_
        try simp only [Act.put, List.getElem_toArray, List.getElem_cons_succ, List.getElem_cons_zero, List.setIfInBounds_toArray, List.set_cons_zero, List.set_cons_succ]
        refine wpAnyH_done (by kernel_rfl) ?_ _
        go_wp2
        go_roundw
        case rel => exact ⟨k + 1, c2, xs2, by omega, by go_num, hR2, by omega, k2.sub (List.sublist_cons_self _ _)⟩
        case measure => simp [intOf]; omega
    · obtain rfl : k = n := by omega
      have g1 : ((k : Int) < (k : Int)) = False := eq_false (by omega)
      have hlim := h3.lims
      have mA : (allOf nn c l).length ≤ 60 := by
        rw [← HR1.out.all]
        have := (msgsTo_len l xs xs.length).1
        omega
      have B29 := Lib.hid (fun W L (h : BN w W g gr nn R c xs L) => bn29 h HR1.out (by omega) l)
      have B30 := Lib.hid (fun W L (h : BN w W g gr nn R c xs L) => bn30 h l)
      have B31 := Lib.hid (fun W L (h : BN w W g gr nn R c xs L) => bn31 h)
      have B32 := Lib.hid (fun W L (h : BN w W g gr nn R c xs L) => bn32 h HR1.out (by omega))
      have P33 := Lib.hid (fun W L v (h : BP w W g gr nn R c xs L v) => bp33 h HR1.out)
      have P34 := Lib.hid (fun W L v (h : BP w W g gr nn R c xs L v) => bp34 h l)
      have P35 := Lib.hid (fun W L v (h : BP w W g gr nn R c xs L v) => bp35 h l)
      have mL : (lsTo nn c (lks nn)).length ≤ 768 := Nat.le_trans (lsTo_len _ _ _) (lks_le hlim.1)
      generalize hAL : allOf nn c l = al at *
      generalize hRO : roomOf nn R c l = ro at *
      generalize lsTo nn c (lks nn) = ls at *
      generalize hAN : al.length = AN at *
      generalize hLN : ls.length = LN at *
      generalize hXN : xs.length = XN at *
      cases ho : hasO nn l with
      | true =>
        have hro : ro = (R : Int) - (AN : Int) := by rw [← hRO, ← hAN, ← hAL]; exact room_all ho
        have hw9 : IntKind.i64.wrap ((R : Int) - (AN : Int)) = (R : Int) - (AN : Int) := IntWalk.i64_in _ (by omega)
        rw [ho] at B30
        rw [hro] at P34
        go_wp2_with (first
          | (have _ := h3; refine wpList_loadL (l := l) (b := b7) (off := 0) (box_rangeL (h3.st.get 0 rfl)) (.tmp 7) rfl rfl rfl ?_)
          | (have _ := h3; go_at_call 29; refine (B29.out _ _ h3).mono ?_; clear h3; rintro e Y1 ⟨v6, v7, M6, M7, rfl, r6, h4⟩; obtain ⟨A6, c6, rfl, _⟩ := r6.form; have h5 : BN w Y1 g gr nn R c xs ((b7, C 51 #[.int .i64 l.a, .int .i64 l.b, .int .i64 l.d]) :: M6) := (h4.sub ((List.sublist_append_right M7 _).append_left M6)).perm List.perm_append_comm; clear h4; rw [hAN] at r6 ⊢)
          | (have _ := h5; refine wpList_loadL (l := l) (b := b7) (off := 0) (box_rangeL (h5.st.get 0 rfl)) (.tmp 7) rfl rfl rfl ?_)
          | (have _ := h5; go_at_call 30; refine (B30.out _ _ h5).mono ?_; clear h5; rintro e Y2 ⟨rfl, h6⟩; have rm := h6.room)
          | (have _ := h6; go_at_call 31; refine (B31.out _ _ h6).mono ?_; clear h6 rm; rintro e Y3 ⟨v20, M20, rfl, r20, h7⟩; obtain ⟨A20, c20, rfl, _⟩ := r20.form; rw [hLN] at r20 ⊢)
          | (have _ := h7; go_at_call 32; refine (B32.out _ _ h7).mono ?_; clear h7; rintro e Y4 ⟨v21, M21, rfl, r21, h8⟩; obtain ⟨A21, c21, rfl, _⟩ := r21.form; rw [hLN] at r21 ⊢))
        have h9 := h8.drewN 1
        obtain ⟨vv, hp⟩ := h9.pin
        obtain ⟨As, p9, rfl, cs9⟩ := hp.row
        rw [hXN] at hp
        have FS := Lib.hid (fun V X (h : BP w V g gr nn R c xs X (.slice As XN p9)) (hm : (b7, C 51 #[.int .i64 l.a, .int .i64 l.b, .int .i64 l.d]) ∈ X) => show V.cell? ⟨gr, 2, none⟩ = some (.slice As XN p9) ∧ At V b7 51 #[.int .i64 l.a, .int .i64 l.b, .int .i64 l.d] from by
          obtain ⟨A', p', e, hc⟩ := h.row
          exact ⟨hc, h.st.at_ _ hm⟩)
        have P33 := Lib.hid (fun W X (h : BP w W g gr nn R c xs X (.slice As XN p9)) => P33.out W X _ h)
        have P34 := Lib.hid (fun W X (h : BP w W g gr nn R c xs X (.slice As XN p9)) => P34.out W X _ h)
        have P35 := Lib.hid (fun W X (h : BP w W g gr nn R c xs X (.slice As XN p9)) => P35.out W X _ h)
        clear h8 h9 cs9
        replace hp : BP w Y4.drew g gr nn R c xs _ _ := hp
        have H0 := Lib.hid (FS.out _ _ hp (by simp))
        refine wp_region_held_drew (S := fun W => W.cell? ⟨gr, 2, none⟩ = some (.slice As XN p9) ∧ At W b7 51 #[.int .i64 l.a, .int .i64 l.b, .int .i64 l.d]) (by kernel_rfl) H0.out (fun _ => ?_)
        generalize Y4.drew = V0 at *
        refine wpAnyH_take (i := 0) (v := .slice A20 LN c20) rfl (by kernel_rfl) (by kernel_rfl) (by kernel_rfl) (fun _ _ _ h => h) (Or.inl ⟨by rfl, fun W hW => by clear hW; go_simp⟩) H0.out ?_
        try simp only [Act.put, List.getElem_toArray, List.getElem_cons_succ, List.getElem_cons_zero, List.setIfInBounds_toArray, List.set_cons_zero, List.set_cons_succ]
        refine wpAnyH_take (i := 1) (v := .int .i64 (LN : Int)) rfl (by kernel_rfl) (by kernel_rfl) (by kernel_rfl) (fun _ _ _ h => h) (Or.inl ⟨by rfl, fun W hW => by clear hW; go_simp⟩) H0.out ?_
        try simp only [Act.put, List.getElem_toArray, List.getElem_cons_succ, List.getElem_cons_zero, List.setIfInBounds_toArray, List.set_cons_zero, List.set_cons_succ]
        refine wpAnyH_take (i := 2) (v := .slice A21 LN c21) rfl (by kernel_rfl) (by kernel_rfl) (by kernel_rfl) (fun _ _ _ h => h) (Or.inl ⟨by rfl, fun W hW => by clear hW; go_simp⟩) H0.out ?_
        try simp only [Act.put, List.getElem_toArray, List.getElem_cons_succ, List.getElem_cons_zero, List.setIfInBounds_toArray, List.set_cons_zero, List.set_cons_succ]
        refine wpAnyH_take (i := 3) (v := .int .i64 (LN : Int)) rfl (by kernel_rfl) (by kernel_rfl) (by kernel_rfl) (fun _ _ _ h => h) (Or.inl ⟨by rfl, fun W hW => by clear hW; go_simp⟩) H0.out ?_
        try simp only [Act.put, List.getElem_toArray, List.getElem_cons_succ, List.getElem_cons_zero, List.setIfInBounds_toArray, List.set_cons_zero, List.set_cons_succ]
        refine wpAnyH_take (i := 4) (v := .bool false) rfl (by kernel_rfl) (by kernel_rfl) (by kernel_rfl) (fun _ _ _ h => h) (Or.inl ⟨by rfl, fun W hW => by clear hW; go_simp⟩) H0.out ?_
        try simp only [Act.put, List.getElem_toArray, List.getElem_cons_succ, List.getElem_cons_zero, List.setIfInBounds_toArray, List.set_cons_zero, List.set_cons_succ]
        refine wpAnyH_take (i := 5) (v := .bool false) rfl (by kernel_rfl) (by kernel_rfl) (by kernel_rfl) (fun _ _ _ h => h) (Or.inl ⟨by rfl, fun W hW => by clear hW; go_simp⟩) H0.out ?_
        try simp only [Act.put, List.getElem_toArray, List.getElem_cons_succ, List.getElem_cons_zero, List.setIfInBounds_toArray, List.set_cons_zero, List.set_cons_succ]
        refine wpAnyH_take (i := 6) (v := .pointer (some ⟨g, 0, none⟩)) rfl (by kernel_rfl) (by kernel_rfl) (by kernel_rfl) (fun _ _ _ h => h) (Or.inl ⟨by rfl, fun W hW => by clear hW; go_simp⟩) H0.out ?_
        try simp only [Act.put, List.getElem_toArray, List.getElem_cons_succ, List.getElem_cons_zero, List.setIfInBounds_toArray, List.set_cons_zero, List.set_cons_succ]
        refine wpAnyH_take (i := 8) (v := .pointer (some ⟨gr, 0, none⟩)) rfl (by kernel_rfl) (by kernel_rfl) (by kernel_rfl) (fun _ _ _ h => h) (Or.inl ⟨by rfl, fun W hW => by clear hW; go_simp⟩) H0.out ?_
        try simp only [Act.put, List.getElem_toArray, List.getElem_cons_succ, List.getElem_cons_zero, List.setIfInBounds_toArray, List.set_cons_zero, List.set_cons_succ]
        refine wpAnyH_take (i := 9) (v := .pointer (some ⟨gr, 0, none⟩)) rfl (by kernel_rfl) (by kernel_rfl) (by kernel_rfl) (fun _ _ _ h => h) (Or.inl ⟨by rfl, fun W hW => by clear hW; go_simp⟩) H0.out ?_
        try simp only [Act.put, List.getElem_toArray, List.getElem_cons_succ, List.getElem_cons_zero, List.setIfInBounds_toArray, List.set_cons_zero, List.set_cons_succ]
        refine wpAnyH_take (i := 10) (v := .pointer (some ⟨gr, 2, none⟩)) rfl (by kernel_rfl) (by kernel_rfl) (by kernel_rfl) (fun _ _ _ h => h) (Or.inl ⟨by rfl, fun W hW => by clear hW; go_simp⟩) H0.out ?_
        try simp only [Act.put, List.getElem_toArray, List.getElem_cons_succ, List.getElem_cons_zero, List.setIfInBounds_toArray, List.set_cons_zero, List.set_cons_succ]
        refine wpAnyH_take (i := 11) (v := .slice As XN p9) rfl (by kernel_rfl) (by kernel_rfl) (by kernel_rfl) (fun _ _ _ h => h) (Or.inl ⟨by rfl, fun W hW => by have hc := hW.1; clear hW; go_simp⟩) H0.out ?_
        try simp only [Act.put, List.getElem_toArray, List.getElem_cons_succ, List.getElem_cons_zero, List.setIfInBounds_toArray, List.set_cons_zero, List.set_cons_succ]
        refine wpAnyH_take (i := 12) (v := .int .i64 (XN : Int)) rfl (by kernel_rfl) (by kernel_rfl) (by kernel_rfl) (fun _ _ _ h => h) (Or.inl ⟨by rfl, fun W hW => by clear hW; go_simp⟩) H0.out ?_
        try simp only [Act.put, List.getElem_toArray, List.getElem_cons_succ, List.getElem_cons_zero, List.setIfInBounds_toArray, List.set_cons_zero, List.set_cons_succ]
        refine wpAnyH_ready (rs := [7]) (by kernel_rfl) (by simp) ?_
        refine AllReadyH.cons rfl (fun K hK => ?_) AllReadyH.nil
        go_simp
        go_at_call 33
        refine (P33.out _ _ hp).mono ?_
        rintro e V1 ⟨rfl, k1⟩
        have H1_ := Lib.hid (FS.out _ _ k1 (by simp))
        clear hp
        refine hK.out _ _ H1_.out (fun _ => ?_)
        clear hK K
        try simp only [Act.put, List.getElem_toArray, List.getElem_cons_succ, List.getElem_cons_zero, List.setIfInBounds_toArray, List.set_cons_zero, List.set_cons_succ]
        refine wpAnyH_take (i := 13) (v := .bool false) rfl (by kernel_rfl) (by kernel_rfl) (by kernel_rfl) (fun _ _ _ h => h) (Or.inl ⟨by rfl, fun W hW => by clear hW; go_simp⟩) H1_.out ?_
        try simp only [Act.put, List.getElem_toArray, List.getElem_cons_succ, List.getElem_cons_zero, List.setIfInBounds_toArray, List.set_cons_zero, List.set_cons_succ]
        refine wpAnyH_take (i := 14) (v := .bool false) rfl (by kernel_rfl) (by kernel_rfl) (by kernel_rfl) (fun _ _ _ h => h) (Or.inl ⟨by rfl, fun W hW => by clear hW; go_simp⟩) H1_.out ?_
        try simp only [Act.put, List.getElem_toArray, List.getElem_cons_succ, List.getElem_cons_zero, List.setIfInBounds_toArray, List.set_cons_zero, List.set_cons_succ]
        refine wpAnyH_take (i := 15) (v := .bool false) rfl (by kernel_rfl) (by kernel_rfl) (by kernel_rfl) (fun _ _ _ h => h) (Or.inl ⟨by rfl, fun W hW => by clear hW; go_simp⟩) H1_.out ?_
        try simp only [Act.put, List.getElem_toArray, List.getElem_cons_succ, List.getElem_cons_zero, List.setIfInBounds_toArray, List.set_cons_zero, List.set_cons_succ]
        refine wpAnyH_take (i := 16) (v := .pointer (some ⟨g, 0, none⟩)) rfl (by kernel_rfl) (by kernel_rfl) (by kernel_rfl) (fun _ _ _ h => h) (Or.inl ⟨by rfl, fun W hW => by clear hW; go_simp⟩) H1_.out ?_
        try simp only [Act.put, List.getElem_toArray, List.getElem_cons_succ, List.getElem_cons_zero, List.setIfInBounds_toArray, List.set_cons_zero, List.set_cons_succ]
        refine wpAnyH_take (i := 17) (v := .agg #[.int .i64 l.a, .int .i64 l.b, .int .i64 l.d]) rfl (by kernel_rfl) (by kernel_rfl) (by kernel_rfl) (fun _ _ _ h => h) (yields_loadL (l := l) _ rfl (by rfl) rfl (fun W hW => box_rangeL hW.2)) H1_.out ?_
        try simp only [Act.put, List.getElem_toArray, List.getElem_cons_succ, List.getElem_cons_zero, List.setIfInBounds_toArray, List.set_cons_zero, List.set_cons_succ]
        refine wpAnyH_take (i := 19) (v := .int .i64 ((R : Int) - (AN : Int))) rfl (by kernel_rfl) (by kernel_rfl) (by kernel_rfl) (fun _ _ _ h => h) (Or.inl ⟨by rfl, fun W hW => by clear hW; go_simp⟩) H1_.out ?_
        try simp only [Act.put, List.getElem_toArray, List.getElem_cons_succ, List.getElem_cons_zero, List.setIfInBounds_toArray, List.set_cons_zero, List.set_cons_succ]
        refine wpAnyH_ready (rs := [18]) (by kernel_rfl) (by simp) ?_
        refine AllReadyH.cons rfl (fun K hK => ?_) AllReadyH.nil
        go_simp
        go_at_call 34
        refine (P34.out _ _ k1).mono ?_
        rintro e V2 ⟨rfl, k2⟩
        have H2_ := Lib.hid (FS.out _ _ k2 (by simp))
        clear k1
        refine hK.out _ _ H2_.out (fun _ => ?_)
        clear hK K
        try simp only [Act.put, List.getElem_toArray, List.getElem_cons_succ, List.getElem_cons_zero, List.setIfInBounds_toArray, List.set_cons_zero, List.set_cons_succ]
        refine wpAnyH_take (i := 20) (v := .bool false) rfl (by kernel_rfl) (by kernel_rfl) (by kernel_rfl) (fun _ _ _ h => h) (Or.inl ⟨by rfl, fun W hW => by clear hW; go_simp⟩) H2_.out ?_
        try simp only [Act.put, List.getElem_toArray, List.getElem_cons_succ, List.getElem_cons_zero, List.setIfInBounds_toArray, List.set_cons_zero, List.set_cons_succ]
        refine wpAnyH_take (i := 21) (v := .bool false) rfl (by kernel_rfl) (by kernel_rfl) (by kernel_rfl) (fun _ _ _ h => h) (Or.inl ⟨by rfl, fun W hW => by clear hW; go_simp⟩) H2_.out ?_
        try simp only [Act.put, List.getElem_toArray, List.getElem_cons_succ, List.getElem_cons_zero, List.setIfInBounds_toArray, List.set_cons_zero, List.set_cons_succ]
        refine wpAnyH_take (i := 22) (v := .bool false) rfl (by kernel_rfl) (by kernel_rfl) (by kernel_rfl) (fun _ _ _ h => h) (Or.inl ⟨by rfl, fun W hW => by clear hW; go_simp⟩) H2_.out ?_
        try simp only [Act.put, List.getElem_toArray, List.getElem_cons_succ, List.getElem_cons_zero, List.setIfInBounds_toArray, List.set_cons_zero, List.set_cons_succ]
        refine wpAnyH_take (i := 23) (v := .pointer (some ⟨g, 0, none⟩)) rfl (by kernel_rfl) (by kernel_rfl) (by kernel_rfl) (fun _ _ _ h => h) (Or.inl ⟨by rfl, fun W hW => by clear hW; go_simp⟩) H2_.out ?_
        try simp only [Act.put, List.getElem_toArray, List.getElem_cons_succ, List.getElem_cons_zero, List.setIfInBounds_toArray, List.set_cons_zero, List.set_cons_succ]
        refine wpAnyH_take (i := 24) (v := .agg #[.int .i64 l.a, .int .i64 l.b, .int .i64 l.d]) rfl (by kernel_rfl) (by kernel_rfl) (by kernel_rfl) (fun _ _ _ h => h) (yields_loadL (l := l) _ rfl (by rfl) rfl (fun W hW => box_rangeL hW.2)) H2_.out ?_
        try simp only [Act.put, List.getElem_toArray, List.getElem_cons_succ, List.getElem_cons_zero, List.setIfInBounds_toArray, List.set_cons_zero, List.set_cons_succ]
        refine wpAnyH_take (i := 26) (v := .slice A6 AN c6) rfl (by kernel_rfl) (by kernel_rfl) (by kernel_rfl) (fun _ _ _ h => h) (Or.inl ⟨by rfl, fun W hW => by clear hW; go_simp⟩) H2_.out ?_
        try simp only [Act.put, List.getElem_toArray, List.getElem_cons_succ, List.getElem_cons_zero, List.setIfInBounds_toArray, List.set_cons_zero, List.set_cons_succ]
        refine wpAnyH_ready (rs := [25]) (by kernel_rfl) (by simp) ?_
        refine AllReadyH.cons rfl (fun K hK => ?_) AllReadyH.nil
        go_simp
        go_at_call 35
        refine (P35.out _ _ k2).mono ?_
        rintro e V3 ⟨A35, M35, rfl, hv35, k3⟩
        have H3_ := Lib.hid (FS.out _ _ k3 (by simp))
        clear k2
        refine hK.out _ _ H3_.out (fun _ => ?_)
        clear hK K
        try simp only [Act.put, List.getElem_toArray, List.getElem_cons_succ, List.getElem_cons_zero, List.setIfInBounds_toArray, List.set_cons_zero, List.set_cons_succ]
        refine wpAnyH_ready (rs := [27]) (by kernel_rfl) (by simp) ?_
        refine AllReadyH.cons rfl (fun K hK => ?_) AllReadyH.nil
        go_simp
        go_at_call 19
        refine (bp_same k3 hv35 r6 (by rw [List.append_nil]; exact k3.st.sub (((List.sublist_cons_self _ _).trans (List.sublist_append_right M20 _)).trans (List.sublist_append_right M21 _) |>.trans (List.sublist_append_right M35 _))) (by omega)).mono ?_
        rintro e V4 ⟨rfl, j4, rfl⟩
        have k4 := k3.drewN j4
        have H4_ := Lib.hid (FS.out _ _ k4 (by simp))
        clear k3
        refine hK.out _ _ H4_.out (fun _ => ?_)
        clear hK K
        try simp only [Act.put, List.getElem_toArray, List.getElem_cons_succ, List.getElem_cons_zero, List.setIfInBounds_toArray, List.set_cons_zero, List.set_cons_succ]
        refine wpAnyH_take (i := 28) (v := .bool false) rfl (by kernel_rfl) (by kernel_rfl) (by kernel_rfl) (fun _ _ _ h => h) (Or.inl ⟨by rfl, fun W hW => by clear hW; go_simp⟩) H4_.out ?_
        try simp only [Act.put, List.getElem_toArray, List.getElem_cons_succ, List.getElem_cons_zero, List.setIfInBounds_toArray, List.set_cons_zero, List.set_cons_succ]
        refine wpAnyH_take (i := 29) (v := .bool false) rfl (by kernel_rfl) (by kernel_rfl) (by kernel_rfl) (fun _ _ _ h => h) (Or.inl ⟨by rfl, fun W hW => by clear hW; go_simp⟩) H4_.out ?_
        try simp only [Act.put, List.getElem_toArray, List.getElem_cons_succ, List.getElem_cons_zero, List.setIfInBounds_toArray, List.set_cons_zero, List.set_cons_succ]
        refine wpAnyH_done (by kernel_rfl) ?_ _
        have HS := Lib.hid k4.st
        have RW20 := Lib.hid (fun V (h : St w V (M35 ++ (M21 ++ (M20 ++ ((b7, C 51 #[.int .i64 l.a, .int .i64 l.b, .int .i64 l.d]) :: M6))))) => r20.row (L := (b7, C 51 #[.int .i64 l.a, .int .i64 l.b, .int .i64 l.d]) :: M6) (h.sub ((List.sublist_append_right M21 _).trans (List.sublist_append_right M35 _))) rfl)
        have RW21 := Lib.hid (fun V (h : St w V (M35 ++ (M21 ++ (M20 ++ ((b7, C 51 #[.int .i64 l.a, .int .i64 l.b, .int .i64 l.d]) :: M6))))) => r21.row (L := M20 ++ ((b7, C 51 #[.int .i64 l.a, .int .i64 l.b, .int .i64 l.d]) :: M6)) (h.sub (List.sublist_append_right M35 _)) rfl)
        generalize M35 ++ (M21 ++ (M20 ++ ((b7, C 51 #[.int .i64 l.a, .int .i64 l.b, .int .i64 l.d]) :: M6))) = XX at *
        clear k4 H1_ H2_ H3_ H4_ H0 P33 P34 P35 FS r20 r21 r6 hv35
        go_wp2
        go_loopw [149] (R2 w XX LN) (fun i _ => LN - (intOf i).toNat)
        case atStart => exact ⟨0, by omega, rfl, HS.out⟩
        case round =>
          obtain ⟨k, hk, rfl, h9⟩ := hrel
          clear HS
          by_cases hlt : k < LN
          · have g1 : ((k : Int) < (LN : Int)) = True := eq_true (by omega)
            have hk2 : k < ls.length := by rw [hLN]; exact hlt
            have hm : ls[k]? = some ls[k] := List.getElem?_eq_getElem hk2
            generalize ls[k] = y at *
            obtain ⟨b20, o20, rfl, _, t20⟩ := (RW20.out _ h9).at_ k y hm
            obtain ⟨b21, o21, rfl, _, t21⟩ := (RW21.out _ h9).at_ k y hm
            have NQ : ∀ W, (binOp .neq 51 (.agg #[.int .i64 y.a, .int .i64 y.b, .int .i64 y.d]) (.agg #[.int .i64 y.a, .int .i64 y.b, .int .i64 y.d])).run Try.prog W = .ok (.bool false) W := fun W => by rw [neq_lnk, decide_eq_true rfl]; rfl
            have H0 := Lib.hid (show wr.drew.rangeAt b20 (o20 + k * 3) y.cs ∧ wr.drew.rangeAt b21 (o21 + k * 3) y.cs from ⟨t20, t21⟩)
            have h10 := h9.drewN 1
            replace h10 : St w wr.drew XX := h10
            clear hm hk2 t20 t21 RW20 RW21
            go_wp2
            refine wp_region_held_drew (S := fun W => W.rangeAt b20 (o20 + k * 3) y.cs ∧ W.rangeAt b21 (o21 + k * 3) y.cs) (by kernel_rfl) H0.out (fun _ => ?_)
            generalize wr.drew = V0 at *
            refine wpAnyH_take (i := 0) (v := .slice (some ⟨b20, o20, none⟩) LN c20) rfl (by kernel_rfl) (by kernel_rfl) (by kernel_rfl) (fun _ _ _ h => h) (Or.inl ⟨by rfl, fun W hW => by clear hW; go_simp⟩) H0.out ?_
            try simp only [Act.put, List.getElem_toArray, List.getElem_cons_succ, List.getElem_cons_zero, List.setIfInBounds_toArray, List.set_cons_zero, List.set_cons_succ]
            refine wpAnyH_take (i := 1) (v := .int .i64 (k : Int)) rfl (by kernel_rfl) (by kernel_rfl) (by kernel_rfl) (fun _ _ _ h => h) (Or.inl ⟨by rfl, fun W hW => by clear hW; go_simp⟩) H0.out ?_
            try simp only [Act.put, List.getElem_toArray, List.getElem_cons_succ, List.getElem_cons_zero, List.setIfInBounds_toArray, List.set_cons_zero, List.set_cons_succ]
            refine wpAnyH_take (i := 2) (v := .pointer (some ⟨b20, o20 + k * 3, none⟩)) rfl (by kernel_rfl) (by kernel_rfl) (by kernel_rfl) (fun _ _ _ h => h) (Or.inl ⟨by rfl, fun W hW => by clear hW; go_simp⟩) H0.out ?_
            try simp only [Act.put, List.getElem_toArray, List.getElem_cons_succ, List.getElem_cons_zero, List.setIfInBounds_toArray, List.set_cons_zero, List.set_cons_succ]
            refine wpAnyH_take (i := 3) (v := .agg #[.int .i64 y.a, .int .i64 y.b, .int .i64 y.d]) rfl (by kernel_rfl) (by kernel_rfl) (by kernel_rfl) (fun _ _ _ h => h) (yields_loadL (l := y) _ rfl (by rfl) rfl (fun W hW => hW.1)) H0.out ?_
            try simp only [Act.put, List.getElem_toArray, List.getElem_cons_succ, List.getElem_cons_zero, List.setIfInBounds_toArray, List.set_cons_zero, List.set_cons_succ]
            refine wpAnyH_take (i := 4) (v := .slice (some ⟨b21, o21, none⟩) LN c21) rfl (by kernel_rfl) (by kernel_rfl) (by kernel_rfl) (fun _ _ _ h => h) (Or.inl ⟨by rfl, fun W hW => by clear hW; go_simp⟩) H0.out ?_
            try simp only [Act.put, List.getElem_toArray, List.getElem_cons_succ, List.getElem_cons_zero, List.setIfInBounds_toArray, List.set_cons_zero, List.set_cons_succ]
            refine wpAnyH_take (i := 5) (v := .int .i64 (k : Int)) rfl (by kernel_rfl) (by kernel_rfl) (by kernel_rfl) (fun _ _ _ h => h) (Or.inl ⟨by rfl, fun W hW => by clear hW; go_simp⟩) H0.out ?_
            try simp only [Act.put, List.getElem_toArray, List.getElem_cons_succ, List.getElem_cons_zero, List.setIfInBounds_toArray, List.set_cons_zero, List.set_cons_succ]
            refine wpAnyH_take (i := 6) (v := .pointer (some ⟨b21, o21 + k * 3, none⟩)) rfl (by kernel_rfl) (by kernel_rfl) (by kernel_rfl) (fun _ _ _ h => h) (Or.inl ⟨by rfl, fun W hW => by clear hW; go_simp⟩) H0.out ?_
            try simp only [Act.put, List.getElem_toArray, List.getElem_cons_succ, List.getElem_cons_zero, List.setIfInBounds_toArray, List.set_cons_zero, List.set_cons_succ]
            refine wpAnyH_take (i := 7) (v := .agg #[.int .i64 y.a, .int .i64 y.b, .int .i64 y.d]) rfl (by kernel_rfl) (by kernel_rfl) (by kernel_rfl) (fun _ _ _ h => h) (yields_loadL (l := y) _ rfl (by rfl) rfl (fun W hW => hW.2)) H0.out ?_
            try simp only [Act.put, List.getElem_toArray, List.getElem_cons_succ, List.getElem_cons_zero, List.setIfInBounds_toArray, List.set_cons_zero, List.set_cons_succ]
            refine wpAnyH_take (i := 8) (v := .bool false) rfl (by kernel_rfl) (by kernel_rfl) (by kernel_rfl) (fun _ _ _ h => h) (Or.inl ⟨by rfl, fun W hW => by clear hW; go_simp⟩) H0.out ?_
            try simp only [Act.put, List.getElem_toArray, List.getElem_cons_succ, List.getElem_cons_zero, List.setIfInBounds_toArray, List.set_cons_zero, List.set_cons_succ]
            refine wpAnyH_done (by kernel_rfl) ?_ _
            go_wp2
            go_roundw
            case rel => exact ⟨k + 1, by omega, by go_num, h10⟩
            case measure => simp [intOf]; omega
          · obtain rfl : k = LN := by omega
            have g1 : ((k : Int) < (k : Int)) = False := eq_false (by omega)
            go_wp2
            go_ret
            exact ⟨rfl, h9.bel⟩
      | false =>
        have hro : ro = 0 := by rw [← hRO]; exact (room_no ho).1
        have hal : al = [] := by rw [← hAL]; exact (room_no (R := R) ho).2
        rw [ho] at B30
        rw [hro] at P34
        go_wp2_with (first
          | (have _ := h3; refine wpList_loadL (l := l) (b := b7) (off := 0) (box_rangeL (h3.st.get 0 rfl)) (.tmp 7) rfl rfl rfl ?_)
          | (have _ := h3; go_at_call 29; refine (B29.out _ _ h3).mono ?_; clear h3; rintro e Y1 ⟨v6, v7, M6, M7, rfl, r6, h4⟩; obtain ⟨A6, c6, rfl, _⟩ := r6.form; have h5 : BN w Y1 g gr nn R c xs ((b7, C 51 #[.int .i64 l.a, .int .i64 l.b, .int .i64 l.d]) :: M6) := (h4.sub ((List.sublist_append_right M7 _).append_left M6)).perm List.perm_append_comm; clear h4; rw [hAN] at r6 ⊢)
          | (have _ := h5; refine wpList_loadL (l := l) (b := b7) (off := 0) (box_rangeL (h5.st.get 0 rfl)) (.tmp 7) rfl rfl rfl ?_)
          | (have _ := h5; go_at_call 30; refine (B30.out _ _ h5).mono ?_; clear h5; rintro e Y2 ⟨rfl, h6⟩; have rm := h6.room)
          | (have _ := h6; go_at_call 31; refine (B31.out _ _ h6).mono ?_; clear h6 rm; rintro e Y3 ⟨v20, M20, rfl, r20, h7⟩; obtain ⟨A20, c20, rfl, _⟩ := r20.form; rw [hLN] at r20 ⊢)
          | (have _ := h7; go_at_call 32; refine (B32.out _ _ h7).mono ?_; clear h7; rintro e Y4 ⟨v21, M21, rfl, r21, h8⟩; obtain ⟨A21, c21, rfl, _⟩ := r21.form; rw [hLN] at r21 ⊢))
        have h9 := h8.drewN 1
        obtain ⟨vv, hp⟩ := h9.pin
        obtain ⟨As, p9, rfl, cs9⟩ := hp.row
        rw [hXN] at hp
        have FS := Lib.hid (fun V X (h : BP w V g gr nn R c xs X (.slice As XN p9)) (hm : (b7, C 51 #[.int .i64 l.a, .int .i64 l.b, .int .i64 l.d]) ∈ X) => show V.cell? ⟨gr, 2, none⟩ = some (.slice As XN p9) ∧ At V b7 51 #[.int .i64 l.a, .int .i64 l.b, .int .i64 l.d] from by
          obtain ⟨A', p', e, hc⟩ := h.row
          exact ⟨hc, h.st.at_ _ hm⟩)
        have P33 := Lib.hid (fun W X (h : BP w W g gr nn R c xs X (.slice As XN p9)) => P33.out W X _ h)
        have P34 := Lib.hid (fun W X (h : BP w W g gr nn R c xs X (.slice As XN p9)) => P34.out W X _ h)
        have P35 := Lib.hid (fun W X (h : BP w W g gr nn R c xs X (.slice As XN p9)) => P35.out W X _ h)
        clear h8 h9 cs9
        replace hp : BP w Y4.drew g gr nn R c xs _ _ := hp
        have H0 := Lib.hid (FS.out _ _ hp (by simp))
        refine wp_region_held_drew (S := fun W => W.cell? ⟨gr, 2, none⟩ = some (.slice As XN p9) ∧ At W b7 51 #[.int .i64 l.a, .int .i64 l.b, .int .i64 l.d]) (by kernel_rfl) H0.out (fun _ => ?_)
        generalize Y4.drew = V0 at *
        refine wpAnyH_take (i := 0) (v := .slice A20 LN c20) rfl (by kernel_rfl) (by kernel_rfl) (by kernel_rfl) (fun _ _ _ h => h) (Or.inl ⟨by rfl, fun W hW => by clear hW; go_simp⟩) H0.out ?_
        try simp only [Act.put, List.getElem_toArray, List.getElem_cons_succ, List.getElem_cons_zero, List.setIfInBounds_toArray, List.set_cons_zero, List.set_cons_succ]
        refine wpAnyH_take (i := 1) (v := .int .i64 (LN : Int)) rfl (by kernel_rfl) (by kernel_rfl) (by kernel_rfl) (fun _ _ _ h => h) (Or.inl ⟨by rfl, fun W hW => by clear hW; go_simp⟩) H0.out ?_
        try simp only [Act.put, List.getElem_toArray, List.getElem_cons_succ, List.getElem_cons_zero, List.setIfInBounds_toArray, List.set_cons_zero, List.set_cons_succ]
        refine wpAnyH_take (i := 2) (v := .slice A21 LN c21) rfl (by kernel_rfl) (by kernel_rfl) (by kernel_rfl) (fun _ _ _ h => h) (Or.inl ⟨by rfl, fun W hW => by clear hW; go_simp⟩) H0.out ?_
        try simp only [Act.put, List.getElem_toArray, List.getElem_cons_succ, List.getElem_cons_zero, List.setIfInBounds_toArray, List.set_cons_zero, List.set_cons_succ]
        refine wpAnyH_take (i := 3) (v := .int .i64 (LN : Int)) rfl (by kernel_rfl) (by kernel_rfl) (by kernel_rfl) (fun _ _ _ h => h) (Or.inl ⟨by rfl, fun W hW => by clear hW; go_simp⟩) H0.out ?_
        try simp only [Act.put, List.getElem_toArray, List.getElem_cons_succ, List.getElem_cons_zero, List.setIfInBounds_toArray, List.set_cons_zero, List.set_cons_succ]
        refine wpAnyH_take (i := 4) (v := .bool false) rfl (by kernel_rfl) (by kernel_rfl) (by kernel_rfl) (fun _ _ _ h => h) (Or.inl ⟨by rfl, fun W hW => by clear hW; go_simp⟩) H0.out ?_
        try simp only [Act.put, List.getElem_toArray, List.getElem_cons_succ, List.getElem_cons_zero, List.setIfInBounds_toArray, List.set_cons_zero, List.set_cons_succ]
        refine wpAnyH_take (i := 5) (v := .bool false) rfl (by kernel_rfl) (by kernel_rfl) (by kernel_rfl) (fun _ _ _ h => h) (Or.inl ⟨by rfl, fun W hW => by clear hW; go_simp⟩) H0.out ?_
        try simp only [Act.put, List.getElem_toArray, List.getElem_cons_succ, List.getElem_cons_zero, List.setIfInBounds_toArray, List.set_cons_zero, List.set_cons_succ]
        refine wpAnyH_take (i := 6) (v := .pointer (some ⟨g, 0, none⟩)) rfl (by kernel_rfl) (by kernel_rfl) (by kernel_rfl) (fun _ _ _ h => h) (Or.inl ⟨by rfl, fun W hW => by clear hW; go_simp⟩) H0.out ?_
        try simp only [Act.put, List.getElem_toArray, List.getElem_cons_succ, List.getElem_cons_zero, List.setIfInBounds_toArray, List.set_cons_zero, List.set_cons_succ]
        refine wpAnyH_take (i := 8) (v := .pointer (some ⟨gr, 0, none⟩)) rfl (by kernel_rfl) (by kernel_rfl) (by kernel_rfl) (fun _ _ _ h => h) (Or.inl ⟨by rfl, fun W hW => by clear hW; go_simp⟩) H0.out ?_
        try simp only [Act.put, List.getElem_toArray, List.getElem_cons_succ, List.getElem_cons_zero, List.setIfInBounds_toArray, List.set_cons_zero, List.set_cons_succ]
        refine wpAnyH_take (i := 9) (v := .pointer (some ⟨gr, 0, none⟩)) rfl (by kernel_rfl) (by kernel_rfl) (by kernel_rfl) (fun _ _ _ h => h) (Or.inl ⟨by rfl, fun W hW => by clear hW; go_simp⟩) H0.out ?_
        try simp only [Act.put, List.getElem_toArray, List.getElem_cons_succ, List.getElem_cons_zero, List.setIfInBounds_toArray, List.set_cons_zero, List.set_cons_succ]
        refine wpAnyH_take (i := 10) (v := .pointer (some ⟨gr, 2, none⟩)) rfl (by kernel_rfl) (by kernel_rfl) (by kernel_rfl) (fun _ _ _ h => h) (Or.inl ⟨by rfl, fun W hW => by clear hW; go_simp⟩) H0.out ?_
        try simp only [Act.put, List.getElem_toArray, List.getElem_cons_succ, List.getElem_cons_zero, List.setIfInBounds_toArray, List.set_cons_zero, List.set_cons_succ]
        refine wpAnyH_take (i := 11) (v := .slice As XN p9) rfl (by kernel_rfl) (by kernel_rfl) (by kernel_rfl) (fun _ _ _ h => h) (Or.inl ⟨by rfl, fun W hW => by have hc := hW.1; clear hW; go_simp⟩) H0.out ?_
        try simp only [Act.put, List.getElem_toArray, List.getElem_cons_succ, List.getElem_cons_zero, List.setIfInBounds_toArray, List.set_cons_zero, List.set_cons_succ]
        refine wpAnyH_take (i := 12) (v := .int .i64 (XN : Int)) rfl (by kernel_rfl) (by kernel_rfl) (by kernel_rfl) (fun _ _ _ h => h) (Or.inl ⟨by rfl, fun W hW => by clear hW; go_simp⟩) H0.out ?_
        try simp only [Act.put, List.getElem_toArray, List.getElem_cons_succ, List.getElem_cons_zero, List.setIfInBounds_toArray, List.set_cons_zero, List.set_cons_succ]
        refine wpAnyH_ready (rs := [7]) (by kernel_rfl) (by simp) ?_
        refine AllReadyH.cons rfl (fun K hK => ?_) AllReadyH.nil
        go_simp
        go_at_call 33
        refine (P33.out _ _ hp).mono ?_
        rintro e V1 ⟨rfl, k1⟩
        have H1_ := Lib.hid (FS.out _ _ k1 (by simp))
        clear hp
        refine hK.out _ _ H1_.out (fun _ => ?_)
        clear hK K
        try simp only [Act.put, List.getElem_toArray, List.getElem_cons_succ, List.getElem_cons_zero, List.setIfInBounds_toArray, List.set_cons_zero, List.set_cons_succ]
        refine wpAnyH_take (i := 13) (v := .bool false) rfl (by kernel_rfl) (by kernel_rfl) (by kernel_rfl) (fun _ _ _ h => h) (Or.inl ⟨by rfl, fun W hW => by clear hW; go_simp⟩) H1_.out ?_
        try simp only [Act.put, List.getElem_toArray, List.getElem_cons_succ, List.getElem_cons_zero, List.setIfInBounds_toArray, List.set_cons_zero, List.set_cons_succ]
        refine wpAnyH_take (i := 14) (v := .bool false) rfl (by kernel_rfl) (by kernel_rfl) (by kernel_rfl) (fun _ _ _ h => h) (Or.inl ⟨by rfl, fun W hW => by clear hW; go_simp⟩) H1_.out ?_
        try simp only [Act.put, List.getElem_toArray, List.getElem_cons_succ, List.getElem_cons_zero, List.setIfInBounds_toArray, List.set_cons_zero, List.set_cons_succ]
        refine wpAnyH_take (i := 15) (v := .bool false) rfl (by kernel_rfl) (by kernel_rfl) (by kernel_rfl) (fun _ _ _ h => h) (Or.inl ⟨by rfl, fun W hW => by clear hW; go_simp⟩) H1_.out ?_
        try simp only [Act.put, List.getElem_toArray, List.getElem_cons_succ, List.getElem_cons_zero, List.setIfInBounds_toArray, List.set_cons_zero, List.set_cons_succ]
        refine wpAnyH_take (i := 16) (v := .pointer (some ⟨g, 0, none⟩)) rfl (by kernel_rfl) (by kernel_rfl) (by kernel_rfl) (fun _ _ _ h => h) (Or.inl ⟨by rfl, fun W hW => by clear hW; go_simp⟩) H1_.out ?_
        try simp only [Act.put, List.getElem_toArray, List.getElem_cons_succ, List.getElem_cons_zero, List.setIfInBounds_toArray, List.set_cons_zero, List.set_cons_succ]
        refine wpAnyH_take (i := 17) (v := .agg #[.int .i64 l.a, .int .i64 l.b, .int .i64 l.d]) rfl (by kernel_rfl) (by kernel_rfl) (by kernel_rfl) (fun _ _ _ h => h) (yields_loadL (l := l) _ rfl (by rfl) rfl (fun W hW => box_rangeL hW.2)) H1_.out ?_
        try simp only [Act.put, List.getElem_toArray, List.getElem_cons_succ, List.getElem_cons_zero, List.setIfInBounds_toArray, List.set_cons_zero, List.set_cons_succ]
        refine wpAnyH_take (i := 19) (v := .int .i64 0) rfl (by kernel_rfl) (by kernel_rfl) (by kernel_rfl) (fun _ _ _ h => h) (Or.inl ⟨by rfl, fun W hW => by clear hW; go_simp⟩) H1_.out ?_
        try simp only [Act.put, List.getElem_toArray, List.getElem_cons_succ, List.getElem_cons_zero, List.setIfInBounds_toArray, List.set_cons_zero, List.set_cons_succ]
        refine wpAnyH_ready (rs := [18]) (by kernel_rfl) (by simp) ?_
        refine AllReadyH.cons rfl (fun K hK => ?_) AllReadyH.nil
        go_simp
        go_at_call 34
        refine (P34.out _ _ k1).mono ?_
        rintro e V2 ⟨rfl, k2⟩
        have H2_ := Lib.hid (FS.out _ _ k2 (by simp))
        clear k1
        refine hK.out _ _ H2_.out (fun _ => ?_)
        clear hK K
        try simp only [Act.put, List.getElem_toArray, List.getElem_cons_succ, List.getElem_cons_zero, List.setIfInBounds_toArray, List.set_cons_zero, List.set_cons_succ]
        refine wpAnyH_take (i := 20) (v := .bool false) rfl (by kernel_rfl) (by kernel_rfl) (by kernel_rfl) (fun _ _ _ h => h) (Or.inl ⟨by rfl, fun W hW => by clear hW; go_simp⟩) H2_.out ?_
        try simp only [Act.put, List.getElem_toArray, List.getElem_cons_succ, List.getElem_cons_zero, List.setIfInBounds_toArray, List.set_cons_zero, List.set_cons_succ]
        refine wpAnyH_take (i := 21) (v := .bool false) rfl (by kernel_rfl) (by kernel_rfl) (by kernel_rfl) (fun _ _ _ h => h) (Or.inl ⟨by rfl, fun W hW => by clear hW; go_simp⟩) H2_.out ?_
        try simp only [Act.put, List.getElem_toArray, List.getElem_cons_succ, List.getElem_cons_zero, List.setIfInBounds_toArray, List.set_cons_zero, List.set_cons_succ]
        refine wpAnyH_take (i := 22) (v := .bool false) rfl (by kernel_rfl) (by kernel_rfl) (by kernel_rfl) (fun _ _ _ h => h) (Or.inl ⟨by rfl, fun W hW => by clear hW; go_simp⟩) H2_.out ?_
        try simp only [Act.put, List.getElem_toArray, List.getElem_cons_succ, List.getElem_cons_zero, List.setIfInBounds_toArray, List.set_cons_zero, List.set_cons_succ]
        refine wpAnyH_take (i := 23) (v := .pointer (some ⟨g, 0, none⟩)) rfl (by kernel_rfl) (by kernel_rfl) (by kernel_rfl) (fun _ _ _ h => h) (Or.inl ⟨by rfl, fun W hW => by clear hW; go_simp⟩) H2_.out ?_
        try simp only [Act.put, List.getElem_toArray, List.getElem_cons_succ, List.getElem_cons_zero, List.setIfInBounds_toArray, List.set_cons_zero, List.set_cons_succ]
        refine wpAnyH_take (i := 24) (v := .agg #[.int .i64 l.a, .int .i64 l.b, .int .i64 l.d]) rfl (by kernel_rfl) (by kernel_rfl) (by kernel_rfl) (fun _ _ _ h => h) (yields_loadL (l := l) _ rfl (by rfl) rfl (fun W hW => box_rangeL hW.2)) H2_.out ?_
        try simp only [Act.put, List.getElem_toArray, List.getElem_cons_succ, List.getElem_cons_zero, List.setIfInBounds_toArray, List.set_cons_zero, List.set_cons_succ]
        refine wpAnyH_take (i := 26) (v := .slice none 0 0) rfl (by kernel_rfl) (by kernel_rfl) (by kernel_rfl) (fun _ _ _ h => h) (Or.inl ⟨by rfl, fun W hW => by clear hW; go_simp⟩) H2_.out ?_
        try simp only [Act.put, List.getElem_toArray, List.getElem_cons_succ, List.getElem_cons_zero, List.setIfInBounds_toArray, List.set_cons_zero, List.set_cons_succ]
        refine wpAnyH_ready (rs := [25]) (by kernel_rfl) (by simp) ?_
        refine AllReadyH.cons rfl (fun K hK => ?_) AllReadyH.nil
        go_simp
        go_at_call 35
        refine (P35.out _ _ k2).mono ?_
        rintro e V3 ⟨A35, M35, rfl, hv35, k3⟩
        have H3_ := Lib.hid (FS.out _ _ k3 (by simp))
        clear k2
        refine hK.out _ _ H3_.out (fun _ => ?_)
        clear hK K
        try simp only [Act.put, List.getElem_toArray, List.getElem_cons_succ, List.getElem_cons_zero, List.setIfInBounds_toArray, List.set_cons_zero, List.set_cons_succ]
        refine wpAnyH_ready (rs := [27]) (by kernel_rfl) (by simp) ?_
        refine AllReadyH.cons rfl (fun K hK => ?_) AllReadyH.nil
        go_simp
        go_at_call 19
        refine (bp_same k3 hv35 (show RL (.slice none 0 0) al [] from hal ▸ RL.nil_) (k3.st) (by omega)).mono ?_
        rintro e V4 ⟨rfl, j4, rfl⟩
        have k4 := k3.drewN j4
        have H4_ := Lib.hid (FS.out _ _ k4 (by simp))
        clear k3
        refine hK.out _ _ H4_.out (fun _ => ?_)
        clear hK K
        try simp only [Act.put, List.getElem_toArray, List.getElem_cons_succ, List.getElem_cons_zero, List.setIfInBounds_toArray, List.set_cons_zero, List.set_cons_succ]
        refine wpAnyH_take (i := 28) (v := .bool false) rfl (by kernel_rfl) (by kernel_rfl) (by kernel_rfl) (fun _ _ _ h => h) (Or.inl ⟨by rfl, fun W hW => by clear hW; go_simp⟩) H4_.out ?_
        try simp only [Act.put, List.getElem_toArray, List.getElem_cons_succ, List.getElem_cons_zero, List.setIfInBounds_toArray, List.set_cons_zero, List.set_cons_succ]
        refine wpAnyH_take (i := 29) (v := .bool false) rfl (by kernel_rfl) (by kernel_rfl) (by kernel_rfl) (fun _ _ _ h => h) (Or.inl ⟨by rfl, fun W hW => by clear hW; go_simp⟩) H4_.out ?_
        try simp only [Act.put, List.getElem_toArray, List.getElem_cons_succ, List.getElem_cons_zero, List.setIfInBounds_toArray, List.set_cons_zero, List.set_cons_succ]
        refine wpAnyH_done (by kernel_rfl) ?_ _
        have HS := Lib.hid k4.st
        have RW20 := Lib.hid (fun V (h : St w V (M35 ++ (M21 ++ (M20 ++ ((b7, C 51 #[.int .i64 l.a, .int .i64 l.b, .int .i64 l.d]) :: M6))))) => r20.row (L := (b7, C 51 #[.int .i64 l.a, .int .i64 l.b, .int .i64 l.d]) :: M6) (h.sub ((List.sublist_append_right M21 _).trans (List.sublist_append_right M35 _))) rfl)
        have RW21 := Lib.hid (fun V (h : St w V (M35 ++ (M21 ++ (M20 ++ ((b7, C 51 #[.int .i64 l.a, .int .i64 l.b, .int .i64 l.d]) :: M6))))) => r21.row (L := M20 ++ ((b7, C 51 #[.int .i64 l.a, .int .i64 l.b, .int .i64 l.d]) :: M6)) (h.sub (List.sublist_append_right M35 _)) rfl)
        generalize M35 ++ (M21 ++ (M20 ++ ((b7, C 51 #[.int .i64 l.a, .int .i64 l.b, .int .i64 l.d]) :: M6))) = XX at *
        clear k4 H1_ H2_ H3_ H4_ H0 P33 P34 P35 FS r20 r21 r6 hv35
        go_wp2
        go_loopw [149] (R2 w XX LN) (fun i _ => LN - (intOf i).toNat)
        case atStart => exact ⟨0, by omega, rfl, HS.out⟩
        case round =>
          obtain ⟨k, hk, rfl, h9⟩ := hrel
          clear HS
          by_cases hlt : k < LN
          · have g1 : ((k : Int) < (LN : Int)) = True := eq_true (by omega)
            have hk2 : k < ls.length := by rw [hLN]; exact hlt
            have hm : ls[k]? = some ls[k] := List.getElem?_eq_getElem hk2
            generalize ls[k] = y at *
            obtain ⟨b20, o20, rfl, _, t20⟩ := (RW20.out _ h9).at_ k y hm
            obtain ⟨b21, o21, rfl, _, t21⟩ := (RW21.out _ h9).at_ k y hm
            have NQ : ∀ W, (binOp .neq 51 (.agg #[.int .i64 y.a, .int .i64 y.b, .int .i64 y.d]) (.agg #[.int .i64 y.a, .int .i64 y.b, .int .i64 y.d])).run Try.prog W = .ok (.bool false) W := fun W => by rw [neq_lnk, decide_eq_true rfl]; rfl
            have H0 := Lib.hid (show wr.drew.rangeAt b20 (o20 + k * 3) y.cs ∧ wr.drew.rangeAt b21 (o21 + k * 3) y.cs from ⟨t20, t21⟩)
            have h10 := h9.drewN 1
            replace h10 : St w wr.drew XX := h10
            clear hm hk2 t20 t21 RW20 RW21
            go_wp2
            refine wp_region_held_drew (S := fun W => W.rangeAt b20 (o20 + k * 3) y.cs ∧ W.rangeAt b21 (o21 + k * 3) y.cs) (by kernel_rfl) H0.out (fun _ => ?_)
            generalize wr.drew = V0 at *
            refine wpAnyH_take (i := 0) (v := .slice (some ⟨b20, o20, none⟩) LN c20) rfl (by kernel_rfl) (by kernel_rfl) (by kernel_rfl) (fun _ _ _ h => h) (Or.inl ⟨by rfl, fun W hW => by clear hW; go_simp⟩) H0.out ?_
            try simp only [Act.put, List.getElem_toArray, List.getElem_cons_succ, List.getElem_cons_zero, List.setIfInBounds_toArray, List.set_cons_zero, List.set_cons_succ]
            refine wpAnyH_take (i := 1) (v := .int .i64 (k : Int)) rfl (by kernel_rfl) (by kernel_rfl) (by kernel_rfl) (fun _ _ _ h => h) (Or.inl ⟨by rfl, fun W hW => by clear hW; go_simp⟩) H0.out ?_
            try simp only [Act.put, List.getElem_toArray, List.getElem_cons_succ, List.getElem_cons_zero, List.setIfInBounds_toArray, List.set_cons_zero, List.set_cons_succ]
            refine wpAnyH_take (i := 2) (v := .pointer (some ⟨b20, o20 + k * 3, none⟩)) rfl (by kernel_rfl) (by kernel_rfl) (by kernel_rfl) (fun _ _ _ h => h) (Or.inl ⟨by rfl, fun W hW => by clear hW; go_simp⟩) H0.out ?_
            try simp only [Act.put, List.getElem_toArray, List.getElem_cons_succ, List.getElem_cons_zero, List.setIfInBounds_toArray, List.set_cons_zero, List.set_cons_succ]
            refine wpAnyH_take (i := 3) (v := .agg #[.int .i64 y.a, .int .i64 y.b, .int .i64 y.d]) rfl (by kernel_rfl) (by kernel_rfl) (by kernel_rfl) (fun _ _ _ h => h) (yields_loadL (l := y) _ rfl (by rfl) rfl (fun W hW => hW.1)) H0.out ?_
            try simp only [Act.put, List.getElem_toArray, List.getElem_cons_succ, List.getElem_cons_zero, List.setIfInBounds_toArray, List.set_cons_zero, List.set_cons_succ]
            refine wpAnyH_take (i := 4) (v := .slice (some ⟨b21, o21, none⟩) LN c21) rfl (by kernel_rfl) (by kernel_rfl) (by kernel_rfl) (fun _ _ _ h => h) (Or.inl ⟨by rfl, fun W hW => by clear hW; go_simp⟩) H0.out ?_
            try simp only [Act.put, List.getElem_toArray, List.getElem_cons_succ, List.getElem_cons_zero, List.setIfInBounds_toArray, List.set_cons_zero, List.set_cons_succ]
            refine wpAnyH_take (i := 5) (v := .int .i64 (k : Int)) rfl (by kernel_rfl) (by kernel_rfl) (by kernel_rfl) (fun _ _ _ h => h) (Or.inl ⟨by rfl, fun W hW => by clear hW; go_simp⟩) H0.out ?_
            try simp only [Act.put, List.getElem_toArray, List.getElem_cons_succ, List.getElem_cons_zero, List.setIfInBounds_toArray, List.set_cons_zero, List.set_cons_succ]
            refine wpAnyH_take (i := 6) (v := .pointer (some ⟨b21, o21 + k * 3, none⟩)) rfl (by kernel_rfl) (by kernel_rfl) (by kernel_rfl) (fun _ _ _ h => h) (Or.inl ⟨by rfl, fun W hW => by clear hW; go_simp⟩) H0.out ?_
            try simp only [Act.put, List.getElem_toArray, List.getElem_cons_succ, List.getElem_cons_zero, List.setIfInBounds_toArray, List.set_cons_zero, List.set_cons_succ]
            refine wpAnyH_take (i := 7) (v := .agg #[.int .i64 y.a, .int .i64 y.b, .int .i64 y.d]) rfl (by kernel_rfl) (by kernel_rfl) (by kernel_rfl) (fun _ _ _ h => h) (yields_loadL (l := y) _ rfl (by rfl) rfl (fun W hW => hW.2)) H0.out ?_
            try simp only [Act.put, List.getElem_toArray, List.getElem_cons_succ, List.getElem_cons_zero, List.setIfInBounds_toArray, List.set_cons_zero, List.set_cons_succ]
            refine wpAnyH_take (i := 8) (v := .bool false) rfl (by kernel_rfl) (by kernel_rfl) (by kernel_rfl) (fun _ _ _ h => h) (Or.inl ⟨by rfl, fun W hW => by clear hW; go_simp⟩) H0.out ?_
            try simp only [Act.put, List.getElem_toArray, List.getElem_cons_succ, List.getElem_cons_zero, List.setIfInBounds_toArray, List.set_cons_zero, List.set_cons_succ]
            refine wpAnyH_done (by kernel_rfl) ?_ _
            go_wp2
            go_roundw
            case rel => exact ⟨k + 1, by omega, by go_num, h10⟩
            case measure => simp [intOf]; omega
          · obtain rfl : k = LN := by omega
            have g1 : ((k : Int) < (k : Int)) = False := eq_false (by omega)
            go_wp2
            go_ret
            exact ⟨rfl, h9.bel⟩
end Go.Proofs.Ytacjdeppigdbjaa
