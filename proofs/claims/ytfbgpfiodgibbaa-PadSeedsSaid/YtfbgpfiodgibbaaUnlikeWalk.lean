/- For every input the law PadUnlike returns true. No condition. -/
import Derived.Test.YtfbgpfiodgibbaaBackWalk
namespace Go.Proofs.Ytfbgpfiodgibbaa
open Go.RowKit
open A (arrV vals)
set_option linter.unusedVariables false
set_option linter.unusedSimpArgs false
attribute [local irreducible] A.arrV crs cr1 Cl.arr

abbrev UL (key : List Nat) (b3 b4 b5 b8 b9 : Nat) (a b : Cl) (X Y : List Nat) : Blks := [(b3, C 23 (arrV key)), (b4, C 38 a.arr), (b5, C 38 b.arr), (b8, C 36 (arrV X)), (b9, C 36 (arrV Y))]
/-- What the law works on. -/
structure LU (w : World) (g gc : Nat) (key : List Nat) (b3 b4 b5 b8 b9 : Nat) (a b : Cl) (X Y : List Nat) (W : World) : Prop where
  ex : ∃ us, PP w W g gc key us (UL key b3 b4 b5 b8 b9 a b X Y)
section
variable {w W W' : World} {g gc b3 b4 b5 b8 b9 : Nat} {key X Y : List Nat} {a b : Cl}
theorem LU.st (h : LU w g gc key b3 b4 b5 b8 b9 a b X Y W) : St w W (UL key b3 b4 b5 b8 b9 a b X Y) := by
  obtain ⟨us, h⟩ := h.ex
  exact h.rest
theorem LU.bel (h : LU w g gc key b3 b4 b5 b8 b9 a b X Y W) : Below w.heap.size w W := h.st.bel
theorem LU.c1 (h : LU w g gc key b3 b4 b5 b8 b9 a b X Y W) : W.cell? ⟨b5, 1, none⟩ = some (.int .i64 b.l) := cl_1 (h.st.get 2 rfl)
theorem LU.c2 (h : LU w g gc key b3 b4 b5 b8 b9 a b X Y W) : W.cell? ⟨b5, 2, none⟩ = some (.int .u64 (b.M : Int)) := cl_2 (h.st.get 2 rfl)
theorem LU.c3 (h : LU w g gc key b3 b4 b5 b8 b9 a b X Y W) : W.cell? ⟨b5, 3, none⟩ = some (.int .i64 b.m) := cl_3 (h.st.get 2 rfl)
theorem LU.r4 (h : LU w g gc key b3 b4 b5 b8 b9 a b X Y W) : W.rangeAt b4 4 (vals a.xs) := cl_4 (h.st.get 1 rfl)
theorem LU.a8 (h : LU w g gc key b3 b4 b5 b8 b9 a b X Y W) : At W b8 36 (arrV X) := h.st.get 3 rfl
end
theorem PP.drewN {w W : World} {g gc : Nat} {key : List Nat} {us : List Sd} {L : Blks} (h : PP w W g gc key us L) (n : Nat) : PP w (W.drewN n) g gc key us L := by
  obtain ⟨v, M, hr, hs⟩ := h
  exact ⟨v, M, hr, hs.drewN n⟩
theorem u32w (n : Int) : IntKind.u32.wrap n = n % 4294967296 := by simp [IntKind.wrap, IntKind.bits, IntKind.signed]
theorem u16w (n : Int) : IntKind.u16.wrap n = n % 65536 := by simp [IntKind.wrap, IntKind.bits, IntKind.signed]
theorem line_cell {W : World} {b : Nat} {xs : List Nat} (h : At W b 36 (arrV xs)) (hl : xs.length = 32) (k : Nat) (hk : k < 32) : W.cell? ⟨b, k, none⟩ = some (.int .u8 ((xs.getD k 0 : Nat) : Int)) :=
  (show A.Blk W b 36 xs from h).cell k (by rw [hl]; exact hk)
theorem cl_byte {W : World} {b : Nat} {c : Cl} (h : At W b 38 c.arr) (k : Nat) (hk : k < 32) : W.cell? ⟨b, 4 + k, none⟩ = some (.int .u8 ((c.xs.getD k 0 : Nat) : Int)) :=
  cl_4 h k _ (A.vals_getElem? c.xs k (by rw [c.len]; exact hk))
theorem getD_lt (xs : List Nat) (h : ∀ x ∈ xs, x < 256) (k : Nat) : xs.getD k 0 < 256 := by
  rw [List.getD_eq_getElem?_getD]
  by_cases hk : k < xs.length
  · rw [List.getElem?_eq_getElem hk]; exact h _ (List.getElem_mem _)
  · rw [List.getElem?_eq_none (by omega)]; simp
def UlRel (w : World) (g gc : Nat) (key : List Nat) (us : List Sd) (b3 b4 b5 b8 b9 : Nat) (a b : Cl) (X Y : List Nat) (i : Value) (wr : World) : Prop :=
  ∃ k : Nat, k ≤ 32 ∧ i = .int .i64 (k : Nat) ∧ PP w wr g gc key us (UL key b3 b4 b5 b8 b9 a b X Y)
set_option maxRecDepth 100000 in
set_option maxHeartbeats 8000000 in
theorem unlike_any (key : List Nat) (hk : IsKey key) (a b : Cl) (ha : a.Ok) (hb : b.Ok) (w : World) : Calls Try.prog 6 #[.agg (arrV key), .agg a.arr, .agg b.arr] w fun e w' => e = .returned (.bool true) ∧ Below w.heap.size w w' := by
  have h0 := St.nil w
  have SP := Lib.hid (fun W => speaks_any W)
  have NW := Lib.hid (fun w W L (h : St w W L) => new_any h key hk)
  have SE1 := Lib.hid (fun w W g gc us L (h : PP w W g gc key us L) hus => seal_any h hus hk a.l a.M a.m ha.l ha.M ha.m a.xs ha.line)
  have SE2 := Lib.hid (fun w W g gc us L (h : PP w W g gc key us L) hus => seal_any h hus hk a.l a.M a.m ha.l ha.M ha.m b.xs hb.line)
  have SE3 := Lib.hid (fun w W g gc us L (h : PP w W g gc key us L) hus => seal_any h hus hk b.l b.M b.m hb.l hb.M hb.m a.xs ha.line)
  have XO := crL_ok hk a.l a.M a.m ha.line
  have YO := crL_ok hk a.l a.M a.m hb.line
  have ZO := crL_ok hk b.l b.M b.m ha.line
  have XL := Lib.hid XO.len
  have YL := Lib.hid YO.len
  have KL := Lib.hid hk.len
  have AL := Lib.hid a.len
  have BL := Lib.hid b.len
  have EQ : Hid (∀ W, (binOp .eql 36 (.agg (arrV (crL key b.l b.M b.m a.xs))) (.agg (arrV (crL key a.l a.M a.m a.xs)))).run Try.prog W = .ok (.bool (oneC a.l b.l a.M b.M a.m b.m)) W) := Lib.hid (fun W => by rw [eql_line _ _ ZO XO, crL_iff hk ha.l hb.l ha.M hb.M ha.m hb.m ha.line])
  have BT : Hid (∀ k, k < 32 → (bits .xor .u8 (((crL key a.l a.M a.m a.xs).getD k 0 : Nat) : Int) (((crL key a.l a.M a.m b.xs).getD k 0 : Nat) : Int) != bits .xor .u8 ((a.xs.getD k 0 : Nat) : Int) ((b.xs.getD k 0 : Nat) : Int)) = false) := Lib.hid (fun k hk2 => by
    rw [u8_xor_nat _ _ (getD_lt _ XO.lt k) (getD_lt _ YO.lt k), u8_xor_nat _ _ (getD_lt _ ha.b k) (getD_lt _ hb.b k), crL_bits hk _ _ _ ha.line hb.line k hk2]
    simp)
  clear XO YO ZO
  generalize crL key a.l a.M a.m a.xs = X at *
  generalize crL key a.l a.M a.m b.xs = Y at *
  generalize crL key b.l b.M b.m a.xs = Z at *
  clear hk ha hb
  go_enter Try.func6, Try.ntmps6
  go_wp2_with (first
    | (have _ := h0; refine wpList_box_st h0 23 _ rfl rfl (arrV key) rfl ?_; clear h0; intro W1 h1 _ _; generalize hb3 : w.heap.size = b3 at h1 ⊢; replace hb3 := Lib.hid hb3)
    | (have _ := h1; refine wpList_box_st h1 38 _ rfl rfl a.arr rfl ?_; clear h1; intro W2 h2 _ _; generalize W1.heap.size = b4 at *)
    | (have _ := h2; refine wpList_box_st h2 38 _ rfl rfl b.arr rfl ?_; clear h2; intro W2b h2b _ _; generalize W2.heap.size = b5 at *)
    | (go_at_call 7; refine (SP.out _).mono ?_; rintro e W3 ⟨rfl, hb⟩; have h3 : St w W3 [(b3, C 23 (arrV key)), (b4, C 38 a.arr), (b5, C 38 b.arr)] := h2b.call hb; clear hb h2b SP)
    | (have _ := h3; refine wpList_load_st h3 0 rfl 23 _ _ rfl rfl rfl Try.underlying23 rfl (by rw [A.arrV_size, KL.out]; exact sz23) ?_)
    | (go_at_call 9; have _ := h3; refine (NW.out _ _ _ h3).mono ?_; clear h3; rintro e W4 ⟨g, gc, rfl, h4⟩; have k1 := cl_1 (h4.rest.get 1 rfl); have k2 := cl_2 (h4.rest.get 1 rfl); have k3 := cl_3 (h4.rest.get 1 rfl); have k4 := Lib.hid (cl_4 (h4.rest.get 1 rfl)))
    | (have _ := h4; refine wpList_load_mid36 k4.out AL.out _ rfl rfl rfl ?_)
    | (go_at_call 12; have _ := h4; refine (SE1.out _ _ _ _ _ _ h4 (by decide)).mono ?_; clear h4 k1 k2 k3 k4; rintro e W5 ⟨rfl, h5⟩)
    | (have _ := h5; refine wpList_alloc_pp h5 36 rfl rfl _ (arrV zs32) zero36 rfl ?_; clear h5; intro W6 h6; generalize W5.heap.size = b8 at *)
    | (have _ := h6; refine wpList_store_pp (arr' := arrV X) h6 3 rfl 36 _ _ rfl rfl rfl rfl (by rw [A.arrV_size, XL.out]; exact sz36) (by rw [A.arrV_size, A.arrV_size, XL.out]; rfl) (A.arrV_all _) ?_; clear h6; intro W7 h7; have k1 := cl_1 (h7.rest.get 1 rfl); have k2 := cl_2 (h7.rest.get 1 rfl); have k3 := cl_3 (h7.rest.get 1 rfl); have k4 := Lib.hid (cl_4 (h7.rest.get 2 rfl)))
    | (have _ := h7; refine wpList_load_mid36 k4.out BL.out _ rfl rfl rfl ?_)
    | (go_at_call 12; have _ := h7; refine (SE2.out _ _ _ _ _ _ h7 (by simp)).mono ?_; clear h7 k1 k2 k3 k4; rintro e W8 ⟨rfl, h8⟩)
    | (have _ := h8; refine wpList_alloc_pp h8 36 rfl rfl _ (arrV zs32) zero36 rfl ?_; clear h8; intro W9 h9; generalize W8.heap.size = b9 at *)
    | (have _ := h9; refine wpList_store_pp (arr' := arrV Y) h9 4 rfl 36 _ _ rfl rfl rfl rfl (by rw [A.arrV_size, YL.out]; exact sz36) (by rw [A.arrV_size, A.arrV_size, YL.out]; rfl) (A.arrV_all _) ?_; clear h9; intro W10 h10))
  have h11 : PP w W10 g gc key (([] ++ [sdOf a.l a.M a.m 0, sdOf a.l a.M a.m 1]) ++ [sdOf a.l a.M a.m 0, sdOf a.l a.M a.m 1]) (UL key b3 b4 b5 b8 b9 a b X Y) := h10
  have HL4 : Hid ((([] ++ [sdOf a.l a.M a.m 0, sdOf a.l a.M a.m 1]) ++ [sdOf a.l a.M a.m 0, sdOf a.l a.M a.m 1] : List Sd).length = 4) := Lib.hid rfl
  generalize (([] ++ [sdOf a.l a.M a.m 0, sdOf a.l a.M a.m 1]) ++ [sdOf a.l a.M a.m 0, sdOf a.l a.M a.m 1] : List Sd) = us at *
  have HL6 : Hid ((us ++ [sdOf b.l b.M b.m 0, sdOf b.l b.M b.m 1]).length = 6) := Lib.hid (by rw [List.length_append, HL4.out]; rfl)
  clear h10 SE1 SE2
  go_loopw [36] (UlRel w g gc key us b3 b4 b5 b8 b9 a b X Y) (fun i _ => 32 - (intOf i).toNat)
  case atStart => exact ⟨0, by omega, rfl, h11⟩
  case round =>
    clear h11
    obtain ⟨k, hk, rfl, hP⟩ := hrel
    have HPR := Lib.hid hP
    clear hP
    by_cases hlt : k < 32
    · have c8 := line_cell (HPR.out.rest.get 3 rfl) XL.out k hlt
      have c9 := line_cell (HPR.out.rest.get 4 rfl) YL.out k hlt
      have c4 := cl_byte (HPR.out.rest.get 1 rfl) k hlt
      have c5 := cl_byte (HPR.out.rest.get 2 rfl) k hlt
      have f1 := BT.out k hlt
      have hlt2 : (k : Int) < 32 := by omega
      generalize X.getD k 0 = x at *
      generalize Y.getD k 0 = y at *
      generalize a.xs.getD k 0 = p at *
      generalize b.xs.getD k 0 = q at *
      go_wp2
      go_quiet (fail)
      go_wp2
      go_roundw
      case rel => exact ⟨k + 1, by omega, by go_num, HPR.out.drewN _⟩
      case measure => simp [intOf]; omega
    · have hge : ((k : Int) < 32) = False := eq_false (by omega)
      have k1 := cl_1 (HPR.out.rest.get 1 rfl)
      have k2 := cl_2 (HPR.out.rest.get 1 rfl)
      have k3 := cl_3 (HPR.out.rest.get 1 rfl)
      have j1 := cl_1 (HPR.out.rest.get 2 rfl)
      have j2 := cl_2 (HPR.out.rest.get 2 rfl)
      have j3 := cl_3 (HPR.out.rest.get 2 rfl)
      clear BT
      have hcs : (¬ a.l % 4294967296 = b.l % 4294967296) ∨ (a.l % 4294967296 = b.l % 4294967296 ∧ ¬ a.M = b.M) ∨ (a.l % 4294967296 = b.l % 4294967296 ∧ a.M = b.M ∧ ¬ a.m % 65536 = b.m % 65536) ∨ (a.l % 4294967296 = b.l % 4294967296 ∧ a.M = b.M ∧ a.m % 65536 = b.m % 65536) := by omega
      rcases hcs with e1 | ⟨e1, e2⟩ | ⟨e1, e2, e3⟩ | ⟨e1, e2, e3⟩
      · skip
        have f1 : (IntKind.u32.wrap a.l == IntKind.u32.wrap b.l) = false := by rw [u32w, u32w]; simp [e1]
        have f1b : (a.l % 4294967296 == b.l % 4294967296) = false := by simp [e1]
        have OC : Hid (oneC a.l b.l a.M b.M a.m b.m = false) := Lib.hid (by unfold oneC; simp [*])
        have q3 : ∀ W, (binOp .eql 36 (.agg (arrV Z)) (.agg (arrV X))).run Try.prog W = .ok (.bool false) W := fun W => by rw [EQ.out W, OC.out]
        clear EQ OC
        go_wp2
        have H0 := Lib.hid (show LU w g gc key b3 b4 b5 b8 b9 a b X Y wr.drew from ⟨_, HPR.out.drew⟩)
        have HPP := Lib.hid HPR.out.drew
        clear k1 k2 k3 j1 j2 j3
        refine wp_region_held_drew (S := fun W => LU w g gc key b3 b4 b5 b8 b9 a b X Y W) (by kernel_rfl) H0.out (fun _ => ?_)
        generalize wr.drew = V0 at *
        refine wpAnyH_take (i := 0) (v := .pointer (some ⟨g, 0, none⟩)) rfl (by kernel_rfl) (by kernel_rfl) (by kernel_rfl) (fun _ _ _ h => h) (Or.inl ⟨by rfl, fun W hW => by clear hW; go_simp⟩) H0.out ?_
        try simp only [Act.put, List.getElem_toArray, List.getElem_cons_succ, List.getElem_cons_zero, List.setIfInBounds_toArray, List.set_cons_zero, List.set_cons_succ]
        refine wpAnyH_take (i := 1) (v := .pointer (some ⟨b5, 1, none⟩)) rfl (by kernel_rfl) (by kernel_rfl) (by kernel_rfl) (fun _ _ _ h => h) (Or.inl ⟨by rfl, fun W hW => by clear hW; go_simp⟩) H0.out ?_
        try simp only [Act.put, List.getElem_toArray, List.getElem_cons_succ, List.getElem_cons_zero, List.setIfInBounds_toArray, List.set_cons_zero, List.set_cons_succ]
        refine wpAnyH_take (i := 2) (v := .int .i64 b.l) rfl (by kernel_rfl) (by kernel_rfl) (by kernel_rfl) (fun _ _ _ h => h) (Or.inl ⟨by rfl, fun W hW => by have hc := (hW.c1); clear hW; go_simp⟩) H0.out ?_
        try simp only [Act.put, List.getElem_toArray, List.getElem_cons_succ, List.getElem_cons_zero, List.setIfInBounds_toArray, List.set_cons_zero, List.set_cons_succ]
        refine wpAnyH_take (i := 3) (v := .pointer (some ⟨b5, 2, none⟩)) rfl (by kernel_rfl) (by kernel_rfl) (by kernel_rfl) (fun _ _ _ h => h) (Or.inl ⟨by rfl, fun W hW => by clear hW; go_simp⟩) H0.out ?_
        try simp only [Act.put, List.getElem_toArray, List.getElem_cons_succ, List.getElem_cons_zero, List.setIfInBounds_toArray, List.set_cons_zero, List.set_cons_succ]
        refine wpAnyH_take (i := 4) (v := .int .u64 (b.M : Int)) rfl (by kernel_rfl) (by kernel_rfl) (by kernel_rfl) (fun _ _ _ h => h) (Or.inl ⟨by rfl, fun W hW => by have hc := (hW.c2); clear hW; go_simp⟩) H0.out ?_
        try simp only [Act.put, List.getElem_toArray, List.getElem_cons_succ, List.getElem_cons_zero, List.setIfInBounds_toArray, List.set_cons_zero, List.set_cons_succ]
        refine wpAnyH_take (i := 5) (v := .pointer (some ⟨b5, 3, none⟩)) rfl (by kernel_rfl) (by kernel_rfl) (by kernel_rfl) (fun _ _ _ h => h) (Or.inl ⟨by rfl, fun W hW => by clear hW; go_simp⟩) H0.out ?_
        try simp only [Act.put, List.getElem_toArray, List.getElem_cons_succ, List.getElem_cons_zero, List.setIfInBounds_toArray, List.set_cons_zero, List.set_cons_succ]
        refine wpAnyH_take (i := 6) (v := .int .i64 b.m) rfl (by kernel_rfl) (by kernel_rfl) (by kernel_rfl) (fun _ _ _ h => h) (Or.inl ⟨by rfl, fun W hW => by have hc := (hW.c3); clear hW; go_simp⟩) H0.out ?_
        try simp only [Act.put, List.getElem_toArray, List.getElem_cons_succ, List.getElem_cons_zero, List.setIfInBounds_toArray, List.set_cons_zero, List.set_cons_succ]
        refine wpAnyH_take (i := 7) (v := .pointer (some ⟨b4, 4, none⟩)) rfl (by kernel_rfl) (by kernel_rfl) (by kernel_rfl) (fun _ _ _ h => h) (Or.inl ⟨by rfl, fun W hW => by clear hW; go_simp⟩) H0.out ?_
        try simp only [Act.put, List.getElem_toArray, List.getElem_cons_succ, List.getElem_cons_zero, List.setIfInBounds_toArray, List.set_cons_zero, List.set_cons_succ]
        refine wpAnyH_take (i := 8) (v := .agg (arrV a.xs)) rfl (by kernel_rfl) (by kernel_rfl) (by kernel_rfl) (fun _ _ _ h => h) (yields_mid36 _ rfl (by rfl) rfl AL.out (fun W hW => hW.r4)) H0.out ?_
        try simp only [Act.put, List.getElem_toArray, List.getElem_cons_succ, List.getElem_cons_zero, List.setIfInBounds_toArray, List.set_cons_zero, List.set_cons_succ]
        refine wpAnyH_take (i := 10) (v := .agg (arrV X)) rfl (by kernel_rfl) (by kernel_rfl) (by kernel_rfl) (fun _ _ _ h => h) (yields_at 36 _ _ rfl (by rfl) rfl Try.underlying36 rfl (by rw [A.arrV_size, XL.out]; exact sz36) (fun W hW => hW.a8)) H0.out ?_
        try simp only [Act.put, List.getElem_toArray, List.getElem_cons_succ, List.getElem_cons_zero, List.setIfInBounds_toArray, List.set_cons_zero, List.set_cons_succ]
        refine wpAnyH_take (i := 12) (v := .bool false) rfl (by kernel_rfl) (by kernel_rfl) (by kernel_rfl) (fun _ _ _ h => h) (Or.inl ⟨by rfl, fun W hW => by clear hW; go_simp⟩) H0.out ?_
        try simp only [Act.put, List.getElem_toArray, List.getElem_cons_succ, List.getElem_cons_zero, List.setIfInBounds_toArray, List.set_cons_zero, List.set_cons_succ]
        refine wpAnyH_ready (rs := [9]) (by kernel_rfl) (by simp) ?_
        refine AllReadyH.cons rfl (fun K hK => ?_) AllReadyH.nil
        go_simp
        go_at_call 12
        refine (SE3.out _ _ _ _ _ _ HPP.out (by have := HL4.out; omega)).mono ?_
        rintro e V1_ ⟨rfl, hp⟩
        have HP1 := Lib.hid hp
        have H1_ := Lib.hid (show LU w g gc key b3 b4 b5 b8 b9 a b X Y V1_ from ⟨_, hp⟩)
        clear hp
        refine hK.out _ _ H1_.out (fun _ => ?_)
        clear hK K
        try simp only [Act.put, List.getElem_toArray, List.getElem_cons_succ, List.getElem_cons_zero, List.setIfInBounds_toArray, List.set_cons_zero, List.set_cons_succ]
        refine wpAnyH_take (i := 11) (v := .bool false) rfl (by kernel_rfl) (by kernel_rfl) (by kernel_rfl) (fun _ _ _ h => h) (Or.inl ⟨by rfl, fun W hW => by clear hW; go_simp⟩) H1_.out ?_
        try simp only [Act.put, List.getElem_toArray, List.getElem_cons_succ, List.getElem_cons_zero, List.setIfInBounds_toArray, List.set_cons_zero, List.set_cons_succ]
        refine wpAnyH_take (i := 13) (v := .bool true) rfl (by kernel_rfl) (by kernel_rfl) (by kernel_rfl) (fun _ _ _ h => h) (Or.inl ⟨by rfl, fun W hW => by clear hW; go_simp⟩) H1_.out ?_
        try simp only [Act.put, List.getElem_toArray, List.getElem_cons_succ, List.getElem_cons_zero, List.setIfInBounds_toArray, List.set_cons_zero, List.set_cons_succ]
        refine wpAnyH_take (i := 14) (v := .bool true) rfl (by kernel_rfl) (by kernel_rfl) (by kernel_rfl) (fun _ _ _ h => h) (Or.inl ⟨by rfl, fun W hW => by clear hW; go_simp⟩) H1_.out ?_
        try simp only [Act.put, List.getElem_toArray, List.getElem_cons_succ, List.getElem_cons_zero, List.setIfInBounds_toArray, List.set_cons_zero, List.set_cons_succ]
        refine wpAnyH_take (i := 15) (v := .pointer (some ⟨g, 0, none⟩)) rfl (by kernel_rfl) (by kernel_rfl) (by kernel_rfl) (fun _ _ _ h => h) (Or.inl ⟨by rfl, fun W hW => by clear hW; go_simp⟩) H1_.out ?_
        try simp only [Act.put, List.getElem_toArray, List.getElem_cons_succ, List.getElem_cons_zero, List.setIfInBounds_toArray, List.set_cons_zero, List.set_cons_succ]
        refine wpAnyH_ready (rs := [16]) (by kernel_rfl) (by simp) ?_
        refine AllReadyH.cons rfl (fun K hK => ?_) AllReadyH.nil
        go_simp
        go_at_call 14
        refine (used_any HP1.out (by rw [HL6.out]; omega)).mono ?_
        rintro e V2_ ⟨v9, M9, rfl, hr, hp⟩
        obtain ⟨A9, c9, rfl, _⟩ := hr.form
        rw [HL6.out]
        have H2_ := Lib.hid (show LU w g gc key b3 b4 b5 b8 b9 a b X Y V2_ from ⟨_, hp.sub (List.sublist_append_right M9 _)⟩)
        clear hr hp
        refine hK.out _ _ H2_.out (fun _ => ?_)
        clear hK K
        try simp only [Act.put, List.getElem_toArray, List.getElem_cons_succ, List.getElem_cons_zero, List.setIfInBounds_toArray, List.set_cons_zero, List.set_cons_succ]
        refine wpAnyH_take (i := 17) (v := .int .i64 6) rfl (by kernel_rfl) (by kernel_rfl) (by kernel_rfl) (fun _ _ _ h => h) (Or.inl ⟨by rfl, fun W hW => by clear hW; go_simp⟩) H2_.out ?_
        try simp only [Act.put, List.getElem_toArray, List.getElem_cons_succ, List.getElem_cons_zero, List.setIfInBounds_toArray, List.set_cons_zero, List.set_cons_succ]
        refine wpAnyH_take (i := 18) (v := .bool true) rfl (by kernel_rfl) (by kernel_rfl) (by kernel_rfl) (fun _ _ _ h => h) (Or.inl ⟨by rfl, fun W hW => by clear hW; go_simp⟩) H2_.out ?_
        try simp only [Act.put, List.getElem_toArray, List.getElem_cons_succ, List.getElem_cons_zero, List.setIfInBounds_toArray, List.set_cons_zero, List.set_cons_succ]
        refine wpAnyH_take (i := 19) (v := .bool true) rfl (by kernel_rfl) (by kernel_rfl) (by kernel_rfl) (fun _ _ _ h => h) (Or.inl ⟨by rfl, fun W hW => by clear hW; go_simp⟩) H2_.out ?_
        try simp only [Act.put, List.getElem_toArray, List.getElem_cons_succ, List.getElem_cons_zero, List.setIfInBounds_toArray, List.set_cons_zero, List.set_cons_succ]
        refine wpAnyH_take (i := 20) (v := .bool true) rfl (by kernel_rfl) (by kernel_rfl) (by kernel_rfl) (fun _ _ _ h => h) (Or.inl ⟨by rfl, fun W hW => by clear hW; go_simp⟩) H2_.out ?_
        try simp only [Act.put, List.getElem_toArray, List.getElem_cons_succ, List.getElem_cons_zero, List.setIfInBounds_toArray, List.set_cons_zero, List.set_cons_succ]
        refine wpAnyH_done (by kernel_rfl) ?_ _
        go_wp2
        go_ret
        exact ⟨rfl, H2_.out.bel⟩
      · skip
        have f1 : (IntKind.u32.wrap a.l == IntKind.u32.wrap b.l) = true := by rw [u32w, u32w]; simp [e1]
        have f1b : (a.l % 4294967296 == b.l % 4294967296) = true := by simp [e1]
        have f2 : ((a.M : Int) == (b.M : Int)) = false := by first | (simp [e2]; done) | (rw [beq_eq_false_iff_ne]; omega)
        have OC : Hid (oneC a.l b.l a.M b.M a.m b.m = false) := Lib.hid (by unfold oneC; simp [*])
        have q3 : ∀ W, (binOp .eql 36 (.agg (arrV Z)) (.agg (arrV X))).run Try.prog W = .ok (.bool false) W := fun W => by rw [EQ.out W, OC.out]
        clear EQ OC
        go_wp2
        have H0 := Lib.hid (show LU w g gc key b3 b4 b5 b8 b9 a b X Y wr.drew from ⟨_, HPR.out.drew⟩)
        have HPP := Lib.hid HPR.out.drew
        clear k1 k2 k3 j1 j2 j3
        refine wp_region_held_drew (S := fun W => LU w g gc key b3 b4 b5 b8 b9 a b X Y W) (by kernel_rfl) H0.out (fun _ => ?_)
        generalize wr.drew = V0 at *
        refine wpAnyH_take (i := 0) (v := .pointer (some ⟨g, 0, none⟩)) rfl (by kernel_rfl) (by kernel_rfl) (by kernel_rfl) (fun _ _ _ h => h) (Or.inl ⟨by rfl, fun W hW => by clear hW; go_simp⟩) H0.out ?_
        try simp only [Act.put, List.getElem_toArray, List.getElem_cons_succ, List.getElem_cons_zero, List.setIfInBounds_toArray, List.set_cons_zero, List.set_cons_succ]
        refine wpAnyH_take (i := 1) (v := .pointer (some ⟨b5, 1, none⟩)) rfl (by kernel_rfl) (by kernel_rfl) (by kernel_rfl) (fun _ _ _ h => h) (Or.inl ⟨by rfl, fun W hW => by clear hW; go_simp⟩) H0.out ?_
        try simp only [Act.put, List.getElem_toArray, List.getElem_cons_succ, List.getElem_cons_zero, List.setIfInBounds_toArray, List.set_cons_zero, List.set_cons_succ]
        refine wpAnyH_take (i := 2) (v := .int .i64 b.l) rfl (by kernel_rfl) (by kernel_rfl) (by kernel_rfl) (fun _ _ _ h => h) (Or.inl ⟨by rfl, fun W hW => by have hc := (hW.c1); clear hW; go_simp⟩) H0.out ?_
        try simp only [Act.put, List.getElem_toArray, List.getElem_cons_succ, List.getElem_cons_zero, List.setIfInBounds_toArray, List.set_cons_zero, List.set_cons_succ]
        refine wpAnyH_take (i := 3) (v := .pointer (some ⟨b5, 2, none⟩)) rfl (by kernel_rfl) (by kernel_rfl) (by kernel_rfl) (fun _ _ _ h => h) (Or.inl ⟨by rfl, fun W hW => by clear hW; go_simp⟩) H0.out ?_
        try simp only [Act.put, List.getElem_toArray, List.getElem_cons_succ, List.getElem_cons_zero, List.setIfInBounds_toArray, List.set_cons_zero, List.set_cons_succ]
        refine wpAnyH_take (i := 4) (v := .int .u64 (b.M : Int)) rfl (by kernel_rfl) (by kernel_rfl) (by kernel_rfl) (fun _ _ _ h => h) (Or.inl ⟨by rfl, fun W hW => by have hc := (hW.c2); clear hW; go_simp⟩) H0.out ?_
        try simp only [Act.put, List.getElem_toArray, List.getElem_cons_succ, List.getElem_cons_zero, List.setIfInBounds_toArray, List.set_cons_zero, List.set_cons_succ]
        refine wpAnyH_take (i := 5) (v := .pointer (some ⟨b5, 3, none⟩)) rfl (by kernel_rfl) (by kernel_rfl) (by kernel_rfl) (fun _ _ _ h => h) (Or.inl ⟨by rfl, fun W hW => by clear hW; go_simp⟩) H0.out ?_
        try simp only [Act.put, List.getElem_toArray, List.getElem_cons_succ, List.getElem_cons_zero, List.setIfInBounds_toArray, List.set_cons_zero, List.set_cons_succ]
        refine wpAnyH_take (i := 6) (v := .int .i64 b.m) rfl (by kernel_rfl) (by kernel_rfl) (by kernel_rfl) (fun _ _ _ h => h) (Or.inl ⟨by rfl, fun W hW => by have hc := (hW.c3); clear hW; go_simp⟩) H0.out ?_
        try simp only [Act.put, List.getElem_toArray, List.getElem_cons_succ, List.getElem_cons_zero, List.setIfInBounds_toArray, List.set_cons_zero, List.set_cons_succ]
        refine wpAnyH_take (i := 7) (v := .pointer (some ⟨b4, 4, none⟩)) rfl (by kernel_rfl) (by kernel_rfl) (by kernel_rfl) (fun _ _ _ h => h) (Or.inl ⟨by rfl, fun W hW => by clear hW; go_simp⟩) H0.out ?_
        try simp only [Act.put, List.getElem_toArray, List.getElem_cons_succ, List.getElem_cons_zero, List.setIfInBounds_toArray, List.set_cons_zero, List.set_cons_succ]
        refine wpAnyH_take (i := 8) (v := .agg (arrV a.xs)) rfl (by kernel_rfl) (by kernel_rfl) (by kernel_rfl) (fun _ _ _ h => h) (yields_mid36 _ rfl (by rfl) rfl AL.out (fun W hW => hW.r4)) H0.out ?_
        try simp only [Act.put, List.getElem_toArray, List.getElem_cons_succ, List.getElem_cons_zero, List.setIfInBounds_toArray, List.set_cons_zero, List.set_cons_succ]
        refine wpAnyH_take (i := 10) (v := .agg (arrV X)) rfl (by kernel_rfl) (by kernel_rfl) (by kernel_rfl) (fun _ _ _ h => h) (yields_at 36 _ _ rfl (by rfl) rfl Try.underlying36 rfl (by rw [A.arrV_size, XL.out]; exact sz36) (fun W hW => hW.a8)) H0.out ?_
        try simp only [Act.put, List.getElem_toArray, List.getElem_cons_succ, List.getElem_cons_zero, List.setIfInBounds_toArray, List.set_cons_zero, List.set_cons_succ]
        refine wpAnyH_take (i := 12) (v := .bool false) rfl (by kernel_rfl) (by kernel_rfl) (by kernel_rfl) (fun _ _ _ h => h) (Or.inl ⟨by rfl, fun W hW => by clear hW; go_simp⟩) H0.out ?_
        try simp only [Act.put, List.getElem_toArray, List.getElem_cons_succ, List.getElem_cons_zero, List.setIfInBounds_toArray, List.set_cons_zero, List.set_cons_succ]
        refine wpAnyH_ready (rs := [9]) (by kernel_rfl) (by simp) ?_
        refine AllReadyH.cons rfl (fun K hK => ?_) AllReadyH.nil
        go_simp
        go_at_call 12
        refine (SE3.out _ _ _ _ _ _ HPP.out (by have := HL4.out; omega)).mono ?_
        rintro e V1_ ⟨rfl, hp⟩
        have HP1 := Lib.hid hp
        have H1_ := Lib.hid (show LU w g gc key b3 b4 b5 b8 b9 a b X Y V1_ from ⟨_, hp⟩)
        clear hp
        refine hK.out _ _ H1_.out (fun _ => ?_)
        clear hK K
        try simp only [Act.put, List.getElem_toArray, List.getElem_cons_succ, List.getElem_cons_zero, List.setIfInBounds_toArray, List.set_cons_zero, List.set_cons_succ]
        refine wpAnyH_take (i := 11) (v := .bool false) rfl (by kernel_rfl) (by kernel_rfl) (by kernel_rfl) (fun _ _ _ h => h) (Or.inl ⟨by rfl, fun W hW => by clear hW; go_simp⟩) H1_.out ?_
        try simp only [Act.put, List.getElem_toArray, List.getElem_cons_succ, List.getElem_cons_zero, List.setIfInBounds_toArray, List.set_cons_zero, List.set_cons_succ]
        refine wpAnyH_take (i := 13) (v := .bool true) rfl (by kernel_rfl) (by kernel_rfl) (by kernel_rfl) (fun _ _ _ h => h) (Or.inl ⟨by rfl, fun W hW => by clear hW; go_simp⟩) H1_.out ?_
        try simp only [Act.put, List.getElem_toArray, List.getElem_cons_succ, List.getElem_cons_zero, List.setIfInBounds_toArray, List.set_cons_zero, List.set_cons_succ]
        refine wpAnyH_take (i := 14) (v := .bool true) rfl (by kernel_rfl) (by kernel_rfl) (by kernel_rfl) (fun _ _ _ h => h) (Or.inl ⟨by rfl, fun W hW => by clear hW; go_simp⟩) H1_.out ?_
        try simp only [Act.put, List.getElem_toArray, List.getElem_cons_succ, List.getElem_cons_zero, List.setIfInBounds_toArray, List.set_cons_zero, List.set_cons_succ]
        refine wpAnyH_take (i := 15) (v := .pointer (some ⟨g, 0, none⟩)) rfl (by kernel_rfl) (by kernel_rfl) (by kernel_rfl) (fun _ _ _ h => h) (Or.inl ⟨by rfl, fun W hW => by clear hW; go_simp⟩) H1_.out ?_
        try simp only [Act.put, List.getElem_toArray, List.getElem_cons_succ, List.getElem_cons_zero, List.setIfInBounds_toArray, List.set_cons_zero, List.set_cons_succ]
        refine wpAnyH_ready (rs := [16]) (by kernel_rfl) (by simp) ?_
        refine AllReadyH.cons rfl (fun K hK => ?_) AllReadyH.nil
        go_simp
        go_at_call 14
        refine (used_any HP1.out (by rw [HL6.out]; omega)).mono ?_
        rintro e V2_ ⟨v9, M9, rfl, hr, hp⟩
        obtain ⟨A9, c9, rfl, _⟩ := hr.form
        rw [HL6.out]
        have H2_ := Lib.hid (show LU w g gc key b3 b4 b5 b8 b9 a b X Y V2_ from ⟨_, hp.sub (List.sublist_append_right M9 _)⟩)
        clear hr hp
        refine hK.out _ _ H2_.out (fun _ => ?_)
        clear hK K
        try simp only [Act.put, List.getElem_toArray, List.getElem_cons_succ, List.getElem_cons_zero, List.setIfInBounds_toArray, List.set_cons_zero, List.set_cons_succ]
        refine wpAnyH_take (i := 17) (v := .int .i64 6) rfl (by kernel_rfl) (by kernel_rfl) (by kernel_rfl) (fun _ _ _ h => h) (Or.inl ⟨by rfl, fun W hW => by clear hW; go_simp⟩) H2_.out ?_
        try simp only [Act.put, List.getElem_toArray, List.getElem_cons_succ, List.getElem_cons_zero, List.setIfInBounds_toArray, List.set_cons_zero, List.set_cons_succ]
        refine wpAnyH_take (i := 18) (v := .bool true) rfl (by kernel_rfl) (by kernel_rfl) (by kernel_rfl) (fun _ _ _ h => h) (Or.inl ⟨by rfl, fun W hW => by clear hW; go_simp⟩) H2_.out ?_
        try simp only [Act.put, List.getElem_toArray, List.getElem_cons_succ, List.getElem_cons_zero, List.setIfInBounds_toArray, List.set_cons_zero, List.set_cons_succ]
        refine wpAnyH_take (i := 19) (v := .bool true) rfl (by kernel_rfl) (by kernel_rfl) (by kernel_rfl) (fun _ _ _ h => h) (Or.inl ⟨by rfl, fun W hW => by clear hW; go_simp⟩) H2_.out ?_
        try simp only [Act.put, List.getElem_toArray, List.getElem_cons_succ, List.getElem_cons_zero, List.setIfInBounds_toArray, List.set_cons_zero, List.set_cons_succ]
        refine wpAnyH_take (i := 20) (v := .bool true) rfl (by kernel_rfl) (by kernel_rfl) (by kernel_rfl) (fun _ _ _ h => h) (Or.inl ⟨by rfl, fun W hW => by clear hW; go_simp⟩) H2_.out ?_
        try simp only [Act.put, List.getElem_toArray, List.getElem_cons_succ, List.getElem_cons_zero, List.setIfInBounds_toArray, List.set_cons_zero, List.set_cons_succ]
        refine wpAnyH_done (by kernel_rfl) ?_ _
        go_wp2
        go_ret
        exact ⟨rfl, H2_.out.bel⟩
      · skip
        have f1 : (IntKind.u32.wrap a.l == IntKind.u32.wrap b.l) = true := by rw [u32w, u32w]; simp [e1]
        have f1b : (a.l % 4294967296 == b.l % 4294967296) = true := by simp [e1]
        have f2 : ((a.M : Int) == (b.M : Int)) = true := by first | (simp [e2]; done) | (rw [beq_eq_false_iff_ne]; omega)
        have f3 : (IntKind.u16.wrap a.m == IntKind.u16.wrap b.m) = false := by rw [u16w, u16w]; simp [e3]
        have f3b : (a.m % 65536 == b.m % 65536) = false := by simp [e3]
        have OC : Hid (oneC a.l b.l a.M b.M a.m b.m = false) := Lib.hid (by unfold oneC; simp [*])
        have q3 : ∀ W, (binOp .eql 36 (.agg (arrV Z)) (.agg (arrV X))).run Try.prog W = .ok (.bool false) W := fun W => by rw [EQ.out W, OC.out]
        clear EQ OC
        go_wp2
        have H0 := Lib.hid (show LU w g gc key b3 b4 b5 b8 b9 a b X Y wr.drew from ⟨_, HPR.out.drew⟩)
        have HPP := Lib.hid HPR.out.drew
        clear k1 k2 k3 j1 j2 j3
        refine wp_region_held_drew (S := fun W => LU w g gc key b3 b4 b5 b8 b9 a b X Y W) (by kernel_rfl) H0.out (fun _ => ?_)
        generalize wr.drew = V0 at *
        refine wpAnyH_take (i := 0) (v := .pointer (some ⟨g, 0, none⟩)) rfl (by kernel_rfl) (by kernel_rfl) (by kernel_rfl) (fun _ _ _ h => h) (Or.inl ⟨by rfl, fun W hW => by clear hW; go_simp⟩) H0.out ?_
        try simp only [Act.put, List.getElem_toArray, List.getElem_cons_succ, List.getElem_cons_zero, List.setIfInBounds_toArray, List.set_cons_zero, List.set_cons_succ]
        refine wpAnyH_take (i := 1) (v := .pointer (some ⟨b5, 1, none⟩)) rfl (by kernel_rfl) (by kernel_rfl) (by kernel_rfl) (fun _ _ _ h => h) (Or.inl ⟨by rfl, fun W hW => by clear hW; go_simp⟩) H0.out ?_
        try simp only [Act.put, List.getElem_toArray, List.getElem_cons_succ, List.getElem_cons_zero, List.setIfInBounds_toArray, List.set_cons_zero, List.set_cons_succ]
        refine wpAnyH_take (i := 2) (v := .int .i64 b.l) rfl (by kernel_rfl) (by kernel_rfl) (by kernel_rfl) (fun _ _ _ h => h) (Or.inl ⟨by rfl, fun W hW => by have hc := (hW.c1); clear hW; go_simp⟩) H0.out ?_
        try simp only [Act.put, List.getElem_toArray, List.getElem_cons_succ, List.getElem_cons_zero, List.setIfInBounds_toArray, List.set_cons_zero, List.set_cons_succ]
        refine wpAnyH_take (i := 3) (v := .pointer (some ⟨b5, 2, none⟩)) rfl (by kernel_rfl) (by kernel_rfl) (by kernel_rfl) (fun _ _ _ h => h) (Or.inl ⟨by rfl, fun W hW => by clear hW; go_simp⟩) H0.out ?_
        try simp only [Act.put, List.getElem_toArray, List.getElem_cons_succ, List.getElem_cons_zero, List.setIfInBounds_toArray, List.set_cons_zero, List.set_cons_succ]
        refine wpAnyH_take (i := 4) (v := .int .u64 (b.M : Int)) rfl (by kernel_rfl) (by kernel_rfl) (by kernel_rfl) (fun _ _ _ h => h) (Or.inl ⟨by rfl, fun W hW => by have hc := (hW.c2); clear hW; go_simp⟩) H0.out ?_
        try simp only [Act.put, List.getElem_toArray, List.getElem_cons_succ, List.getElem_cons_zero, List.setIfInBounds_toArray, List.set_cons_zero, List.set_cons_succ]
        refine wpAnyH_take (i := 5) (v := .pointer (some ⟨b5, 3, none⟩)) rfl (by kernel_rfl) (by kernel_rfl) (by kernel_rfl) (fun _ _ _ h => h) (Or.inl ⟨by rfl, fun W hW => by clear hW; go_simp⟩) H0.out ?_
        try simp only [Act.put, List.getElem_toArray, List.getElem_cons_succ, List.getElem_cons_zero, List.setIfInBounds_toArray, List.set_cons_zero, List.set_cons_succ]
        refine wpAnyH_take (i := 6) (v := .int .i64 b.m) rfl (by kernel_rfl) (by kernel_rfl) (by kernel_rfl) (fun _ _ _ h => h) (Or.inl ⟨by rfl, fun W hW => by have hc := (hW.c3); clear hW; go_simp⟩) H0.out ?_
        try simp only [Act.put, List.getElem_toArray, List.getElem_cons_succ, List.getElem_cons_zero, List.setIfInBounds_toArray, List.set_cons_zero, List.set_cons_succ]
        refine wpAnyH_take (i := 7) (v := .pointer (some ⟨b4, 4, none⟩)) rfl (by kernel_rfl) (by kernel_rfl) (by kernel_rfl) (fun _ _ _ h => h) (Or.inl ⟨by rfl, fun W hW => by clear hW; go_simp⟩) H0.out ?_
        try simp only [Act.put, List.getElem_toArray, List.getElem_cons_succ, List.getElem_cons_zero, List.setIfInBounds_toArray, List.set_cons_zero, List.set_cons_succ]
        refine wpAnyH_take (i := 8) (v := .agg (arrV a.xs)) rfl (by kernel_rfl) (by kernel_rfl) (by kernel_rfl) (fun _ _ _ h => h) (yields_mid36 _ rfl (by rfl) rfl AL.out (fun W hW => hW.r4)) H0.out ?_
        try simp only [Act.put, List.getElem_toArray, List.getElem_cons_succ, List.getElem_cons_zero, List.setIfInBounds_toArray, List.set_cons_zero, List.set_cons_succ]
        refine wpAnyH_take (i := 10) (v := .agg (arrV X)) rfl (by kernel_rfl) (by kernel_rfl) (by kernel_rfl) (fun _ _ _ h => h) (yields_at 36 _ _ rfl (by rfl) rfl Try.underlying36 rfl (by rw [A.arrV_size, XL.out]; exact sz36) (fun W hW => hW.a8)) H0.out ?_
        try simp only [Act.put, List.getElem_toArray, List.getElem_cons_succ, List.getElem_cons_zero, List.setIfInBounds_toArray, List.set_cons_zero, List.set_cons_succ]
        refine wpAnyH_take (i := 12) (v := .bool false) rfl (by kernel_rfl) (by kernel_rfl) (by kernel_rfl) (fun _ _ _ h => h) (Or.inl ⟨by rfl, fun W hW => by clear hW; go_simp⟩) H0.out ?_
        try simp only [Act.put, List.getElem_toArray, List.getElem_cons_succ, List.getElem_cons_zero, List.setIfInBounds_toArray, List.set_cons_zero, List.set_cons_succ]
        refine wpAnyH_ready (rs := [9]) (by kernel_rfl) (by simp) ?_
        refine AllReadyH.cons rfl (fun K hK => ?_) AllReadyH.nil
        go_simp
        go_at_call 12
        refine (SE3.out _ _ _ _ _ _ HPP.out (by have := HL4.out; omega)).mono ?_
        rintro e V1_ ⟨rfl, hp⟩
        have HP1 := Lib.hid hp
        have H1_ := Lib.hid (show LU w g gc key b3 b4 b5 b8 b9 a b X Y V1_ from ⟨_, hp⟩)
        clear hp
        refine hK.out _ _ H1_.out (fun _ => ?_)
        clear hK K
        try simp only [Act.put, List.getElem_toArray, List.getElem_cons_succ, List.getElem_cons_zero, List.setIfInBounds_toArray, List.set_cons_zero, List.set_cons_succ]
        refine wpAnyH_take (i := 11) (v := .bool false) rfl (by kernel_rfl) (by kernel_rfl) (by kernel_rfl) (fun _ _ _ h => h) (Or.inl ⟨by rfl, fun W hW => by clear hW; go_simp⟩) H1_.out ?_
        try simp only [Act.put, List.getElem_toArray, List.getElem_cons_succ, List.getElem_cons_zero, List.setIfInBounds_toArray, List.set_cons_zero, List.set_cons_succ]
        refine wpAnyH_take (i := 13) (v := .bool true) rfl (by kernel_rfl) (by kernel_rfl) (by kernel_rfl) (fun _ _ _ h => h) (Or.inl ⟨by rfl, fun W hW => by clear hW; go_simp⟩) H1_.out ?_
        try simp only [Act.put, List.getElem_toArray, List.getElem_cons_succ, List.getElem_cons_zero, List.setIfInBounds_toArray, List.set_cons_zero, List.set_cons_succ]
        refine wpAnyH_take (i := 14) (v := .bool true) rfl (by kernel_rfl) (by kernel_rfl) (by kernel_rfl) (fun _ _ _ h => h) (Or.inl ⟨by rfl, fun W hW => by clear hW; go_simp⟩) H1_.out ?_
        try simp only [Act.put, List.getElem_toArray, List.getElem_cons_succ, List.getElem_cons_zero, List.setIfInBounds_toArray, List.set_cons_zero, List.set_cons_succ]
        refine wpAnyH_take (i := 15) (v := .pointer (some ⟨g, 0, none⟩)) rfl (by kernel_rfl) (by kernel_rfl) (by kernel_rfl) (fun _ _ _ h => h) (Or.inl ⟨by rfl, fun W hW => by clear hW; go_simp⟩) H1_.out ?_
        try simp only [Act.put, List.getElem_toArray, List.getElem_cons_succ, List.getElem_cons_zero, List.setIfInBounds_toArray, List.set_cons_zero, List.set_cons_succ]
        refine wpAnyH_ready (rs := [16]) (by kernel_rfl) (by simp) ?_
        refine AllReadyH.cons rfl (fun K hK => ?_) AllReadyH.nil
        go_simp
        go_at_call 14
        refine (used_any HP1.out (by rw [HL6.out]; omega)).mono ?_
        rintro e V2_ ⟨v9, M9, rfl, hr, hp⟩
        obtain ⟨A9, c9, rfl, _⟩ := hr.form
        rw [HL6.out]
        have H2_ := Lib.hid (show LU w g gc key b3 b4 b5 b8 b9 a b X Y V2_ from ⟨_, hp.sub (List.sublist_append_right M9 _)⟩)
        clear hr hp
        refine hK.out _ _ H2_.out (fun _ => ?_)
        clear hK K
        try simp only [Act.put, List.getElem_toArray, List.getElem_cons_succ, List.getElem_cons_zero, List.setIfInBounds_toArray, List.set_cons_zero, List.set_cons_succ]
        refine wpAnyH_take (i := 17) (v := .int .i64 6) rfl (by kernel_rfl) (by kernel_rfl) (by kernel_rfl) (fun _ _ _ h => h) (Or.inl ⟨by rfl, fun W hW => by clear hW; go_simp⟩) H2_.out ?_
        try simp only [Act.put, List.getElem_toArray, List.getElem_cons_succ, List.getElem_cons_zero, List.setIfInBounds_toArray, List.set_cons_zero, List.set_cons_succ]
        refine wpAnyH_take (i := 18) (v := .bool true) rfl (by kernel_rfl) (by kernel_rfl) (by kernel_rfl) (fun _ _ _ h => h) (Or.inl ⟨by rfl, fun W hW => by clear hW; go_simp⟩) H2_.out ?_
        try simp only [Act.put, List.getElem_toArray, List.getElem_cons_succ, List.getElem_cons_zero, List.setIfInBounds_toArray, List.set_cons_zero, List.set_cons_succ]
        refine wpAnyH_take (i := 19) (v := .bool true) rfl (by kernel_rfl) (by kernel_rfl) (by kernel_rfl) (fun _ _ _ h => h) (Or.inl ⟨by rfl, fun W hW => by clear hW; go_simp⟩) H2_.out ?_
        try simp only [Act.put, List.getElem_toArray, List.getElem_cons_succ, List.getElem_cons_zero, List.setIfInBounds_toArray, List.set_cons_zero, List.set_cons_succ]
        refine wpAnyH_take (i := 20) (v := .bool true) rfl (by kernel_rfl) (by kernel_rfl) (by kernel_rfl) (fun _ _ _ h => h) (Or.inl ⟨by rfl, fun W hW => by clear hW; go_simp⟩) H2_.out ?_
        try simp only [Act.put, List.getElem_toArray, List.getElem_cons_succ, List.getElem_cons_zero, List.setIfInBounds_toArray, List.set_cons_zero, List.set_cons_succ]
        refine wpAnyH_done (by kernel_rfl) ?_ _
        go_wp2
        go_ret
        exact ⟨rfl, H2_.out.bel⟩
      · skip
        have f1 : (IntKind.u32.wrap a.l == IntKind.u32.wrap b.l) = true := by rw [u32w, u32w]; simp [e1]
        have f1b : (a.l % 4294967296 == b.l % 4294967296) = true := by simp [e1]
        have f2 : ((a.M : Int) == (b.M : Int)) = true := by first | (simp [e2]; done) | (rw [beq_eq_false_iff_ne]; omega)
        have f3 : (IntKind.u16.wrap a.m == IntKind.u16.wrap b.m) = true := by rw [u16w, u16w]; simp [e3]
        have f3b : (a.m % 65536 == b.m % 65536) = true := by simp [e3]
        have OC : Hid (oneC a.l b.l a.M b.M a.m b.m = true) := Lib.hid (by unfold oneC; simp [*])
        have q3 : ∀ W, (binOp .eql 36 (.agg (arrV Z)) (.agg (arrV X))).run Try.prog W = .ok (.bool true) W := fun W => by rw [EQ.out W, OC.out]
        clear EQ OC
        go_wp2
        have H0 := Lib.hid (show LU w g gc key b3 b4 b5 b8 b9 a b X Y wr.drew from ⟨_, HPR.out.drew⟩)
        have HPP := Lib.hid HPR.out.drew
        clear k1 k2 k3 j1 j2 j3
        refine wp_region_held_drew (S := fun W => LU w g gc key b3 b4 b5 b8 b9 a b X Y W) (by kernel_rfl) H0.out (fun _ => ?_)
        generalize wr.drew = V0 at *
        refine wpAnyH_take (i := 0) (v := .pointer (some ⟨g, 0, none⟩)) rfl (by kernel_rfl) (by kernel_rfl) (by kernel_rfl) (fun _ _ _ h => h) (Or.inl ⟨by rfl, fun W hW => by clear hW; go_simp⟩) H0.out ?_
        try simp only [Act.put, List.getElem_toArray, List.getElem_cons_succ, List.getElem_cons_zero, List.setIfInBounds_toArray, List.set_cons_zero, List.set_cons_succ]
        refine wpAnyH_take (i := 1) (v := .pointer (some ⟨b5, 1, none⟩)) rfl (by kernel_rfl) (by kernel_rfl) (by kernel_rfl) (fun _ _ _ h => h) (Or.inl ⟨by rfl, fun W hW => by clear hW; go_simp⟩) H0.out ?_
        try simp only [Act.put, List.getElem_toArray, List.getElem_cons_succ, List.getElem_cons_zero, List.setIfInBounds_toArray, List.set_cons_zero, List.set_cons_succ]
        refine wpAnyH_take (i := 2) (v := .int .i64 b.l) rfl (by kernel_rfl) (by kernel_rfl) (by kernel_rfl) (fun _ _ _ h => h) (Or.inl ⟨by rfl, fun W hW => by have hc := (hW.c1); clear hW; go_simp⟩) H0.out ?_
        try simp only [Act.put, List.getElem_toArray, List.getElem_cons_succ, List.getElem_cons_zero, List.setIfInBounds_toArray, List.set_cons_zero, List.set_cons_succ]
        refine wpAnyH_take (i := 3) (v := .pointer (some ⟨b5, 2, none⟩)) rfl (by kernel_rfl) (by kernel_rfl) (by kernel_rfl) (fun _ _ _ h => h) (Or.inl ⟨by rfl, fun W hW => by clear hW; go_simp⟩) H0.out ?_
        try simp only [Act.put, List.getElem_toArray, List.getElem_cons_succ, List.getElem_cons_zero, List.setIfInBounds_toArray, List.set_cons_zero, List.set_cons_succ]
        refine wpAnyH_take (i := 4) (v := .int .u64 (b.M : Int)) rfl (by kernel_rfl) (by kernel_rfl) (by kernel_rfl) (fun _ _ _ h => h) (Or.inl ⟨by rfl, fun W hW => by have hc := (hW.c2); clear hW; go_simp⟩) H0.out ?_
        try simp only [Act.put, List.getElem_toArray, List.getElem_cons_succ, List.getElem_cons_zero, List.setIfInBounds_toArray, List.set_cons_zero, List.set_cons_succ]
        refine wpAnyH_take (i := 5) (v := .pointer (some ⟨b5, 3, none⟩)) rfl (by kernel_rfl) (by kernel_rfl) (by kernel_rfl) (fun _ _ _ h => h) (Or.inl ⟨by rfl, fun W hW => by clear hW; go_simp⟩) H0.out ?_
        try simp only [Act.put, List.getElem_toArray, List.getElem_cons_succ, List.getElem_cons_zero, List.setIfInBounds_toArray, List.set_cons_zero, List.set_cons_succ]
        refine wpAnyH_take (i := 6) (v := .int .i64 b.m) rfl (by kernel_rfl) (by kernel_rfl) (by kernel_rfl) (fun _ _ _ h => h) (Or.inl ⟨by rfl, fun W hW => by have hc := (hW.c3); clear hW; go_simp⟩) H0.out ?_
        try simp only [Act.put, List.getElem_toArray, List.getElem_cons_succ, List.getElem_cons_zero, List.setIfInBounds_toArray, List.set_cons_zero, List.set_cons_succ]
        refine wpAnyH_take (i := 7) (v := .pointer (some ⟨b4, 4, none⟩)) rfl (by kernel_rfl) (by kernel_rfl) (by kernel_rfl) (fun _ _ _ h => h) (Or.inl ⟨by rfl, fun W hW => by clear hW; go_simp⟩) H0.out ?_
        try simp only [Act.put, List.getElem_toArray, List.getElem_cons_succ, List.getElem_cons_zero, List.setIfInBounds_toArray, List.set_cons_zero, List.set_cons_succ]
        refine wpAnyH_take (i := 8) (v := .agg (arrV a.xs)) rfl (by kernel_rfl) (by kernel_rfl) (by kernel_rfl) (fun _ _ _ h => h) (yields_mid36 _ rfl (by rfl) rfl AL.out (fun W hW => hW.r4)) H0.out ?_
        try simp only [Act.put, List.getElem_toArray, List.getElem_cons_succ, List.getElem_cons_zero, List.setIfInBounds_toArray, List.set_cons_zero, List.set_cons_succ]
        refine wpAnyH_take (i := 10) (v := .agg (arrV X)) rfl (by kernel_rfl) (by kernel_rfl) (by kernel_rfl) (fun _ _ _ h => h) (yields_at 36 _ _ rfl (by rfl) rfl Try.underlying36 rfl (by rw [A.arrV_size, XL.out]; exact sz36) (fun W hW => hW.a8)) H0.out ?_
        try simp only [Act.put, List.getElem_toArray, List.getElem_cons_succ, List.getElem_cons_zero, List.setIfInBounds_toArray, List.set_cons_zero, List.set_cons_succ]
        refine wpAnyH_take (i := 12) (v := .bool true) rfl (by kernel_rfl) (by kernel_rfl) (by kernel_rfl) (fun _ _ _ h => h) (Or.inl ⟨by rfl, fun W hW => by clear hW; go_simp⟩) H0.out ?_
        try simp only [Act.put, List.getElem_toArray, List.getElem_cons_succ, List.getElem_cons_zero, List.setIfInBounds_toArray, List.set_cons_zero, List.set_cons_succ]
        refine wpAnyH_ready (rs := [9]) (by kernel_rfl) (by simp) ?_
        refine AllReadyH.cons rfl (fun K hK => ?_) AllReadyH.nil
        go_simp
        go_at_call 12
        refine (SE3.out _ _ _ _ _ _ HPP.out (by have := HL4.out; omega)).mono ?_
        rintro e V1_ ⟨rfl, hp⟩
        have HP1 := Lib.hid hp
        have H1_ := Lib.hid (show LU w g gc key b3 b4 b5 b8 b9 a b X Y V1_ from ⟨_, hp⟩)
        clear hp
        refine hK.out _ _ H1_.out (fun _ => ?_)
        clear hK K
        try simp only [Act.put, List.getElem_toArray, List.getElem_cons_succ, List.getElem_cons_zero, List.setIfInBounds_toArray, List.set_cons_zero, List.set_cons_succ]
        refine wpAnyH_take (i := 11) (v := .bool true) rfl (by kernel_rfl) (by kernel_rfl) (by kernel_rfl) (fun _ _ _ h => h) (Or.inl ⟨by rfl, fun W hW => by clear hW; go_simp⟩) H1_.out ?_
        try simp only [Act.put, List.getElem_toArray, List.getElem_cons_succ, List.getElem_cons_zero, List.setIfInBounds_toArray, List.set_cons_zero, List.set_cons_succ]
        refine wpAnyH_take (i := 13) (v := .bool true) rfl (by kernel_rfl) (by kernel_rfl) (by kernel_rfl) (fun _ _ _ h => h) (Or.inl ⟨by rfl, fun W hW => by clear hW; go_simp⟩) H1_.out ?_
        try simp only [Act.put, List.getElem_toArray, List.getElem_cons_succ, List.getElem_cons_zero, List.setIfInBounds_toArray, List.set_cons_zero, List.set_cons_succ]
        refine wpAnyH_take (i := 14) (v := .bool true) rfl (by kernel_rfl) (by kernel_rfl) (by kernel_rfl) (fun _ _ _ h => h) (Or.inl ⟨by rfl, fun W hW => by clear hW; go_simp⟩) H1_.out ?_
        try simp only [Act.put, List.getElem_toArray, List.getElem_cons_succ, List.getElem_cons_zero, List.setIfInBounds_toArray, List.set_cons_zero, List.set_cons_succ]
        refine wpAnyH_take (i := 15) (v := .pointer (some ⟨g, 0, none⟩)) rfl (by kernel_rfl) (by kernel_rfl) (by kernel_rfl) (fun _ _ _ h => h) (Or.inl ⟨by rfl, fun W hW => by clear hW; go_simp⟩) H1_.out ?_
        try simp only [Act.put, List.getElem_toArray, List.getElem_cons_succ, List.getElem_cons_zero, List.setIfInBounds_toArray, List.set_cons_zero, List.set_cons_succ]
        refine wpAnyH_ready (rs := [16]) (by kernel_rfl) (by simp) ?_
        refine AllReadyH.cons rfl (fun K hK => ?_) AllReadyH.nil
        go_simp
        go_at_call 14
        refine (used_any HP1.out (by rw [HL6.out]; omega)).mono ?_
        rintro e V2_ ⟨v9, M9, rfl, hr, hp⟩
        obtain ⟨A9, c9, rfl, _⟩ := hr.form
        rw [HL6.out]
        have H2_ := Lib.hid (show LU w g gc key b3 b4 b5 b8 b9 a b X Y V2_ from ⟨_, hp.sub (List.sublist_append_right M9 _)⟩)
        clear hr hp
        refine hK.out _ _ H2_.out (fun _ => ?_)
        clear hK K
        try simp only [Act.put, List.getElem_toArray, List.getElem_cons_succ, List.getElem_cons_zero, List.setIfInBounds_toArray, List.set_cons_zero, List.set_cons_succ]
        refine wpAnyH_take (i := 17) (v := .int .i64 6) rfl (by kernel_rfl) (by kernel_rfl) (by kernel_rfl) (fun _ _ _ h => h) (Or.inl ⟨by rfl, fun W hW => by clear hW; go_simp⟩) H2_.out ?_
        try simp only [Act.put, List.getElem_toArray, List.getElem_cons_succ, List.getElem_cons_zero, List.setIfInBounds_toArray, List.set_cons_zero, List.set_cons_succ]
        refine wpAnyH_take (i := 18) (v := .bool true) rfl (by kernel_rfl) (by kernel_rfl) (by kernel_rfl) (fun _ _ _ h => h) (Or.inl ⟨by rfl, fun W hW => by clear hW; go_simp⟩) H2_.out ?_
        try simp only [Act.put, List.getElem_toArray, List.getElem_cons_succ, List.getElem_cons_zero, List.setIfInBounds_toArray, List.set_cons_zero, List.set_cons_succ]
        refine wpAnyH_take (i := 19) (v := .bool true) rfl (by kernel_rfl) (by kernel_rfl) (by kernel_rfl) (fun _ _ _ h => h) (Or.inl ⟨by rfl, fun W hW => by clear hW; go_simp⟩) H2_.out ?_
        try simp only [Act.put, List.getElem_toArray, List.getElem_cons_succ, List.getElem_cons_zero, List.setIfInBounds_toArray, List.set_cons_zero, List.set_cons_succ]
        refine wpAnyH_take (i := 20) (v := .bool true) rfl (by kernel_rfl) (by kernel_rfl) (by kernel_rfl) (fun _ _ _ h => h) (Or.inl ⟨by rfl, fun W hW => by clear hW; go_simp⟩) H2_.out ?_
        try simp only [Act.put, List.getElem_toArray, List.getElem_cons_succ, List.getElem_cons_zero, List.setIfInBounds_toArray, List.set_cons_zero, List.set_cons_succ]
        refine wpAnyH_done (by kernel_rfl) ?_ _
        go_wp2
        go_ret
        exact ⟨rfl, H2_.out.bel⟩
end Go.Proofs.Ytfbgpfiodgibbaa
