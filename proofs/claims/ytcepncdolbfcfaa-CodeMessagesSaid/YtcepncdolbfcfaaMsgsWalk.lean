/- The law of messages. No statement is proved here. -/
import Derived.Test.YtcepncdolbfcfaaCodePlain
import Derived.Test.YtcepncdolbfcfaaSame
import Derived.Deep.CutRange
namespace Go.Proofs.Ytcepncdolbfcfaa
open Go.RowKit
set_option linter.unusedVariables false
set_option linter.unusedSimpArgs false
attribute [local irreducible] arrV dataN itemN

theorem sz52 : (Try.prog.info? 52).map (·.size) = some 2 := by kernel_rfl
theorem u16_of (a : Int) : IntKind.u16.wrap a = a % 65536 := by simp [IntKind.wrap, IntKind.bits, IntKind.signed]
theorem u8_of (a : Int) : IntKind.u8.wrap a = a % 256 := by simp [IntKind.wrap, IntKind.bits, IntKind.signed]
set_option maxHeartbeats 4000000 in
set_option maxRecDepth 20000 in
theorem msgs_any (a b : Int) (m n : Nat) (u v : Int) (x y : List Nat) (l1 i1 l2 i2 : Int) (w : World) (ha : I64 a) (hb0 : I64 b) (hm : m < 18446744073709551616) (hn : n < 18446744073709551616) (hx : IsLine x) (hy : IsLine y) (hi1 : I64 i1) (hi2 : I64 i2) :
    Calls Try.prog 5 #[.int .i64 a, .int .i64 b, .int .u64 m, .int .u64 n, .int .i64 u, .int .i64 v, .agg (arrV x), .agg (arrV y), .agg #[.int .i64 l1, .int .i64 i1], .agg #[.int .i64 l2, .int .i64 i2]] w fun e w' => e = .returned (.bool true) ∧ Below w.heap.size w w' := by
  have SK := Lib.hid (fun W => speaks_true W)
  have SX := Lib.hid (sz33 hx.len)
  have SY := Lib.hid (sz33 hy.len)
  have DA := Lib.hid (fun W => data_any a m u x hx.len hx.lt hm W)
  have DB := Lib.hid (fun W => data_any b n v y hy.len hy.lt hn W)
  have IA := Lib.hid (fun W => item_any l1 i1 x hx.len hx.lt W)
  have IB := Lib.hid (fun W => item_any l2 i2 y hy.len hy.lt W)
  have RD := Lib.hid (fun W => refData_any a m u x hx.len hx.lt hm W)
  have RI := Lib.hid (fun W => refItem_any l1 i1 x hx.len hx.lt W)
  have LD1 := Lib.hid (data_len a m u x hx.len)
  have LD2 := Lib.hid (data_len b n v y hy.len)
  have LI1 := Lib.hid (item_len l1 i1 x hx.len)
  have LI2 := Lib.hid (item_len l2 i2 y hy.len)
  have JD := Lib.hid (data_inj (u := u) (v := v) (x := x) (y := y) ha hb0 hm hn)
  have JI := Lib.hid (item_inj (l := l1) (k := l2) (x := x) (y := y) hi1 hi2)
  have NE := Lib.hid (data_item (a := a) (u := u) (l := l1) (i := i1) (m := m) (x := x) (y := x))
  have q1 := fun W => eql_line x y hx hy W
  have e1 := u16_of u
  have e2 := u16_of v
  have e3 := u8_of l1
  have e4 := u8_of l2
  have h0 := St.nil w
  generalize dataN a m u x = D1 at *
  generalize dataN b n v y = D2 at *
  generalize itemN l1 i1 x = I1 at *
  generalize itemN l2 i2 y = I2 at *
  generalize u % 65536 = u' at *
  generalize v % 65536 = v' at *
  generalize l1 % 256 = l1' at *
  generalize l2 % 256 = l2' at *
  have SS := Lib.hid (fun A1 A2 n m c1 c2 xs ys W h1 h2 => same_any A1 A2 n m c1 c2 xs ys (World.heap W).size W h1 h2)
  clear ha hb0 hm hn hx hy hi1 hi2
  go_enter Try.func5, Try.ntmps5
  go_wp2_with (first
    | (refine wpList_box_st h0 33 _ rfl rfl (arrV x) rfl ?_; clear h0; intro W1 h1 _ _)
    | (refine wpList_box_st h1 33 _ rfl rfl (arrV y) rfl ?_; clear h1; intro W2 h2 _ _)
    | (refine wpList_box_st h2 52 _ rfl rfl #[.int .i64 l1, .int .i64 i1] rfl ?_; clear h2; intro W3 h3 _ _)
    | (refine wpList_box_st h3 52 _ rfl rfl #[.int .i64 l2, .int .i64 i2] rfl ?_; clear h3; intro W4 h4 _ _)
    | (go_at_call 9; refine (SK.out _).mono ?_; rintro e W5 ⟨rfl, hb⟩; have h5 := h4.call hb; clear h4 hb))
  have H0 := Lib.hid h5.drew
  refine wp_region_held_drew (S := fun W => St w W [(w.heap.size, 33, arrV x), (W1.heap.size, 33, arrV y), (W2.heap.size, 52, #[.int .i64 l1, .int .i64 i1]), (W3.heap.size, 52, #[.int .i64 l2, .int .i64 i2])]) (by kernel_rfl) H0.out (fun _ => ?_)
  generalize W5.drew = V0 at *
  clear h5
  refine wpAnyH_take (i := 0) (v := .int .i64 a) rfl (by kernel_rfl) (by kernel_rfl) (by kernel_rfl) (fun _ _ _ h => h) (Or.inl ⟨by rfl, fun W hW => by clear hW; go_simp⟩) H0.out ?_
  try simp only [Act.put, List.getElem_toArray, List.getElem_cons_succ, List.getElem_cons_zero, List.setIfInBounds_toArray, List.set_cons_zero, List.set_cons_succ]
  refine wpAnyH_take (i := 1) (v := .int .u64 (m : Int)) rfl (by kernel_rfl) (by kernel_rfl) (by kernel_rfl) (fun _ _ _ h => h) (Or.inl ⟨by rfl, fun W hW => by clear hW; go_simp⟩) H0.out ?_
  try simp only [Act.put, List.getElem_toArray, List.getElem_cons_succ, List.getElem_cons_zero, List.setIfInBounds_toArray, List.set_cons_zero, List.set_cons_succ]
  refine wpAnyH_take (i := 2) (v := .int .i64 u) rfl (by kernel_rfl) (by kernel_rfl) (by kernel_rfl) (fun _ _ _ h => h) (Or.inl ⟨by rfl, fun W hW => by clear hW; go_simp⟩) H0.out ?_
  try simp only [Act.put, List.getElem_toArray, List.getElem_cons_succ, List.getElem_cons_zero, List.setIfInBounds_toArray, List.set_cons_zero, List.set_cons_succ]
  refine wpAnyH_take (i := 3) (v := .agg (arrV x)) rfl (by kernel_rfl) (by kernel_rfl) (by kernel_rfl) (fun _ _ _ h => h) (yields_at 33 _ _ rfl (by rfl) rfl Try.underlying33 rfl SX.out (fun W hW => hW.get 0 rfl)) H0.out ?_
  try simp only [Act.put, List.getElem_toArray, List.getElem_cons_succ, List.getElem_cons_zero, List.setIfInBounds_toArray, List.set_cons_zero, List.set_cons_succ]
  refine wpAnyH_take (i := 5) (v := .int .i64 b) rfl (by kernel_rfl) (by kernel_rfl) (by kernel_rfl) (fun _ _ _ h => h) (Or.inl ⟨by rfl, fun W hW => by clear hW; go_simp⟩) H0.out ?_
  try simp only [Act.put, List.getElem_toArray, List.getElem_cons_succ, List.getElem_cons_zero, List.setIfInBounds_toArray, List.set_cons_zero, List.set_cons_succ]
  refine wpAnyH_take (i := 6) (v := .int .u64 (n : Int)) rfl (by kernel_rfl) (by kernel_rfl) (by kernel_rfl) (fun _ _ _ h => h) (Or.inl ⟨by rfl, fun W hW => by clear hW; go_simp⟩) H0.out ?_
  try simp only [Act.put, List.getElem_toArray, List.getElem_cons_succ, List.getElem_cons_zero, List.setIfInBounds_toArray, List.set_cons_zero, List.set_cons_succ]
  refine wpAnyH_take (i := 7) (v := .int .i64 v) rfl (by kernel_rfl) (by kernel_rfl) (by kernel_rfl) (fun _ _ _ h => h) (Or.inl ⟨by rfl, fun W hW => by clear hW; go_simp⟩) H0.out ?_
  try simp only [Act.put, List.getElem_toArray, List.getElem_cons_succ, List.getElem_cons_zero, List.setIfInBounds_toArray, List.set_cons_zero, List.set_cons_succ]
  refine wpAnyH_take (i := 8) (v := .agg (arrV y)) rfl (by kernel_rfl) (by kernel_rfl) (by kernel_rfl) (fun _ _ _ h => h) (yields_at 33 _ _ rfl (by rfl) rfl Try.underlying33 rfl SY.out (fun W hW => hW.get 1 rfl)) H0.out ?_
  try simp only [Act.put, List.getElem_toArray, List.getElem_cons_succ, List.getElem_cons_zero, List.setIfInBounds_toArray, List.set_cons_zero, List.set_cons_succ]
  refine wpAnyH_ready (rs := [4]) (by kernel_rfl) (by simp) ?_
  refine AllReadyH.cons rfl (fun K hK => ?_) AllReadyH.nil
  go_simp
  go_at_call 20
  refine (DA.out _).mono ?_
  intro e V1 hG
  obtain ⟨A1, c1, rfl, hO, hb⟩ := GivesRow.out (N := 51) hG LD1.out
  have H1_ := Lib.hid (H0.out.call hb)
  have R1 := hO.row
  clear hG hO hb
  refine hK.out _ _ H1_.out (fun _ => ?_)
  clear hK K
  try simp only [Act.put, List.getElem_toArray, List.getElem_cons_succ, List.getElem_cons_zero, List.setIfInBounds_toArray, List.set_cons_zero, List.set_cons_succ]
  refine wpAnyH_ready (rs := [9]) (by kernel_rfl) (by simp) ?_
  refine AllReadyH.cons rfl (fun K hK => ?_) AllReadyH.nil
  go_simp
  go_at_call 20
  refine (DB.out _).mono ?_
  intro e V2 hG
  obtain ⟨A2, c2, rfl, hO, hb⟩ := GivesRow.out (N := 51) hG LD2.out
  have H2_ := Lib.hid (H1_.out.call hb)
  have R2 := hO.row
  replace R1 := (R1.below hb).wider hb.size
  clear hG hO hb
  refine hK.out _ _ H2_.out (fun _ => ?_)
  clear hK K
  try simp only [Act.put, List.getElem_toArray, List.getElem_cons_succ, List.getElem_cons_zero, List.setIfInBounds_toArray, List.set_cons_zero, List.set_cons_succ]
  refine wpAnyH_take (i := 10) (v := .slice A1 51 c1) rfl (by kernel_rfl) (by kernel_rfl) (by kernel_rfl) (fun _ _ _ h => h) (Or.inl ⟨by rfl, fun W hW => by clear hW; go_simp⟩) H2_.out ?_
  try simp only [Act.put, List.getElem_toArray, List.getElem_cons_succ, List.getElem_cons_zero, List.setIfInBounds_toArray, List.set_cons_zero, List.set_cons_succ]
  refine wpAnyH_take (i := 11) (v := .slice A2 51 c2) rfl (by kernel_rfl) (by kernel_rfl) (by kernel_rfl) (fun _ _ _ h => h) (Or.inl ⟨by rfl, fun W hW => by clear hW; go_simp⟩) H2_.out ?_
  try simp only [Act.put, List.getElem_toArray, List.getElem_cons_succ, List.getElem_cons_zero, List.setIfInBounds_toArray, List.set_cons_zero, List.set_cons_succ]
  refine wpAnyH_done (by kernel_rfl) ?_ _
  go_wp2
  clear H0 H1_
  have H0 := Lib.hid H2_.out.drew
  replace R1 := R1.drew
  replace R2 := R2.drew
  refine wp_region_held_drew (S := fun W => St w W [(w.heap.size, 33, arrV x), (W1.heap.size, 33, arrV y), (W2.heap.size, 52, #[.int .i64 l1, .int .i64 i1]), (W3.heap.size, 52, #[.int .i64 l2, .int .i64 i2])]) (by kernel_rfl) H0.out (fun _ => ?_)
  change Row V2.drew V2.drew.heap.size A1 51 c1 D1 at R1
  change Row V2.drew V2.drew.heap.size A2 51 c2 D2 at R2
  generalize V2.drew = VV at *
  clear H2_
  refine wpAnyH_take (i := 0) (v := .agg #[.int .i64 l1, .int .i64 i1]) rfl (by kernel_rfl) (by kernel_rfl) (by kernel_rfl) (fun _ _ _ h => h) (yields_at 52 _ _ rfl (by rfl) rfl Try.underlying52 rfl sz52 (fun W hW => hW.get 2 rfl)) H0.out ?_
  try simp only [Act.put, List.getElem_toArray, List.getElem_cons_succ, List.getElem_cons_zero, List.setIfInBounds_toArray, List.set_cons_zero, List.set_cons_succ]
  refine wpAnyH_take (i := 1) (v := .agg (arrV x)) rfl (by kernel_rfl) (by kernel_rfl) (by kernel_rfl) (fun _ _ _ h => h) (yields_at 33 _ _ rfl (by rfl) rfl Try.underlying33 rfl SX.out (fun W hW => hW.get 0 rfl)) H0.out ?_
  try simp only [Act.put, List.getElem_toArray, List.getElem_cons_succ, List.getElem_cons_zero, List.setIfInBounds_toArray, List.set_cons_zero, List.set_cons_succ]
  refine wpAnyH_take (i := 3) (v := .agg #[.int .i64 l2, .int .i64 i2]) rfl (by kernel_rfl) (by kernel_rfl) (by kernel_rfl) (fun _ _ _ h => h) (yields_at 52 _ _ rfl (by rfl) rfl Try.underlying52 rfl sz52 (fun W hW => hW.get 3 rfl)) H0.out ?_
  try simp only [Act.put, List.getElem_toArray, List.getElem_cons_succ, List.getElem_cons_zero, List.setIfInBounds_toArray, List.set_cons_zero, List.set_cons_succ]
  refine wpAnyH_take (i := 4) (v := .agg (arrV y)) rfl (by kernel_rfl) (by kernel_rfl) (by kernel_rfl) (fun _ _ _ h => h) (yields_at 33 _ _ rfl (by rfl) rfl Try.underlying33 rfl SY.out (fun W hW => hW.get 1 rfl)) H0.out ?_
  try simp only [Act.put, List.getElem_toArray, List.getElem_cons_succ, List.getElem_cons_zero, List.setIfInBounds_toArray, List.set_cons_zero, List.set_cons_succ]
  refine wpAnyH_ready (rs := [2]) (by kernel_rfl) (by simp) ?_
  refine AllReadyH.cons rfl (fun K hK => ?_) AllReadyH.nil
  go_simp
  go_at_call 21
  refine (IA.out _).mono ?_
  intro e V3 hG
  obtain ⟨A3, c3, rfl, hO, hb⟩ := GivesRow.out (N := 42) hG LI1.out
  have H1_ := Lib.hid (H0.out.call hb)
  have R3 := hO.row
  replace R1 := (R1.below hb).wider hb.size
  replace R2 := (R2.below hb).wider hb.size
  clear hG hO hb
  refine hK.out _ _ H1_.out (fun _ => ?_)
  clear hK K
  try simp only [Act.put, List.getElem_toArray, List.getElem_cons_succ, List.getElem_cons_zero, List.setIfInBounds_toArray, List.set_cons_zero, List.set_cons_succ]
  refine wpAnyH_ready (rs := [5]) (by kernel_rfl) (by simp) ?_
  refine AllReadyH.cons rfl (fun K hK => ?_) AllReadyH.nil
  go_simp
  go_at_call 21
  refine (IB.out _).mono ?_
  intro e V4 hG
  obtain ⟨A4, c4, rfl, hO, hb⟩ := GivesRow.out (N := 42) hG LI2.out
  have H2_ := Lib.hid (H1_.out.call hb)
  have R4 := hO.row
  replace R1 := (R1.below hb).wider hb.size
  replace R2 := (R2.below hb).wider hb.size
  replace R3 := (R3.below hb).wider hb.size
  clear hG hO hb
  refine hK.out _ _ H2_.out (fun _ => ?_)
  clear hK K
  try simp only [Act.put, List.getElem_toArray, List.getElem_cons_succ, List.getElem_cons_zero, List.setIfInBounds_toArray, List.set_cons_zero, List.set_cons_succ]
  refine wpAnyH_take (i := 6) (v := .slice A3 42 c3) rfl (by kernel_rfl) (by kernel_rfl) (by kernel_rfl) (fun _ _ _ h => h) (Or.inl ⟨by rfl, fun W hW => by clear hW; go_simp⟩) H2_.out ?_
  try simp only [Act.put, List.getElem_toArray, List.getElem_cons_succ, List.getElem_cons_zero, List.setIfInBounds_toArray, List.set_cons_zero, List.set_cons_succ]
  refine wpAnyH_take (i := 7) (v := .slice A4 42 c4) rfl (by kernel_rfl) (by kernel_rfl) (by kernel_rfl) (fun _ _ _ h => h) (Or.inl ⟨by rfl, fun W hW => by clear hW; go_simp⟩) H2_.out ?_
  try simp only [Act.put, List.getElem_toArray, List.getElem_cons_succ, List.getElem_cons_zero, List.setIfInBounds_toArray, List.set_cons_zero, List.set_cons_succ]
  refine wpAnyH_done (by kernel_rfl) ?_ _
  have h6 := H2_.out
  clear H0 H1_ H2_
  go_upto_region 7 with (first
    | (refine wpList_load_st h6 0 rfl 33 _ _ rfl rfl rfl Try.underlying33 rfl SX.out ?_)
    | (go_at_call 23; refine (RD.out _).mono ?_; intro e X1 hG; obtain ⟨A5, c5, rfl, hO, hb⟩ := GivesRow.out (N := 51) hG LD1.out; have h7 := h6.call hb; have R5 := hO.row; replace R1 := (R1.below hb).wider hb.size; replace R2 := (R2.below hb).wider hb.size; replace R3 := (R3.below hb).wider hb.size; replace R4 := (R4.below hb).wider hb.size; clear hG hO hb h6)
    | (go_at_call 22; have _ := h7; refine (SS.out _ _ _ _ _ _ _ _ _ R1 R5).mono ?_; rintro e X2 ⟨rfl, k2, rfl⟩; rw [decide_eq_true (rfl : D1 = D1)]; have h8 := h7.drewN k2; replace R1 := R1.drewN k2; replace R2 := R2.drewN k2; replace R3 := R3.drewN k2; replace R4 := R4.drewN k2; clear h7 R5)
    | (refine wpList_load_st h8 2 rfl 52 _ _ rfl rfl rfl Try.underlying52 rfl sz52 ?_)
    | (refine wpList_load_st h8 0 rfl 33 _ _ rfl rfl rfl Try.underlying33 rfl SX.out ?_)
    | (go_at_call 24; refine (RI.out _).mono ?_; intro e X3 hG; obtain ⟨A6, c6, rfl, hO, hb⟩ := GivesRow.out (N := 42) hG LI1.out; have h9 := h8.call hb; have R6 := hO.row; replace R1 := (R1.below hb).wider hb.size; replace R2 := (R2.below hb).wider hb.size; replace R3 := (R3.below hb).wider hb.size; replace R4 := (R4.below hb).wider hb.size; clear hG hO hb h8)
    | (go_at_call 22; have _ := h9; have _ := R6; refine (SS.out _ _ _ _ _ _ _ _ _ R3 R6).mono ?_; rintro e X4 ⟨rfl, k4, rfl⟩; rw [decide_eq_true (rfl : I1 = I1)]; have h10 := h9.drewN k4; replace R1 := R1.drewN k4; replace R2 := R2.drewN k4; replace R3 := R3.drewN k4; replace R4 := R4.drewN k4; clear h9 R6)
    | (go_at_call 22; have _ := h10; refine (SS.out _ _ _ _ _ _ _ _ _ R1 R3).mono ?_; rintro e X5 ⟨rfl, k5, rfl⟩; rw [decide_eq_false NE.out]; have h11 := h10.drewN k5; replace R1 := R1.drewN k5; replace R2 := R2.drewN k5; replace R3 := R3.drewN k5; replace R4 := R4.drewN k5; clear h10))
  have R1' : Row ((X3.drewN k4).drewN k5) ((X3.drewN k4).drewN k5).heap.size A1 51 c1 D1 := R1
  have R2' : Row ((X3.drewN k4).drewN k5) ((X3.drewN k4).drewN k5).heap.size A2 51 c2 D2 := R2
  have R3' : Row ((X3.drewN k4).drewN k5) ((X3.drewN k4).drewN k5).heap.size A3 42 c3 I1 := R3
  have R4' : Row ((X3.drewN k4).drewN k5) ((X3.drewN k4).drewN k5).heap.size A4 42 c4 I2 := R4
  clear R1 R2 R3 R4
  have eV : (X3.drewN k4).drewN k5 = X3.drewN (k4 + k5) := by simp
  rw [eV] at h11 R1' R2' R3' R4'
  clear eV
  generalize X3.drewN (k4 + k5) = V at *
  go_cut [25] from 29 to 116 (fun s25 wx => s25 = .bool (decide (D1 = D2)) ∧ wx = V)
  case first =>
    have no : ∀ h : ¬ (a = b ∧ m = n ∧ u' = v' ∧ x = y), decide (D1 = D2) = false := fun h => decide_eq_false (fun e => h (JD.out.1 e))
    have NO := Lib.hid no
    have YES := Lib.hid (fun h => decide_eq_true (JD.out.2 h))
    generalize decide (D1 = D2) = d at *
    clear no
    by_cases c1 : a = b
    · have f1 : (a == b) = true := by simpa using c1
      by_cases c2 : m = n
      · have f2 : ((m : Int) == (n : Int)) = true := by simp; omega
        by_cases c3 : u' = v'
        · have f3 : (u' == v') = true := by simpa using c3
          by_cases c4 : x = y
          · have r := YES.out ⟨c1, c2, c3, c4⟩
            rw [decide_eq_true c4] at q1
            clear f1 f2 f3 c4
            subst c1 c2 c3
            go_wp2_with (first
          | (refine wpList_load_st h11 0 rfl 33 _ _ rfl rfl rfl Try.underlying33 rfl SX.out ?_)
          | (refine wpList_load_st h11 1 rfl 33 _ _ rfl rfl rfl Try.underlying33 rfl SY.out ?_))
            go_meet
            exact ⟨by rw [r], rfl⟩
          · have r := NO.out (fun h => c4 h.2.2.2)
            rw [decide_eq_false c4] at q1
            clear f1 f2 f3 c4
            subst c1 c2 c3
            go_wp2_with (first
          | (refine wpList_load_st h11 0 rfl 33 _ _ rfl rfl rfl Try.underlying33 rfl SX.out ?_)
          | (refine wpList_load_st h11 1 rfl 33 _ _ rfl rfl rfl Try.underlying33 rfl SY.out ?_))
            go_meet
            exact ⟨by rw [r], rfl⟩
        · have r := NO.out (fun h => c3 h.2.2.1)
          have f3 : (u' == v') = false := by simpa using c3
          clear c1 c2 c3
          go_wp2
          go_meet
          exact ⟨by rw [r], rfl⟩
      · have r := NO.out (fun h => c2 h.2.1)
        have f2 : ((m : Int) == (n : Int)) = false := by simp; omega
        clear c1 c2
        go_wp2
        go_meet
        exact ⟨by rw [r], rfl⟩
    · have r := NO.out (fun h => c1 h.1)
      have f1 : (a == b) = false := by simpa using c1
      clear c1
      go_wp2
      go_meet
      exact ⟨by rw [r], rfl⟩
  case rest =>
    obtain ⟨rfl, rfl⟩ := hcut
    have y0 := h11.cell 2 rfl 0 (.int .i64 l1) rfl
    have y1 := h11.cell 2 rfl 1 (.int .i64 i1) rfl
    have z0 := h11.cell 3 rfl 0 (.int .i64 l2) rfl
    have z1 := h11.cell 3 rfl 1 (.int .i64 i2) rfl
    have DD := Lib.hid (fun W h1 h2 => same_any A1 A2 51 51 c1 c2 D1 D2 (World.heap W).size W h1 h2)
    generalize decide (D1 = D2) = d at *
    go_upto_region 8 with fail
    go_cut [26] from 29 to 116 (fun s26 wx => s26 = .bool (decide (I1 = I2)) ∧ wx = wc)
    case first =>
      have no : ∀ h : ¬ (l1' = l2' ∧ i1 = i2 ∧ x = y), decide (I1 = I2) = false := fun h => decide_eq_false (fun e => h (JI.out.1 e))
      have NO := Lib.hid no
      have YES := Lib.hid (fun h => decide_eq_true (JI.out.2 h))
      generalize decide (I1 = I2) = d2 at *
      clear no
      by_cases c1 : l1' = l2'
      · have f1 : (l1' == l2') = true := by simpa using c1
        by_cases c2 : i1 = i2
        · have f2 : (i1 == i2) = true := by simpa using c2
          by_cases c4 : x = y
          · have r := YES.out ⟨c1, c2, c4⟩
            rw [decide_eq_true c4] at q1
            clear f1 f2 c4
            subst c1 c2
            go_wp2_with (first
          | (refine wpList_load_st h11 0 rfl 33 _ _ rfl rfl rfl Try.underlying33 rfl SX.out ?_)
          | (refine wpList_load_st h11 1 rfl 33 _ _ rfl rfl rfl Try.underlying33 rfl SY.out ?_))
            go_meet
            exact ⟨by rw [r], rfl⟩
          · have r := NO.out (fun h => c4 h.2.2)
            rw [decide_eq_false c4] at q1
            clear f1 f2 c4
            subst c1 c2
            go_wp2_with (first
          | (refine wpList_load_st h11 0 rfl 33 _ _ rfl rfl rfl Try.underlying33 rfl SX.out ?_)
          | (refine wpList_load_st h11 1 rfl 33 _ _ rfl rfl rfl Try.underlying33 rfl SY.out ?_))
            go_meet
            exact ⟨by rw [r], rfl⟩
        · have r := NO.out (fun h => c2 h.2.1)
          have f2 : (i1 == i2) = false := by simpa using c2
          clear c1 c2
          go_wp2
          go_meet
          exact ⟨by rw [r], rfl⟩
      · have r := NO.out (fun h => c1 h.1)
        have f1 : (l1' == l2') = false := by simpa using c1
        clear c1
        go_wp2
        go_meet
        exact ⟨by rw [r], rfl⟩
    case rest =>
      obtain ⟨rfl, rfl⟩ := hcut
      have II := Lib.hid (fun W h1 h2 => same_any A3 A4 42 42 c3 c4 I1 I2 (World.heap W).size W h1 h2)
      generalize decide (I1 = I2) = d2 at *
      have dd : (d == d) = true := by simp
      have dd2 : (d2 == d2) = true := by simp
      clear y0 y1 z0 z1 q1
      go_wp2_with (first
        | (go_at_call 22; refine (DD.out _ R1' R2').mono ?_; rintro e X6 ⟨rfl, k6, rfl⟩; have h12 := h11.drewN k6; replace R3' := R3'.drewN k6; replace R4' := R4'.drewN k6; clear h11 R1' R2')
        | (go_at_call 22; have _ := h12; refine (II.out _ R3' R4').mono ?_; rintro e X7 ⟨rfl, k7, rfl⟩; have h13 := h12.drewN k7; clear h12))
      go_ret
      exact ⟨rfl, by simpa using h13.bel⟩
end Go.Proofs.Ytcepncdolbfcfaa
