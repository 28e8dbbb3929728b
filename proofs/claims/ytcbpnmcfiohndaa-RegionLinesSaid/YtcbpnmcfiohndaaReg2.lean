/- How great memory is, and where lines and items stand in it. No statement is proved here. -/
import Derived.Test.YtcbpnmcfiohndaaReg1
namespace Go.Proofs.Ytcbpnmcfiohndaa
open Go.RowKit
set_option linter.unusedVariables false
set_option linter.unusedSimpArgs false

def SzI (p : Pl) : Int := if right p then 32 * Al p + 8 * Al p + 32 * (sw p.pa.toNat p.ar.toNat (Lv p) : Int) else 0
def ItI (p : Pl) (lv ix : Int) : Int := if hasI p lv ix then 32 * Al p + 8 * Al p + 32 * ((sw p.pa.toNat p.ar.toNat lv.toNat : Int) + ix) else 0
theorem hasI_facts {p : Pl} {lv ix : Int} (h : hasI p lv ix = true) : right p = true ∧ ∃ k j : Nat, lv = (k : Int) ∧ ix = (j : Int) ∧ k < Lv p ∧ j < wid p.pa.toNat p.ar.toNat k := by
  unfold hasI at h
  simp only [Bool.and_eq_true, decide_eq_true_eq] at h
  obtain ⟨hr, h0, h1⟩ := h
  have hl : 0 ≤ lv ∧ lv < (Lv p : Int) := by
    refine Classical.byContradiction fun hn => ?_
    have : Wd p lv = 0 := by unfold Wd; rw [if_neg hn]
    rw [this] at h1; omega
  refine ⟨hr, lv.toNat, ix.toNat, by omega, by omega, by omega, ?_⟩
  have e : Wd p lv = wid p.pa.toNat p.ar.toNat lv.toNat := by unfold Wd; rw [if_pos hl]
  rw [e] at h1; omega
theorem hasL_facts {p : Pl} {line : Int} (h : hasL p line = true) : right p = true ∧ ∃ m : Nat, line = (m : Int) ∧ (m : Int) < Al p := by
  unfold hasL at h
  simp only [Bool.and_eq_true, decide_eq_true_eq] at h
  exact ⟨h.1, line.toNat, by omega, by omega⟩
attribute [local irreducible] shaped Ls Lv Wd Al right bounded fitP sw hasI hasL
set_option maxHeartbeats 2000000 in
set_option maxRecDepth 20000 in
theorem size_any (p : Pl) (w : World) : Calls Try.prog 26 #[.agg p.arr] w fun e w' => e = .returned (.int .i64 (SzI p)) ∧ Below w.heap.size w w' := by
  have RT := Lib.hid (fun W => right45_any p W)
  have N := Lib.hid (PSt.new w p)
  cases hr : right p
  · have E : Hid (SzI p = 0) := by unfold SzI; rw [hr]; exact rfl
    generalize SzI p = R at *
    rw [hr] at RT
    clear hr
    go_enter Try.func26, Try.ntmps26
    go_wp2_with (first
      | (refine wpList_load_plan N.out.blk _ rfl rfl rfl ?_)
      | (go_at_call 45; refine (RT.out _).mono ?_; rintro e X1 ⟨rfl, hb⟩; have h1 := N.out.call hb; clear N hb))
    go_ret
    exact ⟨by rw [E.out]; rfl, h1.bel⟩
  · have hs := (right_facts hr).2.1
    have sh := sh_of hs
    have E : Hid (SzI p = 32 * Al p + 8 * Al p + 32 * (sw p.pa.toNat p.ar.toNat (Lv p) : Int)) := by unfold SzI; rw [hr]; exact rfl
    have IA := Lib.hid (fun W => itemsAt_any p W)
    have LV := Lib.hid (fun W => levels_any p W)
    have IB := Lib.hid (fun W => itemsBelow_any p (Lv p) (Nat.le_refl _) hs W)
    have s1 := sw_le sh.n1 sh.n2 sh.a1 sh.a2 (Lv p) (by rw [sh.lv hs]; exact Nat.le_refl _)
    obtain ⟨h0, h1⟩ := Al_bounds p
    generalize SzI p = R at *
    generalize sw p.pa.toNat p.ar.toNat (Lv p) = s at *
    generalize Lv p = L at *
    generalize Al p = A at *
    rw [hr] at RT
    clear hr sh hs
    have w1 : IntKind.i64.wrap (32 * (s : Int)) = 32 * (s : Int) := IntWalk.i64_in _ (by omega)
    have w2 : IntKind.i64.wrap (32 * A + 8 * A + 32 * (s : Int)) = 32 * A + 8 * A + 32 * (s : Int) := IntWalk.i64_in _ (by omega)
    go_enter Try.func26, Try.ntmps26
    go_wp2_with (first
      | (refine wpList_load_plan N.out.blk _ rfl rfl rfl ?_)
      | (go_at_call 45; refine (RT.out _).mono ?_; rintro e X1 ⟨rfl, hb⟩; have h1 := N.out.call hb; clear N hb))
    have H0 := Lib.hid h1.drew
    clear h1
    refine wp_region_held_drew (S := fun W => PSt w w.heap.size p W) (by kernel_rfl) H0.out (fun _ => ?_)
    generalize World.drew _ = V0 at *
    refine wpAnyH_take (i := 0) (v := .agg p.arr) rfl (by kernel_rfl) (by kernel_rfl) (by kernel_rfl) (fun _ _ _ h => h) (yields_plan _ rfl (by rfl) rfl (fun W hW => hW.blk)) H0.out ?_
    try simp only [Act.put, List.getElem_toArray, List.getElem_cons_succ, List.getElem_cons_zero, List.setIfInBounds_toArray, List.set_cons_zero, List.set_cons_succ]
    refine wpAnyH_take (i := 2) (v := .agg p.arr) rfl (by kernel_rfl) (by kernel_rfl) (by kernel_rfl) (fun _ _ _ h => h) (yields_plan _ rfl (by rfl) rfl (fun W hW => hW.blk)) H0.out ?_
    try simp only [Act.put, List.getElem_toArray, List.getElem_cons_succ, List.getElem_cons_zero, List.setIfInBounds_toArray, List.set_cons_zero, List.set_cons_succ]
    refine wpAnyH_take (i := 3) (v := .agg p.arr) rfl (by kernel_rfl) (by kernel_rfl) (by kernel_rfl) (fun _ _ _ h => h) (yields_plan _ rfl (by rfl) rfl (fun W hW => hW.blk)) H0.out ?_
    try simp only [Act.put, List.getElem_toArray, List.getElem_cons_succ, List.getElem_cons_zero, List.setIfInBounds_toArray, List.set_cons_zero, List.set_cons_succ]
    refine wpAnyH_ready (rs := [1]) (by kernel_rfl) (by simp) ?_
    refine AllReadyH.cons rfl (fun K hK => ?_) AllReadyH.nil
    go_simp
    go_at_call 46
    refine (IA.out _).mono ?_
    rintro e V1_ ⟨rfl, hb1_⟩
    have H1_ := Lib.hid (H0.out.call hb1_)
    clear hb1_
    refine hK.out _ _ H1_.out (fun _ => ?_)
    clear hK K
    try simp only [Act.put, List.getElem_toArray, List.getElem_cons_succ, List.getElem_cons_zero, List.setIfInBounds_toArray, List.set_cons_zero, List.set_cons_succ]
    refine wpAnyH_ready (rs := [4]) (by kernel_rfl) (by simp) ?_
    refine AllReadyH.cons rfl (fun K hK => ?_) AllReadyH.nil
    go_simp
    go_at_call 15
    refine (LV.out _).mono ?_
    rintro e V2_ ⟨rfl, hb2_⟩
    have H2_ := Lib.hid (H1_.out.call hb2_)
    clear hb2_
    refine hK.out _ _ H2_.out (fun _ => ?_)
    clear hK K
    try simp only [Act.put, List.getElem_toArray, List.getElem_cons_succ, List.getElem_cons_zero, List.setIfInBounds_toArray, List.set_cons_zero, List.set_cons_succ]
    refine wpAnyH_ready (rs := [5]) (by kernel_rfl) (by simp) ?_
    refine AllReadyH.cons rfl (fun K hK => ?_) AllReadyH.nil
    go_simp
    go_at_call 47
    refine (IB.out _).mono ?_
    rintro e V3_ ⟨rfl, hb3_⟩
    have H3_ := Lib.hid (H2_.out.call hb3_)
    clear hb3_
    refine hK.out _ _ H3_.out (fun _ => ?_)
    clear hK K
    try simp only [Act.put, List.getElem_toArray, List.getElem_cons_succ, List.getElem_cons_zero, List.setIfInBounds_toArray, List.set_cons_zero, List.set_cons_succ]
    refine wpAnyH_take (i := 6) (v := .int .i64 (32 * (s : Int))) rfl (by kernel_rfl) (by kernel_rfl) (by kernel_rfl) (fun _ _ _ h => h) (Or.inl ⟨by rfl, fun W hW => by clear hW; go_simp⟩) H3_.out ?_
    try simp only [Act.put, List.getElem_toArray, List.getElem_cons_succ, List.getElem_cons_zero, List.setIfInBounds_toArray, List.set_cons_zero, List.set_cons_succ]
    refine wpAnyH_take (i := 7) (v := .int .i64 (32 * A + 8 * A + 32 * (s : Int))) rfl (by kernel_rfl) (by kernel_rfl) (by kernel_rfl) (fun _ _ _ h => h) (Or.inl ⟨by rfl, fun W hW => by clear hW; go_simp⟩) H3_.out ?_
    try simp only [Act.put, List.getElem_toArray, List.getElem_cons_succ, List.getElem_cons_zero, List.setIfInBounds_toArray, List.set_cons_zero, List.set_cons_succ]
    refine wpAnyH_take (i := 8) (v := .int .i64 (32 * A + 8 * A + 32 * (s : Int))) rfl (by kernel_rfl) (by kernel_rfl) (by kernel_rfl) (fun _ _ _ h => h) (Or.inl ⟨by rfl, fun W hW => by clear hW; go_simp⟩) H3_.out ?_
    try simp only [Act.put, List.getElem_toArray, List.getElem_cons_succ, List.getElem_cons_zero, List.setIfInBounds_toArray, List.set_cons_zero, List.set_cons_succ]
    refine wpAnyH_done (by kernel_rfl) ?_ _
    go_wp2
    go_ret
    exact ⟨by rw [E.out]; rfl, H3_.out.bel⟩
set_option maxHeartbeats 2000000 in
set_option maxRecDepth 20000 in
theorem item_any (p : Pl) (lv ix : Int) (w : World) : Calls Try.prog 31 #[.agg p.arr, .agg #[.int .i64 lv, .int .i64 ix]] w fun e w' => e = .returned (.tuple #[.int .i64 (ItI p lv ix), .bool (hasI p lv ix)]) ∧ Below w.heap.size w w' := by
  have HI := Lib.hid (fun W => hasItem_any p lv ix W)
  have N := ISt.new w p lv ix
  cases hr : hasI p lv ix
  · have E : Hid (ItI p lv ix = 0) := by unfold ItI; rw [hr]; exact rfl
    generalize ItI p lv ix = R at *
    rw [hr] at HI
    clear hr
    have x0 := N.x0
    have x1 := N.x1
    go_enter Try.func31, Try.ntmps31
    go_wp2_with (first
      | (refine wpList_load_plan N.st.blk _ rfl rfl rfl ?_)
      | (go_at_call 51; refine (HI.out _).mono ?_; rintro e X1 ⟨rfl, hb⟩; have h1 := N.call hb; clear N hb x0 x1))
    go_ret2
    exact ⟨by rw [E.out]; rfl, h1.st.bel⟩
  · obtain ⟨hrt, k, j, rfl, rfl, hk, hj⟩ := hasI_facts hr
    have hs := (right_facts hrt).2.1
    have sh := sh_of hs
    have E : Hid (ItI p k j = 32 * Al p + 8 * Al p + 32 * ((sw p.pa.toNat p.ar.toNat k : Int) + (j : Int))) := by unfold ItI; rw [hr]; exact rfl
    have IA := Lib.hid (fun W => itemsAt_any p W)
    have IB := Lib.hid (fun W => itemsBelow_any p k (by omega) hs W)
    have s1 := sw_le sh.n1 sh.n2 sh.a1 sh.a2 k (by rw [← sh.lv hs]; omega)
    have y2 := ((tree_facts sh.n1 sh.n2 sh.a1 sh.a2).2.2 k (by rw [← sh.lv hs]; omega)).2.1
    obtain ⟨h0, h1⟩ := Al_bounds p
    have j16 : j < 16 := by omega
    have k5 : k < 5 := by have := Lv_le p; omega
    generalize ItI p k j = R at *
    generalize sw p.pa.toNat p.ar.toNat k = s at *
    generalize Al p = A at *
    rw [hr] at HI
    clear hr sh hs hj y2 hk hrt
    have x0 := N.x0
    have x1 := N.x1
    have w0 : IntKind.i64.wrap ((s : Int) + (j : Int)) = (s : Int) + (j : Int) := IntWalk.i64_in _ (by omega)
    have w1 : IntKind.i64.wrap (32 * ((s : Int) + (j : Int))) = 32 * ((s : Int) + (j : Int)) := IntWalk.i64_in _ (by omega)
    have w2 : IntKind.i64.wrap (32 * A + 8 * A + 32 * ((s : Int) + (j : Int))) = 32 * A + 8 * A + 32 * ((s : Int) + (j : Int)) := IntWalk.i64_in _ (by omega)
    go_enter Try.func31, Try.ntmps31
    go_wp2_with (first
      | (refine wpList_load_plan N.st.blk _ rfl rfl rfl ?_)
      | (go_at_call 51; refine (HI.out _).mono ?_; rintro e X1 ⟨rfl, hb⟩; have h1 := N.call hb; clear N hb x0 x1))
    have H0 := Lib.hid h1.drew
    clear h1
    refine wp_region_held_drew (S := fun W => ISt w p k j W) (by kernel_rfl) H0.out (fun _ => ?_)
    generalize World.drew _ = V0 at *
    refine wpAnyH_take (i := 0) (v := .agg p.arr) rfl (by kernel_rfl) (by kernel_rfl) (by kernel_rfl) (fun _ _ _ h => h) (yields_plan _ rfl (by rfl) rfl (fun W hW => hW.st.blk)) H0.out ?_
    try simp only [Act.put, List.getElem_toArray, List.getElem_cons_succ, List.getElem_cons_zero, List.setIfInBounds_toArray, List.set_cons_zero, List.set_cons_succ]
    refine wpAnyH_take (i := 2) (v := .agg p.arr) rfl (by kernel_rfl) (by kernel_rfl) (by kernel_rfl) (fun _ _ _ h => h) (yields_plan _ rfl (by rfl) rfl (fun W hW => hW.st.blk)) H0.out ?_
    try simp only [Act.put, List.getElem_toArray, List.getElem_cons_succ, List.getElem_cons_zero, List.setIfInBounds_toArray, List.set_cons_zero, List.set_cons_succ]
    refine wpAnyH_take (i := 3) (v := .pointer (some ⟨w.heap.size + 1, 0, none⟩)) rfl (by kernel_rfl) (by kernel_rfl) (by kernel_rfl) (fun _ _ _ h => h) (Or.inl ⟨by rfl, fun W hW => by clear hW; go_simp⟩) H0.out ?_
    try simp only [Act.put, List.getElem_toArray, List.getElem_cons_succ, List.getElem_cons_zero, List.setIfInBounds_toArray, List.set_cons_zero, List.set_cons_succ]
    refine wpAnyH_take (i := 4) (v := .int .i64 (k : Nat)) rfl (by kernel_rfl) (by kernel_rfl) (by kernel_rfl) (fun _ _ _ h => h) (Or.inl ⟨by rfl, fun W hW => by have hc := hW.x0; clear hW; go_simp⟩) H0.out ?_
    try simp only [Act.put, List.getElem_toArray, List.getElem_cons_succ, List.getElem_cons_zero, List.setIfInBounds_toArray, List.set_cons_zero, List.set_cons_succ]
    refine wpAnyH_take (i := 6) (v := .pointer (some ⟨w.heap.size + 1, 1, none⟩)) rfl (by kernel_rfl) (by kernel_rfl) (by kernel_rfl) (fun _ _ _ h => h) (Or.inl ⟨by rfl, fun W hW => by clear hW; go_simp⟩) H0.out ?_
    try simp only [Act.put, List.getElem_toArray, List.getElem_cons_succ, List.getElem_cons_zero, List.setIfInBounds_toArray, List.set_cons_zero, List.set_cons_succ]
    refine wpAnyH_take (i := 7) (v := .int .i64 (j : Nat)) rfl (by kernel_rfl) (by kernel_rfl) (by kernel_rfl) (fun _ _ _ h => h) (Or.inl ⟨by rfl, fun W hW => by have hc := hW.x1; clear hW; go_simp⟩) H0.out ?_
    try simp only [Act.put, List.getElem_toArray, List.getElem_cons_succ, List.getElem_cons_zero, List.setIfInBounds_toArray, List.set_cons_zero, List.set_cons_succ]
    refine wpAnyH_ready (rs := [1]) (by kernel_rfl) (by simp) ?_
    refine AllReadyH.cons rfl (fun K hK => ?_) AllReadyH.nil
    go_simp
    go_at_call 46
    refine (IA.out _).mono ?_
    rintro e V1_ ⟨rfl, hb1_⟩
    have H1_ := Lib.hid (H0.out.call hb1_)
    clear hb1_
    refine hK.out _ _ H1_.out (fun _ => ?_)
    clear hK K
    try simp only [Act.put, List.getElem_toArray, List.getElem_cons_succ, List.getElem_cons_zero, List.setIfInBounds_toArray, List.set_cons_zero, List.set_cons_succ]
    refine wpAnyH_ready (rs := [5]) (by kernel_rfl) (by simp) ?_
    refine AllReadyH.cons rfl (fun K hK => ?_) AllReadyH.nil
    go_simp
    go_at_call 47
    refine (IB.out _).mono ?_
    rintro e V2_ ⟨rfl, hb2_⟩
    have H2_ := Lib.hid (H1_.out.call hb2_)
    clear hb2_
    refine hK.out _ _ H2_.out (fun _ => ?_)
    clear hK K
    try simp only [Act.put, List.getElem_toArray, List.getElem_cons_succ, List.getElem_cons_zero, List.setIfInBounds_toArray, List.set_cons_zero, List.set_cons_succ]
    refine wpAnyH_take (i := 8) (v := .int .i64 ((s : Int) + (j : Int))) rfl (by kernel_rfl) (by kernel_rfl) (by kernel_rfl) (fun _ _ _ h => h) (Or.inl ⟨by rfl, fun W hW => by clear hW; go_simp⟩) H2_.out ?_
    try simp only [Act.put, List.getElem_toArray, List.getElem_cons_succ, List.getElem_cons_zero, List.setIfInBounds_toArray, List.set_cons_zero, List.set_cons_succ]
    refine wpAnyH_take (i := 9) (v := .int .i64 (32 * ((s : Int) + (j : Int)))) rfl (by kernel_rfl) (by kernel_rfl) (by kernel_rfl) (fun _ _ _ h => h) (Or.inl ⟨by rfl, fun W hW => by clear hW; go_simp⟩) H2_.out ?_
    try simp only [Act.put, List.getElem_toArray, List.getElem_cons_succ, List.getElem_cons_zero, List.setIfInBounds_toArray, List.set_cons_zero, List.set_cons_succ]
    refine wpAnyH_take (i := 10) (v := .int .i64 (32 * A + 8 * A + 32 * ((s : Int) + (j : Int)))) rfl (by kernel_rfl) (by kernel_rfl) (by kernel_rfl) (fun _ _ _ h => h) (Or.inl ⟨by rfl, fun W hW => by clear hW; go_simp⟩) H2_.out ?_
    try simp only [Act.put, List.getElem_toArray, List.getElem_cons_succ, List.getElem_cons_zero, List.setIfInBounds_toArray, List.set_cons_zero, List.set_cons_succ]
    refine wpAnyH_take (i := 11) (v := .int .i64 (32 * A + 8 * A + 32 * ((s : Int) + (j : Int)))) rfl (by kernel_rfl) (by kernel_rfl) (by kernel_rfl) (fun _ _ _ h => h) (Or.inl ⟨by rfl, fun W hW => by clear hW; go_simp⟩) H2_.out ?_
    try simp only [Act.put, List.getElem_toArray, List.getElem_cons_succ, List.getElem_cons_zero, List.setIfInBounds_toArray, List.set_cons_zero, List.set_cons_succ]
    refine wpAnyH_take (i := 12) (v := .bool true) rfl (by kernel_rfl) (by kernel_rfl) (by kernel_rfl) (fun _ _ _ h => h) (Or.inl ⟨by rfl, fun W hW => by clear hW; go_simp⟩) H2_.out ?_
    try simp only [Act.put, List.getElem_toArray, List.getElem_cons_succ, List.getElem_cons_zero, List.setIfInBounds_toArray, List.set_cons_zero, List.set_cons_succ]
    refine wpAnyH_done (by kernel_rfl) ?_ _
    go_wp2
    go_ret2
    exact ⟨by rw [E.out]; rfl, H2_.out.st.bel⟩
def DaI (p : Pl) (line : Int) : Int := if hasL p line then 32 * line else 0
def TaI (p : Pl) (line : Int) : Int := if hasL p line then 32 * Al p + 8 * line else 0
def BaI (p : Pl) (line : Int) : Int := if hasL p line then line % p.ba else 0
def PgI (p : Pl) (line : Int) : Int := if hasL p line then line / p.li else 0
def SlI (p : Pl) (line : Int) : Int := if hasL p line then line % p.li else 0
set_option maxHeartbeats 2000000 in
set_option maxRecDepth 20000 in
theorem data_any (p : Pl) (line : Int) (w : World) : Calls Try.prog 28 #[.agg p.arr, .int .i64 line] w fun e w' => e = .returned (.tuple #[.int .i64 (DaI p line), .bool (hasL p line)]) ∧ Below w.heap.size w w' := by
  have HL := Lib.hid (fun W => hasLine_any p line W)
  have N := PSt.new w p
  cases hr : hasL p line
  · have E : Hid (DaI p line = 0) := by unfold DaI; rw [hr]; exact rfl
    generalize DaI p line = R at *
    rw [hr] at HL
    clear hr
    go_enter Try.func28, Try.ntmps28
    go_wp2_with (first
      | (refine wpList_load_plan N.blk _ rfl rfl rfl ?_)
      | (go_at_call 49; refine (HL.out _).mono ?_; rintro e X1 ⟨rfl, hb⟩; have h1 := N.call hb; clear N hb))
    go_ret2
    exact ⟨by rw [E.out]; rfl, h1.bel⟩
  · obtain ⟨hrt, m, rfl, hm⟩ := hasL_facts hr
    obtain ⟨h0, h1⟩ := Al_bounds p
    have hm' : m < 128 := by omega
    have E : Hid (DaI p m = 32 * (m : Int)) := by unfold DaI; rw [hr]; exact rfl
    generalize DaI p m = R at *
    rw [hr] at HL
    clear hr
    have w1 : IntKind.i64.wrap (32 * (m : Int)) = 32 * (m : Int) := IntWalk.i64_in _ (by omega)
    go_enter Try.func28, Try.ntmps28
    go_wp2_with (first
      | (refine wpList_load_plan N.blk _ rfl rfl rfl ?_)
      | (go_at_call 49; refine (HL.out _).mono ?_; rintro e X1 ⟨rfl, hb⟩; have hE := N.call hb; clear N hb))
    go_ret2
    exact ⟨by rw [E.out]; rfl, hE.bel⟩
set_option maxHeartbeats 2000000 in
set_option maxRecDepth 20000 in
theorem tag_any (p : Pl) (line : Int) (w : World) : Calls Try.prog 30 #[.agg p.arr, .int .i64 line] w fun e w' => e = .returned (.tuple #[.int .i64 (TaI p line), .bool (hasL p line)]) ∧ Below w.heap.size w w' := by
  have HL := Lib.hid (fun W => hasLine_any p line W)
  have N := PSt.new w p
  cases hr : hasL p line
  · have E : Hid (TaI p line = 0) := by unfold TaI; rw [hr]; exact rfl
    generalize TaI p line = R at *
    rw [hr] at HL
    clear hr
    go_enter Try.func30, Try.ntmps30
    go_wp2_with (first
      | (refine wpList_load_plan N.blk _ rfl rfl rfl ?_)
      | (go_at_call 49; refine (HL.out _).mono ?_; rintro e X1 ⟨rfl, hb⟩; have h1 := N.call hb; clear N hb))
    go_ret2
    exact ⟨by rw [E.out]; rfl, h1.bel⟩
  · obtain ⟨hrt, m, rfl, hm⟩ := hasL_facts hr
    obtain ⟨h0, h1⟩ := Al_bounds p
    have hm' : m < 128 := by omega
    have E : Hid (TaI p m = 32 * Al p + 8 * (m : Int)) := by unfold TaI; rw [hr]; exact rfl
    have TG := Lib.hid (fun W => tagsAt_any p W)
    generalize Al p = A at *
    generalize TaI p m = R at *
    rw [hr] at HL
    clear hr
    have w1 : IntKind.i64.wrap (8 * (m : Int)) = 8 * (m : Int) := IntWalk.i64_in _ (by omega)
    have w2 : IntKind.i64.wrap (32 * A + 8 * (m : Int)) = 32 * A + 8 * (m : Int) := IntWalk.i64_in _ (by omega)
    go_enter Try.func30, Try.ntmps30
    go_wp2_with (first
      | (refine wpList_load_plan N.blk _ rfl rfl rfl ?_)
      | (refine wpList_load_plan hA.blk _ rfl rfl rfl ?_)
      | (go_at_call 49; refine (HL.out _).mono ?_; rintro e X1 ⟨rfl, hb⟩; have hA := N.call hb; clear N hb)
      | (go_at_call 50; refine (TG.out _).mono ?_; rintro e X2 ⟨rfl, hb⟩; have hE := hA.call hb; clear hA hb))
    go_ret2
    exact ⟨by rw [E.out]; rfl, hE.bel⟩
set_option maxHeartbeats 2000000 in
set_option maxRecDepth 20000 in
theorem bank_any (p : Pl) (line : Int) (w : World) : Calls Try.prog 37 #[.agg p.arr, .int .i64 line] w fun e w' => e = .returned (.tuple #[.int .i64 (BaI p line), .bool (hasL p line)]) ∧ Below w.heap.size w w' := by
  have HL := Lib.hid (fun W => hasLine_any p line W)
  have N := PSt.new w p
  cases hr : hasL p line
  · have E : Hid (BaI p line = 0) := by unfold BaI; rw [hr]; exact rfl
    generalize BaI p line = R at *
    rw [hr] at HL
    clear hr
    go_enter Try.func37, Try.ntmps37
    go_wp2_with (first
      | (refine wpList_load_plan N.blk _ rfl rfl rfl ?_)
      | (go_at_call 49; refine (HL.out _).mono ?_; rintro e X1 ⟨rfl, hb⟩; have h1 := N.call hb; clear N hb))
    go_ret2
    exact ⟨by rw [E.out]; rfl, h1.bel⟩
  · obtain ⟨hrt, m, rfl, hm⟩ := hasL_facts hr
    obtain ⟨h0, h1⟩ := Al_bounds p
    have hm' : m < 128 := by omega
    have E : Hid (BaI p m = (m : Int) % p.ba) := by unfold BaI; rw [hr]; exact rfl
    have sh := sh_of (right_facts hrt).2.1
    have c1 := sh.ba
    have b1 := sh.b1
    have b2 := sh.b2
    rw [c1] at E
    generalize p.ba.toNat = b at *
    clear sh hrt
    generalize BaI p m = R at *
    rw [hr] at HL
    clear hr
    have d0 : (b : Int) ≠ 0 := by omega
    go_enter Try.func37, Try.ntmps37
    go_wp2_with (first
      | (refine wpList_load_plan N.blk _ rfl rfl rfl ?_)
      | (go_at_call 49; refine (HL.out _).mono ?_; rintro e X1 ⟨rfl, hb⟩; have hE := N.call hb; have d1 := hE.blk.c1; rw [c1] at d1; clear N hb))
    go_ret2
    exact ⟨by rw [E.out]; rfl, hE.bel⟩
set_option maxHeartbeats 2000000 in
set_option maxRecDepth 20000 in
theorem page_any (p : Pl) (line : Int) (w : World) : Calls Try.prog 36 #[.agg p.arr, .int .i64 line] w fun e w' => e = .returned (.tuple #[.int .i64 (PgI p line), .int .i64 (SlI p line), .bool (hasL p line)]) ∧ Below w.heap.size w w' := by
  have HL := Lib.hid (fun W => hasLine_any p line W)
  have N := PSt.new w p
  cases hr : hasL p line
  · have E : Hid (PgI p line = 0) := by unfold PgI; rw [hr]; exact rfl
    have E2 : Hid (SlI p line = 0) := by unfold SlI; rw [hr]; exact rfl
    generalize PgI p line = R at *
    generalize SlI p line = R2 at *
    rw [hr] at HL
    clear hr
    go_enter Try.func36, Try.ntmps36
    go_wp2_with (first
      | (refine wpList_load_plan N.blk _ rfl rfl rfl ?_)
      | (go_at_call 49; refine (HL.out _).mono ?_; rintro e X1 ⟨rfl, hb⟩; have h1 := N.call hb; clear N hb))
    go_ret3
    exact ⟨by rw [E.out, E2.out]; rfl, h1.bel⟩
  · obtain ⟨hrt, m, rfl, hm⟩ := hasL_facts hr
    obtain ⟨h0, h1⟩ := Al_bounds p
    have hm' : m < 128 := by omega
    have E : Hid (PgI p m = (m : Int) / p.li) := by unfold PgI; rw [hr]; exact rfl
    have E2 : Hid (SlI p m = (m : Int) % p.li) := by unfold SlI; rw [hr]; exact rfl
    have sh := sh_of (right_facts hrt).2.1
    have c3 := sh.li
    have b1 := sh.l1
    have b2 := sh.l2
    rw [c3] at E E2
    generalize p.li.toNat = l at *
    generalize PgI p m = R at *
    generalize SlI p m = R2 at *
    rw [hr] at HL
    clear hr sh hrt
    have d0 : (l : Int) ≠ 0 := by omega
    have d1 : (l = 0) = False := eq_false (by omega)
    have q1 : (m : Int) / (l : Int) = ((m / l : Nat) : Int) := Int.ofNat_ediv_ofNat
    have q2 : m / l ≤ m := Nat.div_le_self _ _
    have q5 : 0 ≤ (m : Int) / (l : Int) := Int.ediv_nonneg (by omega) (by omega)
    have q6 : (m : Int) / (l : Int) ≤ (m : Int) := by rw [q1]; exact_mod_cast q2
    have q3 : (m : Int) % (l : Int) = ((m % l : Nat) : Int) := rfl
    have q4 : m % l ≤ m := Nat.mod_le _ _
    have w1 : IntKind.i64.wrap ((m : Int) / (l : Int)) = (m : Int) / (l : Int) := IntWalk.i64_in _ (by omega)
    have w2 : IntKind.i64.wrap ((m : Int) % (l : Int)) = (m : Int) % (l : Int) := IntWalk.i64_in _ (by omega)
    clear q1 q2 q3 q4 q5 q6
    have tm : (m : Int).tmod (l : Int) = (m : Int) % (l : Int) := Int.tmod_eq_emod_of_nonneg (by omega)
    go_enter Try.func36, Try.ntmps36
    go_wp2_with (first
      | (refine wpList_load_plan N.blk _ rfl rfl rfl ?_)
      | (go_at_call 49; refine (HL.out _).mono ?_; rintro e X1 ⟨rfl, hb⟩; have h1 := N.call hb; clear N hb))
    have H0 := Lib.hid h1.drew
    clear h1
    refine wp_region_held_drew (S := fun W => PSt w w.heap.size p W) (by kernel_rfl) H0.out (fun _ => ?_)
    generalize World.drew _ = V0 at *
    refine wpAnyH_take (i := 0) (v := .int .i64 (m : Nat)) rfl (by kernel_rfl) (by kernel_rfl) (by kernel_rfl) (fun _ _ _ h => h) (Or.inl ⟨by rfl, fun W hW => by clear hW; go_simp⟩) H0.out ?_
    try simp only [Act.put, List.getElem_toArray, List.getElem_cons_succ, List.getElem_cons_zero, List.setIfInBounds_toArray, List.set_cons_zero, List.set_cons_succ]
    refine wpAnyH_take (i := 1) (v := .pointer (some ⟨w.heap.size, 3, none⟩)) rfl (by kernel_rfl) (by kernel_rfl) (by kernel_rfl) (fun _ _ _ h => h) (Or.inl ⟨by rfl, fun W hW => by clear hW; go_simp⟩) H0.out ?_
    try simp only [Act.put, List.getElem_toArray, List.getElem_cons_succ, List.getElem_cons_zero, List.setIfInBounds_toArray, List.set_cons_zero, List.set_cons_succ]
    refine wpAnyH_take (i := 2) (v := .int .i64 (l : Nat)) rfl (by kernel_rfl) (by kernel_rfl) (by kernel_rfl) (fun _ _ _ h => h) (Or.inl ⟨by rfl, fun W hW => by have hc := hW.blk.c3.trans (congrArg (fun z => some (Value.int .i64 z)) c3); clear hW; go_simp⟩) H0.out ?_
    try simp only [Act.put, List.getElem_toArray, List.getElem_cons_succ, List.getElem_cons_zero, List.setIfInBounds_toArray, List.set_cons_zero, List.set_cons_succ]
    refine wpAnyH_take (i := 3) (v := .int .i64 ((m : Int) / (l : Int))) rfl (by kernel_rfl) (by kernel_rfl) (by kernel_rfl) (fun _ _ _ h => h) (Or.inl ⟨by rfl, fun W hW => by clear hW; go_simp⟩) H0.out ?_
    try simp only [Act.put, List.getElem_toArray, List.getElem_cons_succ, List.getElem_cons_zero, List.setIfInBounds_toArray, List.set_cons_zero, List.set_cons_succ]
    refine wpAnyH_take (i := 4) (v := .int .i64 (m : Nat)) rfl (by kernel_rfl) (by kernel_rfl) (by kernel_rfl) (fun _ _ _ h => h) (Or.inl ⟨by rfl, fun W hW => by clear hW; go_simp⟩) H0.out ?_
    try simp only [Act.put, List.getElem_toArray, List.getElem_cons_succ, List.getElem_cons_zero, List.setIfInBounds_toArray, List.set_cons_zero, List.set_cons_succ]
    refine wpAnyH_take (i := 5) (v := .pointer (some ⟨w.heap.size, 3, none⟩)) rfl (by kernel_rfl) (by kernel_rfl) (by kernel_rfl) (fun _ _ _ h => h) (Or.inl ⟨by rfl, fun W hW => by clear hW; go_simp⟩) H0.out ?_
    try simp only [Act.put, List.getElem_toArray, List.getElem_cons_succ, List.getElem_cons_zero, List.setIfInBounds_toArray, List.set_cons_zero, List.set_cons_succ]
    refine wpAnyH_take (i := 6) (v := .int .i64 (l : Nat)) rfl (by kernel_rfl) (by kernel_rfl) (by kernel_rfl) (fun _ _ _ h => h) (Or.inl ⟨by rfl, fun W hW => by have hc := hW.blk.c3.trans (congrArg (fun z => some (Value.int .i64 z)) c3); clear hW; go_simp⟩) H0.out ?_
    try simp only [Act.put, List.getElem_toArray, List.getElem_cons_succ, List.getElem_cons_zero, List.setIfInBounds_toArray, List.set_cons_zero, List.set_cons_succ]
    refine wpAnyH_take (i := 7) (v := .int .i64 ((m : Int) % (l : Int))) rfl (by kernel_rfl) (by kernel_rfl) (by kernel_rfl) (fun _ _ _ h => h) (Or.inl ⟨by rfl, fun W hW => by clear hW; go_simp⟩) H0.out ?_
    try simp only [Act.put, List.getElem_toArray, List.getElem_cons_succ, List.getElem_cons_zero, List.setIfInBounds_toArray, List.set_cons_zero, List.set_cons_succ]
    refine wpAnyH_take (i := 8) (v := .int .i64 ((m : Int) / (l : Int))) rfl (by kernel_rfl) (by kernel_rfl) (by kernel_rfl) (fun _ _ _ h => h) (Or.inl ⟨by rfl, fun W hW => by clear hW; go_simp⟩) H0.out ?_
    try simp only [Act.put, List.getElem_toArray, List.getElem_cons_succ, List.getElem_cons_zero, List.setIfInBounds_toArray, List.set_cons_zero, List.set_cons_succ]
    refine wpAnyH_take (i := 9) (v := .int .i64 ((m : Int) % (l : Int))) rfl (by kernel_rfl) (by kernel_rfl) (by kernel_rfl) (fun _ _ _ h => h) (Or.inl ⟨by rfl, fun W hW => by clear hW; go_simp⟩) H0.out ?_
    try simp only [Act.put, List.getElem_toArray, List.getElem_cons_succ, List.getElem_cons_zero, List.setIfInBounds_toArray, List.set_cons_zero, List.set_cons_succ]
    refine wpAnyH_take (i := 10) (v := .bool true) rfl (by kernel_rfl) (by kernel_rfl) (by kernel_rfl) (fun _ _ _ h => h) (Or.inl ⟨by rfl, fun W hW => by clear hW; go_simp⟩) H0.out ?_
    try simp only [Act.put, List.getElem_toArray, List.getElem_cons_succ, List.getElem_cons_zero, List.setIfInBounds_toArray, List.set_cons_zero, List.set_cons_succ]
    refine wpAnyH_done (by kernel_rfl) ?_ _
    go_wp2
    go_ret3
    exact ⟨by rw [E.out, E2.out]; rfl, H0.out.bel⟩
end Go.Proofs.Ytcbpnmcfiohndaa
