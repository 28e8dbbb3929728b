/- How great memory is, and where lines and items stand in it. No statement is proved here. -/
import Derived.Test.YtnogmfpaipjdaaaPReg1
namespace Go.Proofs.Ytnogmfpaipjdaaa.P
open Go.RowKit
set_option maxRecDepth 20000
set_option linter.unusedVariables false
set_option linter.unusedSimpArgs false

def SzI (p : Pl) : Int := if right p then 32 * Al p + 8 * Al p + 32 * (sw p.pa.toNat p.ar.toNat (Lv p) : Int) else 0
def ItI (p : Pl) (lv ix : Int) : Int := if hasI p lv ix then 32 * Al p + 8 * Al p + 32 * ((sw p.pa.toNat p.ar.toNat lv.toNat : Int) + ix) else 0
theorem hasI_facts {p : Pl} {lv ix : Int} (h : hasI p lv ix = true) : right p = true ∧ ∃ k j : Nat, lv = (k : Int) ∧ ix = (j : Int) ∧ k < Lv p ∧ j < wid p.pa.toNat p.ar.toNat k := by
  unfold hasI at h
  simp only [Bool.and_eq_true, decide_eq_true_eq] at h
  obtain ⟨hr, h0, h1⟩ := h
  have hl : 0 ≤ lv ∧ lv < (Lv p : Int) := by
    refine Classical.byContradiction fun hn => ?_
    have : Wd p lv = 0 := by unfold Wd; rw [if_neg hn]
    rw [this] at h1; omega
  refine ⟨hr, lv.toNat, ix.toNat, by omega, by omega, by omega, ?_⟩
  have e : Wd p lv = wid p.pa.toNat p.ar.toNat lv.toNat := by unfold Wd; rw [if_pos hl]
  rw [e] at h1; omega
theorem hasL_facts {p : Pl} {line : Int} (h : hasL p line = true) : right p = true ∧ ∃ m : Nat, line = (m : Int) ∧ (m : Int) < Al p := by
  unfold hasL at h
  simp only [Bool.and_eq_true, decide_eq_true_eq] at h
  exact ⟨h.1, line.toNat, by omega, by omega⟩
attribute [local irreducible] shaped Ls Lv Wd Al right bounded fitP sw hasI hasL
set_option maxHeartbeats 2000000 in
set_option maxRecDepth 20000 in
theorem item_any (p : Pl) (lv ix : Int) (w : World) : Calls Try.prog 30 #[.agg p.arr, .agg #[.int .i64 lv, .int .i64 ix]] w fun e w' => e = .returned (.tuple #[.int .i64 (ItI p lv ix), .bool (hasI p lv ix)]) ∧ Below w.heap.size w w' := by
  have HI := Lib.hid (fun W => hasItem_any p lv ix W)
  have N := ISt.new w p lv ix
  cases hr : hasI p lv ix
  · have E : Hid (ItI p lv ix = 0) := by unfold ItI; rw [hr]; exact rfl
    generalize ItI p lv ix = R at *
    rw [hr] at HI
    clear hr
    have x0 := N.x0
    have x1 := N.x1
    go_enter Try.func30, Try.ntmps30
    go_wp2_with (first
      | (refine wpList_load_plan N.st.blk _ rfl rfl rfl ?_)
      | (go_at_call 52; refine (HI.out _).mono ?_; rintro e X1 ⟨rfl, hb⟩; have h1 := N.call hb; clear N hb x0 x1))
    go_ret2
    exact ⟨by rw [E.out]; rfl, h1.st.bel⟩
  · obtain ⟨hrt, k, j, rfl, rfl, hk, hj⟩ := hasI_facts hr
    have hs := (right_facts hrt).2.1
    have sh := sh_of hs
    have E : Hid (ItI p k j = 32 * Al p + 8 * Al p + 32 * ((sw p.pa.toNat p.ar.toNat k : Int) + (j : Int))) := by unfold ItI; rw [hr]; exact rfl
    have IA := Lib.hid (fun W => itemsAt_any p W)
    have IB := Lib.hid (fun W => itemsBelow_any p k (by omega) hs W)
    have s1 := sw_le sh.n1 sh.n2 sh.a1 sh.a2 k (by rw [← sh.lv hs]; omega)
    have y2 := ((tree_facts sh.n1 sh.n2 sh.a1 sh.a2).2.2 k (by rw [← sh.lv hs]; omega)).2.1
    obtain ⟨h0, h1⟩ := Al_bounds p
    have j16 : j < 16 := by omega
    have k5 : k < 5 := by have := Lv_le p; omega
    generalize ItI p k j = R at *
    generalize sw p.pa.toNat p.ar.toNat k = s at *
    generalize Al p = A at *
    rw [hr] at HI
    clear hr sh hs hj y2 hk hrt
    have x0 := N.x0
    have x1 := N.x1
    have w0 : IntKind.i64.wrap ((s : Int) + (j : Int)) = (s : Int) + (j : Int) := IntWalk.i64_in _ (by omega)
    have w1 : IntKind.i64.wrap (32 * ((s : Int) + (j : Int))) = 32 * ((s : Int) + (j : Int)) := IntWalk.i64_in _ (by omega)
    have w2 : IntKind.i64.wrap (32 * A + 8 * A + 32 * ((s : Int) + (j : Int))) = 32 * A + 8 * A + 32 * ((s : Int) + (j : Int)) := IntWalk.i64_in _ (by omega)
    go_enter Try.func30, Try.ntmps30
    go_wp2_with (first
      | (refine wpList_load_plan N.st.blk _ rfl rfl rfl ?_)
      | (go_at_call 52; refine (HI.out _).mono ?_; rintro e X1 ⟨rfl, hb⟩; have h1 := N.call hb; clear N hb x0 x1))
    have H0 := Lib.hid h1.drew
    clear h1
    refine wp_region_held_drew (S := fun W => ISt w p k j W) (by kernel_rfl) H0.out (fun _ => ?_)
    generalize World.drew _ = V0 at *
    refine wpAnyH_take (i := 0) (v := .agg p.arr) rfl (by kernel_rfl) (by kernel_rfl) (by kernel_rfl) (fun _ _ _ h => h) (yields_plan _ rfl (by rfl) rfl (fun W hW => hW.st.blk)) H0.out ?_
    try simp only [Act.put, List.getElem_toArray, List.getElem_cons_succ, List.getElem_cons_zero, List.setIfInBounds_toArray, List.set_cons_zero, List.set_cons_succ]
    refine wpAnyH_take (i := 2) (v := .agg p.arr) rfl (by kernel_rfl) (by kernel_rfl) (by kernel_rfl) (fun _ _ _ h => h) (yields_plan _ rfl (by rfl) rfl (fun W hW => hW.st.blk)) H0.out ?_
    try simp only [Act.put, List.getElem_toArray, List.getElem_cons_succ, List.getElem_cons_zero, List.setIfInBounds_toArray, List.set_cons_zero, List.set_cons_succ]
    refine wpAnyH_take (i := 3) (v := .pointer (some ⟨w.heap.size + 1, 0, none⟩)) rfl (by kernel_rfl) (by kernel_rfl) (by kernel_rfl) (fun _ _ _ h => h) (Or.inl ⟨by rfl, fun W hW => by clear hW; go_simp⟩) H0.out ?_
    try simp only [Act.put, List.getElem_toArray, List.getElem_cons_succ, List.getElem_cons_zero, List.setIfInBounds_toArray, List.set_cons_zero, List.set_cons_succ]
    refine wpAnyH_take (i := 4) (v := .int .i64 (k : Nat)) rfl (by kernel_rfl) (by kernel_rfl) (by kernel_rfl) (fun _ _ _ h => h) (Or.inl ⟨by rfl, fun W hW => by have hc := hW.x0; clear hW; go_simp⟩) H0.out ?_
    try simp only [Act.put, List.getElem_toArray, List.getElem_cons_succ, List.getElem_cons_zero, List.setIfInBounds_toArray, List.set_cons_zero, List.set_cons_succ]
    refine wpAnyH_take (i := 6) (v := .pointer (some ⟨w.heap.size + 1, 1, none⟩)) rfl (by kernel_rfl) (by kernel_rfl) (by kernel_rfl) (fun _ _ _ h => h) (Or.inl ⟨by rfl, fun W hW => by clear hW; go_simp⟩) H0.out ?_
    try simp only [Act.put, List.getElem_toArray, List.getElem_cons_succ, List.getElem_cons_zero, List.setIfInBounds_toArray, List.set_cons_zero, List.set_cons_succ]
    refine wpAnyH_take (i := 7) (v := .int .i64 (j : Nat)) rfl (by kernel_rfl) (by kernel_rfl) (by kernel_rfl) (fun _ _ _ h => h) (Or.inl ⟨by rfl, fun W hW => by have hc := hW.x1; clear hW; go_simp⟩) H0.out ?_
    try simp only [Act.put, List.getElem_toArray, List.getElem_cons_succ, List.getElem_cons_zero, List.setIfInBounds_toArray, List.set_cons_zero, List.set_cons_succ]
    refine wpAnyH_ready (rs := [1]) (by kernel_rfl) (by simp) ?_
    refine AllReadyH.cons rfl (fun K hK => ?_) AllReadyH.nil
    go_simp
    go_at_call 53
    refine (IA.out _).mono ?_
    rintro e V1_ ⟨rfl, hb1_⟩
    have H1_ := Lib.hid (H0.out.call hb1_)
    clear hb1_
    refine hK.out _ _ H1_.out (fun _ => ?_)
    clear hK K
    try simp only [Act.put, List.getElem_toArray, List.getElem_cons_succ, List.getElem_cons_zero, List.setIfInBounds_toArray, List.set_cons_zero, List.set_cons_succ]
    refine wpAnyH_ready (rs := [5]) (by kernel_rfl) (by simp) ?_
    refine AllReadyH.cons rfl (fun K hK => ?_) AllReadyH.nil
    go_simp
    go_at_call 54
    refine (IB.out _).mono ?_
    rintro e V2_ ⟨rfl, hb2_⟩
    have H2_ := Lib.hid (H1_.out.call hb2_)
    clear hb2_
    refine hK.out _ _ H2_.out (fun _ => ?_)
    clear hK K
    try simp only [Act.put, List.getElem_toArray, List.getElem_cons_succ, List.getElem_cons_zero, List.setIfInBounds_toArray, List.set_cons_zero, List.set_cons_succ]
    refine wpAnyH_take (i := 8) (v := .int .i64 ((s : Int) + (j : Int))) rfl (by kernel_rfl) (by kernel_rfl) (by kernel_rfl) (fun _ _ _ h => h) (Or.inl ⟨by rfl, fun W hW => by clear hW; go_simp⟩) H2_.out ?_
    try simp only [Act.put, List.getElem_toArray, List.getElem_cons_succ, List.getElem_cons_zero, List.setIfInBounds_toArray, List.set_cons_zero, List.set_cons_succ]
    refine wpAnyH_take (i := 9) (v := .int .i64 (32 * ((s : Int) + (j : Int)))) rfl (by kernel_rfl) (by kernel_rfl) (by kernel_rfl) (fun _ _ _ h => h) (Or.inl ⟨by rfl, fun W hW => by clear hW; go_simp⟩) H2_.out ?_
    try simp only [Act.put, List.getElem_toArray, List.getElem_cons_succ, List.getElem_cons_zero, List.setIfInBounds_toArray, List.set_cons_zero, List.set_cons_succ]
    refine wpAnyH_take (i := 10) (v := .int .i64 (32 * A + 8 * A + 32 * ((s : Int) + (j : Int)))) rfl (by kernel_rfl) (by kernel_rfl) (by kernel_rfl) (fun _ _ _ h => h) (Or.inl ⟨by rfl, fun W hW => by clear hW; go_simp⟩) H2_.out ?_
    try simp only [Act.put, List.getElem_toArray, List.getElem_cons_succ, List.getElem_cons_zero, List.setIfInBounds_toArray, List.set_cons_zero, List.set_cons_succ]
    refine wpAnyH_take (i := 11) (v := .int .i64 (32 * A + 8 * A + 32 * ((s : Int) + (j : Int)))) rfl (by kernel_rfl) (by kernel_rfl) (by kernel_rfl) (fun _ _ _ h => h) (Or.inl ⟨by rfl, fun W hW => by clear hW; go_simp⟩) H2_.out ?_
    try simp only [Act.put, List.getElem_toArray, List.getElem_cons_succ, List.getElem_cons_zero, List.setIfInBounds_toArray, List.set_cons_zero, List.set_cons_succ]
    refine wpAnyH_take (i := 12) (v := .bool true) rfl (by kernel_rfl) (by kernel_rfl) (by kernel_rfl) (fun _ _ _ h => h) (Or.inl ⟨by rfl, fun W hW => by clear hW; go_simp⟩) H2_.out ?_
    try simp only [Act.put, List.getElem_toArray, List.getElem_cons_succ, List.getElem_cons_zero, List.setIfInBounds_toArray, List.set_cons_zero, List.set_cons_succ]
    refine wpAnyH_done (by kernel_rfl) ?_ _
    go_wp2
    go_ret2
    exact ⟨by rw [E.out]; rfl, H2_.out.st.bel⟩
def DaI (p : Pl) (line : Int) : Int := if hasL p line then 32 * line else 0
def TaI (p : Pl) (line : Int) : Int := if hasL p line then 32 * Al p + 8 * line else 0
def BaI (p : Pl) (line : Int) : Int := if hasL p line then line % p.ba else 0
def PgI (p : Pl) (line : Int) : Int := if hasL p line then line / p.li else 0
def SlI (p : Pl) (line : Int) : Int := if hasL p line then line % p.li else 0
end Go.Proofs.Ytnogmfpaipjdaaa.P
