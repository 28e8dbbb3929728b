/- For every input the law PadBack returns true. No condition. -/
import Derived.Test.YtfbgpfiodgibbaaPSpeaks
import Derived.Test.YtfbgpfiodgibbaaPCall
import Derived.Test.YtfbgpfiodgibbaaPPlain
namespace Go.Proofs.Ytfbgpfiodgibbaa
open Go.RowKit
open A (arrV vals)
set_option linter.unusedVariables false
set_option linter.unusedSimpArgs false
attribute [local irreducible] A.arrV crs cr1 Cl.arr

/-- What the law works on. -/
structure LB (w : World) (g gc : Nat) (key : List Nat) (us : List Sd) (b2 b3 b6 : Nat) (c : Cl) (X : List Nat) (W : World) : Prop where
  pp : PP w W g gc key us [(b2, C 23 (arrV key)), (b3, C 38 c.arr), (b6, C 36 (arrV X))]
section
variable {w W W' : World} {g gc b2 b3 b6 : Nat} {key X : List Nat} {us : List Sd} {c : Cl}
theorem LB.call (h : LB w g gc key us b2 b3 b6 c X W) (hb : Below W.heap.size W W') : LB w g gc key us b2 b3 b6 c X W' := ⟨h.pp.call hb⟩
theorem LB.drew (h : LB w g gc key us b2 b3 b6 c X W) : LB w g gc key us b2 b3 b6 c X W.drew := ⟨h.pp.drew⟩
theorem LB.a2 (h : LB w g gc key us b2 b3 b6 c X W) : At W b2 23 (arrV key) := h.pp.rest.get 0 rfl
theorem LB.a3 (h : LB w g gc key us b2 b3 b6 c X W) : At W b3 38 c.arr := h.pp.rest.get 1 rfl
theorem LB.a6 (h : LB w g gc key us b2 b3 b6 c X W) : At W b6 36 (arrV X) := h.pp.rest.get 2 rfl
theorem LB.c1 (h : LB w g gc key us b2 b3 b6 c X W) : W.cell? ⟨b3, 1, none⟩ = some (.int .i64 c.l) := cl_1 h.a3
theorem LB.c2 (h : LB w g gc key us b2 b3 b6 c X W) : W.cell? ⟨b3, 2, none⟩ = some (.int .u64 (c.M : Int)) := cl_2 h.a3
theorem LB.c3 (h : LB w g gc key us b2 b3 b6 c X W) : W.cell? ⟨b3, 3, none⟩ = some (.int .i64 c.m) := cl_3 h.a3
theorem LB.r4 (h : LB w g gc key us b2 b3 b6 c X W) : W.rangeAt b3 4 (vals c.xs) := cl_4 h.a3
end
set_option maxRecDepth 100000 in
set_option maxHeartbeats 4000000 in
theorem back_any (key : List Nat) (hk : IsKey key) (c : Cl) (hc : c.Ok) (w : World) : Calls Try.prog 4 #[.agg (arrV key), .agg c.arr] w fun e w' => e = .returned (.bool true) ∧ Below w.heap.size w w' := by
  have h0 := St.nil w
  have SP := Lib.hid (fun W => speaks_any W)
  have NW := Lib.hid (fun w W L (h : St w W L) => new_any h key hk)
  have SE := Lib.hid (fun w W g gc us L (h : PP w W g gc key us L) hus => seal_any h hus hk c.l c.M c.m hc.l hc.M hc.m c.xs hc.line)
  have OP := Lib.hid (fun W g gc hp => open_any g gc key hk c.l c.M c.m hc.l hc.M hc.m (crL key c.l c.M c.m c.xs) (crL_ok hk _ _ _ hc.line) W hp)
  rw [crL_back hk c.l c.M c.m hc.line] at OP
  have XL := Lib.hid (crL_ok hk c.l c.M c.m hc.line).len
  have KL := Lib.hid hk.len
  have CL := Lib.hid c.len
  have q1 : ∀ W, (binOp .eql 36 (.agg (arrV c.xs)) (.agg (arrV c.xs))).run Try.prog W = .ok (.bool true) W := fun W => by rw [eql_line c.xs c.xs hc.line hc.line]; simp
  generalize crL key c.l c.M c.m c.xs = X at *
  clear hk hc
  go_enter Try.func4, Try.ntmps4
  go_wp2_with (first
    | (have _ := h0; refine wpList_box_st h0 23 _ rfl rfl (arrV key) rfl ?_; clear h0; intro W1 h1 _ _; generalize hb2 : w.heap.size = b2 at h1 ⊢; replace hb2 := Lib.hid hb2)
    | (have _ := h1; refine wpList_box_st h1 38 _ rfl rfl c.arr rfl ?_; clear h1; intro W2 h2 _ _; generalize W1.heap.size = b3 at *)
    | (go_at_call 7; refine (SP.out _).mono ?_; rintro e W3 ⟨rfl, hb⟩; have h3 : St w W3 [(b2, C 23 (arrV key)), (b3, C 38 c.arr)] := h2.call hb; clear hb h2 SP)
    | (have _ := h3; refine wpList_load_st h3 0 rfl 23 _ _ rfl rfl rfl Try.underlying23 rfl (by rw [A.arrV_size, KL.out]; exact sz23) ?_)
    | (go_at_call 9; have _ := h3; refine (NW.out _ _ _ h3).mono ?_; clear h3; rintro e W4 ⟨g, gc, rfl, h4⟩; have k1 := cl_1 (h4.rest.get 1 rfl); have k2 := cl_2 (h4.rest.get 1 rfl); have k3 := cl_3 (h4.rest.get 1 rfl); have k4 := Lib.hid (cl_4 (h4.rest.get 1 rfl)))
    | (have _ := h4; refine wpList_load_mid36 k4.out CL.out _ rfl rfl rfl ?_)
    | (go_at_call 12; have _ := h4; refine (SE.out _ _ _ _ _ _ h4 (by decide)).mono ?_; clear h4 k1 k2 k3 k4; rintro e W5 ⟨rfl, h5⟩)
    | (have _ := h5; refine wpList_alloc_pp h5 36 rfl rfl _ (arrV zs32) zero36 rfl ?_; clear h5; intro W6 h6; generalize W5.heap.size = b6 at *)
    | (have _ := h6; refine wpList_store_pp (arr' := arrV X) h6 2 rfl 36 _ _ rfl rfl rfl rfl (by rw [A.arrV_size, XL.out]; exact sz36) (by rw [A.arrV_size, A.arrV_size, XL.out]; rfl) (A.arrV_all _) ?_; clear h6; intro W7 h7))
  have H0 := Lib.hid (show LB w g gc key _ b2 b3 b6 c X W7.drew from LB.drew ⟨h7⟩)
  clear h7 SE
  generalize ([] : List Sd) ++ [sdOf c.l c.M c.m 0, sdOf c.l c.M c.m 1] = us at *
  refine wp_region_held_drew (S := fun W => LB w g gc key us b2 b3 b6 c X W) (by kernel_rfl) H0.out (fun _ => ?_)
  generalize W7.drew = V0 at *
  refine wpAnyH_take (i := 0) (v := .pointer (some ⟨g, 0, none⟩)) rfl (by kernel_rfl) (by kernel_rfl) (by kernel_rfl) (fun _ _ _ h => h) (Or.inl ⟨by rfl, fun W hW => by clear hW; go_simp⟩) H0.out ?_
  try simp only [Act.put, List.getElem_toArray, List.getElem_cons_succ, List.getElem_cons_zero, List.setIfInBounds_toArray, List.set_cons_zero, List.set_cons_succ]
  refine wpAnyH_take (i := 1) (v := .pointer (some ⟨b3, 1, none⟩)) rfl (by kernel_rfl) (by kernel_rfl) (by kernel_rfl) (fun _ _ _ h => h) (Or.inl ⟨by rfl, fun W hW => by clear hW; go_simp⟩) H0.out ?_
  try simp only [Act.put, List.getElem_toArray, List.getElem_cons_succ, List.getElem_cons_zero, List.setIfInBounds_toArray, List.set_cons_zero, List.set_cons_succ]
  refine wpAnyH_take (i := 2) (v := .int .i64 c.l) rfl (by kernel_rfl) (by kernel_rfl) (by kernel_rfl) (fun _ _ _ h => h) (Or.inl ⟨by rfl, fun W hW => by have hc := (hW.c1); clear hW; go_simp⟩) H0.out ?_
  try simp only [Act.put, List.getElem_toArray, List.getElem_cons_succ, List.getElem_cons_zero, List.setIfInBounds_toArray, List.set_cons_zero, List.set_cons_succ]
  refine wpAnyH_take (i := 3) (v := .pointer (some ⟨b3, 2, none⟩)) rfl (by kernel_rfl) (by kernel_rfl) (by kernel_rfl) (fun _ _ _ h => h) (Or.inl ⟨by rfl, fun W hW => by clear hW; go_simp⟩) H0.out ?_
  try simp only [Act.put, List.getElem_toArray, List.getElem_cons_succ, List.getElem_cons_zero, List.setIfInBounds_toArray, List.set_cons_zero, List.set_cons_succ]
  refine wpAnyH_take (i := 4) (v := .int .u64 (c.M : Int)) rfl (by kernel_rfl) (by kernel_rfl) (by kernel_rfl) (fun _ _ _ h => h) (Or.inl ⟨by rfl, fun W hW => by have hc := (hW.c2); clear hW; go_simp⟩) H0.out ?_
  try simp only [Act.put, List.getElem_toArray, List.getElem_cons_succ, List.getElem_cons_zero, List.setIfInBounds_toArray, List.set_cons_zero, List.set_cons_succ]
  refine wpAnyH_take (i := 5) (v := .pointer (some ⟨b3, 3, none⟩)) rfl (by kernel_rfl) (by kernel_rfl) (by kernel_rfl) (fun _ _ _ h => h) (Or.inl ⟨by rfl, fun W hW => by clear hW; go_simp⟩) H0.out ?_
  try simp only [Act.put, List.getElem_toArray, List.getElem_cons_succ, List.getElem_cons_zero, List.setIfInBounds_toArray, List.set_cons_zero, List.set_cons_succ]
  refine wpAnyH_take (i := 6) (v := .int .i64 c.m) rfl (by kernel_rfl) (by kernel_rfl) (by kernel_rfl) (fun _ _ _ h => h) (Or.inl ⟨by rfl, fun W hW => by have hc := (hW.c3); clear hW; go_simp⟩) H0.out ?_
  try simp only [Act.put, List.getElem_toArray, List.getElem_cons_succ, List.getElem_cons_zero, List.setIfInBounds_toArray, List.set_cons_zero, List.set_cons_succ]
  refine wpAnyH_take (i := 7) (v := .agg (arrV X)) rfl (by kernel_rfl) (by kernel_rfl) (by kernel_rfl) (fun _ _ _ h => h) (yields_at 36 _ _ rfl (by rfl) rfl Try.underlying36 rfl (by rw [A.arrV_size, XL.out]; exact sz36) (fun W hW => hW.a6)) H0.out ?_
  try simp only [Act.put, List.getElem_toArray, List.getElem_cons_succ, List.getElem_cons_zero, List.setIfInBounds_toArray, List.set_cons_zero, List.set_cons_succ]
  refine wpAnyH_take (i := 9) (v := .pointer (some ⟨b3, 4, none⟩)) rfl (by kernel_rfl) (by kernel_rfl) (by kernel_rfl) (fun _ _ _ h => h) (Or.inl ⟨by rfl, fun W hW => by clear hW; go_simp⟩) H0.out ?_
  try simp only [Act.put, List.getElem_toArray, List.getElem_cons_succ, List.getElem_cons_zero, List.setIfInBounds_toArray, List.set_cons_zero, List.set_cons_succ]
  refine wpAnyH_take (i := 10) (v := .agg (arrV c.xs)) rfl (by kernel_rfl) (by kernel_rfl) (by kernel_rfl) (fun _ _ _ h => h) (yields_mid36 _ rfl (by rfl) rfl CL.out (fun W hW => hW.r4)) H0.out ?_
  try simp only [Act.put, List.getElem_toArray, List.getElem_cons_succ, List.getElem_cons_zero, List.setIfInBounds_toArray, List.set_cons_zero, List.set_cons_succ]
  refine wpAnyH_ready (rs := [8]) (by kernel_rfl) (by simp) ?_
  refine AllReadyH.cons rfl (fun K hK => ?_) AllReadyH.nil
  go_simp
  go_at_call 11
  refine (OP.out _ _ _ H0.out.pp.has).mono ?_
  rintro e V1_ ⟨rfl, hb1_⟩
  have H1_ := Lib.hid (H0.out.call hb1_)
  clear hb1_
  refine hK.out _ _ H1_.out (fun _ => ?_)
  clear hK K
  try simp only [Act.put, List.getElem_toArray, List.getElem_cons_succ, List.getElem_cons_zero, List.setIfInBounds_toArray, List.set_cons_zero, List.set_cons_succ]
  refine wpAnyH_take (i := 11) (v := .bool true) rfl (by kernel_rfl) (by kernel_rfl) (by kernel_rfl) (fun _ _ _ h => h) (Or.inl ⟨by rfl, fun W hW => by clear hW; go_simp⟩) H1_.out ?_
  try simp only [Act.put, List.getElem_toArray, List.getElem_cons_succ, List.getElem_cons_zero, List.setIfInBounds_toArray, List.set_cons_zero, List.set_cons_succ]
  refine wpAnyH_take (i := 12) (v := .bool true) rfl (by kernel_rfl) (by kernel_rfl) (by kernel_rfl) (fun _ _ _ h => h) (Or.inl ⟨by rfl, fun W hW => by clear hW; go_simp⟩) H1_.out ?_
  try simp only [Act.put, List.getElem_toArray, List.getElem_cons_succ, List.getElem_cons_zero, List.setIfInBounds_toArray, List.set_cons_zero, List.set_cons_succ]
  refine wpAnyH_take (i := 13) (v := .agg (arrV key)) rfl (by kernel_rfl) (by kernel_rfl) (by kernel_rfl) (fun _ _ _ h => h) (yields_at 23 _ _ rfl (by rfl) rfl Try.underlying23 rfl (by rw [A.arrV_size, KL.out]; exact sz23) (fun W hW => hW.a2)) H1_.out ?_
  try simp only [Act.put, List.getElem_toArray, List.getElem_cons_succ, List.getElem_cons_zero, List.setIfInBounds_toArray, List.set_cons_zero, List.set_cons_succ]
  refine wpAnyH_take (i := 15) (v := .pointer (some ⟨b3, 1, none⟩)) rfl (by kernel_rfl) (by kernel_rfl) (by kernel_rfl) (fun _ _ _ h => h) (Or.inl ⟨by rfl, fun W hW => by clear hW; go_simp⟩) H1_.out ?_
  try simp only [Act.put, List.getElem_toArray, List.getElem_cons_succ, List.getElem_cons_zero, List.setIfInBounds_toArray, List.set_cons_zero, List.set_cons_succ]
  refine wpAnyH_take (i := 16) (v := .int .i64 c.l) rfl (by kernel_rfl) (by kernel_rfl) (by kernel_rfl) (fun _ _ _ h => h) (Or.inl ⟨by rfl, fun W hW => by have hc := (hW.c1); clear hW; go_simp⟩) H1_.out ?_
  try simp only [Act.put, List.getElem_toArray, List.getElem_cons_succ, List.getElem_cons_zero, List.setIfInBounds_toArray, List.set_cons_zero, List.set_cons_succ]
  refine wpAnyH_take (i := 17) (v := .pointer (some ⟨b3, 2, none⟩)) rfl (by kernel_rfl) (by kernel_rfl) (by kernel_rfl) (fun _ _ _ h => h) (Or.inl ⟨by rfl, fun W hW => by clear hW; go_simp⟩) H1_.out ?_
  try simp only [Act.put, List.getElem_toArray, List.getElem_cons_succ, List.getElem_cons_zero, List.setIfInBounds_toArray, List.set_cons_zero, List.set_cons_succ]
  refine wpAnyH_take (i := 18) (v := .int .u64 (c.M : Int)) rfl (by kernel_rfl) (by kernel_rfl) (by kernel_rfl) (fun _ _ _ h => h) (Or.inl ⟨by rfl, fun W hW => by have hc := (hW.c2); clear hW; go_simp⟩) H1_.out ?_
  try simp only [Act.put, List.getElem_toArray, List.getElem_cons_succ, List.getElem_cons_zero, List.setIfInBounds_toArray, List.set_cons_zero, List.set_cons_succ]
  refine wpAnyH_take (i := 19) (v := .pointer (some ⟨b3, 3, none⟩)) rfl (by kernel_rfl) (by kernel_rfl) (by kernel_rfl) (fun _ _ _ h => h) (Or.inl ⟨by rfl, fun W hW => by clear hW; go_simp⟩) H1_.out ?_
  try simp only [Act.put, List.getElem_toArray, List.getElem_cons_succ, List.getElem_cons_zero, List.setIfInBounds_toArray, List.set_cons_zero, List.set_cons_succ]
  refine wpAnyH_take (i := 20) (v := .int .i64 c.m) rfl (by kernel_rfl) (by kernel_rfl) (by kernel_rfl) (fun _ _ _ h => h) (Or.inl ⟨by rfl, fun W hW => by have hc := (hW.c3); clear hW; go_simp⟩) H1_.out ?_
  try simp only [Act.put, List.getElem_toArray, List.getElem_cons_succ, List.getElem_cons_zero, List.setIfInBounds_toArray, List.set_cons_zero, List.set_cons_succ]
  refine wpAnyH_take (i := 21) (v := .agg (arrV X)) rfl (by kernel_rfl) (by kernel_rfl) (by kernel_rfl) (fun _ _ _ h => h) (yields_at 36 _ _ rfl (by rfl) rfl Try.underlying36 rfl (by rw [A.arrV_size, XL.out]; exact sz36) (fun W hW => hW.a6)) H1_.out ?_
  try simp only [Act.put, List.getElem_toArray, List.getElem_cons_succ, List.getElem_cons_zero, List.setIfInBounds_toArray, List.set_cons_zero, List.set_cons_succ]
  refine wpAnyH_take (i := 23) (v := .pointer (some ⟨b3, 4, none⟩)) rfl (by kernel_rfl) (by kernel_rfl) (by kernel_rfl) (fun _ _ _ h => h) (Or.inl ⟨by rfl, fun W hW => by clear hW; go_simp⟩) H1_.out ?_
  try simp only [Act.put, List.getElem_toArray, List.getElem_cons_succ, List.getElem_cons_zero, List.setIfInBounds_toArray, List.set_cons_zero, List.set_cons_succ]
  refine wpAnyH_take (i := 24) (v := .agg (arrV c.xs)) rfl (by kernel_rfl) (by kernel_rfl) (by kernel_rfl) (fun _ _ _ h => h) (yields_mid36 _ rfl (by rfl) rfl CL.out (fun W hW => hW.r4)) H1_.out ?_
  try simp only [Act.put, List.getElem_toArray, List.getElem_cons_succ, List.getElem_cons_zero, List.setIfInBounds_toArray, List.set_cons_zero, List.set_cons_succ]
  refine wpAnyH_ready (rs := [14]) (by kernel_rfl) (by simp) ?_
  refine AllReadyH.cons rfl (fun K hK => ?_) AllReadyH.nil
  go_simp
  go_at_call 9
  refine (NW.out _ _ _ (St.nil _)).mono ?_
  rintro e V2_ ⟨g2, gc2, rfl, hp2⟩
  have H2_ := Lib.hid (H1_.out.call hp2.rest.bel)
  have HP2 := Lib.hid hp2.has
  clear hp2
  refine hK.out _ _ H2_.out (fun _ => ?_)
  clear hK K
  try simp only [Act.put, List.getElem_toArray, List.getElem_cons_succ, List.getElem_cons_zero, List.setIfInBounds_toArray, List.set_cons_zero, List.set_cons_succ]
  refine wpAnyH_ready (rs := [22]) (by kernel_rfl) (by simp) ?_
  refine AllReadyH.cons rfl (fun K hK => ?_) AllReadyH.nil
  go_simp
  go_at_call 11
  refine (OP.out _ _ _ HP2.out).mono ?_
  rintro e V3_ ⟨rfl, hb3_⟩
  have H3_ := Lib.hid (H2_.out.call hb3_)
  clear hb3_
  refine hK.out _ _ H3_.out (fun _ => ?_)
  clear hK K
  try simp only [Act.put, List.getElem_toArray, List.getElem_cons_succ, List.getElem_cons_zero, List.setIfInBounds_toArray, List.set_cons_zero, List.set_cons_succ]
  refine wpAnyH_take (i := 25) (v := .bool true) rfl (by kernel_rfl) (by kernel_rfl) (by kernel_rfl) (fun _ _ _ h => h) (Or.inl ⟨by rfl, fun W hW => by clear hW; go_simp⟩) H3_.out ?_
  try simp only [Act.put, List.getElem_toArray, List.getElem_cons_succ, List.getElem_cons_zero, List.setIfInBounds_toArray, List.set_cons_zero, List.set_cons_succ]
  refine wpAnyH_take (i := 26) (v := .bool true) rfl (by kernel_rfl) (by kernel_rfl) (by kernel_rfl) (fun _ _ _ h => h) (Or.inl ⟨by rfl, fun W hW => by clear hW; go_simp⟩) H3_.out ?_
  try simp only [Act.put, List.getElem_toArray, List.getElem_cons_succ, List.getElem_cons_zero, List.setIfInBounds_toArray, List.set_cons_zero, List.set_cons_succ]
  refine wpAnyH_take (i := 27) (v := .bool true) rfl (by kernel_rfl) (by kernel_rfl) (by kernel_rfl) (fun _ _ _ h => h) (Or.inl ⟨by rfl, fun W hW => by clear hW; go_simp⟩) H3_.out ?_
  try simp only [Act.put, List.getElem_toArray, List.getElem_cons_succ, List.getElem_cons_zero, List.setIfInBounds_toArray, List.set_cons_zero, List.set_cons_succ]
  refine wpAnyH_done (by kernel_rfl) ?_ _
  go_wp2
  go_ret
  exact ⟨rfl, H3_.out.pp.rest.bel⟩
end Go.Proofs.Ytfbgpfiodgibbaa
