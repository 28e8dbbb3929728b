/- For every input the law PadSeeds returns true. No condition. -/
import Derived.Test.YtfbgpfiodgibbaaUnlikeWalk
import Derived.Test.YtfbgpfiodgibbaaPRef2
namespace Go.Proofs.Ytfbgpfiodgibbaa
open Go.RowKit
open A (arrV vals)
set_option linter.unusedVariables false
set_option linter.unusedSimpArgs false
attribute [local irreducible] A.arrV crs cr1 Cl.arr

/-- What the law works on. -/
structure LQ (w : World) (g gc : Nat) (key : List Nat) (b3 b4 b5 : Nat) (sa sbb : Array Value) (W : World) : Prop where
  pp : PP w W g gc key [] [(b3, C 23 (arrV key)), (b4, C 42 sa), (b5, C 42 sbb)]
section
variable {w W W' : World} {g gc b3 b4 b5 : Nat} {key : List Nat} {sa sbb : Array Value}
theorem LQ.call (h : LQ w g gc key b3 b4 b5 sa sbb W) (hb : Below W.heap.size W W') : LQ w g gc key b3 b4 b5 sa sbb W' := ⟨h.pp.call hb⟩
theorem LQ.drew (h : LQ w g gc key b3 b4 b5 sa sbb W) : LQ w g gc key b3 b4 b5 sa sbb W.drew := ⟨h.pp.drew⟩
theorem LQ.a3 (h : LQ w g gc key b3 b4 b5 sa sbb W) : At W b3 23 (arrV key) := h.pp.rest.get 0 rfl
theorem LQ.a4 (h : LQ w g gc key b3 b4 b5 sa sbb W) : At W b4 42 sa := h.pp.rest.get 1 rfl
theorem LQ.a5 (h : LQ w g gc key b3 b4 b5 sa sbb W) : At W b5 42 sbb := h.pp.rest.get 2 rfl
end
theorem u8w (n : Int) : IntKind.u8.wrap n = n % 256 := by simp [IntKind.wrap, IntKind.bits, IntKind.signed]
set_option maxRecDepth 100000 in
set_option maxHeartbeats 8000000 in
theorem seedsLaw_any (key : List Nat) (hk : IsKey key) (a b : Sd) (ha : a.Ok) (hb : b.Ok) (w : World) : Calls Try.prog 5 #[.agg (arrV key), .agg a.arr, .agg b.arr] w fun e w' => e = .returned (.bool true) ∧ Below w.heap.size w w' := by
  have h0 := St.nil w
  have SP := Lib.hid (fun W => speaks_any W)
  have NW := Lib.hid (fun w W L (h : St w W L) => new_any h key hk)
  have BY1 := Lib.hid (fun W => bytes_any a ha W)
  have BY2 := Lib.hid (fun W => bytes_any b hb W)
  have RB1 := Lib.hid (fun W => refBytes_any a ha W)
  have PD1 := Lib.hid (fun W g gc hp => pad_any g gc key hk a ha W hp)
  have PD2 := Lib.hid (fun W g gc hp => pad_any g gc key hk b hb W hp)
  have OF := Lib.hid (fun W => refKey_any key hk W)
  have RE1 := Lib.hid (fun W gt c gb cb h => refEnc_any key hk a gt c gb cb W h)
  have KL := Lib.hid hk.len
  have q1 : ∀ W, (binOp .neq 23 (.agg (arrV (sb a))) (.agg (arrV (sb a)))).run Try.prog W = .ok (.bool false) W := fun W => by rw [neq_block _ _ (sb_length a) (sb_length a) (sb_lt a) (sb_lt a)]; simp
  have q2 : ∀ W, (binOp .neq 23 (.agg (arrV (padN key a))) (.agg (arrV (padN key a)))).run Try.prog W = .ok (.bool false) W := fun W => by rw [neq_block _ _ (padN_ok hk a).1 (padN_ok hk a).1 (padN_ok hk a).2 (padN_ok hk a).2]; simp
  have EB : Hid (∀ W, (binOp .eql 23 (.agg (arrV (sb a))) (.agg (arrV (sb b)))).run Try.prog W = .ok (.bool (oneS a b)) W) := Lib.hid (fun W => by rw [eql_block _ _ (sb_length a) (sb_length b) (sb_lt a) (sb_lt b), sb_iff ha hb])
  have EP : Hid (∀ W, (binOp .eql 23 (.agg (arrV (padN key a))) (.agg (arrV (padN key b)))).run Try.prog W = .ok (.bool (oneS a b)) W) := Lib.hid (fun W => by
    rw [eql_block _ _ (padN_ok hk a).1 (padN_ok hk b).1 (padN_ok hk a).2 (padN_ok hk b).2, ← sb_iff ha hb]
    congr 2
    rw [Bool.eq_iff_iff]
    simp [pad_iff hk])
  have sa4 := Lib.hid (show a.arr.size = 4 from rfl)
  have sb4 := Lib.hid (show b.arr.size = 4 from rfl)
  have CA := Lib.hid (fun (V : World) (x : Nat) (h : At V x 42 a.arr) => show V.cell? ⟨x, 0, none⟩ = some (.int .i64 a.l) ∧ V.cell? ⟨x, 1, none⟩ = some (.int .u64 (a.M : Int)) ∧ V.cell? ⟨x, 2, none⟩ = some (.int .i64 a.m) ∧ V.cell? ⟨x, 3, none⟩ = some (.int .i64 a.b) from ⟨h.cell 0, h.cell 1, h.cell 2, h.cell 3⟩)
  have CB := Lib.hid (fun (V : World) (x : Nat) (h : At V x 42 b.arr) => show V.cell? ⟨x, 0, none⟩ = some (.int .i64 b.l) ∧ V.cell? ⟨x, 1, none⟩ = some (.int .u64 (b.M : Int)) ∧ V.cell? ⟨x, 2, none⟩ = some (.int .i64 b.m) ∧ V.cell? ⟨x, 3, none⟩ = some (.int .i64 b.b) from ⟨h.cell 0, h.cell 1, h.cell 2, h.cell 3⟩)
  generalize sb a = Ba at *
  generalize sb b = Bb at *
  generalize padN key a = Pa at *
  generalize padN key b = Pb at *
  generalize a.arr = sa at *
  generalize b.arr = sbb at *
  clear hk ha hb
  have hcs : (¬ a.l % 4294967296 = b.l % 4294967296) ∨ (a.l % 4294967296 = b.l % 4294967296 ∧ ¬ a.M = b.M) ∨ (a.l % 4294967296 = b.l % 4294967296 ∧ a.M = b.M ∧ ¬ a.m % 65536 = b.m % 65536) ∨ (a.l % 4294967296 = b.l % 4294967296 ∧ a.M = b.M ∧ a.m % 65536 = b.m % 65536 ∧ ¬ a.b % 256 = b.b % 256) ∨ (a.l % 4294967296 = b.l % 4294967296 ∧ a.M = b.M ∧ a.m % 65536 = b.m % 65536 ∧ a.b % 256 = b.b % 256) := by omega
  rcases hcs with e1 | ⟨e1, e2⟩ | ⟨e1, e2, e3⟩ | ⟨e1, e2, e3, e4⟩ | ⟨e1, e2, e3, e4⟩
  · skip
    have f1 : (IntKind.u32.wrap a.l == IntKind.u32.wrap b.l) = false := by rw [u32w, u32w]; simp [e1]
    have f1b : (a.l % 4294967296 == b.l % 4294967296) = false := by simp [e1]
    have OC : Hid (oneS a b = false) := Lib.hid (by unfold oneS; simp [*])
    have q3 : ∀ W, (binOp .eql 23 (.agg (arrV Ba)) (.agg (arrV Bb))).run Try.prog W = .ok (.bool false) W := fun W => by rw [EB.out W, OC.out]
    have q4 : ∀ W, (binOp .eql 23 (.agg (arrV Pa)) (.agg (arrV Pb))).run Try.prog W = .ok (.bool false) W := fun W => by rw [EP.out W, OC.out]
    clear EB EP OC
    go_enter Try.func5, Try.ntmps5
    go_wp2_with (first
      | (have _ := h0; refine wpList_box_st h0 23 _ rfl rfl (arrV key) rfl ?_; clear h0; intro W1 h1 _ _; generalize hb3 : w.heap.size = b3 at h1 ⊢; replace hb3 := Lib.hid hb3)
      | (have _ := h1; refine wpList_box_st h1 42 _ rfl rfl sa rfl ?_; clear h1; intro W2 h2 _ _; generalize W1.heap.size = b4 at *)
      | (have _ := h2; refine wpList_box_st h2 42 _ rfl rfl sbb rfl ?_; clear h2; intro W2b h2b _ _; generalize W2.heap.size = b5 at *)
      | (go_at_call 7; refine (SP.out _).mono ?_; rintro e W3 ⟨rfl, hb⟩; have h3 : St w W3 [(b3, C 23 (arrV key)), (b4, C 42 sa), (b5, C 42 sbb)] := h2b.call hb; clear hb h2b SP)
      | (have _ := h3; refine wpList_load_st h3 0 rfl 23 _ _ rfl rfl rfl Try.underlying23 rfl (by rw [A.arrV_size, KL.out]; exact sz23) ?_)
      | (go_at_call 9; have _ := h3; refine (NW.out _ _ _ h3).mono ?_; clear h3; rintro e W4 ⟨g, gc, rfl, h4⟩; obtain ⟨k0, k1, k2, k3⟩ := CA.out _ _ (h4.rest.get 1 rfl); obtain ⟨j0, j1, j2, j3⟩ := CB.out _ _ (h4.rest.get 2 rfl)))
    clear k0 k1 k2 k3 j0 j1 j2 j3
    have H0 := Lib.hid (show LQ w g gc key b3 b4 b5 sa sbb W4.drew from ⟨h4.drew⟩)
    clear h4
    refine wp_region_held_drew (S := fun W => LQ w g gc key b3 b4 b5 sa sbb W) (by kernel_rfl) H0.out (fun _ => ?_)
    generalize W4.drew = V0 at *
    refine wpAnyH_take (i := 0) (v := .agg sa) rfl (by kernel_rfl) (by kernel_rfl) (by kernel_rfl) (fun _ _ _ h => h) (yields_at 42 _ _ rfl (by rfl) rfl Try.underlying42 rfl (by rw [sa4.out]; exact sz42) (fun W hW => hW.a4)) H0.out ?_
    try simp only [Act.put, List.getElem_toArray, List.getElem_cons_succ, List.getElem_cons_zero, List.setIfInBounds_toArray, List.set_cons_zero, List.set_cons_succ]
    refine wpAnyH_take (i := 2) (v := .agg sa) rfl (by kernel_rfl) (by kernel_rfl) (by kernel_rfl) (fun _ _ _ h => h) (yields_at 42 _ _ rfl (by rfl) rfl Try.underlying42 rfl (by rw [sa4.out]; exact sz42) (fun W hW => hW.a4)) H0.out ?_
    try simp only [Act.put, List.getElem_toArray, List.getElem_cons_succ, List.getElem_cons_zero, List.setIfInBounds_toArray, List.set_cons_zero, List.set_cons_succ]
    refine wpAnyH_ready (rs := [1]) (by kernel_rfl) (by simp) ?_
    refine AllReadyH.cons rfl (fun K hK => ?_) AllReadyH.nil
    go_simp
    go_at_call 17
    refine (BY1.out _).mono ?_
    rintro e V1_ ⟨rfl, hb1_⟩
    have H1_ := Lib.hid (H0.out.call hb1_)
    clear hb1_
    refine hK.out _ _ H1_.out (fun _ => ?_)
    clear hK K
    try simp only [Act.put, List.getElem_toArray, List.getElem_cons_succ, List.getElem_cons_zero, List.setIfInBounds_toArray, List.set_cons_zero, List.set_cons_succ]
    refine wpAnyH_ready (rs := [3]) (by kernel_rfl) (by simp) ?_
    refine AllReadyH.cons rfl (fun K hK => ?_) AllReadyH.nil
    go_simp
    go_at_call 18
    refine (RB1.out _).mono ?_
    rintro e V2_ ⟨rfl, hb2_⟩
    have H2_ := Lib.hid (H1_.out.call hb2_)
    clear hb2_
    refine hK.out _ _ H2_.out (fun _ => ?_)
    clear hK K
    try simp only [Act.put, List.getElem_toArray, List.getElem_cons_succ, List.getElem_cons_zero, List.setIfInBounds_toArray, List.set_cons_zero, List.set_cons_succ]
    refine wpAnyH_take (i := 4) (v := .bool false) rfl (by kernel_rfl) (by kernel_rfl) (by kernel_rfl) (fun _ _ _ h => h) (Or.inl ⟨by rfl, fun W hW => by clear hW; go_simp⟩) H2_.out ?_
    try simp only [Act.put, List.getElem_toArray, List.getElem_cons_succ, List.getElem_cons_zero, List.setIfInBounds_toArray, List.set_cons_zero, List.set_cons_succ]
    refine wpAnyH_take (i := 5) (v := .bool false) rfl (by kernel_rfl) (by kernel_rfl) (by kernel_rfl) (fun _ _ _ h => h) (Or.inl ⟨by rfl, fun W hW => by clear hW; go_simp⟩) H2_.out ?_
    try simp only [Act.put, List.getElem_toArray, List.getElem_cons_succ, List.getElem_cons_zero, List.setIfInBounds_toArray, List.set_cons_zero, List.set_cons_succ]
    refine wpAnyH_take (i := 6) (v := .pointer (some ⟨g, 0, none⟩)) rfl (by kernel_rfl) (by kernel_rfl) (by kernel_rfl) (fun _ _ _ h => h) (Or.inl ⟨by rfl, fun W hW => by clear hW; go_simp⟩) H2_.out ?_
    try simp only [Act.put, List.getElem_toArray, List.getElem_cons_succ, List.getElem_cons_zero, List.setIfInBounds_toArray, List.set_cons_zero, List.set_cons_succ]
    refine wpAnyH_take (i := 7) (v := .agg sa) rfl (by kernel_rfl) (by kernel_rfl) (by kernel_rfl) (fun _ _ _ h => h) (yields_at 42 _ _ rfl (by rfl) rfl Try.underlying42 rfl (by rw [sa4.out]; exact sz42) (fun W hW => hW.a4)) H2_.out ?_
    try simp only [Act.put, List.getElem_toArray, List.getElem_cons_succ, List.getElem_cons_zero, List.setIfInBounds_toArray, List.set_cons_zero, List.set_cons_succ]
    refine wpAnyH_take (i := 9) (v := .agg (arrV key)) rfl (by kernel_rfl) (by kernel_rfl) (by kernel_rfl) (fun _ _ _ h => h) (yields_at 23 _ _ rfl (by rfl) rfl Try.underlying23 rfl (by rw [A.arrV_size, KL.out]; exact sz23) (fun W hW => hW.a3)) H2_.out ?_
    try simp only [Act.put, List.getElem_toArray, List.getElem_cons_succ, List.getElem_cons_zero, List.setIfInBounds_toArray, List.set_cons_zero, List.set_cons_succ]
    refine wpAnyH_take (i := 11) (v := .agg sa) rfl (by kernel_rfl) (by kernel_rfl) (by kernel_rfl) (fun _ _ _ h => h) (yields_at 42 _ _ rfl (by rfl) rfl Try.underlying42 rfl (by rw [sa4.out]; exact sz42) (fun W hW => hW.a4)) H2_.out ?_
    try simp only [Act.put, List.getElem_toArray, List.getElem_cons_succ, List.getElem_cons_zero, List.setIfInBounds_toArray, List.set_cons_zero, List.set_cons_succ]
    refine wpAnyH_ready (rs := [8]) (by kernel_rfl) (by simp) ?_
    refine AllReadyH.cons rfl (fun K hK => ?_) AllReadyH.nil
    go_simp
    go_at_call 19
    refine (PD1.out _ _ _ H2_.out.pp.has).mono ?_
    rintro e V3_ ⟨rfl, hb3_⟩
    have H3_ := Lib.hid (H2_.out.call hb3_)
    clear hb3_
    refine hK.out _ _ H3_.out (fun _ => ?_)
    clear hK K
    try simp only [Act.put, List.getElem_toArray, List.getElem_cons_succ, List.getElem_cons_zero, List.setIfInBounds_toArray, List.set_cons_zero, List.set_cons_succ]
    refine wpAnyH_ready (rs := [10]) (by kernel_rfl) (by simp) ?_
    refine AllReadyH.cons rfl (fun K hK => ?_) AllReadyH.nil
    go_simp
    go_at_call 8
    refine (OF.out _).mono ?_
    rintro e V4_ ⟨gt, c9, gb, cb, rfl, rk, hb4_⟩
    have H4_ := Lib.hid (H3_.out.call hb4_)
    have RK4 := Lib.hid rk
    clear hb4_ rk
    refine hK.out _ _ H4_.out (fun _ => ?_)
    clear hK K
    try simp only [Act.put, List.getElem_toArray, List.getElem_cons_succ, List.getElem_cons_zero, List.setIfInBounds_toArray, List.set_cons_zero, List.set_cons_succ]
    refine wpAnyH_ready (rs := [12]) (by kernel_rfl) (by simp) ?_
    refine AllReadyH.cons rfl (fun K hK => ?_) AllReadyH.nil
    go_simp
    go_at_call 18
    refine (RB1.out _).mono ?_
    rintro e V5_ ⟨rfl, hb5_⟩
    have H5_ := Lib.hid (H4_.out.call hb5_)
    have RK5 := Lib.hid (RK4.out.call hb5_)
    clear hb5_
    refine hK.out _ _ H5_.out (fun _ => ?_)
    clear hK K
    try simp only [Act.put, List.getElem_toArray, List.getElem_cons_succ, List.getElem_cons_zero, List.setIfInBounds_toArray, List.set_cons_zero, List.set_cons_succ]
    refine wpAnyH_ready (rs := [13]) (by kernel_rfl) (by simp) ?_
    refine AllReadyH.cons rfl (fun K hK => ?_) AllReadyH.nil
    go_simp
    go_at_call 20
    refine (RE1.out _ _ _ _ _ RK5.out).mono ?_
    rintro e V6_ ⟨rfl, hb6_⟩
    have H6_ := Lib.hid (H5_.out.call hb6_)
    clear hb6_
    refine hK.out _ _ H6_.out (fun _ => ?_)
    clear hK K
    try simp only [Act.put, List.getElem_toArray, List.getElem_cons_succ, List.getElem_cons_zero, List.setIfInBounds_toArray, List.set_cons_zero, List.set_cons_succ]
    refine wpAnyH_take (i := 14) (v := .bool false) rfl (by kernel_rfl) (by kernel_rfl) (by kernel_rfl) (fun _ _ _ h => h) (Or.inl ⟨by rfl, fun W hW => by clear hW; go_simp⟩) H6_.out ?_
    try simp only [Act.put, List.getElem_toArray, List.getElem_cons_succ, List.getElem_cons_zero, List.setIfInBounds_toArray, List.set_cons_zero, List.set_cons_succ]
    refine wpAnyH_take (i := 15) (v := .bool false) rfl (by kernel_rfl) (by kernel_rfl) (by kernel_rfl) (fun _ _ _ h => h) (Or.inl ⟨by rfl, fun W hW => by clear hW; go_simp⟩) H6_.out ?_
    try simp only [Act.put, List.getElem_toArray, List.getElem_cons_succ, List.getElem_cons_zero, List.setIfInBounds_toArray, List.set_cons_zero, List.set_cons_succ]
    refine wpAnyH_done (by kernel_rfl) ?_ _
    go_wp2
    have HH := Lib.hid H6_.out.drew
    refine wp_region_held_drew (S := fun W => LQ w g gc key b3 b4 b5 sa sbb W) (by kernel_rfl) HH.out (fun _ => ?_)
    generalize V6_.drew = V1 at *
    refine wpAnyH_take (i := 0) (v := .agg sa) rfl (by kernel_rfl) (by kernel_rfl) (by kernel_rfl) (fun _ _ _ h => h) (yields_at 42 _ _ rfl (by rfl) rfl Try.underlying42 rfl (by rw [sa4.out]; exact sz42) (fun W hW => hW.a4)) HH.out ?_
    try simp only [Act.put, List.getElem_toArray, List.getElem_cons_succ, List.getElem_cons_zero, List.setIfInBounds_toArray, List.set_cons_zero, List.set_cons_succ]
    refine wpAnyH_take (i := 2) (v := .agg sbb) rfl (by kernel_rfl) (by kernel_rfl) (by kernel_rfl) (fun _ _ _ h => h) (yields_at 42 _ _ rfl (by rfl) rfl Try.underlying42 rfl (by rw [sb4.out]; exact sz42) (fun W hW => hW.a5)) HH.out ?_
    try simp only [Act.put, List.getElem_toArray, List.getElem_cons_succ, List.getElem_cons_zero, List.setIfInBounds_toArray, List.set_cons_zero, List.set_cons_succ]
    refine wpAnyH_take (i := 5) (v := .bool false) rfl (by kernel_rfl) (by kernel_rfl) (by kernel_rfl) (fun _ _ _ h => h) (Or.inl ⟨by rfl, fun W hW => by clear hW; go_simp⟩) HH.out ?_
    try simp only [Act.put, List.getElem_toArray, List.getElem_cons_succ, List.getElem_cons_zero, List.setIfInBounds_toArray, List.set_cons_zero, List.set_cons_succ]
    refine wpAnyH_ready (rs := [1]) (by kernel_rfl) (by simp) ?_
    refine AllReadyH.cons rfl (fun K hK => ?_) AllReadyH.nil
    go_simp
    go_at_call 17
    refine (BY1.out _).mono ?_
    rintro e X1_ ⟨rfl, hb1_⟩
    have G1_ := Lib.hid (HH.out.call hb1_)
    clear hb1_
    refine hK.out _ _ G1_.out (fun _ => ?_)
    clear hK K
    try simp only [Act.put, List.getElem_toArray, List.getElem_cons_succ, List.getElem_cons_zero, List.setIfInBounds_toArray, List.set_cons_zero, List.set_cons_succ]
    refine wpAnyH_ready (rs := [3]) (by kernel_rfl) (by simp) ?_
    refine AllReadyH.cons rfl (fun K hK => ?_) AllReadyH.nil
    go_simp
    go_at_call 17
    refine (BY2.out _).mono ?_
    rintro e X2_ ⟨rfl, hb2_⟩
    have G2_ := Lib.hid (G1_.out.call hb2_)
    clear hb2_
    refine hK.out _ _ G2_.out (fun _ => ?_)
    clear hK K
    try simp only [Act.put, List.getElem_toArray, List.getElem_cons_succ, List.getElem_cons_zero, List.setIfInBounds_toArray, List.set_cons_zero, List.set_cons_succ]
    refine wpAnyH_take (i := 4) (v := .bool false) rfl (by kernel_rfl) (by kernel_rfl) (by kernel_rfl) (fun _ _ _ h => h) (Or.inl ⟨by rfl, fun W hW => by clear hW; go_simp⟩) G2_.out ?_
    try simp only [Act.put, List.getElem_toArray, List.getElem_cons_succ, List.getElem_cons_zero, List.setIfInBounds_toArray, List.set_cons_zero, List.set_cons_succ]
    refine wpAnyH_take (i := 6) (v := .bool true) rfl (by kernel_rfl) (by kernel_rfl) (by kernel_rfl) (fun _ _ _ h => h) (Or.inl ⟨by rfl, fun W hW => by clear hW; go_simp⟩) G2_.out ?_
    try simp only [Act.put, List.getElem_toArray, List.getElem_cons_succ, List.getElem_cons_zero, List.setIfInBounds_toArray, List.set_cons_zero, List.set_cons_succ]
    refine wpAnyH_take (i := 7) (v := .bool true) rfl (by kernel_rfl) (by kernel_rfl) (by kernel_rfl) (fun _ _ _ h => h) (Or.inl ⟨by rfl, fun W hW => by clear hW; go_simp⟩) G2_.out ?_
    try simp only [Act.put, List.getElem_toArray, List.getElem_cons_succ, List.getElem_cons_zero, List.setIfInBounds_toArray, List.set_cons_zero, List.set_cons_succ]
    refine wpAnyH_take (i := 8) (v := .pointer (some ⟨g, 0, none⟩)) rfl (by kernel_rfl) (by kernel_rfl) (by kernel_rfl) (fun _ _ _ h => h) (Or.inl ⟨by rfl, fun W hW => by clear hW; go_simp⟩) G2_.out ?_
    try simp only [Act.put, List.getElem_toArray, List.getElem_cons_succ, List.getElem_cons_zero, List.setIfInBounds_toArray, List.set_cons_zero, List.set_cons_succ]
    refine wpAnyH_take (i := 9) (v := .agg sa) rfl (by kernel_rfl) (by kernel_rfl) (by kernel_rfl) (fun _ _ _ h => h) (yields_at 42 _ _ rfl (by rfl) rfl Try.underlying42 rfl (by rw [sa4.out]; exact sz42) (fun W hW => hW.a4)) G2_.out ?_
    try simp only [Act.put, List.getElem_toArray, List.getElem_cons_succ, List.getElem_cons_zero, List.setIfInBounds_toArray, List.set_cons_zero, List.set_cons_succ]
    refine wpAnyH_take (i := 11) (v := .pointer (some ⟨g, 0, none⟩)) rfl (by kernel_rfl) (by kernel_rfl) (by kernel_rfl) (fun _ _ _ h => h) (Or.inl ⟨by rfl, fun W hW => by clear hW; go_simp⟩) G2_.out ?_
    try simp only [Act.put, List.getElem_toArray, List.getElem_cons_succ, List.getElem_cons_zero, List.setIfInBounds_toArray, List.set_cons_zero, List.set_cons_succ]
    refine wpAnyH_take (i := 12) (v := .agg sbb) rfl (by kernel_rfl) (by kernel_rfl) (by kernel_rfl) (fun _ _ _ h => h) (yields_at 42 _ _ rfl (by rfl) rfl Try.underlying42 rfl (by rw [sb4.out]; exact sz42) (fun W hW => hW.a5)) G2_.out ?_
    try simp only [Act.put, List.getElem_toArray, List.getElem_cons_succ, List.getElem_cons_zero, List.setIfInBounds_toArray, List.set_cons_zero, List.set_cons_succ]
    refine wpAnyH_take (i := 15) (v := .bool false) rfl (by kernel_rfl) (by kernel_rfl) (by kernel_rfl) (fun _ _ _ h => h) (Or.inl ⟨by rfl, fun W hW => by clear hW; go_simp⟩) G2_.out ?_
    try simp only [Act.put, List.getElem_toArray, List.getElem_cons_succ, List.getElem_cons_zero, List.setIfInBounds_toArray, List.set_cons_zero, List.set_cons_succ]
    refine wpAnyH_ready (rs := [10]) (by kernel_rfl) (by simp) ?_
    refine AllReadyH.cons rfl (fun K hK => ?_) AllReadyH.nil
    go_simp
    go_at_call 19
    refine (PD1.out _ _ _ G2_.out.pp.has).mono ?_
    rintro e X3_ ⟨rfl, hb3_⟩
    have G3_ := Lib.hid (G2_.out.call hb3_)
    clear hb3_
    refine hK.out _ _ G3_.out (fun _ => ?_)
    clear hK K
    try simp only [Act.put, List.getElem_toArray, List.getElem_cons_succ, List.getElem_cons_zero, List.setIfInBounds_toArray, List.set_cons_zero, List.set_cons_succ]
    refine wpAnyH_ready (rs := [13]) (by kernel_rfl) (by simp) ?_
    refine AllReadyH.cons rfl (fun K hK => ?_) AllReadyH.nil
    go_simp
    go_at_call 19
    refine (PD2.out _ _ _ G3_.out.pp.has).mono ?_
    rintro e X4_ ⟨rfl, hb4_⟩
    have G4_ := Lib.hid (G3_.out.call hb4_)
    clear hb4_
    refine hK.out _ _ G4_.out (fun _ => ?_)
    clear hK K
    try simp only [Act.put, List.getElem_toArray, List.getElem_cons_succ, List.getElem_cons_zero, List.setIfInBounds_toArray, List.set_cons_zero, List.set_cons_succ]
    refine wpAnyH_take (i := 14) (v := .bool false) rfl (by kernel_rfl) (by kernel_rfl) (by kernel_rfl) (fun _ _ _ h => h) (Or.inl ⟨by rfl, fun W hW => by clear hW; go_simp⟩) G4_.out ?_
    try simp only [Act.put, List.getElem_toArray, List.getElem_cons_succ, List.getElem_cons_zero, List.setIfInBounds_toArray, List.set_cons_zero, List.set_cons_succ]
    refine wpAnyH_take (i := 16) (v := .bool true) rfl (by kernel_rfl) (by kernel_rfl) (by kernel_rfl) (fun _ _ _ h => h) (Or.inl ⟨by rfl, fun W hW => by clear hW; go_simp⟩) G4_.out ?_
    try simp only [Act.put, List.getElem_toArray, List.getElem_cons_succ, List.getElem_cons_zero, List.setIfInBounds_toArray, List.set_cons_zero, List.set_cons_succ]
    refine wpAnyH_take (i := 17) (v := .bool true) rfl (by kernel_rfl) (by kernel_rfl) (by kernel_rfl) (fun _ _ _ h => h) (Or.inl ⟨by rfl, fun W hW => by clear hW; go_simp⟩) G4_.out ?_
    try simp only [Act.put, List.getElem_toArray, List.getElem_cons_succ, List.getElem_cons_zero, List.setIfInBounds_toArray, List.set_cons_zero, List.set_cons_succ]
    refine wpAnyH_take (i := 18) (v := .bool true) rfl (by kernel_rfl) (by kernel_rfl) (by kernel_rfl) (fun _ _ _ h => h) (Or.inl ⟨by rfl, fun W hW => by clear hW; go_simp⟩) G4_.out ?_
    try simp only [Act.put, List.getElem_toArray, List.getElem_cons_succ, List.getElem_cons_zero, List.setIfInBounds_toArray, List.set_cons_zero, List.set_cons_succ]
    refine wpAnyH_done (by kernel_rfl) ?_ _
    go_wp2
    go_ret
    exact ⟨rfl, G4_.out.pp.rest.bel⟩
  · skip
    have f1 : (IntKind.u32.wrap a.l == IntKind.u32.wrap b.l) = true := by rw [u32w, u32w]; simp [e1]
    have f1b : (a.l % 4294967296 == b.l % 4294967296) = true := by simp [e1]
    have f2 : ((a.M : Int) == (b.M : Int)) = false := by first | (simp [e2]; done) | (rw [beq_eq_false_iff_ne]; omega)
    have OC : Hid (oneS a b = false) := Lib.hid (by unfold oneS; simp [*])
    have q3 : ∀ W, (binOp .eql 23 (.agg (arrV Ba)) (.agg (arrV Bb))).run Try.prog W = .ok (.bool false) W := fun W => by rw [EB.out W, OC.out]
    have q4 : ∀ W, (binOp .eql 23 (.agg (arrV Pa)) (.agg (arrV Pb))).run Try.prog W = .ok (.bool false) W := fun W => by rw [EP.out W, OC.out]
    clear EB EP OC
    go_enter Try.func5, Try.ntmps5
    go_wp2_with (first
      | (have _ := h0; refine wpList_box_st h0 23 _ rfl rfl (arrV key) rfl ?_; clear h0; intro W1 h1 _ _; generalize hb3 : w.heap.size = b3 at h1 ⊢; replace hb3 := Lib.hid hb3)
      | (have _ := h1; refine wpList_box_st h1 42 _ rfl rfl sa rfl ?_; clear h1; intro W2 h2 _ _; generalize W1.heap.size = b4 at *)
      | (have _ := h2; refine wpList_box_st h2 42 _ rfl rfl sbb rfl ?_; clear h2; intro W2b h2b _ _; generalize W2.heap.size = b5 at *)
      | (go_at_call 7; refine (SP.out _).mono ?_; rintro e W3 ⟨rfl, hb⟩; have h3 : St w W3 [(b3, C 23 (arrV key)), (b4, C 42 sa), (b5, C 42 sbb)] := h2b.call hb; clear hb h2b SP)
      | (have _ := h3; refine wpList_load_st h3 0 rfl 23 _ _ rfl rfl rfl Try.underlying23 rfl (by rw [A.arrV_size, KL.out]; exact sz23) ?_)
      | (go_at_call 9; have _ := h3; refine (NW.out _ _ _ h3).mono ?_; clear h3; rintro e W4 ⟨g, gc, rfl, h4⟩; obtain ⟨k0, k1, k2, k3⟩ := CA.out _ _ (h4.rest.get 1 rfl); obtain ⟨j0, j1, j2, j3⟩ := CB.out _ _ (h4.rest.get 2 rfl)))
    clear k0 k1 k2 k3 j0 j1 j2 j3
    have H0 := Lib.hid (show LQ w g gc key b3 b4 b5 sa sbb W4.drew from ⟨h4.drew⟩)
    clear h4
    refine wp_region_held_drew (S := fun W => LQ w g gc key b3 b4 b5 sa sbb W) (by kernel_rfl) H0.out (fun _ => ?_)
    generalize W4.drew = V0 at *
    refine wpAnyH_take (i := 0) (v := .agg sa) rfl (by kernel_rfl) (by kernel_rfl) (by kernel_rfl) (fun _ _ _ h => h) (yields_at 42 _ _ rfl (by rfl) rfl Try.underlying42 rfl (by rw [sa4.out]; exact sz42) (fun W hW => hW.a4)) H0.out ?_
    try simp only [Act.put, List.getElem_toArray, List.getElem_cons_succ, List.getElem_cons_zero, List.setIfInBounds_toArray, List.set_cons_zero, List.set_cons_succ]
    refine wpAnyH_take (i := 2) (v := .agg sa) rfl (by kernel_rfl) (by kernel_rfl) (by kernel_rfl) (fun _ _ _ h => h) (yields_at 42 _ _ rfl (by rfl) rfl Try.underlying42 rfl (by rw [sa4.out]; exact sz42) (fun W hW => hW.a4)) H0.out ?_
    try simp only [Act.put, List.getElem_toArray, List.getElem_cons_succ, List.getElem_cons_zero, List.setIfInBounds_toArray, List.set_cons_zero, List.set_cons_succ]
    refine wpAnyH_ready (rs := [1]) (by kernel_rfl) (by simp) ?_
    refine AllReadyH.cons rfl (fun K hK => ?_) AllReadyH.nil
    go_simp
    go_at_call 17
    refine (BY1.out _).mono ?_
    rintro e V1_ ⟨rfl, hb1_⟩
    have H1_ := Lib.hid (H0.out.call hb1_)
    clear hb1_
    refine hK.out _ _ H1_.out (fun _ => ?_)
    clear hK K
    try simp only [Act.put, List.getElem_toArray, List.getElem_cons_succ, List.getElem_cons_zero, List.setIfInBounds_toArray, List.set_cons_zero, List.set_cons_succ]
    refine wpAnyH_ready (rs := [3]) (by kernel_rfl) (by simp) ?_
    refine AllReadyH.cons rfl (fun K hK => ?_) AllReadyH.nil
    go_simp
    go_at_call 18
    refine (RB1.out _).mono ?_
    rintro e V2_ ⟨rfl, hb2_⟩
    have H2_ := Lib.hid (H1_.out.call hb2_)
    clear hb2_
    refine hK.out _ _ H2_.out (fun _ => ?_)
    clear hK K
    try simp only [Act.put, List.getElem_toArray, List.getElem_cons_succ, List.getElem_cons_zero, List.setIfInBounds_toArray, List.set_cons_zero, List.set_cons_succ]
    refine wpAnyH_take (i := 4) (v := .bool false) rfl (by kernel_rfl) (by kernel_rfl) (by kernel_rfl) (fun _ _ _ h => h) (Or.inl ⟨by rfl, fun W hW => by clear hW; go_simp⟩) H2_.out ?_
    try simp only [Act.put, List.getElem_toArray, List.getElem_cons_succ, List.getElem_cons_zero, List.setIfInBounds_toArray, List.set_cons_zero, List.set_cons_succ]
    refine wpAnyH_take (i := 5) (v := .bool false) rfl (by kernel_rfl) (by kernel_rfl) (by kernel_rfl) (fun _ _ _ h => h) (Or.inl ⟨by rfl, fun W hW => by clear hW; go_simp⟩) H2_.out ?_
    try simp only [Act.put, List.getElem_toArray, List.getElem_cons_succ, List.getElem_cons_zero, List.setIfInBounds_toArray, List.set_cons_zero, List.set_cons_succ]
    refine wpAnyH_take (i := 6) (v := .pointer (some ⟨g, 0, none⟩)) rfl (by kernel_rfl) (by kernel_rfl) (by kernel_rfl) (fun _ _ _ h => h) (Or.inl ⟨by rfl, fun W hW => by clear hW; go_simp⟩) H2_.out ?_
    try simp only [Act.put, List.getElem_toArray, List.getElem_cons_succ, List.getElem_cons_zero, List.setIfInBounds_toArray, List.set_cons_zero, List.set_cons_succ]
    refine wpAnyH_take (i := 7) (v := .agg sa) rfl (by kernel_rfl) (by kernel_rfl) (by kernel_rfl) (fun _ _ _ h => h) (yields_at 42 _ _ rfl (by rfl) rfl Try.underlying42 rfl (by rw [sa4.out]; exact sz42) (fun W hW => hW.a4)) H2_.out ?_
    try simp only [Act.put, List.getElem_toArray, List.getElem_cons_succ, List.getElem_cons_zero, List.setIfInBounds_toArray, List.set_cons_zero, List.set_cons_succ]
    refine wpAnyH_take (i := 9) (v := .agg (arrV key)) rfl (by kernel_rfl) (by kernel_rfl) (by kernel_rfl) (fun _ _ _ h => h) (yields_at 23 _ _ rfl (by rfl) rfl Try.underlying23 rfl (by rw [A.arrV_size, KL.out]; exact sz23) (fun W hW => hW.a3)) H2_.out ?_
    try simp only [Act.put, List.getElem_toArray, List.getElem_cons_succ, List.getElem_cons_zero, List.setIfInBounds_toArray, List.set_cons_zero, List.set_cons_succ]
    refine wpAnyH_take (i := 11) (v := .agg sa) rfl (by kernel_rfl) (by kernel_rfl) (by kernel_rfl) (fun _ _ _ h => h) (yields_at 42 _ _ rfl (by rfl) rfl Try.underlying42 rfl (by rw [sa4.out]; exact sz42) (fun W hW => hW.a4)) H2_.out ?_
    try simp only [Act.put, List.getElem_toArray, List.getElem_cons_succ, List.getElem_cons_zero, List.setIfInBounds_toArray, List.set_cons_zero, List.set_cons_succ]
    refine wpAnyH_ready (rs := [8]) (by kernel_rfl) (by simp) ?_
    refine AllReadyH.cons rfl (fun K hK => ?_) AllReadyH.nil
    go_simp
    go_at_call 19
    refine (PD1.out _ _ _ H2_.out.pp.has).mono ?_
    rintro e V3_ ⟨rfl, hb3_⟩
    have H3_ := Lib.hid (H2_.out.call hb3_)
    clear hb3_
    refine hK.out _ _ H3_.out (fun _ => ?_)
    clear hK K
    try simp only [Act.put, List.getElem_toArray, List.getElem_cons_succ, List.getElem_cons_zero, List.setIfInBounds_toArray, List.set_cons_zero, List.set_cons_succ]
    refine wpAnyH_ready (rs := [10]) (by kernel_rfl) (by simp) ?_
    refine AllReadyH.cons rfl (fun K hK => ?_) AllReadyH.nil
    go_simp
    go_at_call 8
    refine (OF.out _).mono ?_
    rintro e V4_ ⟨gt, c9, gb, cb, rfl, rk, hb4_⟩
    have H4_ := Lib.hid (H3_.out.call hb4_)
    have RK4 := Lib.hid rk
    clear hb4_ rk
    refine hK.out _ _ H4_.out (fun _ => ?_)
    clear hK K
    try simp only [Act.put, List.getElem_toArray, List.getElem_cons_succ, List.getElem_cons_zero, List.setIfInBounds_toArray, List.set_cons_zero, List.set_cons_succ]
    refine wpAnyH_ready (rs := [12]) (by kernel_rfl) (by simp) ?_
    refine AllReadyH.cons rfl (fun K hK => ?_) AllReadyH.nil
    go_simp
    go_at_call 18
    refine (RB1.out _).mono ?_
    rintro e V5_ ⟨rfl, hb5_⟩
    have H5_ := Lib.hid (H4_.out.call hb5_)
    have RK5 := Lib.hid (RK4.out.call hb5_)
    clear hb5_
    refine hK.out _ _ H5_.out (fun _ => ?_)
    clear hK K
    try simp only [Act.put, List.getElem_toArray, List.getElem_cons_succ, List.getElem_cons_zero, List.setIfInBounds_toArray, List.set_cons_zero, List.set_cons_succ]
    refine wpAnyH_ready (rs := [13]) (by kernel_rfl) (by simp) ?_
    refine AllReadyH.cons rfl (fun K hK => ?_) AllReadyH.nil
    go_simp
    go_at_call 20
    refine (RE1.out _ _ _ _ _ RK5.out).mono ?_
    rintro e V6_ ⟨rfl, hb6_⟩
    have H6_ := Lib.hid (H5_.out.call hb6_)
    clear hb6_
    refine hK.out _ _ H6_.out (fun _ => ?_)
    clear hK K
    try simp only [Act.put, List.getElem_toArray, List.getElem_cons_succ, List.getElem_cons_zero, List.setIfInBounds_toArray, List.set_cons_zero, List.set_cons_succ]
    refine wpAnyH_take (i := 14) (v := .bool false) rfl (by kernel_rfl) (by kernel_rfl) (by kernel_rfl) (fun _ _ _ h => h) (Or.inl ⟨by rfl, fun W hW => by clear hW; go_simp⟩) H6_.out ?_
    try simp only [Act.put, List.getElem_toArray, List.getElem_cons_succ, List.getElem_cons_zero, List.setIfInBounds_toArray, List.set_cons_zero, List.set_cons_succ]
    refine wpAnyH_take (i := 15) (v := .bool false) rfl (by kernel_rfl) (by kernel_rfl) (by kernel_rfl) (fun _ _ _ h => h) (Or.inl ⟨by rfl, fun W hW => by clear hW; go_simp⟩) H6_.out ?_
    try simp only [Act.put, List.getElem_toArray, List.getElem_cons_succ, List.getElem_cons_zero, List.setIfInBounds_toArray, List.set_cons_zero, List.set_cons_succ]
    refine wpAnyH_done (by kernel_rfl) ?_ _
    go_wp2
    have HH := Lib.hid H6_.out.drew
    refine wp_region_held_drew (S := fun W => LQ w g gc key b3 b4 b5 sa sbb W) (by kernel_rfl) HH.out (fun _ => ?_)
    generalize V6_.drew = V1 at *
    refine wpAnyH_take (i := 0) (v := .agg sa) rfl (by kernel_rfl) (by kernel_rfl) (by kernel_rfl) (fun _ _ _ h => h) (yields_at 42 _ _ rfl (by rfl) rfl Try.underlying42 rfl (by rw [sa4.out]; exact sz42) (fun W hW => hW.a4)) HH.out ?_
    try simp only [Act.put, List.getElem_toArray, List.getElem_cons_succ, List.getElem_cons_zero, List.setIfInBounds_toArray, List.set_cons_zero, List.set_cons_succ]
    refine wpAnyH_take (i := 2) (v := .agg sbb) rfl (by kernel_rfl) (by kernel_rfl) (by kernel_rfl) (fun _ _ _ h => h) (yields_at 42 _ _ rfl (by rfl) rfl Try.underlying42 rfl (by rw [sb4.out]; exact sz42) (fun W hW => hW.a5)) HH.out ?_
    try simp only [Act.put, List.getElem_toArray, List.getElem_cons_succ, List.getElem_cons_zero, List.setIfInBounds_toArray, List.set_cons_zero, List.set_cons_succ]
    refine wpAnyH_take (i := 5) (v := .bool false) rfl (by kernel_rfl) (by kernel_rfl) (by kernel_rfl) (fun _ _ _ h => h) (Or.inl ⟨by rfl, fun W hW => by clear hW; go_simp⟩) HH.out ?_
    try simp only [Act.put, List.getElem_toArray, List.getElem_cons_succ, List.getElem_cons_zero, List.setIfInBounds_toArray, List.set_cons_zero, List.set_cons_succ]
    refine wpAnyH_ready (rs := [1]) (by kernel_rfl) (by simp) ?_
    refine AllReadyH.cons rfl (fun K hK => ?_) AllReadyH.nil
    go_simp
    go_at_call 17
    refine (BY1.out _).mono ?_
    rintro e X1_ ⟨rfl, hb1_⟩
    have G1_ := Lib.hid (HH.out.call hb1_)
    clear hb1_
    refine hK.out _ _ G1_.out (fun _ => ?_)
    clear hK K
    try simp only [Act.put, List.getElem_toArray, List.getElem_cons_succ, List.getElem_cons_zero, List.setIfInBounds_toArray, List.set_cons_zero, List.set_cons_succ]
    refine wpAnyH_ready (rs := [3]) (by kernel_rfl) (by simp) ?_
    refine AllReadyH.cons rfl (fun K hK => ?_) AllReadyH.nil
    go_simp
    go_at_call 17
    refine (BY2.out _).mono ?_
    rintro e X2_ ⟨rfl, hb2_⟩
    have G2_ := Lib.hid (G1_.out.call hb2_)
    clear hb2_
    refine hK.out _ _ G2_.out (fun _ => ?_)
    clear hK K
    try simp only [Act.put, List.getElem_toArray, List.getElem_cons_succ, List.getElem_cons_zero, List.setIfInBounds_toArray, List.set_cons_zero, List.set_cons_succ]
    refine wpAnyH_take (i := 4) (v := .bool false) rfl (by kernel_rfl) (by kernel_rfl) (by kernel_rfl) (fun _ _ _ h => h) (Or.inl ⟨by rfl, fun W hW => by clear hW; go_simp⟩) G2_.out ?_
    try simp only [Act.put, List.getElem_toArray, List.getElem_cons_succ, List.getElem_cons_zero, List.setIfInBounds_toArray, List.set_cons_zero, List.set_cons_succ]
    refine wpAnyH_take (i := 6) (v := .bool true) rfl (by kernel_rfl) (by kernel_rfl) (by kernel_rfl) (fun _ _ _ h => h) (Or.inl ⟨by rfl, fun W hW => by clear hW; go_simp⟩) G2_.out ?_
    try simp only [Act.put, List.getElem_toArray, List.getElem_cons_succ, List.getElem_cons_zero, List.setIfInBounds_toArray, List.set_cons_zero, List.set_cons_succ]
    refine wpAnyH_take (i := 7) (v := .bool true) rfl (by kernel_rfl) (by kernel_rfl) (by kernel_rfl) (fun _ _ _ h => h) (Or.inl ⟨by rfl, fun W hW => by clear hW; go_simp⟩) G2_.out ?_
    try simp only [Act.put, List.getElem_toArray, List.getElem_cons_succ, List.getElem_cons_zero, List.setIfInBounds_toArray, List.set_cons_zero, List.set_cons_succ]
    refine wpAnyH_take (i := 8) (v := .pointer (some ⟨g, 0, none⟩)) rfl (by kernel_rfl) (by kernel_rfl) (by kernel_rfl) (fun _ _ _ h => h) (Or.inl ⟨by rfl, fun W hW => by clear hW; go_simp⟩) G2_.out ?_
    try simp only [Act.put, List.getElem_toArray, List.getElem_cons_succ, List.getElem_cons_zero, List.setIfInBounds_toArray, List.set_cons_zero, List.set_cons_succ]
    refine wpAnyH_take (i := 9) (v := .agg sa) rfl (by kernel_rfl) (by kernel_rfl) (by kernel_rfl) (fun _ _ _ h => h) (yields_at 42 _ _ rfl (by rfl) rfl Try.underlying42 rfl (by rw [sa4.out]; exact sz42) (fun W hW => hW.a4)) G2_.out ?_
    try simp only [Act.put, List.getElem_toArray, List.getElem_cons_succ, List.getElem_cons_zero, List.setIfInBounds_toArray, List.set_cons_zero, List.set_cons_succ]
    refine wpAnyH_take (i := 11) (v := .pointer (some ⟨g, 0, none⟩)) rfl (by kernel_rfl) (by kernel_rfl) (by kernel_rfl) (fun _ _ _ h => h) (Or.inl ⟨by rfl, fun W hW => by clear hW; go_simp⟩) G2_.out ?_
    try simp only [Act.put, List.getElem_toArray, List.getElem_cons_succ, List.getElem_cons_zero, List.setIfInBounds_toArray, List.set_cons_zero, List.set_cons_succ]
    refine wpAnyH_take (i := 12) (v := .agg sbb) rfl (by kernel_rfl) (by kernel_rfl) (by kernel_rfl) (fun _ _ _ h => h) (yields_at 42 _ _ rfl (by rfl) rfl Try.underlying42 rfl (by rw [sb4.out]; exact sz42) (fun W hW => hW.a5)) G2_.out ?_
    try simp only [Act.put, List.getElem_toArray, List.getElem_cons_succ, List.getElem_cons_zero, List.setIfInBounds_toArray, List.set_cons_zero, List.set_cons_succ]
    refine wpAnyH_take (i := 15) (v := .bool false) rfl (by kernel_rfl) (by kernel_rfl) (by kernel_rfl) (fun _ _ _ h => h) (Or.inl ⟨by rfl, fun W hW => by clear hW; go_simp⟩) G2_.out ?_
    try simp only [Act.put, List.getElem_toArray, List.getElem_cons_succ, List.getElem_cons_zero, List.setIfInBounds_toArray, List.set_cons_zero, List.set_cons_succ]
    refine wpAnyH_ready (rs := [10]) (by kernel_rfl) (by simp) ?_
    refine AllReadyH.cons rfl (fun K hK => ?_) AllReadyH.nil
    go_simp
    go_at_call 19
    refine (PD1.out _ _ _ G2_.out.pp.has).mono ?_
    rintro e X3_ ⟨rfl, hb3_⟩
    have G3_ := Lib.hid (G2_.out.call hb3_)
    clear hb3_
    refine hK.out _ _ G3_.out (fun _ => ?_)
    clear hK K
    try simp only [Act.put, List.getElem_toArray, List.getElem_cons_succ, List.getElem_cons_zero, List.setIfInBounds_toArray, List.set_cons_zero, List.set_cons_succ]
    refine wpAnyH_ready (rs := [13]) (by kernel_rfl) (by simp) ?_
    refine AllReadyH.cons rfl (fun K hK => ?_) AllReadyH.nil
    go_simp
    go_at_call 19
    refine (PD2.out _ _ _ G3_.out.pp.has).mono ?_
    rintro e X4_ ⟨rfl, hb4_⟩
    have G4_ := Lib.hid (G3_.out.call hb4_)
    clear hb4_
    refine hK.out _ _ G4_.out (fun _ => ?_)
    clear hK K
    try simp only [Act.put, List.getElem_toArray, List.getElem_cons_succ, List.getElem_cons_zero, List.setIfInBounds_toArray, List.set_cons_zero, List.set_cons_succ]
    refine wpAnyH_take (i := 14) (v := .bool false) rfl (by kernel_rfl) (by kernel_rfl) (by kernel_rfl) (fun _ _ _ h => h) (Or.inl ⟨by rfl, fun W hW => by clear hW; go_simp⟩) G4_.out ?_
    try simp only [Act.put, List.getElem_toArray, List.getElem_cons_succ, List.getElem_cons_zero, List.setIfInBounds_toArray, List.set_cons_zero, List.set_cons_succ]
    refine wpAnyH_take (i := 16) (v := .bool true) rfl (by kernel_rfl) (by kernel_rfl) (by kernel_rfl) (fun _ _ _ h => h) (Or.inl ⟨by rfl, fun W hW => by clear hW; go_simp⟩) G4_.out ?_
    try simp only [Act.put, List.getElem_toArray, List.getElem_cons_succ, List.getElem_cons_zero, List.setIfInBounds_toArray, List.set_cons_zero, List.set_cons_succ]
    refine wpAnyH_take (i := 17) (v := .bool true) rfl (by kernel_rfl) (by kernel_rfl) (by kernel_rfl) (fun _ _ _ h => h) (Or.inl ⟨by rfl, fun W hW => by clear hW; go_simp⟩) G4_.out ?_
    try simp only [Act.put, List.getElem_toArray, List.getElem_cons_succ, List.getElem_cons_zero, List.setIfInBounds_toArray, List.set_cons_zero, List.set_cons_succ]
    refine wpAnyH_take (i := 18) (v := .bool true) rfl (by kernel_rfl) (by kernel_rfl) (by kernel_rfl) (fun _ _ _ h => h) (Or.inl ⟨by rfl, fun W hW => by clear hW; go_simp⟩) G4_.out ?_
    try simp only [Act.put, List.getElem_toArray, List.getElem_cons_succ, List.getElem_cons_zero, List.setIfInBounds_toArray, List.set_cons_zero, List.set_cons_succ]
    refine wpAnyH_done (by kernel_rfl) ?_ _
    go_wp2
    go_ret
    exact ⟨rfl, G4_.out.pp.rest.bel⟩
  · skip
    have f1 : (IntKind.u32.wrap a.l == IntKind.u32.wrap b.l) = true := by rw [u32w, u32w]; simp [e1]
    have f1b : (a.l % 4294967296 == b.l % 4294967296) = true := by simp [e1]
    have f2 : ((a.M : Int) == (b.M : Int)) = true := by first | (simp [e2]; done) | (rw [beq_eq_false_iff_ne]; omega)
    have f3 : (IntKind.u16.wrap a.m == IntKind.u16.wrap b.m) = false := by rw [u16w, u16w]; simp [e3]
    have f3b : (a.m % 65536 == b.m % 65536) = false := by simp [e3]
    have OC : Hid (oneS a b = false) := Lib.hid (by unfold oneS; simp [*])
    have q3 : ∀ W, (binOp .eql 23 (.agg (arrV Ba)) (.agg (arrV Bb))).run Try.prog W = .ok (.bool false) W := fun W => by rw [EB.out W, OC.out]
    have q4 : ∀ W, (binOp .eql 23 (.agg (arrV Pa)) (.agg (arrV Pb))).run Try.prog W = .ok (.bool false) W := fun W => by rw [EP.out W, OC.out]
    clear EB EP OC
    go_enter Try.func5, Try.ntmps5
    go_wp2_with (first
      | (have _ := h0; refine wpList_box_st h0 23 _ rfl rfl (arrV key) rfl ?_; clear h0; intro W1 h1 _ _; generalize hb3 : w.heap.size = b3 at h1 ⊢; replace hb3 := Lib.hid hb3)
      | (have _ := h1; refine wpList_box_st h1 42 _ rfl rfl sa rfl ?_; clear h1; intro W2 h2 _ _; generalize W1.heap.size = b4 at *)
      | (have _ := h2; refine wpList_box_st h2 42 _ rfl rfl sbb rfl ?_; clear h2; intro W2b h2b _ _; generalize W2.heap.size = b5 at *)
      | (go_at_call 7; refine (SP.out _).mono ?_; rintro e W3 ⟨rfl, hb⟩; have h3 : St w W3 [(b3, C 23 (arrV key)), (b4, C 42 sa), (b5, C 42 sbb)] := h2b.call hb; clear hb h2b SP)
      | (have _ := h3; refine wpList_load_st h3 0 rfl 23 _ _ rfl rfl rfl Try.underlying23 rfl (by rw [A.arrV_size, KL.out]; exact sz23) ?_)
      | (go_at_call 9; have _ := h3; refine (NW.out _ _ _ h3).mono ?_; clear h3; rintro e W4 ⟨g, gc, rfl, h4⟩; obtain ⟨k0, k1, k2, k3⟩ := CA.out _ _ (h4.rest.get 1 rfl); obtain ⟨j0, j1, j2, j3⟩ := CB.out _ _ (h4.rest.get 2 rfl)))
    clear k0 k1 k2 k3 j0 j1 j2 j3
    have H0 := Lib.hid (show LQ w g gc key b3 b4 b5 sa sbb W4.drew from ⟨h4.drew⟩)
    clear h4
    refine wp_region_held_drew (S := fun W => LQ w g gc key b3 b4 b5 sa sbb W) (by kernel_rfl) H0.out (fun _ => ?_)
    generalize W4.drew = V0 at *
    refine wpAnyH_take (i := 0) (v := .agg sa) rfl (by kernel_rfl) (by kernel_rfl) (by kernel_rfl) (fun _ _ _ h => h) (yields_at 42 _ _ rfl (by rfl) rfl Try.underlying42 rfl (by rw [sa4.out]; exact sz42) (fun W hW => hW.a4)) H0.out ?_
    try simp only [Act.put, List.getElem_toArray, List.getElem_cons_succ, List.getElem_cons_zero, List.setIfInBounds_toArray, List.set_cons_zero, List.set_cons_succ]
    refine wpAnyH_take (i := 2) (v := .agg sa) rfl (by kernel_rfl) (by kernel_rfl) (by kernel_rfl) (fun _ _ _ h => h) (yields_at 42 _ _ rfl (by rfl) rfl Try.underlying42 rfl (by rw [sa4.out]; exact sz42) (fun W hW => hW.a4)) H0.out ?_
    try simp only [Act.put, List.getElem_toArray, List.getElem_cons_succ, List.getElem_cons_zero, List.setIfInBounds_toArray, List.set_cons_zero, List.set_cons_succ]
    refine wpAnyH_ready (rs := [1]) (by kernel_rfl) (by simp) ?_
    refine AllReadyH.cons rfl (fun K hK => ?_) AllReadyH.nil
    go_simp
    go_at_call 17
    refine (BY1.out _).mono ?_
    rintro e V1_ ⟨rfl, hb1_⟩
    have H1_ := Lib.hid (H0.out.call hb1_)
    clear hb1_
    refine hK.out _ _ H1_.out (fun _ => ?_)
    clear hK K
    try simp only [Act.put, List.getElem_toArray, List.getElem_cons_succ, List.getElem_cons_zero, List.setIfInBounds_toArray, List.set_cons_zero, List.set_cons_succ]
    refine wpAnyH_ready (rs := [3]) (by kernel_rfl) (by simp) ?_
    refine AllReadyH.cons rfl (fun K hK => ?_) AllReadyH.nil
    go_simp
    go_at_call 18
    refine (RB1.out _).mono ?_
    rintro e V2_ ⟨rfl, hb2_⟩
    have H2_ := Lib.hid (H1_.out.call hb2_)
    clear hb2_
    refine hK.out _ _ H2_.out (fun _ => ?_)
    clear hK K
    try simp only [Act.put, List.getElem_toArray, List.getElem_cons_succ, List.getElem_cons_zero, List.setIfInBounds_toArray, List.set_cons_zero, List.set_cons_succ]
    refine wpAnyH_take (i := 4) (v := .bool false) rfl (by kernel_rfl) (by kernel_rfl) (by kernel_rfl) (fun _ _ _ h => h) (Or.inl ⟨by rfl, fun W hW => by clear hW; go_simp⟩) H2_.out ?_
    try simp only [Act.put, List.getElem_toArray, List.getElem_cons_succ, List.getElem_cons_zero, List.setIfInBounds_toArray, List.set_cons_zero, List.set_cons_succ]
    refine wpAnyH_take (i := 5) (v := .bool false) rfl (by kernel_rfl) (by kernel_rfl) (by kernel_rfl) (fun _ _ _ h => h) (Or.inl ⟨by rfl, fun W hW => by clear hW; go_simp⟩) H2_.out ?_
    try simp only [Act.put, List.getElem_toArray, List.getElem_cons_succ, List.getElem_cons_zero, List.setIfInBounds_toArray, List.set_cons_zero, List.set_cons_succ]
    refine wpAnyH_take (i := 6) (v := .pointer (some ⟨g, 0, none⟩)) rfl (by kernel_rfl) (by kernel_rfl) (by kernel_rfl) (fun _ _ _ h => h) (Or.inl ⟨by rfl, fun W hW => by clear hW; go_simp⟩) H2_.out ?_
    try simp only [Act.put, List.getElem_toArray, List.getElem_cons_succ, List.getElem_cons_zero, List.setIfInBounds_toArray, List.set_cons_zero, List.set_cons_succ]
    refine wpAnyH_take (i := 7) (v := .agg sa) rfl (by kernel_rfl) (by kernel_rfl) (by kernel_rfl) (fun _ _ _ h => h) (yields_at 42 _ _ rfl (by rfl) rfl Try.underlying42 rfl (by rw [sa4.out]; exact sz42) (fun W hW => hW.a4)) H2_.out ?_
    try simp only [Act.put, List.getElem_toArray, List.getElem_cons_succ, List.getElem_cons_zero, List.setIfInBounds_toArray, List.set_cons_zero, List.set_cons_succ]
    refine wpAnyH_take (i := 9) (v := .agg (arrV key)) rfl (by kernel_rfl) (by kernel_rfl) (by kernel_rfl) (fun _ _ _ h => h) (yields_at 23 _ _ rfl (by rfl) rfl Try.underlying23 rfl (by rw [A.arrV_size, KL.out]; exact sz23) (fun W hW => hW.a3)) H2_.out ?_
    try simp only [Act.put, List.getElem_toArray, List.getElem_cons_succ, List.getElem_cons_zero, List.setIfInBounds_toArray, List.set_cons_zero, List.set_cons_succ]
    refine wpAnyH_take (i := 11) (v := .agg sa) rfl (by kernel_rfl) (by kernel_rfl) (by kernel_rfl) (fun _ _ _ h => h) (yields_at 42 _ _ rfl (by rfl) rfl Try.underlying42 rfl (by rw [sa4.out]; exact sz42) (fun W hW => hW.a4)) H2_.out ?_
    try simp only [Act.put, List.getElem_toArray, List.getElem_cons_succ, List.getElem_cons_zero, List.setIfInBounds_toArray, List.set_cons_zero, List.set_cons_succ]
    refine wpAnyH_ready (rs := [8]) (by kernel_rfl) (by simp) ?_
    refine AllReadyH.cons rfl (fun K hK => ?_) AllReadyH.nil
    go_simp
    go_at_call 19
    refine (PD1.out _ _ _ H2_.out.pp.has).mono ?_
    rintro e V3_ ⟨rfl, hb3_⟩
    have H3_ := Lib.hid (H2_.out.call hb3_)
    clear hb3_
    refine hK.out _ _ H3_.out (fun _ => ?_)
    clear hK K
    try simp only [Act.put, List.getElem_toArray, List.getElem_cons_succ, List.getElem_cons_zero, List.setIfInBounds_toArray, List.set_cons_zero, List.set_cons_succ]
    refine wpAnyH_ready (rs := [10]) (by kernel_rfl) (by simp) ?_
    refine AllReadyH.cons rfl (fun K hK => ?_) AllReadyH.nil
    go_simp
    go_at_call 8
    refine (OF.out _).mono ?_
    rintro e V4_ ⟨gt, c9, gb, cb, rfl, rk, hb4_⟩
    have H4_ := Lib.hid (H3_.out.call hb4_)
    have RK4 := Lib.hid rk
    clear hb4_ rk
    refine hK.out _ _ H4_.out (fun _ => ?_)
    clear hK K
    try simp only [Act.put, List.getElem_toArray, List.getElem_cons_succ, List.getElem_cons_zero, List.setIfInBounds_toArray, List.set_cons_zero, List.set_cons_succ]
    refine wpAnyH_ready (rs := [12]) (by kernel_rfl) (by simp) ?_
    refine AllReadyH.cons rfl (fun K hK => ?_) AllReadyH.nil
    go_simp
    go_at_call 18
    refine (RB1.out _).mono ?_
    rintro e V5_ ⟨rfl, hb5_⟩
    have H5_ := Lib.hid (H4_.out.call hb5_)
    have RK5 := Lib.hid (RK4.out.call hb5_)
    clear hb5_
    refine hK.out _ _ H5_.out (fun _ => ?_)
    clear hK K
    try simp only [Act.put, List.getElem_toArray, List.getElem_cons_succ, List.getElem_cons_zero, List.setIfInBounds_toArray, List.set_cons_zero, List.set_cons_succ]
    refine wpAnyH_ready (rs := [13]) (by kernel_rfl) (by simp) ?_
    refine AllReadyH.cons rfl (fun K hK => ?_) AllReadyH.nil
    go_simp
    go_at_call 20
    refine (RE1.out _ _ _ _ _ RK5.out).mono ?_
    rintro e V6_ ⟨rfl, hb6_⟩
    have H6_ := Lib.hid (H5_.out.call hb6_)
    clear hb6_
    refine hK.out _ _ H6_.out (fun _ => ?_)
    clear hK K
    try simp only [Act.put, List.getElem_toArray, List.getElem_cons_succ, List.getElem_cons_zero, List.setIfInBounds_toArray, List.set_cons_zero, List.set_cons_succ]
    refine wpAnyH_take (i := 14) (v := .bool false) rfl (by kernel_rfl) (by kernel_rfl) (by kernel_rfl) (fun _ _ _ h => h) (Or.inl ⟨by rfl, fun W hW => by clear hW; go_simp⟩) H6_.out ?_
    try simp only [Act.put, List.getElem_toArray, List.getElem_cons_succ, List.getElem_cons_zero, List.setIfInBounds_toArray, List.set_cons_zero, List.set_cons_succ]
    refine wpAnyH_take (i := 15) (v := .bool false) rfl (by kernel_rfl) (by kernel_rfl) (by kernel_rfl) (fun _ _ _ h => h) (Or.inl ⟨by rfl, fun W hW => by clear hW; go_simp⟩) H6_.out ?_
    try simp only [Act.put, List.getElem_toArray, List.getElem_cons_succ, List.getElem_cons_zero, List.setIfInBounds_toArray, List.set_cons_zero, List.set_cons_succ]
    refine wpAnyH_done (by kernel_rfl) ?_ _
    go_wp2
    have HH := Lib.hid H6_.out.drew
    refine wp_region_held_drew (S := fun W => LQ w g gc key b3 b4 b5 sa sbb W) (by kernel_rfl) HH.out (fun _ => ?_)
    generalize V6_.drew = V1 at *
    refine wpAnyH_take (i := 0) (v := .agg sa) rfl (by kernel_rfl) (by kernel_rfl) (by kernel_rfl) (fun _ _ _ h => h) (yields_at 42 _ _ rfl (by rfl) rfl Try.underlying42 rfl (by rw [sa4.out]; exact sz42) (fun W hW => hW.a4)) HH.out ?_
    try simp only [Act.put, List.getElem_toArray, List.getElem_cons_succ, List.getElem_cons_zero, List.setIfInBounds_toArray, List.set_cons_zero, List.set_cons_succ]
    refine wpAnyH_take (i := 2) (v := .agg sbb) rfl (by kernel_rfl) (by kernel_rfl) (by kernel_rfl) (fun _ _ _ h => h) (yields_at 42 _ _ rfl (by rfl) rfl Try.underlying42 rfl (by rw [sb4.out]; exact sz42) (fun W hW => hW.a5)) HH.out ?_
    try simp only [Act.put, List.getElem_toArray, List.getElem_cons_succ, List.getElem_cons_zero, List.setIfInBounds_toArray, List.set_cons_zero, List.set_cons_succ]
    refine wpAnyH_take (i := 5) (v := .bool false) rfl (by kernel_rfl) (by kernel_rfl) (by kernel_rfl) (fun _ _ _ h => h) (Or.inl ⟨by rfl, fun W hW => by clear hW; go_simp⟩) HH.out ?_
    try simp only [Act.put, List.getElem_toArray, List.getElem_cons_succ, List.getElem_cons_zero, List.setIfInBounds_toArray, List.set_cons_zero, List.set_cons_succ]
    refine wpAnyH_ready (rs := [1]) (by kernel_rfl) (by simp) ?_
    refine AllReadyH.cons rfl (fun K hK => ?_) AllReadyH.nil
    go_simp
    go_at_call 17
    refine (BY1.out _).mono ?_
    rintro e X1_ ⟨rfl, hb1_⟩
    have G1_ := Lib.hid (HH.out.call hb1_)
    clear hb1_
    refine hK.out _ _ G1_.out (fun _ => ?_)
    clear hK K
    try simp only [Act.put, List.getElem_toArray, List.getElem_cons_succ, List.getElem_cons_zero, List.setIfInBounds_toArray, List.set_cons_zero, List.set_cons_succ]
    refine wpAnyH_ready (rs := [3]) (by kernel_rfl) (by simp) ?_
    refine AllReadyH.cons rfl (fun K hK => ?_) AllReadyH.nil
    go_simp
    go_at_call 17
    refine (BY2.out _).mono ?_
    rintro e X2_ ⟨rfl, hb2_⟩
    have G2_ := Lib.hid (G1_.out.call hb2_)
    clear hb2_
    refine hK.out _ _ G2_.out (fun _ => ?_)
    clear hK K
    try simp only [Act.put, List.getElem_toArray, List.getElem_cons_succ, List.getElem_cons_zero, List.setIfInBounds_toArray, List.set_cons_zero, List.set_cons_succ]
    refine wpAnyH_take (i := 4) (v := .bool false) rfl (by kernel_rfl) (by kernel_rfl) (by kernel_rfl) (fun _ _ _ h => h) (Or.inl ⟨by rfl, fun W hW => by clear hW; go_simp⟩) G2_.out ?_
    try simp only [Act.put, List.getElem_toArray, List.getElem_cons_succ, List.getElem_cons_zero, List.setIfInBounds_toArray, List.set_cons_zero, List.set_cons_succ]
    refine wpAnyH_take (i := 6) (v := .bool true) rfl (by kernel_rfl) (by kernel_rfl) (by kernel_rfl) (fun _ _ _ h => h) (Or.inl ⟨by rfl, fun W hW => by clear hW; go_simp⟩) G2_.out ?_
    try simp only [Act.put, List.getElem_toArray, List.getElem_cons_succ, List.getElem_cons_zero, List.setIfInBounds_toArray, List.set_cons_zero, List.set_cons_succ]
    refine wpAnyH_take (i := 7) (v := .bool true) rfl (by kernel_rfl) (by kernel_rfl) (by kernel_rfl) (fun _ _ _ h => h) (Or.inl ⟨by rfl, fun W hW => by clear hW; go_simp⟩) G2_.out ?_
    try simp only [Act.put, List.getElem_toArray, List.getElem_cons_succ, List.getElem_cons_zero, List.setIfInBounds_toArray, List.set_cons_zero, List.set_cons_succ]
    refine wpAnyH_take (i := 8) (v := .pointer (some ⟨g, 0, none⟩)) rfl (by kernel_rfl) (by kernel_rfl) (by kernel_rfl) (fun _ _ _ h => h) (Or.inl ⟨by rfl, fun W hW => by clear hW; go_simp⟩) G2_.out ?_
    try simp only [Act.put, List.getElem_toArray, List.getElem_cons_succ, List.getElem_cons_zero, List.setIfInBounds_toArray, List.set_cons_zero, List.set_cons_succ]
    refine wpAnyH_take (i := 9) (v := .agg sa) rfl (by kernel_rfl) (by kernel_rfl) (by kernel_rfl) (fun _ _ _ h => h) (yields_at 42 _ _ rfl (by rfl) rfl Try.underlying42 rfl (by rw [sa4.out]; exact sz42) (fun W hW => hW.a4)) G2_.out ?_
    try simp only [Act.put, List.getElem_toArray, List.getElem_cons_succ, List.getElem_cons_zero, List.setIfInBounds_toArray, List.set_cons_zero, List.set_cons_succ]
    refine wpAnyH_take (i := 11) (v := .pointer (some ⟨g, 0, none⟩)) rfl (by kernel_rfl) (by kernel_rfl) (by kernel_rfl) (fun _ _ _ h => h) (Or.inl ⟨by rfl, fun W hW => by clear hW; go_simp⟩) G2_.out ?_
    try simp only [Act.put, List.getElem_toArray, List.getElem_cons_succ, List.getElem_cons_zero, List.setIfInBounds_toArray, List.set_cons_zero, List.set_cons_succ]
    refine wpAnyH_take (i := 12) (v := .agg sbb) rfl (by kernel_rfl) (by kernel_rfl) (by kernel_rfl) (fun _ _ _ h => h) (yields_at 42 _ _ rfl (by rfl) rfl Try.underlying42 rfl (by rw [sb4.out]; exact sz42) (fun W hW => hW.a5)) G2_.out ?_
    try simp only [Act.put, List.getElem_toArray, List.getElem_cons_succ, List.getElem_cons_zero, List.setIfInBounds_toArray, List.set_cons_zero, List.set_cons_succ]
    refine wpAnyH_take (i := 15) (v := .bool false) rfl (by kernel_rfl) (by kernel_rfl) (by kernel_rfl) (fun _ _ _ h => h) (Or.inl ⟨by rfl, fun W hW => by clear hW; go_simp⟩) G2_.out ?_
    try simp only [Act.put, List.getElem_toArray, List.getElem_cons_succ, List.getElem_cons_zero, List.setIfInBounds_toArray, List.set_cons_zero, List.set_cons_succ]
    refine wpAnyH_ready (rs := [10]) (by kernel_rfl) (by simp) ?_
    refine AllReadyH.cons rfl (fun K hK => ?_) AllReadyH.nil
    go_simp
    go_at_call 19
    refine (PD1.out _ _ _ G2_.out.pp.has).mono ?_
    rintro e X3_ ⟨rfl, hb3_⟩
    have G3_ := Lib.hid (G2_.out.call hb3_)
    clear hb3_
    refine hK.out _ _ G3_.out (fun _ => ?_)
    clear hK K
    try simp only [Act.put, List.getElem_toArray, List.getElem_cons_succ, List.getElem_cons_zero, List.setIfInBounds_toArray, List.set_cons_zero, List.set_cons_succ]
    refine wpAnyH_ready (rs := [13]) (by kernel_rfl) (by simp) ?_
    refine AllReadyH.cons rfl (fun K hK => ?_) AllReadyH.nil
    go_simp
    go_at_call 19
    refine (PD2.out _ _ _ G3_.out.pp.has).mono ?_
    rintro e X4_ ⟨rfl, hb4_⟩
    have G4_ := Lib.hid (G3_.out.call hb4_)
    clear hb4_
    refine hK.out _ _ G4_.out (fun _ => ?_)
    clear hK K
    try simp only [Act.put, List.getElem_toArray, List.getElem_cons_succ, List.getElem_cons_zero, List.setIfInBounds_toArray, List.set_cons_zero, List.set_cons_succ]
    refine wpAnyH_take (i := 14) (v := .bool false) rfl (by kernel_rfl) (by kernel_rfl) (by kernel_rfl) (fun _ _ _ h => h) (Or.inl ⟨by rfl, fun W hW => by clear hW; go_simp⟩) G4_.out ?_
    try simp only [Act.put, List.getElem_toArray, List.getElem_cons_succ, List.getElem_cons_zero, List.setIfInBounds_toArray, List.set_cons_zero, List.set_cons_succ]
    refine wpAnyH_take (i := 16) (v := .bool true) rfl (by kernel_rfl) (by kernel_rfl) (by kernel_rfl) (fun _ _ _ h => h) (Or.inl ⟨by rfl, fun W hW => by clear hW; go_simp⟩) G4_.out ?_
    try simp only [Act.put, List.getElem_toArray, List.getElem_cons_succ, List.getElem_cons_zero, List.setIfInBounds_toArray, List.set_cons_zero, List.set_cons_succ]
    refine wpAnyH_take (i := 17) (v := .bool true) rfl (by kernel_rfl) (by kernel_rfl) (by kernel_rfl) (fun _ _ _ h => h) (Or.inl ⟨by rfl, fun W hW => by clear hW; go_simp⟩) G4_.out ?_
    try simp only [Act.put, List.getElem_toArray, List.getElem_cons_succ, List.getElem_cons_zero, List.setIfInBounds_toArray, List.set_cons_zero, List.set_cons_succ]
    refine wpAnyH_take (i := 18) (v := .bool true) rfl (by kernel_rfl) (by kernel_rfl) (by kernel_rfl) (fun _ _ _ h => h) (Or.inl ⟨by rfl, fun W hW => by clear hW; go_simp⟩) G4_.out ?_
    try simp only [Act.put, List.getElem_toArray, List.getElem_cons_succ, List.getElem_cons_zero, List.setIfInBounds_toArray, List.set_cons_zero, List.set_cons_succ]
    refine wpAnyH_done (by kernel_rfl) ?_ _
    go_wp2
    go_ret
    exact ⟨rfl, G4_.out.pp.rest.bel⟩
  · skip
    have f1 : (IntKind.u32.wrap a.l == IntKind.u32.wrap b.l) = true := by rw [u32w, u32w]; simp [e1]
    have f1b : (a.l % 4294967296 == b.l % 4294967296) = true := by simp [e1]
    have f2 : ((a.M : Int) == (b.M : Int)) = true := by first | (simp [e2]; done) | (rw [beq_eq_false_iff_ne]; omega)
    have f3 : (IntKind.u16.wrap a.m == IntKind.u16.wrap b.m) = true := by rw [u16w, u16w]; simp [e3]
    have f3b : (a.m % 65536 == b.m % 65536) = true := by simp [e3]
    have f4 : (IntKind.u8.wrap a.b == IntKind.u8.wrap b.b) = false := by rw [u8w, u8w]; simp [e4]
    have f4b : (a.b % 256 == b.b % 256) = false := by simp [e4]
    have OC : Hid (oneS a b = false) := Lib.hid (by unfold oneS; simp [*])
    have q3 : ∀ W, (binOp .eql 23 (.agg (arrV Ba)) (.agg (arrV Bb))).run Try.prog W = .ok (.bool false) W := fun W => by rw [EB.out W, OC.out]
    have q4 : ∀ W, (binOp .eql 23 (.agg (arrV Pa)) (.agg (arrV Pb))).run Try.prog W = .ok (.bool false) W := fun W => by rw [EP.out W, OC.out]
    clear EB EP OC
    go_enter Try.func5, Try.ntmps5
    go_wp2_with (first
      | (have _ := h0; refine wpList_box_st h0 23 _ rfl rfl (arrV key) rfl ?_; clear h0; intro W1 h1 _ _; generalize hb3 : w.heap.size = b3 at h1 ⊢; replace hb3 := Lib.hid hb3)
      | (have _ := h1; refine wpList_box_st h1 42 _ rfl rfl sa rfl ?_; clear h1; intro W2 h2 _ _; generalize W1.heap.size = b4 at *)
      | (have _ := h2; refine wpList_box_st h2 42 _ rfl rfl sbb rfl ?_; clear h2; intro W2b h2b _ _; generalize W2.heap.size = b5 at *)
      | (go_at_call 7; refine (SP.out _).mono ?_; rintro e W3 ⟨rfl, hb⟩; have h3 : St w W3 [(b3, C 23 (arrV key)), (b4, C 42 sa), (b5, C 42 sbb)] := h2b.call hb; clear hb h2b SP)
      | (have _ := h3; refine wpList_load_st h3 0 rfl 23 _ _ rfl rfl rfl Try.underlying23 rfl (by rw [A.arrV_size, KL.out]; exact sz23) ?_)
      | (go_at_call 9; have _ := h3; refine (NW.out _ _ _ h3).mono ?_; clear h3; rintro e W4 ⟨g, gc, rfl, h4⟩; obtain ⟨k0, k1, k2, k3⟩ := CA.out _ _ (h4.rest.get 1 rfl); obtain ⟨j0, j1, j2, j3⟩ := CB.out _ _ (h4.rest.get 2 rfl)))
    clear k0 k1 k2 k3 j0 j1 j2 j3
    have H0 := Lib.hid (show LQ w g gc key b3 b4 b5 sa sbb W4.drew from ⟨h4.drew⟩)
    clear h4
    refine wp_region_held_drew (S := fun W => LQ w g gc key b3 b4 b5 sa sbb W) (by kernel_rfl) H0.out (fun _ => ?_)
    generalize W4.drew = V0 at *
    refine wpAnyH_take (i := 0) (v := .agg sa) rfl (by kernel_rfl) (by kernel_rfl) (by kernel_rfl) (fun _ _ _ h => h) (yields_at 42 _ _ rfl (by rfl) rfl Try.underlying42 rfl (by rw [sa4.out]; exact sz42) (fun W hW => hW.a4)) H0.out ?_
    try simp only [Act.put, List.getElem_toArray, List.getElem_cons_succ, List.getElem_cons_zero, List.setIfInBounds_toArray, List.set_cons_zero, List.set_cons_succ]
    refine wpAnyH_take (i := 2) (v := .agg sa) rfl (by kernel_rfl) (by kernel_rfl) (by kernel_rfl) (fun _ _ _ h => h) (yields_at 42 _ _ rfl (by rfl) rfl Try.underlying42 rfl (by rw [sa4.out]; exact sz42) (fun W hW => hW.a4)) H0.out ?_
    try simp only [Act.put, List.getElem_toArray, List.getElem_cons_succ, List.getElem_cons_zero, List.setIfInBounds_toArray, List.set_cons_zero, List.set_cons_succ]
    refine wpAnyH_ready (rs := [1]) (by kernel_rfl) (by simp) ?_
    refine AllReadyH.cons rfl (fun K hK => ?_) AllReadyH.nil
    go_simp
    go_at_call 17
    refine (BY1.out _).mono ?_
    rintro e V1_ ⟨rfl, hb1_⟩
    have H1_ := Lib.hid (H0.out.call hb1_)
    clear hb1_
    refine hK.out _ _ H1_.out (fun _ => ?_)
    clear hK K
    try simp only [Act.put, List.getElem_toArray, List.getElem_cons_succ, List.getElem_cons_zero, List.setIfInBounds_toArray, List.set_cons_zero, List.set_cons_succ]
    refine wpAnyH_ready (rs := [3]) (by kernel_rfl) (by simp) ?_
    refine AllReadyH.cons rfl (fun K hK => ?_) AllReadyH.nil
    go_simp
    go_at_call 18
    refine (RB1.out _).mono ?_
    rintro e V2_ ⟨rfl, hb2_⟩
    have H2_ := Lib.hid (H1_.out.call hb2_)
    clear hb2_
    refine hK.out _ _ H2_.out (fun _ => ?_)
    clear hK K
    try simp only [Act.put, List.getElem_toArray, List.getElem_cons_succ, List.getElem_cons_zero, List.setIfInBounds_toArray, List.set_cons_zero, List.set_cons_succ]
    refine wpAnyH_take (i := 4) (v := .bool false) rfl (by kernel_rfl) (by kernel_rfl) (by kernel_rfl) (fun _ _ _ h => h) (Or.inl ⟨by rfl, fun W hW => by clear hW; go_simp⟩) H2_.out ?_
    try simp only [Act.put, List.getElem_toArray, List.getElem_cons_succ, List.getElem_cons_zero, List.setIfInBounds_toArray, List.set_cons_zero, List.set_cons_succ]
    refine wpAnyH_take (i := 5) (v := .bool false) rfl (by kernel_rfl) (by kernel_rfl) (by kernel_rfl) (fun _ _ _ h => h) (Or.inl ⟨by rfl, fun W hW => by clear hW; go_simp⟩) H2_.out ?_
    try simp only [Act.put, List.getElem_toArray, List.getElem_cons_succ, List.getElem_cons_zero, List.setIfInBounds_toArray, List.set_cons_zero, List.set_cons_succ]
    refine wpAnyH_take (i := 6) (v := .pointer (some ⟨g, 0, none⟩)) rfl (by kernel_rfl) (by kernel_rfl) (by kernel_rfl) (fun _ _ _ h => h) (Or.inl ⟨by rfl, fun W hW => by clear hW; go_simp⟩) H2_.out ?_
    try simp only [Act.put, List.getElem_toArray, List.getElem_cons_succ, List.getElem_cons_zero, List.setIfInBounds_toArray, List.set_cons_zero, List.set_cons_succ]
    refine wpAnyH_take (i := 7) (v := .agg sa) rfl (by kernel_rfl) (by kernel_rfl) (by kernel_rfl) (fun _ _ _ h => h) (yields_at 42 _ _ rfl (by rfl) rfl Try.underlying42 rfl (by rw [sa4.out]; exact sz42) (fun W hW => hW.a4)) H2_.out ?_
    try simp only [Act.put, List.getElem_toArray, List.getElem_cons_succ, List.getElem_cons_zero, List.setIfInBounds_toArray, List.set_cons_zero, List.set_cons_succ]
    refine wpAnyH_take (i := 9) (v := .agg (arrV key)) rfl (by kernel_rfl) (by kernel_rfl) (by kernel_rfl) (fun _ _ _ h => h) (yields_at 23 _ _ rfl (by rfl) rfl Try.underlying23 rfl (by rw [A.arrV_size, KL.out]; exact sz23) (fun W hW => hW.a3)) H2_.out ?_
    try simp only [Act.put, List.getElem_toArray, List.getElem_cons_succ, List.getElem_cons_zero, List.setIfInBounds_toArray, List.set_cons_zero, List.set_cons_succ]
    refine wpAnyH_take (i := 11) (v := .agg sa) rfl (by kernel_rfl) (by kernel_rfl) (by kernel_rfl) (fun _ _ _ h => h) (yields_at 42 _ _ rfl (by rfl) rfl Try.underlying42 rfl (by rw [sa4.out]; exact sz42) (fun W hW => hW.a4)) H2_.out ?_
    try simp only [Act.put, List.getElem_toArray, List.getElem_cons_succ, List.getElem_cons_zero, List.setIfInBounds_toArray, List.set_cons_zero, List.set_cons_succ]
    refine wpAnyH_ready (rs := [8]) (by kernel_rfl) (by simp) ?_
    refine AllReadyH.cons rfl (fun K hK => ?_) AllReadyH.nil
    go_simp
    go_at_call 19
    refine (PD1.out _ _ _ H2_.out.pp.has).mono ?_
    rintro e V3_ ⟨rfl, hb3_⟩
    have H3_ := Lib.hid (H2_.out.call hb3_)
    clear hb3_
    refine hK.out _ _ H3_.out (fun _ => ?_)
    clear hK K
    try simp only [Act.put, List.getElem_toArray, List.getElem_cons_succ, List.getElem_cons_zero, List.setIfInBounds_toArray, List.set_cons_zero, List.set_cons_succ]
    refine wpAnyH_ready (rs := [10]) (by kernel_rfl) (by simp) ?_
    refine AllReadyH.cons rfl (fun K hK => ?_) AllReadyH.nil
    go_simp
    go_at_call 8
    refine (OF.out _).mono ?_
    rintro e V4_ ⟨gt, c9, gb, cb, rfl, rk, hb4_⟩
    have H4_ := Lib.hid (H3_.out.call hb4_)
    have RK4 := Lib.hid rk
    clear hb4_ rk
    refine hK.out _ _ H4_.out (fun _ => ?_)
    clear hK K
    try simp only [Act.put, List.getElem_toArray, List.getElem_cons_succ, List.getElem_cons_zero, List.setIfInBounds_toArray, List.set_cons_zero, List.set_cons_succ]
    refine wpAnyH_ready (rs := [12]) (by kernel_rfl) (by simp) ?_
    refine AllReadyH.cons rfl (fun K hK => ?_) AllReadyH.nil
    go_simp
    go_at_call 18
    refine (RB1.out _).mono ?_
    rintro e V5_ ⟨rfl, hb5_⟩
    have H5_ := Lib.hid (H4_.out.call hb5_)
    have RK5 := Lib.hid (RK4.out.call hb5_)
    clear hb5_
    refine hK.out _ _ H5_.out (fun _ => ?_)
    clear hK K
    try simp only [Act.put, List.getElem_toArray, List.getElem_cons_succ, List.getElem_cons_zero, List.setIfInBounds_toArray, List.set_cons_zero, List.set_cons_succ]
    refine wpAnyH_ready (rs := [13]) (by kernel_rfl) (by simp) ?_
    refine AllReadyH.cons rfl (fun K hK => ?_) AllReadyH.nil
    go_simp
    go_at_call 20
    refine (RE1.out _ _ _ _ _ RK5.out).mono ?_
    rintro e V6_ ⟨rfl, hb6_⟩
    have H6_ := Lib.hid (H5_.out.call hb6_)
    clear hb6_
    refine hK.out _ _ H6_.out (fun _ => ?_)
    clear hK K
    try simp only [Act.put, List.getElem_toArray, List.getElem_cons_succ, List.getElem_cons_zero, List.setIfInBounds_toArray, List.set_cons_zero, List.set_cons_succ]
    refine wpAnyH_take (i := 14) (v := .bool false) rfl (by kernel_rfl) (by kernel_rfl) (by kernel_rfl) (fun _ _ _ h => h) (Or.inl ⟨by rfl, fun W hW => by clear hW; go_simp⟩) H6_.out ?_
    try simp only [Act.put, List.getElem_toArray, List.getElem_cons_succ, List.getElem_cons_zero, List.setIfInBounds_toArray, List.set_cons_zero, List.set_cons_succ]
    refine wpAnyH_take (i := 15) (v := .bool false) rfl (by kernel_rfl) (by kernel_rfl) (by kernel_rfl) (fun _ _ _ h => h) (Or.inl ⟨by rfl, fun W hW => by clear hW; go_simp⟩) H6_.out ?_
    try simp only [Act.put, List.getElem_toArray, List.getElem_cons_succ, List.getElem_cons_zero, List.setIfInBounds_toArray, List.set_cons_zero, List.set_cons_succ]
    refine wpAnyH_done (by kernel_rfl) ?_ _
    go_wp2
    have HH := Lib.hid H6_.out.drew
    refine wp_region_held_drew (S := fun W => LQ w g gc key b3 b4 b5 sa sbb W) (by kernel_rfl) HH.out (fun _ => ?_)
    generalize V6_.drew = V1 at *
    refine wpAnyH_take (i := 0) (v := .agg sa) rfl (by kernel_rfl) (by kernel_rfl) (by kernel_rfl) (fun _ _ _ h => h) (yields_at 42 _ _ rfl (by rfl) rfl Try.underlying42 rfl (by rw [sa4.out]; exact sz42) (fun W hW => hW.a4)) HH.out ?_
    try simp only [Act.put, List.getElem_toArray, List.getElem_cons_succ, List.getElem_cons_zero, List.setIfInBounds_toArray, List.set_cons_zero, List.set_cons_succ]
    refine wpAnyH_take (i := 2) (v := .agg sbb) rfl (by kernel_rfl) (by kernel_rfl) (by kernel_rfl) (fun _ _ _ h => h) (yields_at 42 _ _ rfl (by rfl) rfl Try.underlying42 rfl (by rw [sb4.out]; exact sz42) (fun W hW => hW.a5)) HH.out ?_
    try simp only [Act.put, List.getElem_toArray, List.getElem_cons_succ, List.getElem_cons_zero, List.setIfInBounds_toArray, List.set_cons_zero, List.set_cons_succ]
    refine wpAnyH_take (i := 5) (v := .bool false) rfl (by kernel_rfl) (by kernel_rfl) (by kernel_rfl) (fun _ _ _ h => h) (Or.inl ⟨by rfl, fun W hW => by clear hW; go_simp⟩) HH.out ?_
    try simp only [Act.put, List.getElem_toArray, List.getElem_cons_succ, List.getElem_cons_zero, List.setIfInBounds_toArray, List.set_cons_zero, List.set_cons_succ]
    refine wpAnyH_ready (rs := [1]) (by kernel_rfl) (by simp) ?_
    refine AllReadyH.cons rfl (fun K hK => ?_) AllReadyH.nil
    go_simp
    go_at_call 17
    refine (BY1.out _).mono ?_
    rintro e X1_ ⟨rfl, hb1_⟩
    have G1_ := Lib.hid (HH.out.call hb1_)
    clear hb1_
    refine hK.out _ _ G1_.out (fun _ => ?_)
    clear hK K
    try simp only [Act.put, List.getElem_toArray, List.getElem_cons_succ, List.getElem_cons_zero, List.setIfInBounds_toArray, List.set_cons_zero, List.set_cons_succ]
    refine wpAnyH_ready (rs := [3]) (by kernel_rfl) (by simp) ?_
    refine AllReadyH.cons rfl (fun K hK => ?_) AllReadyH.nil
    go_simp
    go_at_call 17
    refine (BY2.out _).mono ?_
    rintro e X2_ ⟨rfl, hb2_⟩
    have G2_ := Lib.hid (G1_.out.call hb2_)
    clear hb2_
    refine hK.out _ _ G2_.out (fun _ => ?_)
    clear hK K
    try simp only [Act.put, List.getElem_toArray, List.getElem_cons_succ, List.getElem_cons_zero, List.setIfInBounds_toArray, List.set_cons_zero, List.set_cons_succ]
    refine wpAnyH_take (i := 4) (v := .bool false) rfl (by kernel_rfl) (by kernel_rfl) (by kernel_rfl) (fun _ _ _ h => h) (Or.inl ⟨by rfl, fun W hW => by clear hW; go_simp⟩) G2_.out ?_
    try simp only [Act.put, List.getElem_toArray, List.getElem_cons_succ, List.getElem_cons_zero, List.setIfInBounds_toArray, List.set_cons_zero, List.set_cons_succ]
    refine wpAnyH_take (i := 6) (v := .bool true) rfl (by kernel_rfl) (by kernel_rfl) (by kernel_rfl) (fun _ _ _ h => h) (Or.inl ⟨by rfl, fun W hW => by clear hW; go_simp⟩) G2_.out ?_
    try simp only [Act.put, List.getElem_toArray, List.getElem_cons_succ, List.getElem_cons_zero, List.setIfInBounds_toArray, List.set_cons_zero, List.set_cons_succ]
    refine wpAnyH_take (i := 7) (v := .bool true) rfl (by kernel_rfl) (by kernel_rfl) (by kernel_rfl) (fun _ _ _ h => h) (Or.inl ⟨by rfl, fun W hW => by clear hW; go_simp⟩) G2_.out ?_
    try simp only [Act.put, List.getElem_toArray, List.getElem_cons_succ, List.getElem_cons_zero, List.setIfInBounds_toArray, List.set_cons_zero, List.set_cons_succ]
    refine wpAnyH_take (i := 8) (v := .pointer (some ⟨g, 0, none⟩)) rfl (by kernel_rfl) (by kernel_rfl) (by kernel_rfl) (fun _ _ _ h => h) (Or.inl ⟨by rfl, fun W hW => by clear hW; go_simp⟩) G2_.out ?_
    try simp only [Act.put, List.getElem_toArray, List.getElem_cons_succ, List.getElem_cons_zero, List.setIfInBounds_toArray, List.set_cons_zero, List.set_cons_succ]
    refine wpAnyH_take (i := 9) (v := .agg sa) rfl (by kernel_rfl) (by kernel_rfl) (by kernel_rfl) (fun _ _ _ h => h) (yields_at 42 _ _ rfl (by rfl) rfl Try.underlying42 rfl (by rw [sa4.out]; exact sz42) (fun W hW => hW.a4)) G2_.out ?_
    try simp only [Act.put, List.getElem_toArray, List.getElem_cons_succ, List.getElem_cons_zero, List.setIfInBounds_toArray, List.set_cons_zero, List.set_cons_succ]
    refine wpAnyH_take (i := 11) (v := .pointer (some ⟨g, 0, none⟩)) rfl (by kernel_rfl) (by kernel_rfl) (by kernel_rfl) (fun _ _ _ h => h) (Or.inl ⟨by rfl, fun W hW => by clear hW; go_simp⟩) G2_.out ?_
    try simp only [Act.put, List.getElem_toArray, List.getElem_cons_succ, List.getElem_cons_zero, List.setIfInBounds_toArray, List.set_cons_zero, List.set_cons_succ]
    refine wpAnyH_take (i := 12) (v := .agg sbb) rfl (by kernel_rfl) (by kernel_rfl) (by kernel_rfl) (fun _ _ _ h => h) (yields_at 42 _ _ rfl (by rfl) rfl Try.underlying42 rfl (by rw [sb4.out]; exact sz42) (fun W hW => hW.a5)) G2_.out ?_
    try simp only [Act.put, List.getElem_toArray, List.getElem_cons_succ, List.getElem_cons_zero, List.setIfInBounds_toArray, List.set_cons_zero, List.set_cons_succ]
    refine wpAnyH_take (i := 15) (v := .bool false) rfl (by kernel_rfl) (by kernel_rfl) (by kernel_rfl) (fun _ _ _ h => h) (Or.inl ⟨by rfl, fun W hW => by clear hW; go_simp⟩) G2_.out ?_
    try simp only [Act.put, List.getElem_toArray, List.getElem_cons_succ, List.getElem_cons_zero, List.setIfInBounds_toArray, List.set_cons_zero, List.set_cons_succ]
    refine wpAnyH_ready (rs := [10]) (by kernel_rfl) (by simp) ?_
    refine AllReadyH.cons rfl (fun K hK => ?_) AllReadyH.nil
    go_simp
    go_at_call 19
    refine (PD1.out _ _ _ G2_.out.pp.has).mono ?_
    rintro e X3_ ⟨rfl, hb3_⟩
    have G3_ := Lib.hid (G2_.out.call hb3_)
    clear hb3_
    refine hK.out _ _ G3_.out (fun _ => ?_)
    clear hK K
    try simp only [Act.put, List.getElem_toArray, List.getElem_cons_succ, List.getElem_cons_zero, List.setIfInBounds_toArray, List.set_cons_zero, List.set_cons_succ]
    refine wpAnyH_ready (rs := [13]) (by kernel_rfl) (by simp) ?_
    refine AllReadyH.cons rfl (fun K hK => ?_) AllReadyH.nil
    go_simp
    go_at_call 19
    refine (PD2.out _ _ _ G3_.out.pp.has).mono ?_
    rintro e X4_ ⟨rfl, hb4_⟩
    have G4_ := Lib.hid (G3_.out.call hb4_)
    clear hb4_
    refine hK.out _ _ G4_.out (fun _ => ?_)
    clear hK K
    try simp only [Act.put, List.getElem_toArray, List.getElem_cons_succ, List.getElem_cons_zero, List.setIfInBounds_toArray, List.set_cons_zero, List.set_cons_succ]
    refine wpAnyH_take (i := 14) (v := .bool false) rfl (by kernel_rfl) (by kernel_rfl) (by kernel_rfl) (fun _ _ _ h => h) (Or.inl ⟨by rfl, fun W hW => by clear hW; go_simp⟩) G4_.out ?_
    try simp only [Act.put, List.getElem_toArray, List.getElem_cons_succ, List.getElem_cons_zero, List.setIfInBounds_toArray, List.set_cons_zero, List.set_cons_succ]
    refine wpAnyH_take (i := 16) (v := .bool true) rfl (by kernel_rfl) (by kernel_rfl) (by kernel_rfl) (fun _ _ _ h => h) (Or.inl ⟨by rfl, fun W hW => by clear hW; go_simp⟩) G4_.out ?_
    try simp only [Act.put, List.getElem_toArray, List.getElem_cons_succ, List.getElem_cons_zero, List.setIfInBounds_toArray, List.set_cons_zero, List.set_cons_succ]
    refine wpAnyH_take (i := 17) (v := .bool true) rfl (by kernel_rfl) (by kernel_rfl) (by kernel_rfl) (fun _ _ _ h => h) (Or.inl ⟨by rfl, fun W hW => by clear hW; go_simp⟩) G4_.out ?_
    try simp only [Act.put, List.getElem_toArray, List.getElem_cons_succ, List.getElem_cons_zero, List.setIfInBounds_toArray, List.set_cons_zero, List.set_cons_succ]
    refine wpAnyH_take (i := 18) (v := .bool true) rfl (by kernel_rfl) (by kernel_rfl) (by kernel_rfl) (fun _ _ _ h => h) (Or.inl ⟨by rfl, fun W hW => by clear hW; go_simp⟩) G4_.out ?_
    try simp only [Act.put, List.getElem_toArray, List.getElem_cons_succ, List.getElem_cons_zero, List.setIfInBounds_toArray, List.set_cons_zero, List.set_cons_succ]
    refine wpAnyH_done (by kernel_rfl) ?_ _
    go_wp2
    go_ret
    exact ⟨rfl, G4_.out.pp.rest.bel⟩
  · skip
    have f1 : (IntKind.u32.wrap a.l == IntKind.u32.wrap b.l) = true := by rw [u32w, u32w]; simp [e1]
    have f1b : (a.l % 4294967296 == b.l % 4294967296) = true := by simp [e1]
    have f2 : ((a.M : Int) == (b.M : Int)) = true := by first | (simp [e2]; done) | (rw [beq_eq_false_iff_ne]; omega)
    have f3 : (IntKind.u16.wrap a.m == IntKind.u16.wrap b.m) = true := by rw [u16w, u16w]; simp [e3]
    have f3b : (a.m % 65536 == b.m % 65536) = true := by simp [e3]
    have f4 : (IntKind.u8.wrap a.b == IntKind.u8.wrap b.b) = true := by rw [u8w, u8w]; simp [e4]
    have f4b : (a.b % 256 == b.b % 256) = true := by simp [e4]
    have OC : Hid (oneS a b = true) := Lib.hid (by unfold oneS; simp [*])
    have q3 : ∀ W, (binOp .eql 23 (.agg (arrV Ba)) (.agg (arrV Bb))).run Try.prog W = .ok (.bool true) W := fun W => by rw [EB.out W, OC.out]
    have q4 : ∀ W, (binOp .eql 23 (.agg (arrV Pa)) (.agg (arrV Pb))).run Try.prog W = .ok (.bool true) W := fun W => by rw [EP.out W, OC.out]
    clear EB EP OC
    go_enter Try.func5, Try.ntmps5
    go_wp2_with (first
      | (have _ := h0; refine wpList_box_st h0 23 _ rfl rfl (arrV key) rfl ?_; clear h0; intro W1 h1 _ _; generalize hb3 : w.heap.size = b3 at h1 ⊢; replace hb3 := Lib.hid hb3)
      | (have _ := h1; refine wpList_box_st h1 42 _ rfl rfl sa rfl ?_; clear h1; intro W2 h2 _ _; generalize W1.heap.size = b4 at *)
      | (have _ := h2; refine wpList_box_st h2 42 _ rfl rfl sbb rfl ?_; clear h2; intro W2b h2b _ _; generalize W2.heap.size = b5 at *)
      | (go_at_call 7; refine (SP.out _).mono ?_; rintro e W3 ⟨rfl, hb⟩; have h3 : St w W3 [(b3, C 23 (arrV key)), (b4, C 42 sa), (b5, C 42 sbb)] := h2b.call hb; clear hb h2b SP)
      | (have _ := h3; refine wpList_load_st h3 0 rfl 23 _ _ rfl rfl rfl Try.underlying23 rfl (by rw [A.arrV_size, KL.out]; exact sz23) ?_)
      | (go_at_call 9; have _ := h3; refine (NW.out _ _ _ h3).mono ?_; clear h3; rintro e W4 ⟨g, gc, rfl, h4⟩; obtain ⟨k0, k1, k2, k3⟩ := CA.out _ _ (h4.rest.get 1 rfl); obtain ⟨j0, j1, j2, j3⟩ := CB.out _ _ (h4.rest.get 2 rfl)))
    clear k0 k1 k2 k3 j0 j1 j2 j3
    have H0 := Lib.hid (show LQ w g gc key b3 b4 b5 sa sbb W4.drew from ⟨h4.drew⟩)
    clear h4
    refine wp_region_held_drew (S := fun W => LQ w g gc key b3 b4 b5 sa sbb W) (by kernel_rfl) H0.out (fun _ => ?_)
    generalize W4.drew = V0 at *
    refine wpAnyH_take (i := 0) (v := .agg sa) rfl (by kernel_rfl) (by kernel_rfl) (by kernel_rfl) (fun _ _ _ h => h) (yields_at 42 _ _ rfl (by rfl) rfl Try.underlying42 rfl (by rw [sa4.out]; exact sz42) (fun W hW => hW.a4)) H0.out ?_
    try simp only [Act.put, List.getElem_toArray, List.getElem_cons_succ, List.getElem_cons_zero, List.setIfInBounds_toArray, List.set_cons_zero, List.set_cons_succ]
    refine wpAnyH_take (i := 2) (v := .agg sa) rfl (by kernel_rfl) (by kernel_rfl) (by kernel_rfl) (fun _ _ _ h => h) (yields_at 42 _ _ rfl (by rfl) rfl Try.underlying42 rfl (by rw [sa4.out]; exact sz42) (fun W hW => hW.a4)) H0.out ?_
    try simp only [Act.put, List.getElem_toArray, List.getElem_cons_succ, List.getElem_cons_zero, List.setIfInBounds_toArray, List.set_cons_zero, List.set_cons_succ]
    refine wpAnyH_ready (rs := [1]) (by kernel_rfl) (by simp) ?_
    refine AllReadyH.cons rfl (fun K hK => ?_) AllReadyH.nil
    go_simp
    go_at_call 17
    refine (BY1.out _).mono ?_
    rintro e V1_ ⟨rfl, hb1_⟩
    have H1_ := Lib.hid (H0.out.call hb1_)
    clear hb1_
    refine hK.out _ _ H1_.out (fun _ => ?_)
    clear hK K
    try simp only [Act.put, List.getElem_toArray, List.getElem_cons_succ, List.getElem_cons_zero, List.setIfInBounds_toArray, List.set_cons_zero, List.set_cons_succ]
    refine wpAnyH_ready (rs := [3]) (by kernel_rfl) (by simp) ?_
    refine AllReadyH.cons rfl (fun K hK => ?_) AllReadyH.nil
    go_simp
    go_at_call 18
    refine (RB1.out _).mono ?_
    rintro e V2_ ⟨rfl, hb2_⟩
    have H2_ := Lib.hid (H1_.out.call hb2_)
    clear hb2_
    refine hK.out _ _ H2_.out (fun _ => ?_)
    clear hK K
    try simp only [Act.put, List.getElem_toArray, List.getElem_cons_succ, List.getElem_cons_zero, List.setIfInBounds_toArray, List.set_cons_zero, List.set_cons_succ]
    refine wpAnyH_take (i := 4) (v := .bool false) rfl (by kernel_rfl) (by kernel_rfl) (by kernel_rfl) (fun _ _ _ h => h) (Or.inl ⟨by rfl, fun W hW => by clear hW; go_simp⟩) H2_.out ?_
    try simp only [Act.put, List.getElem_toArray, List.getElem_cons_succ, List.getElem_cons_zero, List.setIfInBounds_toArray, List.set_cons_zero, List.set_cons_succ]
    refine wpAnyH_take (i := 5) (v := .bool false) rfl (by kernel_rfl) (by kernel_rfl) (by kernel_rfl) (fun _ _ _ h => h) (Or.inl ⟨by rfl, fun W hW => by clear hW; go_simp⟩) H2_.out ?_
    try simp only [Act.put, List.getElem_toArray, List.getElem_cons_succ, List.getElem_cons_zero, List.setIfInBounds_toArray, List.set_cons_zero, List.set_cons_succ]
    refine wpAnyH_take (i := 6) (v := .pointer (some ⟨g, 0, none⟩)) rfl (by kernel_rfl) (by kernel_rfl) (by kernel_rfl) (fun _ _ _ h => h) (Or.inl ⟨by rfl, fun W hW => by clear hW; go_simp⟩) H2_.out ?_
    try simp only [Act.put, List.getElem_toArray, List.getElem_cons_succ, List.getElem_cons_zero, List.setIfInBounds_toArray, List.set_cons_zero, List.set_cons_succ]
    refine wpAnyH_take (i := 7) (v := .agg sa) rfl (by kernel_rfl) (by kernel_rfl) (by kernel_rfl) (fun _ _ _ h => h) (yields_at 42 _ _ rfl (by rfl) rfl Try.underlying42 rfl (by rw [sa4.out]; exact sz42) (fun W hW => hW.a4)) H2_.out ?_
    try simp only [Act.put, List.getElem_toArray, List.getElem_cons_succ, List.getElem_cons_zero, List.setIfInBounds_toArray, List.set_cons_zero, List.set_cons_succ]
    refine wpAnyH_take (i := 9) (v := .agg (arrV key)) rfl (by kernel_rfl) (by kernel_rfl) (by kernel_rfl) (fun _ _ _ h => h) (yields_at 23 _ _ rfl (by rfl) rfl Try.underlying23 rfl (by rw [A.arrV_size, KL.out]; exact sz23) (fun W hW => hW.a3)) H2_.out ?_
    try simp only [Act.put, List.getElem_toArray, List.getElem_cons_succ, List.getElem_cons_zero, List.setIfInBounds_toArray, List.set_cons_zero, List.set_cons_succ]
    refine wpAnyH_take (i := 11) (v := .agg sa) rfl (by kernel_rfl) (by kernel_rfl) (by kernel_rfl) (fun _ _ _ h => h) (yields_at 42 _ _ rfl (by rfl) rfl Try.underlying42 rfl (by rw [sa4.out]; exact sz42) (fun W hW => hW.a4)) H2_.out ?_
    try simp only [Act.put, List.getElem_toArray, List.getElem_cons_succ, List.getElem_cons_zero, List.setIfInBounds_toArray, List.set_cons_zero, List.set_cons_succ]
    refine wpAnyH_ready (rs := [8]) (by kernel_rfl) (by simp) ?_
    refine AllReadyH.cons rfl (fun K hK => ?_) AllReadyH.nil
    go_simp
    go_at_call 19
    refine (PD1.out _ _ _ H2_.out.pp.has).mono ?_
    rintro e V3_ ⟨rfl, hb3_⟩
    have H3_ := Lib.hid (H2_.out.call hb3_)
    clear hb3_
    refine hK.out _ _ H3_.out (fun _ => ?_)
    clear hK K
    try simp only [Act.put, List.getElem_toArray, List.getElem_cons_succ, List.getElem_cons_zero, List.setIfInBounds_toArray, List.set_cons_zero, List.set_cons_succ]
    refine wpAnyH_ready (rs := [10]) (by kernel_rfl) (by simp) ?_
    refine AllReadyH.cons rfl (fun K hK => ?_) AllReadyH.nil
    go_simp
    go_at_call 8
    refine (OF.out _).mono ?_
    rintro e V4_ ⟨gt, c9, gb, cb, rfl, rk, hb4_⟩
    have H4_ := Lib.hid (H3_.out.call hb4_)
    have RK4 := Lib.hid rk
    clear hb4_ rk
    refine hK.out _ _ H4_.out (fun _ => ?_)
    clear hK K
    try simp only [Act.put, List.getElem_toArray, List.getElem_cons_succ, List.getElem_cons_zero, List.setIfInBounds_toArray, List.set_cons_zero, List.set_cons_succ]
    refine wpAnyH_ready (rs := [12]) (by kernel_rfl) (by simp) ?_
    refine AllReadyH.cons rfl (fun K hK => ?_) AllReadyH.nil
    go_simp
    go_at_call 18
    refine (RB1.out _).mono ?_
    rintro e V5_ ⟨rfl, hb5_⟩
    have H5_ := Lib.hid (H4_.out.call hb5_)
    have RK5 := Lib.hid (RK4.out.call hb5_)
    clear hb5_
    refine hK.out _ _ H5_.out (fun _ => ?_)
    clear hK K
    try simp only [Act.put, List.getElem_toArray, List.getElem_cons_succ, List.getElem_cons_zero, List.setIfInBounds_toArray, List.set_cons_zero, List.set_cons_succ]
    refine wpAnyH_ready (rs := [13]) (by kernel_rfl) (by simp) ?_
    refine AllReadyH.cons rfl (fun K hK => ?_) AllReadyH.nil
    go_simp
    go_at_call 20
    refine (RE1.out _ _ _ _ _ RK5.out).mono ?_
    rintro e V6_ ⟨rfl, hb6_⟩
    have H6_ := Lib.hid (H5_.out.call hb6_)
    clear hb6_
    refine hK.out _ _ H6_.out (fun _ => ?_)
    clear hK K
    try simp only [Act.put, List.getElem_toArray, List.getElem_cons_succ, List.getElem_cons_zero, List.setIfInBounds_toArray, List.set_cons_zero, List.set_cons_succ]
    refine wpAnyH_take (i := 14) (v := .bool false) rfl (by kernel_rfl) (by kernel_rfl) (by kernel_rfl) (fun _ _ _ h => h) (Or.inl ⟨by rfl, fun W hW => by clear hW; go_simp⟩) H6_.out ?_
    try simp only [Act.put, List.getElem_toArray, List.getElem_cons_succ, List.getElem_cons_zero, List.setIfInBounds_toArray, List.set_cons_zero, List.set_cons_succ]
    refine wpAnyH_take (i := 15) (v := .bool false) rfl (by kernel_rfl) (by kernel_rfl) (by kernel_rfl) (fun _ _ _ h => h) (Or.inl ⟨by rfl, fun W hW => by clear hW; go_simp⟩) H6_.out ?_
    try simp only [Act.put, List.getElem_toArray, List.getElem_cons_succ, List.getElem_cons_zero, List.setIfInBounds_toArray, List.set_cons_zero, List.set_cons_succ]
    refine wpAnyH_done (by kernel_rfl) ?_ _
    go_wp2
    have HH := Lib.hid H6_.out.drew
    refine wp_region_held_drew (S := fun W => LQ w g gc key b3 b4 b5 sa sbb W) (by kernel_rfl) HH.out (fun _ => ?_)
    generalize V6_.drew = V1 at *
    refine wpAnyH_take (i := 0) (v := .agg sa) rfl (by kernel_rfl) (by kernel_rfl) (by kernel_rfl) (fun _ _ _ h => h) (yields_at 42 _ _ rfl (by rfl) rfl Try.underlying42 rfl (by rw [sa4.out]; exact sz42) (fun W hW => hW.a4)) HH.out ?_
    try simp only [Act.put, List.getElem_toArray, List.getElem_cons_succ, List.getElem_cons_zero, List.setIfInBounds_toArray, List.set_cons_zero, List.set_cons_succ]
    refine wpAnyH_take (i := 2) (v := .agg sbb) rfl (by kernel_rfl) (by kernel_rfl) (by kernel_rfl) (fun _ _ _ h => h) (yields_at 42 _ _ rfl (by rfl) rfl Try.underlying42 rfl (by rw [sb4.out]; exact sz42) (fun W hW => hW.a5)) HH.out ?_
    try simp only [Act.put, List.getElem_toArray, List.getElem_cons_succ, List.getElem_cons_zero, List.setIfInBounds_toArray, List.set_cons_zero, List.set_cons_succ]
    refine wpAnyH_take (i := 5) (v := .bool true) rfl (by kernel_rfl) (by kernel_rfl) (by kernel_rfl) (fun _ _ _ h => h) (Or.inl ⟨by rfl, fun W hW => by clear hW; go_simp⟩) HH.out ?_
    try simp only [Act.put, List.getElem_toArray, List.getElem_cons_succ, List.getElem_cons_zero, List.setIfInBounds_toArray, List.set_cons_zero, List.set_cons_succ]
    refine wpAnyH_ready (rs := [1]) (by kernel_rfl) (by simp) ?_
    refine AllReadyH.cons rfl (fun K hK => ?_) AllReadyH.nil
    go_simp
    go_at_call 17
    refine (BY1.out _).mono ?_
    rintro e X1_ ⟨rfl, hb1_⟩
    have G1_ := Lib.hid (HH.out.call hb1_)
    clear hb1_
    refine hK.out _ _ G1_.out (fun _ => ?_)
    clear hK K
    try simp only [Act.put, List.getElem_toArray, List.getElem_cons_succ, List.getElem_cons_zero, List.setIfInBounds_toArray, List.set_cons_zero, List.set_cons_succ]
    refine wpAnyH_ready (rs := [3]) (by kernel_rfl) (by simp) ?_
    refine AllReadyH.cons rfl (fun K hK => ?_) AllReadyH.nil
    go_simp
    go_at_call 17
    refine (BY2.out _).mono ?_
    rintro e X2_ ⟨rfl, hb2_⟩
    have G2_ := Lib.hid (G1_.out.call hb2_)
    clear hb2_
    refine hK.out _ _ G2_.out (fun _ => ?_)
    clear hK K
    try simp only [Act.put, List.getElem_toArray, List.getElem_cons_succ, List.getElem_cons_zero, List.setIfInBounds_toArray, List.set_cons_zero, List.set_cons_succ]
    refine wpAnyH_take (i := 4) (v := .bool true) rfl (by kernel_rfl) (by kernel_rfl) (by kernel_rfl) (fun _ _ _ h => h) (Or.inl ⟨by rfl, fun W hW => by clear hW; go_simp⟩) G2_.out ?_
    try simp only [Act.put, List.getElem_toArray, List.getElem_cons_succ, List.getElem_cons_zero, List.setIfInBounds_toArray, List.set_cons_zero, List.set_cons_succ]
    refine wpAnyH_take (i := 6) (v := .bool true) rfl (by kernel_rfl) (by kernel_rfl) (by kernel_rfl) (fun _ _ _ h => h) (Or.inl ⟨by rfl, fun W hW => by clear hW; go_simp⟩) G2_.out ?_
    try simp only [Act.put, List.getElem_toArray, List.getElem_cons_succ, List.getElem_cons_zero, List.setIfInBounds_toArray, List.set_cons_zero, List.set_cons_succ]
    refine wpAnyH_take (i := 7) (v := .bool true) rfl (by kernel_rfl) (by kernel_rfl) (by kernel_rfl) (fun _ _ _ h => h) (Or.inl ⟨by rfl, fun W hW => by clear hW; go_simp⟩) G2_.out ?_
    try simp only [Act.put, List.getElem_toArray, List.getElem_cons_succ, List.getElem_cons_zero, List.setIfInBounds_toArray, List.set_cons_zero, List.set_cons_succ]
    refine wpAnyH_take (i := 8) (v := .pointer (some ⟨g, 0, none⟩)) rfl (by kernel_rfl) (by kernel_rfl) (by kernel_rfl) (fun _ _ _ h => h) (Or.inl ⟨by rfl, fun W hW => by clear hW; go_simp⟩) G2_.out ?_
    try simp only [Act.put, List.getElem_toArray, List.getElem_cons_succ, List.getElem_cons_zero, List.setIfInBounds_toArray, List.set_cons_zero, List.set_cons_succ]
    refine wpAnyH_take (i := 9) (v := .agg sa) rfl (by kernel_rfl) (by kernel_rfl) (by kernel_rfl) (fun _ _ _ h => h) (yields_at 42 _ _ rfl (by rfl) rfl Try.underlying42 rfl (by rw [sa4.out]; exact sz42) (fun W hW => hW.a4)) G2_.out ?_
    try simp only [Act.put, List.getElem_toArray, List.getElem_cons_succ, List.getElem_cons_zero, List.setIfInBounds_toArray, List.set_cons_zero, List.set_cons_succ]
    refine wpAnyH_take (i := 11) (v := .pointer (some ⟨g, 0, none⟩)) rfl (by kernel_rfl) (by kernel_rfl) (by kernel_rfl) (fun _ _ _ h => h) (Or.inl ⟨by rfl, fun W hW => by clear hW; go_simp⟩) G2_.out ?_
    try simp only [Act.put, List.getElem_toArray, List.getElem_cons_succ, List.getElem_cons_zero, List.setIfInBounds_toArray, List.set_cons_zero, List.set_cons_succ]
    refine wpAnyH_take (i := 12) (v := .agg sbb) rfl (by kernel_rfl) (by kernel_rfl) (by kernel_rfl) (fun _ _ _ h => h) (yields_at 42 _ _ rfl (by rfl) rfl Try.underlying42 rfl (by rw [sb4.out]; exact sz42) (fun W hW => hW.a5)) G2_.out ?_
    try simp only [Act.put, List.getElem_toArray, List.getElem_cons_succ, List.getElem_cons_zero, List.setIfInBounds_toArray, List.set_cons_zero, List.set_cons_succ]
    refine wpAnyH_take (i := 15) (v := .bool true) rfl (by kernel_rfl) (by kernel_rfl) (by kernel_rfl) (fun _ _ _ h => h) (Or.inl ⟨by rfl, fun W hW => by clear hW; go_simp⟩) G2_.out ?_
    try simp only [Act.put, List.getElem_toArray, List.getElem_cons_succ, List.getElem_cons_zero, List.setIfInBounds_toArray, List.set_cons_zero, List.set_cons_succ]
    refine wpAnyH_ready (rs := [10]) (by kernel_rfl) (by simp) ?_
    refine AllReadyH.cons rfl (fun K hK => ?_) AllReadyH.nil
    go_simp
    go_at_call 19
    refine (PD1.out _ _ _ G2_.out.pp.has).mono ?_
    rintro e X3_ ⟨rfl, hb3_⟩
    have G3_ := Lib.hid (G2_.out.call hb3_)
    clear hb3_
    refine hK.out _ _ G3_.out (fun _ => ?_)
    clear hK K
    try simp only [Act.put, List.getElem_toArray, List.getElem_cons_succ, List.getElem_cons_zero, List.setIfInBounds_toArray, List.set_cons_zero, List.set_cons_succ]
    refine wpAnyH_ready (rs := [13]) (by kernel_rfl) (by simp) ?_
    refine AllReadyH.cons rfl (fun K hK => ?_) AllReadyH.nil
    go_simp
    go_at_call 19
    refine (PD2.out _ _ _ G3_.out.pp.has).mono ?_
    rintro e X4_ ⟨rfl, hb4_⟩
    have G4_ := Lib.hid (G3_.out.call hb4_)
    clear hb4_
    refine hK.out _ _ G4_.out (fun _ => ?_)
    clear hK K
    try simp only [Act.put, List.getElem_toArray, List.getElem_cons_succ, List.getElem_cons_zero, List.setIfInBounds_toArray, List.set_cons_zero, List.set_cons_succ]
    refine wpAnyH_take (i := 14) (v := .bool true) rfl (by kernel_rfl) (by kernel_rfl) (by kernel_rfl) (fun _ _ _ h => h) (Or.inl ⟨by rfl, fun W hW => by clear hW; go_simp⟩) G4_.out ?_
    try simp only [Act.put, List.getElem_toArray, List.getElem_cons_succ, List.getElem_cons_zero, List.setIfInBounds_toArray, List.set_cons_zero, List.set_cons_succ]
    refine wpAnyH_take (i := 16) (v := .bool true) rfl (by kernel_rfl) (by kernel_rfl) (by kernel_rfl) (fun _ _ _ h => h) (Or.inl ⟨by rfl, fun W hW => by clear hW; go_simp⟩) G4_.out ?_
    try simp only [Act.put, List.getElem_toArray, List.getElem_cons_succ, List.getElem_cons_zero, List.setIfInBounds_toArray, List.set_cons_zero, List.set_cons_succ]
    refine wpAnyH_take (i := 17) (v := .bool true) rfl (by kernel_rfl) (by kernel_rfl) (by kernel_rfl) (fun _ _ _ h => h) (Or.inl ⟨by rfl, fun W hW => by clear hW; go_simp⟩) G4_.out ?_
    try simp only [Act.put, List.getElem_toArray, List.getElem_cons_succ, List.getElem_cons_zero, List.setIfInBounds_toArray, List.set_cons_zero, List.set_cons_succ]
    refine wpAnyH_take (i := 18) (v := .bool true) rfl (by kernel_rfl) (by kernel_rfl) (by kernel_rfl) (fun _ _ _ h => h) (Or.inl ⟨by rfl, fun W hW => by clear hW; go_simp⟩) G4_.out ?_
    try simp only [Act.put, List.getElem_toArray, List.getElem_cons_succ, List.getElem_cons_zero, List.setIfInBounds_toArray, List.set_cons_zero, List.set_cons_succ]
    refine wpAnyH_done (by kernel_rfl) ?_ _
    go_wp2
    go_ret
    exact ⟨rfl, G4_.out.pp.rest.bel⟩
end Go.Proofs.Ytfbgpfiodgibbaa
