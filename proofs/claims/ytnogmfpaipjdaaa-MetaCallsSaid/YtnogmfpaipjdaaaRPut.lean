/- The document's Put. No statement is proved here. -/
import Derived.Test.YtnogmfpaipjdaaaRDoc
namespace Go.Proofs.Ytnogmfpaipjdaaa
open Go.RowKit
open P (Pl right hasI vals)
set_option maxRecDepth 20000
set_option linter.unusedVariables false
set_option linter.unusedSimpArgs false
attribute [local irreducible] It.arr Cd.arr
section
variable {w W W' : World} {r : Nat} {p : Pl} {l : List Cd} {L M : Blks}
set_option maxHeartbeats 8000000 in
theorem rput_any (h : RC w W r p l L) (I : Inv p l) (k : Int) (x : It) (bs : List Nat) (hl : bs.length = 32) (hll : l.length ≤ 1000) :
    Calls Try.prog 10 #[.pointer (some ⟨r, 0, none⟩), .int .i64 k, .agg x.arr, .agg (lnA bs)] W fun e W' => e = .returned (.int .i64 (putK p l k x)) ∧ RC w W' r p (putL p l k x ⟨x, k, bs, false, hl⟩) L := by
  have FI := Lib.hid (fun V L (h : RC w V r p l L) => rfind_any h x)
  have TH := Lib.hid (fun V h => there_any (r := r) (p := p) k V h)
  have IT := Lib.hid (fun V => ritem_any I.rt x V)
  have RO := Lib.hid (fun V L (h : RC w V r p l L) => rroom_any h I.rt k)
  have LE := Lib.hid (show l.length + 1 ≤ 100000 by omega)
  have BU := Lib.hid (built59K x k bs hl)
  have no := fun (c : Cd) (h : putK p l k x ≠ 0) => show putL p l k x c = l from if_neg h
  cases hb : hasB p k with
  | false =>
    rw [hb] at TH
    have e1 : Hid (putK p l k x = 2) := show _ = _ by unfold putK; rw [hb]; rfl
    have e2 := Lib.hid (no ⟨x, k, bs, false, hl⟩ (by rw [e1.out]; decide))
    generalize putK p l k x = Z at *
    generalize putL p l k x ⟨x, k, bs, false, hl⟩ = l2 at *
    clear hb no BU I
    go_enter Try.func10, Try.ntmps10
    go_wp2_with (first
      | (refine wpList_box_itR h x _ rfl rfl rfl ?_; clear h; intro W1 h1; generalize W.heap.size = xb at *)
      | (have _ := h1; refine wpList_box_lnR h1 bs _ rfl rfl rfl ?_; clear h1; intro W2 h2; generalize W1.heap.size = yb at *))
    have HS0 := Lib.hid (RC.drew h2)
    have CB := Lib.hid (fun V (h : RC w V r p l ((yb, C 44 (lnA bs)) :: (xb, C 42 x.arr) :: L)) => show (loadVar 28 ⟨r, 0, none⟩).run Try.prog V = .ok (.agg p.arr) V ∧ (loadVar 42 ⟨xb, 0, none⟩).run Try.prog V = .ok (.agg x.arr) V from ⟨load_pl h.plan, load_itA (h.at2 1 rfl)⟩)
    have H0 := Lib.hid (CB.out _ HS0.out)
    clear h2
    refine wp_region_held_drew (S := fun W => (loadVar 28 ⟨r, 0, none⟩).run Try.prog W = .ok (.agg p.arr) W ∧ (loadVar 42 ⟨xb, 0, none⟩).run Try.prog W = .ok (.agg x.arr) W) (by kernel_rfl) H0.out (fun _ => ?_)
    generalize W2.drew = V0 at *
    refine wpAnyH_take (i := 0) (v := .pointer (some ⟨r, 0, none⟩)) rfl (by kernel_rfl) (by kernel_rfl) (by kernel_rfl) (fun _ _ _ h => h) (Or.inl ⟨by rfl, fun W hW => by clear hW; go_simp⟩) H0.out ?_
    try simp only [Act.put, List.getElem_toArray, List.getElem_cons_succ, List.getElem_cons_zero, List.setIfInBounds_toArray, List.set_cons_zero, List.set_cons_succ]
    refine wpAnyH_take (i := 1) (v := .int .i64 k) rfl (by kernel_rfl) (by kernel_rfl) (by kernel_rfl) (fun _ _ _ h => h) (Or.inl ⟨by rfl, fun W hW => by clear hW; go_simp⟩) H0.out ?_
    try simp only [Act.put, List.getElem_toArray, List.getElem_cons_succ, List.getElem_cons_zero, List.setIfInBounds_toArray, List.set_cons_zero, List.set_cons_succ]
    refine wpAnyH_ready (rs := [2]) (by kernel_rfl) (by simp) ?_
    refine AllReadyH.cons rfl (fun K hK => ?_) AllReadyH.nil
    go_simp
    go_at_call 33
    refine (TH.out _ (RC.c1 HS0.out)).mono ?_
    rintro e V1 ⟨rfl, rfl⟩
    have H1_ := Lib.hid (H0.out)
    refine hK.out _ _ H1_.out (fun _ => ?_)
    clear hK K
    try simp only [Act.put, List.getElem_toArray, List.getElem_cons_succ, List.getElem_cons_zero, List.setIfInBounds_toArray, List.set_cons_zero, List.set_cons_succ]
    refine wpAnyH_take (i := 3) (v := .bool true) rfl (by kernel_rfl) (by kernel_rfl) (by kernel_rfl) (fun _ _ _ h => h) (Or.inl ⟨by rfl, fun W hW => by clear hW; go_simp⟩) H1_.out ?_
    try simp only [Act.put, List.getElem_toArray, List.getElem_cons_succ, List.getElem_cons_zero, List.setIfInBounds_toArray, List.set_cons_zero, List.set_cons_succ]
    refine wpAnyH_take (i := 4) (v := .bool true) rfl (by kernel_rfl) (by kernel_rfl) (by kernel_rfl) (fun _ _ _ h => h) (Or.inl ⟨by rfl, fun W hW => by clear hW; go_simp⟩) H1_.out ?_
    try simp only [Act.put, List.getElem_toArray, List.getElem_cons_succ, List.getElem_cons_zero, List.setIfInBounds_toArray, List.set_cons_zero, List.set_cons_succ]
    refine wpAnyH_take (i := 5) (v := undef) rfl (by kernel_rfl) (by kernel_rfl) (by kernel_rfl) (fun _ _ _ h => h) (Or.inr ⟨by rfl, rfl⟩) H1_.out ?_
    try simp only [Act.put, List.getElem_toArray, List.getElem_cons_succ, List.getElem_cons_zero, List.setIfInBounds_toArray, List.set_cons_zero, List.set_cons_succ]
    refine wpAnyH_take (i := 6) (v := undef) rfl (by kernel_rfl) (by kernel_rfl) (by kernel_rfl) (fun _ _ _ h => h) (Or.inr ⟨by rfl, rfl⟩) H1_.out ?_
    try simp only [Act.put, List.getElem_toArray, List.getElem_cons_succ, List.getElem_cons_zero, List.setIfInBounds_toArray, List.set_cons_zero, List.set_cons_succ]
    refine wpAnyH_take (i := 7) (v := undef) rfl (by kernel_rfl) (by kernel_rfl) (by kernel_rfl) (fun _ _ _ h => h) (Or.inr ⟨by rfl, rfl⟩) H1_.out ?_
    try simp only [Act.put, List.getElem_toArray, List.getElem_cons_succ, List.getElem_cons_zero, List.setIfInBounds_toArray, List.set_cons_zero, List.set_cons_succ]
    refine wpAnyH_take (i := 8) (v := undef) rfl (by kernel_rfl) (by kernel_rfl) (by kernel_rfl) (fun _ _ _ h => h) (Or.inr ⟨by rfl, rfl⟩) H1_.out ?_
    try simp only [Act.put, List.getElem_toArray, List.getElem_cons_succ, List.getElem_cons_zero, List.setIfInBounds_toArray, List.set_cons_zero, List.set_cons_succ]
    refine wpAnyH_take (i := 9) (v := undef) rfl (by kernel_rfl) (by kernel_rfl) (by kernel_rfl) (fun _ _ _ h => h) (Or.inr ⟨by rfl, rfl⟩) H1_.out ?_
    try simp only [Act.put, List.getElem_toArray, List.getElem_cons_succ, List.getElem_cons_zero, List.setIfInBounds_toArray, List.set_cons_zero, List.set_cons_succ]
    refine wpAnyH_take (i := 10) (v := undef) rfl (by kernel_rfl) (by kernel_rfl) (by kernel_rfl) (fun _ _ _ h => h) (Or.inr ⟨by rfl, rfl⟩) H1_.out ?_
    try simp only [Act.put, List.getElem_toArray, List.getElem_cons_succ, List.getElem_cons_zero, List.setIfInBounds_toArray, List.set_cons_zero, List.set_cons_succ]
    refine wpAnyH_take (i := 11) (v := undef) rfl (by kernel_rfl) (by kernel_rfl) (by kernel_rfl) (fun _ _ _ h => h) (Or.inr ⟨by rfl, rfl⟩) H1_.out ?_
    try simp only [Act.put, List.getElem_toArray, List.getElem_cons_succ, List.getElem_cons_zero, List.setIfInBounds_toArray, List.set_cons_zero, List.set_cons_succ]
    refine wpAnyH_take (i := 12) (v := .bool true) rfl (by kernel_rfl) (by kernel_rfl) (by kernel_rfl) (fun _ _ _ h => h) (Or.inl ⟨by rfl, fun W hW => by clear hW; go_simp⟩) H1_.out ?_
    try simp only [Act.put, List.getElem_toArray, List.getElem_cons_succ, List.getElem_cons_zero, List.setIfInBounds_toArray, List.set_cons_zero, List.set_cons_succ]
    refine wpAnyH_done (by kernel_rfl) ?_ _
    have h3 := HS0.out
    clear H0 H1_ HS0 CB
    go_wp2
    go_ret
    exact ⟨by rw [e1.out]; rfl, by rw [e2.out]; exact h3.tail.tail⟩
  | true =>
  rw [hb] at TH
  cases hi : isIt p x with
  | false =>
    rw [hi] at IT
    have e1 : Hid (putK p l k x = 2) := show _ = _ by unfold putK; rw [hb, hi]; rfl
    have e2 := Lib.hid (no ⟨x, k, bs, false, hl⟩ (by rw [e1.out]; decide))
    generalize putK p l k x = Z at *
    generalize putL p l k x ⟨x, k, bs, false, hl⟩ = l2 at *
    clear hb no BU I hi
    go_enter Try.func10, Try.ntmps10
    go_wp2_with (first
      | (refine wpList_box_itR h x _ rfl rfl rfl ?_; clear h; intro W1 h1; generalize W.heap.size = xb at *)
      | (have _ := h1; refine wpList_box_lnR h1 bs _ rfl rfl rfl ?_; clear h1; intro W2 h2; generalize W1.heap.size = yb at *))
    have HS0 := Lib.hid (RC.drew h2)
    have CB := Lib.hid (fun V (h : RC w V r p l ((yb, C 44 (lnA bs)) :: (xb, C 42 x.arr) :: L)) => show (loadVar 28 ⟨r, 0, none⟩).run Try.prog V = .ok (.agg p.arr) V ∧ (loadVar 42 ⟨xb, 0, none⟩).run Try.prog V = .ok (.agg x.arr) V from ⟨load_pl h.plan, load_itA (h.at2 1 rfl)⟩)
    have H0 := Lib.hid (CB.out _ HS0.out)
    clear h2
    refine wp_region_held_drew (S := fun W => (loadVar 28 ⟨r, 0, none⟩).run Try.prog W = .ok (.agg p.arr) W ∧ (loadVar 42 ⟨xb, 0, none⟩).run Try.prog W = .ok (.agg x.arr) W) (by kernel_rfl) H0.out (fun _ => ?_)
    generalize W2.drew = V0 at *
    refine wpAnyH_take (i := 0) (v := .pointer (some ⟨r, 0, none⟩)) rfl (by kernel_rfl) (by kernel_rfl) (by kernel_rfl) (fun _ _ _ h => h) (Or.inl ⟨by rfl, fun W hW => by clear hW; go_simp⟩) H0.out ?_
    try simp only [Act.put, List.getElem_toArray, List.getElem_cons_succ, List.getElem_cons_zero, List.setIfInBounds_toArray, List.set_cons_zero, List.set_cons_succ]
    refine wpAnyH_take (i := 1) (v := .int .i64 k) rfl (by kernel_rfl) (by kernel_rfl) (by kernel_rfl) (fun _ _ _ h => h) (Or.inl ⟨by rfl, fun W hW => by clear hW; go_simp⟩) H0.out ?_
    try simp only [Act.put, List.getElem_toArray, List.getElem_cons_succ, List.getElem_cons_zero, List.setIfInBounds_toArray, List.set_cons_zero, List.set_cons_succ]
    refine wpAnyH_ready (rs := [2]) (by kernel_rfl) (by simp) ?_
    refine AllReadyH.cons rfl (fun K hK => ?_) AllReadyH.nil
    go_simp
    go_at_call 33
    refine (TH.out _ (RC.c1 HS0.out)).mono ?_
    rintro e V1 ⟨rfl, rfl⟩
    have H1_ := Lib.hid (H0.out)
    refine hK.out _ _ H1_.out (fun _ => ?_)
    clear hK K
    try simp only [Act.put, List.getElem_toArray, List.getElem_cons_succ, List.getElem_cons_zero, List.setIfInBounds_toArray, List.set_cons_zero, List.set_cons_succ]
    refine wpAnyH_take (i := 3) (v := .bool false) rfl (by kernel_rfl) (by kernel_rfl) (by kernel_rfl) (fun _ _ _ h => h) (Or.inl ⟨by rfl, fun W hW => by clear hW; go_simp⟩) H1_.out ?_
    try simp only [Act.put, List.getElem_toArray, List.getElem_cons_succ, List.getElem_cons_zero, List.setIfInBounds_toArray, List.set_cons_zero, List.set_cons_succ]
    refine wpAnyH_take (i := 4) (v := .bool false) rfl (by kernel_rfl) (by kernel_rfl) (by kernel_rfl) (fun _ _ _ h => h) (Or.inl ⟨by rfl, fun W hW => by clear hW; go_simp⟩) H1_.out ?_
    try simp only [Act.put, List.getElem_toArray, List.getElem_cons_succ, List.getElem_cons_zero, List.setIfInBounds_toArray, List.set_cons_zero, List.set_cons_succ]
    refine wpAnyH_take (i := 5) (v := .pointer (some ⟨r, 0, none⟩)) rfl (by kernel_rfl) (by kernel_rfl) (by kernel_rfl) (fun _ _ _ h => h) (Or.inl ⟨by rfl, fun W hW => by clear hW; go_simp⟩) H1_.out ?_
    try simp only [Act.put, List.getElem_toArray, List.getElem_cons_succ, List.getElem_cons_zero, List.setIfInBounds_toArray, List.set_cons_zero, List.set_cons_succ]
    refine wpAnyH_take (i := 6) (v := .pointer (some ⟨r, 0, none⟩)) rfl (by kernel_rfl) (by kernel_rfl) (by kernel_rfl) (fun _ _ _ h => h) (Or.inl ⟨by rfl, fun W hW => by clear hW; go_simp⟩) H1_.out ?_
    try simp only [Act.put, List.getElem_toArray, List.getElem_cons_succ, List.getElem_cons_zero, List.setIfInBounds_toArray, List.set_cons_zero, List.set_cons_succ]
    refine wpAnyH_take (i := 7) (v := .pointer (some ⟨r, 0, none⟩)) rfl (by kernel_rfl) (by kernel_rfl) (by kernel_rfl) (fun _ _ _ h => h) (Or.inl ⟨by rfl, fun W hW => by clear hW; go_simp⟩) H1_.out ?_
    try simp only [Act.put, List.getElem_toArray, List.getElem_cons_succ, List.getElem_cons_zero, List.setIfInBounds_toArray, List.set_cons_zero, List.set_cons_succ]
    refine wpAnyH_take (i := 8) (v := .agg p.arr) rfl (by kernel_rfl) (by kernel_rfl) (by kernel_rfl) (fun _ _ _ h => h) (yields_run _ rfl (by rfl) rfl (fun W hW => hW.1)) H1_.out ?_
    try simp only [Act.put, List.getElem_toArray, List.getElem_cons_succ, List.getElem_cons_zero, List.setIfInBounds_toArray, List.set_cons_zero, List.set_cons_succ]
    refine wpAnyH_take (i := 9) (v := .agg x.arr) rfl (by kernel_rfl) (by kernel_rfl) (by kernel_rfl) (fun _ _ _ h => h) (yields_run _ rfl (by rfl) rfl (fun W hW => hW.2)) H1_.out ?_
    try simp only [Act.put, List.getElem_toArray, List.getElem_cons_succ, List.getElem_cons_zero, List.setIfInBounds_toArray, List.set_cons_zero, List.set_cons_succ]
    refine wpAnyH_ready (rs := [10]) (by kernel_rfl) (by simp) ?_
    refine AllReadyH.cons rfl (fun K hK => ?_) AllReadyH.nil
    go_simp
    go_at_call 34
    refine (IT.out _).mono ?_
    rintro e V2 ⟨rfl, hb2⟩
    have HS2 := Lib.hid (HS0.out.call hb2)
    clear hb2
    have H2_ := Lib.hid (CB.out _ HS2.out)
    refine hK.out _ _ H2_.out (fun _ => ?_)
    clear hK K
    try simp only [Act.put, List.getElem_toArray, List.getElem_cons_succ, List.getElem_cons_zero, List.setIfInBounds_toArray, List.set_cons_zero, List.set_cons_succ]
    refine wpAnyH_take (i := 11) (v := .bool true) rfl (by kernel_rfl) (by kernel_rfl) (by kernel_rfl) (fun _ _ _ h => h) (Or.inl ⟨by rfl, fun W hW => by clear hW; go_simp⟩) H2_.out ?_
    try simp only [Act.put, List.getElem_toArray, List.getElem_cons_succ, List.getElem_cons_zero, List.setIfInBounds_toArray, List.set_cons_zero, List.set_cons_succ]
    refine wpAnyH_take (i := 12) (v := .bool true) rfl (by kernel_rfl) (by kernel_rfl) (by kernel_rfl) (fun _ _ _ h => h) (Or.inl ⟨by rfl, fun W hW => by clear hW; go_simp⟩) H2_.out ?_
    try simp only [Act.put, List.getElem_toArray, List.getElem_cons_succ, List.getElem_cons_zero, List.setIfInBounds_toArray, List.set_cons_zero, List.set_cons_succ]
    refine wpAnyH_done (by kernel_rfl) ?_ _
    have h3 := HS2.out
    clear H0 H1_ HS0 CB
    go_wp2
    go_ret
    exact ⟨by rw [e1.out]; rfl, by rw [e2.out]; exact h3.tail.tail⟩
  | true =>
  rw [hi] at IT
  rcases fI_spec l x with ⟨hf, ei⟩ | ⟨j, c, hf, hk, ei⟩
  · rw [ei] at FI
    by_cases hro : roomV p l k = 0
    · have e1 : Hid (putK p l k x = 5) := show _ = _ by unfold putK; rw [hb, hi, hf, hro]; rfl
      have e2 := Lib.hid (no ⟨x, k, bs, false, hl⟩ (by rw [e1.out]; decide))
      have q7 : (roomV p l k = 0) = True := eq_true hro
      have q8 : (roomV p l k == 0) = true := by simpa using hro
      generalize roomV p l k = RV at *
      generalize putK p l k x = Z at *
      generalize putL p l k x ⟨x, k, bs, false, hl⟩ = l2 at *
      clear hb no BU I hi ei hf
      go_enter Try.func10, Try.ntmps10
      go_wp2_with (first
        | (refine wpList_box_itR h x _ rfl rfl rfl ?_; clear h; intro W1 h1; generalize W.heap.size = xb at *)
        | (have _ := h1; refine wpList_box_lnR h1 bs _ rfl rfl rfl ?_; clear h1; intro W2 h2; generalize W1.heap.size = yb at *))
      have HS0 := Lib.hid (RC.drew h2)
      have CB := Lib.hid (fun V (h : RC w V r p l ((yb, C 44 (lnA bs)) :: (xb, C 42 x.arr) :: L)) => show (loadVar 28 ⟨r, 0, none⟩).run Try.prog V = .ok (.agg p.arr) V ∧ (loadVar 42 ⟨xb, 0, none⟩).run Try.prog V = .ok (.agg x.arr) V from ⟨load_pl h.plan, load_itA (h.at2 1 rfl)⟩)
      have H0 := Lib.hid (CB.out _ HS0.out)
      clear h2
      refine wp_region_held_drew (S := fun W => (loadVar 28 ⟨r, 0, none⟩).run Try.prog W = .ok (.agg p.arr) W ∧ (loadVar 42 ⟨xb, 0, none⟩).run Try.prog W = .ok (.agg x.arr) W) (by kernel_rfl) H0.out (fun _ => ?_)
      generalize W2.drew = V0 at *
      refine wpAnyH_take (i := 0) (v := .pointer (some ⟨r, 0, none⟩)) rfl (by kernel_rfl) (by kernel_rfl) (by kernel_rfl) (fun _ _ _ h => h) (Or.inl ⟨by rfl, fun W hW => by clear hW; go_simp⟩) H0.out ?_
      try simp only [Act.put, List.getElem_toArray, List.getElem_cons_succ, List.getElem_cons_zero, List.setIfInBounds_toArray, List.set_cons_zero, List.set_cons_succ]
      refine wpAnyH_take (i := 1) (v := .int .i64 k) rfl (by kernel_rfl) (by kernel_rfl) (by kernel_rfl) (fun _ _ _ h => h) (Or.inl ⟨by rfl, fun W hW => by clear hW; go_simp⟩) H0.out ?_
      try simp only [Act.put, List.getElem_toArray, List.getElem_cons_succ, List.getElem_cons_zero, List.setIfInBounds_toArray, List.set_cons_zero, List.set_cons_succ]
      refine wpAnyH_ready (rs := [2]) (by kernel_rfl) (by simp) ?_
      refine AllReadyH.cons rfl (fun K hK => ?_) AllReadyH.nil
      go_simp
      go_at_call 33
      refine (TH.out _ (RC.c1 HS0.out)).mono ?_
      rintro e V1 ⟨rfl, rfl⟩
      have H1_ := Lib.hid (H0.out)
      refine hK.out _ _ H1_.out (fun _ => ?_)
      clear hK K
      try simp only [Act.put, List.getElem_toArray, List.getElem_cons_succ, List.getElem_cons_zero, List.setIfInBounds_toArray, List.set_cons_zero, List.set_cons_succ]
      refine wpAnyH_take (i := 3) (v := .bool false) rfl (by kernel_rfl) (by kernel_rfl) (by kernel_rfl) (fun _ _ _ h => h) (Or.inl ⟨by rfl, fun W hW => by clear hW; go_simp⟩) H1_.out ?_
      try simp only [Act.put, List.getElem_toArray, List.getElem_cons_succ, List.getElem_cons_zero, List.setIfInBounds_toArray, List.set_cons_zero, List.set_cons_succ]
      refine wpAnyH_take (i := 4) (v := .bool false) rfl (by kernel_rfl) (by kernel_rfl) (by kernel_rfl) (fun _ _ _ h => h) (Or.inl ⟨by rfl, fun W hW => by clear hW; go_simp⟩) H1_.out ?_
      try simp only [Act.put, List.getElem_toArray, List.getElem_cons_succ, List.getElem_cons_zero, List.setIfInBounds_toArray, List.set_cons_zero, List.set_cons_succ]
      refine wpAnyH_take (i := 5) (v := .pointer (some ⟨r, 0, none⟩)) rfl (by kernel_rfl) (by kernel_rfl) (by kernel_rfl) (fun _ _ _ h => h) (Or.inl ⟨by rfl, fun W hW => by clear hW; go_simp⟩) H1_.out ?_
      try simp only [Act.put, List.getElem_toArray, List.getElem_cons_succ, List.getElem_cons_zero, List.setIfInBounds_toArray, List.set_cons_zero, List.set_cons_succ]
      refine wpAnyH_take (i := 6) (v := .pointer (some ⟨r, 0, none⟩)) rfl (by kernel_rfl) (by kernel_rfl) (by kernel_rfl) (fun _ _ _ h => h) (Or.inl ⟨by rfl, fun W hW => by clear hW; go_simp⟩) H1_.out ?_
      try simp only [Act.put, List.getElem_toArray, List.getElem_cons_succ, List.getElem_cons_zero, List.setIfInBounds_toArray, List.set_cons_zero, List.set_cons_succ]
      refine wpAnyH_take (i := 7) (v := .pointer (some ⟨r, 0, none⟩)) rfl (by kernel_rfl) (by kernel_rfl) (by kernel_rfl) (fun _ _ _ h => h) (Or.inl ⟨by rfl, fun W hW => by clear hW; go_simp⟩) H1_.out ?_
      try simp only [Act.put, List.getElem_toArray, List.getElem_cons_succ, List.getElem_cons_zero, List.setIfInBounds_toArray, List.set_cons_zero, List.set_cons_succ]
      refine wpAnyH_take (i := 8) (v := .agg p.arr) rfl (by kernel_rfl) (by kernel_rfl) (by kernel_rfl) (fun _ _ _ h => h) (yields_run _ rfl (by rfl) rfl (fun W hW => hW.1)) H1_.out ?_
      try simp only [Act.put, List.getElem_toArray, List.getElem_cons_succ, List.getElem_cons_zero, List.setIfInBounds_toArray, List.set_cons_zero, List.set_cons_succ]
      refine wpAnyH_take (i := 9) (v := .agg x.arr) rfl (by kernel_rfl) (by kernel_rfl) (by kernel_rfl) (fun _ _ _ h => h) (yields_run _ rfl (by rfl) rfl (fun W hW => hW.2)) H1_.out ?_
      try simp only [Act.put, List.getElem_toArray, List.getElem_cons_succ, List.getElem_cons_zero, List.setIfInBounds_toArray, List.set_cons_zero, List.set_cons_succ]
      refine wpAnyH_ready (rs := [10]) (by kernel_rfl) (by simp) ?_
      refine AllReadyH.cons rfl (fun K hK => ?_) AllReadyH.nil
      go_simp
      go_at_call 34
      refine (IT.out _).mono ?_
      rintro e V2 ⟨rfl, hb2⟩
      have HS2 := Lib.hid (HS0.out.call hb2)
      clear hb2
      have H2_ := Lib.hid (CB.out _ HS2.out)
      refine hK.out _ _ H2_.out (fun _ => ?_)
      clear hK K
      try simp only [Act.put, List.getElem_toArray, List.getElem_cons_succ, List.getElem_cons_zero, List.setIfInBounds_toArray, List.set_cons_zero, List.set_cons_succ]
      refine wpAnyH_take (i := 11) (v := .bool false) rfl (by kernel_rfl) (by kernel_rfl) (by kernel_rfl) (fun _ _ _ h => h) (Or.inl ⟨by rfl, fun W hW => by clear hW; go_simp⟩) H2_.out ?_
      try simp only [Act.put, List.getElem_toArray, List.getElem_cons_succ, List.getElem_cons_zero, List.setIfInBounds_toArray, List.set_cons_zero, List.set_cons_succ]
      refine wpAnyH_take (i := 12) (v := .bool false) rfl (by kernel_rfl) (by kernel_rfl) (by kernel_rfl) (fun _ _ _ h => h) (Or.inl ⟨by rfl, fun W hW => by clear hW; go_simp⟩) H2_.out ?_
      try simp only [Act.put, List.getElem_toArray, List.getElem_cons_succ, List.getElem_cons_zero, List.setIfInBounds_toArray, List.set_cons_zero, List.set_cons_succ]
      refine wpAnyH_done (by kernel_rfl) ?_ _
      have h3 := HS2.out
      clear H0 H1_ HS0 CB
      have q1 : World.rangeAt _ xb 0 (Elt.cs x) := at_it (h3.at2 1 rfl)
      go_wp2_with (first
        | (have _ := q1; refine wpList_loadIt (e := x) q1 _ rfl rfl rfl ?_; clear q1)
        | (have _ := h3; go_at_call 20; refine (FI.out _ _ h3).mono ?_; rintro e W4 ⟨rfl, hb4⟩; have h4 := h3.call hb4; clear h3 FI)
        | (have _ := h4; go_at_call 22; refine (RO.out _ _ h4).mono ?_; rintro e W5 ⟨rfl, j5, rfl⟩; have h5 := h4.drewN j5; clear h4 RO))
      go_ret
      exact ⟨by rw [e1.out]; rfl, by rw [e2.out]; exact h5.tail.tail⟩
    · have e1 : Hid (putK p l k x = 0) := show _ = _ by unfold putK; rw [hb, hi, hf]; exact if_neg hro
      have e2 : Hid (putL p l k x ⟨x, k, bs, false, hl⟩ = l ++ [⟨x, k, bs, false, hl⟩]) := if_pos e1.out
      have q7 : (roomV p l k = 0) = False := eq_false hro
      have q8 : (roomV p l k == 0) = false := by simpa using hro
      generalize roomV p l k = RV at *
      generalize putK p l k x = Z at *
      generalize putL p l k x ⟨x, k, bs, false, hl⟩ = l2 at *
      replace BU : Hid (_ = some (Cd.arr ⟨x, k, bs, false, hl⟩)) := BU
      generalize (⟨x, k, bs, false, hl⟩ : Cd) = D at *
      clear hb no I hi ei hf
      go_enter Try.func10, Try.ntmps10
      go_wp2_with (first
        | (refine wpList_box_itR h x _ rfl rfl rfl ?_; clear h; intro W1 h1; generalize W.heap.size = xb at *)
        | (have _ := h1; refine wpList_box_lnR h1 bs _ rfl rfl rfl ?_; clear h1; intro W2 h2; generalize W1.heap.size = yb at *))
      have HS0 := Lib.hid (RC.drew h2)
      have CB := Lib.hid (fun V (h : RC w V r p l ((yb, C 44 (lnA bs)) :: (xb, C 42 x.arr) :: L)) => show (loadVar 28 ⟨r, 0, none⟩).run Try.prog V = .ok (.agg p.arr) V ∧ (loadVar 42 ⟨xb, 0, none⟩).run Try.prog V = .ok (.agg x.arr) V from ⟨load_pl h.plan, load_itA (h.at2 1 rfl)⟩)
      have H0 := Lib.hid (CB.out _ HS0.out)
      clear h2
      refine wp_region_held_drew (S := fun W => (loadVar 28 ⟨r, 0, none⟩).run Try.prog W = .ok (.agg p.arr) W ∧ (loadVar 42 ⟨xb, 0, none⟩).run Try.prog W = .ok (.agg x.arr) W) (by kernel_rfl) H0.out (fun _ => ?_)
      generalize W2.drew = V0 at *
      refine wpAnyH_take (i := 0) (v := .pointer (some ⟨r, 0, none⟩)) rfl (by kernel_rfl) (by kernel_rfl) (by kernel_rfl) (fun _ _ _ h => h) (Or.inl ⟨by rfl, fun W hW => by clear hW; go_simp⟩) H0.out ?_
      try simp only [Act.put, List.getElem_toArray, List.getElem_cons_succ, List.getElem_cons_zero, List.setIfInBounds_toArray, List.set_cons_zero, List.set_cons_succ]
      refine wpAnyH_take (i := 1) (v := .int .i64 k) rfl (by kernel_rfl) (by kernel_rfl) (by kernel_rfl) (fun _ _ _ h => h) (Or.inl ⟨by rfl, fun W hW => by clear hW; go_simp⟩) H0.out ?_
      try simp only [Act.put, List.getElem_toArray, List.getElem_cons_succ, List.getElem_cons_zero, List.setIfInBounds_toArray, List.set_cons_zero, List.set_cons_succ]
      refine wpAnyH_ready (rs := [2]) (by kernel_rfl) (by simp) ?_
      refine AllReadyH.cons rfl (fun K hK => ?_) AllReadyH.nil
      go_simp
      go_at_call 33
      refine (TH.out _ (RC.c1 HS0.out)).mono ?_
      rintro e V1 ⟨rfl, rfl⟩
      have H1_ := Lib.hid (H0.out)
      refine hK.out _ _ H1_.out (fun _ => ?_)
      clear hK K
      try simp only [Act.put, List.getElem_toArray, List.getElem_cons_succ, List.getElem_cons_zero, List.setIfInBounds_toArray, List.set_cons_zero, List.set_cons_succ]
      refine wpAnyH_take (i := 3) (v := .bool false) rfl (by kernel_rfl) (by kernel_rfl) (by kernel_rfl) (fun _ _ _ h => h) (Or.inl ⟨by rfl, fun W hW => by clear hW; go_simp⟩) H1_.out ?_
      try simp only [Act.put, List.getElem_toArray, List.getElem_cons_succ, List.getElem_cons_zero, List.setIfInBounds_toArray, List.set_cons_zero, List.set_cons_succ]
      refine wpAnyH_take (i := 4) (v := .bool false) rfl (by kernel_rfl) (by kernel_rfl) (by kernel_rfl) (fun _ _ _ h => h) (Or.inl ⟨by rfl, fun W hW => by clear hW; go_simp⟩) H1_.out ?_
      try simp only [Act.put, List.getElem_toArray, List.getElem_cons_succ, List.getElem_cons_zero, List.setIfInBounds_toArray, List.set_cons_zero, List.set_cons_succ]
      refine wpAnyH_take (i := 5) (v := .pointer (some ⟨r, 0, none⟩)) rfl (by kernel_rfl) (by kernel_rfl) (by kernel_rfl) (fun _ _ _ h => h) (Or.inl ⟨by rfl, fun W hW => by clear hW; go_simp⟩) H1_.out ?_
      try simp only [Act.put, List.getElem_toArray, List.getElem_cons_succ, List.getElem_cons_zero, List.setIfInBounds_toArray, List.set_cons_zero, List.set_cons_succ]
      refine wpAnyH_take (i := 6) (v := .pointer (some ⟨r, 0, none⟩)) rfl (by kernel_rfl) (by kernel_rfl) (by kernel_rfl) (fun _ _ _ h => h) (Or.inl ⟨by rfl, fun W hW => by clear hW; go_simp⟩) H1_.out ?_
      try simp only [Act.put, List.getElem_toArray, List.getElem_cons_succ, List.getElem_cons_zero, List.setIfInBounds_toArray, List.set_cons_zero, List.set_cons_succ]
      refine wpAnyH_take (i := 7) (v := .pointer (some ⟨r, 0, none⟩)) rfl (by kernel_rfl) (by kernel_rfl) (by kernel_rfl) (fun _ _ _ h => h) (Or.inl ⟨by rfl, fun W hW => by clear hW; go_simp⟩) H1_.out ?_
      try simp only [Act.put, List.getElem_toArray, List.getElem_cons_succ, List.getElem_cons_zero, List.setIfInBounds_toArray, List.set_cons_zero, List.set_cons_succ]
      refine wpAnyH_take (i := 8) (v := .agg p.arr) rfl (by kernel_rfl) (by kernel_rfl) (by kernel_rfl) (fun _ _ _ h => h) (yields_run _ rfl (by rfl) rfl (fun W hW => hW.1)) H1_.out ?_
      try simp only [Act.put, List.getElem_toArray, List.getElem_cons_succ, List.getElem_cons_zero, List.setIfInBounds_toArray, List.set_cons_zero, List.set_cons_succ]
      refine wpAnyH_take (i := 9) (v := .agg x.arr) rfl (by kernel_rfl) (by kernel_rfl) (by kernel_rfl) (fun _ _ _ h => h) (yields_run _ rfl (by rfl) rfl (fun W hW => hW.2)) H1_.out ?_
      try simp only [Act.put, List.getElem_toArray, List.getElem_cons_succ, List.getElem_cons_zero, List.setIfInBounds_toArray, List.set_cons_zero, List.set_cons_succ]
      refine wpAnyH_ready (rs := [10]) (by kernel_rfl) (by simp) ?_
      refine AllReadyH.cons rfl (fun K hK => ?_) AllReadyH.nil
      go_simp
      go_at_call 34
      refine (IT.out _).mono ?_
      rintro e V2 ⟨rfl, hb2⟩
      have HS2 := Lib.hid (HS0.out.call hb2)
      clear hb2
      have H2_ := Lib.hid (CB.out _ HS2.out)
      refine hK.out _ _ H2_.out (fun _ => ?_)
      clear hK K
      try simp only [Act.put, List.getElem_toArray, List.getElem_cons_succ, List.getElem_cons_zero, List.setIfInBounds_toArray, List.set_cons_zero, List.set_cons_succ]
      refine wpAnyH_take (i := 11) (v := .bool false) rfl (by kernel_rfl) (by kernel_rfl) (by kernel_rfl) (fun _ _ _ h => h) (Or.inl ⟨by rfl, fun W hW => by clear hW; go_simp⟩) H2_.out ?_
      try simp only [Act.put, List.getElem_toArray, List.getElem_cons_succ, List.getElem_cons_zero, List.setIfInBounds_toArray, List.set_cons_zero, List.set_cons_succ]
      refine wpAnyH_take (i := 12) (v := .bool false) rfl (by kernel_rfl) (by kernel_rfl) (by kernel_rfl) (fun _ _ _ h => h) (Or.inl ⟨by rfl, fun W hW => by clear hW; go_simp⟩) H2_.out ?_
      try simp only [Act.put, List.getElem_toArray, List.getElem_cons_succ, List.getElem_cons_zero, List.setIfInBounds_toArray, List.set_cons_zero, List.set_cons_succ]
      refine wpAnyH_done (by kernel_rfl) ?_ _
      have h3 := HS2.out
      clear H0 H1_ HS0 CB
      have q1 : World.rangeAt _ xb 0 (Elt.cs x) := at_it (h3.at2 1 rfl)
      go_wp2_with (first
        | (have _ := q1; refine wpList_loadIt (e := x) q1 _ rfl rfl rfl ?_; clear q1)
        | (have _ := h3; go_at_call 20; refine (FI.out _ _ h3).mono ?_; rintro e W4 ⟨rfl, hb4⟩; have h4 := h3.call hb4; clear h3 FI)
        | (have _ := h4; go_at_call 22; refine (RO.out _ _ h4).mono ?_; rintro e W5 ⟨rfl, j5, rfl⟩; have h5 := h4.drewN j5; clear h4 RO))
      have h9 := h5
      clear h5
      obtain ⟨A, q, hx⟩ := RC.open_ (show RC w _ r p l ((yb, C 44 (lnA bs)) :: (xb, C 42 x.arr) :: L) from RC.drew h9)
      clear h9
      generalize hNN : List.length l = N at hx
      have CB := Lib.hid (fun (V : World) v l9 M9 (h : RX w V r p (.slice A N q) v l9 M9) (hm : ∀ y ∈ ((yb, C 44 (lnA bs)) :: (xb, C 42 x.arr) :: L), y ∈ M9) => show V.cell? ⟨r, 46, none⟩ = some (.slice A N q) ∧ (loadVar 42 ⟨xb, 0, none⟩).run Try.prog V = .ok (.agg x.arr) V ∧ (loadVar 44 ⟨yb, 0, none⟩).run Try.prog V = .ok (.agg (lnA bs)) V from ⟨h.c46, load_itA (h.st.at_ (xb, C 42 x.arr) (hm _ (by simp))), load_ln hl (at_ln (h.st.at_ (yb, C 44 (lnA bs)) (hm _ (by simp))))⟩)
      have HX0 := Lib.hid hx
      have H0 := Lib.hid (CB.out _ _ _ _ hx (fun _ h => h))
      clear hx
      have HLE := LE
      refine wp_region_last (fun W => W.cell? ⟨r, 46, none⟩ = some (.slice A N q) ∧ (loadVar 42 ⟨xb, 0, none⟩).run Try.prog W = .ok (.agg x.arr) W ∧ (loadVar 44 ⟨yb, 0, none⟩).run Try.prog W = .ok (.agg (lnA bs)) W) 13 (by kernel_rfl) ?_
      generalize World.drew _ = V0 at *
      refine AnyT.take (i := 0) (v := .pointer (some ⟨r, 0, none⟩)) rfl (by kernel_rfl) (by kernel_rfl) (by kernel_rfl) (by kernel_rfl) (by decide) (fun _ _ _ h => h) (Or.inl ⟨by rfl, fun W hW => by clear hW; go_simp⟩) H0.out ?_
      try simp only [Act.put, List.getElem_toArray, List.getElem_cons_succ, List.getElem_cons_zero, List.setIfInBounds_toArray, List.set_cons_zero, List.set_cons_succ]
      refine AnyT.take (i := 1) (v := .pointer (some ⟨r, 0, none⟩)) rfl (by kernel_rfl) (by kernel_rfl) (by kernel_rfl) (by kernel_rfl) (by decide) (fun _ _ _ h => h) (Or.inl ⟨by rfl, fun W hW => by clear hW; go_simp⟩) H0.out ?_
      try simp only [Act.put, List.getElem_toArray, List.getElem_cons_succ, List.getElem_cons_zero, List.setIfInBounds_toArray, List.set_cons_zero, List.set_cons_succ]
      refine AnyT.take (i := 2) (v := .pointer (some ⟨r, 0, none⟩)) rfl (by kernel_rfl) (by kernel_rfl) (by kernel_rfl) (by kernel_rfl) (by decide) (fun _ _ _ h => h) (Or.inl ⟨by rfl, fun W hW => by clear hW; go_simp⟩) H0.out ?_
      try simp only [Act.put, List.getElem_toArray, List.getElem_cons_succ, List.getElem_cons_zero, List.setIfInBounds_toArray, List.set_cons_zero, List.set_cons_succ]
      refine AnyT.take (i := 3) (v := .pointer (some ⟨r, 46, none⟩)) rfl (by kernel_rfl) (by kernel_rfl) (by kernel_rfl) (by kernel_rfl) (by decide) (fun _ _ _ h => h) (Or.inl ⟨by rfl, fun W hW => by clear hW; go_simp⟩) H0.out ?_
      try simp only [Act.put, List.getElem_toArray, List.getElem_cons_succ, List.getElem_cons_zero, List.setIfInBounds_toArray, List.set_cons_zero, List.set_cons_succ]
      refine AnyT.take (i := 4) (v := .slice A N q) rfl (by kernel_rfl) (by kernel_rfl) (by kernel_rfl) (by kernel_rfl) (by decide) (fun _ _ _ h => h) (Or.inl ⟨by rfl, fun W hW => by have hc := (show W.cell? ⟨r, 46, none⟩ = some (.slice A N q) from hW.1); clear hW; go_simp⟩) H0.out ?_
      try simp only [Act.put, List.getElem_toArray, List.getElem_cons_succ, List.getElem_cons_zero, List.setIfInBounds_toArray, List.set_cons_zero, List.set_cons_succ]
      refine AnyT.take (i := 5) (v := .agg x.arr) rfl (by kernel_rfl) (by kernel_rfl) (by kernel_rfl) (by kernel_rfl) (by decide) (fun _ _ _ h => h) (yields_run _ rfl (by rfl) rfl (fun W hW => hW.2.1)) H0.out ?_
      try simp only [Act.put, List.getElem_toArray, List.getElem_cons_succ, List.getElem_cons_zero, List.setIfInBounds_toArray, List.set_cons_zero, List.set_cons_succ]
      refine AnyT.take (i := 6) (v := .int .i64 k) rfl (by kernel_rfl) (by kernel_rfl) (by kernel_rfl) (by kernel_rfl) (by decide) (fun _ _ _ h => h) (Or.inl ⟨by rfl, fun W hW => by clear hW; go_simp⟩) H0.out ?_
      try simp only [Act.put, List.getElem_toArray, List.getElem_cons_succ, List.getElem_cons_zero, List.setIfInBounds_toArray, List.set_cons_zero, List.set_cons_succ]
      refine AnyT.take (i := 7) (v := .agg (lnA bs)) rfl (by kernel_rfl) (by kernel_rfl) (by kernel_rfl) (by kernel_rfl) (by decide) (fun _ _ _ h => h) (yields_run _ rfl (by rfl) rfl (fun W hW => hW.2.2)) H0.out ?_
      try simp only [Act.put, List.getElem_toArray, List.getElem_cons_succ, List.getElem_cons_zero, List.setIfInBounds_toArray, List.set_cons_zero, List.set_cons_succ]
      refine AnyT.take (i := 8) (v := .agg D.arr) rfl (by kernel_rfl) (by kernel_rfl) (by kernel_rfl) (by kernel_rfl) (by decide) (fun _ _ _ h => h) (yields_build 59 _ rfl (by rfl) _ (by exact BU.out)) H0.out ?_
      try simp only [Act.put, List.getElem_toArray, List.getElem_cons_succ, List.getElem_cons_zero, List.setIfInBounds_toArray, List.set_cons_zero, List.set_cons_succ]
      refine AnyT.one (i := 9) (by kernel_rfl) rfl (fun K hK => ?_)
      rw [if_pos (by rfl)]
      refine wp_build1_rx HX0.out (.tmp 38) D rfl rfl ?_
      intro V1 b1 hx1
      have HX1 := Lib.hid hx1
      have H1_ := Lib.hid (CB.out _ _ _ _ hx1 (by simp +contextual))
      clear hx1
      refine hK.out _ _ (fun _ => H1_.out) ?_
      clear hK K
      try simp only [Act.put, List.getElem_toArray, List.getElem_cons_succ, List.getElem_cons_zero, List.setIfInBounds_toArray, List.set_cons_zero, List.set_cons_succ]
      refine AnyT.one (i := 10) (by kernel_rfl) rfl (fun K hK => ?_)
      rw [if_pos (by rfl)]
      refine wp_append_rx HX1.out (.tmp 34) (.tmp 39) rfl rfl rfl HLE.out ?_
      intro V2 v2 hx2
      have HX2 := Lib.hid hx2
      have H2_ := Lib.hid (CB.out _ _ _ _ hx2 (fun _ h => h))
      clear hx2
      refine hK.out _ _ (fun _ => H2_.out) ?_
      clear hK K
      try simp only [Act.put, List.getElem_toArray, List.getElem_cons_succ, List.getElem_cons_zero, List.setIfInBounds_toArray, List.set_cons_zero, List.set_cons_succ]
      refine AnyT.one (i := 11) (by kernel_rfl) rfl (fun K hK => ?_)
      go_simp
      refine hK.out _ _ (fun _ => H2_.out) ?_
      clear hK K
      try simp only [Act.put, List.getElem_toArray, List.getElem_cons_succ, List.getElem_cons_zero, List.setIfInBounds_toArray, List.set_cons_zero, List.set_cons_succ]
      refine AnyT.take (i := 12) (v := .pointer (some ⟨r, 46, none⟩)) rfl (by kernel_rfl) (by kernel_rfl) (by kernel_rfl) (by kernel_rfl) (by decide) (fun _ _ _ h => h) (Or.inl ⟨by rfl, fun W hW => by clear hW; go_simp⟩) H2_.out ?_
      try simp only [Act.put, List.getElem_toArray, List.getElem_cons_succ, List.getElem_cons_zero, List.setIfInBounds_toArray, List.set_cons_zero, List.set_cons_succ]
      refine AnyT.one (i := 13) (by kernel_rfl) rfl (fun K hK => ?_)
      rw [if_pos (by rfl)]
      refine wp_set_rx HX2.out (.tmp 42) (.tmp 40) rfl rfl rfl ?_
      intro V3 hs3
      have HS3 := Lib.hid hs3
      clear hs3
      refine hK.out _ _ (fun h => absurd rfl h) ?_
      clear hK K
      try simp only [Act.put, List.getElem_toArray, List.getElem_cons_succ, List.getElem_cons_zero, List.setIfInBounds_toArray, List.set_cons_zero, List.set_cons_succ]
      refine AnyT.done (by kernel_rfl) ?_ _
      go_wp2
      go_ret
      have h10 := HS3.out
      rw [← e2.out] at h10
      exact ⟨by rw [e1.out]; rfl, h10.tail.tail⟩
  · rw [ei] at FI
    have e1 : Hid (putK p l k x = 7) := show _ = _ by unfold putK; rw [hb, hi, hf]; rfl
    have e2 := Lib.hid (no ⟨x, k, bs, false, hl⟩ (by rw [e1.out]; decide))
    have q2 : ((j : Int) ≥ 0) = True := eq_true (by omega)
    have q3 : (0 ≤ (j : Int)) = True := eq_true (by omega)
    have q4 : decide ((j : Int) ≥ 0) = true := decide_eq_true (by omega)
    generalize putK p l k x = Z at *
    generalize putL p l k x ⟨x, k, bs, false, hl⟩ = l2 at *
    clear hb no BU I hi ei hf
    go_enter Try.func10, Try.ntmps10
    go_wp2_with (first
      | (refine wpList_box_itR h x _ rfl rfl rfl ?_; clear h; intro W1 h1; generalize W.heap.size = xb at *)
      | (have _ := h1; refine wpList_box_lnR h1 bs _ rfl rfl rfl ?_; clear h1; intro W2 h2; generalize W1.heap.size = yb at *))
    have HS0 := Lib.hid (RC.drew h2)
    have CB := Lib.hid (fun V (h : RC w V r p l ((yb, C 44 (lnA bs)) :: (xb, C 42 x.arr) :: L)) => show (loadVar 28 ⟨r, 0, none⟩).run Try.prog V = .ok (.agg p.arr) V ∧ (loadVar 42 ⟨xb, 0, none⟩).run Try.prog V = .ok (.agg x.arr) V from ⟨load_pl h.plan, load_itA (h.at2 1 rfl)⟩)
    have H0 := Lib.hid (CB.out _ HS0.out)
    clear h2
    refine wp_region_held_drew (S := fun W => (loadVar 28 ⟨r, 0, none⟩).run Try.prog W = .ok (.agg p.arr) W ∧ (loadVar 42 ⟨xb, 0, none⟩).run Try.prog W = .ok (.agg x.arr) W) (by kernel_rfl) H0.out (fun _ => ?_)
    generalize W2.drew = V0 at *
    refine wpAnyH_take (i := 0) (v := .pointer (some ⟨r, 0, none⟩)) rfl (by kernel_rfl) (by kernel_rfl) (by kernel_rfl) (fun _ _ _ h => h) (Or.inl ⟨by rfl, fun W hW => by clear hW; go_simp⟩) H0.out ?_
    try simp only [Act.put, List.getElem_toArray, List.getElem_cons_succ, List.getElem_cons_zero, List.setIfInBounds_toArray, List.set_cons_zero, List.set_cons_succ]
    refine wpAnyH_take (i := 1) (v := .int .i64 k) rfl (by kernel_rfl) (by kernel_rfl) (by kernel_rfl) (fun _ _ _ h => h) (Or.inl ⟨by rfl, fun W hW => by clear hW; go_simp⟩) H0.out ?_
    try simp only [Act.put, List.getElem_toArray, List.getElem_cons_succ, List.getElem_cons_zero, List.setIfInBounds_toArray, List.set_cons_zero, List.set_cons_succ]
    refine wpAnyH_ready (rs := [2]) (by kernel_rfl) (by simp) ?_
    refine AllReadyH.cons rfl (fun K hK => ?_) AllReadyH.nil
    go_simp
    go_at_call 33
    refine (TH.out _ (RC.c1 HS0.out)).mono ?_
    rintro e V1 ⟨rfl, rfl⟩
    have H1_ := Lib.hid (H0.out)
    refine hK.out _ _ H1_.out (fun _ => ?_)
    clear hK K
    try simp only [Act.put, List.getElem_toArray, List.getElem_cons_succ, List.getElem_cons_zero, List.setIfInBounds_toArray, List.set_cons_zero, List.set_cons_succ]
    refine wpAnyH_take (i := 3) (v := .bool false) rfl (by kernel_rfl) (by kernel_rfl) (by kernel_rfl) (fun _ _ _ h => h) (Or.inl ⟨by rfl, fun W hW => by clear hW; go_simp⟩) H1_.out ?_
    try simp only [Act.put, List.getElem_toArray, List.getElem_cons_succ, List.getElem_cons_zero, List.setIfInBounds_toArray, List.set_cons_zero, List.set_cons_succ]
    refine wpAnyH_take (i := 4) (v := .bool false) rfl (by kernel_rfl) (by kernel_rfl) (by kernel_rfl) (fun _ _ _ h => h) (Or.inl ⟨by rfl, fun W hW => by clear hW; go_simp⟩) H1_.out ?_
    try simp only [Act.put, List.getElem_toArray, List.getElem_cons_succ, List.getElem_cons_zero, List.setIfInBounds_toArray, List.set_cons_zero, List.set_cons_succ]
    refine wpAnyH_take (i := 5) (v := .pointer (some ⟨r, 0, none⟩)) rfl (by kernel_rfl) (by kernel_rfl) (by kernel_rfl) (fun _ _ _ h => h) (Or.inl ⟨by rfl, fun W hW => by clear hW; go_simp⟩) H1_.out ?_
    try simp only [Act.put, List.getElem_toArray, List.getElem_cons_succ, List.getElem_cons_zero, List.setIfInBounds_toArray, List.set_cons_zero, List.set_cons_succ]
    refine wpAnyH_take (i := 6) (v := .pointer (some ⟨r, 0, none⟩)) rfl (by kernel_rfl) (by kernel_rfl) (by kernel_rfl) (fun _ _ _ h => h) (Or.inl ⟨by rfl, fun W hW => by clear hW; go_simp⟩) H1_.out ?_
    try simp only [Act.put, List.getElem_toArray, List.getElem_cons_succ, List.getElem_cons_zero, List.setIfInBounds_toArray, List.set_cons_zero, List.set_cons_succ]
    refine wpAnyH_take (i := 7) (v := .pointer (some ⟨r, 0, none⟩)) rfl (by kernel_rfl) (by kernel_rfl) (by kernel_rfl) (fun _ _ _ h => h) (Or.inl ⟨by rfl, fun W hW => by clear hW; go_simp⟩) H1_.out ?_
    try simp only [Act.put, List.getElem_toArray, List.getElem_cons_succ, List.getElem_cons_zero, List.setIfInBounds_toArray, List.set_cons_zero, List.set_cons_succ]
    refine wpAnyH_take (i := 8) (v := .agg p.arr) rfl (by kernel_rfl) (by kernel_rfl) (by kernel_rfl) (fun _ _ _ h => h) (yields_run _ rfl (by rfl) rfl (fun W hW => hW.1)) H1_.out ?_
    try simp only [Act.put, List.getElem_toArray, List.getElem_cons_succ, List.getElem_cons_zero, List.setIfInBounds_toArray, List.set_cons_zero, List.set_cons_succ]
    refine wpAnyH_take (i := 9) (v := .agg x.arr) rfl (by kernel_rfl) (by kernel_rfl) (by kernel_rfl) (fun _ _ _ h => h) (yields_run _ rfl (by rfl) rfl (fun W hW => hW.2)) H1_.out ?_
    try simp only [Act.put, List.getElem_toArray, List.getElem_cons_succ, List.getElem_cons_zero, List.setIfInBounds_toArray, List.set_cons_zero, List.set_cons_succ]
    refine wpAnyH_ready (rs := [10]) (by kernel_rfl) (by simp) ?_
    refine AllReadyH.cons rfl (fun K hK => ?_) AllReadyH.nil
    go_simp
    go_at_call 34
    refine (IT.out _).mono ?_
    rintro e V2 ⟨rfl, hb2⟩
    have HS2 := Lib.hid (HS0.out.call hb2)
    clear hb2
    have H2_ := Lib.hid (CB.out _ HS2.out)
    refine hK.out _ _ H2_.out (fun _ => ?_)
    clear hK K
    try simp only [Act.put, List.getElem_toArray, List.getElem_cons_succ, List.getElem_cons_zero, List.setIfInBounds_toArray, List.set_cons_zero, List.set_cons_succ]
    refine wpAnyH_take (i := 11) (v := .bool false) rfl (by kernel_rfl) (by kernel_rfl) (by kernel_rfl) (fun _ _ _ h => h) (Or.inl ⟨by rfl, fun W hW => by clear hW; go_simp⟩) H2_.out ?_
    try simp only [Act.put, List.getElem_toArray, List.getElem_cons_succ, List.getElem_cons_zero, List.setIfInBounds_toArray, List.set_cons_zero, List.set_cons_succ]
    refine wpAnyH_take (i := 12) (v := .bool false) rfl (by kernel_rfl) (by kernel_rfl) (by kernel_rfl) (fun _ _ _ h => h) (Or.inl ⟨by rfl, fun W hW => by clear hW; go_simp⟩) H2_.out ?_
    try simp only [Act.put, List.getElem_toArray, List.getElem_cons_succ, List.getElem_cons_zero, List.setIfInBounds_toArray, List.set_cons_zero, List.set_cons_succ]
    refine wpAnyH_done (by kernel_rfl) ?_ _
    have h3 := HS2.out
    clear H0 H1_ HS0 CB
    have q1 : World.rangeAt _ xb 0 (Elt.cs x) := at_it (h3.at2 1 rfl)
    go_wp2_with (first
      | (have _ := q1; refine wpList_loadIt (e := x) q1 _ rfl rfl rfl ?_; clear q1)
      | (have _ := h3; go_at_call 20; refine (FI.out _ _ h3).mono ?_; rintro e W4 ⟨rfl, hb4⟩; have h4 := h3.call hb4; clear h3 FI))
    go_ret
    exact ⟨by rw [e1.out]; rfl, by rw [e2.out]; exact h4.tail.tail⟩
end
end Go.Proofs.Ytnogmfpaipjdaaa
