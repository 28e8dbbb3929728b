/- The document's Move. No statement is proved here. -/
import Derived.Test.YtnogmfpaipjdaaaRDoc
namespace Go.Proofs.Ytnogmfpaipjdaaa
open Go.RowKit
open P (Pl right hasI vals)
set_option maxRecDepth 20000
set_option linter.unusedVariables false
set_option linter.unusedSimpArgs false
attribute [local irreducible] It.arr Cd.arr
section
variable {w W W' : World} {r : Nat} {p : Pl} {l : List Cd} {L M : Blks}
set_option maxHeartbeats 8000000 in
theorem rmov_any (h : RC w W r p l L) (I : Inv p l) (x : It) (b : Int) (hl : l.length ≤ 1000) :
    Calls Try.prog 14 #[.pointer (some ⟨r, 0, none⟩), .agg x.arr, .int .i64 b] W fun e W' => e = .returned (.int .i64 (movK p l x b)) ∧ RC w W' r p (movL p l x b) L := by
  have FI := Lib.hid (fun V L (h : RC w V r p l L) => rfind_any h x)
  have TH := Lib.hid (fun V h => there_any (r := r) (p := p) b V h)
  have RO := Lib.hid (fun V L (h : RC w V r p l L) => rroom_any h I.rt b)
  have RW := Lib.hid (fun V L (h : RC w V r p l L) => h.row)
  cases hb : hasB p b with
  | false =>
    rw [hb] at TH
    have e1 : Hid (movK p l x b = 2) := show _ = _ by unfold movK; rw [hb]; rfl
    have e2 : Hid (movL p l x b = l) := show _ = _ by
      unfold movL
      cases findC l x with
      | none => rfl
      | some c => simp only; rw [if_neg (by rw [e1.out]; decide)]
    generalize movK p l x b = Z at *
    generalize movL p l x b = l2 at *
    clear hb
    go_enter Try.func14, Try.ntmps14
    go_wp2_with (first
      | (refine wpList_box_itR h x _ rfl rfl rfl ?_; clear h; intro W1 h1; generalize W.heap.size = xb at *)
      | (have _ := h1; go_at_call 33; refine (TH.out _ (RC.c1 h1)).mono ?_; rintro e W2 ⟨rfl, rfl⟩; clear TH; have q1 : W2.rangeAt xb 0 (Elt.cs x) := at_it (h1.at2 0 rfl)))
    go_ret
    exact ⟨by rw [e1.out]; rfl, by rw [e2.out]; exact h1.tail⟩
  | true =>
  rw [hb] at TH
  rcases fI_spec l x with ⟨hf, ei⟩ | ⟨k, c, hf, hk, ei⟩
  · rw [ei] at FI
    have e1 : Hid (movK p l x b = 6) := show _ = _ by unfold movK; rw [hb, hf]; rfl
    have e2 : Hid (movL p l x b = l) := show _ = _ by unfold movL; rw [hf]
    generalize movK p l x b = Z at *
    generalize movL p l x b = l2 at *
    clear ei hf hb
    go_enter Try.func14, Try.ntmps14
    go_wp2_with (first
      | (refine wpList_box_itR h x _ rfl rfl rfl ?_; clear h; intro W1 h1; generalize W.heap.size = xb at *)
      | (have _ := h1; go_at_call 33; refine (TH.out _ (RC.c1 h1)).mono ?_; rintro e W2 ⟨rfl, rfl⟩; clear TH; have q1 : W2.rangeAt xb 0 (Elt.cs x) := at_it (h1.at2 0 rfl))
      | (have _ := q1; refine wpList_loadIt (e := x) q1 _ rfl rfl rfl ?_; clear q1)
      | (have _ := h1; go_at_call 20; refine (FI.out _ _ h1).mono ?_; rintro e W3 ⟨rfl, hb3⟩; have h3 := h1.call hb3; clear h1 FI))
    go_ret
    exact ⟨by rw [e1.out]; rfl, by rw [e2.out]; exact h3.tail⟩
  · rw [ei] at FI
    have q2 : ((k : Int) < 0) = False := eq_false (by omega)
    have b1 : k < l.length := (List.getElem?_eq_some_iff.1 hk).1
    by_cases hcb : c.bk = b
    · have q4 : (c.bk = b) = True := eq_true hcb
      have q5 : (c.bk == b) = true := by simpa using hcb
      have q6 : (c.bk != b) = false := by simpa using hcb
      have e1 : Hid (movK p l x b = 0) := show _ = _ by unfold movK; rw [hb, hf, if_pos rfl]; exact if_neg (fun h => h.1 hcb)
      have e2 : Hid (movL p l x b = (l.take k ++ l.drop (k + 1)) ++ [({ c with bk := b } : Cd)]) := show _ = _ by
        unfold movL
        rw [hf]
        simp only
        rw [if_pos e1.out, cut_rem I.nd hk]
        rfl
      have TA := Lib.hid (fun V L (h : RC w V r p l L) => take_any h k c hk hl)
      have LE := Lib.hid (show (l.take k ++ l.drop (k + 1)).length + 1 ≤ 100000 by simp; omega)
      generalize roomV p l b = RV at *
      generalize movK p l x b = Z at *
      generalize movL p l x b = l3 at *
      generalize l.take k ++ l.drop (k + 1) = l2 at *
      replace hk := Lib.hid hk
      clear ei hf I hl hb
      go_enter Try.func14, Try.ntmps14
      go_wp2_with (first
        | (refine wpList_box_itR h x _ rfl rfl rfl ?_; clear h; intro W1 h1; generalize W.heap.size = xb at *)
        | (have _ := h1; go_at_call 33; refine (TH.out _ (RC.c1 h1)).mono ?_; rintro e W2 ⟨rfl, rfl⟩; clear TH; have q1 : W2.rangeAt xb 0 (Elt.cs x) := at_it (h1.at2 0 rfl))
        | (have _ := q1; refine wpList_loadIt (e := x) q1 _ rfl rfl rfl ?_; clear q1)
        | (have _ := h1; go_at_call 20; refine (FI.out _ _ h1).mono ?_; rintro e W3 ⟨rfl, hb3⟩; have h3 := h1.call hb3; clear h1 FI; obtain ⟨A1, c1, d46, hr1⟩ := RW.out _ _ h3; obtain ⟨bb, o, rfl, _, rg⟩ := hr1.at_ k c hk.out; have d2 : W3.cell? ⟨bb, o + k * 36 + 2, none⟩ = some (.int .i64 c.bk) := rg 2 _ (by simp [Elt.cs, Cd.cs]); clear hr1 rg)
        | (have _ := h3; go_at_call 35; refine (TA.out _ _ h3).mono ?_; clear h3; rintro e W5 ⟨rfl, h5⟩)
        | (have _ := h5; refine wpList_alloc_cdR h5 rfl rfl ?_; clear h5; intro W6 h6; generalize W5.heap.size = zb at *)
        | (have _ := h6; refine wpList_store_cdR h6 0 c rfl _ _ rfl rfl rfl rfl ?_; clear h6; intro W7 h7)
        | (have _ := h7; refine wpList_store_bkR h7 0 _ rfl b _ _ rfl rfl rfl rfl ?_; clear h7; intro W8 h8))
      replace h8 : RC w W8 r p l2 ((zb, C 59 (Cd.arr { c with bk := b })) :: (xb, C 42 x.arr) :: L) := h8
      generalize ({ c with bk := b } : Cd) = D at *
      have h9 := h8
      clear h8
      obtain ⟨A, q, hx⟩ := RC.open_ (show RC w _ r p l2 ((zb, C 59 D.arr) :: (xb, C 42 x.arr) :: L) from RC.drew h9)
      clear h9
      generalize hNN : List.length l2 = N at hx
      have CB := Lib.hid (fun (V : World) v l9 M9 (h : RX w V r p (.slice A N q) v l9 M9) (hm : ∀ y ∈ ((zb, C 59 D.arr) :: (xb, C 42 x.arr) :: L), y ∈ M9) => show V.cell? ⟨r, 46, none⟩ = some (.slice A N q) ∧ (loadVar 59 ⟨zb, 0, none⟩).run Try.prog V = .ok (.agg D.arr) V from ⟨h.c46, load_cdA (h.st.at_ (zb, C 59 D.arr) (hm _ (by simp)))⟩)
      have HX0 := Lib.hid hx
      have H0 := Lib.hid (CB.out _ _ _ _ hx (fun _ h => h))
      clear hx
      have HLE := LE
      refine wp_region_last (fun W => W.cell? ⟨r, 46, none⟩ = some (.slice A N q) ∧ (loadVar 59 ⟨zb, 0, none⟩).run Try.prog W = .ok (.agg D.arr) W) 10 (by kernel_rfl) ?_
      generalize World.drew _ = V0 at *
      refine AnyT.take (i := 0) (v := .pointer (some ⟨r, 0, none⟩)) rfl (by kernel_rfl) (by kernel_rfl) (by kernel_rfl) (by kernel_rfl) (by decide) (fun _ _ _ h => h) (Or.inl ⟨by rfl, fun W hW => by clear hW; go_simp⟩) H0.out ?_
      try simp only [Act.put, List.getElem_toArray, List.getElem_cons_succ, List.getElem_cons_zero, List.setIfInBounds_toArray, List.set_cons_zero, List.set_cons_succ]
      refine AnyT.take (i := 1) (v := .pointer (some ⟨r, 0, none⟩)) rfl (by kernel_rfl) (by kernel_rfl) (by kernel_rfl) (by kernel_rfl) (by decide) (fun _ _ _ h => h) (Or.inl ⟨by rfl, fun W hW => by clear hW; go_simp⟩) H0.out ?_
      try simp only [Act.put, List.getElem_toArray, List.getElem_cons_succ, List.getElem_cons_zero, List.setIfInBounds_toArray, List.set_cons_zero, List.set_cons_succ]
      refine AnyT.take (i := 2) (v := .pointer (some ⟨r, 0, none⟩)) rfl (by kernel_rfl) (by kernel_rfl) (by kernel_rfl) (by kernel_rfl) (by decide) (fun _ _ _ h => h) (Or.inl ⟨by rfl, fun W hW => by clear hW; go_simp⟩) H0.out ?_
      try simp only [Act.put, List.getElem_toArray, List.getElem_cons_succ, List.getElem_cons_zero, List.setIfInBounds_toArray, List.set_cons_zero, List.set_cons_succ]
      refine AnyT.take (i := 3) (v := .pointer (some ⟨r, 46, none⟩)) rfl (by kernel_rfl) (by kernel_rfl) (by kernel_rfl) (by kernel_rfl) (by decide) (fun _ _ _ h => h) (Or.inl ⟨by rfl, fun W hW => by clear hW; go_simp⟩) H0.out ?_
      try simp only [Act.put, List.getElem_toArray, List.getElem_cons_succ, List.getElem_cons_zero, List.setIfInBounds_toArray, List.set_cons_zero, List.set_cons_succ]
      refine AnyT.take (i := 4) (v := .slice A N q) rfl (by kernel_rfl) (by kernel_rfl) (by kernel_rfl) (by kernel_rfl) (by decide) (fun _ _ _ h => h) (Or.inl ⟨by rfl, fun W hW => by have hc := (show W.cell? ⟨r, 46, none⟩ = some (.slice A N q) from hW.1); clear hW; go_simp⟩) H0.out ?_
      try simp only [Act.put, List.getElem_toArray, List.getElem_cons_succ, List.getElem_cons_zero, List.setIfInBounds_toArray, List.set_cons_zero, List.set_cons_succ]
      refine AnyT.take (i := 5) (v := .agg D.arr) rfl (by kernel_rfl) (by kernel_rfl) (by kernel_rfl) (by kernel_rfl) (by decide) (fun _ _ _ h => h) (yields_run _ rfl (by rfl) rfl (fun W hW => hW.2)) H0.out ?_
      try simp only [Act.put, List.getElem_toArray, List.getElem_cons_succ, List.getElem_cons_zero, List.setIfInBounds_toArray, List.set_cons_zero, List.set_cons_succ]
      refine AnyT.one (i := 6) (by kernel_rfl) rfl (fun K hK => ?_)
      rw [if_pos (by rfl)]
      refine wp_build1_rx HX0.out (.tmp 44) D rfl rfl ?_
      intro V1 b1 hx1
      have HX1 := Lib.hid hx1
      have H1_ := Lib.hid (CB.out _ _ _ _ hx1 (by simp +contextual))
      clear hx1
      refine hK.out _ _ (fun _ => H1_.out) ?_
      clear hK K
      try simp only [Act.put, List.getElem_toArray, List.getElem_cons_succ, List.getElem_cons_zero, List.setIfInBounds_toArray, List.set_cons_zero, List.set_cons_succ]
      refine AnyT.one (i := 7) (by kernel_rfl) rfl (fun K hK => ?_)
      rw [if_pos (by rfl)]
      refine wp_append_rx HX1.out (.tmp 43) (.tmp 45) rfl rfl rfl HLE.out ?_
      intro V2 v2 hx2
      have HX2 := Lib.hid hx2
      have H2_ := Lib.hid (CB.out _ _ _ _ hx2 (fun _ h => h))
      clear hx2
      refine hK.out _ _ (fun _ => H2_.out) ?_
      clear hK K
      try simp only [Act.put, List.getElem_toArray, List.getElem_cons_succ, List.getElem_cons_zero, List.setIfInBounds_toArray, List.set_cons_zero, List.set_cons_succ]
      refine AnyT.one (i := 8) (by kernel_rfl) rfl (fun K hK => ?_)
      go_simp
      refine hK.out _ _ (fun _ => H2_.out) ?_
      clear hK K
      try simp only [Act.put, List.getElem_toArray, List.getElem_cons_succ, List.getElem_cons_zero, List.setIfInBounds_toArray, List.set_cons_zero, List.set_cons_succ]
      refine AnyT.take (i := 9) (v := .pointer (some ⟨r, 46, none⟩)) rfl (by kernel_rfl) (by kernel_rfl) (by kernel_rfl) (by kernel_rfl) (by decide) (fun _ _ _ h => h) (Or.inl ⟨by rfl, fun W hW => by clear hW; go_simp⟩) H2_.out ?_
      try simp only [Act.put, List.getElem_toArray, List.getElem_cons_succ, List.getElem_cons_zero, List.setIfInBounds_toArray, List.set_cons_zero, List.set_cons_succ]
      refine AnyT.one (i := 10) (by kernel_rfl) rfl (fun K hK => ?_)
      rw [if_pos (by rfl)]
      refine wp_set_rx HX2.out (.tmp 48) (.tmp 46) rfl rfl rfl ?_
      intro V3 hs3
      have HS3 := Lib.hid hs3
      clear hs3
      refine hK.out _ _ (fun h => absurd rfl h) ?_
      clear hK K
      try simp only [Act.put, List.getElem_toArray, List.getElem_cons_succ, List.getElem_cons_zero, List.setIfInBounds_toArray, List.set_cons_zero, List.set_cons_succ]
      refine AnyT.done (by kernel_rfl) ?_ _
      go_wp2
      go_ret
      have h10 := HS3.out
      rw [← e2.out] at h10
      exact ⟨by rw [e1.out]; rfl, h10.tail.tail⟩
    · have q4 : (c.bk = b) = False := eq_false hcb
      have q5 : (c.bk == b) = false := by simpa using hcb
      have q6 : (c.bk != b) = true := by simpa using hcb
      by_cases hro : roomV p l b = 0
      · have e1 : Hid (movK p l x b = 5) := show _ = _ by unfold movK; rw [hb, hf, if_pos rfl]; exact if_pos ⟨hcb, hro⟩
        have e2 : Hid (movL p l x b = l) := show _ = _ by unfold movL; rw [hf]; simp only; rw [if_neg (by rw [e1.out]; decide)]
        have q7 : (roomV p l b = 0) = True := eq_true hro
        have q8 : (roomV p l b == 0) = true := by simpa using hro
        generalize roomV p l b = RV at *
        generalize movK p l x b = Z at *
        generalize movL p l x b = l2 at *
        clear ei hf hb
        go_enter Try.func14, Try.ntmps14
        go_wp2_with (first
          | (refine wpList_box_itR h x _ rfl rfl rfl ?_; clear h; intro W1 h1; generalize W.heap.size = xb at *)
          | (have _ := h1; go_at_call 33; refine (TH.out _ (RC.c1 h1)).mono ?_; rintro e W2 ⟨rfl, rfl⟩; clear TH; have q1 : W2.rangeAt xb 0 (Elt.cs x) := at_it (h1.at2 0 rfl))
          | (have _ := q1; refine wpList_loadIt (e := x) q1 _ rfl rfl rfl ?_; clear q1)
          | (have _ := h1; go_at_call 20; refine (FI.out _ _ h1).mono ?_; rintro e W3 ⟨rfl, hb3⟩; have h3 := h1.call hb3; clear h1 FI; obtain ⟨A1, c1, d46, hr1⟩ := RW.out _ _ h3; obtain ⟨bb, o, rfl, _, rg⟩ := hr1.at_ k c hk; have d2 : W3.cell? ⟨bb, o + k * 36 + 2, none⟩ = some (.int .i64 c.bk) := rg 2 _ (by simp [Elt.cs, Cd.cs]); clear hr1 rg)
          | (have _ := h3; go_at_call 22; refine (RO.out _ _ h3).mono ?_; rintro e W4 ⟨rfl, j4, rfl⟩; have h4 := h3.drewN j4; clear h3 RO d46 d2))
        go_ret
        exact ⟨by rw [e1.out]; rfl, by rw [e2.out]; exact h4.tail⟩
      · have q7 : (roomV p l b = 0) = False := eq_false hro
        have q8 : (roomV p l b == 0) = false := by simpa using hro
        have e1 : Hid (movK p l x b = 0) := show _ = _ by unfold movK; rw [hb, hf, if_pos rfl]; exact if_neg (fun h => hro h.2)
        have e2 : Hid (movL p l x b = (l.take k ++ l.drop (k + 1)) ++ [({ c with bk := b } : Cd)]) := show _ = _ by
          unfold movL
          rw [hf]
          simp only
          rw [if_pos e1.out, cut_rem I.nd hk]
          rfl
        have TA := Lib.hid (fun V L (h : RC w V r p l L) => take_any h k c hk hl)
        have LE := Lib.hid (show (l.take k ++ l.drop (k + 1)).length + 1 ≤ 100000 by simp; omega)
        generalize roomV p l b = RV at *
        generalize movK p l x b = Z at *
        generalize movL p l x b = l3 at *
        generalize l.take k ++ l.drop (k + 1) = l2 at *
        replace hk := Lib.hid hk
        clear ei hf I hl hb
        go_enter Try.func14, Try.ntmps14
        go_wp2_with (first
          | (refine wpList_box_itR h x _ rfl rfl rfl ?_; clear h; intro W1 h1; generalize W.heap.size = xb at *)
          | (have _ := h1; go_at_call 33; refine (TH.out _ (RC.c1 h1)).mono ?_; rintro e W2 ⟨rfl, rfl⟩; clear TH; have q1 : W2.rangeAt xb 0 (Elt.cs x) := at_it (h1.at2 0 rfl))
          | (have _ := q1; refine wpList_loadIt (e := x) q1 _ rfl rfl rfl ?_; clear q1)
          | (have _ := h1; go_at_call 20; refine (FI.out _ _ h1).mono ?_; rintro e W3 ⟨rfl, hb3⟩; have h3 := h1.call hb3; clear h1 FI; obtain ⟨A1, c1, d46, hr1⟩ := RW.out _ _ h3; obtain ⟨bb, o, rfl, _, rg⟩ := hr1.at_ k c hk.out; have d2 : W3.cell? ⟨bb, o + k * 36 + 2, none⟩ = some (.int .i64 c.bk) := rg 2 _ (by simp [Elt.cs, Cd.cs]); clear hr1 rg)
          | (have _ := h3; go_at_call 22; refine (RO.out _ _ h3).mono ?_; rintro e W4 ⟨rfl, j4, rfl⟩; have h4 := h3.drewN j4; clear h3 RO d46 d2)
          | (have _ := h4; go_at_call 35; refine (TA.out _ _ h4).mono ?_; clear h4; rintro e W5 ⟨rfl, h5⟩)
          | (have _ := h5; refine wpList_alloc_cdR h5 rfl rfl ?_; clear h5; intro W6 h6; generalize W5.heap.size = zb at *)
          | (have _ := h6; refine wpList_store_cdR h6 0 c rfl _ _ rfl rfl rfl rfl ?_; clear h6; intro W7 h7)
          | (have _ := h7; refine wpList_store_bkR h7 0 _ rfl b _ _ rfl rfl rfl rfl ?_; clear h7; intro W8 h8))
        replace h8 : RC w W8 r p l2 ((zb, C 59 (Cd.arr { c with bk := b })) :: (xb, C 42 x.arr) :: L) := h8
        generalize ({ c with bk := b } : Cd) = D at *
        have h9 := h8
        clear h8
        obtain ⟨A, q, hx⟩ := RC.open_ (show RC w _ r p l2 ((zb, C 59 D.arr) :: (xb, C 42 x.arr) :: L) from RC.drew h9)
        clear h9
        generalize hNN : List.length l2 = N at hx
        have CB := Lib.hid (fun (V : World) v l9 M9 (h : RX w V r p (.slice A N q) v l9 M9) (hm : ∀ y ∈ ((zb, C 59 D.arr) :: (xb, C 42 x.arr) :: L), y ∈ M9) => show V.cell? ⟨r, 46, none⟩ = some (.slice A N q) ∧ (loadVar 59 ⟨zb, 0, none⟩).run Try.prog V = .ok (.agg D.arr) V from ⟨h.c46, load_cdA (h.st.at_ (zb, C 59 D.arr) (hm _ (by simp)))⟩)
        have HX0 := Lib.hid hx
        have H0 := Lib.hid (CB.out _ _ _ _ hx (fun _ h => h))
        clear hx
        have HLE := LE
        refine wp_region_last (fun W => W.cell? ⟨r, 46, none⟩ = some (.slice A N q) ∧ (loadVar 59 ⟨zb, 0, none⟩).run Try.prog W = .ok (.agg D.arr) W) 10 (by kernel_rfl) ?_
        generalize World.drew _ = V0 at *
        refine AnyT.take (i := 0) (v := .pointer (some ⟨r, 0, none⟩)) rfl (by kernel_rfl) (by kernel_rfl) (by kernel_rfl) (by kernel_rfl) (by decide) (fun _ _ _ h => h) (Or.inl ⟨by rfl, fun W hW => by clear hW; go_simp⟩) H0.out ?_
        try simp only [Act.put, List.getElem_toArray, List.getElem_cons_succ, List.getElem_cons_zero, List.setIfInBounds_toArray, List.set_cons_zero, List.set_cons_succ]
        refine AnyT.take (i := 1) (v := .pointer (some ⟨r, 0, none⟩)) rfl (by kernel_rfl) (by kernel_rfl) (by kernel_rfl) (by kernel_rfl) (by decide) (fun _ _ _ h => h) (Or.inl ⟨by rfl, fun W hW => by clear hW; go_simp⟩) H0.out ?_
        try simp only [Act.put, List.getElem_toArray, List.getElem_cons_succ, List.getElem_cons_zero, List.setIfInBounds_toArray, List.set_cons_zero, List.set_cons_succ]
        refine AnyT.take (i := 2) (v := .pointer (some ⟨r, 0, none⟩)) rfl (by kernel_rfl) (by kernel_rfl) (by kernel_rfl) (by kernel_rfl) (by decide) (fun _ _ _ h => h) (Or.inl ⟨by rfl, fun W hW => by clear hW; go_simp⟩) H0.out ?_
        try simp only [Act.put, List.getElem_toArray, List.getElem_cons_succ, List.getElem_cons_zero, List.setIfInBounds_toArray, List.set_cons_zero, List.set_cons_succ]
        refine AnyT.take (i := 3) (v := .pointer (some ⟨r, 46, none⟩)) rfl (by kernel_rfl) (by kernel_rfl) (by kernel_rfl) (by kernel_rfl) (by decide) (fun _ _ _ h => h) (Or.inl ⟨by rfl, fun W hW => by clear hW; go_simp⟩) H0.out ?_
        try simp only [Act.put, List.getElem_toArray, List.getElem_cons_succ, List.getElem_cons_zero, List.setIfInBounds_toArray, List.set_cons_zero, List.set_cons_succ]
        refine AnyT.take (i := 4) (v := .slice A N q) rfl (by kernel_rfl) (by kernel_rfl) (by kernel_rfl) (by kernel_rfl) (by decide) (fun _ _ _ h => h) (Or.inl ⟨by rfl, fun W hW => by have hc := (show W.cell? ⟨r, 46, none⟩ = some (.slice A N q) from hW.1); clear hW; go_simp⟩) H0.out ?_
        try simp only [Act.put, List.getElem_toArray, List.getElem_cons_succ, List.getElem_cons_zero, List.setIfInBounds_toArray, List.set_cons_zero, List.set_cons_succ]
        refine AnyT.take (i := 5) (v := .agg D.arr) rfl (by kernel_rfl) (by kernel_rfl) (by kernel_rfl) (by kernel_rfl) (by decide) (fun _ _ _ h => h) (yields_run _ rfl (by rfl) rfl (fun W hW => hW.2)) H0.out ?_
        try simp only [Act.put, List.getElem_toArray, List.getElem_cons_succ, List.getElem_cons_zero, List.setIfInBounds_toArray, List.set_cons_zero, List.set_cons_succ]
        refine AnyT.one (i := 6) (by kernel_rfl) rfl (fun K hK => ?_)
        rw [if_pos (by rfl)]
        refine wp_build1_rx HX0.out (.tmp 44) D rfl rfl ?_
        intro V1 b1 hx1
        have HX1 := Lib.hid hx1
        have H1_ := Lib.hid (CB.out _ _ _ _ hx1 (by simp +contextual))
        clear hx1
        refine hK.out _ _ (fun _ => H1_.out) ?_
        clear hK K
        try simp only [Act.put, List.getElem_toArray, List.getElem_cons_succ, List.getElem_cons_zero, List.setIfInBounds_toArray, List.set_cons_zero, List.set_cons_succ]
        refine AnyT.one (i := 7) (by kernel_rfl) rfl (fun K hK => ?_)
        rw [if_pos (by rfl)]
        refine wp_append_rx HX1.out (.tmp 43) (.tmp 45) rfl rfl rfl HLE.out ?_
        intro V2 v2 hx2
        have HX2 := Lib.hid hx2
        have H2_ := Lib.hid (CB.out _ _ _ _ hx2 (fun _ h => h))
        clear hx2
        refine hK.out _ _ (fun _ => H2_.out) ?_
        clear hK K
        try simp only [Act.put, List.getElem_toArray, List.getElem_cons_succ, List.getElem_cons_zero, List.setIfInBounds_toArray, List.set_cons_zero, List.set_cons_succ]
        refine AnyT.one (i := 8) (by kernel_rfl) rfl (fun K hK => ?_)
        go_simp
        refine hK.out _ _ (fun _ => H2_.out) ?_
        clear hK K
        try simp only [Act.put, List.getElem_toArray, List.getElem_cons_succ, List.getElem_cons_zero, List.setIfInBounds_toArray, List.set_cons_zero, List.set_cons_succ]
        refine AnyT.take (i := 9) (v := .pointer (some ⟨r, 46, none⟩)) rfl (by kernel_rfl) (by kernel_rfl) (by kernel_rfl) (by kernel_rfl) (by decide) (fun _ _ _ h => h) (Or.inl ⟨by rfl, fun W hW => by clear hW; go_simp⟩) H2_.out ?_
        try simp only [Act.put, List.getElem_toArray, List.getElem_cons_succ, List.getElem_cons_zero, List.setIfInBounds_toArray, List.set_cons_zero, List.set_cons_succ]
        refine AnyT.one (i := 10) (by kernel_rfl) rfl (fun K hK => ?_)
        rw [if_pos (by rfl)]
        refine wp_set_rx HX2.out (.tmp 48) (.tmp 46) rfl rfl rfl ?_
        intro V3 hs3
        have HS3 := Lib.hid hs3
        clear hs3
        refine hK.out _ _ (fun h => absurd rfl h) ?_
        clear hK K
        try simp only [Act.put, List.getElem_toArray, List.getElem_cons_succ, List.getElem_cons_zero, List.setIfInBounds_toArray, List.set_cons_zero, List.set_cons_succ]
        refine AnyT.done (by kernel_rfl) ?_ _
        go_wp2
        go_ret
        have h10 := HS3.out
        rw [← e2.out] at h10
        exact ⟨by rw [e1.out]; rfl, h10.tail.tail⟩
end
end Go.Proofs.Ytnogmfpaipjdaaa
