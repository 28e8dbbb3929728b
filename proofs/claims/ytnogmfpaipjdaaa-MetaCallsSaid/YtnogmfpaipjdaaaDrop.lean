/- An item is cached no longer; one is used last. No statement is proved here. -/
import Derived.Test.YtnogmfpaipjdaaaDel
namespace Go.Proofs.Ytnogmfpaipjdaaa
open Go.RowKit
open P (Pl right hasI vals)
set_option maxRecDepth 20000
set_option linter.unusedVariables false
set_option linter.unusedSimpArgs false

section
variable {w W W' : World} {g b : Nat} {p : Pl} {l : List Cd} {L M : Blks}
/-- One bank's row is taken out; and put back, changed or not. -/
theorem MC.openB (h : MC w W g b p l L) (i : Nat) (hi : i < nb p) : ∃ (v : Value) (M Z : Blks) (vs : List Value), RL v (bkL l i) M ∧ vs[i]? = some v ∧ St w W (M ++ ((g, C 71 (carr p b (nb p))) :: (b, C 38 vs.toArray) :: (Z ++ L))) ∧
    ∀ W' v' l' M' N, (∀ j, j < nb p → j ≠ i → bkL l' j = bkL l j) → RL v' (bkL l' i) M' → St w W' (M' ++ ((g, C 71 (carr p b (nb p))) :: (b, C 38 (vs.set i v').toArray) :: (Z ++ N))) → MC w W' g b p l' N := by
  obtain ⟨v, M, Z, vs, h1, h2, h3, h4⟩ := h.open_ i (by rw [bankC_len]; exact hi)
  rw [bankC_get p l i hi] at h1
  rw [bankC_len] at h3
  refine ⟨v, M, Z, vs, h1, h2, h3, fun W' v' l' M' N k1 k2 k3 => ?_⟩
  have := h4 W' v' (bkL l' i) M' N k2 (by rw [bankC_len]; exact k3)
  rwa [bankC_set p l l' i (bkL l' i) hi k1 rfl] at this
attribute [local irreducible] It.arr Cd.arr
set_option maxHeartbeats 4000000 in
theorem drop_any (h : MC w W g b p l L) (I : Inv p l) (x : It) :
    Calls Try.prog 15 #[.pointer (some ⟨g, 0, none⟩), .agg x.arr] W fun e W' => e = .returned (.int .i64 (drpK l x)) ∧ MC w W' g b p (remL l x) L := by
  have FI := Lib.hid (fun V L (h : MC w V g b p l L) => find_any h I x)
  cases hf : findC l x with
  | none =>
    have e1 : Hid (drpK l x = 6) := show _ = _ by unfold drpK; rw [hf]; rfl
    have e2 : Hid (remL l x = l) := show _ = _ by rw [remL_none hf]
    have FA := Lib.hid (fun k a (h : FindAt l x k a) => h.2 hf)
    rw [hf] at FI
    generalize drpK l x = Z at *
    generalize remL l x = l2 at *
    go_enter Try.func15, Try.ntmps15
    go_wp2_with (first
      | (refine wpList_box_itW h x _ rfl rfl rfl ?_; clear h; intro W1 h1; have q1 : W1.rangeAt W.heap.size 0 (Elt.cs x) := at_it (h1.at2 0 rfl); generalize W.heap.size = xb at *)
      | (refine wpList_loadIt (e := x) q1 _ rfl rfl rfl ?_; clear q1)
      | (have _ := h1; go_at_call 36; refine (FI.out _ _ h1).mono ?_; rintro e W3 ⟨⟨k, a, rfl, fa⟩, hb3⟩; obtain ⟨rfl, rfl⟩ := FA.out _ _ fa; have h3 := h1.call hb3; clear h1))
    go_ret
    exact ⟨by rw [e1.out]; rfl, by rw [e2.out]; exact h3.tail⟩
  | some c =>
    have e1 : Hid (drpK l x = 0) := show _ = _ by unfold drpK; rw [hf]; rfl
    have PL := Lib.hid (fun k a (h : FindAt l x k a) => place_of I hf h)
    have OP := Lib.hid (fun V L i (h : MC w V g b p l L) (hi : i < nb p) => h.openB i hi)
    have RM := Lib.hid (fun i j (hj : (bkL l i)[j]? = some c) => show (bkL l i).take j ++ (bkL l i).drop (j + 1) = bkL (remL l x) i from by rw [bkL_rem, ← (findC_some hf).2]; exact cut_rem (bkL_nd I.nd i) hj)
    have OT := Lib.hid (fun i hi => bkL_other I hf i hi)
    obtain ⟨f1, f2, _⟩ := nb_facts I.rt
    rw [hf] at FI
    generalize drpK l x = Z0 at *
    generalize remL l x = l2 at *
    go_enter Try.func15, Try.ntmps15
    go_wp2_with (first
      | (refine wpList_box_itW h x _ rfl rfl rfl ?_; clear h; intro W1 h1; have q1 : W1.rangeAt W.heap.size 0 (Elt.cs x) := at_it (h1.at2 0 rfl); generalize W.heap.size = xb at *)
      | (refine wpList_loadIt (e := x) q1 _ rfl rfl rfl ?_; clear q1)
      | (have _ := h1; go_at_call 36; refine (FI.out _ _ h1).mono ?_; rintro e W3 ⟨⟨k, a, rfl, fa⟩, hb3⟩; obtain ⟨i, j, rfl, rfl, hi, hbk, hj, hjl⟩ := PL.out _ _ fa; have h3 := h1.call hb3; clear h1 fa))
    obtain ⟨v, M, Z, vs, hr, hv, hs, up⟩ := OP.out _ _ i (show MC w W3.drew g b p l _ from h3.drewN 1) hi
    obtain ⟨A, q, rfl, _⟩ := hr.form
    generalize hT : Z ++ ((xb, C 42 x.arr) :: L) = T at *
    have RMj := Lib.hid (RM.out i j hj)
    have OTi := Lib.hid (fun k (hk : k < nb p) (hne : k ≠ i) => OT.out k (by omega))
    obtain ⟨m, hm⟩ : ∃ m, m = j + 1 := ⟨_, rfl⟩
    have HI := Lib.hid (show i < vs.toArray.size from by have := (List.getElem?_eq_some_iff.1 hv).1; simpa using this)
    generalize hN : nb p = N at *
    have CB := Lib.hid (fun (V : World) (X : Blks) (hs : St w V X) (m1 : (g, C 71 (carr p b N)) ∈ X) (m2 : (b, C 38 vs.toArray) ∈ X) => show V.cell? ⟨g, 46, none⟩ = some (.slice (some ⟨b, 0, none⟩) N N) ∧ V.cell? ⟨b, i, none⟩ = some (.slice A (bkL l i).length q) from by
      have a1 : At V g 71 (carr p b N) := hs.at_ _ m1
      have a2 : At V b 38 vs.toArray := hs.at_ _ m2
      exact ⟨(a1.cell 46).trans (carr46 _ _ _), (a2.cell i).trans (by simpa using hv)⟩)
    have DE := Lib.hid (fun V (hs : St w V (M ++ ((g, C 71 (carr p b N)) :: (b, C 38 vs.toArray) :: T))) => delete_any hr hs j m hjl hm)
    have mx : (bkL l i).length ≤ 9223372036854775807 := by
      obtain ⟨A', q', _, hr'⟩ := MC.bank h3 i (by omega)
      exact hr'.max
    have UP := Lib.hid (fun (V : World) v' M' (hr : RL v' (bkL l2 i) M') (h : St w V ((g, C 71 (carr p b N)) :: (b, C 38 (vs.set i v').toArray) :: (M' ++ T))) => up V v' l2 M' ((xb, C 42 x.arr) :: L) OTi.out hr (by rw [hT]; exact h.perm (List.perm_append_comm_assoc M' [_, _] T).symm))
    have HS0 := Lib.hid hs
    have H0 := Lib.hid (CB.out _ _ hs (by simp) (by simp))
    generalize hLN : (bkL l i).length = LN at *
    have hmI : (j : Int) + 1 = (m : Int) := by omega
    have hw : IntKind.i64.wrap (m : Int) = (m : Int) := IntWalk.i64_in _ (by omega)
    clear hs hr hv up h3 OP hm hj hN RM OT OTi PL FI
    replace mx := Lib.hid mx
    replace hjl := Lib.hid hjl
    replace hbk := Lib.hid hbk
    refine wp_region_last (fun W => W.cell? ⟨g, 46, none⟩ = some (.slice (some ⟨b, 0, none⟩) N N) ∧ W.cell? ⟨b, i, none⟩ = some (.slice A LN q)) 17 (by kernel_rfl) ?_
    generalize W3.drew = V0 at *
    refine AnyT.take (i := 0) (v := .pointer (some ⟨g, 0, none⟩)) rfl (by kernel_rfl) (by kernel_rfl) (by kernel_rfl) (by kernel_rfl) (by decide) (fun _ _ _ h => h) (Or.inl ⟨by rfl, fun W hW => by clear hW; go_simp⟩) H0.out ?_
    try simp only [Act.put, List.getElem_toArray, List.getElem_cons_succ, List.getElem_cons_zero, List.setIfInBounds_toArray, List.set_cons_zero, List.set_cons_succ]
    refine AnyT.take (i := 1) (v := .pointer (some ⟨g, 0, none⟩)) rfl (by kernel_rfl) (by kernel_rfl) (by kernel_rfl) (by kernel_rfl) (by decide) (fun _ _ _ h => h) (Or.inl ⟨by rfl, fun W hW => by clear hW; go_simp⟩) H0.out ?_
    try simp only [Act.put, List.getElem_toArray, List.getElem_cons_succ, List.getElem_cons_zero, List.setIfInBounds_toArray, List.set_cons_zero, List.set_cons_succ]
    refine AnyT.take (i := 2) (v := .pointer (some ⟨g, 46, none⟩)) rfl (by kernel_rfl) (by kernel_rfl) (by kernel_rfl) (by kernel_rfl) (by decide) (fun _ _ _ h => h) (Or.inl ⟨by rfl, fun W hW => by clear hW; go_simp⟩) H0.out ?_
    try simp only [Act.put, List.getElem_toArray, List.getElem_cons_succ, List.getElem_cons_zero, List.setIfInBounds_toArray, List.set_cons_zero, List.set_cons_succ]
    refine AnyT.take (i := 3) (v := .slice (some ⟨b, 0, none⟩) N N) rfl (by kernel_rfl) (by kernel_rfl) (by kernel_rfl) (by kernel_rfl) (by decide) (fun _ _ _ h => h) (Or.inl ⟨by rfl, fun W hW => by have hc := (show W.cell? ⟨g, 46, none⟩ = some (.slice (some ⟨b, 0, none⟩) N N) from hW.1); clear hW; go_simp⟩) H0.out ?_
    try simp only [Act.put, List.getElem_toArray, List.getElem_cons_succ, List.getElem_cons_zero, List.setIfInBounds_toArray, List.set_cons_zero, List.set_cons_succ]
    refine AnyT.take (i := 4) (v := .int .i64 (i : Int)) rfl (by kernel_rfl) (by kernel_rfl) (by kernel_rfl) (by kernel_rfl) (by decide) (fun _ _ _ h => h) (Or.inl ⟨by rfl, fun W hW => by clear hW; go_simp⟩) H0.out ?_
    try simp only [Act.put, List.getElem_toArray, List.getElem_cons_succ, List.getElem_cons_zero, List.setIfInBounds_toArray, List.set_cons_zero, List.set_cons_succ]
    refine AnyT.take (i := 5) (v := .pointer (some ⟨g, 0, none⟩)) rfl (by kernel_rfl) (by kernel_rfl) (by kernel_rfl) (by kernel_rfl) (by decide) (fun _ _ _ h => h) (Or.inl ⟨by rfl, fun W hW => by clear hW; go_simp⟩) H0.out ?_
    try simp only [Act.put, List.getElem_toArray, List.getElem_cons_succ, List.getElem_cons_zero, List.setIfInBounds_toArray, List.set_cons_zero, List.set_cons_succ]
    refine AnyT.take (i := 6) (v := .pointer (some ⟨g, 0, none⟩)) rfl (by kernel_rfl) (by kernel_rfl) (by kernel_rfl) (by kernel_rfl) (by decide) (fun _ _ _ h => h) (Or.inl ⟨by rfl, fun W hW => by clear hW; go_simp⟩) H0.out ?_
    try simp only [Act.put, List.getElem_toArray, List.getElem_cons_succ, List.getElem_cons_zero, List.setIfInBounds_toArray, List.set_cons_zero, List.set_cons_succ]
    refine AnyT.take (i := 7) (v := .pointer (some ⟨g, 46, none⟩)) rfl (by kernel_rfl) (by kernel_rfl) (by kernel_rfl) (by kernel_rfl) (by decide) (fun _ _ _ h => h) (Or.inl ⟨by rfl, fun W hW => by clear hW; go_simp⟩) H0.out ?_
    try simp only [Act.put, List.getElem_toArray, List.getElem_cons_succ, List.getElem_cons_zero, List.setIfInBounds_toArray, List.set_cons_zero, List.set_cons_succ]
    refine AnyT.take (i := 8) (v := .slice (some ⟨b, 0, none⟩) N N) rfl (by kernel_rfl) (by kernel_rfl) (by kernel_rfl) (by kernel_rfl) (by decide) (fun _ _ _ h => h) (Or.inl ⟨by rfl, fun W hW => by have hc := (show W.cell? ⟨g, 46, none⟩ = some (.slice (some ⟨b, 0, none⟩) N N) from hW.1); clear hW; go_simp⟩) H0.out ?_
    try simp only [Act.put, List.getElem_toArray, List.getElem_cons_succ, List.getElem_cons_zero, List.setIfInBounds_toArray, List.set_cons_zero, List.set_cons_succ]
    refine AnyT.take (i := 9) (v := .int .i64 (i : Int)) rfl (by kernel_rfl) (by kernel_rfl) (by kernel_rfl) (by kernel_rfl) (by decide) (fun _ _ _ h => h) (Or.inl ⟨by rfl, fun W hW => by clear hW; go_simp⟩) H0.out ?_
    try simp only [Act.put, List.getElem_toArray, List.getElem_cons_succ, List.getElem_cons_zero, List.setIfInBounds_toArray, List.set_cons_zero, List.set_cons_succ]
    refine AnyT.take (i := 10) (v := .pointer (some ⟨b, i, none⟩)) rfl (by kernel_rfl) (by kernel_rfl) (by kernel_rfl) (by kernel_rfl) (by decide) (fun _ _ _ h => h) (Or.inl ⟨by rfl, fun W hW => by clear hW; go_simp⟩) H0.out ?_
    try simp only [Act.put, List.getElem_toArray, List.getElem_cons_succ, List.getElem_cons_zero, List.setIfInBounds_toArray, List.set_cons_zero, List.set_cons_succ]
    refine AnyT.take (i := 11) (v := .slice A LN q) rfl (by kernel_rfl) (by kernel_rfl) (by kernel_rfl) (by kernel_rfl) (by decide) (fun _ _ _ h => h) (Or.inl ⟨by rfl, fun W hW => by have hc := (show W.cell? ⟨b, i, none⟩ = some (.slice A LN q) from hW.2); clear hW; go_simp⟩) H0.out ?_
    try simp only [Act.put, List.getElem_toArray, List.getElem_cons_succ, List.getElem_cons_zero, List.setIfInBounds_toArray, List.set_cons_zero, List.set_cons_succ]
    refine AnyT.take (i := 12) (v := .int .i64 (j : Int)) rfl (by kernel_rfl) (by kernel_rfl) (by kernel_rfl) (by kernel_rfl) (by decide) (fun _ _ _ h => h) (Or.inl ⟨by rfl, fun W hW => by clear hW; go_simp⟩) H0.out ?_
    try simp only [Act.put, List.getElem_toArray, List.getElem_cons_succ, List.getElem_cons_zero, List.setIfInBounds_toArray, List.set_cons_zero, List.set_cons_succ]
    refine AnyT.take (i := 13) (v := .int .i64 (j : Int)) rfl (by kernel_rfl) (by kernel_rfl) (by kernel_rfl) (by kernel_rfl) (by decide) (fun _ _ _ h => h) (Or.inl ⟨by rfl, fun W hW => by clear hW; go_simp⟩) H0.out ?_
    try simp only [Act.put, List.getElem_toArray, List.getElem_cons_succ, List.getElem_cons_zero, List.setIfInBounds_toArray, List.set_cons_zero, List.set_cons_succ]
    refine AnyT.take (i := 14) (v := .int .i64 (m : Int)) rfl (by kernel_rfl) (by kernel_rfl) (by kernel_rfl) (by kernel_rfl) (by decide) (fun _ _ _ h => h) (Or.inl ⟨by rfl, fun W hW => by clear hW; go_simp⟩) H0.out ?_
    try simp only [Act.put, List.getElem_toArray, List.getElem_cons_succ, List.getElem_cons_zero, List.setIfInBounds_toArray, List.set_cons_zero, List.set_cons_succ]
    refine AnyT.one (i := 15) (by kernel_rfl) rfl (fun K hK => ?_)
    go_simp
    go_at_call 37
    refine (DE.out _ HS0.out).mono ?_
    rintro e V1 ⟨v1, M1, rfl, hr1, hs1⟩
    have HR1 := Lib.hid hr1
    have HS1 := Lib.hid hs1
    clear hr1 hs1
    have H1_ := Lib.hid (CB.out V1 _ HS1.out (by simp) (by simp))
    refine hK.out _ _ (fun _ => H1_.out) ?_
    clear hK K
    try simp only [Act.put, List.getElem_toArray, List.getElem_cons_succ, List.getElem_cons_zero, List.setIfInBounds_toArray, List.set_cons_zero, List.set_cons_succ]
    refine AnyT.take (i := 16) (v := .pointer (some ⟨b, i, none⟩)) rfl (by kernel_rfl) (by kernel_rfl) (by kernel_rfl) (by kernel_rfl) (by decide) (fun _ _ _ h => h) (Or.inl ⟨by rfl, fun W hW => by clear hW; go_simp⟩) H1_.out ?_
    try simp only [Act.put, List.getElem_toArray, List.getElem_cons_succ, List.getElem_cons_zero, List.setIfInBounds_toArray, List.set_cons_zero, List.set_cons_succ]
    refine AnyT.one (i := 17) (by kernel_rfl) rfl (fun K hK => ?_)
    rw [if_pos (by rfl)]
    refine wp_cell_st (HS1.out.perm (List.perm_append_comm_assoc M1 [_, _] T)) 1 rfl 38 (.tmp 33) (.tmp 32) rfl i v1 rfl rfl HI.out (rl_cells HR1.out).1 (rl_cells HR1.out).2 sz38 ?_
    intro V2 hs2
    have HS2 := Lib.hid hs2
    clear hs2
    refine hK.out _ _ (fun h => absurd rfl h) ?_
    clear hK K
    try simp only [Act.put, List.getElem_toArray, List.getElem_cons_succ, List.getElem_cons_zero, List.setIfInBounds_toArray, List.set_cons_zero, List.set_cons_succ]
    refine AnyT.done (by kernel_rfl) ?_ _
    go_wp2
    go_ret
    refine ⟨by rw [e1.out]; rfl, ?_⟩
    have hr1 := HR1.out
    rw [RMj.out] at hr1
    have hs2 := HS2.out
    exact (UP.out _ _ _ hr1 (by simpa using hs2)).tail
set_option maxHeartbeats 4000000 in
/-- One is used last of its bank's cache. -/
theorem use_any (h : MC w W g b p l L) (I : Inv p l) (c : Cd) (hc : 0 ≤ c.bk ∧ c.bk < p.ba) (hl : l.length ≤ 1000) :
    Calls Try.prog 32 #[.pointer (some ⟨g, 0, none⟩), .agg c.arr] W fun e W' => e = .returned (.tuple #[]) ∧ MC w W' g b p (useL l c) L := by
  have DR := Lib.hid (fun V L (h : MC w V g b p l L) => drop_any h I c.it)
  obtain ⟨f1, f2, f3⟩ := nb_facts I.rt
  obtain ⟨i, hi⟩ : ∃ i : Nat, c.bk = (i : Int) := ⟨c.bk.toNat, by omega⟩
  have hin : i < nb p := by omega
  have OP := Lib.hid (fun V L (h : MC w V g b p (remL l c.it) L) => h.openB i hin)
  have RM := Lib.hid (show bkL (useL l c) i = bkL (remL l c.it) i ++ [c] by unfold useL; rw [bkL_append, if_pos hi])
  have OT := Lib.hid (fun k (hk : k < nb p) (hne : k ≠ i) => show bkL (useL l c) k = bkL (remL l c.it) k from by unfold useL; rw [bkL_append, if_neg (by omega), List.append_nil])
  have hl2 : (bkL (remL l c.it) i).length ≤ 1000 := Nat.le_trans (bkL_len _ _) (Nat.le_trans (remL_len _ _) hl)
  generalize useL l c = l3 at *
  generalize remL l c.it = l2 at *
  generalize drpK l c.it = K0 at *
  clear I hl
  go_enter Try.func32, Try.ntmps32
  go_wp2_with (first
    | (refine wpList_box_cdW h c _ rfl rfl rfl ?_; clear h; intro W1 h1; have q1 : W1.rangeAt W.heap.size 0 (Elt.cs c.it) := range_it (at_cd (h1.at2 0 rfl)); generalize W.heap.size = yb at *)
    | (refine wpList_loadIt (e := c.it) q1 _ rfl rfl rfl ?_; clear q1)
    | (have _ := h1; go_at_call 15; refine (DR.out _ _ h1).mono ?_; clear h1; rintro e W3 ⟨rfl, h3⟩))
  obtain ⟨v, M, Z, vs, hr, hv, hs, up⟩ := OP.out _ _ (show MC w W3.drew g b p l2 _ from h3.drewN 1)
  obtain ⟨A, q, rfl, _⟩ := hr.form
  generalize hT : Z ++ ((yb, C 59 c.arr) :: L) = T at *
  have HT : (yb, C 59 c.arr) ∈ T := by rw [← hT]; simp
  have HI := Lib.hid (show i < vs.toArray.size from by have := (List.getElem?_eq_some_iff.1 hv).1; simpa using this)
  generalize hN : nb p = N at *
  have CB := Lib.hid (fun (V : World) (X : Blks) (hs : St w V X) (m1 : (g, C 71 (carr p b N)) ∈ X) (m2 : (b, C 38 vs.toArray) ∈ X) (m3 : ∀ y ∈ T, y ∈ X) => show V.cell? ⟨g, 46, none⟩ = some (.slice (some ⟨b, 0, none⟩) N N) ∧ V.cell? ⟨b, i, none⟩ = some (.slice A (bkL l2 i).length q) ∧ V.cell? ⟨yb, 2, none⟩ = some (.int .i64 (i : Int)) ∧ (loadVar 59 ⟨yb, 0, none⟩).run Try.prog V = .ok (.agg c.arr) V from by
    have a1 : At V g 71 (carr p b N) := hs.at_ _ m1
    have a2 : At V b 38 vs.toArray := hs.at_ _ m2
    have a3 : At V yb 59 c.arr := hs.at_ _ (m3 _ HT)
    exact ⟨(a1.cell 46).trans (carr46 _ _ _), (a2.cell i).trans (by simpa using hv), (a3.cell 2).trans (by rw [c.at2, hi]), load_cdA a3⟩)
  have UP := Lib.hid (fun (V : World) v' M' (hr : RL v' (bkL l3 i) M') (h : St w V ((g, C 71 (carr p b N)) :: (b, C 38 (vs.set i v').toArray) :: (M' ++ T))) => up V v' l3 M' ((yb, C 59 c.arr) :: L) OT.out hr (by rw [hT]; exact h.perm (List.perm_append_comm_assoc M' [_, _] T).symm))
  have HS0 := Lib.hid hs
  have HR := Lib.hid hr
  have H0 := Lib.hid (CB.out _ _ hs (by simp) (by simp) (by simp +contextual))
  have HLE := Lib.hid (show (bkL l2 i).length + 1 ≤ 100000 by omega)
  generalize hLN : (bkL l2 i).length = LN at *
  clear hs hr hv up h3 OP hN OT DR hl2 hT f3 hc
  replace HT := Lib.hid HT
  replace hi := Lib.hid hi
  refine wp_region_last (fun W => W.cell? ⟨g, 46, none⟩ = some (.slice (some ⟨b, 0, none⟩) N N) ∧ W.cell? ⟨b, i, none⟩ = some (.slice A LN q) ∧ W.cell? ⟨yb, 2, none⟩ = some (.int .i64 (i : Int)) ∧ (loadVar 59 ⟨yb, 0, none⟩).run Try.prog W = .ok (.agg c.arr) W) 18 (by kernel_rfl) ?_
  generalize W3.drew = V0 at *
  refine AnyT.take (i := 0) (v := .pointer (some ⟨g, 0, none⟩)) rfl (by kernel_rfl) (by kernel_rfl) (by kernel_rfl) (by kernel_rfl) (by decide) (fun _ _ _ h => h) (Or.inl ⟨by rfl, fun W hW => by clear hW; go_simp⟩) H0.out ?_
  try simp only [Act.put, List.getElem_toArray, List.getElem_cons_succ, List.getElem_cons_zero, List.setIfInBounds_toArray, List.set_cons_zero, List.set_cons_succ]
  refine AnyT.take (i := 1) (v := .pointer (some ⟨g, 0, none⟩)) rfl (by kernel_rfl) (by kernel_rfl) (by kernel_rfl) (by kernel_rfl) (by decide) (fun _ _ _ h => h) (Or.inl ⟨by rfl, fun W hW => by clear hW; go_simp⟩) H0.out ?_
  try simp only [Act.put, List.getElem_toArray, List.getElem_cons_succ, List.getElem_cons_zero, List.setIfInBounds_toArray, List.set_cons_zero, List.set_cons_succ]
  refine AnyT.take (i := 2) (v := .pointer (some ⟨g, 46, none⟩)) rfl (by kernel_rfl) (by kernel_rfl) (by kernel_rfl) (by kernel_rfl) (by decide) (fun _ _ _ h => h) (Or.inl ⟨by rfl, fun W hW => by clear hW; go_simp⟩) H0.out ?_
  try simp only [Act.put, List.getElem_toArray, List.getElem_cons_succ, List.getElem_cons_zero, List.setIfInBounds_toArray, List.set_cons_zero, List.set_cons_succ]
  refine AnyT.take (i := 3) (v := .slice (some ⟨b, 0, none⟩) N N) rfl (by kernel_rfl) (by kernel_rfl) (by kernel_rfl) (by kernel_rfl) (by decide) (fun _ _ _ h => h) (Or.inl ⟨by rfl, fun W hW => by have hc := (show W.cell? ⟨g, 46, none⟩ = some (.slice (some ⟨b, 0, none⟩) N N) from hW.1); clear hW; go_simp⟩) H0.out ?_
  try simp only [Act.put, List.getElem_toArray, List.getElem_cons_succ, List.getElem_cons_zero, List.setIfInBounds_toArray, List.set_cons_zero, List.set_cons_succ]
  refine AnyT.take (i := 4) (v := .pointer (some ⟨yb, 2, none⟩)) rfl (by kernel_rfl) (by kernel_rfl) (by kernel_rfl) (by kernel_rfl) (by decide) (fun _ _ _ h => h) (Or.inl ⟨by rfl, fun W hW => by clear hW; go_simp⟩) H0.out ?_
  try simp only [Act.put, List.getElem_toArray, List.getElem_cons_succ, List.getElem_cons_zero, List.setIfInBounds_toArray, List.set_cons_zero, List.set_cons_succ]
  refine AnyT.take (i := 5) (v := .int .i64 (i : Int)) rfl (by kernel_rfl) (by kernel_rfl) (by kernel_rfl) (by kernel_rfl) (by decide) (fun _ _ _ h => h) (Or.inl ⟨by rfl, fun W hW => by have hc := (show W.cell? ⟨yb, 2, none⟩ = some (.int .i64 (i : Int)) from hW.2.2.1); clear hW; go_simp⟩) H0.out ?_
  try simp only [Act.put, List.getElem_toArray, List.getElem_cons_succ, List.getElem_cons_zero, List.setIfInBounds_toArray, List.set_cons_zero, List.set_cons_succ]
  refine AnyT.take (i := 6) (v := .pointer (some ⟨g, 0, none⟩)) rfl (by kernel_rfl) (by kernel_rfl) (by kernel_rfl) (by kernel_rfl) (by decide) (fun _ _ _ h => h) (Or.inl ⟨by rfl, fun W hW => by clear hW; go_simp⟩) H0.out ?_
  try simp only [Act.put, List.getElem_toArray, List.getElem_cons_succ, List.getElem_cons_zero, List.setIfInBounds_toArray, List.set_cons_zero, List.set_cons_succ]
  refine AnyT.take (i := 7) (v := .pointer (some ⟨g, 0, none⟩)) rfl (by kernel_rfl) (by kernel_rfl) (by kernel_rfl) (by kernel_rfl) (by decide) (fun _ _ _ h => h) (Or.inl ⟨by rfl, fun W hW => by clear hW; go_simp⟩) H0.out ?_
  try simp only [Act.put, List.getElem_toArray, List.getElem_cons_succ, List.getElem_cons_zero, List.setIfInBounds_toArray, List.set_cons_zero, List.set_cons_succ]
  refine AnyT.take (i := 8) (v := .pointer (some ⟨g, 46, none⟩)) rfl (by kernel_rfl) (by kernel_rfl) (by kernel_rfl) (by kernel_rfl) (by decide) (fun _ _ _ h => h) (Or.inl ⟨by rfl, fun W hW => by clear hW; go_simp⟩) H0.out ?_
  try simp only [Act.put, List.getElem_toArray, List.getElem_cons_succ, List.getElem_cons_zero, List.setIfInBounds_toArray, List.set_cons_zero, List.set_cons_succ]
  refine AnyT.take (i := 9) (v := .slice (some ⟨b, 0, none⟩) N N) rfl (by kernel_rfl) (by kernel_rfl) (by kernel_rfl) (by kernel_rfl) (by decide) (fun _ _ _ h => h) (Or.inl ⟨by rfl, fun W hW => by have hc := (show W.cell? ⟨g, 46, none⟩ = some (.slice (some ⟨b, 0, none⟩) N N) from hW.1); clear hW; go_simp⟩) H0.out ?_
  try simp only [Act.put, List.getElem_toArray, List.getElem_cons_succ, List.getElem_cons_zero, List.setIfInBounds_toArray, List.set_cons_zero, List.set_cons_succ]
  refine AnyT.take (i := 10) (v := .pointer (some ⟨yb, 2, none⟩)) rfl (by kernel_rfl) (by kernel_rfl) (by kernel_rfl) (by kernel_rfl) (by decide) (fun _ _ _ h => h) (Or.inl ⟨by rfl, fun W hW => by clear hW; go_simp⟩) H0.out ?_
  try simp only [Act.put, List.getElem_toArray, List.getElem_cons_succ, List.getElem_cons_zero, List.setIfInBounds_toArray, List.set_cons_zero, List.set_cons_succ]
  refine AnyT.take (i := 11) (v := .int .i64 (i : Int)) rfl (by kernel_rfl) (by kernel_rfl) (by kernel_rfl) (by kernel_rfl) (by decide) (fun _ _ _ h => h) (Or.inl ⟨by rfl, fun W hW => by have hc := (show W.cell? ⟨yb, 2, none⟩ = some (.int .i64 (i : Int)) from hW.2.2.1); clear hW; go_simp⟩) H0.out ?_
  try simp only [Act.put, List.getElem_toArray, List.getElem_cons_succ, List.getElem_cons_zero, List.setIfInBounds_toArray, List.set_cons_zero, List.set_cons_succ]
  refine AnyT.take (i := 12) (v := .pointer (some ⟨b, i, none⟩)) rfl (by kernel_rfl) (by kernel_rfl) (by kernel_rfl) (by kernel_rfl) (by decide) (fun _ _ _ h => h) (Or.inl ⟨by rfl, fun W hW => by clear hW; go_simp⟩) H0.out ?_
  try simp only [Act.put, List.getElem_toArray, List.getElem_cons_succ, List.getElem_cons_zero, List.setIfInBounds_toArray, List.set_cons_zero, List.set_cons_succ]
  refine AnyT.take (i := 13) (v := .slice A LN q) rfl (by kernel_rfl) (by kernel_rfl) (by kernel_rfl) (by kernel_rfl) (by decide) (fun _ _ _ h => h) (Or.inl ⟨by rfl, fun W hW => by have hc := (show W.cell? ⟨b, i, none⟩ = some (.slice A LN q) from hW.2.1); clear hW; go_simp⟩) H0.out ?_
  try simp only [Act.put, List.getElem_toArray, List.getElem_cons_succ, List.getElem_cons_zero, List.setIfInBounds_toArray, List.set_cons_zero, List.set_cons_succ]
  refine AnyT.take (i := 14) (v := .agg c.arr) rfl (by kernel_rfl) (by kernel_rfl) (by kernel_rfl) (by kernel_rfl) (by decide) (fun _ _ _ h => h) (yields_run _ rfl (by rfl) rfl (fun W hW => hW.2.2.2)) H0.out ?_
  try simp only [Act.put, List.getElem_toArray, List.getElem_cons_succ, List.getElem_cons_zero, List.setIfInBounds_toArray, List.set_cons_zero, List.set_cons_succ]
  refine AnyT.one (i := 15) (by kernel_rfl) rfl (fun K hK => ?_)
  rw [if_pos (by rfl)]
  refine wp_build1_st HS0.out (.tmp 22) c rfl (Cd.arr_eq c).symm ?_
  intro V1 h1
  have H1_ := Lib.hid (CB.out V1 _ h1 (by simp) (by simp) (by simp +contextual))
  generalize V0.heap.size = nw at *
  have HS1 := Lib.hid h1
  clear h1
  refine hK.out _ _ (fun _ => H1_.out) ?_
  clear hK K
  try simp only [Act.put, List.getElem_toArray, List.getElem_cons_succ, List.getElem_cons_zero, List.setIfInBounds_toArray, List.set_cons_zero, List.set_cons_succ]
  refine AnyT.one (i := 16) (by kernel_rfl) rfl (fun K hK => ?_)
  rw [if_pos (by rfl)]
  refine wp_append_rl (ys := [c]) HR.out (St.swap (X := [_]) HS1.out) (new_row HS1.out) (.tmp 21) (.tmp 23) rfl rfl rfl (by rw [hLN]; exact HLE.out) ?_
  intro v1 V2 M1 hr1 h2
  have H2_ := Lib.hid (CB.out V2 _ h2 (by simp) (by simp) (by simp +contextual))
  have HR1 := Lib.hid hr1
  have HS2 := Lib.hid h2
  clear h2 hr1
  refine hK.out _ _ (fun _ => H2_.out) ?_
  clear hK K
  try simp only [Act.put, List.getElem_toArray, List.getElem_cons_succ, List.getElem_cons_zero, List.setIfInBounds_toArray, List.set_cons_zero, List.set_cons_succ]
  refine AnyT.take (i := 17) (v := .pointer (some ⟨b, i, none⟩)) rfl (by kernel_rfl) (by kernel_rfl) (by kernel_rfl) (by kernel_rfl) (by decide) (fun _ _ _ h => h) (Or.inl ⟨by rfl, fun W hW => by clear hW; go_simp⟩) H2_.out ?_
  try simp only [Act.put, List.getElem_toArray, List.getElem_cons_succ, List.getElem_cons_zero, List.setIfInBounds_toArray, List.set_cons_zero, List.set_cons_succ]
  refine AnyT.one (i := 18) (by kernel_rfl) rfl (fun K hK => ?_)
  rw [if_pos (by rfl)]
  refine wp_cell_st (HS2.out.perm (List.perm_append_comm_assoc M1 [_, _, _] T)) 2 rfl 38 (.tmp 25) (.tmp 24) rfl i v1 rfl rfl HI.out (rl_cells HR1.out).1 (rl_cells HR1.out).2 sz38 ?_
  intro V3 hs3
  have HS3 := Lib.hid hs3
  clear hs3
  refine hK.out _ _ (fun h => absurd rfl h) ?_
  clear hK K
  try simp only [Act.put, List.getElem_toArray, List.getElem_cons_succ, List.getElem_cons_zero, List.setIfInBounds_toArray, List.set_cons_zero, List.set_cons_succ]
  refine AnyT.done (by kernel_rfl) ?_ _
  go_wp2
  go_end0
  refine ⟨rfl, ?_⟩
  have hr1 := HR1.out
  rw [← RM.out] at hr1
  have hs3 := HS3.out.tail
  exact (UP.out _ _ _ hr1 (by simpa using hs3)).tail
end
end Go.Proofs.Ytnogmfpaipjdaaa
