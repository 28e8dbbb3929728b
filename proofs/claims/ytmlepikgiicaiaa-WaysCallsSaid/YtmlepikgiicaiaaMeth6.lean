/- The numbers of entries; a new cache. No statement is proved here. -/
import Derived.Test.YtmlepikgiicaiaaMake
namespace Go.Proofs.Ytmlepikgiicaiaa
open Go.RowKit
set_option linter.unusedVariables false
set_option linter.unusedSimpArgs false

def ks (xs : List Ent) : List Int := xs.map (·.k)
theorem ks_length (xs : List Ent) : (ks xs).length = xs.length := by simp [ks]
/-- The first k numbers, and noughts. -/
def part (xs : List Ent) (k : Nat) : List Int := (ks xs).take k ++ List.replicate (xs.length - k) 0
theorem part_length (xs : List Ent) (k : Nat) (h : k ≤ xs.length) : (part xs k).length = xs.length := by
  unfold part
  rw [List.length_append, List.length_take, ks_length, List.length_replicate, Nat.min_eq_left h]
  omega
theorem part_zero (xs : List Ent) : part xs 0 = List.replicate xs.length 0 := by simp [part]
theorem part_all (xs : List Ent) : part xs xs.length = ks xs := by
  unfold part
  rw [List.take_of_length_le (by rw [ks_length]; exact Nat.le_refl _), Nat.sub_self, List.replicate_zero, List.append_nil]
theorem part_set (xs : List Ent) (k : Nat) (e : Ent) (h : xs[k]? = some e) : (part xs k).set k e.k = part xs (k + 1) := by
  have hk := (List.getElem?_eq_some_iff.1 h).1
  have hl : ((ks xs).take k).length = k := by rw [List.length_take, ks_length]; omega
  have hr : xs.length - k = (xs.length - (k + 1)) + 1 := by omega
  unfold part
  rw [List.set_append_right _ _ (by rw [hl]; exact Nat.le_refl _), hl, Nat.sub_self, hr, List.replicate_succ, List.set_cons_zero]
  have : (ks xs)[k]? = some e.k := by simp [ks, h]
  rw [List.take_add_one, this]
  simp
section
variable {w W W' : World} {g b n : Nat} {c : Cs} {L M : Blks}
def KRel (w W : World) (bk : Nat) (xs : List Ent) (L : Blks) (i : Value) (wr : World) : Prop :=
  ∃ k : Nat, k ≤ xs.length ∧ i = .int .i64 (k : Nat) ∧ St w wr ((bk, C 3 (iarr (part xs k))) :: L) ∧ Below bk W wr
attribute [local irreducible] Ent.arr
theorem ent_one (e : Ent) : e.arr.all (·.oneCell') = true := by unfold Ent.arr; simp [Value.oneCell']
theorem ent_size (e : Ent) : e.arr.size = 2 := by unfold Ent.arr; rfl
theorem ent_get0 (e : Ent) : e.arr[0]? = some (.int .i64 e.k) := by unfold Ent.arr; rfl
set_option maxHeartbeats 1000000 in
theorem keys_any (A : Option Addr) (m p : Nat) (xs : List Ent) (h : St w W L) (hr : ERow W W.heap.size A m p xs) (hm : m ≤ 1000) :
    Calls Try.prog 31 #[.slice A m p] W fun e W' => ∃ bk, e = .returned (.slice (some ⟨bk, 0, none⟩) m m) ∧ St w W' ((bk, C 3 (iarr (ks xs))) :: L) := by
  have hl := hr.len
  have HX := Lib.hid hr
  have HB := Lib.hid (show ∀ W', Below W.heap.size W W' → ERow W' W.heap.size A m p xs from fun W' hb => hr.below hb)
  have h0 := St.nil W
  clear hr
  replace hl := Lib.hid hl
  go_enter Try.func31, Try.ntmps31
  go_wp2_with (refine wpList_makeE_st (α := Int) h 0 rfl _ _ rfl rfl m rfl rfl (by omega) ?_; intro W1 h1 hb1)
  generalize hbk : W.heap.size = bk at *
  rw [iarr_eq] at h1
  have h1' : St w W1 ((bk, C 3 (iarr (part xs 0))) :: L) := by rw [part_zero, hl.out]; exact h1
  clear h1
  go_loopw [11] (KRel w W bk xs L) (fun i _ => m - (intOf i).toNat)
  case atStart => exact ⟨0, Nat.zero_le _, rfl, h1', hb1⟩
  case round =>
    obtain ⟨k, hk, rfl, h2, hb2⟩ := hrel
    rw [hl.out] at hk
    clear h1' hb1
    by_cases hlt : k < m
    · have g1 : ((k : Int) < (m : Int)) = True := eq_true (by omega)
      have hkl : k < xs.length := by have := hl.out; omega
      have hx : xs[k]? = some xs[k] := List.getElem?_eq_getElem hkl
      generalize xs[k] = x at *
      have ps := Lib.hid (part_set xs k x hx)
      have pl := Lib.hid (part_length xs k (by omega))
      obtain ⟨b1, o1, rfl, hbb, r1⟩ := (HB.out wr hb2).at_ k x hx
      have r1' := Lib.hid (show wr.rangeAt b1 (o1 + k * 2) (Elt.cs x) from r1)
      have hkb := Lib.hid (show bk ≤ wr.heap.size by have := hb2.size; omega)
      have bkm := Lib.hid (show (bk : Nat) < wr.heap.size from heap_lt (h2.get 0 rfl))
      replace hb2 := Lib.hid hb2
      clear r1 hx hkl hbb
      go_wp2_with (first
        | (refine wpList_loadE (e := x) r1'.out _ rfl rfl rfl ?_)
        | (have _ := h2; refine wpList_alloc_st h2 57 rfl rfl _ #[.int .i64 0, .int .i64 0] zero57 rfl ?_; clear h2; intro W2 h3 _ hb3; replace h3 := h3.front; have hb4 := Lib.hid (hb2.out.trans (hb3.mono hkb.out)); have hkb2 := Lib.hid (show bk ≤ W2.heap.size from Nat.le_trans hkb.out hb3.size); clear hb3; generalize wr.heap.size = be at *)
        | (have _ := h3; refine wpList_store_st (arr' := x.arr) h3 0 rfl 57 _ _ rfl rfl rfl rfl (by rw [ent_size]; exact sz57) (by rw [ent_size]; rfl) (ent_one x) ?_; clear h3; intro W3 h4 hg4; have hb5 := Lib.hid (below_grown hb4.out hg4 hkb2.out (Nat.le_of_lt bkm.out)); have hkb3 := Lib.hid (show bk ≤ W3.heap.size from Nat.le_trans hkb2.out hg4.size); clear hg4; have d0 := h4.cell 0 rfl 0 (.int .i64 x.k) (ent_get0 x))
        | (have _ := h4; refine wpList_cell_st h4 1 rfl 3 _ _ rfl rfl k (.int .i64 x.k) rfl rfl (by rw [iarr_size, pl.out, hl.out]; exact hlt) rfl rfl sz3 ?_; clear h4 d0; intro W4 h5 hg5; have hb6 := Lib.hid (below_grown hb5.out hg5 hkb3.out (Nat.le_refl _)); clear hg5))
      have h6 : St w W4 ((be, C 57 x.arr) :: (bk, C 3 ((iarr (part xs k)).setIfInBounds k (.int .i64 x.k))) :: L) := h5
      rw [iarr_set, ps.out] at h6
      go_roundw
      case rel => exact ⟨k + 1, by have := hl.out; omega, by go_num, h6.tail, hb6.out⟩
      case measure => simp [intOf]; omega
    · obtain rfl : k = m := by omega
      have g1 : ((k : Int) < (k : Int)) = False := eq_false (by omega)
      go_wp2
      go_ret
      refine ⟨bk, rfl, ?_⟩
      rw [← part_all, hl.out]
      exact h2
theorem oldest_any (h : WC w W g b n c L) (k : Int) (hk : k ≤ 9223372036854775807) (hl : (sof c k).length ≤ 1000) :
    Calls Try.prog 19 #[.pointer (some ⟨g, 0, none⟩), .int .i64 k] W fun e W' => ∃ bk, e = .returned (.slice (some ⟨bk, 0, none⟩) (sof c k).length (sof c k).length) ∧ WC w W' g b n c ((bk, C 3 (iarr (ks (sof c k)))) :: L) := by
  have SO := Lib.hid (fun W L (h : WC w W g b n c L) => setOf_any h k hk)
  have KA := Lib.hid (fun A m p W L (h : St w W L) hr hm => keys_any A m p (sof c k) h hr hm)
  generalize sof c k = xs at *
  generalize hln : xs.length = m at *
  go_enter Try.func19, Try.ntmps19
  obtain ⟨Y, _, _, hs0, up⟩ := h.lift
  go_wp2_with (first
    | (have _ := h; go_at_call 30; refine (SO.out _ _ h).mono ?_; clear h; rintro e W2 ⟨A, p, rfl, hr, j, rfl⟩)
    | (have _ := hr; go_at_call 31; refine (KA.out A m p _ _ (hs0.drewN j) hr hl).mono ?_; clear hr; rintro e W3 ⟨bk, rfl, hs⟩))
  go_ret
  exact ⟨bk, rfl, up _ _ (hs.perm List.perm_middle.symm)⟩
theorem wp_box_st {o : Oper} {a : Act} {K : Act → World → Prop} {Q : Exit → Act → World → Prop} (h : St w W L) (ty : TypeId) (x : Operand) (ho : o.op = .box ty x) (arr : Array Value) (hx : (a.eval x).cells = arr)
    (k : ∀ W', St w W' (L ++ [(W.heap.size, C ty arr)]) → K (a.put o.dst (.pointer (some ⟨W.heap.size, 0, none⟩))) W') : o.wp Try.prog a W K Q := by
  subst hx
  have h1 := k _ (h.push ty (a.eval x).cells)
  unfold Oper.wp execOp
  simp only [ho]
  generalize a.eval x = v at *
  have e : ∀ v : Value, (Instr.box ty v).run Try.prog W = .ok (.pointer (some ⟨W.heap.size, 0, none⟩)) (W.alloc (.cells v.cells ty)) := fun v => by
    simp only [Instr.box, newVar]
    generalize v.cells = cs
    go_simp
  simp only [Sem.run_bind, e, Result.andThen_ok, Sem.run_pure]
  exact h1
theorem nils (N : Nat) : (ecells (List.replicate N (⟨⟩ : Nv))).toArray = (List.replicate N (Value.slice none 0 0)).toArray := by
  congr 1
  induction N with
  | zero => rfl
  | succ N ih =>
    rw [List.replicate_succ, List.replicate_succ, ← ih]
    rfl
theorem new_sets (N : Nat) : Sets (List.replicate N []) (List.replicate N (Value.slice none 0 0)) (List.replicate N []) := by
  refine ⟨by simp, by simp, fun i xs h => ?_⟩
  rw [List.getElem?_replicate] at h ⊢
  rw [List.getElem?_replicate]
  split at h
  · rename_i hi
    injection h with h
    subst h
    exact ⟨_, _, if_pos hi, if_pos hi, RL.nil_⟩
  · cases h
set_option maxRecDepth 20000 in
set_option maxHeartbeats 1000000 in
theorem new_any (h : St w W L) (s1 s2 : Int) :
    Calls Try.prog 8 #[.agg #[.int .i64 s1, .int .i64 s2]] W fun e W' => ∃ g b, e = .returned (.pointer (some ⟨g, 0, none⟩)) ∧ WC w W' g b (fitN s2) (List.replicate (fitN s1) []) L := by
  have WI1 := Lib.hid (fun W => within_any s1 W)
  have WI2 := Lib.hid (fun W => within_any s2 W)
  have b1 := fitN_le s1
  have F := Lib.hid (fun (V : World) (g bs : Nat) (X : Nat × Obj) (h : St w V ((g, C 54 #[.int .i64 (fitN s2 : Nat), .slice (some ⟨bs, 0, none⟩) (fitN s1) (fitN s1)]) :: (bs, C 55 (ecells (List.replicate (fitN s1) (⟨⟩ : Nv))).toArray) :: X :: L)) => show WC w V g bs (fitN s2) (List.replicate (fitN s1) []) L from by
    refine ⟨by simpa using b1.1, by simpa using b1.2, _, _, new_sets _, ?_⟩
    rw [List.flatten_replicate_nil, ← nils, List.length_replicate]
    exact h.sub (((List.sublist_cons_self X L).cons_cons _).cons_cons _))
  have N15 := Lib.hid (show fitN s1 ≤ 5000 by omega)
  generalize List.replicate (fitN s1) [] = C0 at *
  generalize fitN s1 = N1 at *
  generalize fitN s2 = N2 at *
  go_enter Try.func8, Try.ntmps8
  go_wp2_with (refine wpList_box_st h 23 _ rfl rfl #[.int .i64 s1, .int .i64 s2] rfl ?_; clear h; intro W1 h1 _ hb1; replace h1 := h1.front; generalize W.heap.size = sp at *)
  have CB := Lib.hid (fun (V : World) (X : Blks) (hs : St w V X) (m1 : (sp, C 23 #[.int .i64 s1, .int .i64 s2]) ∈ X) => show V.cell? ⟨sp, 0, none⟩ = some (.int .i64 s1) ∧ V.cell? ⟨sp, 1, none⟩ = some (.int .i64 s2) from by
    have a1 : At V sp 23 #[.int .i64 s1, .int .i64 s2] := hs.at_ _ m1
    exact ⟨a1.cell 0, a1.cell 1⟩)
  have HS0 := Lib.hid h1.drew
  have H0 := Lib.hid (CB.out _ _ HS0.out (by simp))
  clear h1
  refine wp_region_last (fun W => W.cell? ⟨sp, 0, none⟩ = some (.int .i64 s1) ∧ W.cell? ⟨sp, 1, none⟩ = some (.int .i64 s2)) 9 (by kernel_rfl) ?_
  generalize W1.drew = V0 at *
  refine AnyT.take (i := 0) (v := .pointer (some ⟨sp, 1, none⟩)) rfl (by kernel_rfl) (by kernel_rfl) (by kernel_rfl) (by kernel_rfl) (by decide) (fun _ _ _ h => h) (Or.inl ⟨by rfl, fun W hW => by clear hW; go_simp⟩) H0.out ?_
  try simp only [Act.put, List.getElem_toArray, List.getElem_cons_succ, List.getElem_cons_zero, List.setIfInBounds_toArray, List.set_cons_zero, List.set_cons_succ]
  refine AnyT.take (i := 1) (v := .int .i64 s2) rfl (by kernel_rfl) (by kernel_rfl) (by kernel_rfl) (by kernel_rfl) (by decide) (fun _ _ _ h => h) (Or.inl ⟨by rfl, fun W hW => by have hc := (show W.cell? ⟨sp, 1, none⟩ = some (.int .i64 s2) from hW.2); clear hW; go_simp⟩) H0.out ?_
  try simp only [Act.put, List.getElem_toArray, List.getElem_cons_succ, List.getElem_cons_zero, List.setIfInBounds_toArray, List.set_cons_zero, List.set_cons_succ]
  refine AnyT.take (i := 3) (v := .pointer (some ⟨sp, 0, none⟩)) rfl (by kernel_rfl) (by kernel_rfl) (by kernel_rfl) (by kernel_rfl) (by decide) (fun _ _ _ h => h) (Or.inl ⟨by rfl, fun W hW => by clear hW; go_simp⟩) H0.out ?_
  try simp only [Act.put, List.getElem_toArray, List.getElem_cons_succ, List.getElem_cons_zero, List.setIfInBounds_toArray, List.set_cons_zero, List.set_cons_succ]
  refine AnyT.take (i := 4) (v := .int .i64 s1) rfl (by kernel_rfl) (by kernel_rfl) (by kernel_rfl) (by kernel_rfl) (by decide) (fun _ _ _ h => h) (Or.inl ⟨by rfl, fun W hW => by have hc := (show W.cell? ⟨sp, 0, none⟩ = some (.int .i64 s1) from hW.1); clear hW; go_simp⟩) H0.out ?_
  try simp only [Act.put, List.getElem_toArray, List.getElem_cons_succ, List.getElem_cons_zero, List.setIfInBounds_toArray, List.set_cons_zero, List.set_cons_succ]
  refine AnyT.one (i := 2) (by kernel_rfl) rfl (fun K hK => ?_)
  go_simp
  go_at_call 25
  refine (WI2.out _).mono ?_
  rintro e V1 ⟨rfl, rfl⟩
  have H1_ := Lib.hid H0.out
  refine hK.out _ _ (fun _ => H1_.out) ?_
  clear hK K
  try simp only [Act.put, List.getElem_toArray, List.getElem_cons_succ, List.getElem_cons_zero, List.setIfInBounds_toArray, List.set_cons_zero, List.set_cons_succ]
  refine AnyT.one (i := 5) (by kernel_rfl) rfl (fun K hK => ?_)
  go_simp
  go_at_call 25
  refine (WI1.out _).mono ?_
  rintro e V2 ⟨rfl, rfl⟩
  have H2_ := Lib.hid H1_.out
  refine hK.out _ _ (fun _ => H2_.out) ?_
  clear hK K
  try simp only [Act.put, List.getElem_toArray, List.getElem_cons_succ, List.getElem_cons_zero, List.setIfInBounds_toArray, List.set_cons_zero, List.set_cons_succ]
  refine AnyT.one (i := 6) (by kernel_rfl) rfl (fun K hK => ?_)
  rw [if_pos (by rfl)]
  refine wp_makeE_st HS0.out (⟨⟩ : Nv) rfl (.tmp 8) (.tmp 8) rfl N1 rfl rfl N15.out ?_
  intro V3 h3 _
  have H3_ := Lib.hid (CB.out V3 _ h3 (by simp))
  have HS3 := Lib.hid h3
  clear h3
  generalize V2.heap.size = bs at *
  refine hK.out _ _ (fun _ => H3_.out) ?_
  clear hK K
  try simp only [Act.put, List.getElem_toArray, List.getElem_cons_succ, List.getElem_cons_zero, List.setIfInBounds_toArray, List.set_cons_zero, List.set_cons_succ]
  refine AnyT.take (i := 7) (v := .agg #[.int .i64 (N2 : Int), .slice (some ⟨bs, 0, none⟩) N1 N1]) rfl (by kernel_rfl) (by kernel_rfl) (by kernel_rfl) (by kernel_rfl) (by decide) (fun _ _ _ h => h) (Or.inl ⟨by rfl, fun W hW => by clear hW; go_simp⟩) H3_.out ?_
  try simp only [Act.put, List.getElem_toArray, List.getElem_cons_succ, List.getElem_cons_zero, List.setIfInBounds_toArray, List.set_cons_zero, List.set_cons_succ]
  refine AnyT.one (i := 8) (by kernel_rfl) rfl (fun K hK => ?_)
  rw [if_pos (by rfl)]
  refine wp_box_st HS3.out 54 (.tmp 10) rfl #[.int .i64 (N2 : Int), .slice (some ⟨bs, 0, none⟩) N1 N1] rfl ?_
  intro V4 h4
  replace h4 := h4.front
  have H4_ := Lib.hid (CB.out V4 _ h4 (by simp))
  have HS4 := Lib.hid h4
  clear h4
  generalize V3.heap.size = g at *
  refine hK.out _ _ (fun _ => H4_.out) ?_
  clear hK K
  try simp only [Act.put, List.getElem_toArray, List.getElem_cons_succ, List.getElem_cons_zero, List.setIfInBounds_toArray, List.set_cons_zero, List.set_cons_succ]
  refine AnyT.one (i := 9) (by kernel_rfl) rfl (fun K hK => ?_)
  rw [if_pos (by rfl)]
  go_simp
  refine hK.out _ _ (fun h => absurd rfl h) ?_
  clear hK K
  try simp only [Act.put, List.getElem_toArray, List.getElem_cons_succ, List.getElem_cons_zero, List.setIfInBounds_toArray, List.set_cons_zero, List.set_cons_succ]
  refine AnyT.done (by kernel_rfl) ?_ _
  go_wp2
  go_ret
  exact ⟨g, bs, rfl, F.out _ _ _ _ HS4.out⟩
end
end Go.Proofs.Ytmlepikgiicaiaa
