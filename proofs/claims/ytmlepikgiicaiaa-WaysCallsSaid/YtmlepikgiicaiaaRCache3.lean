/- The document's cache: Set, Touch. No statement is proved here. -/
import Derived.Test.YtmlepikgiicaiaaRCache2
namespace Go.Proofs.Ytmlepikgiicaiaa
open Go.RowKit
set_option linter.unusedVariables false
set_option linter.unusedSimpArgs false

def Keys0 (l : List Ent) : Prop := ∀ e ∈ l, 0 ≤ e.k ∧ e.k ≤ 9223372036854775807
theorem dropR_len (l : List Ent) (k : Int) : (dropR l k).length ≤ l.length := by
  unfold dropR
  split
  · simp; omega
  · omega
section
variable {w W W' : World} {gr S N : Nat} {l : List Ent} {L M : Blks}
set_option maxHeartbeats 2000000 in
theorem rset_any (h : RC w W gr S N l L) (k vv : Int) (hk : k ≤ 9223372036854775807) (HP : Keys0 l) (hS : 1 ≤ S) (hS2 : S ≤ 64) (hl : l.length ≤ 1000) :
    Calls Try.prog 11 #[.pointer (some ⟨gr, 0, none⟩), .int .i64 k, .int .i64 vv] W fun e W' => e = .returned (.int .i64 (roomR S N l k)) ∧ RC w W' gr S N (if roomR S N l k = 0 then dropR l k ++ [⟨k, vv⟩] else l) L := by
  have RO := Lib.hid (rroom_any h k hk HP hS hS2 hl)
  by_cases h0 : roomR S N l k = 0
  · rw [if_pos h0]
    rw [h0] at RO ⊢
    have DR := Lib.hid (fun W (h : RC w W gr S N l L) => rdrop_any h k hl)
    have hd := dropR_len l k
    have le := Lib.hid (show (dropR l k).length + 1 ≤ 100000 by omega)
    generalize dropR l k = l2 at *
    clear h h0 HP hd
    go_enter Try.func11, Try.ntmps11
    go_wp2_with (first
      | (go_at_call 24; refine RO.out.mono ?_; rintro e W2 ⟨rfl, h2⟩; clear RO)
      | (have _ := h2; go_at_call 13; refine (DR.out _ h2).mono ?_; clear h2; rintro e W3 ⟨rfl, v, M, hr, h3⟩; obtain ⟨A, p, rfl, _⟩ := hr.form; rw [List.length_map] at hr h3; have c2 := h3.cell 0 rfl 2 (.slice A l2.length p) rfl)
      | (have _ := h3; refine wpList_build1_st (α := Pr) h3 _ (toP ⟨k, vv⟩) rfl rfl rfl ?_; clear h3 c2; intro W4 h4; have rw4 := Lib.hid (new_row h4))
      | (have _ := h4; refine wpList_append_rl (ys := [toP ⟨k, vv⟩]) hr (St.swap (X := [_, _]) h4) rw4.out _ _ rfl rfl rfl rfl (by rw [List.length_map]; exact le.out) ?_; clear h4; intro v5 W5 M5 hr5 h5; replace h5 := St.swap (X := M5) (M := [_, _]) h5)
      | (have _ := h5; refine wpList_cell_st h5 1 rfl 41 _ _ rfl rfl 2 v5 rfl rfl (by simp) (rlp_cells hr5).1 (rlp_cells hr5).2 sz41 ?_; clear h5; intro W6 h6 _))
    go_ret
    refine ⟨rfl, v5, M5, by rw [List.map_append]; exact hr5, ?_⟩
    have h7 : St w W6 ((_, _) :: (gr, C 43 #[.int .i64 (S : Int), .int .i64 (N : Int), v5]) :: (M5 ++ L)) := h6
    exact h7.tail
  · rw [if_neg h0]
    generalize roomR S N l k = R at *
    have q : (R == 0) = false := by simpa using h0
    have q2 : (R = 0) = False := eq_false h0
    clear h h0
    go_enter Try.func11, Try.ntmps11
    go_wp2_with (go_at_call 24; refine RO.out.mono ?_; rintro e W2 ⟨rfl, h2⟩)
    go_ret
    exact ⟨rfl, h2⟩
theorem zero40 (W : World) : (zeroValue 40).run Try.prog W = .ok (.agg #[.int .i64 0, .int .i64 0]) W := by kernel_rfl
theorem wpList_loadP {ops : Array Oper} {rest : List Oper} {o : Oper} {a : Act} {W : World} {Q : Exit → Act → World → Prop} {b off : Nat} {e : Ent} (hr : W.rangeAt b off (Elt.cs (toP e))) (x : Operand) (ho : o.op = .load 40 x) (hw : Region.wanted o (yielded ops a.tmps) = true) (hx : a.eval x = .pointer (some ⟨b, off, none⟩))
    (k : wpList Try.prog ops Q rest (a.put o.dst (.agg #[.int .i64 e.k, .int .i64 e.v])) W) : wpList Try.prog ops Q (o :: rest) a W := by
  have hrun : (loadVar 40 ⟨b, off, none⟩).run Try.prog W = .ok (.agg #[.int .i64 e.k, .int .i64 e.v]) W := run_loadVar_mid (P := Try.prog) W b off 40 (toP e).cs _ hr Try.underlying40 rfl sz40
  unfold wpList
  rw [if_pos hw]
  refine .inl ?_
  unfold Oper.wp execOp
  simp only [ho, hx, Instr.loadAt, Instr.sureAddr, Sem.run_bind, Sem.run_pure, Result.andThen_ok, hrun]
  exact k
set_option maxRecDepth 20000 in
set_option maxHeartbeats 2000000 in
theorem rtouch_any (h : RC w W gr S N l L) (k : Int) (hl : l.length ≤ 1000) :
    Calls Try.prog 15 #[.pointer (some ⟨gr, 0, none⟩), .int .i64 k] W fun e W' => e = .returned (.bool (fnd l k).isSome) ∧ RC w W' gr S N (match fnd l k with | some i => dropR l k ++ [l.getD i default] | none => l) L := by
  have FI := Lib.hid (rfind_any h k)
  cases hf : fnd l k with
  | none =>
    have e1 : fndV l k = -1 := by unfold fndV; rw [hf]
    rw [e1] at FI
    clear hf e1
    go_enter Try.func15, Try.ntmps15
    go_wp2_with (go_at_call 17; refine FI.out.mono ?_; rintro e W2 ⟨rfl, rfl⟩)
    go_ret
    exact ⟨rfl, h⟩
  | some i =>
  have e1 : fndV l k = (i : Int) := by unfold fndV; rw [hf]
  obtain ⟨x, hx, _, _⟩ := fnd_spec hf
  have hil : i < l.length := (List.getElem?_eq_some_iff.1 hx).1
  have ex : l.getD i default = x := by rw [List.getD_eq_getElem?_getD, hx]; rfl
  rw [e1] at FI
  simp only [ex]
  have q0 : ((i : Int) < 0) = False := eq_false (by omega)
  have DR := Lib.hid (fun W L (h : RC w W gr S N l L) => rdrop_any h k hl)
  have hd := dropR_len l k
  have HLE := Lib.hid (show (dropR l k).length + 1 ≤ 100000 by omega)
  obtain ⟨A0, p0, Y, hs, hb, FX⟩ := h.fix
  obtain ⟨_, c0, c1, c2, hrow⟩ := FX _ _ hs
  obtain ⟨b, o, rfl, _, _, _, rg⟩ := pr_cells hrow i x hx
  generalize dropR l k = l2 at *
  generalize hln : l.length = n at *
  replace rg := Lib.hid rg
  replace FX := Lib.hid FX
  clear hf e1 hrow hd ex hx h c0 c1
  go_enter Try.func15, Try.ntmps15
  go_wp2_with (first
    | (go_at_call 17; refine FI.out.mono ?_; rintro e W2 ⟨rfl, rfl⟩)
    | (refine wpList_loadP (e := x) rg.out _ rfl rfl rfl ?_)
    | (have _ := hs; refine wpList_alloc_st hs 40 rfl rfl _ _ zero40 rfl ?_; clear hs c2 rg; intro W3 h3 _ _; replace h3 := h3.front; generalize W2.heap.size = bx at *)
    | (have _ := h3; refine wpList_store_st (arr' := #[.int .i64 x.k, .int .i64 x.v]) h3 0 rfl 40 _ _ rfl rfl rfl rfl sz40 rfl (by simp [Value.oneCell']) ?_; clear h3; intro W4 h4 _; replace h4 := (FX.out W4 ((bx, C 40 #[.int .i64 x.k, .int .i64 x.v]) :: L) (St.perm h4 List.perm_middle.symm)).1; clear FX)
    | (have _ := h4; go_at_call 13; refine (DR.out _ _ h4).mono ?_; clear h4; rintro e W5 ⟨rfl, v, M, hr, h5⟩))
  obtain ⟨A, p, rfl, _⟩ := hr.form
  generalize hLN : (l2.map toP).length = LN at *
  have h6 : St w W5.drew ((gr, C 43 #[.int .i64 (S : Int), .int .i64 (N : Int), .slice A LN p]) :: (bx, C 40 #[.int .i64 x.k, .int .i64 x.v]) :: (M ++ L)) := (h5.drewN 1).perm (List.Perm.cons _ List.perm_middle)
  have HS0 := Lib.hid (show St w W5.drew (M ++ ([(gr, C 43 #[.int .i64 (S : Int), .int .i64 (N : Int), .slice A LN p]), (bx, C 40 #[.int .i64 x.k, .int .i64 x.v])] ++ L)) from h6.perm (List.perm_append_comm_assoc [_, _] M L))
  have H0 := Lib.hid (show At W5.drew gr 43 #[.int .i64 (S : Int), .int .i64 (N : Int), .slice A LN p] ∧ At W5.drew bx 40 #[.int .i64 x.k, .int .i64 x.v] from ⟨h6.get 0 rfl, h6.get 1 rfl⟩)
  replace HS0 := Lib.hid h6
  have HR := Lib.hid hr
  rw [List.length_map] at hLN
  clear h5 h6 hr DR FI
  refine wp_region_last (fun W => At W gr 43 #[.int .i64 (S : Int), .int .i64 (N : Int), .slice A LN p] ∧ At W bx 40 #[.int .i64 x.k, .int .i64 x.v]) 10 (by kernel_rfl) ?_
  generalize W5.drew = V0 at *
  refine AnyT.take (i := 0) (v := .pointer (some ⟨gr, 0, none⟩)) rfl (by kernel_rfl) (by kernel_rfl) (by kernel_rfl) (by kernel_rfl) (by decide) (fun _ _ _ h => h) (Or.inl ⟨by rfl, fun W hW => by clear hW; go_simp⟩) H0.out ?_
  try simp only [Act.put, List.getElem_toArray, List.getElem_cons_succ, List.getElem_cons_zero, List.setIfInBounds_toArray, List.set_cons_zero, List.set_cons_succ]
  refine AnyT.take (i := 1) (v := .pointer (some ⟨gr, 0, none⟩)) rfl (by kernel_rfl) (by kernel_rfl) (by kernel_rfl) (by kernel_rfl) (by decide) (fun _ _ _ h => h) (Or.inl ⟨by rfl, fun W hW => by clear hW; go_simp⟩) H0.out ?_
  try simp only [Act.put, List.getElem_toArray, List.getElem_cons_succ, List.getElem_cons_zero, List.setIfInBounds_toArray, List.set_cons_zero, List.set_cons_succ]
  refine AnyT.take (i := 2) (v := .pointer (some ⟨gr, 0, none⟩)) rfl (by kernel_rfl) (by kernel_rfl) (by kernel_rfl) (by kernel_rfl) (by decide) (fun _ _ _ h => h) (Or.inl ⟨by rfl, fun W hW => by clear hW; go_simp⟩) H0.out ?_
  try simp only [Act.put, List.getElem_toArray, List.getElem_cons_succ, List.getElem_cons_zero, List.setIfInBounds_toArray, List.set_cons_zero, List.set_cons_succ]
  refine AnyT.take (i := 3) (v := .pointer (some ⟨gr, 2, none⟩)) rfl (by kernel_rfl) (by kernel_rfl) (by kernel_rfl) (by kernel_rfl) (by decide) (fun _ _ _ h => h) (Or.inl ⟨by rfl, fun W hW => by clear hW; go_simp⟩) H0.out ?_
  try simp only [Act.put, List.getElem_toArray, List.getElem_cons_succ, List.getElem_cons_zero, List.setIfInBounds_toArray, List.set_cons_zero, List.set_cons_succ]
  refine AnyT.take (i := 4) (v := .slice A LN p) rfl (by kernel_rfl) (by kernel_rfl) (by kernel_rfl) (by kernel_rfl) (by decide) (fun _ _ _ h => h) (Or.inl ⟨by rfl, fun W hW => by have hc := (show W.cell? ⟨gr, 2, none⟩ = some (.slice A LN p) from hW.1.cell 2); clear hW; go_simp⟩) H0.out ?_
  try simp only [Act.put, List.getElem_toArray, List.getElem_cons_succ, List.getElem_cons_zero, List.setIfInBounds_toArray, List.set_cons_zero, List.set_cons_succ]
  refine AnyT.take (i := 5) (v := .agg #[.int .i64 x.k, .int .i64 x.v]) rfl (by kernel_rfl) (by kernel_rfl) (by kernel_rfl) (by kernel_rfl) (by decide) (fun _ _ _ h => h) (yields_at 40 _ _ rfl (by rfl) rfl Try.underlying40 rfl sz40 (fun W hW => hW.2)) H0.out ?_
  try simp only [Act.put, List.getElem_toArray, List.getElem_cons_succ, List.getElem_cons_zero, List.setIfInBounds_toArray, List.set_cons_zero, List.set_cons_succ]
  refine AnyT.one (i := 6) (by kernel_rfl) rfl (fun K hK => ?_)
  rw [if_pos (by rfl)]
  refine wp_build1_st HS0.out (.tmp 27) (toP x) rfl rfl ?_
  intro V1 h1
  have H1_ := Lib.hid (show At V1 gr 43 #[.int .i64 (S : Int), .int .i64 (N : Int), .slice A LN p] ∧ At V1 bx 40 #[.int .i64 x.k, .int .i64 x.v] from ⟨h1.get 1 rfl, h1.get 2 rfl⟩)
  generalize V0.heap.size = nb at *
  have HS1 := Lib.hid h1
  clear h1
  refine hK.out _ _ (fun _ => H1_.out) ?_
  clear hK K
  try simp only [Act.put, List.getElem_toArray, List.getElem_cons_succ, List.getElem_cons_zero, List.setIfInBounds_toArray, List.set_cons_zero, List.set_cons_succ]
  refine AnyT.one (i := 7) (by kernel_rfl) rfl (fun K hK => ?_)
  rw [if_pos (by rfl)]
  refine wp_append_rl (ys := [toP x]) HR.out (St.swap (X := [_, _, _]) HS1.out) (new_row HS1.out) (.tmp 26) (.tmp 28) rfl (by rfl) rfl (by rw [List.length_map]; exact HLE.out) ?_
  intro v1 V2 M1 hr1 h2
  replace h2 := St.swap (X := M1) (M := [_, _, _]) h2
  have H2_ := Lib.hid (show At V2 gr 43 #[.int .i64 (S : Int), .int .i64 (N : Int), .slice A LN p] ∧ At V2 bx 40 #[.int .i64 x.k, .int .i64 x.v] from ⟨h2.get 1 rfl, h2.get 2 rfl⟩)
  have HR1 := Lib.hid hr1
  have HS2 := Lib.hid h2
  clear h2 hr1
  refine hK.out _ _ (fun _ => H2_.out) ?_
  clear hK K
  try simp only [Act.put, List.getElem_toArray, List.getElem_cons_succ, List.getElem_cons_zero, List.setIfInBounds_toArray, List.set_cons_zero, List.set_cons_succ]
  refine AnyT.one (i := 8) (by kernel_rfl) rfl (fun K hK => ?_)
  go_simp
  refine hK.out _ _ (fun _ => H2_.out) ?_
  clear hK K
  try simp only [Act.put, List.getElem_toArray, List.getElem_cons_succ, List.getElem_cons_zero, List.setIfInBounds_toArray, List.set_cons_zero, List.set_cons_succ]
  refine AnyT.take (i := 9) (v := .pointer (some ⟨gr, 2, none⟩)) rfl (by kernel_rfl) (by kernel_rfl) (by kernel_rfl) (by kernel_rfl) (by decide) (fun _ _ _ h => h) (Or.inl ⟨by rfl, fun W hW => by clear hW; go_simp⟩) H2_.out ?_
  try simp only [Act.put, List.getElem_toArray, List.getElem_cons_succ, List.getElem_cons_zero, List.setIfInBounds_toArray, List.set_cons_zero, List.set_cons_succ]
  refine AnyT.one (i := 10) (by kernel_rfl) rfl (fun K hK => ?_)
  rw [if_pos (by rfl)]
  refine wp_cell_st HS2.out 1 rfl 41 (.tmp 31) (.tmp 29) rfl 2 v1 rfl rfl (by simp) (rlp_cells HR1.out).1 (rlp_cells HR1.out).2 sz41 ?_
  intro V3 hs3
  have HS3 := Lib.hid hs3
  clear hs3
  refine hK.out _ _ (fun h => absurd rfl h) ?_
  clear hK K
  try simp only [Act.put, List.getElem_toArray, List.getElem_cons_succ, List.getElem_cons_zero, List.setIfInBounds_toArray, List.set_cons_zero, List.set_cons_succ]
  refine AnyT.done (by kernel_rfl) ?_ _
  go_wp2
  go_ret
  refine ⟨rfl, v1, M1, by rw [List.map_append]; exact HR1.out, ?_⟩
  have h9 : St w V3 ((nb, _) :: (gr, C 43 #[.int .i64 (S : Int), .int .i64 (N : Int), v1]) :: (bx, C 40 #[.int .i64 x.k, .int .i64 x.v]) :: (M1 ++ L)) := HS3.out
  exact h9.tail.sub ((List.sublist_cons_self _ _).cons_cons _)
end
end Go.Proofs.Ytmlepikgiicaiaa
