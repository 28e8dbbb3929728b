/- Which seeds were used again: the program's Twice. No statement is proved here. -/
import Derived.Test.YtfbgpfiodgibbaaPTwice
namespace Go.Proofs.Ytfbgpfiodgibbaa
open Go.RowKit
open A (arrV vals)
set_option linter.unusedVariables false
set_option linter.unusedSimpArgs false
attribute [local irreducible] A.arrV crs cr1

/-- Of the first k seeds those that stand ahead of themselves. -/
def tw (us : List Sd) : Nat → List Sd
  | 0 => []
  | k + 1 => if us.getD k default ∈ us.take k then tw us k ++ [us.getD k default] else tw us k
theorem tw_len (us : List Sd) (k : Nat) : (tw us k).length ≤ k := by
  induction k with
  | zero => exact Nat.le_refl _
  | succ k ih =>
    unfold tw
    split
    · rw [List.length_append, List.length_singleton]; omega
    · omega
theorem take_snoc (us : List Sd) (k : Nat) (h : k < us.length) : us.take k ++ [us.getD k default] = us.take (k + 1) := by
  rw [List.take_succ_eq_append_getElem h, List.getD_eq_getElem?_getD, List.getElem?_eq_getElem h]; rfl
theorem run_makeMap65 (W : World) : (Instr.makeMap 65 none).run Try.prog W = .ok (.map (some W.heap.size)) (W.alloc (.map #[] 0)) := by
  exact run_makeMap (P := Try.prog) 65 W
theorem sz66 : (Try.prog.info? 66).map (·.size) = some 0 := by kernel_rfl
section
variable {ops : Array Oper} {rest : List Oper} {o : Oper} {a : Act} {w W : World} {Q : Exit → Act → World → Prop} {L : Blks}
theorem wpList_makeMap_st (h : St w W L) (ho : o.op = .makeMap 65 none) (hw : Region.wanted o (yielded ops a.tmps) = true)
    (k : ∀ W', St w W' ((W.heap.size, .map #[] 0) :: L) → wpList Try.prog ops Q rest (a.put o.dst (.map (some W.heap.size))) W') : wpList Try.prog ops Q (o :: rest) a W := by
  have hrun := run_makeMap65 W
  unfold wpList
  rw [if_pos hw]
  refine .inl ?_
  unfold Oper.wp execOp
  simp only [ho, Option.map_none, Sem.run_bind, hrun, Result.andThen_ok, Sem.run_pure]
  exact k _ (h.pushO _).front
end
def TwRel (w : World) (bm : Nat) (us : List Sd) (n : Nat) (M X : Blks) (s i : Value) (wr : World) : Prop :=
  ∃ (k : Nat) (M' : Blks) (mo : Obj), k ≤ n ∧ i = .int .i64 (k : Nat) ∧ RL s (tw us k) M' ∧ SM mo (us.take k) ∧ St w wr ((bm, mo) :: (M' ++ (M ++ X)))
set_option maxRecDepth 20000 in
set_option maxHeartbeats 4000000 in
theorem twice_any {w W : World} {g gc : Nat} {key : List Nat} {us : List Sd} {L : Blks} (hP : PP w W g gc key us L) (hus : us.length ≤ 1000) (hok : ∀ s ∈ us, s.Ok) :
    Calls Try.prog 15 #[.pointer (some ⟨g, 0, none⟩)] W fun e W' => ∃ v M, e = .returned v ∧ RL v (tw us us.length) M ∧ PP w W' g gc key us (M ++ L) := by
  obtain ⟨v, M, hr, hs⟩ := hP
  have hr2 := hr
  obtain ⟨A9, c9, rfl, _⟩ := hr.form
  obtain ⟨X, hX⟩ : ∃ X : Blks, X = (g, C 59 #[.pointer (some ⟨gc, 0, none⟩), .slice A9 us.length c9]) :: (gc, C 78 (arrV (A.cells key))) :: L := ⟨_, rfl⟩
  have h0 : St w W (M ++ X) := by rw [hX]; exact hs.perm (List.perm_append_comm_assoc [_, _] M L)
  have FIN := Lib.hid (show ∀ (V : World) (v' : Value) (M' : Blks) (bm : Nat) (mo : Obj), RL v' (tw us us.length) M' → St w V ((bm, mo) :: (M' ++ (M ++ X))) → ∃ v M, Ending.returned v' = .returned v ∧ RL v (tw us us.length) M ∧ PP w V g gc key us (M ++ L) from fun V v' M' bm mo h1 h2 => by
    refine ⟨v', M', rfl, h1, _, M, hr2, ?_⟩
    rw [hX] at h2
    refine h2.tail.perm ?_
    refine (List.Perm.append_left M' (List.perm_append_comm_assoc M [_, _] L)).trans ?_
    exact (List.perm_append_comm_assoc M' [_, _] (M ++ L)).trans ((List.perm_append_comm_assoc M' M L).cons _ |>.cons _))
  have CE := Lib.hid (show ∀ V mo bm, St w V ((bm, mo) :: (M ++ X)) → V.cell? ⟨g, 1, none⟩ = some (.slice A9 us.length c9) from fun V mo bm h => by
    rw [hX] at h
    exact (show At V g 59 #[.pointer (some ⟨gc, 0, none⟩), .slice A9 us.length c9] from h.at_ (g, C 59 #[.pointer (some ⟨gc, 0, none⟩), .slice A9 us.length c9]) (by simp)).cell 1)
  have RW := Lib.hid (show ∀ V Z, St w V (M ++ Z) → ERow V V.heap.size A9 us.length c9 us from fun V Z h => hr2.row h rfl)
  have OK := Lib.hid hok
  generalize hn : us.length = n at *
  replace hn := Lib.hid hn
  clear hX hs hr hr2 hok
  go_enter Try.func15, Try.ntmps15
  go_wp2_with (first
    | (have _ := h0; refine wpList_makeMap_st h0 rfl rfl ?_; clear h0; intro W1 h1; have c1 := CE.out _ _ _ h1; generalize W.heap.size = bm at *))
  go_loopw [3, 15] (TwRel w bm us n M X) (fun _ i _ => n - (intOf i).toNat)
  case atStart => exact ⟨0, [], _, by omega, rfl, RL.nil_, by exact SM.made, h1⟩
  case round =>
    clear h1 CE c1
    obtain ⟨k, M', mo, hk, rfl, hr, hsm, h3⟩ := hrel
    by_cases hlt : k < n
    · have hku : us[k]? = some (us.getD k default) := by rw [List.getD_eq_getElem?_getD, List.getElem?_eq_getElem (by rw [hn.out]; exact hlt)]; rfl
      obtain ⟨b, off, rfl, _, rg⟩ := (RW.out wr _ (St.perm (M := M ++ ((bm, mo) :: (M' ++ X))) h3 ((List.perm_append_comm_assoc ((bm, mo) :: M') M X)))).at_ k _ hku
      have okS := Lib.hid (OK.out _ (List.mem_of_getElem? hku))
      have TS := Lib.hid (take_snoc us k (by rw [hn.out]; exact hlt))
      have TL := Lib.hid (tw_len us k)
      have T1 : Hid (tw us (k + 1) = if us.getD k default ∈ us.take k then tw us k ++ [us.getD k default] else tw us k) := Lib.hid rfl
      generalize us.getD k default = s0 at *
      replace rg := Lib.hid rg
      have hlt2 : (k : Int) < (n : Int) := by omega
      by_cases hmem : s0 ∈ us.take k
      · have HB := Lib.hid (decide_eq_true hmem)
        have T2 := T1.out
        rw [if_pos hmem] at T2
        replace T2 := Lib.hid T2
        clear T1 hmem hku RW FIN
        go_wp2_with (first
        | (have _ := h3; refine wpList_loadSd (e := s0) rg.out _ rfl rfl rfl ?_)
        | (have _ := h3; refine wpList_alloc_st h3 42 rfl rfl _ #[.int .i64 0, .int .u64 0, .int .i64 0, .int .i64 0] zero42 rfl ?_; clear h3 rg; intro W4 h4 _ _; replace h4 := h4.front; generalize wr.heap.size = b6 at *)
        | (have _ := h4; refine wpList_store_st (arr' := s0.arr) h4 0 rfl 42 _ _ rfl rfl rfl rfl sz42 rfl (by simp [Sd.arr, Value.oneCell']) ?_; clear h4; intro W5 h5 _)
        | (have _ := h5; refine wpList_load_st h5 0 rfl 42 _ _ rfl rfl rfl Try.underlying42 rfl sz42 ?_)
        | (have _ := h5; refine wpList_look_sm hsm (h5.get 1 rfl) okS.out _ _ rfl rfl rfl rfl true HB.out ?_)
        | (have _ := h5; refine wpList_alloc_st h5 66 rfl rfl _ #[] zero66 rfl ?_; clear h5; intro W7 h6 _ _; have h7b : St w W7 ((b6, C 42 s0.arr) :: (bm, mo) :: (M' ++ (M ++ X))) := St.tail h6.front; clear h6; generalize W5.heap.size = b7 at *)
        | (have _ := h7b; refine wpList_load_st h7b 0 rfl 42 _ _ rfl rfl rfl Try.underlying42 rfl sz42 ?_)
        | (have _ := h7b; refine wpList_build1_st (α := Sd) h7b _ s0 rfl rfl rfl ?_; clear h7b; intro W8 h8; have rw4 := Lib.hid (new_row h8))
        | (have _ := h8; refine wpList_append_rl (ys := [s0]) hr (St.perm h8 (List.perm_append_comm_assoc [_, _, _] M' (M ++ X))) rw4.out _ _ rfl rfl rfl rfl (by have := TL.out; omega) ?_; clear h8 rw4; intro v9 W9 M9 hr9 h9; have h9b : St w W9 ((_, _) :: (b6, C 42 s0.arr) :: (bm, mo) :: (M9 ++ (M ++ X))) := St.perm h9 (List.perm_append_comm_assoc M9 [_, _, _] (M ++ X)); clear h9)
        | (have _ := h9b; refine wpList_load_st h9b 1 rfl 42 _ _ rfl rfl rfl Try.underlying42 rfl sz42 ?_)
        | (have _ := h9b; refine wpList_update_sm h9b 2 rfl hsm okS.out _ _ _ rfl rfl rfl rfl rfl ?_; clear h9b; intro W10 mo' h10 hsm2))
        go_roundw
        case rel => exact ⟨k + 1, M9, mo', by omega, by go_num, by rw [T2.out]; exact hr9, by rw [← TS.out]; exact hsm2, St.tail (St.tail h10)⟩
        case measure => simp [intOf]; omega
      · have HB := Lib.hid (decide_eq_false hmem)
        have T2 := T1.out
        rw [if_neg hmem] at T2
        replace T2 := Lib.hid T2
        clear T1 hmem hku RW FIN
        go_wp2_with (first
        | (have _ := h3; refine wpList_loadSd (e := s0) rg.out _ rfl rfl rfl ?_)
        | (have _ := h3; refine wpList_alloc_st h3 42 rfl rfl _ #[.int .i64 0, .int .u64 0, .int .i64 0, .int .i64 0] zero42 rfl ?_; clear h3 rg; intro W4 h4 _ _; replace h4 := h4.front; generalize wr.heap.size = b6 at *)
        | (have _ := h4; refine wpList_store_st (arr' := s0.arr) h4 0 rfl 42 _ _ rfl rfl rfl rfl sz42 rfl (by simp [Sd.arr, Value.oneCell']) ?_; clear h4; intro W5 h5 _)
        | (have _ := h5; refine wpList_load_st h5 0 rfl 42 _ _ rfl rfl rfl Try.underlying42 rfl sz42 ?_)
        | (have _ := h5; refine wpList_look_sm hsm (h5.get 1 rfl) okS.out _ _ rfl rfl rfl rfl false HB.out ?_)
        | (have _ := h5; refine wpList_alloc_st h5 66 rfl rfl _ #[] zero66 rfl ?_; clear h5; intro W7 h6 _ _; have h7b : St w W7 ((b6, C 42 s0.arr) :: (bm, mo) :: (M' ++ (M ++ X))) := St.tail h6.front; clear h6; generalize W5.heap.size = b7 at *)
        | (have _ := h7b; refine wpList_load_st h7b 0 rfl 42 _ _ rfl rfl rfl Try.underlying42 rfl sz42 ?_)
        | (have _ := h7b; refine wpList_update_sm h7b 1 rfl hsm okS.out _ _ _ rfl rfl rfl rfl rfl ?_; clear h7b; intro W10 mo' h10 hsm2))
        go_roundw
        case rel => exact ⟨k + 1, M', mo', by omega, by go_num, by rw [T2.out]; exact hr, by rw [← TS.out]; exact hsm2, St.tail h10⟩
        case measure => simp [intOf]; omega
    · obtain rfl : k = n := by omega
      go_wp2
      go_ret
      exact FIN.out _ _ _ _ _ hr h3
end Go.Proofs.Ytfbgpfiodgibbaa
