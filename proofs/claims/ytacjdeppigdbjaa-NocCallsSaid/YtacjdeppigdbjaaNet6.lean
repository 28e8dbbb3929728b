/- A new net. No statement is proved here. -/
import Derived.Test.YtacjdeppigdbjaaNet5
import Derived.Deep.CutBlock
namespace Go.Proofs.Ytacjdeppigdbjaa
open Go.RowKit
set_option linter.unusedVariables false
set_option linter.unusedSimpArgs false

/-- A row of so many pointers, of which the first ones lead to u, and the others nowhere. -/
def mixp (u i K : Nat) : Array Value := (List.replicate i (Value.pointer (some ⟨u, 0, none⟩)) ++ List.replicate (K - i) (Value.pointer none)).toArray
theorem mixp_size (u i K : Nat) (h : i ≤ K) : (mixp u i K).size = K := by simp [mixp]; omega
theorem mixp_set (u i K : Nat) (h : i < K) : (mixp u i K).setIfInBounds i (.pointer (some ⟨u, 0, none⟩)) = mixp u (i + 1) K := by
  unfold mixp
  rw [List.setIfInBounds_toArray, List.set_append_right _ _ (by simp), List.length_replicate, Nat.sub_self]
  congr 1
  rw [show K - i = (K - (i + 1)) + 1 by omega, List.replicate_succ, List.set_cons_zero, List.replicate_succ', List.append_assoc]
  rfl
theorem mixp_all (u K : Nat) : mixp u K K = parr (List.replicate K u) := by
  unfold mixp parr
  simp
theorem mixp_zero (u K : Nat) : mixp u 0 K = (List.replicate K (Value.pointer none)).toArray := by unfold mixp; simp
theorem mixp_u (u K : Nat) : mixp u 0 K = mixp 0 0 K := by unfold mixp; simp
theorem narr_def (n q u K : Nat) : narr n q u K = #[.int .i64 (n : Int), .slice (some ⟨q, 0, none⟩) K K, .pointer (some ⟨u, 0, none⟩)] := rfl
theorem info24z : ∃ i, Try.prog.info? 24 = some i ∧ i.zero = some (.pointer none) ∧ i.size = 1 ∧ i.bytes = 8 := by
  have h : (Try.prog.info? 24).map (fun i => (i.zero, i.size, i.bytes)) = some (some (.pointer none), 1, 8) := by kernel_rfl
  obtain ⟨i, hi, he⟩ := Option.map_eq_some_iff.1 h
  simp only [Prod.mk.injEq] at he
  exact ⟨i, hi, he.1, he.2.1, he.2.2⟩
section
variable {ops : Array Oper} {rest : List Oper} {o : Oper} {a : Act} {w W : World} {K : Act → World → Prop} {Q : Exit → Act → World → Prop} {L : Blks} {g R b u : Nat} {xs : List Msg}
theorem wp_makeP_st (h : St w W L) (l c : Operand) (ho : o.op = .makeSlice 83 l c) (n : Nat) (hl : a.eval l = .int .i64 (n : Int)) (hc : a.eval c = .int .i64 (n : Int)) (hn : n ≤ 768)
    (k : ∀ W', St w W' ((W.heap.size, C 24 (mixp 0 0 n)) :: L) → K (a.put o.dst (.slice (some ⟨W.heap.size, 0, none⟩) n n)) W') : o.wp Try.prog a W K Q := by
  obtain ⟨i0, hi, hz0, hz1, hz2⟩ := info24z
  have hrun := run_makeSlice (P := Try.prog) (w := W) 83 24 i0 (.pointer none) Try.underlying83 hi hz0 .i64 .i64 (n : Int) (n : Int) (by omega) (by omega) (by simp [hz1]; omega) (by rw [hz2]; omega) (by omega)
  have e : (W.alloc (.cells (madeCells (Value.pointer none).cells (((n : Int).toNat) * i0.size)) 24)) = W.alloc (.cells (mixp 0 0 n) 24) := by
    rw [hz1, Int.toNat_natCast, mixp_zero]
    congr 2
    rw [← Array.toList_inj, show (Value.pointer none).cells = #[Value.pointer none] from rfl, toList_madeCells_one]
    simp
  rw [e] at hrun
  unfold Oper.wp
  simp only [execOp, ho, hl, hc, Sem.run_bind, hrun, Result.andThen_ok, Sem.run_pure, Int.toNat_natCast]
  exact k _ (h.push 24 _).front
theorem wp_makeP_q (h : QQ w W u R xs L) (l c : Operand) (ho : o.op = .makeSlice 83 l c) (n : Nat) (hl : a.eval l = .int .i64 (n : Int)) (hc : a.eval c = .int .i64 (n : Int)) (hn : n ≤ 768)
    (k : ∀ W', QQ w W' u R xs ((W.heap.size, C 24 (mixp 0 0 n)) :: L) → K (a.put o.dst (.slice (some ⟨W.heap.size, 0, none⟩) n n)) W') : o.wp Try.prog a W K Q := by
  obtain ⟨B, hB, hs, up⟩ := h.lift
  refine wp_makeP_st hs l c ho n hl hc hn fun W' h' => k W' (up W' _ (h'.perm ?_))
  exact (List.perm_middle).symm
theorem wp_box_q (h : QQ w W u R xs L) (ty : TypeId) (x : Operand) (ho : o.op = .box ty x) (arr : Array Value) (hx : (a.eval x).cells = arr)
    (k : ∀ W', QQ w W' u R xs ((W.heap.size, C ty arr) :: L) → K (a.put o.dst (.pointer (some ⟨W.heap.size, 0, none⟩))) W') : o.wp Try.prog a W K Q := by
  subst hx
  obtain ⟨B, hB, hs, up⟩ := h.lift
  have h1 := k _ (up _ _ (((hs.push ty (a.eval x).cells).front).perm (List.perm_middle).symm))
  unfold Oper.wp execOp
  simp only [ho]
  generalize a.eval x = v at *
  have e : ∀ v : Value, (Instr.box ty v).run Try.prog W = .ok (.pointer (some ⟨W.heap.size, 0, none⟩)) (W.alloc (.cells v.cells ty)) := fun v => by
    simp only [Instr.box, newVar]
    generalize v.cells = cs
    go_simp
  simp only [Sem.run_bind, e, Result.andThen_ok, Sem.run_pure]
  exact h1
theorem wp_cell_q (h : QQ w W u R xs L) (i : Nat) {t : TypeId} {arr : Array Value} (hi : L[i]? = some (b, C t arr)) (ty : TypeId) (x y : Operand) (ho : o.op = .store ty x y)
    (m : Nat) (v : Value) (hx : a.eval x = .pointer (some ⟨b, m, none⟩)) (hy : a.eval y = v) (hm : m < arr.size) (hv : v.cells = #[v]) (h1 : v.oneCell' = true) (hs : (Try.prog.info? ty).map (·.size) = some 1)
    (k : ∀ W', QQ w W' u R xs (L.set i (b, C t (arr.setIfInBounds m v))) → K (a.put o.dst undef) W') : o.wp Try.prog a W K Q := by
  obtain ⟨B, hB, hs', up⟩ := h.lift
  refine wp_cell_st (t := t) (arr := arr) hs' (3 + i) (by rw [List.getElem?_append_right (by omega), hB, Nat.add_sub_cancel_left]; exact hi) ty x y ho m v hx hy hm hv h1 hs fun W' h' => k W' (up W' _ ?_)
  rwa [List.set_append_right _ _ (by omega), hB, Nat.add_sub_cancel_left] at h'
end
theorem nx_new {w W : World} {g q u n R : Nat} {L : Blks} (n16 : n ≤ 16) (h : QQ w W u R [] ((g, C 85 (narr n q u (lks n))) :: (q, C 24 (mixp u (lks n) (lks n))) :: L)) : NX w W g q u n R (List.replicate (lks n) u) (fun _ => []) L := by
  have hR := h.2.1
  obtain ⟨Bu, hu, hs⟩ := of_qq h
  rw [mixp_all] at hs
  have fl : (List.replicate (lks n) ([] : Blks)).flatten = [] := by simp
  refine ⟨by simp, n16, hR, Bu, List.replicate (lks n) [], hu, by simp, fun i p hi => ?_, ?_⟩
  · rw [List.getElem?_replicate] at hi
    split at hi
    · injection hi with hi
      exact .inl ⟨hi.symm, rfl, by rw [List.getElem?_replicate, if_pos (by assumption)]⟩
    · cases hi
  · rw [fl, List.nil_append]
    exact hs.perm (List.perm_append_comm_assoc Bu [_, _] L)
/-- How many nodes a net is given. -/
def clampN (n : Int) : Nat := (min (max n 0) 16).toNat
def NRel (w : World) (g q u n R K : Nat) (L : Blks) (i : Value) (wr : World) : Prop :=
  ∃ k : Nat, k ≤ K ∧ i = .int .i64 (k : Nat) ∧ QQ w wr u R [] ((g, C 85 (narr n q u K)) :: (q, C 24 (mixp u k K)) :: L)
attribute [local irreducible] Msg.arr bufM marr narr idx lks parr mixp
set_option maxHeartbeats 2000000 in
theorem nnew_any {w W : World} {L : Blks} (nodes room : Int) (h : St w W L) :
    Calls Try.prog 22 #[.int .i64 nodes, .int .i64 room] W fun e W' => ∃ g q u ps, e = .returned (.pointer (some ⟨g, 0, none⟩)) ∧ NX w W' g q u (clampN nodes) (clampR room) ps (fun _ => []) L := by
  have n16 : clampN nodes ≤ 16 := by unfold clampN; omega
  have HN : (clampN nodes : Int) = if nodes < 0 then 0 else if 16 < nodes then 16 else nodes := by
    unfold clampN
    split
    · omega
    · split <;> omega
  generalize clampN nodes = n at *
  replace HN := Lib.hid HN
  have hK5 : lks n ≤ 768 := lks_le n16
  have b1 : n * n ≤ 16 * 16 := Nat.mul_le_mul n16 n16
  have w1 : IntKind.i64.wrap (3 * (n : Int)) = 3 * (n : Int) := IntWalk.i64_in _ (by omega)
  have eK : 3 * (n : Int) * (n : Int) = ((lks n : Nat) : Int) := by unfold lks; push_cast; rfl
  have w2 : IntKind.i64.wrap (3 * (n : Int) * (n : Int)) = ((lks n : Nat) : Int) := by rw [eK]; exact IntWalk.i64_in _ (by omega)
  have FIN := Lib.hid (fun g q u W' => nx_new (w := w) (W := W') (g := g) (q := q) (u := u) (n := n) (R := clampR room) (L := L) n16)
  generalize lks n = KK at *
  generalize hRR : clampR room = R at *
  replace hRR := Lib.hid hRR
  clear b1 eK
  go_enter Try.func22, Try.ntmps22
  go_upto_region 1 with fail
  go_cut [0] from 7 to 9 (fun s0 wx => s0 = .int .i64 (n : Int) ∧ wx = W)
  case first =>
    have HN2 := HN.out
    by_cases h0 : nodes < 0
    · have q0 : (nodes < 0) = True := eq_true h0
      rw [if_pos h0] at HN2
      replace HN2 := Lib.hid HN2
      go_wp2
      go_meet
      exact ⟨by rw [HN2.out], rfl⟩
    · have q0 : (nodes < 0) = False := eq_false h0
      rw [if_neg h0] at HN2
      by_cases h3 : 16 < nodes
      · have q1 : (16 < nodes) = True := eq_true h3
        rw [if_pos h3] at HN2
        replace HN2 := Lib.hid HN2
        go_wp2
        go_meet
        exact ⟨by rw [HN2.out], rfl⟩
      · have q1 : (16 < nodes) = False := eq_false h3
        rw [if_neg h3] at HN2
        replace HN2 := Lib.hid HN2
        go_wp2
        go_meet
        exact ⟨by rw [HN2.out], rfl⟩
  obtain ⟨rfl, rfl⟩ := hcut
  go_upto_region 2 with fail
  go_cut [5] from 10 to 19 (fun s5 wx => ∃ g q u, s5 = .pointer (some ⟨g, 0, none⟩) ∧ QQ w wx u (clampR room) [] ((g, C 85 #[.int .i64 (n : Int), .slice (some ⟨q, 0, none⟩) KK KK, .pointer (some ⟨u, 0, none⟩)]) :: (q, C 24 (mixp 0 0 KK)) :: L))
  case first =>
    have H0 := Lib.hid h.drew
    refine wp_region_held_drew (S := fun W => True) (by kernel_rfl) trivial (fun _ => ?_)
    generalize World.drew _ = V0 at *
    clear h
    refine wpAnyH_take (i := 0) (v := .int .i64 (n : Int)) rfl (by kernel_rfl) (by kernel_rfl) (by kernel_rfl) (fun _ _ _ h => h) (Or.inl ⟨by rfl, fun W hW => by clear hW; go_simp⟩) (trivial) ?_
    try simp only [Act.put, List.getElem_toArray, List.getElem_cons_succ, List.getElem_cons_zero, List.setIfInBounds_toArray, List.set_cons_zero, List.set_cons_succ]
    refine wpAnyH_take (i := 1) (v := .int .i64 (n : Int)) rfl (by kernel_rfl) (by kernel_rfl) (by kernel_rfl) (fun _ _ _ h => h) (Or.inl ⟨by rfl, fun W hW => by clear hW; go_simp⟩) (trivial) ?_
    try simp only [Act.put, List.getElem_toArray, List.getElem_cons_succ, List.getElem_cons_zero, List.setIfInBounds_toArray, List.set_cons_zero, List.set_cons_succ]
    refine wpAnyH_take (i := 2) (v := .int .i64 (3 * (n : Int))) rfl (by kernel_rfl) (by kernel_rfl) (by kernel_rfl) (fun _ _ _ h => h) (Or.inl ⟨by rfl, fun W hW => by clear hW; go_simp⟩) (trivial) ?_
    try simp only [Act.put, List.getElem_toArray, List.getElem_cons_succ, List.getElem_cons_zero, List.setIfInBounds_toArray, List.set_cons_zero, List.set_cons_succ]
    refine wpAnyH_take (i := 3) (v := .int .i64 (n : Int)) rfl (by kernel_rfl) (by kernel_rfl) (by kernel_rfl) (fun _ _ _ h => h) (Or.inl ⟨by rfl, fun W hW => by clear hW; go_simp⟩) (trivial) ?_
    try simp only [Act.put, List.getElem_toArray, List.getElem_cons_succ, List.getElem_cons_zero, List.setIfInBounds_toArray, List.set_cons_zero, List.set_cons_succ]
    refine wpAnyH_take (i := 4) (v := .int .i64 (KK : Int)) rfl (by kernel_rfl) (by kernel_rfl) (by kernel_rfl) (fun _ _ _ h => h) (Or.inl ⟨by rfl, fun W hW => by clear hW; go_simp⟩) (trivial) ?_
    try simp only [Act.put, List.getElem_toArray, List.getElem_cons_succ, List.getElem_cons_zero, List.setIfInBounds_toArray, List.set_cons_zero, List.set_cons_succ]
    refine wpAnyH_take (i := 6) (v := .int .i64 room) rfl (by kernel_rfl) (by kernel_rfl) (by kernel_rfl) (fun _ _ _ h => h) (Or.inl ⟨by rfl, fun W hW => by clear hW; go_simp⟩) (trivial) ?_
    try simp only [Act.put, List.getElem_toArray, List.getElem_cons_succ, List.getElem_cons_zero, List.setIfInBounds_toArray, List.set_cons_zero, List.set_cons_succ]
    refine wpAnyH_ready (rs := [5, 7]) (by kernel_rfl) (by simp) ?_
    refine (AllReadyH.cons rfl (fun K hK => ?_) (AllReadyH.cons rfl (fun K hK => ?_) AllReadyH.nil))
    · rw [if_pos (by rfl)]
      refine wp_makeP_st H0.out _ _ rfl KK rfl rfl hK5 ?_
      intro V1 F1
      refine hK.out _ _ (trivial) (fun _ => ?_)
      clear hK K
      try simp only [Act.put, List.getElem_toArray, List.getElem_cons_succ, List.getElem_cons_zero, List.setIfInBounds_toArray, List.set_cons_zero, List.set_cons_succ]
      refine wpAnyH_ready (rs := [7]) (by kernel_rfl) (by simp) ?_
      refine (AllReadyH.cons rfl (fun K hK => ?_) AllReadyH.nil)
      go_simp
      go_at_call 10
      refine (qnew_any room F1).mono ?_
      rintro e V2 ⟨u, rfl, F2⟩
      refine hK.out _ _ (trivial) (fun _ => ?_)
      clear hK K
      try simp only [Act.put, List.getElem_toArray, List.getElem_cons_succ, List.getElem_cons_zero, List.setIfInBounds_toArray, List.set_cons_zero, List.set_cons_succ]
      refine wpAnyH_take (i := 8) (v := .agg #[.int .i64 (n : Int), .slice (some ⟨V0.heap.size, 0, none⟩) KK KK, .pointer (some ⟨u, 0, none⟩)]) rfl (by kernel_rfl) (by kernel_rfl) (by kernel_rfl) (fun _ _ _ h => h) (Or.inl ⟨by rfl, fun W hW => by clear hW; go_simp⟩) (trivial) ?_
      try simp only [Act.put, List.getElem_toArray, List.getElem_cons_succ, List.getElem_cons_zero, List.setIfInBounds_toArray, List.set_cons_zero, List.set_cons_succ]
      refine wpAnyH_ready (rs := [9]) (by kernel_rfl) (by simp) ?_
      refine (AllReadyH.cons rfl (fun K hK => ?_) AllReadyH.nil)
      rw [if_pos (by rfl)]
      refine wp_box_q F2 85 (.tmp 18) rfl #[.int .i64 (n : Int), .slice (some ⟨V0.heap.size, 0, none⟩) KK KK, .pointer (some ⟨u, 0, none⟩)] rfl ?_
      intro V3 F3
      refine hK.out _ _ (trivial) (fun _ => ?_)
      clear hK K
      try simp only [Act.put, List.getElem_toArray, List.getElem_cons_succ, List.getElem_cons_zero, List.setIfInBounds_toArray, List.set_cons_zero, List.set_cons_succ]
      refine wpAnyH_take (i := 10) (v := .pointer (some ⟨V2.heap.size, 0, none⟩)) rfl (by kernel_rfl) (by kernel_rfl) (by kernel_rfl) (fun _ _ _ h => h) (Or.inl ⟨by rfl, fun W hW => by clear hW; go_simp⟩) (trivial) ?_
      try simp only [Act.put, List.getElem_toArray, List.getElem_cons_succ, List.getElem_cons_zero, List.setIfInBounds_toArray, List.set_cons_zero, List.set_cons_succ]
      refine wpAnyH_done (by kernel_rfl) ?_ _
      go_wp2_with fail
      go_meet
      exact ⟨_, _, u, rfl, F3⟩
    · go_simp
      go_at_call 10
      refine (qnew_any room H0.out).mono ?_
      rintro e V4 ⟨u, rfl, F4⟩
      refine hK.out _ _ (trivial) (fun _ => ?_)
      clear hK K
      try simp only [Act.put, List.getElem_toArray, List.getElem_cons_succ, List.getElem_cons_zero, List.setIfInBounds_toArray, List.set_cons_zero, List.set_cons_succ]
      refine wpAnyH_ready (rs := [5]) (by kernel_rfl) (by simp) ?_
      refine (AllReadyH.cons rfl (fun K hK => ?_) AllReadyH.nil)
      rw [if_pos (by rfl)]
      refine wp_makeP_q F4 _ _ rfl KK rfl rfl hK5 ?_
      intro V5 F5
      refine hK.out _ _ (trivial) (fun _ => ?_)
      clear hK K
      try simp only [Act.put, List.getElem_toArray, List.getElem_cons_succ, List.getElem_cons_zero, List.setIfInBounds_toArray, List.set_cons_zero, List.set_cons_succ]
      refine wpAnyH_take (i := 8) (v := .agg #[.int .i64 (n : Int), .slice (some ⟨V4.heap.size, 0, none⟩) KK KK, .pointer (some ⟨u, 0, none⟩)]) rfl (by kernel_rfl) (by kernel_rfl) (by kernel_rfl) (fun _ _ _ h => h) (Or.inl ⟨by rfl, fun W hW => by clear hW; go_simp⟩) (trivial) ?_
      try simp only [Act.put, List.getElem_toArray, List.getElem_cons_succ, List.getElem_cons_zero, List.setIfInBounds_toArray, List.set_cons_zero, List.set_cons_succ]
      refine wpAnyH_ready (rs := [9]) (by kernel_rfl) (by simp) ?_
      refine (AllReadyH.cons rfl (fun K hK => ?_) AllReadyH.nil)
      rw [if_pos (by rfl)]
      refine wp_box_q F5 85 (.tmp 18) rfl #[.int .i64 (n : Int), .slice (some ⟨V4.heap.size, 0, none⟩) KK KK, .pointer (some ⟨u, 0, none⟩)] rfl ?_
      intro V6 F6
      refine hK.out _ _ (trivial) (fun _ => ?_)
      clear hK K
      try simp only [Act.put, List.getElem_toArray, List.getElem_cons_succ, List.getElem_cons_zero, List.setIfInBounds_toArray, List.set_cons_zero, List.set_cons_succ]
      refine wpAnyH_take (i := 10) (v := .pointer (some ⟨V5.heap.size, 0, none⟩)) rfl (by kernel_rfl) (by kernel_rfl) (by kernel_rfl) (fun _ _ _ h => h) (Or.inl ⟨by rfl, fun W hW => by clear hW; go_simp⟩) (trivial) ?_
      try simp only [Act.put, List.getElem_toArray, List.getElem_cons_succ, List.getElem_cons_zero, List.setIfInBounds_toArray, List.set_cons_zero, List.set_cons_succ]
      refine wpAnyH_done (by kernel_rfl) ?_ _
      go_wp2_with fail
      go_meet
      exact ⟨_, _, u, rfl, F6⟩
  case rest =>
    clear h
    obtain ⟨g, q, u, rfl, h2⟩ := hcut
    rw [hRR.out] at h2
    rw [← narr_def, ← mixp_u u] at h2
    have c1 := (show wc.cell? ⟨g, 1, none⟩ = some (.slice (some ⟨q, 0, none⟩) KK KK) from h2.cell 0 rfl 1 _ (narr1 _ _ _ _))
    go_wp2
    clear c1
    go_loopw [25] (NRel w g q u n R KK L) (fun i _ => KK - (intOf i).toNat)
    case atStart => exact ⟨0, by omega, rfl, h2⟩
    case round =>
      obtain ⟨i, hi, rfl, h3⟩ := hrel
      clear h2
      by_cases hlt : i < KK
      · have g1 : ((i : Int) < (KK : Int)) = True := eq_true (by omega)
        go_wp2
        have h4 : QQ w wr.drew u R [] _ := h3.drewN 1
        have H0 := Lib.hid (show At wr.drew g 85 (narr n q u KK) from h4.at2 0 rfl)
        refine wp_region_held_drew (S := fun W => At W g 85 (narr n q u KK)) (by kernel_rfl) H0.out (fun _ => ?_)
        clear h3
        generalize wr.drew = V0 at *
        refine wpAnyH_take (i := 0) (v := .pointer (some ⟨g, 0, none⟩)) rfl (by kernel_rfl) (by kernel_rfl) (by kernel_rfl) (fun _ _ _ h => h) (Or.inl ⟨by rfl, fun W hW => by clear hW; go_simp⟩) H0.out ?_
        try simp only [Act.put, List.getElem_toArray, List.getElem_cons_succ, List.getElem_cons_zero, List.setIfInBounds_toArray, List.set_cons_zero, List.set_cons_succ]
        refine wpAnyH_take (i := 1) (v := .pointer (some ⟨g, 0, none⟩)) rfl (by kernel_rfl) (by kernel_rfl) (by kernel_rfl) (fun _ _ _ h => h) (Or.inl ⟨by rfl, fun W hW => by clear hW; go_simp⟩) H0.out ?_
        try simp only [Act.put, List.getElem_toArray, List.getElem_cons_succ, List.getElem_cons_zero, List.setIfInBounds_toArray, List.set_cons_zero, List.set_cons_succ]
        refine wpAnyH_take (i := 2) (v := .pointer (some ⟨g, 1, none⟩)) rfl (by kernel_rfl) (by kernel_rfl) (by kernel_rfl) (fun _ _ _ h => h) (Or.inl ⟨by rfl, fun W hW => by clear hW; go_simp⟩) H0.out ?_
        try simp only [Act.put, List.getElem_toArray, List.getElem_cons_succ, List.getElem_cons_zero, List.setIfInBounds_toArray, List.set_cons_zero, List.set_cons_succ]
        refine wpAnyH_take (i := 3) (v := .slice (some ⟨q, 0, none⟩) KK KK) rfl (by kernel_rfl) (by kernel_rfl) (by kernel_rfl) (fun _ _ _ h => h) (Or.inl ⟨by rfl, fun W hW => by have hc := (show W.cell? ⟨g, 1, none⟩ = some (.slice (some ⟨q, 0, none⟩) KK KK) from (hW.cell 1).trans (narr1 _ _ _ _)); clear hW; go_simp⟩) H0.out ?_
        try simp only [Act.put, List.getElem_toArray, List.getElem_cons_succ, List.getElem_cons_zero, List.setIfInBounds_toArray, List.set_cons_zero, List.set_cons_succ]
        refine wpAnyH_take (i := 4) (v := .int .i64 (i : Int)) rfl (by kernel_rfl) (by kernel_rfl) (by kernel_rfl) (fun _ _ _ h => h) (Or.inl ⟨by rfl, fun W hW => by clear hW; go_simp⟩) H0.out ?_
        try simp only [Act.put, List.getElem_toArray, List.getElem_cons_succ, List.getElem_cons_zero, List.setIfInBounds_toArray, List.set_cons_zero, List.set_cons_succ]
        refine wpAnyH_take (i := 5) (v := .pointer (some ⟨g, 0, none⟩)) rfl (by kernel_rfl) (by kernel_rfl) (by kernel_rfl) (fun _ _ _ h => h) (Or.inl ⟨by rfl, fun W hW => by clear hW; go_simp⟩) H0.out ?_
        try simp only [Act.put, List.getElem_toArray, List.getElem_cons_succ, List.getElem_cons_zero, List.setIfInBounds_toArray, List.set_cons_zero, List.set_cons_succ]
        refine wpAnyH_take (i := 6) (v := .pointer (some ⟨g, 0, none⟩)) rfl (by kernel_rfl) (by kernel_rfl) (by kernel_rfl) (fun _ _ _ h => h) (Or.inl ⟨by rfl, fun W hW => by clear hW; go_simp⟩) H0.out ?_
        try simp only [Act.put, List.getElem_toArray, List.getElem_cons_succ, List.getElem_cons_zero, List.setIfInBounds_toArray, List.set_cons_zero, List.set_cons_succ]
        refine wpAnyH_take (i := 7) (v := .pointer (some ⟨g, 2, none⟩)) rfl (by kernel_rfl) (by kernel_rfl) (by kernel_rfl) (fun _ _ _ h => h) (Or.inl ⟨by rfl, fun W hW => by clear hW; go_simp⟩) H0.out ?_
        try simp only [Act.put, List.getElem_toArray, List.getElem_cons_succ, List.getElem_cons_zero, List.setIfInBounds_toArray, List.set_cons_zero, List.set_cons_succ]
        refine wpAnyH_take (i := 8) (v := .pointer (some ⟨u, 0, none⟩)) rfl (by kernel_rfl) (by kernel_rfl) (by kernel_rfl) (fun _ _ _ h => h) (Or.inl ⟨by rfl, fun W hW => by have hc := (show W.cell? ⟨g, 2, none⟩ = some (.pointer (some ⟨u, 0, none⟩)) from (hW.cell 2).trans (narr2 _ _ _ _)); clear hW; go_simp⟩) H0.out ?_
        try simp only [Act.put, List.getElem_toArray, List.getElem_cons_succ, List.getElem_cons_zero, List.setIfInBounds_toArray, List.set_cons_zero, List.set_cons_succ]
        refine wpAnyH_take (i := 9) (v := .pointer (some ⟨q, i, none⟩)) rfl (by kernel_rfl) (by kernel_rfl) (by kernel_rfl) (fun _ _ _ h => h) (Or.inl ⟨by rfl, fun W hW => by clear hW; go_simp⟩) H0.out ?_
        try simp only [Act.put, List.getElem_toArray, List.getElem_cons_succ, List.getElem_cons_zero, List.setIfInBounds_toArray, List.set_cons_zero, List.set_cons_succ]
        refine wpAnyH_ready (rs := [10]) (by kernel_rfl) (by simp) ?_
        refine AllReadyH.cons rfl (fun K hK => ?_) AllReadyH.nil
        rw [if_pos (by rfl)]
        refine wp_cell_q h4 1 rfl 24 (.tmp 37) (.tmp 36) rfl i (.pointer (some ⟨u, 0, none⟩)) rfl rfl (by rw [mixp_size _ _ _ (Nat.le_of_lt hlt)]; exact hlt) rfl rfl sz24 ?_
        intro V3 h5
        replace h5 : QQ w V3 u R [] ((g, C 85 (narr n q u KK)) :: (q, C 24 ((mixp u i KK).setIfInBounds i (.pointer (some ⟨u, 0, none⟩)))) :: L) := h5
        rw [mixp_set _ _ _ hlt] at h5
        have H3 := Lib.hid (show At V3 g 85 (narr n q u KK) from h5.at2 0 rfl)
        clear h4
        refine hK.out _ _ H3.out (fun _ => ?_)
        clear hK K
        try simp only [Act.put, List.getElem_toArray, List.getElem_cons_succ, List.getElem_cons_zero, List.setIfInBounds_toArray, List.set_cons_zero, List.set_cons_succ]
        refine wpAnyH_done (by kernel_rfl) ?_ _
        clear H0 H3
        go_wp2
        go_roundw
        case rel => exact ⟨i + 1, by omega, by go_num, h5⟩
        case measure => simp [intOf]; omega
      · obtain rfl : KK = i := by omega
        have g1 : ((KK : Int) < (KK : Int)) = False := eq_false (by omega)
        go_wp2
        go_ret
        exact ⟨g, q, u, _, rfl, FIN.out g q u wr h3⟩
end Go.Proofs.Ytacjdeppigdbjaa
