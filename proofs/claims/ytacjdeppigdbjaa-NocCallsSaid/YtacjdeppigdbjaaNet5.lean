/- A message is sent into a net. No statement is proved here. -/
import Derived.Test.YtacjdeppigdbjaaNet4
import Derived.LaidEqlPtr
namespace Go.Proofs.Ytacjdeppigdbjaa
open Go.RowKit
set_option linter.unusedVariables false
set_option linter.unusedSimpArgs false

theorem narr2 (n q u K : Nat) : (narr n q u K)[2]? = some (.pointer (some ⟨u, 0, none⟩)) := rfl
theorem sz24 : (Try.prog.info? 24).map (·.size) = some 1 := by kernel_rfl
theorem zero51 (W : World) : (zeroValue 51).run Try.prog W = .ok (.agg #[.int .i64 0, .int .i64 0, .int .i64 0]) W := by kernel_rfl
theorem clamp_self {R : Nat} (h : R ≤ 4096) : clampR (R : Int) = R := by unfold clampR; omega
theorem info79 : ∃ j, Try.prog.info? 79 = some j ∧ j.size ≠ 0 := by
  have h : (Try.prog.info? 79).map (·.size) = some 3 := by kernel_rfl
  obtain ⟨j, hj, he⟩ := Option.map_eq_some_iff.1 h
  exact ⟨j, hj, by omega⟩
theorem eqp_same (u : Nat) (W : World) : (binOp .eql 24 (.pointer (some ⟨u, 0, none⟩)) (.pointer (some ⟨u, 0, none⟩))).run Try.prog W = .ok (.bool true) W := by
  obtain ⟨j, hj, _⟩ := info79
  exact run_eql_ptr_same W _ Try.underlying24 hj
theorem qq_blk {w W : World} {g R : Nat} {xs : List Msg} {L : Blks} (h : QQ w W g R xs L) : ∃ arr t, W.heap[g]? = some (.cells arr t (0, 0)) := by
  obtain ⟨_, _, _, _, _, _, _, _, hs⟩ := h
  exact ⟨_, _, hs.get 0 rfl⟩
theorem nx_ublk {w W : World} {g q u n R : Nat} {ps : List Nat} {c : Nat → List Msg} {L : Blks} (h : NX w W g q u n R ps c L) : ∃ arr t, W.heap[u]? = some (.cells arr t (0, 0)) := by
  obtain ⟨h1, h2, h3, Bu, Bs, ⟨_, _, _, _, _, _, _, rfl⟩, hl, hp, hs⟩ := h
  exact ⟨_, _, hs.at_ (u, _) (List.mem_append_right _ (List.mem_cons_of_mem _ (List.mem_cons_of_mem _ (List.mem_append_left L List.mem_cons_self))))⟩
theorem eqp_ne {w W : World} {g q u n R p i : Nat} {ps : List Nat} {c : Nat → List Msg} {L : Blks} (h : NX w W g q u n R ps c L) (hi : ps[i]? = some p) (hne : p ≠ u) (m : Nat) :
    (binOp .eql 24 (.pointer (some ⟨p, 0, none⟩)) (.pointer (some ⟨u, 0, none⟩))).run Try.prog (W.drewN m) = .ok (.bool false) (W.drewN m) := by
  obtain ⟨j, hj, hz⟩ := info79
  obtain ⟨X, hq, _⟩ := (h.drewN m).queueP i p hi
  obtain ⟨_, _, e1⟩ := qq_blk hq
  obtain ⟨_, _, e2⟩ := nx_ublk (h.drewN m)
  exact run_eql_ptr_other (W.drewN m) Try.underlying24 hj hz (fun e => hne (by injection e)) e1 e2
theorem nx_ne {w W : World} {g q u n R p i : Nat} {ps : List Nat} {c : Nat → List Msg} {L : Blks} (h : NX w W g q u n R ps c L) (hi : ps[i]? = some p) (hne : p ≠ u) : Hid (p ≠ u) := hne
section
variable {w W : World} {g q u n R : Nat} {ps : List Nat} {cc : Nat → List Msg} {L : Blks}
theorem nroom_u (h : NX w W g q u n R ps cc L) (I : Nat) (hi : ps[I]? = some u) : Calls Try.prog 18 #[.pointer (some ⟨u, 0, none⟩)] W fun e W' => e = .returned (.int .i64 (R : Int)) ∧ ∃ j, W' = W.drewN j := by
  obtain ⟨X, hq, _⟩ := h.queueP I u hi
  rw [h.unused I hi] at hq
  have := room_any hq
  simpa using this
attribute [local irreducible] Msg.arr bufM marr narr idx lks parr
set_option maxHeartbeats 1000000 in
theorem nsend_no (h : NX w W g q u n R ps cc L) (a : Int) {m : Msg} (hh : hasL n a m.fr m.to = false) :
    Calls Try.prog 27 #[.pointer (some ⟨g, 0, none⟩), .int .i64 a, .agg m.arr] W fun e W' => e = .returned (.int .i64 2) ∧ NX w W' g q u n R ps cc L := by
  have HS : Hid (∀ W x y, NX w W g q u n R ps cc (x :: y :: L) → Calls Try.prog 39 #[.pointer (some ⟨g, 0, none⟩), .agg #[.int .i64 a, .int .i64 m.fr, .int .i64 m.to]] W fun e W' => e = .returned (.bool false) ∧ NX w W' g q u n R ps cc (x :: y :: L)) := fun W x y h => by
    have := nx_has h a m.fr m.to
    rwa [hh] at this
  have M1 := m.at1
  have M2 := m.at2
  clear hh
  go_enter Try.func27, Try.ntmps27
  go_wp2_with (first
    | (refine wpList_box_nx h 31 _ rfl rfl m.arr rfl ?_; clear h; intro W1 h1; generalize W.heap.size = b5 at *; have f1 := h1.cell 0 rfl 1 (.int .i64 m.fr) M1; have f2 := h1.cell 0 rfl 2 (.int .i64 m.to) M2)
    | (have _ := h1; refine wpList_alloc_nx h1 51 rfl rfl _ #[.int .i64 0, .int .i64 0, .int .i64 0] zero51 rfl ?_; clear h1 f1 f2; intro W2 h2; generalize W1.heap.size = b7 at *)
    | (have _ := h2; refine wpList_store_nx (arr' := #[.int .i64 a, .int .i64 m.fr, .int .i64 m.to]) h2 0 rfl 51 (.tmp 7) (.tmp 14) rfl rfl rfl rfl sz51 rfl (by simp [Value.oneCell']) ?_; clear h2; intro W3 h3; have d0 := h3.cell 0 rfl 0 (.int .i64 a) rfl; have d1 := h3.cell 0 rfl 1 (.int .i64 m.fr) rfl; have d2 := h3.cell 0 rfl 2 (.int .i64 m.to) rfl)
    | (have _ := h3; go_at_call 39; refine (HS.out _ _ _ h3).mono ?_; clear h3 d0 d1 d2; rintro e W4 ⟨rfl, h4⟩; have d0 := h4.cell 0 rfl 0 (.int .i64 a) rfl; have d1 := h4.cell 0 rfl 1 (.int .i64 m.fr) rfl; have d2 := h4.cell 0 rfl 2 (.int .i64 m.to) rfl))
  go_ret
  exact ⟨rfl, h4.tail.tail⟩
set_option maxHeartbeats 4000000 in
theorem nsend_p_ok (h : NX w W g q u n R ps cc L) (a b d p : Nat) (ha : a < 3) (hb : b < n) (hd : d < n) (hp : ps[idx n a b d]? = some p) (hpu : p ≠ u) {m : Msg} (hfr : m.fr = (b : Int)) (hto : m.to = (d : Int)) (hle : (cc (idx n a b d)).length < R) :
    Calls Try.prog 27 #[.pointer (some ⟨g, 0, none⟩), .int .i64 (a : Int), .agg m.arr] W fun e W' => ∃ ps', e = .returned (.int .i64 0) ∧ NX w W' g q u n R ps' (upd cc (idx n a b d) (cc (idx n a b d) ++ [m])) L := by
  have n16 := h.n16
  have M1 : m.arr[1]? = some (.int .i64 (b : Int)) := by rw [← hfr]; exact m.at1
  have M2 : m.arr[2]? = some (.int .i64 (d : Int)) := by rw [← hto]; exact m.at2
  clear hfr hto
  have HS : Hid (∀ W x y, NX w W g q u n R ps cc (x :: y :: L) → Calls Try.prog 39 #[.pointer (some ⟨g, 0, none⟩), .agg #[.int .i64 (a : Int), .int .i64 (b : Int), .int .i64 (d : Int)]] W fun e W' => e = .returned (.bool true) ∧ NX w W' g q u n R ps cc (x :: y :: L)) := fun W x y h => by
    have := nx_has h (a : Int) (b : Int) (d : Int)
    rwa [has_yes ha hb hd] at this
  have IX : Hid (∀ W {L : Blks}, NX w W g q u n R ps cc L → Calls Try.prog 40 #[.pointer (some ⟨g, 0, none⟩), .agg #[.int .i64 (a : Int), .int .i64 (b : Int), .int .i64 (d : Int)]] W fun e W' => e = .returned (.int .i64 (idx n a b d : Nat)) ∧ Below W.heap.size W W') := fun W L h => index_any g n a b d ha hb hd n16 W h.c0 h.glt
  have hIK := idx_lt ha hb hd
  have hK5 := lks_le n16
  have HR := Lib.hid (clamp_self h.r4)
  have HP := Lib.hid h.len
  skip
  have HNU := Lib.hid hpu
  generalize hI : idx n a b d = I at *
  generalize hK : lks n = KK at *
  have HI := Lib.hid hp
  have HK := Lib.hid hK
  have LE := Lib.hid hle
  clear ha hb hd hp hI n16 hK hle hpu
  go_enter Try.func27, Try.ntmps27
  go_wp2_with (first
    | (refine wpList_box_nx h 31 _ rfl rfl m.arr rfl ?_; clear h; intro W1 h1; generalize W.heap.size = b5 at *; have f1 := h1.cell 0 rfl 1 (.int .i64 (b : Int)) M1; have f2 := h1.cell 0 rfl 2 (.int .i64 (d : Int)) M2)
    | (have _ := h1; refine wpList_alloc_nx h1 51 rfl rfl _ #[.int .i64 0, .int .i64 0, .int .i64 0] zero51 rfl ?_; clear h1 f1 f2; intro W2 h2; generalize W1.heap.size = b7 at *)
    | (have _ := h2; refine wpList_store_nx (arr' := #[.int .i64 (a : Int), .int .i64 (b : Int), .int .i64 (d : Int)]) h2 0 rfl 51 (.tmp 7) (.tmp 14) rfl rfl rfl rfl sz51 rfl (by simp [Value.oneCell']) ?_; clear h2; intro W3 h3; have d0 := h3.cell 0 rfl 0 (.int .i64 (a : Int)) rfl; have d1 := h3.cell 0 rfl 1 (.int .i64 (b : Int)) rfl; have d2 := h3.cell 0 rfl 2 (.int .i64 (d : Int)) rfl)
    | (have _ := h3; go_at_call 39; refine (HS.out _ _ _ h3).mono ?_; clear h3 d0 d1 d2; rintro e W4 ⟨rfl, h4⟩; have d0 := h4.cell 0 rfl 0 (.int .i64 (a : Int)) rfl; have d1 := h4.cell 0 rfl 1 (.int .i64 (b : Int)) rfl; have d2 := h4.cell 0 rfl 2 (.int .i64 (d : Int)) rfl)
    | (have _ := h4; go_at_call 40; refine (IX.out _ h4).mono ?_; clear d0 d1 d2; rintro e W5 ⟨rfl, k5⟩; have h5 := h4.call k5; clear k5 h4))
  have e1 := HK.out ▸ h5.c1
  have e2 := h5.c2
  have e3 := h5.cp I p HI.out
  have PE := fun j => eqp_ne h5 HI.out HNU.out j
  replace h5 := Lib.hid h5
  go_quiet (fail)
  have h6 := h5.out.drewN nq
  clear h5 e1 e2 e3 PE
  go_wp2
  replace h6 : NX w (W5.drewN nq).drew g q u n R ps cc _ := h6.drewN 1
  have HI2 := HI
  have HN := HNU
  obtain ⟨X, hq, up⟩ := h6.queueP I p HI2.out
  have H0 := Lib.hid (show At (W5.drewN nq).drew g 85 (narr n q u KK) ∧ (W5.drewN nq).drew.cell? ⟨q, I, none⟩ = some (.pointer (some ⟨p, 0, none⟩)) ∧ At (W5.drewN nq).drew b5 31 m.arr from ⟨HK.out ▸ h6.net, h6.cp I p HI2.out, h6.at2 1 rfl⟩)
  clear h6
  refine wp_region_held_drew (S := fun W => At W g 85 (narr n q u KK) ∧ W.cell? ⟨q, I, none⟩ = some (.pointer (some ⟨p, 0, none⟩)) ∧ At W b5 31 m.arr) (by kernel_rfl) H0.out (fun _ => ?_)
  generalize (W5.drewN nq).drew = V5 at *
  refine wpAnyH_take (i := 0) (v := .pointer (some ⟨g, 0, none⟩)) rfl (by kernel_rfl) (by kernel_rfl) (by kernel_rfl) (fun _ _ _ h => h) (Or.inl ⟨by rfl, fun W hW => by clear hW; go_simp⟩) H0.out ?_
  try simp only [Act.put, List.getElem_toArray, List.getElem_cons_succ, List.getElem_cons_zero, List.setIfInBounds_toArray, List.set_cons_zero, List.set_cons_succ]
  refine wpAnyH_take (i := 1) (v := .pointer (some ⟨g, 0, none⟩)) rfl (by kernel_rfl) (by kernel_rfl) (by kernel_rfl) (fun _ _ _ h => h) (Or.inl ⟨by rfl, fun W hW => by clear hW; go_simp⟩) H0.out ?_
  try simp only [Act.put, List.getElem_toArray, List.getElem_cons_succ, List.getElem_cons_zero, List.setIfInBounds_toArray, List.set_cons_zero, List.set_cons_succ]
  refine wpAnyH_take (i := 2) (v := .pointer (some ⟨g, 1, none⟩)) rfl (by kernel_rfl) (by kernel_rfl) (by kernel_rfl) (fun _ _ _ h => h) (Or.inl ⟨by rfl, fun W hW => by clear hW; go_simp⟩) H0.out ?_
  try simp only [Act.put, List.getElem_toArray, List.getElem_cons_succ, List.getElem_cons_zero, List.setIfInBounds_toArray, List.set_cons_zero, List.set_cons_succ]
  refine wpAnyH_take (i := 3) (v := .slice (some ⟨q, 0, none⟩) KK KK) rfl (by kernel_rfl) (by kernel_rfl) (by kernel_rfl) (fun _ _ _ h => h) (Or.inl ⟨by rfl, fun W hW => by have hc := (show W.cell? ⟨g, 1, none⟩ = some (.slice (some ⟨q, 0, none⟩) KK KK) from (hW.1.cell 1).trans (narr1 _ _ _ _)); clear hW; go_simp⟩) H0.out ?_
  try simp only [Act.put, List.getElem_toArray, List.getElem_cons_succ, List.getElem_cons_zero, List.setIfInBounds_toArray, List.set_cons_zero, List.set_cons_succ]
  refine wpAnyH_take (i := 4) (v := .int .i64 (I : Int)) rfl (by kernel_rfl) (by kernel_rfl) (by kernel_rfl) (fun _ _ _ h => h) (Or.inl ⟨by rfl, fun W hW => by clear hW; go_simp⟩) H0.out ?_
  try simp only [Act.put, List.getElem_toArray, List.getElem_cons_succ, List.getElem_cons_zero, List.setIfInBounds_toArray, List.set_cons_zero, List.set_cons_succ]
  refine wpAnyH_take (i := 5) (v := .pointer (some ⟨q, I, none⟩)) rfl (by kernel_rfl) (by kernel_rfl) (by kernel_rfl) (fun _ _ _ h => h) (Or.inl ⟨by rfl, fun W hW => by clear hW; go_simp⟩) H0.out ?_
  try simp only [Act.put, List.getElem_toArray, List.getElem_cons_succ, List.getElem_cons_zero, List.setIfInBounds_toArray, List.set_cons_zero, List.set_cons_succ]
  refine wpAnyH_take (i := 6) (v := .pointer (some ⟨p, 0, none⟩)) rfl (by kernel_rfl) (by kernel_rfl) (by kernel_rfl) (fun _ _ _ h => h) (Or.inl ⟨by rfl, fun W hW => by have hc := hW.2.1; clear hW; go_simp⟩) H0.out ?_
  try simp only [Act.put, List.getElem_toArray, List.getElem_cons_succ, List.getElem_cons_zero, List.setIfInBounds_toArray, List.set_cons_zero, List.set_cons_succ]
  refine wpAnyH_take (i := 7) (v := .agg m.arr) rfl (by kernel_rfl) (by kernel_rfl) (by kernel_rfl) (fun _ _ _ h => h) (yields_at 31 _ _ rfl (by rfl) rfl Try.underlying31 rfl (by rw [Msg.arr_size]; exact sz31) (fun W hW => hW.2.2)) H0.out ?_
  try simp only [Act.put, List.getElem_toArray, List.getElem_cons_succ, List.getElem_cons_zero, List.setIfInBounds_toArray, List.set_cons_zero, List.set_cons_succ]
  refine wpAnyH_ready (rs := [8]) (by kernel_rfl) (by simp) ?_
  refine AllReadyH.cons rfl (fun K hK => ?_) AllReadyH.nil
  go_simp
  go_at_call 14
  refine (put_ok (m := m) hq LE.out).mono ?_
  rintro e V4 ⟨rfl, hq2⟩
  have h9 := up V4 _ [] (fun e => absurd e HN.out) hq2
  clear up hq hq2
  have H4_ := Lib.hid (show At V4 g 85 (narr n q u KK) ∧ V4.cell? ⟨q, I, none⟩ = some (.pointer (some ⟨p, 0, none⟩)) ∧ At V4 b5 31 m.arr from ⟨HK.out ▸ h9.net, h9.cp I p HI2.out, h9.at2 1 rfl⟩)
  refine hK.out _ _ H4_.out (fun _ => ?_)
  clear hK K
  try simp only [Act.put, List.getElem_toArray, List.getElem_cons_succ, List.getElem_cons_zero, List.setIfInBounds_toArray, List.set_cons_zero, List.set_cons_succ]
  refine wpAnyH_take (i := 9) (v := .int .i64 0) rfl (by kernel_rfl) (by kernel_rfl) (by kernel_rfl) (fun _ _ _ h => h) (Or.inl ⟨by rfl, fun W hW => by clear hW; go_simp⟩) H4_.out ?_
  try simp only [Act.put, List.getElem_toArray, List.getElem_cons_succ, List.getElem_cons_zero, List.setIfInBounds_toArray, List.set_cons_zero, List.set_cons_succ]
  refine wpAnyH_done (by kernel_rfl) ?_ _
  go_wp2
  go_ret
  exact ⟨_, rfl, h9.tail.tail⟩
set_option maxHeartbeats 4000000 in
theorem nsend_p_full (h : NX w W g q u n R ps cc L) (a b d p : Nat) (ha : a < 3) (hb : b < n) (hd : d < n) (hp : ps[idx n a b d]? = some p) (hpu : p ≠ u) {m : Msg} (hfr : m.fr = (b : Int)) (hto : m.to = (d : Int)) (hle : ¬ (cc (idx n a b d)).length < R) :
    Calls Try.prog 27 #[.pointer (some ⟨g, 0, none⟩), .int .i64 (a : Int), .agg m.arr] W fun e W' => ∃ ps', e = .returned (.int .i64 5) ∧ NX w W' g q u n R ps' cc L := by
  have n16 := h.n16
  have M1 : m.arr[1]? = some (.int .i64 (b : Int)) := by rw [← hfr]; exact m.at1
  have M2 : m.arr[2]? = some (.int .i64 (d : Int)) := by rw [← hto]; exact m.at2
  clear hfr hto
  have HS : Hid (∀ W x y, NX w W g q u n R ps cc (x :: y :: L) → Calls Try.prog 39 #[.pointer (some ⟨g, 0, none⟩), .agg #[.int .i64 (a : Int), .int .i64 (b : Int), .int .i64 (d : Int)]] W fun e W' => e = .returned (.bool true) ∧ NX w W' g q u n R ps cc (x :: y :: L)) := fun W x y h => by
    have := nx_has h (a : Int) (b : Int) (d : Int)
    rwa [has_yes ha hb hd] at this
  have IX : Hid (∀ W {L : Blks}, NX w W g q u n R ps cc L → Calls Try.prog 40 #[.pointer (some ⟨g, 0, none⟩), .agg #[.int .i64 (a : Int), .int .i64 (b : Int), .int .i64 (d : Int)]] W fun e W' => e = .returned (.int .i64 (idx n a b d : Nat)) ∧ Below W.heap.size W W') := fun W L h => index_any g n a b d ha hb hd n16 W h.c0 h.glt
  have hIK := idx_lt ha hb hd
  have hK5 := lks_le n16
  have HR := Lib.hid (clamp_self h.r4)
  have HP := Lib.hid h.len
  skip
  have HNU := Lib.hid hpu
  generalize hI : idx n a b d = I at *
  generalize hK : lks n = KK at *
  have HI := Lib.hid hp
  have HK := Lib.hid hK
  have LE := Lib.hid hle
  clear ha hb hd hp hI n16 hK hle hpu
  go_enter Try.func27, Try.ntmps27
  go_wp2_with (first
    | (refine wpList_box_nx h 31 _ rfl rfl m.arr rfl ?_; clear h; intro W1 h1; generalize W.heap.size = b5 at *; have f1 := h1.cell 0 rfl 1 (.int .i64 (b : Int)) M1; have f2 := h1.cell 0 rfl 2 (.int .i64 (d : Int)) M2)
    | (have _ := h1; refine wpList_alloc_nx h1 51 rfl rfl _ #[.int .i64 0, .int .i64 0, .int .i64 0] zero51 rfl ?_; clear h1 f1 f2; intro W2 h2; generalize W1.heap.size = b7 at *)
    | (have _ := h2; refine wpList_store_nx (arr' := #[.int .i64 (a : Int), .int .i64 (b : Int), .int .i64 (d : Int)]) h2 0 rfl 51 (.tmp 7) (.tmp 14) rfl rfl rfl rfl sz51 rfl (by simp [Value.oneCell']) ?_; clear h2; intro W3 h3; have d0 := h3.cell 0 rfl 0 (.int .i64 (a : Int)) rfl; have d1 := h3.cell 0 rfl 1 (.int .i64 (b : Int)) rfl; have d2 := h3.cell 0 rfl 2 (.int .i64 (d : Int)) rfl)
    | (have _ := h3; go_at_call 39; refine (HS.out _ _ _ h3).mono ?_; clear h3 d0 d1 d2; rintro e W4 ⟨rfl, h4⟩; have d0 := h4.cell 0 rfl 0 (.int .i64 (a : Int)) rfl; have d1 := h4.cell 0 rfl 1 (.int .i64 (b : Int)) rfl; have d2 := h4.cell 0 rfl 2 (.int .i64 (d : Int)) rfl)
    | (have _ := h4; go_at_call 40; refine (IX.out _ h4).mono ?_; clear d0 d1 d2; rintro e W5 ⟨rfl, k5⟩; have h5 := h4.call k5; clear k5 h4))
  have e1 := HK.out ▸ h5.c1
  have e2 := h5.c2
  have e3 := h5.cp I p HI.out
  have PE := fun j => eqp_ne h5 HI.out HNU.out j
  replace h5 := Lib.hid h5
  go_quiet (fail)
  have h6 := h5.out.drewN nq
  clear h5 e1 e2 e3 PE
  go_wp2
  replace h6 : NX w (W5.drewN nq).drew g q u n R ps cc _ := h6.drewN 1
  have HI2 := HI
  have HN := HNU
  obtain ⟨X, hq, up⟩ := h6.queueP I p HI2.out
  have H0 := Lib.hid (show At (W5.drewN nq).drew g 85 (narr n q u KK) ∧ (W5.drewN nq).drew.cell? ⟨q, I, none⟩ = some (.pointer (some ⟨p, 0, none⟩)) ∧ At (W5.drewN nq).drew b5 31 m.arr from ⟨HK.out ▸ h6.net, h6.cp I p HI2.out, h6.at2 1 rfl⟩)
  clear h6
  refine wp_region_held_drew (S := fun W => At W g 85 (narr n q u KK) ∧ W.cell? ⟨q, I, none⟩ = some (.pointer (some ⟨p, 0, none⟩)) ∧ At W b5 31 m.arr) (by kernel_rfl) H0.out (fun _ => ?_)
  generalize (W5.drewN nq).drew = V5 at *
  refine wpAnyH_take (i := 0) (v := .pointer (some ⟨g, 0, none⟩)) rfl (by kernel_rfl) (by kernel_rfl) (by kernel_rfl) (fun _ _ _ h => h) (Or.inl ⟨by rfl, fun W hW => by clear hW; go_simp⟩) H0.out ?_
  try simp only [Act.put, List.getElem_toArray, List.getElem_cons_succ, List.getElem_cons_zero, List.setIfInBounds_toArray, List.set_cons_zero, List.set_cons_succ]
  refine wpAnyH_take (i := 1) (v := .pointer (some ⟨g, 0, none⟩)) rfl (by kernel_rfl) (by kernel_rfl) (by kernel_rfl) (fun _ _ _ h => h) (Or.inl ⟨by rfl, fun W hW => by clear hW; go_simp⟩) H0.out ?_
  try simp only [Act.put, List.getElem_toArray, List.getElem_cons_succ, List.getElem_cons_zero, List.setIfInBounds_toArray, List.set_cons_zero, List.set_cons_succ]
  refine wpAnyH_take (i := 2) (v := .pointer (some ⟨g, 1, none⟩)) rfl (by kernel_rfl) (by kernel_rfl) (by kernel_rfl) (fun _ _ _ h => h) (Or.inl ⟨by rfl, fun W hW => by clear hW; go_simp⟩) H0.out ?_
  try simp only [Act.put, List.getElem_toArray, List.getElem_cons_succ, List.getElem_cons_zero, List.setIfInBounds_toArray, List.set_cons_zero, List.set_cons_succ]
  refine wpAnyH_take (i := 3) (v := .slice (some ⟨q, 0, none⟩) KK KK) rfl (by kernel_rfl) (by kernel_rfl) (by kernel_rfl) (fun _ _ _ h => h) (Or.inl ⟨by rfl, fun W hW => by have hc := (show W.cell? ⟨g, 1, none⟩ = some (.slice (some ⟨q, 0, none⟩) KK KK) from (hW.1.cell 1).trans (narr1 _ _ _ _)); clear hW; go_simp⟩) H0.out ?_
  try simp only [Act.put, List.getElem_toArray, List.getElem_cons_succ, List.getElem_cons_zero, List.setIfInBounds_toArray, List.set_cons_zero, List.set_cons_succ]
  refine wpAnyH_take (i := 4) (v := .int .i64 (I : Int)) rfl (by kernel_rfl) (by kernel_rfl) (by kernel_rfl) (fun _ _ _ h => h) (Or.inl ⟨by rfl, fun W hW => by clear hW; go_simp⟩) H0.out ?_
  try simp only [Act.put, List.getElem_toArray, List.getElem_cons_succ, List.getElem_cons_zero, List.setIfInBounds_toArray, List.set_cons_zero, List.set_cons_succ]
  refine wpAnyH_take (i := 5) (v := .pointer (some ⟨q, I, none⟩)) rfl (by kernel_rfl) (by kernel_rfl) (by kernel_rfl) (fun _ _ _ h => h) (Or.inl ⟨by rfl, fun W hW => by clear hW; go_simp⟩) H0.out ?_
  try simp only [Act.put, List.getElem_toArray, List.getElem_cons_succ, List.getElem_cons_zero, List.setIfInBounds_toArray, List.set_cons_zero, List.set_cons_succ]
  refine wpAnyH_take (i := 6) (v := .pointer (some ⟨p, 0, none⟩)) rfl (by kernel_rfl) (by kernel_rfl) (by kernel_rfl) (fun _ _ _ h => h) (Or.inl ⟨by rfl, fun W hW => by have hc := hW.2.1; clear hW; go_simp⟩) H0.out ?_
  try simp only [Act.put, List.getElem_toArray, List.getElem_cons_succ, List.getElem_cons_zero, List.setIfInBounds_toArray, List.set_cons_zero, List.set_cons_succ]
  refine wpAnyH_take (i := 7) (v := .agg m.arr) rfl (by kernel_rfl) (by kernel_rfl) (by kernel_rfl) (fun _ _ _ h => h) (yields_at 31 _ _ rfl (by rfl) rfl Try.underlying31 rfl (by rw [Msg.arr_size]; exact sz31) (fun W hW => hW.2.2)) H0.out ?_
  try simp only [Act.put, List.getElem_toArray, List.getElem_cons_succ, List.getElem_cons_zero, List.setIfInBounds_toArray, List.set_cons_zero, List.set_cons_succ]
  refine wpAnyH_ready (rs := [8]) (by kernel_rfl) (by simp) ?_
  refine AllReadyH.cons rfl (fun K hK => ?_) AllReadyH.nil
  go_simp
  go_at_call 14
  refine (put_full (m := m) hq LE.out).mono ?_
  rintro e V4 ⟨rfl, hq2⟩
  have h9 := up V4 _ [] (fun e => absurd e HN.out) hq2
  clear up hq hq2
  have H4_ := Lib.hid (show At V4 g 85 (narr n q u KK) ∧ V4.cell? ⟨q, I, none⟩ = some (.pointer (some ⟨p, 0, none⟩)) ∧ At V4 b5 31 m.arr from ⟨HK.out ▸ h9.net, h9.cp I p HI2.out, h9.at2 1 rfl⟩)
  refine hK.out _ _ H4_.out (fun _ => ?_)
  clear hK K
  try simp only [Act.put, List.getElem_toArray, List.getElem_cons_succ, List.getElem_cons_zero, List.setIfInBounds_toArray, List.set_cons_zero, List.set_cons_succ]
  refine wpAnyH_take (i := 9) (v := .int .i64 5) rfl (by kernel_rfl) (by kernel_rfl) (by kernel_rfl) (fun _ _ _ h => h) (Or.inl ⟨by rfl, fun W hW => by clear hW; go_simp⟩) H4_.out ?_
  try simp only [Act.put, List.getElem_toArray, List.getElem_cons_succ, List.getElem_cons_zero, List.setIfInBounds_toArray, List.set_cons_zero, List.set_cons_succ]
  refine wpAnyH_done (by kernel_rfl) ?_ _
  go_wp2
  go_ret
  exact ⟨_, rfl, (upd_self cc I ▸ h9).tail.tail⟩
set_option maxHeartbeats 4000000 in
theorem nsend_u_ok (h : NX w W g q u n R ps cc L) (a b d  : Nat) (ha : a < 3) (hb : b < n) (hd : d < n) (hp : ps[idx n a b d]? = some u) {m : Msg} (hfr : m.fr = (b : Int)) (hto : m.to = (d : Int)) (hle : (cc (idx n a b d)).length < R) :
    Calls Try.prog 27 #[.pointer (some ⟨g, 0, none⟩), .int .i64 (a : Int), .agg m.arr] W fun e W' => ∃ ps', e = .returned (.int .i64 0) ∧ NX w W' g q u n R ps' (upd cc (idx n a b d) (cc (idx n a b d) ++ [m])) L := by
  have n16 := h.n16
  have M1 : m.arr[1]? = some (.int .i64 (b : Int)) := by rw [← hfr]; exact m.at1
  have M2 : m.arr[2]? = some (.int .i64 (d : Int)) := by rw [← hto]; exact m.at2
  clear hfr hto
  have HS : Hid (∀ W x y, NX w W g q u n R ps cc (x :: y :: L) → Calls Try.prog 39 #[.pointer (some ⟨g, 0, none⟩), .agg #[.int .i64 (a : Int), .int .i64 (b : Int), .int .i64 (d : Int)]] W fun e W' => e = .returned (.bool true) ∧ NX w W' g q u n R ps cc (x :: y :: L)) := fun W x y h => by
    have := nx_has h (a : Int) (b : Int) (d : Int)
    rwa [has_yes ha hb hd] at this
  have IX : Hid (∀ W {L : Blks}, NX w W g q u n R ps cc L → Calls Try.prog 40 #[.pointer (some ⟨g, 0, none⟩), .agg #[.int .i64 (a : Int), .int .i64 (b : Int), .int .i64 (d : Int)]] W fun e W' => e = .returned (.int .i64 (idx n a b d : Nat)) ∧ Below W.heap.size W W') := fun W L h => index_any g n a b d ha hb hd n16 W h.c0 h.glt
  have hIK := idx_lt ha hb hd
  have hK5 := lks_le n16
  have HR := Lib.hid (clamp_self h.r4)
  have HP := Lib.hid h.len
  have PE := fun W => eqp_same u W
  have HNU := Lib.hid (h.unused _ hp)
  generalize hI : idx n a b d = I at *
  generalize hK : lks n = KK at *
  have HI := Lib.hid hp
  have HK := Lib.hid hK
  have LE := Lib.hid hle
  clear ha hb hd hp hI n16 hK hle
  go_enter Try.func27, Try.ntmps27
  go_wp2_with (first
    | (refine wpList_box_nx h 31 _ rfl rfl m.arr rfl ?_; clear h; intro W1 h1; generalize W.heap.size = b5 at *; have f1 := h1.cell 0 rfl 1 (.int .i64 (b : Int)) M1; have f2 := h1.cell 0 rfl 2 (.int .i64 (d : Int)) M2)
    | (have _ := h1; refine wpList_alloc_nx h1 51 rfl rfl _ #[.int .i64 0, .int .i64 0, .int .i64 0] zero51 rfl ?_; clear h1 f1 f2; intro W2 h2; generalize W1.heap.size = b7 at *)
    | (have _ := h2; refine wpList_store_nx (arr' := #[.int .i64 (a : Int), .int .i64 (b : Int), .int .i64 (d : Int)]) h2 0 rfl 51 (.tmp 7) (.tmp 14) rfl rfl rfl rfl sz51 rfl (by simp [Value.oneCell']) ?_; clear h2; intro W3 h3; have d0 := h3.cell 0 rfl 0 (.int .i64 (a : Int)) rfl; have d1 := h3.cell 0 rfl 1 (.int .i64 (b : Int)) rfl; have d2 := h3.cell 0 rfl 2 (.int .i64 (d : Int)) rfl)
    | (have _ := h3; go_at_call 39; refine (HS.out _ _ _ h3).mono ?_; clear h3 d0 d1 d2; rintro e W4 ⟨rfl, h4⟩; have d0 := h4.cell 0 rfl 0 (.int .i64 (a : Int)) rfl; have d1 := h4.cell 0 rfl 1 (.int .i64 (b : Int)) rfl; have d2 := h4.cell 0 rfl 2 (.int .i64 (d : Int)) rfl)
    | (have _ := h4; go_at_call 40; refine (IX.out _ h4).mono ?_; clear d0 d1 d2; rintro e W5 ⟨rfl, k5⟩; have h5 := h4.call k5; clear k5 h4))
  have e1 := HK.out ▸ h5.c1
  have e2 := h5.c2
  have e3 := h5.cp I u HI.out
  replace h5 := Lib.hid h5
  go_quiet (fail)
  have h6 := h5.out.drewN nq
  clear h5 e1 e2 e3 PE
  go_wp2
  replace h6 : NX w (W5.drewN nq).drew g q u n R ps cc _ := h6.drewN 1
  have H0 := Lib.hid (show At (W5.drewN nq).drew g 85 (narr n q u KK) from HK.out ▸ h6.net)
  refine wp_region_held_drew (S := fun W => At W g 85 (narr n q u KK)) (by kernel_rfl) H0.out (fun _ => ?_)
  generalize (W5.drewN nq).drew = V0 at *
  refine wpAnyH_take (i := 0) (v := .pointer (some ⟨g, 0, none⟩)) rfl (by kernel_rfl) (by kernel_rfl) (by kernel_rfl) (fun _ _ _ h => h) (Or.inl ⟨by rfl, fun W hW => by clear hW; go_simp⟩) H0.out ?_
  try simp only [Act.put, List.getElem_toArray, List.getElem_cons_succ, List.getElem_cons_zero, List.setIfInBounds_toArray, List.set_cons_zero, List.set_cons_succ]
  refine wpAnyH_take (i := 1) (v := .pointer (some ⟨g, 0, none⟩)) rfl (by kernel_rfl) (by kernel_rfl) (by kernel_rfl) (fun _ _ _ h => h) (Or.inl ⟨by rfl, fun W hW => by clear hW; go_simp⟩) H0.out ?_
  try simp only [Act.put, List.getElem_toArray, List.getElem_cons_succ, List.getElem_cons_zero, List.setIfInBounds_toArray, List.set_cons_zero, List.set_cons_succ]
  refine wpAnyH_take (i := 2) (v := .pointer (some ⟨g, 1, none⟩)) rfl (by kernel_rfl) (by kernel_rfl) (by kernel_rfl) (fun _ _ _ h => h) (Or.inl ⟨by rfl, fun W hW => by clear hW; go_simp⟩) H0.out ?_
  try simp only [Act.put, List.getElem_toArray, List.getElem_cons_succ, List.getElem_cons_zero, List.setIfInBounds_toArray, List.set_cons_zero, List.set_cons_succ]
  refine wpAnyH_take (i := 3) (v := .slice (some ⟨q, 0, none⟩) KK KK) rfl (by kernel_rfl) (by kernel_rfl) (by kernel_rfl) (fun _ _ _ h => h) (Or.inl ⟨by rfl, fun W hW => by have hc := (show W.cell? ⟨g, 1, none⟩ = some (.slice (some ⟨q, 0, none⟩) KK KK) from (hW.cell 1).trans (narr1 _ _ _ _)); clear hW; go_simp⟩) H0.out ?_
  try simp only [Act.put, List.getElem_toArray, List.getElem_cons_succ, List.getElem_cons_zero, List.setIfInBounds_toArray, List.set_cons_zero, List.set_cons_succ]
  refine wpAnyH_take (i := 4) (v := .int .i64 (I : Int)) rfl (by kernel_rfl) (by kernel_rfl) (by kernel_rfl) (fun _ _ _ h => h) (Or.inl ⟨by rfl, fun W hW => by clear hW; go_simp⟩) H0.out ?_
  try simp only [Act.put, List.getElem_toArray, List.getElem_cons_succ, List.getElem_cons_zero, List.setIfInBounds_toArray, List.set_cons_zero, List.set_cons_succ]
  refine wpAnyH_take (i := 5) (v := .pointer (some ⟨g, 0, none⟩)) rfl (by kernel_rfl) (by kernel_rfl) (by kernel_rfl) (fun _ _ _ h => h) (Or.inl ⟨by rfl, fun W hW => by clear hW; go_simp⟩) H0.out ?_
  try simp only [Act.put, List.getElem_toArray, List.getElem_cons_succ, List.getElem_cons_zero, List.setIfInBounds_toArray, List.set_cons_zero, List.set_cons_succ]
  refine wpAnyH_take (i := 6) (v := .pointer (some ⟨g, 0, none⟩)) rfl (by kernel_rfl) (by kernel_rfl) (by kernel_rfl) (fun _ _ _ h => h) (Or.inl ⟨by rfl, fun W hW => by clear hW; go_simp⟩) H0.out ?_
  try simp only [Act.put, List.getElem_toArray, List.getElem_cons_succ, List.getElem_cons_zero, List.setIfInBounds_toArray, List.set_cons_zero, List.set_cons_succ]
  refine wpAnyH_take (i := 7) (v := .pointer (some ⟨g, 2, none⟩)) rfl (by kernel_rfl) (by kernel_rfl) (by kernel_rfl) (fun _ _ _ h => h) (Or.inl ⟨by rfl, fun W hW => by clear hW; go_simp⟩) H0.out ?_
  try simp only [Act.put, List.getElem_toArray, List.getElem_cons_succ, List.getElem_cons_zero, List.setIfInBounds_toArray, List.set_cons_zero, List.set_cons_succ]
  refine wpAnyH_take (i := 8) (v := .pointer (some ⟨u, 0, none⟩)) rfl (by kernel_rfl) (by kernel_rfl) (by kernel_rfl) (fun _ _ _ h => h) (Or.inl ⟨by rfl, fun W hW => by have hc := (show W.cell? ⟨g, 2, none⟩ = some (.pointer (some ⟨u, 0, none⟩)) from (hW.cell 2).trans (narr2 _ _ _ _)); clear hW; go_simp⟩) H0.out ?_
  try simp only [Act.put, List.getElem_toArray, List.getElem_cons_succ, List.getElem_cons_zero, List.setIfInBounds_toArray, List.set_cons_zero, List.set_cons_succ]
  refine wpAnyH_ready (rs := [9]) (by kernel_rfl) (by simp) ?_
  refine AllReadyH.cons rfl (fun K hK => ?_) AllReadyH.nil
  go_simp
  go_at_call 18
  refine (nroom_u h6 I HI.out).mono ?_
  rintro e V1 ⟨rfl, j1, rfl⟩
  replace h6 := h6.drewN j1
  have H1_ := Lib.hid (show At (V0.drewN j1) g 85 (narr n q u KK) from HK.out ▸ h6.net)
  refine hK.out _ _ H1_.out (fun _ => ?_)
  clear hK K
  try simp only [Act.put, List.getElem_toArray, List.getElem_cons_succ, List.getElem_cons_zero, List.setIfInBounds_toArray, List.set_cons_zero, List.set_cons_succ]
  refine wpAnyH_ready (rs := [10]) (by kernel_rfl) (by simp) ?_
  refine AllReadyH.cons rfl (fun K hK => ?_) AllReadyH.nil
  go_simp
  obtain ⟨_, _, hX, mk, _⟩ := h6.made I HI.out
  clear h6
  go_at_call 10
  refine (qnew_any (R : Int) hX).mono ?_
  rintro e V2 ⟨p', rfl, hq⟩
  rw [HR.out] at hq
  obtain ⟨hneu, Y, hY, hgY, up⟩ := mk V2 p' [] hq
  replace hneu := Lib.hid hneu
  clear mk hX
  have H2_ := Lib.hid (show At V2 g 85 (narr n q u KK) from HK.out ▸ hY.at_ _ (List.mem_append_left _ hgY))
  refine hK.out _ _ H2_.out (fun _ => ?_)
  clear hK K
  try simp only [Act.put, List.getElem_toArray, List.getElem_cons_succ, List.getElem_cons_zero, List.setIfInBounds_toArray, List.set_cons_zero, List.set_cons_succ]
  refine wpAnyH_take (i := 11) (v := .pointer (some ⟨q, I, none⟩)) rfl (by kernel_rfl) (by kernel_rfl) (by kernel_rfl) (fun _ _ _ h => h) (Or.inl ⟨by rfl, fun W hW => by clear hW; go_simp⟩) H2_.out ?_
  try simp only [Act.put, List.getElem_toArray, List.getElem_cons_succ, List.getElem_cons_zero, List.setIfInBounds_toArray, List.set_cons_zero, List.set_cons_succ]
  refine wpAnyH_ready (rs := [12]) (by kernel_rfl) (by simp) ?_
  refine AllReadyH.cons rfl (fun K hK => ?_) AllReadyH.nil
  rw [if_pos (by rfl)]
  refine wp_cell_st (t := 24) (arr := parr ps) hY Y.length (by rw [List.getElem?_append_right (Nat.le_refl _), Nat.sub_self]; rfl) 24 (.tmp 45) (.tmp 44) rfl I (.pointer (some ⟨p', 0, none⟩)) rfl rfl (by rw [parr_size, HP.out]; exact hIK) rfl rfl sz24 ?_
  intro V3 h8
  rw [List.set_append_right _ _ (Nat.le_refl _), Nat.sub_self, List.set_cons_zero, parr_set] at h8
  replace h8 := up V3 _ h8
  have H3 := Lib.hid (show At V3 g 85 (narr n q u KK) from HK.out ▸ h8.net)
  clear hY up
  refine hK.out _ _ H3.out (fun _ => ?_)
  clear hK K
  try simp only [Act.put, List.getElem_toArray, List.getElem_cons_succ, List.getElem_cons_zero, List.setIfInBounds_toArray, List.set_cons_zero, List.set_cons_succ]
  refine wpAnyH_done (by kernel_rfl) ?_ _
  clear H0 H1_ H2_ H3
  go_wp2
  replace h8 : NX w V3.drew g q u n R (ps.set I p') cc _ := h8.drewN 1
  have HI2 := Lib.hid (show (ps.set I p')[I]? = some p' from List.getElem?_set_self (by rw [HP.out]; exact hIK))
  have HN := hneu
  obtain ⟨X, hq, up⟩ := h8.queueP I p' HI2.out
  have H0 := Lib.hid (show At V3.drew g 85 (narr n q u KK) ∧ V3.drew.cell? ⟨q, I, none⟩ = some (.pointer (some ⟨p', 0, none⟩)) ∧ At V3.drew b5 31 m.arr from ⟨HK.out ▸ h8.net, h8.cp I p' HI2.out, h8.at2 1 rfl⟩)
  clear h8
  refine wp_region_held_drew (S := fun W => At W g 85 (narr n q u KK) ∧ W.cell? ⟨q, I, none⟩ = some (.pointer (some ⟨p', 0, none⟩)) ∧ At W b5 31 m.arr) (by kernel_rfl) H0.out (fun _ => ?_)
  generalize V3.drew = V5 at *
  refine wpAnyH_take (i := 0) (v := .pointer (some ⟨g, 0, none⟩)) rfl (by kernel_rfl) (by kernel_rfl) (by kernel_rfl) (fun _ _ _ h => h) (Or.inl ⟨by rfl, fun W hW => by clear hW; go_simp⟩) H0.out ?_
  try simp only [Act.put, List.getElem_toArray, List.getElem_cons_succ, List.getElem_cons_zero, List.setIfInBounds_toArray, List.set_cons_zero, List.set_cons_succ]
  refine wpAnyH_take (i := 1) (v := .pointer (some ⟨g, 0, none⟩)) rfl (by kernel_rfl) (by kernel_rfl) (by kernel_rfl) (fun _ _ _ h => h) (Or.inl ⟨by rfl, fun W hW => by clear hW; go_simp⟩) H0.out ?_
  try simp only [Act.put, List.getElem_toArray, List.getElem_cons_succ, List.getElem_cons_zero, List.setIfInBounds_toArray, List.set_cons_zero, List.set_cons_succ]
  refine wpAnyH_take (i := 2) (v := .pointer (some ⟨g, 1, none⟩)) rfl (by kernel_rfl) (by kernel_rfl) (by kernel_rfl) (fun _ _ _ h => h) (Or.inl ⟨by rfl, fun W hW => by clear hW; go_simp⟩) H0.out ?_
  try simp only [Act.put, List.getElem_toArray, List.getElem_cons_succ, List.getElem_cons_zero, List.setIfInBounds_toArray, List.set_cons_zero, List.set_cons_succ]
  refine wpAnyH_take (i := 3) (v := .slice (some ⟨q, 0, none⟩) KK KK) rfl (by kernel_rfl) (by kernel_rfl) (by kernel_rfl) (fun _ _ _ h => h) (Or.inl ⟨by rfl, fun W hW => by have hc := (show W.cell? ⟨g, 1, none⟩ = some (.slice (some ⟨q, 0, none⟩) KK KK) from (hW.1.cell 1).trans (narr1 _ _ _ _)); clear hW; go_simp⟩) H0.out ?_
  try simp only [Act.put, List.getElem_toArray, List.getElem_cons_succ, List.getElem_cons_zero, List.setIfInBounds_toArray, List.set_cons_zero, List.set_cons_succ]
  refine wpAnyH_take (i := 4) (v := .int .i64 (I : Int)) rfl (by kernel_rfl) (by kernel_rfl) (by kernel_rfl) (fun _ _ _ h => h) (Or.inl ⟨by rfl, fun W hW => by clear hW; go_simp⟩) H0.out ?_
  try simp only [Act.put, List.getElem_toArray, List.getElem_cons_succ, List.getElem_cons_zero, List.setIfInBounds_toArray, List.set_cons_zero, List.set_cons_succ]
  refine wpAnyH_take (i := 5) (v := .pointer (some ⟨q, I, none⟩)) rfl (by kernel_rfl) (by kernel_rfl) (by kernel_rfl) (fun _ _ _ h => h) (Or.inl ⟨by rfl, fun W hW => by clear hW; go_simp⟩) H0.out ?_
  try simp only [Act.put, List.getElem_toArray, List.getElem_cons_succ, List.getElem_cons_zero, List.setIfInBounds_toArray, List.set_cons_zero, List.set_cons_succ]
  refine wpAnyH_take (i := 6) (v := .pointer (some ⟨p', 0, none⟩)) rfl (by kernel_rfl) (by kernel_rfl) (by kernel_rfl) (fun _ _ _ h => h) (Or.inl ⟨by rfl, fun W hW => by have hc := hW.2.1; clear hW; go_simp⟩) H0.out ?_
  try simp only [Act.put, List.getElem_toArray, List.getElem_cons_succ, List.getElem_cons_zero, List.setIfInBounds_toArray, List.set_cons_zero, List.set_cons_succ]
  refine wpAnyH_take (i := 7) (v := .agg m.arr) rfl (by kernel_rfl) (by kernel_rfl) (by kernel_rfl) (fun _ _ _ h => h) (yields_at 31 _ _ rfl (by rfl) rfl Try.underlying31 rfl (by rw [Msg.arr_size]; exact sz31) (fun W hW => hW.2.2)) H0.out ?_
  try simp only [Act.put, List.getElem_toArray, List.getElem_cons_succ, List.getElem_cons_zero, List.setIfInBounds_toArray, List.set_cons_zero, List.set_cons_succ]
  refine wpAnyH_ready (rs := [8]) (by kernel_rfl) (by simp) ?_
  refine AllReadyH.cons rfl (fun K hK => ?_) AllReadyH.nil
  go_simp
  go_at_call 14
  refine (put_ok (m := m) hq LE.out).mono ?_
  rintro e V4 ⟨rfl, hq2⟩
  have h9 := up V4 _ [] (fun e => absurd e HN.out) hq2
  clear up hq hq2
  have H4_ := Lib.hid (show At V4 g 85 (narr n q u KK) ∧ V4.cell? ⟨q, I, none⟩ = some (.pointer (some ⟨p', 0, none⟩)) ∧ At V4 b5 31 m.arr from ⟨HK.out ▸ h9.net, h9.cp I p' HI2.out, h9.at2 1 rfl⟩)
  refine hK.out _ _ H4_.out (fun _ => ?_)
  clear hK K
  try simp only [Act.put, List.getElem_toArray, List.getElem_cons_succ, List.getElem_cons_zero, List.setIfInBounds_toArray, List.set_cons_zero, List.set_cons_succ]
  refine wpAnyH_take (i := 9) (v := .int .i64 0) rfl (by kernel_rfl) (by kernel_rfl) (by kernel_rfl) (fun _ _ _ h => h) (Or.inl ⟨by rfl, fun W hW => by clear hW; go_simp⟩) H4_.out ?_
  try simp only [Act.put, List.getElem_toArray, List.getElem_cons_succ, List.getElem_cons_zero, List.setIfInBounds_toArray, List.set_cons_zero, List.set_cons_succ]
  refine wpAnyH_done (by kernel_rfl) ?_ _
  go_wp2
  go_ret
  exact ⟨_, rfl, h9.tail.tail⟩
set_option maxHeartbeats 4000000 in
theorem nsend_u_full (h : NX w W g q u n R ps cc L) (a b d  : Nat) (ha : a < 3) (hb : b < n) (hd : d < n) (hp : ps[idx n a b d]? = some u) {m : Msg} (hfr : m.fr = (b : Int)) (hto : m.to = (d : Int)) (hle : ¬ (cc (idx n a b d)).length < R) :
    Calls Try.prog 27 #[.pointer (some ⟨g, 0, none⟩), .int .i64 (a : Int), .agg m.arr] W fun e W' => ∃ ps', e = .returned (.int .i64 5) ∧ NX w W' g q u n R ps' cc L := by
  have n16 := h.n16
  have M1 : m.arr[1]? = some (.int .i64 (b : Int)) := by rw [← hfr]; exact m.at1
  have M2 : m.arr[2]? = some (.int .i64 (d : Int)) := by rw [← hto]; exact m.at2
  clear hfr hto
  have HS : Hid (∀ W x y, NX w W g q u n R ps cc (x :: y :: L) → Calls Try.prog 39 #[.pointer (some ⟨g, 0, none⟩), .agg #[.int .i64 (a : Int), .int .i64 (b : Int), .int .i64 (d : Int)]] W fun e W' => e = .returned (.bool true) ∧ NX w W' g q u n R ps cc (x :: y :: L)) := fun W x y h => by
    have := nx_has h (a : Int) (b : Int) (d : Int)
    rwa [has_yes ha hb hd] at this
  have IX : Hid (∀ W {L : Blks}, NX w W g q u n R ps cc L → Calls Try.prog 40 #[.pointer (some ⟨g, 0, none⟩), .agg #[.int .i64 (a : Int), .int .i64 (b : Int), .int .i64 (d : Int)]] W fun e W' => e = .returned (.int .i64 (idx n a b d : Nat)) ∧ Below W.heap.size W W') := fun W L h => index_any g n a b d ha hb hd n16 W h.c0 h.glt
  have hIK := idx_lt ha hb hd
  have hK5 := lks_le n16
  have HR := Lib.hid (clamp_self h.r4)
  have HP := Lib.hid h.len
  have PE := fun W => eqp_same u W
  have HNU := Lib.hid (h.unused _ hp)
  generalize hI : idx n a b d = I at *
  generalize hK : lks n = KK at *
  have HI := Lib.hid hp
  have HK := Lib.hid hK
  have LE := Lib.hid hle
  clear ha hb hd hp hI n16 hK hle
  go_enter Try.func27, Try.ntmps27
  go_wp2_with (first
    | (refine wpList_box_nx h 31 _ rfl rfl m.arr rfl ?_; clear h; intro W1 h1; generalize W.heap.size = b5 at *; have f1 := h1.cell 0 rfl 1 (.int .i64 (b : Int)) M1; have f2 := h1.cell 0 rfl 2 (.int .i64 (d : Int)) M2)
    | (have _ := h1; refine wpList_alloc_nx h1 51 rfl rfl _ #[.int .i64 0, .int .i64 0, .int .i64 0] zero51 rfl ?_; clear h1 f1 f2; intro W2 h2; generalize W1.heap.size = b7 at *)
    | (have _ := h2; refine wpList_store_nx (arr' := #[.int .i64 (a : Int), .int .i64 (b : Int), .int .i64 (d : Int)]) h2 0 rfl 51 (.tmp 7) (.tmp 14) rfl rfl rfl rfl sz51 rfl (by simp [Value.oneCell']) ?_; clear h2; intro W3 h3; have d0 := h3.cell 0 rfl 0 (.int .i64 (a : Int)) rfl; have d1 := h3.cell 0 rfl 1 (.int .i64 (b : Int)) rfl; have d2 := h3.cell 0 rfl 2 (.int .i64 (d : Int)) rfl)
    | (have _ := h3; go_at_call 39; refine (HS.out _ _ _ h3).mono ?_; clear h3 d0 d1 d2; rintro e W4 ⟨rfl, h4⟩; have d0 := h4.cell 0 rfl 0 (.int .i64 (a : Int)) rfl; have d1 := h4.cell 0 rfl 1 (.int .i64 (b : Int)) rfl; have d2 := h4.cell 0 rfl 2 (.int .i64 (d : Int)) rfl)
    | (have _ := h4; go_at_call 40; refine (IX.out _ h4).mono ?_; clear d0 d1 d2; rintro e W5 ⟨rfl, k5⟩; have h5 := h4.call k5; clear k5 h4))
  have e1 := HK.out ▸ h5.c1
  have e2 := h5.c2
  have e3 := h5.cp I u HI.out
  replace h5 := Lib.hid h5
  go_quiet (fail)
  have h6 := h5.out.drewN nq
  clear h5 e1 e2 e3 PE
  go_wp2
  replace h6 : NX w (W5.drewN nq).drew g q u n R ps cc _ := h6.drewN 1
  have H0 := Lib.hid (show At (W5.drewN nq).drew g 85 (narr n q u KK) from HK.out ▸ h6.net)
  refine wp_region_held_drew (S := fun W => At W g 85 (narr n q u KK)) (by kernel_rfl) H0.out (fun _ => ?_)
  generalize (W5.drewN nq).drew = V0 at *
  refine wpAnyH_take (i := 0) (v := .pointer (some ⟨g, 0, none⟩)) rfl (by kernel_rfl) (by kernel_rfl) (by kernel_rfl) (fun _ _ _ h => h) (Or.inl ⟨by rfl, fun W hW => by clear hW; go_simp⟩) H0.out ?_
  try simp only [Act.put, List.getElem_toArray, List.getElem_cons_succ, List.getElem_cons_zero, List.setIfInBounds_toArray, List.set_cons_zero, List.set_cons_succ]
  refine wpAnyH_take (i := 1) (v := .pointer (some ⟨g, 0, none⟩)) rfl (by kernel_rfl) (by kernel_rfl) (by kernel_rfl) (fun _ _ _ h => h) (Or.inl ⟨by rfl, fun W hW => by clear hW; go_simp⟩) H0.out ?_
  try simp only [Act.put, List.getElem_toArray, List.getElem_cons_succ, List.getElem_cons_zero, List.setIfInBounds_toArray, List.set_cons_zero, List.set_cons_succ]
  refine wpAnyH_take (i := 2) (v := .pointer (some ⟨g, 1, none⟩)) rfl (by kernel_rfl) (by kernel_rfl) (by kernel_rfl) (fun _ _ _ h => h) (Or.inl ⟨by rfl, fun W hW => by clear hW; go_simp⟩) H0.out ?_
  try simp only [Act.put, List.getElem_toArray, List.getElem_cons_succ, List.getElem_cons_zero, List.setIfInBounds_toArray, List.set_cons_zero, List.set_cons_succ]
  refine wpAnyH_take (i := 3) (v := .slice (some ⟨q, 0, none⟩) KK KK) rfl (by kernel_rfl) (by kernel_rfl) (by kernel_rfl) (fun _ _ _ h => h) (Or.inl ⟨by rfl, fun W hW => by have hc := (show W.cell? ⟨g, 1, none⟩ = some (.slice (some ⟨q, 0, none⟩) KK KK) from (hW.cell 1).trans (narr1 _ _ _ _)); clear hW; go_simp⟩) H0.out ?_
  try simp only [Act.put, List.getElem_toArray, List.getElem_cons_succ, List.getElem_cons_zero, List.setIfInBounds_toArray, List.set_cons_zero, List.set_cons_succ]
  refine wpAnyH_take (i := 4) (v := .int .i64 (I : Int)) rfl (by kernel_rfl) (by kernel_rfl) (by kernel_rfl) (fun _ _ _ h => h) (Or.inl ⟨by rfl, fun W hW => by clear hW; go_simp⟩) H0.out ?_
  try simp only [Act.put, List.getElem_toArray, List.getElem_cons_succ, List.getElem_cons_zero, List.setIfInBounds_toArray, List.set_cons_zero, List.set_cons_succ]
  refine wpAnyH_take (i := 5) (v := .pointer (some ⟨g, 0, none⟩)) rfl (by kernel_rfl) (by kernel_rfl) (by kernel_rfl) (fun _ _ _ h => h) (Or.inl ⟨by rfl, fun W hW => by clear hW; go_simp⟩) H0.out ?_
  try simp only [Act.put, List.getElem_toArray, List.getElem_cons_succ, List.getElem_cons_zero, List.setIfInBounds_toArray, List.set_cons_zero, List.set_cons_succ]
  refine wpAnyH_take (i := 6) (v := .pointer (some ⟨g, 0, none⟩)) rfl (by kernel_rfl) (by kernel_rfl) (by kernel_rfl) (fun _ _ _ h => h) (Or.inl ⟨by rfl, fun W hW => by clear hW; go_simp⟩) H0.out ?_
  try simp only [Act.put, List.getElem_toArray, List.getElem_cons_succ, List.getElem_cons_zero, List.setIfInBounds_toArray, List.set_cons_zero, List.set_cons_succ]
  refine wpAnyH_take (i := 7) (v := .pointer (some ⟨g, 2, none⟩)) rfl (by kernel_rfl) (by kernel_rfl) (by kernel_rfl) (fun _ _ _ h => h) (Or.inl ⟨by rfl, fun W hW => by clear hW; go_simp⟩) H0.out ?_
  try simp only [Act.put, List.getElem_toArray, List.getElem_cons_succ, List.getElem_cons_zero, List.setIfInBounds_toArray, List.set_cons_zero, List.set_cons_succ]
  refine wpAnyH_take (i := 8) (v := .pointer (some ⟨u, 0, none⟩)) rfl (by kernel_rfl) (by kernel_rfl) (by kernel_rfl) (fun _ _ _ h => h) (Or.inl ⟨by rfl, fun W hW => by have hc := (show W.cell? ⟨g, 2, none⟩ = some (.pointer (some ⟨u, 0, none⟩)) from (hW.cell 2).trans (narr2 _ _ _ _)); clear hW; go_simp⟩) H0.out ?_
  try simp only [Act.put, List.getElem_toArray, List.getElem_cons_succ, List.getElem_cons_zero, List.setIfInBounds_toArray, List.set_cons_zero, List.set_cons_succ]
  refine wpAnyH_ready (rs := [9]) (by kernel_rfl) (by simp) ?_
  refine AllReadyH.cons rfl (fun K hK => ?_) AllReadyH.nil
  go_simp
  go_at_call 18
  refine (nroom_u h6 I HI.out).mono ?_
  rintro e V1 ⟨rfl, j1, rfl⟩
  replace h6 := h6.drewN j1
  have H1_ := Lib.hid (show At (V0.drewN j1) g 85 (narr n q u KK) from HK.out ▸ h6.net)
  refine hK.out _ _ H1_.out (fun _ => ?_)
  clear hK K
  try simp only [Act.put, List.getElem_toArray, List.getElem_cons_succ, List.getElem_cons_zero, List.setIfInBounds_toArray, List.set_cons_zero, List.set_cons_succ]
  refine wpAnyH_ready (rs := [10]) (by kernel_rfl) (by simp) ?_
  refine AllReadyH.cons rfl (fun K hK => ?_) AllReadyH.nil
  go_simp
  obtain ⟨_, _, hX, mk, _⟩ := h6.made I HI.out
  clear h6
  go_at_call 10
  refine (qnew_any (R : Int) hX).mono ?_
  rintro e V2 ⟨p', rfl, hq⟩
  rw [HR.out] at hq
  obtain ⟨hneu, Y, hY, hgY, up⟩ := mk V2 p' [] hq
  replace hneu := Lib.hid hneu
  clear mk hX
  have H2_ := Lib.hid (show At V2 g 85 (narr n q u KK) from HK.out ▸ hY.at_ _ (List.mem_append_left _ hgY))
  refine hK.out _ _ H2_.out (fun _ => ?_)
  clear hK K
  try simp only [Act.put, List.getElem_toArray, List.getElem_cons_succ, List.getElem_cons_zero, List.setIfInBounds_toArray, List.set_cons_zero, List.set_cons_succ]
  refine wpAnyH_take (i := 11) (v := .pointer (some ⟨q, I, none⟩)) rfl (by kernel_rfl) (by kernel_rfl) (by kernel_rfl) (fun _ _ _ h => h) (Or.inl ⟨by rfl, fun W hW => by clear hW; go_simp⟩) H2_.out ?_
  try simp only [Act.put, List.getElem_toArray, List.getElem_cons_succ, List.getElem_cons_zero, List.setIfInBounds_toArray, List.set_cons_zero, List.set_cons_succ]
  refine wpAnyH_ready (rs := [12]) (by kernel_rfl) (by simp) ?_
  refine AllReadyH.cons rfl (fun K hK => ?_) AllReadyH.nil
  rw [if_pos (by rfl)]
  refine wp_cell_st (t := 24) (arr := parr ps) hY Y.length (by rw [List.getElem?_append_right (Nat.le_refl _), Nat.sub_self]; rfl) 24 (.tmp 45) (.tmp 44) rfl I (.pointer (some ⟨p', 0, none⟩)) rfl rfl (by rw [parr_size, HP.out]; exact hIK) rfl rfl sz24 ?_
  intro V3 h8
  rw [List.set_append_right _ _ (Nat.le_refl _), Nat.sub_self, List.set_cons_zero, parr_set] at h8
  replace h8 := up V3 _ h8
  have H3 := Lib.hid (show At V3 g 85 (narr n q u KK) from HK.out ▸ h8.net)
  clear hY up
  refine hK.out _ _ H3.out (fun _ => ?_)
  clear hK K
  try simp only [Act.put, List.getElem_toArray, List.getElem_cons_succ, List.getElem_cons_zero, List.setIfInBounds_toArray, List.set_cons_zero, List.set_cons_succ]
  refine wpAnyH_done (by kernel_rfl) ?_ _
  clear H0 H1_ H2_ H3
  go_wp2
  replace h8 : NX w V3.drew g q u n R (ps.set I p') cc _ := h8.drewN 1
  have HI2 := Lib.hid (show (ps.set I p')[I]? = some p' from List.getElem?_set_self (by rw [HP.out]; exact hIK))
  have HN := hneu
  obtain ⟨X, hq, up⟩ := h8.queueP I p' HI2.out
  have H0 := Lib.hid (show At V3.drew g 85 (narr n q u KK) ∧ V3.drew.cell? ⟨q, I, none⟩ = some (.pointer (some ⟨p', 0, none⟩)) ∧ At V3.drew b5 31 m.arr from ⟨HK.out ▸ h8.net, h8.cp I p' HI2.out, h8.at2 1 rfl⟩)
  clear h8
  refine wp_region_held_drew (S := fun W => At W g 85 (narr n q u KK) ∧ W.cell? ⟨q, I, none⟩ = some (.pointer (some ⟨p', 0, none⟩)) ∧ At W b5 31 m.arr) (by kernel_rfl) H0.out (fun _ => ?_)
  generalize V3.drew = V5 at *
  refine wpAnyH_take (i := 0) (v := .pointer (some ⟨g, 0, none⟩)) rfl (by kernel_rfl) (by kernel_rfl) (by kernel_rfl) (fun _ _ _ h => h) (Or.inl ⟨by rfl, fun W hW => by clear hW; go_simp⟩) H0.out ?_
  try simp only [Act.put, List.getElem_toArray, List.getElem_cons_succ, List.getElem_cons_zero, List.setIfInBounds_toArray, List.set_cons_zero, List.set_cons_succ]
  refine wpAnyH_take (i := 1) (v := .pointer (some ⟨g, 0, none⟩)) rfl (by kernel_rfl) (by kernel_rfl) (by kernel_rfl) (fun _ _ _ h => h) (Or.inl ⟨by rfl, fun W hW => by clear hW; go_simp⟩) H0.out ?_
  try simp only [Act.put, List.getElem_toArray, List.getElem_cons_succ, List.getElem_cons_zero, List.setIfInBounds_toArray, List.set_cons_zero, List.set_cons_succ]
  refine wpAnyH_take (i := 2) (v := .pointer (some ⟨g, 1, none⟩)) rfl (by kernel_rfl) (by kernel_rfl) (by kernel_rfl) (fun _ _ _ h => h) (Or.inl ⟨by rfl, fun W hW => by clear hW; go_simp⟩) H0.out ?_
  try simp only [Act.put, List.getElem_toArray, List.getElem_cons_succ, List.getElem_cons_zero, List.setIfInBounds_toArray, List.set_cons_zero, List.set_cons_succ]
  refine wpAnyH_take (i := 3) (v := .slice (some ⟨q, 0, none⟩) KK KK) rfl (by kernel_rfl) (by kernel_rfl) (by kernel_rfl) (fun _ _ _ h => h) (Or.inl ⟨by rfl, fun W hW => by have hc := (show W.cell? ⟨g, 1, none⟩ = some (.slice (some ⟨q, 0, none⟩) KK KK) from (hW.1.cell 1).trans (narr1 _ _ _ _)); clear hW; go_simp⟩) H0.out ?_
  try simp only [Act.put, List.getElem_toArray, List.getElem_cons_succ, List.getElem_cons_zero, List.setIfInBounds_toArray, List.set_cons_zero, List.set_cons_succ]
  refine wpAnyH_take (i := 4) (v := .int .i64 (I : Int)) rfl (by kernel_rfl) (by kernel_rfl) (by kernel_rfl) (fun _ _ _ h => h) (Or.inl ⟨by rfl, fun W hW => by clear hW; go_simp⟩) H0.out ?_
  try simp only [Act.put, List.getElem_toArray, List.getElem_cons_succ, List.getElem_cons_zero, List.setIfInBounds_toArray, List.set_cons_zero, List.set_cons_succ]
  refine wpAnyH_take (i := 5) (v := .pointer (some ⟨q, I, none⟩)) rfl (by kernel_rfl) (by kernel_rfl) (by kernel_rfl) (fun _ _ _ h => h) (Or.inl ⟨by rfl, fun W hW => by clear hW; go_simp⟩) H0.out ?_
  try simp only [Act.put, List.getElem_toArray, List.getElem_cons_succ, List.getElem_cons_zero, List.setIfInBounds_toArray, List.set_cons_zero, List.set_cons_succ]
  refine wpAnyH_take (i := 6) (v := .pointer (some ⟨p', 0, none⟩)) rfl (by kernel_rfl) (by kernel_rfl) (by kernel_rfl) (fun _ _ _ h => h) (Or.inl ⟨by rfl, fun W hW => by have hc := hW.2.1; clear hW; go_simp⟩) H0.out ?_
  try simp only [Act.put, List.getElem_toArray, List.getElem_cons_succ, List.getElem_cons_zero, List.setIfInBounds_toArray, List.set_cons_zero, List.set_cons_succ]
  refine wpAnyH_take (i := 7) (v := .agg m.arr) rfl (by kernel_rfl) (by kernel_rfl) (by kernel_rfl) (fun _ _ _ h => h) (yields_at 31 _ _ rfl (by rfl) rfl Try.underlying31 rfl (by rw [Msg.arr_size]; exact sz31) (fun W hW => hW.2.2)) H0.out ?_
  try simp only [Act.put, List.getElem_toArray, List.getElem_cons_succ, List.getElem_cons_zero, List.setIfInBounds_toArray, List.set_cons_zero, List.set_cons_succ]
  refine wpAnyH_ready (rs := [8]) (by kernel_rfl) (by simp) ?_
  refine AllReadyH.cons rfl (fun K hK => ?_) AllReadyH.nil
  go_simp
  go_at_call 14
  refine (put_full (m := m) hq LE.out).mono ?_
  rintro e V4 ⟨rfl, hq2⟩
  have h9 := up V4 _ [] (fun e => absurd e HN.out) hq2
  clear up hq hq2
  have H4_ := Lib.hid (show At V4 g 85 (narr n q u KK) ∧ V4.cell? ⟨q, I, none⟩ = some (.pointer (some ⟨p', 0, none⟩)) ∧ At V4 b5 31 m.arr from ⟨HK.out ▸ h9.net, h9.cp I p' HI2.out, h9.at2 1 rfl⟩)
  refine hK.out _ _ H4_.out (fun _ => ?_)
  clear hK K
  try simp only [Act.put, List.getElem_toArray, List.getElem_cons_succ, List.getElem_cons_zero, List.setIfInBounds_toArray, List.set_cons_zero, List.set_cons_succ]
  refine wpAnyH_take (i := 9) (v := .int .i64 5) rfl (by kernel_rfl) (by kernel_rfl) (by kernel_rfl) (fun _ _ _ h => h) (Or.inl ⟨by rfl, fun W hW => by clear hW; go_simp⟩) H4_.out ?_
  try simp only [Act.put, List.getElem_toArray, List.getElem_cons_succ, List.getElem_cons_zero, List.setIfInBounds_toArray, List.set_cons_zero, List.set_cons_succ]
  refine wpAnyH_done (by kernel_rfl) ?_ _
  go_wp2
  go_ret
  exact ⟨_, rfl, (upd_self cc I ▸ h9).tail.tail⟩
end
end Go.Proofs.Ytacjdeppigdbjaa
