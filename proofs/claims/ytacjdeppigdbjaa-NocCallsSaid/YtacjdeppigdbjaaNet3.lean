/- What a net's queues are asked for: the first message, all, how much room. No statement is proved here. -/
import Derived.Test.YtacjdeppigdbjaaNet2
namespace Go.Proofs.Ytacjdeppigdbjaa
open Go.RowKit
set_option linter.unusedVariables false
set_option linter.unusedSimpArgs false

theorem narr1 (n q u K : Nat) : (narr n q u K)[1]? = some (.slice (some ⟨q, 0, none⟩) K K) := rfl
theorem sz51 : (Try.prog.info? 51).map (·.size) = some 3 := by kernel_rfl
section
variable {ops : Array Oper} {rest : List Oper} {o : Oper} {a : Act} {w W : World} {K : Act → World → Prop} {Q : Exit → Act → World → Prop} {L : Blks} {g q u n R b : Nat} {ps : List Nat} {c : Nat → List Msg}
theorem wp_store_st (h : St w W L) (i : Nat) {g : Nat} {t : TypeId} {arr arr' : Array Value} (hi : L[i]? = some (g, C t arr)) (ty : TypeId) (x y : Operand) (ho : o.op = .store ty x y)
    (hx : a.eval x = .pointer (some ⟨g, 0, none⟩)) (hy : a.eval y = .agg arr') (hs : (Try.prog.info? ty).map (·.size) = some arr'.size) (hl : arr'.size = arr.size) (h1 : arr'.all (·.oneCell') = true)
    (k : ∀ W', St w W' (L.set i (g, C t arr')) → K (a.put o.dst undef) W') : o.wp Try.prog a W K Q := by
  have hA : At W g t arr := h.get i hi
  exact wp_store_row ty x y ho g arr' hx hy t arr hA hs hl.symm h1 (k _ (h.put i hi hA.putAll (grown_setRow W g arr')))
theorem wp_store_nx (h : NX w W g q u n R ps c L) (i : Nat) {t : TypeId} {arr arr' : Array Value} (hi : L[i]? = some (b, C t arr)) (ty : TypeId) (x y : Operand) (ho : o.op = .store ty x y)
    (hx : a.eval x = .pointer (some ⟨b, 0, none⟩)) (hy : a.eval y = .agg arr') (hs : (Try.prog.info? ty).map (·.size) = some arr'.size) (hl : arr'.size = arr.size) (h1 : arr'.all (·.oneCell') = true)
    (k : ∀ W', NX w W' g q u n R ps c (L.set i (b, C t arr')) → K (a.put o.dst undef) W') : o.wp Try.prog a W K Q := by
  obtain ⟨Y, _, _, _, hs', up⟩ := h.lift
  refine wp_store_st (t := t) hs' (Y.length + i) (by rw [List.getElem?_append_right (by omega), Nat.add_sub_cancel_left]; exact hi) ty x y ho hx hy hs hl h1 fun W' h' => k W' (up W' _ ?_)
  rwa [List.set_append_right _ _ (by omega), Nat.add_sub_cancel_left] at h'
theorem wpList_store_nx (h : NX w W g q u n R ps c L) (i : Nat) {t : TypeId} {arr arr' : Array Value} (hi : L[i]? = some (b, C t arr)) (ty : TypeId) (x y : Operand) (ho : o.op = .store ty x y) (hw : Region.wanted o (yielded ops a.tmps) = true)
    (hx : a.eval x = .pointer (some ⟨b, 0, none⟩)) (hy : a.eval y = .agg arr') (hs : (Try.prog.info? ty).map (·.size) = some arr'.size) (hl : arr'.size = arr.size) (h1 : arr'.all (·.oneCell') = true)
    (k : ∀ W', NX w W' g q u n R ps c (L.set i (b, C t arr')) → wpList Try.prog ops Q rest (a.put o.dst undef) W') : wpList Try.prog ops Q (o :: rest) a W := by
  unfold wpList
  rw [if_pos hw]
  exact .inl (wp_store_nx h i hi ty x y ho hx hy hs hl h1 k)
theorem wpList_alloc_nx (h : NX w W g q u n R ps c L) (ty : TypeId) (ho : o.op = .alloc ty) (hw : Region.wanted o (yielded ops a.tmps) = true) (v : Value) (arr : Array Value) (hz : ∀ W, (zeroValue ty).run Try.prog W = .ok v W) (hx : v.cells = arr)
    (k : ∀ W', NX w W' g q u n R ps c ((W.heap.size, C ty arr) :: L) → wpList Try.prog ops Q rest (a.put o.dst (.pointer (some ⟨W.heap.size, 0, none⟩))) W') : wpList Try.prog ops Q (o :: rest) a W := by
  obtain ⟨Y, _, _, _, hs', up⟩ := h.lift
  refine wpList_alloc_st hs' ty ho hw v arr hz hx fun W' h' _ _ => k W' (up W' _ (h'.perm ?_))
  rw [List.append_assoc]
  exact (List.perm_append_singleton _ L).append_left Y
theorem wpList_box_nx (h : NX w W g q u n R ps c L) (ty : TypeId) (x : Operand) (ho : o.op = .box ty x) (hw : Region.wanted o (yielded ops a.tmps) = true) (arr : Array Value) (hx : (a.eval x).cells = arr)
    (k : ∀ W', NX w W' g q u n R ps c ((W.heap.size, C ty arr) :: L) → wpList Try.prog ops Q rest (a.put o.dst (.pointer (some ⟨W.heap.size, 0, none⟩))) W') : wpList Try.prog ops Q (o :: rest) a W := by
  obtain ⟨Y, _, _, _, hs', up⟩ := h.lift
  refine wpList_box_st hs' ty x ho hw arr hx fun W' h' _ _ => k W' (up W' _ (h'.perm ?_))
  rw [List.append_assoc]
  exact (List.perm_append_singleton _ L).append_left Y
end
theorem NX.glt {w W : World} {g q u n R : Nat} {ps : List Nat} {c : Nat → List Msg} {L : Blks} (h : NX w W g q u n R ps c L) : g < W.heap.size := heap_lt h.net
theorem nx_has {w W : World} {g q u n R : Nat} {ps : List Nat} {c : Nat → List Msg} {L : Blks} (h : NX w W g q u n R ps c L) (a b d : Int) :
    Calls Try.prog 39 #[.pointer (some ⟨g, 0, none⟩), .agg #[.int .i64 a, .int .i64 b, .int .i64 d]] W fun e W' => e = .returned (.bool (hasL n a b d)) ∧ NX w W' g q u n R ps c L := by
  refine (has_any g n a b d W h.c0 h.glt).mono ?_
  rintro e W' ⟨rfl, hb⟩
  exact ⟨rfl, h.call hb⟩
theorem has_yes {n a b d : Nat} (ha : a < 3) (hb : b < n) (hd : d < n) : hasL n (a : Int) (b : Int) (d : Int) = true := hasL_iff.2 (by omega)
attribute [local irreducible] Msg.arr bufM marr narr idx lks
section
variable {w W : World} {g q u n R : Nat} {ps : List Nat} {cc : Nat → List Msg} {L : Blks}
set_option maxHeartbeats 1000000 in
theorem message_no (h : NX w W g q u n R ps cc L) (a b d : Int) (hh : hasL n a b d = false) (f : Value) :
    Calls Try.prog 38 #[.pointer (some ⟨g, 0, none⟩), .agg #[.int .i64 a, .int .i64 b, .int .i64 d], f] W fun e W' => e = .returned (.tuple #[.agg zmsg.arr, .int .i64 2]) ∧ NX w W' g q u n R ps cc L := by
  have HS := Lib.hid (fun W (h : NX w W g q u n R ps cc _) => nx_has (L := L) h a b d)
  have HS2 : Hid (∀ W x y, NX w W g q u n R ps cc (x :: y :: L) → Calls Try.prog 39 #[.pointer (some ⟨g, 0, none⟩), .agg #[.int .i64 a, .int .i64 b, .int .i64 d]] W fun e W' => e = .returned (.bool false) ∧ NX w W' g q u n R ps cc (x :: y :: L)) := fun W x y h => by
    have := nx_has h a b d
    rwa [hh] at this
  clear HS hh
  go_enter Try.func38, Try.ntmps38
  go_wp2_with (first
    | (refine wpList_box_nx h 51 _ rfl rfl #[.int .i64 a, .int .i64 b, .int .i64 d] rfl ?_; clear h; intro W1 h1; generalize W.heap.size = b4 at *)
    | (have _ := h1; refine wpList_alloc_nx h1 31 rfl rfl _ zmsg.arr zero31 rfl ?_; clear h1; intro W2 h2; generalize W1.heap.size = b6 at *; have d0 := h2.cell 1 rfl 0 (.int .i64 a) rfl; have d1 := h2.cell 1 rfl 1 (.int .i64 b) rfl; have d2 := h2.cell 1 rfl 2 (.int .i64 d) rfl)
    | (have _ := h2; go_at_call 39; refine (HS2.out _ _ _ h2).mono ?_; clear h2 d0 d1 d2; rintro e W3 ⟨rfl, h3⟩)
    | (have _ := h3; refine wpList_store_nx (arr' := zmsg.arr) h3 0 rfl 31 (.tmp 6) (.tmp 12) rfl rfl rfl (by rw [zarr_lit]; rfl) (by rw [Msg.arr_size]; exact sz31) (by simp only [Msg.arr_size]) (Msg.arr_one _) ?_; clear h3; intro W4 h4))
  exact bodyPost_ret (results_msg Try.results38 _ _ b6 rfl zmsg (h4.at2 0 rfl)) rfl ⟨rfl, h4.tail.tail⟩
set_option maxHeartbeats 1000000 in
theorem ask42_no (h : NX w W g q u n R ps cc L) (a b d : Int) (hh : hasL n a b d = false) (f : Value) :
    Calls Try.prog 42 #[.pointer (some ⟨g, 0, none⟩), .agg #[.int .i64 a, .int .i64 b, .int .i64 d], f] W fun e W' => e = .returned (.int .i64 0) ∧ NX w W' g q u n R ps cc L := by
  have HS2 : Hid (∀ W x, NX w W g q u n R ps cc (x :: L) → Calls Try.prog 39 #[.pointer (some ⟨g, 0, none⟩), .agg #[.int .i64 a, .int .i64 b, .int .i64 d]] W fun e W' => e = .returned (.bool false) ∧ NX w W' g q u n R ps cc (x :: L)) := fun W x h => by
    have := nx_has h a b d
    rwa [hh] at this
  clear hh
  go_enter Try.func42, Try.ntmps42
  go_wp2_with (first
    | (refine wpList_box_nx h 51 _ rfl rfl #[.int .i64 a, .int .i64 b, .int .i64 d] rfl ?_; clear h; intro W1 h1; generalize W.heap.size = b4 at *; have d0 := h1.cell 0 rfl 0 (.int .i64 a) rfl; have d1 := h1.cell 0 rfl 1 (.int .i64 b) rfl; have d2 := h1.cell 0 rfl 2 (.int .i64 d) rfl)
    | (have _ := h1; go_at_call 39; refine (HS2.out _ _ h1).mono ?_; clear h1 d0 d1 d2; rintro e W3 ⟨rfl, h3⟩))
  go_ret
  exact ⟨rfl, h3.tail⟩
set_option maxHeartbeats 1000000 in
theorem ask43_no (h : NX w W g q u n R ps cc L) (a b d : Int) (hh : hasL n a b d = false) (f : Value) :
    Calls Try.prog 43 #[.pointer (some ⟨g, 0, none⟩), .agg #[.int .i64 a, .int .i64 b, .int .i64 d], f] W fun e W' => e = .returned (.slice none 0 0) ∧ NX w W' g q u n R ps cc L := by
  have HS2 : Hid (∀ W x, NX w W g q u n R ps cc (x :: L) → Calls Try.prog 39 #[.pointer (some ⟨g, 0, none⟩), .agg #[.int .i64 a, .int .i64 b, .int .i64 d]] W fun e W' => e = .returned (.bool false) ∧ NX w W' g q u n R ps cc (x :: L)) := fun W x h => by
    have := nx_has h a b d
    rwa [hh] at this
  clear hh
  go_enter Try.func43, Try.ntmps43
  go_wp2_with (first
    | (refine wpList_box_nx h 51 _ rfl rfl #[.int .i64 a, .int .i64 b, .int .i64 d] rfl ?_; clear h; intro W1 h1; generalize W.heap.size = b4 at *; have d0 := h1.cell 0 rfl 0 (.int .i64 a) rfl; have d1 := h1.cell 0 rfl 1 (.int .i64 b) rfl; have d2 := h1.cell 0 rfl 2 (.int .i64 d) rfl)
    | (have _ := h1; go_at_call 39; refine (HS2.out _ _ h1).mono ?_; clear h1 d0 d1 d2; rintro e W3 ⟨rfl, h3⟩))
  go_ret
  exact ⟨rfl, h3.tail⟩
set_option maxHeartbeats 2000000 in
theorem message_take (h : NX w W g q u n R ps cc L) (a b d p : Nat) (ha : a < 3) (hb : b < n) (hd : d < n) (hp : ps[idx n a b d]? = some p) {m : Msg} {k : Int} {xs' : List Msg}
    (FF : ∀ W X, QQ w W p R (cc (idx n a b d)) X → Calls Try.prog 12 #[.pointer (some ⟨p, 0, none⟩)] W fun e W' => e = .returned (.tuple #[.agg m.arr, .int .i64 k]) ∧ QQ w W' p R xs' X) (HX : cc (idx n a b d) = [] → xs' = []) :
    Calls Try.prog 38 #[.pointer (some ⟨g, 0, none⟩), .agg #[.int .i64 (a : Int), .int .i64 (b : Int), .int .i64 (d : Int)], .func (.func 12) #[] #[]] W fun e W' => e = .returned (.tuple #[.agg m.arr, .int .i64 k]) ∧ NX w W' g q u n R ps (upd cc (idx n a b d) xs') L := by
  have n16 := h.n16
  have HS : Hid (∀ W x y, NX w W g q u n R ps cc (x :: y :: L) → Calls Try.prog 39 #[.pointer (some ⟨g, 0, none⟩), .agg #[.int .i64 (a : Int), .int .i64 (b : Int), .int .i64 (d : Int)]] W fun e W' => e = .returned (.bool true) ∧ NX w W' g q u n R ps cc (x :: y :: L)) := fun W x y h => by
    have := nx_has h (a : Int) (b : Int) (d : Int)
    rwa [has_yes ha hb hd] at this
  have IX : Hid (∀ W {L : Blks}, NX w W g q u n R ps cc L → Calls Try.prog 40 #[.pointer (some ⟨g, 0, none⟩), .agg #[.int .i64 (a : Int), .int .i64 (b : Int), .int .i64 (d : Int)]] W fun e W' => e = .returned (.int .i64 (idx n a b d : Nat)) ∧ Below W.heap.size W W') := fun W L h => index_any g n a b d ha hb hd n16 W h.c0 h.glt
  have hIK := idx_lt ha hb hd
  have hK5 := lks_le n16
  replace HX := Lib.hid HX
  have FF := Lib.hid FF
  generalize hI : idx n a b d = I at *
  generalize hK : lks n = KK at *
  have HI := Lib.hid hp
  have HK := Lib.hid hK
  clear ha hb hd hp hI n16 hK
  go_enter Try.func38, Try.ntmps38
  go_wp2_with (first
    | (refine wpList_box_nx h 51 _ rfl rfl #[.int .i64 (a : Int), .int .i64 (b : Int), .int .i64 (d : Int)] rfl ?_; clear h; intro W1 h1; generalize W.heap.size = b4 at *)
    | (have _ := h1; refine wpList_alloc_nx h1 31 rfl rfl _ zmsg.arr zero31 rfl ?_; clear h1; intro W2 h2; generalize W1.heap.size = b6 at *; have d0 := h2.cell 1 rfl 0 (.int .i64 (a : Int)) rfl; have d1 := h2.cell 1 rfl 1 (.int .i64 (b : Int)) rfl; have d2 := h2.cell 1 rfl 2 (.int .i64 (d : Int)) rfl)
    | (have _ := h2; go_at_call 39; refine (HS.out _ _ _ h2).mono ?_; clear h2 d0 d1 d2; rintro e W3 ⟨rfl, h3⟩))
  replace h3 := h3.drewN 1
  have h5 : NX w W3.drew g q u n R ps cc _ := h3
  clear h3
  have H0 := Lib.hid (show At W3.drew g 85 (narr n q u KK) ∧ W3.drew.cell? ⟨q, I, none⟩ = some (.pointer (some ⟨p, 0, none⟩)) ∧ At W3.drew b4 51 #[.int .i64 (a : Int), .int .i64 (b : Int), .int .i64 (d : Int)] from ⟨HK.out ▸ h5.net, h5.cp I p HI.out, h5.at2 1 rfl⟩)
  refine wp_region_held_drew (S := fun W => At W g 85 (narr n q u KK) ∧ W.cell? ⟨q, I, none⟩ = some (.pointer (some ⟨p, 0, none⟩)) ∧ At W b4 51 #[.int .i64 (a : Int), .int .i64 (b : Int), .int .i64 (d : Int)]) (by kernel_rfl) H0.out (fun _ => ?_)
  generalize W3.drew = V0 at *
  refine wpAnyH_take (i := 0) (v := .func (.func 12) #[] #[]) rfl (by kernel_rfl) (by kernel_rfl) (by kernel_rfl) (fun _ _ _ h => h) (Or.inl ⟨by rfl, fun W hW => by clear hW; go_simp⟩) H0.out ?_
  try simp only [Act.put, List.getElem_toArray, List.getElem_cons_succ, List.getElem_cons_zero, List.setIfInBounds_toArray, List.set_cons_zero, List.set_cons_succ]
  refine wpAnyH_take (i := 1) (v := .pointer (some ⟨g, 0, none⟩)) rfl (by kernel_rfl) (by kernel_rfl) (by kernel_rfl) (fun _ _ _ h => h) (Or.inl ⟨by rfl, fun W hW => by clear hW; go_simp⟩) H0.out ?_
  try simp only [Act.put, List.getElem_toArray, List.getElem_cons_succ, List.getElem_cons_zero, List.setIfInBounds_toArray, List.set_cons_zero, List.set_cons_succ]
  refine wpAnyH_take (i := 2) (v := .pointer (some ⟨g, 0, none⟩)) rfl (by kernel_rfl) (by kernel_rfl) (by kernel_rfl) (fun _ _ _ h => h) (Or.inl ⟨by rfl, fun W hW => by clear hW; go_simp⟩) H0.out ?_
  try simp only [Act.put, List.getElem_toArray, List.getElem_cons_succ, List.getElem_cons_zero, List.setIfInBounds_toArray, List.set_cons_zero, List.set_cons_succ]
  refine wpAnyH_take (i := 3) (v := .pointer (some ⟨g, 1, none⟩)) rfl (by kernel_rfl) (by kernel_rfl) (by kernel_rfl) (fun _ _ _ h => h) (Or.inl ⟨by rfl, fun W hW => by clear hW; go_simp⟩) H0.out ?_
  try simp only [Act.put, List.getElem_toArray, List.getElem_cons_succ, List.getElem_cons_zero, List.setIfInBounds_toArray, List.set_cons_zero, List.set_cons_succ]
  refine wpAnyH_take (i := 4) (v := .slice (some ⟨q, 0, none⟩) KK KK) rfl (by kernel_rfl) (by kernel_rfl) (by kernel_rfl) (fun _ _ _ h => h) (Or.inl ⟨by rfl, fun W hW => by have hc := (show W.cell? ⟨g, 1, none⟩ = some (.slice (some ⟨q, 0, none⟩) KK KK) from (hW.1.cell 1).trans (narr1 _ _ _ _)); clear hW; go_simp⟩) H0.out ?_
  try simp only [Act.put, List.getElem_toArray, List.getElem_cons_succ, List.getElem_cons_zero, List.setIfInBounds_toArray, List.set_cons_zero, List.set_cons_succ]
  refine wpAnyH_take (i := 5) (v := .pointer (some ⟨g, 0, none⟩)) rfl (by kernel_rfl) (by kernel_rfl) (by kernel_rfl) (fun _ _ _ h => h) (Or.inl ⟨by rfl, fun W hW => by clear hW; go_simp⟩) H0.out ?_
  try simp only [Act.put, List.getElem_toArray, List.getElem_cons_succ, List.getElem_cons_zero, List.setIfInBounds_toArray, List.set_cons_zero, List.set_cons_succ]
  refine wpAnyH_take (i := 6) (v := .agg #[.int .i64 (a : Int), .int .i64 (b : Int), .int .i64 (d : Int)]) rfl (by kernel_rfl) (by kernel_rfl) (by kernel_rfl) (fun _ _ _ h => h) (yields_at 51 _ _ rfl (by rfl) rfl Try.underlying51 rfl sz51 (fun W hW => hW.2.2)) H0.out ?_
  try simp only [Act.put, List.getElem_toArray, List.getElem_cons_succ, List.getElem_cons_zero, List.setIfInBounds_toArray, List.set_cons_zero, List.set_cons_succ]
  refine wpAnyH_ready (rs := [7]) (by kernel_rfl) (by simp) ?_
  refine AllReadyH.cons rfl (fun K hK => ?_) AllReadyH.nil
  go_simp
  go_at_call 40
  refine (IX.out V0 h5).mono ?_
  rintro e V1 ⟨rfl, k1⟩
  replace h5 := h5.call k1
  have H1_ := Lib.hid (show At V1 g 85 (narr n q u KK) ∧ V1.cell? ⟨q, I, none⟩ = some (.pointer (some ⟨p, 0, none⟩)) ∧ At V1 b4 51 #[.int .i64 (a : Int), .int .i64 (b : Int), .int .i64 (d : Int)] from ⟨HK.out ▸ h5.net, h5.cp I p HI.out, h5.at2 1 rfl⟩)
  clear k1
  refine hK.out _ _ H1_.out (fun _ => ?_)
  clear hK K
  try simp only [Act.put, List.getElem_toArray, List.getElem_cons_succ, List.getElem_cons_zero, List.setIfInBounds_toArray, List.set_cons_zero, List.set_cons_succ]
  refine wpAnyH_take (i := 8) (v := .pointer (some ⟨q, I, none⟩)) rfl (by kernel_rfl) (by kernel_rfl) (by kernel_rfl) (fun _ _ _ h => h) (Or.inl ⟨by rfl, fun W hW => by clear hW; go_simp⟩) H1_.out ?_
  try simp only [Act.put, List.getElem_toArray, List.getElem_cons_succ, List.getElem_cons_zero, List.setIfInBounds_toArray, List.set_cons_zero, List.set_cons_succ]
  refine wpAnyH_take (i := 9) (v := .pointer (some ⟨p, 0, none⟩)) rfl (by kernel_rfl) (by kernel_rfl) (by kernel_rfl) (fun _ _ _ h => h) (Or.inl ⟨by rfl, fun W hW => by have hc := hW.2.1; clear hW; go_simp⟩) H1_.out ?_
  try simp only [Act.put, List.getElem_toArray, List.getElem_cons_succ, List.getElem_cons_zero, List.setIfInBounds_toArray, List.set_cons_zero, List.set_cons_succ]
  refine wpAnyH_ready (rs := [10]) (by kernel_rfl) (by simp) ?_
  refine AllReadyH.cons rfl (fun K hK => ?_) AllReadyH.nil
  go_simp
  obtain ⟨X, hq, up⟩ := h5.queue I p HI.out
  go_at_call 12
  refine (FF.out V1 _ hq).mono ?_
  rintro e V2 ⟨rfl, k2⟩
  have h6 := up V2 xs' [] HX.out k2
  replace h6 : NX w V2 g q u n R ps _ _ := h6
  have H2_ := Lib.hid (show At V2 g 85 (narr n q u KK) ∧ V2.cell? ⟨q, I, none⟩ = some (.pointer (some ⟨p, 0, none⟩)) ∧ At V2 b4 51 #[.int .i64 (a : Int), .int .i64 (b : Int), .int .i64 (d : Int)] from ⟨HK.out ▸ h6.net, h6.cp I p HI.out, h6.at2 1 rfl⟩)
  refine hK.out _ _ H2_.out (fun _ => ?_)
  clear hK K
  try simp only [Act.put, List.getElem_toArray, List.getElem_cons_succ, List.getElem_cons_zero, List.setIfInBounds_toArray, List.set_cons_zero, List.set_cons_succ]
  refine wpAnyH_take (i := 11) (v := .agg m.arr) rfl (by kernel_rfl) (by kernel_rfl) (by kernel_rfl) (fun _ _ _ h => h) (Or.inl ⟨by rfl, fun W hW => by clear hW; go_simp⟩) H2_.out ?_
  try simp only [Act.put, List.getElem_toArray, List.getElem_cons_succ, List.getElem_cons_zero, List.setIfInBounds_toArray, List.set_cons_zero, List.set_cons_succ]
  refine wpAnyH_take (i := 12) (v := .int .i64 k) rfl (by kernel_rfl) (by kernel_rfl) (by kernel_rfl) (fun _ _ _ h => h) (Or.inl ⟨by rfl, fun W hW => by clear hW; go_simp⟩) H2_.out ?_
  try simp only [Act.put, List.getElem_toArray, List.getElem_cons_succ, List.getElem_cons_zero, List.setIfInBounds_toArray, List.set_cons_zero, List.set_cons_succ]
  refine wpAnyH_ready (rs := [13]) (by kernel_rfl) (by simp) ?_
  refine AllReadyH.cons rfl (fun K hK => ?_) AllReadyH.nil
  rw [if_pos (by rfl)]
  refine wp_store_nx h6 0 rfl 31 (.tmp 6) (.tmp 24) rfl rfl rfl (by rw [Msg.arr_size]; exact sz31) (by simp only [Msg.arr_size]) (Msg.arr_one _) ?_
  intro V3 h7
  clear h6
  have H3 := Lib.hid (show At V3 g 85 (narr n q u KK) ∧ V3.cell? ⟨q, I, none⟩ = some (.pointer (some ⟨p, 0, none⟩)) ∧ At V3 b4 51 #[.int .i64 (a : Int), .int .i64 (b : Int), .int .i64 (d : Int)] from ⟨HK.out ▸ h7.net, h7.cp I p HI.out, h7.at2 1 rfl⟩)
  refine hK.out _ _ H3.out (fun _ => ?_)
  clear hK K
  try simp only [Act.put, List.getElem_toArray, List.getElem_cons_succ, List.getElem_cons_zero, List.setIfInBounds_toArray, List.set_cons_zero, List.set_cons_succ]
  refine wpAnyH_take (i := 14) (v := .int .i64 k) rfl (by kernel_rfl) (by kernel_rfl) (by kernel_rfl) (fun _ _ _ h => h) (Or.inl ⟨by rfl, fun W hW => by clear hW; go_simp⟩) H3.out ?_
  try simp only [Act.put, List.getElem_toArray, List.getElem_cons_succ, List.getElem_cons_zero, List.setIfInBounds_toArray, List.set_cons_zero, List.set_cons_succ]
  refine wpAnyH_done (by kernel_rfl) ?_ _
  go_wp2
  exact bodyPost_ret (results_msg Try.results38 _ _ b6 rfl m (h7.at2 0 rfl)) rfl ⟨rfl, h7.tail.tail⟩
set_option maxHeartbeats 2000000 in
theorem message_first (h : NX w W g q u n R ps cc L) (a b d p : Nat) (ha : a < 3) (hb : b < n) (hd : d < n) (hp : ps[idx n a b d]? = some p) {m : Msg} {k : Int} {xs' : List Msg}
    (FF : ∀ W X, QQ w W p R (cc (idx n a b d)) X → Calls Try.prog 16 #[.pointer (some ⟨p, 0, none⟩)] W fun e W' => e = .returned (.tuple #[.agg m.arr, .int .i64 k]) ∧ QQ w W' p R xs' X) (HX : cc (idx n a b d) = [] → xs' = []) :
    Calls Try.prog 38 #[.pointer (some ⟨g, 0, none⟩), .agg #[.int .i64 (a : Int), .int .i64 (b : Int), .int .i64 (d : Int)], .func (.func 16) #[] #[]] W fun e W' => e = .returned (.tuple #[.agg m.arr, .int .i64 k]) ∧ NX w W' g q u n R ps (upd cc (idx n a b d) xs') L := by
  have n16 := h.n16
  have HS : Hid (∀ W x y, NX w W g q u n R ps cc (x :: y :: L) → Calls Try.prog 39 #[.pointer (some ⟨g, 0, none⟩), .agg #[.int .i64 (a : Int), .int .i64 (b : Int), .int .i64 (d : Int)]] W fun e W' => e = .returned (.bool true) ∧ NX w W' g q u n R ps cc (x :: y :: L)) := fun W x y h => by
    have := nx_has h (a : Int) (b : Int) (d : Int)
    rwa [has_yes ha hb hd] at this
  have IX : Hid (∀ W {L : Blks}, NX w W g q u n R ps cc L → Calls Try.prog 40 #[.pointer (some ⟨g, 0, none⟩), .agg #[.int .i64 (a : Int), .int .i64 (b : Int), .int .i64 (d : Int)]] W fun e W' => e = .returned (.int .i64 (idx n a b d : Nat)) ∧ Below W.heap.size W W') := fun W L h => index_any g n a b d ha hb hd n16 W h.c0 h.glt
  have hIK := idx_lt ha hb hd
  have hK5 := lks_le n16
  replace HX := Lib.hid HX
  have FF := Lib.hid FF
  generalize hI : idx n a b d = I at *
  generalize hK : lks n = KK at *
  have HI := Lib.hid hp
  have HK := Lib.hid hK
  clear ha hb hd hp hI n16 hK
  go_enter Try.func38, Try.ntmps38
  go_wp2_with (first
    | (refine wpList_box_nx h 51 _ rfl rfl #[.int .i64 (a : Int), .int .i64 (b : Int), .int .i64 (d : Int)] rfl ?_; clear h; intro W1 h1; generalize W.heap.size = b4 at *)
    | (have _ := h1; refine wpList_alloc_nx h1 31 rfl rfl _ zmsg.arr zero31 rfl ?_; clear h1; intro W2 h2; generalize W1.heap.size = b6 at *; have d0 := h2.cell 1 rfl 0 (.int .i64 (a : Int)) rfl; have d1 := h2.cell 1 rfl 1 (.int .i64 (b : Int)) rfl; have d2 := h2.cell 1 rfl 2 (.int .i64 (d : Int)) rfl)
    | (have _ := h2; go_at_call 39; refine (HS.out _ _ _ h2).mono ?_; clear h2 d0 d1 d2; rintro e W3 ⟨rfl, h3⟩))
  replace h3 := h3.drewN 1
  have h5 : NX w W3.drew g q u n R ps cc _ := h3
  clear h3
  have H0 := Lib.hid (show At W3.drew g 85 (narr n q u KK) ∧ W3.drew.cell? ⟨q, I, none⟩ = some (.pointer (some ⟨p, 0, none⟩)) ∧ At W3.drew b4 51 #[.int .i64 (a : Int), .int .i64 (b : Int), .int .i64 (d : Int)] from ⟨HK.out ▸ h5.net, h5.cp I p HI.out, h5.at2 1 rfl⟩)
  refine wp_region_held_drew (S := fun W => At W g 85 (narr n q u KK) ∧ W.cell? ⟨q, I, none⟩ = some (.pointer (some ⟨p, 0, none⟩)) ∧ At W b4 51 #[.int .i64 (a : Int), .int .i64 (b : Int), .int .i64 (d : Int)]) (by kernel_rfl) H0.out (fun _ => ?_)
  generalize W3.drew = V0 at *
  refine wpAnyH_take (i := 0) (v := .func (.func 16) #[] #[]) rfl (by kernel_rfl) (by kernel_rfl) (by kernel_rfl) (fun _ _ _ h => h) (Or.inl ⟨by rfl, fun W hW => by clear hW; go_simp⟩) H0.out ?_
  try simp only [Act.put, List.getElem_toArray, List.getElem_cons_succ, List.getElem_cons_zero, List.setIfInBounds_toArray, List.set_cons_zero, List.set_cons_succ]
  refine wpAnyH_take (i := 1) (v := .pointer (some ⟨g, 0, none⟩)) rfl (by kernel_rfl) (by kernel_rfl) (by kernel_rfl) (fun _ _ _ h => h) (Or.inl ⟨by rfl, fun W hW => by clear hW; go_simp⟩) H0.out ?_
  try simp only [Act.put, List.getElem_toArray, List.getElem_cons_succ, List.getElem_cons_zero, List.setIfInBounds_toArray, List.set_cons_zero, List.set_cons_succ]
  refine wpAnyH_take (i := 2) (v := .pointer (some ⟨g, 0, none⟩)) rfl (by kernel_rfl) (by kernel_rfl) (by kernel_rfl) (fun _ _ _ h => h) (Or.inl ⟨by rfl, fun W hW => by clear hW; go_simp⟩) H0.out ?_
  try simp only [Act.put, List.getElem_toArray, List.getElem_cons_succ, List.getElem_cons_zero, List.setIfInBounds_toArray, List.set_cons_zero, List.set_cons_succ]
  refine wpAnyH_take (i := 3) (v := .pointer (some ⟨g, 1, none⟩)) rfl (by kernel_rfl) (by kernel_rfl) (by kernel_rfl) (fun _ _ _ h => h) (Or.inl ⟨by rfl, fun W hW => by clear hW; go_simp⟩) H0.out ?_
  try simp only [Act.put, List.getElem_toArray, List.getElem_cons_succ, List.getElem_cons_zero, List.setIfInBounds_toArray, List.set_cons_zero, List.set_cons_succ]
  refine wpAnyH_take (i := 4) (v := .slice (some ⟨q, 0, none⟩) KK KK) rfl (by kernel_rfl) (by kernel_rfl) (by kernel_rfl) (fun _ _ _ h => h) (Or.inl ⟨by rfl, fun W hW => by have hc := (show W.cell? ⟨g, 1, none⟩ = some (.slice (some ⟨q, 0, none⟩) KK KK) from (hW.1.cell 1).trans (narr1 _ _ _ _)); clear hW; go_simp⟩) H0.out ?_
  try simp only [Act.put, List.getElem_toArray, List.getElem_cons_succ, List.getElem_cons_zero, List.setIfInBounds_toArray, List.set_cons_zero, List.set_cons_succ]
  refine wpAnyH_take (i := 5) (v := .pointer (some ⟨g, 0, none⟩)) rfl (by kernel_rfl) (by kernel_rfl) (by kernel_rfl) (fun _ _ _ h => h) (Or.inl ⟨by rfl, fun W hW => by clear hW; go_simp⟩) H0.out ?_
  try simp only [Act.put, List.getElem_toArray, List.getElem_cons_succ, List.getElem_cons_zero, List.setIfInBounds_toArray, List.set_cons_zero, List.set_cons_succ]
  refine wpAnyH_take (i := 6) (v := .agg #[.int .i64 (a : Int), .int .i64 (b : Int), .int .i64 (d : Int)]) rfl (by kernel_rfl) (by kernel_rfl) (by kernel_rfl) (fun _ _ _ h => h) (yields_at 51 _ _ rfl (by rfl) rfl Try.underlying51 rfl sz51 (fun W hW => hW.2.2)) H0.out ?_
  try simp only [Act.put, List.getElem_toArray, List.getElem_cons_succ, List.getElem_cons_zero, List.setIfInBounds_toArray, List.set_cons_zero, List.set_cons_succ]
  refine wpAnyH_ready (rs := [7]) (by kernel_rfl) (by simp) ?_
  refine AllReadyH.cons rfl (fun K hK => ?_) AllReadyH.nil
  go_simp
  go_at_call 40
  refine (IX.out V0 h5).mono ?_
  rintro e V1 ⟨rfl, k1⟩
  replace h5 := h5.call k1
  have H1_ := Lib.hid (show At V1 g 85 (narr n q u KK) ∧ V1.cell? ⟨q, I, none⟩ = some (.pointer (some ⟨p, 0, none⟩)) ∧ At V1 b4 51 #[.int .i64 (a : Int), .int .i64 (b : Int), .int .i64 (d : Int)] from ⟨HK.out ▸ h5.net, h5.cp I p HI.out, h5.at2 1 rfl⟩)
  clear k1
  refine hK.out _ _ H1_.out (fun _ => ?_)
  clear hK K
  try simp only [Act.put, List.getElem_toArray, List.getElem_cons_succ, List.getElem_cons_zero, List.setIfInBounds_toArray, List.set_cons_zero, List.set_cons_succ]
  refine wpAnyH_take (i := 8) (v := .pointer (some ⟨q, I, none⟩)) rfl (by kernel_rfl) (by kernel_rfl) (by kernel_rfl) (fun _ _ _ h => h) (Or.inl ⟨by rfl, fun W hW => by clear hW; go_simp⟩) H1_.out ?_
  try simp only [Act.put, List.getElem_toArray, List.getElem_cons_succ, List.getElem_cons_zero, List.setIfInBounds_toArray, List.set_cons_zero, List.set_cons_succ]
  refine wpAnyH_take (i := 9) (v := .pointer (some ⟨p, 0, none⟩)) rfl (by kernel_rfl) (by kernel_rfl) (by kernel_rfl) (fun _ _ _ h => h) (Or.inl ⟨by rfl, fun W hW => by have hc := hW.2.1; clear hW; go_simp⟩) H1_.out ?_
  try simp only [Act.put, List.getElem_toArray, List.getElem_cons_succ, List.getElem_cons_zero, List.setIfInBounds_toArray, List.set_cons_zero, List.set_cons_succ]
  refine wpAnyH_ready (rs := [10]) (by kernel_rfl) (by simp) ?_
  refine AllReadyH.cons rfl (fun K hK => ?_) AllReadyH.nil
  go_simp
  obtain ⟨X, hq, up⟩ := h5.queue I p HI.out
  go_at_call 16
  refine (FF.out V1 _ hq).mono ?_
  rintro e V2 ⟨rfl, k2⟩
  have h6 := up V2 xs' [] HX.out k2
  replace h6 : NX w V2 g q u n R ps _ _ := h6
  have H2_ := Lib.hid (show At V2 g 85 (narr n q u KK) ∧ V2.cell? ⟨q, I, none⟩ = some (.pointer (some ⟨p, 0, none⟩)) ∧ At V2 b4 51 #[.int .i64 (a : Int), .int .i64 (b : Int), .int .i64 (d : Int)] from ⟨HK.out ▸ h6.net, h6.cp I p HI.out, h6.at2 1 rfl⟩)
  refine hK.out _ _ H2_.out (fun _ => ?_)
  clear hK K
  try simp only [Act.put, List.getElem_toArray, List.getElem_cons_succ, List.getElem_cons_zero, List.setIfInBounds_toArray, List.set_cons_zero, List.set_cons_succ]
  refine wpAnyH_take (i := 11) (v := .agg m.arr) rfl (by kernel_rfl) (by kernel_rfl) (by kernel_rfl) (fun _ _ _ h => h) (Or.inl ⟨by rfl, fun W hW => by clear hW; go_simp⟩) H2_.out ?_
  try simp only [Act.put, List.getElem_toArray, List.getElem_cons_succ, List.getElem_cons_zero, List.setIfInBounds_toArray, List.set_cons_zero, List.set_cons_succ]
  refine wpAnyH_take (i := 12) (v := .int .i64 k) rfl (by kernel_rfl) (by kernel_rfl) (by kernel_rfl) (fun _ _ _ h => h) (Or.inl ⟨by rfl, fun W hW => by clear hW; go_simp⟩) H2_.out ?_
  try simp only [Act.put, List.getElem_toArray, List.getElem_cons_succ, List.getElem_cons_zero, List.setIfInBounds_toArray, List.set_cons_zero, List.set_cons_succ]
  refine wpAnyH_ready (rs := [13]) (by kernel_rfl) (by simp) ?_
  refine AllReadyH.cons rfl (fun K hK => ?_) AllReadyH.nil
  rw [if_pos (by rfl)]
  refine wp_store_nx h6 0 rfl 31 (.tmp 6) (.tmp 24) rfl rfl rfl (by rw [Msg.arr_size]; exact sz31) (by simp only [Msg.arr_size]) (Msg.arr_one _) ?_
  intro V3 h7
  clear h6
  have H3 := Lib.hid (show At V3 g 85 (narr n q u KK) ∧ V3.cell? ⟨q, I, none⟩ = some (.pointer (some ⟨p, 0, none⟩)) ∧ At V3 b4 51 #[.int .i64 (a : Int), .int .i64 (b : Int), .int .i64 (d : Int)] from ⟨HK.out ▸ h7.net, h7.cp I p HI.out, h7.at2 1 rfl⟩)
  refine hK.out _ _ H3.out (fun _ => ?_)
  clear hK K
  try simp only [Act.put, List.getElem_toArray, List.getElem_cons_succ, List.getElem_cons_zero, List.setIfInBounds_toArray, List.set_cons_zero, List.set_cons_succ]
  refine wpAnyH_take (i := 14) (v := .int .i64 k) rfl (by kernel_rfl) (by kernel_rfl) (by kernel_rfl) (fun _ _ _ h => h) (Or.inl ⟨by rfl, fun W hW => by clear hW; go_simp⟩) H3.out ?_
  try simp only [Act.put, List.getElem_toArray, List.getElem_cons_succ, List.getElem_cons_zero, List.setIfInBounds_toArray, List.set_cons_zero, List.set_cons_succ]
  refine wpAnyH_done (by kernel_rfl) ?_ _
  go_wp2
  exact bodyPost_ret (results_msg Try.results38 _ _ b6 rfl m (h7.at2 0 rfl)) rfl ⟨rfl, h7.tail.tail⟩
set_option maxHeartbeats 2000000 in
theorem ask_room (h : NX w W g q u n R ps cc L) (a b d p : Nat) (ha : a < 3) (hb : b < n) (hd : d < n) (hp : ps[idx n a b d]? = some p) {k : Int} {xs' : List Msg}
    (FF : ∀ W X, QQ w W p R (cc (idx n a b d)) X → Calls Try.prog 18 #[.pointer (some ⟨p, 0, none⟩)] W fun e W' => e = .returned (.int .i64 k) ∧ QQ w W' p R xs' X) (HX : cc (idx n a b d) = [] → xs' = []) :
    Calls Try.prog 42 #[.pointer (some ⟨g, 0, none⟩), .agg #[.int .i64 (a : Int), .int .i64 (b : Int), .int .i64 (d : Int)], .func (.func 18) #[] #[]] W fun e W' => e = .returned (.int .i64 k) ∧ NX w W' g q u n R ps (upd cc (idx n a b d) xs') L := by
  have n16 := h.n16
  have HS : Hid (∀ W x, NX w W g q u n R ps cc (x :: L) → Calls Try.prog 39 #[.pointer (some ⟨g, 0, none⟩), .agg #[.int .i64 (a : Int), .int .i64 (b : Int), .int .i64 (d : Int)]] W fun e W' => e = .returned (.bool true) ∧ NX w W' g q u n R ps cc (x :: L)) := fun W x h => by
    have := nx_has h (a : Int) (b : Int) (d : Int)
    rwa [has_yes ha hb hd] at this
  have IX : Hid (∀ W {L : Blks}, NX w W g q u n R ps cc L → Calls Try.prog 40 #[.pointer (some ⟨g, 0, none⟩), .agg #[.int .i64 (a : Int), .int .i64 (b : Int), .int .i64 (d : Int)]] W fun e W' => e = .returned (.int .i64 (idx n a b d : Nat)) ∧ Below W.heap.size W W') := fun W L h => index_any g n a b d ha hb hd n16 W h.c0 h.glt
  have hIK := idx_lt ha hb hd
  have hK5 := lks_le n16
  replace HX := Lib.hid HX
  have FF := Lib.hid FF
  generalize hI : idx n a b d = I at *
  generalize hK : lks n = KK at *
  have HI := Lib.hid hp
  have HK := Lib.hid hK
  clear ha hb hd hp hI n16 hK
  go_enter Try.func42, Try.ntmps42
  go_wp2_with (first
    | (refine wpList_box_nx h 51 _ rfl rfl #[.int .i64 (a : Int), .int .i64 (b : Int), .int .i64 (d : Int)] rfl ?_; clear h; intro W1 h1; generalize W.heap.size = b4 at *; have d0 := h1.cell 0 rfl 0 (.int .i64 (a : Int)) rfl; have d1 := h1.cell 0 rfl 1 (.int .i64 (b : Int)) rfl; have d2 := h1.cell 0 rfl 2 (.int .i64 (d : Int)) rfl)
    | (have _ := h1; go_at_call 39; refine (HS.out _ _ h1).mono ?_; clear h1 d0 d1 d2; rintro e W3 ⟨rfl, h3⟩))
  replace h3 := h3.drewN 1
  have h5 : NX w W3.drew g q u n R ps cc _ := h3
  clear h3
  have H0 := Lib.hid (show At W3.drew g 85 (narr n q u KK) ∧ W3.drew.cell? ⟨q, I, none⟩ = some (.pointer (some ⟨p, 0, none⟩)) ∧ At W3.drew b4 51 #[.int .i64 (a : Int), .int .i64 (b : Int), .int .i64 (d : Int)] from ⟨HK.out ▸ h5.net, h5.cp I p HI.out, h5.at2 0 rfl⟩)
  refine wp_region_held_drew (S := fun W => At W g 85 (narr n q u KK) ∧ W.cell? ⟨q, I, none⟩ = some (.pointer (some ⟨p, 0, none⟩)) ∧ At W b4 51 #[.int .i64 (a : Int), .int .i64 (b : Int), .int .i64 (d : Int)]) (by kernel_rfl) H0.out (fun _ => ?_)
  generalize W3.drew = V0 at *
  refine wpAnyH_take (i := 0) (v := .func (.func 18) #[] #[]) rfl (by kernel_rfl) (by kernel_rfl) (by kernel_rfl) (fun _ _ _ h => h) (Or.inl ⟨by rfl, fun W hW => by clear hW; go_simp⟩) H0.out ?_
  try simp only [Act.put, List.getElem_toArray, List.getElem_cons_succ, List.getElem_cons_zero, List.setIfInBounds_toArray, List.set_cons_zero, List.set_cons_succ]
  refine wpAnyH_take (i := 1) (v := .pointer (some ⟨g, 0, none⟩)) rfl (by kernel_rfl) (by kernel_rfl) (by kernel_rfl) (fun _ _ _ h => h) (Or.inl ⟨by rfl, fun W hW => by clear hW; go_simp⟩) H0.out ?_
  try simp only [Act.put, List.getElem_toArray, List.getElem_cons_succ, List.getElem_cons_zero, List.setIfInBounds_toArray, List.set_cons_zero, List.set_cons_succ]
  refine wpAnyH_take (i := 2) (v := .pointer (some ⟨g, 0, none⟩)) rfl (by kernel_rfl) (by kernel_rfl) (by kernel_rfl) (fun _ _ _ h => h) (Or.inl ⟨by rfl, fun W hW => by clear hW; go_simp⟩) H0.out ?_
  try simp only [Act.put, List.getElem_toArray, List.getElem_cons_succ, List.getElem_cons_zero, List.setIfInBounds_toArray, List.set_cons_zero, List.set_cons_succ]
  refine wpAnyH_take (i := 3) (v := .pointer (some ⟨g, 1, none⟩)) rfl (by kernel_rfl) (by kernel_rfl) (by kernel_rfl) (fun _ _ _ h => h) (Or.inl ⟨by rfl, fun W hW => by clear hW; go_simp⟩) H0.out ?_
  try simp only [Act.put, List.getElem_toArray, List.getElem_cons_succ, List.getElem_cons_zero, List.setIfInBounds_toArray, List.set_cons_zero, List.set_cons_succ]
  refine wpAnyH_take (i := 4) (v := .slice (some ⟨q, 0, none⟩) KK KK) rfl (by kernel_rfl) (by kernel_rfl) (by kernel_rfl) (fun _ _ _ h => h) (Or.inl ⟨by rfl, fun W hW => by have hc := (show W.cell? ⟨g, 1, none⟩ = some (.slice (some ⟨q, 0, none⟩) KK KK) from (hW.1.cell 1).trans (narr1 _ _ _ _)); clear hW; go_simp⟩) H0.out ?_
  try simp only [Act.put, List.getElem_toArray, List.getElem_cons_succ, List.getElem_cons_zero, List.setIfInBounds_toArray, List.set_cons_zero, List.set_cons_succ]
  refine wpAnyH_take (i := 5) (v := .pointer (some ⟨g, 0, none⟩)) rfl (by kernel_rfl) (by kernel_rfl) (by kernel_rfl) (fun _ _ _ h => h) (Or.inl ⟨by rfl, fun W hW => by clear hW; go_simp⟩) H0.out ?_
  try simp only [Act.put, List.getElem_toArray, List.getElem_cons_succ, List.getElem_cons_zero, List.setIfInBounds_toArray, List.set_cons_zero, List.set_cons_succ]
  refine wpAnyH_take (i := 6) (v := .agg #[.int .i64 (a : Int), .int .i64 (b : Int), .int .i64 (d : Int)]) rfl (by kernel_rfl) (by kernel_rfl) (by kernel_rfl) (fun _ _ _ h => h) (yields_at 51 _ _ rfl (by rfl) rfl Try.underlying51 rfl sz51 (fun W hW => hW.2.2)) H0.out ?_
  try simp only [Act.put, List.getElem_toArray, List.getElem_cons_succ, List.getElem_cons_zero, List.setIfInBounds_toArray, List.set_cons_zero, List.set_cons_succ]
  refine wpAnyH_ready (rs := [7]) (by kernel_rfl) (by simp) ?_
  refine AllReadyH.cons rfl (fun K hK => ?_) AllReadyH.nil
  go_simp
  go_at_call 40
  refine (IX.out V0 h5).mono ?_
  rintro e V1 ⟨rfl, k1⟩
  replace h5 := h5.call k1
  have H1_ := Lib.hid (show At V1 g 85 (narr n q u KK) ∧ V1.cell? ⟨q, I, none⟩ = some (.pointer (some ⟨p, 0, none⟩)) ∧ At V1 b4 51 #[.int .i64 (a : Int), .int .i64 (b : Int), .int .i64 (d : Int)] from ⟨HK.out ▸ h5.net, h5.cp I p HI.out, h5.at2 0 rfl⟩)
  clear k1
  refine hK.out _ _ H1_.out (fun _ => ?_)
  clear hK K
  try simp only [Act.put, List.getElem_toArray, List.getElem_cons_succ, List.getElem_cons_zero, List.setIfInBounds_toArray, List.set_cons_zero, List.set_cons_succ]
  refine wpAnyH_take (i := 8) (v := .pointer (some ⟨q, I, none⟩)) rfl (by kernel_rfl) (by kernel_rfl) (by kernel_rfl) (fun _ _ _ h => h) (Or.inl ⟨by rfl, fun W hW => by clear hW; go_simp⟩) H1_.out ?_
  try simp only [Act.put, List.getElem_toArray, List.getElem_cons_succ, List.getElem_cons_zero, List.setIfInBounds_toArray, List.set_cons_zero, List.set_cons_succ]
  refine wpAnyH_take (i := 9) (v := .pointer (some ⟨p, 0, none⟩)) rfl (by kernel_rfl) (by kernel_rfl) (by kernel_rfl) (fun _ _ _ h => h) (Or.inl ⟨by rfl, fun W hW => by have hc := hW.2.1; clear hW; go_simp⟩) H1_.out ?_
  try simp only [Act.put, List.getElem_toArray, List.getElem_cons_succ, List.getElem_cons_zero, List.setIfInBounds_toArray, List.set_cons_zero, List.set_cons_succ]
  refine wpAnyH_ready (rs := [10]) (by kernel_rfl) (by simp) ?_
  refine AllReadyH.cons rfl (fun K hK => ?_) AllReadyH.nil
  go_simp
  obtain ⟨X, hq, up⟩ := h5.queue I p HI.out
  go_at_call 18
  refine (FF.out V1 _ hq).mono ?_
  rintro e V2 ⟨rfl, k2⟩
  have h6 := up V2 xs' [] HX.out k2
  replace h6 : NX w V2 g q u n R ps _ _ := h6
  have H2_ := Lib.hid (show At V2 g 85 (narr n q u KK) ∧ V2.cell? ⟨q, I, none⟩ = some (.pointer (some ⟨p, 0, none⟩)) ∧ At V2 b4 51 #[.int .i64 (a : Int), .int .i64 (b : Int), .int .i64 (d : Int)] from ⟨HK.out ▸ h6.net, h6.cp I p HI.out, h6.at2 0 rfl⟩)
  refine hK.out _ _ H2_.out (fun _ => ?_)
  clear hK K
  try simp only [Act.put, List.getElem_toArray, List.getElem_cons_succ, List.getElem_cons_zero, List.setIfInBounds_toArray, List.set_cons_zero, List.set_cons_succ]
  refine wpAnyH_take (i := 11) (v := .int .i64 k) rfl (by kernel_rfl) (by kernel_rfl) (by kernel_rfl) (fun _ _ _ h => h) (Or.inl ⟨by rfl, fun W hW => by clear hW; go_simp⟩) H2_.out ?_
  try simp only [Act.put, List.getElem_toArray, List.getElem_cons_succ, List.getElem_cons_zero, List.setIfInBounds_toArray, List.set_cons_zero, List.set_cons_succ]
  refine wpAnyH_done (by kernel_rfl) ?_ _
  go_wp2
  go_ret
  exact ⟨rfl, h6.tail⟩
set_option maxHeartbeats 2000000 in
theorem ask_all (h : NX w W g q u n R ps cc L) (a b d p : Nat) (ha : a < 3) (hb : b < n) (hd : d < n) (hp : ps[idx n a b d]? = some p) {xs' : List Msg}
    (FF : ∀ W X, QQ w W p R (cc (idx n a b d)) X → Calls Try.prog 20 #[.pointer (some ⟨p, 0, none⟩)] W fun e W' => ∃ br, e = .returned (.slice (some ⟨br, 0, none⟩) (cc (idx n a b d)).length (cc (idx n a b d)).length) ∧ QQ w W' p R xs' ((br, C 31 (marr (cc (idx n a b d)))) :: X)) (HX : cc (idx n a b d) = [] → xs' = []) :
    Calls Try.prog 43 #[.pointer (some ⟨g, 0, none⟩), .agg #[.int .i64 (a : Int), .int .i64 (b : Int), .int .i64 (d : Int)], .func (.func 20) #[] #[]] W fun e W' => ∃ br, e = .returned (.slice (some ⟨br, 0, none⟩) (cc (idx n a b d)).length (cc (idx n a b d)).length) ∧ NX w W' g q u n R ps (upd cc (idx n a b d) xs') ((br, C 31 (marr (cc (idx n a b d)))) :: L) := by
  have n16 := h.n16
  have HS : Hid (∀ W x, NX w W g q u n R ps cc (x :: L) → Calls Try.prog 39 #[.pointer (some ⟨g, 0, none⟩), .agg #[.int .i64 (a : Int), .int .i64 (b : Int), .int .i64 (d : Int)]] W fun e W' => e = .returned (.bool true) ∧ NX w W' g q u n R ps cc (x :: L)) := fun W x h => by
    have := nx_has h (a : Int) (b : Int) (d : Int)
    rwa [has_yes ha hb hd] at this
  have IX : Hid (∀ W {L : Blks}, NX w W g q u n R ps cc L → Calls Try.prog 40 #[.pointer (some ⟨g, 0, none⟩), .agg #[.int .i64 (a : Int), .int .i64 (b : Int), .int .i64 (d : Int)]] W fun e W' => e = .returned (.int .i64 (idx n a b d : Nat)) ∧ Below W.heap.size W W') := fun W L h => index_any g n a b d ha hb hd n16 W h.c0 h.glt
  have hIK := idx_lt ha hb hd
  have hK5 := lks_le n16
  replace HX := Lib.hid HX
  have FF := Lib.hid FF
  generalize hI : idx n a b d = I at *
  generalize hK : lks n = KK at *
  have HI := Lib.hid hp
  have HK := Lib.hid hK
  clear ha hb hd hp hI n16 hK
  go_enter Try.func43, Try.ntmps43
  go_wp2_with (first
    | (refine wpList_box_nx h 51 _ rfl rfl #[.int .i64 (a : Int), .int .i64 (b : Int), .int .i64 (d : Int)] rfl ?_; clear h; intro W1 h1; generalize W.heap.size = b4 at *; have d0 := h1.cell 0 rfl 0 (.int .i64 (a : Int)) rfl; have d1 := h1.cell 0 rfl 1 (.int .i64 (b : Int)) rfl; have d2 := h1.cell 0 rfl 2 (.int .i64 (d : Int)) rfl)
    | (have _ := h1; go_at_call 39; refine (HS.out _ _ h1).mono ?_; clear h1 d0 d1 d2; rintro e W3 ⟨rfl, h3⟩))
  replace h3 := h3.drewN 1
  have h5 : NX w W3.drew g q u n R ps cc _ := h3
  clear h3
  have H0 := Lib.hid (show At W3.drew g 85 (narr n q u KK) ∧ W3.drew.cell? ⟨q, I, none⟩ = some (.pointer (some ⟨p, 0, none⟩)) ∧ At W3.drew b4 51 #[.int .i64 (a : Int), .int .i64 (b : Int), .int .i64 (d : Int)] from ⟨HK.out ▸ h5.net, h5.cp I p HI.out, h5.at2 0 rfl⟩)
  refine wp_region_held_drew (S := fun W => At W g 85 (narr n q u KK) ∧ W.cell? ⟨q, I, none⟩ = some (.pointer (some ⟨p, 0, none⟩)) ∧ At W b4 51 #[.int .i64 (a : Int), .int .i64 (b : Int), .int .i64 (d : Int)]) (by kernel_rfl) H0.out (fun _ => ?_)
  generalize W3.drew = V0 at *
  refine wpAnyH_take (i := 0) (v := .func (.func 20) #[] #[]) rfl (by kernel_rfl) (by kernel_rfl) (by kernel_rfl) (fun _ _ _ h => h) (Or.inl ⟨by rfl, fun W hW => by clear hW; go_simp⟩) H0.out ?_
  try simp only [Act.put, List.getElem_toArray, List.getElem_cons_succ, List.getElem_cons_zero, List.setIfInBounds_toArray, List.set_cons_zero, List.set_cons_succ]
  refine wpAnyH_take (i := 1) (v := .pointer (some ⟨g, 0, none⟩)) rfl (by kernel_rfl) (by kernel_rfl) (by kernel_rfl) (fun _ _ _ h => h) (Or.inl ⟨by rfl, fun W hW => by clear hW; go_simp⟩) H0.out ?_
  try simp only [Act.put, List.getElem_toArray, List.getElem_cons_succ, List.getElem_cons_zero, List.setIfInBounds_toArray, List.set_cons_zero, List.set_cons_succ]
  refine wpAnyH_take (i := 2) (v := .pointer (some ⟨g, 0, none⟩)) rfl (by kernel_rfl) (by kernel_rfl) (by kernel_rfl) (fun _ _ _ h => h) (Or.inl ⟨by rfl, fun W hW => by clear hW; go_simp⟩) H0.out ?_
  try simp only [Act.put, List.getElem_toArray, List.getElem_cons_succ, List.getElem_cons_zero, List.setIfInBounds_toArray, List.set_cons_zero, List.set_cons_succ]
  refine wpAnyH_take (i := 3) (v := .pointer (some ⟨g, 1, none⟩)) rfl (by kernel_rfl) (by kernel_rfl) (by kernel_rfl) (fun _ _ _ h => h) (Or.inl ⟨by rfl, fun W hW => by clear hW; go_simp⟩) H0.out ?_
  try simp only [Act.put, List.getElem_toArray, List.getElem_cons_succ, List.getElem_cons_zero, List.setIfInBounds_toArray, List.set_cons_zero, List.set_cons_succ]
  refine wpAnyH_take (i := 4) (v := .slice (some ⟨q, 0, none⟩) KK KK) rfl (by kernel_rfl) (by kernel_rfl) (by kernel_rfl) (fun _ _ _ h => h) (Or.inl ⟨by rfl, fun W hW => by have hc := (show W.cell? ⟨g, 1, none⟩ = some (.slice (some ⟨q, 0, none⟩) KK KK) from (hW.1.cell 1).trans (narr1 _ _ _ _)); clear hW; go_simp⟩) H0.out ?_
  try simp only [Act.put, List.getElem_toArray, List.getElem_cons_succ, List.getElem_cons_zero, List.setIfInBounds_toArray, List.set_cons_zero, List.set_cons_succ]
  refine wpAnyH_take (i := 5) (v := .pointer (some ⟨g, 0, none⟩)) rfl (by kernel_rfl) (by kernel_rfl) (by kernel_rfl) (fun _ _ _ h => h) (Or.inl ⟨by rfl, fun W hW => by clear hW; go_simp⟩) H0.out ?_
  try simp only [Act.put, List.getElem_toArray, List.getElem_cons_succ, List.getElem_cons_zero, List.setIfInBounds_toArray, List.set_cons_zero, List.set_cons_succ]
  refine wpAnyH_take (i := 6) (v := .agg #[.int .i64 (a : Int), .int .i64 (b : Int), .int .i64 (d : Int)]) rfl (by kernel_rfl) (by kernel_rfl) (by kernel_rfl) (fun _ _ _ h => h) (yields_at 51 _ _ rfl (by rfl) rfl Try.underlying51 rfl sz51 (fun W hW => hW.2.2)) H0.out ?_
  try simp only [Act.put, List.getElem_toArray, List.getElem_cons_succ, List.getElem_cons_zero, List.setIfInBounds_toArray, List.set_cons_zero, List.set_cons_succ]
  refine wpAnyH_ready (rs := [7]) (by kernel_rfl) (by simp) ?_
  refine AllReadyH.cons rfl (fun K hK => ?_) AllReadyH.nil
  go_simp
  go_at_call 40
  refine (IX.out V0 h5).mono ?_
  rintro e V1 ⟨rfl, k1⟩
  replace h5 := h5.call k1
  have H1_ := Lib.hid (show At V1 g 85 (narr n q u KK) ∧ V1.cell? ⟨q, I, none⟩ = some (.pointer (some ⟨p, 0, none⟩)) ∧ At V1 b4 51 #[.int .i64 (a : Int), .int .i64 (b : Int), .int .i64 (d : Int)] from ⟨HK.out ▸ h5.net, h5.cp I p HI.out, h5.at2 0 rfl⟩)
  clear k1
  refine hK.out _ _ H1_.out (fun _ => ?_)
  clear hK K
  try simp only [Act.put, List.getElem_toArray, List.getElem_cons_succ, List.getElem_cons_zero, List.setIfInBounds_toArray, List.set_cons_zero, List.set_cons_succ]
  refine wpAnyH_take (i := 8) (v := .pointer (some ⟨q, I, none⟩)) rfl (by kernel_rfl) (by kernel_rfl) (by kernel_rfl) (fun _ _ _ h => h) (Or.inl ⟨by rfl, fun W hW => by clear hW; go_simp⟩) H1_.out ?_
  try simp only [Act.put, List.getElem_toArray, List.getElem_cons_succ, List.getElem_cons_zero, List.setIfInBounds_toArray, List.set_cons_zero, List.set_cons_succ]
  refine wpAnyH_take (i := 9) (v := .pointer (some ⟨p, 0, none⟩)) rfl (by kernel_rfl) (by kernel_rfl) (by kernel_rfl) (fun _ _ _ h => h) (Or.inl ⟨by rfl, fun W hW => by have hc := hW.2.1; clear hW; go_simp⟩) H1_.out ?_
  try simp only [Act.put, List.getElem_toArray, List.getElem_cons_succ, List.getElem_cons_zero, List.setIfInBounds_toArray, List.set_cons_zero, List.set_cons_succ]
  refine wpAnyH_ready (rs := [10]) (by kernel_rfl) (by simp) ?_
  refine AllReadyH.cons rfl (fun K hK => ?_) AllReadyH.nil
  go_simp
  obtain ⟨X, hq, up⟩ := h5.queue I p HI.out
  go_at_call 20
  refine (FF.out V1 _ hq).mono ?_
  rintro e V2 ⟨br, rfl, k2⟩
  have h6 := up V2 xs' [_] HX.out k2
  replace h6 : NX w V2 g q u n R ps _ _ := h6
  have H2_ := Lib.hid (show At V2 g 85 (narr n q u KK) ∧ V2.cell? ⟨q, I, none⟩ = some (.pointer (some ⟨p, 0, none⟩)) ∧ At V2 b4 51 #[.int .i64 (a : Int), .int .i64 (b : Int), .int .i64 (d : Int)] from ⟨HK.out ▸ h6.net, h6.cp I p HI.out, h6.at2 1 rfl⟩)
  refine hK.out _ _ H2_.out (fun _ => ?_)
  clear hK K
  try simp only [Act.put, List.getElem_toArray, List.getElem_cons_succ, List.getElem_cons_zero, List.setIfInBounds_toArray, List.set_cons_zero, List.set_cons_succ]
  refine wpAnyH_take (i := 11) (v := .slice (some ⟨br, 0, none⟩) (cc I).length (cc I).length) rfl (by kernel_rfl) (by kernel_rfl) (by kernel_rfl) (fun _ _ _ h => h) (Or.inl ⟨by rfl, fun W hW => by clear hW; go_simp⟩) H2_.out ?_
  try simp only [Act.put, List.getElem_toArray, List.getElem_cons_succ, List.getElem_cons_zero, List.setIfInBounds_toArray, List.set_cons_zero, List.set_cons_succ]
  refine wpAnyH_done (by kernel_rfl) ?_ _
  go_wp2
  go_ret
  exact ⟨br, rfl, h6.sub ((List.sublist_cons_self _ _).cons_cons _)⟩
end
end Go.Proofs.Ytacjdeppigdbjaa
