/- The document's net: its Take. No statement is proved here. -/
import Derived.Test.YtacjdeppigdbjaaRNet5
import Derived.Test.YtacjdeppigdbjaaSlc
namespace Go.Proofs.Ytacjdeppigdbjaa
open Go.RowKit
set_option linter.unusedVariables false
set_option linter.unusedSimpArgs false
theorem wp_build0_st {α : Type} [E : Elt α] {w W : World} {L : Blks} {o : Oper} {a : Act} {K : Act → World → Prop} {Q : Exit → Act → World → Prop} (h : St w W L) (ho : o.op = .buildSlice E.sl 0 #[])
    (k : ∀ W' v M, v = .slice (some ⟨W.heap.size, 0, none⟩) 0 0 → RL v ([] : List α) M → St w W' (M ++ L) → Below W.heap.size W W' → K (a.put o.dst v) W') : o.wp Try.prog a W K Q := by
  have hrun := run_build0 (α := α) W
  unfold Oper.wp execOp
  simp only [ho, Sem.run_bind, List.map_toArray, List.map_nil, hrun, Result.andThen_ok]
  refine k _ _ [(W.heap.size, C E.ty #[])] rfl (.inr ⟨W.heap.size, 0, #[], rfl, rfl, Nat.le_refl _, by unfold maxLen; omega, by simp, by simp [ecells]⟩) (h.push E.ty _).front ((Below.refl _ _).alloc (Nat.le_refl _) _)
theorem row_head {α : Type} [E : Elt α] {v : Value} {x : α} {ys : List α} {M : Blks} {w : World} (h : RL v (x :: ys) M) {W : World} {L : Blks} (hs : St w W (M ++ L)) :
    ∃ b o c, v = .slice (some ⟨b, o, none⟩) (ys.length + 1) c ∧ ∀ V X, St w V (M ++ X) → V.rangeAt b o (E.cs x) := by
  obtain ⟨A, c, rfl, hA⟩ := h.form
  obtain ⟨b, o, rfl, _, _⟩ := (h.row hs rfl).at_ 0 x rfl
  refine ⟨b, o, c, rfl, fun V X hx => ?_⟩
  obtain ⟨b', o', e, _, r⟩ := (h.row hx rfl).at_ 0 x rfl
  injection e with e
  injection e with e1 e2
  subst e1; subst e2
  rw [Nat.zero_mul, Nat.add_zero] at r
  exact r
section
variable {w W : World} {g n R : Nat} {xs : List Sn} {L M : Blks}
theorem RN.perm (h : RN w W g n R xs L) (hp : L.Perm M) : RN w W g n R xs M := by
  obtain ⟨Y, hs', up⟩ := h.lift
  exact up _ _ (hs'.perm (hp.append_left Y))
attribute [local irreducible] Msg.arr bufM marr Sn.arr isS msgsTo numsTo hasO
theorem rall_cons (h : RN w W g n R xs L) (l : Lk) (hlen : xs.length ≤ 1000) {x : Msg} {ms : List Msg} {i : Nat} {is : List Int} (hm : msgsTo l xs xs.length = x :: ms) (hn : numsTo l xs xs.length = (i : Int) :: is) :
    Calls Try.prog 29 #[.pointer (some ⟨g, 0, none⟩), .agg #[.int .i64 l.a, .int .i64 l.b, .int .i64 l.d]] W fun e W' => ∃ b8 o8 c8 b7 o7 c7 M6 M7, e = .returned (.tuple #[.slice (some ⟨b8, o8, none⟩) (ms.length + 1) c8, .slice (some ⟨b7, o7, none⟩) (is.length + 1) c7]) ∧
      (∀ V X, St w V (M6 ++ X) → V.rangeAt b8 o8 x.cs) ∧ (∀ V X, St w V (M7 ++ X) → V.cell? ⟨b7, o7, none⟩ = some (.int .i64 (i : Int))) ∧ RN w W' g n R xs (M6 ++ (M7 ++ L)) := by
  refine (rall_any h l hlen).mono ?_
  rintro e W' ⟨v6, v7, M6, M7, rfl, r6, r7, h5⟩
  rw [hm] at r6
  rw [hn] at r7
  obtain ⟨b8, o8, c8, rfl, k8⟩ := row_head r6 h5.st
  obtain ⟨b7, o7, c7, rfl, k7⟩ := row_head r7 (h5.st.sub (List.sublist_append_right M6 _))
  exact ⟨b8, o8, c8, b7, o7, c7, M6, M7, rfl, k8, fun V X hx => k7 V X hx 0 _ rfl, h5⟩
set_option maxHeartbeats 2000000 in
theorem rtake_no (h : RN w W g n R xs L) (l : Lk) (t : Bool) (ho : hasO n l = false) :
    Calls Try.prog 26 #[.pointer (some ⟨g, 0, none⟩), .agg #[.int .i64 l.a, .int .i64 l.b, .int .i64 l.d], .bool t] W fun e W' => e = .returned (.tuple #[.agg zmsg.arr, .int .i64 2]) ∧ RN w W' g n R xs L := by
  have TH := Lib.hid (fun W L (h : RN w W g n R xs L) => rthere_rn h l)
  rw [ho] at TH
  clear ho
  go_enter Try.func26, Try.ntmps26
  go_wp2_with (first
    | (refine wpList_box_rn h 51 _ rfl rfl #[.int .i64 l.a, .int .i64 l.b, .int .i64 l.d] rfl ?_; clear h; intro W1 h1; generalize W.heap.size = b4 at *)
    | (have _ := h1; refine wpList_alloc_rn h1 31 rfl rfl _ zmsg.arr zero31 rfl ?_; clear h1; intro W2 h2; generalize W1.heap.size = b6 at *)
    | (have _ := h2; refine wpList_loadL (l := l) (b := b4) (off := 0) (box_rangeL (h2.st.get 1 rfl)) (.tmp 4) rfl rfl rfl ?_)
    | (have _ := h2; go_at_call 30; refine (TH.out _ _ h2).mono ?_; clear h2; rintro e W3 ⟨rfl, h3⟩)
    | (have _ := h3; refine wpList_store_rn (arr' := zmsg.arr) h3 0 rfl 31 (.tmp 6) (.tmp 15) rfl rfl rfl (by rw [zarr_lit]; rfl) (by rw [Msg.arr_size]; exact sz31) (by simp only [Msg.arr_size]) (Msg.arr_one _) ?_; clear h3; intro W4 h4)
  )
  exact bodyPost_ret (results_msg Try.results26 _ _ b6 rfl zmsg (h4.st.get 0 rfl)) rfl ⟨rfl, h4.sub ((List.sublist_cons_self _ _).trans (List.sublist_cons_self _ _))⟩
set_option maxHeartbeats 2000000 in
theorem rtake_nil2 (h : RN w W g n R xs L) (l : Lk) (t : Bool) (hlen : xs.length ≤ 1000) (ho : hasO n l = true) (hm : msgsTo l xs xs.length = []) :
    Calls Try.prog 26 #[.pointer (some ⟨g, 0, none⟩), .agg #[.int .i64 l.a, .int .i64 l.b, .int .i64 l.d], .bool t] W fun e W' => e = .returned (.tuple #[.agg zmsg.arr, .int .i64 6]) ∧ RN w W' g n R xs L := by
  have TH := Lib.hid (fun W L (h : RN w W g n R xs L) => rthere_rn h l)
  have AL := Lib.hid (fun W L (h : RN w W g n R xs L) => rall_any h l hlen)
  rw [ho] at TH
  rw [hm] at AL
  clear ho hm hlen
  go_enter Try.func26, Try.ntmps26
  go_wp2_with (first
    | (refine wpList_box_rn h 51 _ rfl rfl #[.int .i64 l.a, .int .i64 l.b, .int .i64 l.d] rfl ?_; clear h; intro W1 h1; generalize W.heap.size = b4 at *)
    | (have _ := h1; refine wpList_alloc_rn h1 31 rfl rfl _ zmsg.arr zero31 rfl ?_; clear h1; intro W2 h2; generalize W1.heap.size = b6 at *)
    | (have _ := h2; refine wpList_loadL (l := l) (b := b4) (off := 0) (box_rangeL (h2.st.get 1 rfl)) (.tmp 4) rfl rfl rfl ?_)
    | (have _ := h2; go_at_call 30; refine (TH.out _ _ h2).mono ?_; clear h2; rintro e W3 ⟨rfl, h3⟩)
    | (have _ := h3; refine wpList_loadL (l := l) (b := b4) (off := 0) (box_rangeL (h3.st.get 1 rfl)) (.tmp 4) rfl rfl rfl ?_)
    | (have _ := h3; go_at_call 29; refine (AL.out _ _ h3).mono ?_; clear h3; rintro e W5 ⟨v6, v7, M6, M7, rfl, r6, r7, h5⟩; obtain ⟨A6, c6, rfl, _⟩ := r6.form; replace h5 := h5.sub ((List.sublist_append_right M7 _).trans (List.sublist_append_right M6 _)))
    | (have _ := h5; refine wpList_store_rn (arr' := zmsg.arr) h5 0 rfl 31 (.tmp 6) (.tmp 25) rfl rfl rfl (by rw [zarr_lit]; rfl) (by rw [Msg.arr_size]; exact sz31) (by simp only [Msg.arr_size]) (Msg.arr_one _) ?_; clear h5; intro W4 h4)
  )
  exact bodyPost_ret (results_msg Try.results26 _ _ b6 rfl zmsg (h4.st.get 0 rfl)) rfl ⟨rfl, h4.sub ((List.sublist_cons_self _ _).trans (List.sublist_cons_self _ _))⟩
set_option maxHeartbeats 2000000 in
theorem rtake_first (h : RN w W g n R xs L) (l : Lk) (hlen : xs.length ≤ 1000) (ho : hasO n l = true) {x : Msg} {ms : List Msg} {i : Nat} {is : List Int} (hm : msgsTo l xs xs.length = x :: ms) (hn : numsTo l xs xs.length = (i : Int) :: is) :
    Calls Try.prog 26 #[.pointer (some ⟨g, 0, none⟩), .agg #[.int .i64 l.a, .int .i64 l.b, .int .i64 l.d], .bool true] W fun e W' => e = .returned (.tuple #[.agg x.arr, .int .i64 0]) ∧ RN w W' g n R xs L := by
  have TH := Lib.hid (fun W L (h : RN w W g n R xs L) => rthere_rn h l)
  have AL := Lib.hid (fun W L (h : RN w W g n R xs L) => rall_cons h l hlen hm hn)
  rw [ho] at TH
  have z1 := (msgsTo_len l xs xs.length).1
  rw [hm, List.length_cons] at z1
  have q1 : 1 ≤ ms.length + 1 := by omega
  generalize hN : ms.length + 1 = N at *
  have q2 : N ≤ 1000 := by omega
  have q3 : ((N : Int) == 0) = false := by simp; omega
  have q4 : (N == 0) = false := by simp; omega
  clear ho hm hn hlen z1 hN
  go_enter Try.func26, Try.ntmps26
  go_wp2_with (first
    | (refine wpList_box_rn h 51 _ rfl rfl #[.int .i64 l.a, .int .i64 l.b, .int .i64 l.d] rfl ?_; clear h; intro W1 h1; generalize W.heap.size = b4 at *)
    | (have _ := h1; refine wpList_alloc_rn h1 31 rfl rfl _ zmsg.arr zero31 rfl ?_; clear h1; intro W2 h2; generalize W1.heap.size = b6 at *)
    | (have _ := h2; refine wpList_loadL (l := l) (b := b4) (off := 0) (box_rangeL (h2.st.get 1 rfl)) (.tmp 4) rfl rfl rfl ?_)
    | (have _ := h2; go_at_call 30; refine (TH.out _ _ h2).mono ?_; clear h2; rintro e W3 ⟨rfl, h3⟩)
    | (have _ := h3; refine wpList_loadL (l := l) (b := b4) (off := 0) (box_rangeL (h3.st.get 1 rfl)) (.tmp 4) rfl rfl rfl ?_)
    | (have _ := h3; go_at_call 29; refine (AL.out _ _ h3).mono ?_; clear h3; rintro e W5 ⟨b8, o8, c8, b7, o7, c7, M6, M7, rfl, k8, k7, h5⟩; have r8 := k8 _ _ h5.st; clear k8 k7; replace h5 := h5.sub ((List.sublist_append_right M7 _).trans (List.sublist_append_right M6 _)); replace r8 := Lib.hid r8)
    | (have _ := h5; refine wpList_loadM (m := x) (b := b8) (off := o8) r8.out (.tmp 53) rfl rfl rfl ?_)
    | (have _ := h5; refine wpList_store_rn (arr' := x.arr) h5 0 rfl 31 (.tmp 6) (.tmp 54) rfl rfl rfl rfl (by rw [Msg.arr_size]; exact sz31) (by simp only [Msg.arr_size]) (Msg.arr_one _) ?_; clear h5; intro W4 h4)
  )
  exact bodyPost_ret (results_msg Try.results26 _ _ b6 rfl x (h4.st.get 0 rfl)) rfl ⟨rfl, h4.sub ((List.sublist_cons_self _ _).trans (List.sublist_cons_self _ _))⟩
end
end Go.Proofs.Ytacjdeppigdbjaa
