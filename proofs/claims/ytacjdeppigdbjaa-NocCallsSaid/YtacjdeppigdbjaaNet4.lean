/- What a net answers of a link. No statement is proved here. -/
import Derived.Test.YtacjdeppigdbjaaNet3
namespace Go.Proofs.Ytacjdeppigdbjaa
open Go.RowKit
set_option linter.unusedVariables false
set_option linter.unusedSimpArgs false
attribute [local irreducible] Msg.arr bufM marr narr idx lks
section
variable {w W : World} {g q u n R : Nat} {ps : List Nat} {cc : Nat → List Msg} {L : Blks}
set_option maxHeartbeats 1000000 in
theorem wrap24 {m : Msg} {k : Int} {c' : Nat → List Msg} (h : NX w W g q u n R ps cc L) (a b d : Int)
    (F : ∀ W L, NX w W g q u n R ps cc L → Calls Try.prog 38 #[.pointer (some ⟨g, 0, none⟩), .agg #[.int .i64 a, .int .i64 b, .int .i64 d], .func (.func 12) #[] #[]] W fun e W' => e = .returned (.tuple #[.agg m.arr, .int .i64 k]) ∧ NX w W' g q u n R ps c' L) :
    Calls Try.prog 24 #[.pointer (some ⟨g, 0, none⟩), .agg #[.int .i64 a, .int .i64 b, .int .i64 d]] W fun e W' => e = .returned (.tuple #[.agg m.arr, .int .i64 k]) ∧ NX w W' g q u n R ps c' L := by
  replace F := Lib.hid F
  go_enter Try.func24, Try.ntmps24
  go_wp2_with (first
    | (refine wpList_box_nx h 51 _ rfl rfl #[.int .i64 a, .int .i64 b, .int .i64 d] rfl ?_; clear h; intro W1 h1; generalize W.heap.size = b3 at *)
    | (have _ := h1; refine wpList_alloc_nx h1 31 rfl rfl _ zmsg.arr zero31 rfl ?_; clear h1; intro W2 h2; generalize W1.heap.size = b4 at *; have d0 := h2.cell 1 rfl 0 (.int .i64 a) rfl; have d1 := h2.cell 1 rfl 1 (.int .i64 b) rfl; have d2 := h2.cell 1 rfl 2 (.int .i64 d) rfl)
    | (have _ := h2; go_at_call 38; refine (F.out _ _ h2).mono ?_; clear h2 d0 d1 d2; rintro e W3 ⟨rfl, h3⟩)
    | (have _ := h3; refine wpList_store_nx (arr' := m.arr) h3 0 rfl 31 (.tmp 4) (.tmp 9) rfl rfl rfl rfl (by rw [Msg.arr_size]; exact sz31) (by simp only [Msg.arr_size]) (Msg.arr_one _) ?_; clear h3; intro W4 h4))
  exact bodyPost_ret (results_msg Try.results24 _ _ b4 rfl m (h4.at2 0 rfl)) rfl ⟨rfl, h4.tail.tail⟩
set_option maxHeartbeats 1000000 in
theorem wrap25 {m : Msg} {k : Int} {c' : Nat → List Msg} (h : NX w W g q u n R ps cc L) (a b d : Int)
    (F : ∀ W L, NX w W g q u n R ps cc L → Calls Try.prog 38 #[.pointer (some ⟨g, 0, none⟩), .agg #[.int .i64 a, .int .i64 b, .int .i64 d], .func (.func 16) #[] #[]] W fun e W' => e = .returned (.tuple #[.agg m.arr, .int .i64 k]) ∧ NX w W' g q u n R ps c' L) :
    Calls Try.prog 25 #[.pointer (some ⟨g, 0, none⟩), .agg #[.int .i64 a, .int .i64 b, .int .i64 d]] W fun e W' => e = .returned (.tuple #[.agg m.arr, .int .i64 k]) ∧ NX w W' g q u n R ps c' L := by
  replace F := Lib.hid F
  go_enter Try.func25, Try.ntmps25
  go_wp2_with (first
    | (refine wpList_box_nx h 51 _ rfl rfl #[.int .i64 a, .int .i64 b, .int .i64 d] rfl ?_; clear h; intro W1 h1; generalize W.heap.size = b3 at *)
    | (have _ := h1; refine wpList_alloc_nx h1 31 rfl rfl _ zmsg.arr zero31 rfl ?_; clear h1; intro W2 h2; generalize W1.heap.size = b4 at *; have d0 := h2.cell 1 rfl 0 (.int .i64 a) rfl; have d1 := h2.cell 1 rfl 1 (.int .i64 b) rfl; have d2 := h2.cell 1 rfl 2 (.int .i64 d) rfl)
    | (have _ := h2; go_at_call 38; refine (F.out _ _ h2).mono ?_; clear h2 d0 d1 d2; rintro e W3 ⟨rfl, h3⟩)
    | (have _ := h3; refine wpList_store_nx (arr' := m.arr) h3 0 rfl 31 (.tmp 4) (.tmp 9) rfl rfl rfl rfl (by rw [Msg.arr_size]; exact sz31) (by simp only [Msg.arr_size]) (Msg.arr_one _) ?_; clear h3; intro W4 h4))
  exact bodyPost_ret (results_msg Try.results25 _ _ b4 rfl m (h4.at2 0 rfl)) rfl ⟨rfl, h4.tail.tail⟩
set_option maxHeartbeats 1000000 in
theorem wrap34 {k : Int} {c' : Nat → List Msg} (h : NX w W g q u n R ps cc L) (a b d : Int)
    (F : ∀ W L, NX w W g q u n R ps cc L → Calls Try.prog 42 #[.pointer (some ⟨g, 0, none⟩), .agg #[.int .i64 a, .int .i64 b, .int .i64 d], .func (.func 18) #[] #[]] W fun e W' => e = .returned (.int .i64 k) ∧ NX w W' g q u n R ps c' L) :
    Calls Try.prog 34 #[.pointer (some ⟨g, 0, none⟩), .agg #[.int .i64 a, .int .i64 b, .int .i64 d]] W fun e W' => e = .returned (.int .i64 k) ∧ NX w W' g q u n R ps c' L := by
  replace F := Lib.hid F
  go_enter Try.func34, Try.ntmps34
  go_wp2_with (first
    | (refine wpList_box_nx h 51 _ rfl rfl #[.int .i64 a, .int .i64 b, .int .i64 d] rfl ?_; clear h; intro W1 h1; generalize W.heap.size = b3 at *; have d0 := h1.cell 0 rfl 0 (.int .i64 a) rfl; have d1 := h1.cell 0 rfl 1 (.int .i64 b) rfl; have d2 := h1.cell 0 rfl 2 (.int .i64 d) rfl)
    | (have _ := h1; go_at_call 42; refine (F.out _ _ h1).mono ?_; clear h1 d0 d1 d2; rintro e W3 ⟨rfl, h3⟩))
  go_ret
  exact ⟨rfl, h3.tail⟩
set_option maxHeartbeats 1000000 in
theorem wrap35 {N : Nat} {xs : List Msg} {c' : Nat → List Msg} (h : NX w W g q u n R ps cc L) (a b d : Int)
    (F : ∀ W L, NX w W g q u n R ps cc L → Calls Try.prog 43 #[.pointer (some ⟨g, 0, none⟩), .agg #[.int .i64 a, .int .i64 b, .int .i64 d], .func (.func 20) #[] #[]] W fun e W' => ∃ v br, e = .returned v ∧ v = .slice (some ⟨br, 0, none⟩) N N ∧ NX w W' g q u n R ps c' ((br, C 31 (marr xs)) :: L)) :
    Calls Try.prog 35 #[.pointer (some ⟨g, 0, none⟩), .agg #[.int .i64 a, .int .i64 b, .int .i64 d]] W fun e W' => ∃ v br, e = .returned v ∧ v = .slice (some ⟨br, 0, none⟩) N N ∧ NX w W' g q u n R ps c' ((br, C 31 (marr xs)) :: L) := by
  replace F := Lib.hid F
  go_enter Try.func35, Try.ntmps35
  go_wp2_with (first
    | (refine wpList_box_nx h 51 _ rfl rfl #[.int .i64 a, .int .i64 b, .int .i64 d] rfl ?_; clear h; intro W1 h1; generalize W.heap.size = b3 at *; have d0 := h1.cell 0 rfl 0 (.int .i64 a) rfl; have d1 := h1.cell 0 rfl 1 (.int .i64 b) rfl; have d2 := h1.cell 0 rfl 2 (.int .i64 d) rfl)
    | (have _ := h1; go_at_call 43; refine (F.out _ _ h1).mono ?_; clear h1 d0 d1 d2; rintro e W3 ⟨v, br, rfl, rfl, h3⟩))
  go_ret
  exact ⟨_, br, rfl, rfl, h3.sub ((List.sublist_cons_self _ _).cons_cons _)⟩
set_option maxHeartbeats 1000000 in
theorem wrap35n (h : NX w W g q u n R ps cc L) (a b d : Int)
    (F : ∀ W L, NX w W g q u n R ps cc L → Calls Try.prog 43 #[.pointer (some ⟨g, 0, none⟩), .agg #[.int .i64 a, .int .i64 b, .int .i64 d], .func (.func 20) #[] #[]] W fun e W' => e = .returned (.slice none 0 0) ∧ NX w W' g q u n R ps cc L) :
    Calls Try.prog 35 #[.pointer (some ⟨g, 0, none⟩), .agg #[.int .i64 a, .int .i64 b, .int .i64 d]] W fun e W' => e = .returned (.slice none 0 0) ∧ NX w W' g q u n R ps cc L := by
  replace F := Lib.hid F
  go_enter Try.func35, Try.ntmps35
  go_wp2_with (first
    | (refine wpList_box_nx h 51 _ rfl rfl #[.int .i64 a, .int .i64 b, .int .i64 d] rfl ?_; clear h; intro W1 h1; generalize W.heap.size = b3 at *; have d0 := h1.cell 0 rfl 0 (.int .i64 a) rfl; have d1 := h1.cell 0 rfl 1 (.int .i64 b) rfl; have d2 := h1.cell 0 rfl 2 (.int .i64 d) rfl)
    | (have _ := h1; go_at_call 43; refine (F.out _ _ h1).mono ?_; clear h1 d0 d1 d2; rintro e W3 ⟨rfl, h3⟩))
  go_ret
  exact ⟨rfl, h3.tail⟩
theorem NX.ptr (h : NX w W g q u n R ps cc L) {i : Nat} (hi : i < lks n) : ∃ p, ps[i]? = some p := ⟨ps[i]'(by rw [h.len]; exact hi), List.getElem?_eq_getElem _⟩
theorem ntake_no (h : NX w W g q u n R ps cc L) (a b d : Int) (hh : hasL n a b d = false) :
    Calls Try.prog 24 #[.pointer (some ⟨g, 0, none⟩), .agg #[.int .i64 a, .int .i64 b, .int .i64 d]] W fun e W' => e = .returned (.tuple #[.agg zmsg.arr, .int .i64 2]) ∧ NX w W' g q u n R ps cc L :=
  wrap24 h a b d fun W L h => message_no h a b d hh _
theorem nnext_no (h : NX w W g q u n R ps cc L) (a b d : Int) (hh : hasL n a b d = false) :
    Calls Try.prog 25 #[.pointer (some ⟨g, 0, none⟩), .agg #[.int .i64 a, .int .i64 b, .int .i64 d]] W fun e W' => e = .returned (.tuple #[.agg zmsg.arr, .int .i64 2]) ∧ NX w W' g q u n R ps cc L :=
  wrap25 h a b d fun W L h => message_no h a b d hh _
theorem nroom_no (h : NX w W g q u n R ps cc L) (a b d : Int) (hh : hasL n a b d = false) :
    Calls Try.prog 34 #[.pointer (some ⟨g, 0, none⟩), .agg #[.int .i64 a, .int .i64 b, .int .i64 d]] W fun e W' => e = .returned (.int .i64 0) ∧ NX w W' g q u n R ps cc L :=
  wrap34 h a b d fun W L h => ask42_no h a b d hh _
theorem nall_no (h : NX w W g q u n R ps cc L) (a b d : Int) (hh : hasL n a b d = false) :
    Calls Try.prog 35 #[.pointer (some ⟨g, 0, none⟩), .agg #[.int .i64 a, .int .i64 b, .int .i64 d]] W fun e W' => e = .returned (.slice none 0 0) ∧ NX w W' g q u n R ps cc L :=
  wrap35n h a b d fun W L h => ask43_no h a b d hh _
theorem ntake_nil (h : NX w W g q u n R ps cc L) (a b d : Nat) (ha : a < 3) (hb : b < n) (hd : d < n) (hc : cc (idx n a b d) = []) :
    Calls Try.prog 24 #[.pointer (some ⟨g, 0, none⟩), .agg #[.int .i64 (a : Int), .int .i64 (b : Int), .int .i64 (d : Int)]] W fun e W' => e = .returned (.tuple #[.agg zmsg.arr, .int .i64 6]) ∧ NX w W' g q u n R ps cc L := by
  obtain ⟨p, hp⟩ := h.ptr (idx_lt ha hb hd)
  refine wrap24 h a b d fun W L h => ?_
  have := message_take h a b d p ha hb hd hp (m := zmsg) (k := 6) (xs' := []) (fun W X hq => take_nil (hc ▸ hq)) (fun _ => rfl)
  rwa [show upd cc (idx n a b d) [] = cc by rw [← hc, upd_self]] at this
theorem nnext_nil (h : NX w W g q u n R ps cc L) (a b d : Nat) (ha : a < 3) (hb : b < n) (hd : d < n) (hc : cc (idx n a b d) = []) :
    Calls Try.prog 25 #[.pointer (some ⟨g, 0, none⟩), .agg #[.int .i64 (a : Int), .int .i64 (b : Int), .int .i64 (d : Int)]] W fun e W' => e = .returned (.tuple #[.agg zmsg.arr, .int .i64 6]) ∧ NX w W' g q u n R ps cc L := by
  obtain ⟨p, hp⟩ := h.ptr (idx_lt ha hb hd)
  refine wrap25 h a b d fun W L h => ?_
  have := message_first h a b d p ha hb hd hp (m := zmsg) (k := 6) (xs' := []) (fun W X hq => first_nil (hc ▸ hq)) (fun _ => rfl)
  rwa [show upd cc (idx n a b d) [] = cc by rw [← hc, upd_self]] at this
theorem ntake_cons {x : Msg} {xs : List Msg} (h : NX w W g q u n R ps cc L) (a b d : Nat) (ha : a < 3) (hb : b < n) (hd : d < n) (hc : cc (idx n a b d) = x :: xs) :
    Calls Try.prog 24 #[.pointer (some ⟨g, 0, none⟩), .agg #[.int .i64 (a : Int), .int .i64 (b : Int), .int .i64 (d : Int)]] W fun e W' => e = .returned (.tuple #[.agg x.arr, .int .i64 0]) ∧ NX w W' g q u n R ps (upd cc (idx n a b d) xs) L := by
  obtain ⟨p, hp⟩ := h.ptr (idx_lt ha hb hd)
  refine wrap24 h a b d fun W L h => ?_
  exact message_take h a b d p ha hb hd hp (m := x) (k := 0) (xs' := xs) (fun W X hq => take_cons (hc ▸ hq)) (fun e => by rw [hc] at e; cases e)
theorem nnext_cons {x : Msg} {xs : List Msg} (h : NX w W g q u n R ps cc L) (a b d : Nat) (ha : a < 3) (hb : b < n) (hd : d < n) (hc : cc (idx n a b d) = x :: xs) :
    Calls Try.prog 25 #[.pointer (some ⟨g, 0, none⟩), .agg #[.int .i64 (a : Int), .int .i64 (b : Int), .int .i64 (d : Int)]] W fun e W' => e = .returned (.tuple #[.agg x.arr, .int .i64 0]) ∧ NX w W' g q u n R ps cc L := by
  obtain ⟨p, hp⟩ := h.ptr (idx_lt ha hb hd)
  refine wrap25 h a b d fun W L h => ?_
  have := message_first h a b d p ha hb hd hp (m := x) (k := 0) (xs' := x :: xs) (fun W X hq => first_cons (hc ▸ hq)) (fun e => by rw [hc] at e; cases e)
  rwa [show upd cc (idx n a b d) (x :: xs) = cc by rw [← hc, upd_self]] at this
theorem nroom_yes (h : NX w W g q u n R ps cc L) (a b d : Nat) (ha : a < 3) (hb : b < n) (hd : d < n) :
    Calls Try.prog 34 #[.pointer (some ⟨g, 0, none⟩), .agg #[.int .i64 (a : Int), .int .i64 (b : Int), .int .i64 (d : Int)]] W fun e W' => e = .returned (.int .i64 ((R : Int) - ((cc (idx n a b d)).length : Nat))) ∧ NX w W' g q u n R ps cc L := by
  obtain ⟨p, hp⟩ := h.ptr (idx_lt ha hb hd)
  refine wrap34 h a b d fun W L h => ?_
  have := ask_room h a b d p ha hb hd hp (k := (R : Int) - ((cc (idx n a b d)).length : Nat)) (xs' := cc (idx n a b d)) (fun W X hq => by
    refine (room_any hq).mono ?_
    rintro e W' ⟨rfl, j, rfl⟩
    exact ⟨rfl, hq.drewN j⟩) (fun e => e)
  rwa [upd_self] at this
theorem nall_yes (h : NX w W g q u n R ps cc L) (a b d : Nat) (ha : a < 3) (hb : b < n) (hd : d < n) :
    Calls Try.prog 35 #[.pointer (some ⟨g, 0, none⟩), .agg #[.int .i64 (a : Int), .int .i64 (b : Int), .int .i64 (d : Int)]] W fun e W' => ∃ v br, e = .returned v ∧ v = .slice (some ⟨br, 0, none⟩) (cc (idx n a b d)).length (cc (idx n a b d)).length ∧ NX w W' g q u n R ps cc ((br, C 31 (marr (cc (idx n a b d)))) :: L) := by
  obtain ⟨p, hp⟩ := h.ptr (idx_lt ha hb hd)
  refine wrap35 (xs := cc (idx n a b d)) h a b d fun W L h => ?_
  have := ask_all h a b d p ha hb hd hp (xs' := cc (idx n a b d)) (fun W X hq => all_any hq) (fun e => e)
  rw [upd_self] at this
  refine this.mono ?_
  rintro e W' ⟨br, rfl, h'⟩
  exact ⟨_, br, rfl, rfl, h'⟩
end
end Go.Proofs.Ytacjdeppigdbjaa
