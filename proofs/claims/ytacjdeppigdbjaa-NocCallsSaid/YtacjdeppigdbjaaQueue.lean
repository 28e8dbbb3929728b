/- A queue: it is made, messages are put into it. No statement is proved here. -/
import Derived.Test.YtacjdeppigdbjaaChan
namespace Go.Proofs.Ytacjdeppigdbjaa
open Go.RowKit
set_option linter.unusedVariables false
set_option linter.unusedSimpArgs false

theorem St.front {w W : World} {L : Blks} {x : Nat × Obj} (h : St w W (L ++ [x])) : St w W (x :: L) := h.perm (List.perm_append_singleton x L)
theorem St.tail {w W : World} {L : Blks} {x : Nat × Obj} (h : St w W (x :: L)) : St w W L := h.sub (List.sublist_cons_self x L)
section
variable {w W : World} {L : Blks} {c cap s r : Nat} {xs : List Msg}
theorem send_yes {m : Msg} (h : St w W L) (i : Nat) (hi : L[i]? = some (c, Ch cap (bufM xs) s r)) (hr : xs.length < cap) :
    Calls Try.prog 37 #[.chan (some c), .agg m.arr] W fun e W' => e = .returned (.bool true) ∧ St w W' (L.set i (c, Ch cap (bufM (xs ++ [m])) (s + 1) r)) := by
  have hc := h.get i hi
  refine (send_walk c cap s r (bufM xs) m W hc).mono ?_
  rintro e W' ⟨rfl, rfl⟩
  rw [bufM_size, if_pos hr, decide_eq_true hr, bufM_push]
  refine ⟨rfl, h.putO i hi (Go.Conc.heap_setChan _ c cap _ false _ _ false ?_) ((grown_alloc W _ (some c)).trans (grown_setChan _ c cap _ _ _))⟩
  have := heap_lt hc
  simp; omega
theorem send_no {m : Msg} (h : St w W L) (i : Nat) (hi : L[i]? = some (c, Ch cap (bufM xs) s r)) (hr : ¬ xs.length < cap) :
    Calls Try.prog 37 #[.chan (some c), .agg m.arr] W fun e W' => e = .returned (.bool false) ∧ St w W' L := by
  have hc := h.get i hi
  refine (send_walk c cap s r (bufM xs) m W hc).mono ?_
  rintro e W' ⟨rfl, rfl⟩
  rw [bufM_size, if_neg hr, decide_eq_false hr]
  exact ⟨rfl, h.call ((Below.refl _ _).alloc (Nat.le_refl _) _)⟩
theorem recv_yes {x : Msg} (h : St w W L) (i : Nat) (hi : L[i]? = some (c, Ch cap (bufM (x :: xs)) s r)) :
    Calls Try.prog 36 #[.chan (some c)] W fun e W' => e = .returned (.tuple #[.agg x.arr, .bool true]) ∧ St w W' (L.set i (c, Ch cap (bufM xs) s (r + 1))) := by
  refine (recv_some c cap s r x xs W (h.get i hi)).mono ?_
  rintro e W' ⟨rfl, h1, h2⟩
  exact ⟨rfl, h.putO i hi h1 h2⟩
theorem recv_no (h : St w W L) (i : Nat) (hi : L[i]? = some (c, Ch cap (bufM []) s r)) :
    Calls Try.prog 36 #[.chan (some c)] W fun e W' => e = .returned (.tuple #[.agg zmsg.arr, .bool false]) ∧ St w W' L := by
  refine (recv_none c cap s r W (h.get i hi)).mono ?_
  rintro e W' ⟨rfl, h1⟩
  exact ⟨rfl, h.call h1⟩
end
attribute [local irreducible] Msg.arr bufM
section
variable {w W : World} {L : Blks} {g h k p q s1 r1 s2 r2 : Nat} {R : Int} {A B : List Msg} {m : Msg}
set_option maxHeartbeats 1000000 in
theorem put_yes1 (h0 : St w W ((g, C 79 #[.int .i64 R, .chan (some h), .chan (some k)]) :: (h, Ch p (bufM A) s1 r1) :: (k, Ch q (bufM B) s2 r2) :: L)) (H1 : A.length < p) :
    Calls Try.prog 14 #[.pointer (some ⟨g, 0, none⟩), .agg m.arr] W fun e W' => e = .returned (.int .i64 0) ∧ St w W' ((g, C 79 #[.int .i64 R, .chan (some h), .chan (some k)]) :: (h, Ch p (bufM (A ++ [m])) (s1 + 1) r1) :: (k, Ch q (bufM B) s2 r2) :: L) := by
  replace H1 := Lib.hid H1
  go_enter Try.func14, Try.ntmps14
  go_wp2_with (refine wpList_box_st h0 31 _ rfl rfl m.arr rfl ?_; clear h0; intro W1 hb _ _)
  have h1 := hb.front.drew
  clear hb
  generalize W.heap.size = b at *
  have H0 := Lib.hid (show At W1.drew g 79 #[.int .i64 R, .chan (some h), .chan (some k)] ∧ At W1.drew b 31 m.arr from ⟨h1.get 1 rfl, h1.get 0 rfl⟩)
  refine wp_region_held_drew (S := fun W => At W g 79 #[.int .i64 R, .chan (some h), .chan (some k)] ∧ At W b 31 m.arr) (by kernel_rfl) H0.out (fun _ => ?_)
  generalize W1.drew = V0 at *
  refine wpAnyH_take (i := 0) (v := .pointer (some ⟨g, 0, none⟩)) rfl (by kernel_rfl) (by kernel_rfl) (by kernel_rfl) (fun _ _ _ h => h) (Or.inl ⟨by rfl, fun W hW => by clear hW; go_simp⟩) H0.out ?_
  try simp only [Act.put, List.getElem_toArray, List.getElem_cons_succ, List.getElem_cons_zero, List.setIfInBounds_toArray, List.set_cons_zero, List.set_cons_succ]
  refine wpAnyH_take (i := 1) (v := .pointer (some ⟨g, 0, none⟩)) rfl (by kernel_rfl) (by kernel_rfl) (by kernel_rfl) (fun _ _ _ h => h) (Or.inl ⟨by rfl, fun W hW => by clear hW; go_simp⟩) H0.out ?_
  try simp only [Act.put, List.getElem_toArray, List.getElem_cons_succ, List.getElem_cons_zero, List.setIfInBounds_toArray, List.set_cons_zero, List.set_cons_succ]
  refine wpAnyH_take (i := 2) (v := .pointer (some ⟨g, 1, none⟩)) rfl (by kernel_rfl) (by kernel_rfl) (by kernel_rfl) (fun _ _ _ h => h) (Or.inl ⟨by rfl, fun W hW => by clear hW; go_simp⟩) H0.out ?_
  try simp only [Act.put, List.getElem_toArray, List.getElem_cons_succ, List.getElem_cons_zero, List.setIfInBounds_toArray, List.set_cons_zero, List.set_cons_succ]
  refine wpAnyH_take (i := 3) (v := .chan (some h)) rfl (by kernel_rfl) (by kernel_rfl) (by kernel_rfl) (fun _ _ _ h => h) (Or.inl ⟨by rfl, fun W hW => by have hc := (show W.cell? ⟨g, 1, none⟩ = some (.chan (some h)) from hW.1.cell 1); clear hW; go_simp⟩) H0.out ?_
  try simp only [Act.put, List.getElem_toArray, List.getElem_cons_succ, List.getElem_cons_zero, List.setIfInBounds_toArray, List.set_cons_zero, List.set_cons_succ]
  refine wpAnyH_take (i := 4) (v := .agg m.arr) rfl (by kernel_rfl) (by kernel_rfl) (by kernel_rfl) (fun _ _ _ h => h) (yields_at 31 _ _ rfl (by rfl) rfl Try.underlying31 rfl (by rw [Msg.arr_size]; exact sz31) (fun W hW => hW.2)) H0.out ?_
  try simp only [Act.put, List.getElem_toArray, List.getElem_cons_succ, List.getElem_cons_zero, List.setIfInBounds_toArray, List.set_cons_zero, List.set_cons_succ]
  refine wpAnyH_ready (rs := [5]) (by kernel_rfl) (by simp) ?_
  refine AllReadyH.cons rfl (fun K hK => ?_) AllReadyH.nil
  go_simp
  go_at_call 37
  refine (send_yes h1 2 rfl H1.out).mono ?_
  rintro e V1 ⟨rfl, h2⟩
  have H1_ := Lib.hid (show At V1 g 79 #[.int .i64 R, .chan (some h), .chan (some k)] ∧ At V1 b 31 m.arr from ⟨h2.get 1 rfl, h2.get 0 rfl⟩)
  clear h1
  refine hK.out _ _ H1_.out (fun _ => ?_)
  clear hK K
  try simp only [Act.put, List.getElem_toArray, List.getElem_cons_succ, List.getElem_cons_zero, List.setIfInBounds_toArray, List.set_cons_zero, List.set_cons_succ]
  refine wpAnyH_take (i := 6) (v := .bool true) rfl (by kernel_rfl) (by kernel_rfl) (by kernel_rfl) (fun _ _ _ h => h) (Or.inl ⟨by rfl, fun W hW => by clear hW; go_simp⟩) H1_.out ?_
  try simp only [Act.put, List.getElem_toArray, List.getElem_cons_succ, List.getElem_cons_zero, List.setIfInBounds_toArray, List.set_cons_zero, List.set_cons_succ]
  refine wpAnyH_take (i := 7) (v := undef) rfl (by kernel_rfl) (by kernel_rfl) (by kernel_rfl) (fun _ _ _ h => h) (Or.inr ⟨by rfl, rfl⟩) H1_.out ?_
  try simp only [Act.put, List.getElem_toArray, List.getElem_cons_succ, List.getElem_cons_zero, List.setIfInBounds_toArray, List.set_cons_zero, List.set_cons_succ]
  refine wpAnyH_take (i := 8) (v := undef) rfl (by kernel_rfl) (by kernel_rfl) (by kernel_rfl) (fun _ _ _ h => h) (Or.inr ⟨by rfl, rfl⟩) H1_.out ?_
  try simp only [Act.put, List.getElem_toArray, List.getElem_cons_succ, List.getElem_cons_zero, List.setIfInBounds_toArray, List.set_cons_zero, List.set_cons_succ]
  refine wpAnyH_take (i := 9) (v := undef) rfl (by kernel_rfl) (by kernel_rfl) (by kernel_rfl) (fun _ _ _ h => h) (Or.inr ⟨by rfl, rfl⟩) H1_.out ?_
  try simp only [Act.put, List.getElem_toArray, List.getElem_cons_succ, List.getElem_cons_zero, List.setIfInBounds_toArray, List.set_cons_zero, List.set_cons_succ]
  refine wpAnyH_take (i := 10) (v := undef) rfl (by kernel_rfl) (by kernel_rfl) (by kernel_rfl) (fun _ _ _ h => h) (Or.inr ⟨by rfl, rfl⟩) H1_.out ?_
  try simp only [Act.put, List.getElem_toArray, List.getElem_cons_succ, List.getElem_cons_zero, List.setIfInBounds_toArray, List.set_cons_zero, List.set_cons_succ]
  refine wpAnyH_take (i := 11) (v := undef) rfl (by kernel_rfl) (by kernel_rfl) (by kernel_rfl) (fun _ _ _ h => h) (Or.inr ⟨by rfl, rfl⟩) H1_.out ?_
  try simp only [Act.put, List.getElem_toArray, List.getElem_cons_succ, List.getElem_cons_zero, List.setIfInBounds_toArray, List.set_cons_zero, List.set_cons_succ]
  refine wpAnyH_take (i := 12) (v := undef) rfl (by kernel_rfl) (by kernel_rfl) (by kernel_rfl) (fun _ _ _ h => h) (Or.inr ⟨by rfl, rfl⟩) H1_.out ?_
  try simp only [Act.put, List.getElem_toArray, List.getElem_cons_succ, List.getElem_cons_zero, List.setIfInBounds_toArray, List.set_cons_zero, List.set_cons_succ]
  refine wpAnyH_take (i := 13) (v := .bool true) rfl (by kernel_rfl) (by kernel_rfl) (by kernel_rfl) (fun _ _ _ h => h) (Or.inl ⟨by rfl, fun W hW => by clear hW; go_simp⟩) H1_.out ?_
  try simp only [Act.put, List.getElem_toArray, List.getElem_cons_succ, List.getElem_cons_zero, List.setIfInBounds_toArray, List.set_cons_zero, List.set_cons_succ]
  refine wpAnyH_done (by kernel_rfl) ?_ _
  clear H0 H1_
  go_wp2
  go_ret
  exact ⟨rfl, h2.tail⟩
set_option maxHeartbeats 1000000 in
theorem put_yes2 (h0 : St w W ((g, C 79 #[.int .i64 R, .chan (some h), .chan (some k)]) :: (h, Ch p (bufM A) s1 r1) :: (k, Ch q (bufM B) s2 r2) :: L)) (H1 : ¬ A.length < p) (H2 : B.length < q) :
    Calls Try.prog 14 #[.pointer (some ⟨g, 0, none⟩), .agg m.arr] W fun e W' => e = .returned (.int .i64 0) ∧ St w W' ((g, C 79 #[.int .i64 R, .chan (some h), .chan (some k)]) :: (h, Ch p (bufM A) s1 r1) :: (k, Ch q (bufM (B ++ [m])) (s2 + 1) r2) :: L) := by
  replace H1 := Lib.hid H1
  replace H2 := Lib.hid H2
  go_enter Try.func14, Try.ntmps14
  go_wp2_with (refine wpList_box_st h0 31 _ rfl rfl m.arr rfl ?_; clear h0; intro W1 hb _ _)
  have h1 := hb.front.drew
  clear hb
  generalize W.heap.size = b at *
  have H0 := Lib.hid (show At W1.drew g 79 #[.int .i64 R, .chan (some h), .chan (some k)] ∧ At W1.drew b 31 m.arr from ⟨h1.get 1 rfl, h1.get 0 rfl⟩)
  refine wp_region_held_drew (S := fun W => At W g 79 #[.int .i64 R, .chan (some h), .chan (some k)] ∧ At W b 31 m.arr) (by kernel_rfl) H0.out (fun _ => ?_)
  generalize W1.drew = V0 at *
  refine wpAnyH_take (i := 0) (v := .pointer (some ⟨g, 0, none⟩)) rfl (by kernel_rfl) (by kernel_rfl) (by kernel_rfl) (fun _ _ _ h => h) (Or.inl ⟨by rfl, fun W hW => by clear hW; go_simp⟩) H0.out ?_
  try simp only [Act.put, List.getElem_toArray, List.getElem_cons_succ, List.getElem_cons_zero, List.setIfInBounds_toArray, List.set_cons_zero, List.set_cons_succ]
  refine wpAnyH_take (i := 1) (v := .pointer (some ⟨g, 0, none⟩)) rfl (by kernel_rfl) (by kernel_rfl) (by kernel_rfl) (fun _ _ _ h => h) (Or.inl ⟨by rfl, fun W hW => by clear hW; go_simp⟩) H0.out ?_
  try simp only [Act.put, List.getElem_toArray, List.getElem_cons_succ, List.getElem_cons_zero, List.setIfInBounds_toArray, List.set_cons_zero, List.set_cons_succ]
  refine wpAnyH_take (i := 2) (v := .pointer (some ⟨g, 1, none⟩)) rfl (by kernel_rfl) (by kernel_rfl) (by kernel_rfl) (fun _ _ _ h => h) (Or.inl ⟨by rfl, fun W hW => by clear hW; go_simp⟩) H0.out ?_
  try simp only [Act.put, List.getElem_toArray, List.getElem_cons_succ, List.getElem_cons_zero, List.setIfInBounds_toArray, List.set_cons_zero, List.set_cons_succ]
  refine wpAnyH_take (i := 3) (v := .chan (some h)) rfl (by kernel_rfl) (by kernel_rfl) (by kernel_rfl) (fun _ _ _ h => h) (Or.inl ⟨by rfl, fun W hW => by have hc := (show W.cell? ⟨g, 1, none⟩ = some (.chan (some h)) from hW.1.cell 1); clear hW; go_simp⟩) H0.out ?_
  try simp only [Act.put, List.getElem_toArray, List.getElem_cons_succ, List.getElem_cons_zero, List.setIfInBounds_toArray, List.set_cons_zero, List.set_cons_succ]
  refine wpAnyH_take (i := 4) (v := .agg m.arr) rfl (by kernel_rfl) (by kernel_rfl) (by kernel_rfl) (fun _ _ _ h => h) (yields_at 31 _ _ rfl (by rfl) rfl Try.underlying31 rfl (by rw [Msg.arr_size]; exact sz31) (fun W hW => hW.2)) H0.out ?_
  try simp only [Act.put, List.getElem_toArray, List.getElem_cons_succ, List.getElem_cons_zero, List.setIfInBounds_toArray, List.set_cons_zero, List.set_cons_succ]
  refine wpAnyH_ready (rs := [5]) (by kernel_rfl) (by simp) ?_
  refine AllReadyH.cons rfl (fun K hK => ?_) AllReadyH.nil
  go_simp
  go_at_call 37
  refine (send_no h1 2 rfl H1.out).mono ?_
  rintro e V1 ⟨rfl, h2⟩
  have H1_ := Lib.hid (show At V1 g 79 #[.int .i64 R, .chan (some h), .chan (some k)] ∧ At V1 b 31 m.arr from ⟨h2.get 1 rfl, h2.get 0 rfl⟩)
  clear h1
  refine hK.out _ _ H1_.out (fun _ => ?_)
  clear hK K
  try simp only [Act.put, List.getElem_toArray, List.getElem_cons_succ, List.getElem_cons_zero, List.setIfInBounds_toArray, List.set_cons_zero, List.set_cons_succ]
  refine wpAnyH_take (i := 6) (v := .bool false) rfl (by kernel_rfl) (by kernel_rfl) (by kernel_rfl) (fun _ _ _ h => h) (Or.inl ⟨by rfl, fun W hW => by clear hW; go_simp⟩) H1_.out ?_
  try simp only [Act.put, List.getElem_toArray, List.getElem_cons_succ, List.getElem_cons_zero, List.setIfInBounds_toArray, List.set_cons_zero, List.set_cons_succ]
  refine wpAnyH_take (i := 7) (v := .pointer (some ⟨g, 0, none⟩)) rfl (by kernel_rfl) (by kernel_rfl) (by kernel_rfl) (fun _ _ _ h => h) (Or.inl ⟨by rfl, fun W hW => by clear hW; go_simp⟩) H1_.out ?_
  try simp only [Act.put, List.getElem_toArray, List.getElem_cons_succ, List.getElem_cons_zero, List.setIfInBounds_toArray, List.set_cons_zero, List.set_cons_succ]
  refine wpAnyH_take (i := 8) (v := .pointer (some ⟨g, 0, none⟩)) rfl (by kernel_rfl) (by kernel_rfl) (by kernel_rfl) (fun _ _ _ h => h) (Or.inl ⟨by rfl, fun W hW => by clear hW; go_simp⟩) H1_.out ?_
  try simp only [Act.put, List.getElem_toArray, List.getElem_cons_succ, List.getElem_cons_zero, List.setIfInBounds_toArray, List.set_cons_zero, List.set_cons_succ]
  refine wpAnyH_take (i := 9) (v := .pointer (some ⟨g, 2, none⟩)) rfl (by kernel_rfl) (by kernel_rfl) (by kernel_rfl) (fun _ _ _ h => h) (Or.inl ⟨by rfl, fun W hW => by clear hW; go_simp⟩) H1_.out ?_
  try simp only [Act.put, List.getElem_toArray, List.getElem_cons_succ, List.getElem_cons_zero, List.setIfInBounds_toArray, List.set_cons_zero, List.set_cons_succ]
  refine wpAnyH_take (i := 10) (v := .chan (some k)) rfl (by kernel_rfl) (by kernel_rfl) (by kernel_rfl) (fun _ _ _ h => h) (Or.inl ⟨by rfl, fun W hW => by have hc := (show W.cell? ⟨g, 2, none⟩ = some (.chan (some k)) from hW.1.cell 2); clear hW; go_simp⟩) H1_.out ?_
  try simp only [Act.put, List.getElem_toArray, List.getElem_cons_succ, List.getElem_cons_zero, List.setIfInBounds_toArray, List.set_cons_zero, List.set_cons_succ]
  refine wpAnyH_take (i := 11) (v := .agg m.arr) rfl (by kernel_rfl) (by kernel_rfl) (by kernel_rfl) (fun _ _ _ h => h) (yields_at 31 _ _ rfl (by rfl) rfl Try.underlying31 rfl (by rw [Msg.arr_size]; exact sz31) (fun W hW => hW.2)) H1_.out ?_
  try simp only [Act.put, List.getElem_toArray, List.getElem_cons_succ, List.getElem_cons_zero, List.setIfInBounds_toArray, List.set_cons_zero, List.set_cons_succ]
  refine wpAnyH_ready (rs := [12]) (by kernel_rfl) (by simp) ?_
  refine AllReadyH.cons rfl (fun K hK => ?_) AllReadyH.nil
  go_simp
  go_at_call 37
  refine (send_yes h2 3 rfl H2.out).mono ?_
  rintro e V2 ⟨rfl, h3⟩
  have H2_ := Lib.hid (show At V2 g 79 #[.int .i64 R, .chan (some h), .chan (some k)] ∧ At V2 b 31 m.arr from ⟨h3.get 1 rfl, h3.get 0 rfl⟩)
  clear h2
  refine hK.out _ _ H2_.out (fun _ => ?_)
  clear hK K
  try simp only [Act.put, List.getElem_toArray, List.getElem_cons_succ, List.getElem_cons_zero, List.setIfInBounds_toArray, List.set_cons_zero, List.set_cons_succ]
  refine wpAnyH_take (i := 13) (v := .bool true) rfl (by kernel_rfl) (by kernel_rfl) (by kernel_rfl) (fun _ _ _ h => h) (Or.inl ⟨by rfl, fun W hW => by clear hW; go_simp⟩) H2_.out ?_
  try simp only [Act.put, List.getElem_toArray, List.getElem_cons_succ, List.getElem_cons_zero, List.setIfInBounds_toArray, List.set_cons_zero, List.set_cons_succ]
  refine wpAnyH_done (by kernel_rfl) ?_ _
  clear H0 H1_
  go_wp2
  go_ret
  exact ⟨rfl, h3.tail⟩
set_option maxHeartbeats 1000000 in
theorem put_no (h0 : St w W ((g, C 79 #[.int .i64 R, .chan (some h), .chan (some k)]) :: (h, Ch p (bufM A) s1 r1) :: (k, Ch q (bufM B) s2 r2) :: L)) (H1 : ¬ A.length < p) (H2 : ¬ B.length < q) :
    Calls Try.prog 14 #[.pointer (some ⟨g, 0, none⟩), .agg m.arr] W fun e W' => e = .returned (.int .i64 5) ∧ St w W' ((g, C 79 #[.int .i64 R, .chan (some h), .chan (some k)]) :: (h, Ch p (bufM A) s1 r1) :: (k, Ch q (bufM B) s2 r2) :: L) := by
  replace H1 := Lib.hid H1
  replace H2 := Lib.hid H2
  go_enter Try.func14, Try.ntmps14
  go_wp2_with (refine wpList_box_st h0 31 _ rfl rfl m.arr rfl ?_; clear h0; intro W1 hb _ _)
  have h1 := hb.front.drew
  clear hb
  generalize W.heap.size = b at *
  have H0 := Lib.hid (show At W1.drew g 79 #[.int .i64 R, .chan (some h), .chan (some k)] ∧ At W1.drew b 31 m.arr from ⟨h1.get 1 rfl, h1.get 0 rfl⟩)
  refine wp_region_held_drew (S := fun W => At W g 79 #[.int .i64 R, .chan (some h), .chan (some k)] ∧ At W b 31 m.arr) (by kernel_rfl) H0.out (fun _ => ?_)
  generalize W1.drew = V0 at *
  refine wpAnyH_take (i := 0) (v := .pointer (some ⟨g, 0, none⟩)) rfl (by kernel_rfl) (by kernel_rfl) (by kernel_rfl) (fun _ _ _ h => h) (Or.inl ⟨by rfl, fun W hW => by clear hW; go_simp⟩) H0.out ?_
  try simp only [Act.put, List.getElem_toArray, List.getElem_cons_succ, List.getElem_cons_zero, List.setIfInBounds_toArray, List.set_cons_zero, List.set_cons_succ]
  refine wpAnyH_take (i := 1) (v := .pointer (some ⟨g, 0, none⟩)) rfl (by kernel_rfl) (by kernel_rfl) (by kernel_rfl) (fun _ _ _ h => h) (Or.inl ⟨by rfl, fun W hW => by clear hW; go_simp⟩) H0.out ?_
  try simp only [Act.put, List.getElem_toArray, List.getElem_cons_succ, List.getElem_cons_zero, List.setIfInBounds_toArray, List.set_cons_zero, List.set_cons_succ]
  refine wpAnyH_take (i := 2) (v := .pointer (some ⟨g, 1, none⟩)) rfl (by kernel_rfl) (by kernel_rfl) (by kernel_rfl) (fun _ _ _ h => h) (Or.inl ⟨by rfl, fun W hW => by clear hW; go_simp⟩) H0.out ?_
  try simp only [Act.put, List.getElem_toArray, List.getElem_cons_succ, List.getElem_cons_zero, List.setIfInBounds_toArray, List.set_cons_zero, List.set_cons_succ]
  refine wpAnyH_take (i := 3) (v := .chan (some h)) rfl (by kernel_rfl) (by kernel_rfl) (by kernel_rfl) (fun _ _ _ h => h) (Or.inl ⟨by rfl, fun W hW => by have hc := (show W.cell? ⟨g, 1, none⟩ = some (.chan (some h)) from hW.1.cell 1); clear hW; go_simp⟩) H0.out ?_
  try simp only [Act.put, List.getElem_toArray, List.getElem_cons_succ, List.getElem_cons_zero, List.setIfInBounds_toArray, List.set_cons_zero, List.set_cons_succ]
  refine wpAnyH_take (i := 4) (v := .agg m.arr) rfl (by kernel_rfl) (by kernel_rfl) (by kernel_rfl) (fun _ _ _ h => h) (yields_at 31 _ _ rfl (by rfl) rfl Try.underlying31 rfl (by rw [Msg.arr_size]; exact sz31) (fun W hW => hW.2)) H0.out ?_
  try simp only [Act.put, List.getElem_toArray, List.getElem_cons_succ, List.getElem_cons_zero, List.setIfInBounds_toArray, List.set_cons_zero, List.set_cons_succ]
  refine wpAnyH_ready (rs := [5]) (by kernel_rfl) (by simp) ?_
  refine AllReadyH.cons rfl (fun K hK => ?_) AllReadyH.nil
  go_simp
  go_at_call 37
  refine (send_no h1 2 rfl H1.out).mono ?_
  rintro e V1 ⟨rfl, h2⟩
  have H1_ := Lib.hid (show At V1 g 79 #[.int .i64 R, .chan (some h), .chan (some k)] ∧ At V1 b 31 m.arr from ⟨h2.get 1 rfl, h2.get 0 rfl⟩)
  clear h1
  refine hK.out _ _ H1_.out (fun _ => ?_)
  clear hK K
  try simp only [Act.put, List.getElem_toArray, List.getElem_cons_succ, List.getElem_cons_zero, List.setIfInBounds_toArray, List.set_cons_zero, List.set_cons_succ]
  refine wpAnyH_take (i := 6) (v := .bool false) rfl (by kernel_rfl) (by kernel_rfl) (by kernel_rfl) (fun _ _ _ h => h) (Or.inl ⟨by rfl, fun W hW => by clear hW; go_simp⟩) H1_.out ?_
  try simp only [Act.put, List.getElem_toArray, List.getElem_cons_succ, List.getElem_cons_zero, List.setIfInBounds_toArray, List.set_cons_zero, List.set_cons_succ]
  refine wpAnyH_take (i := 7) (v := .pointer (some ⟨g, 0, none⟩)) rfl (by kernel_rfl) (by kernel_rfl) (by kernel_rfl) (fun _ _ _ h => h) (Or.inl ⟨by rfl, fun W hW => by clear hW; go_simp⟩) H1_.out ?_
  try simp only [Act.put, List.getElem_toArray, List.getElem_cons_succ, List.getElem_cons_zero, List.setIfInBounds_toArray, List.set_cons_zero, List.set_cons_succ]
  refine wpAnyH_take (i := 8) (v := .pointer (some ⟨g, 0, none⟩)) rfl (by kernel_rfl) (by kernel_rfl) (by kernel_rfl) (fun _ _ _ h => h) (Or.inl ⟨by rfl, fun W hW => by clear hW; go_simp⟩) H1_.out ?_
  try simp only [Act.put, List.getElem_toArray, List.getElem_cons_succ, List.getElem_cons_zero, List.setIfInBounds_toArray, List.set_cons_zero, List.set_cons_succ]
  refine wpAnyH_take (i := 9) (v := .pointer (some ⟨g, 2, none⟩)) rfl (by kernel_rfl) (by kernel_rfl) (by kernel_rfl) (fun _ _ _ h => h) (Or.inl ⟨by rfl, fun W hW => by clear hW; go_simp⟩) H1_.out ?_
  try simp only [Act.put, List.getElem_toArray, List.getElem_cons_succ, List.getElem_cons_zero, List.setIfInBounds_toArray, List.set_cons_zero, List.set_cons_succ]
  refine wpAnyH_take (i := 10) (v := .chan (some k)) rfl (by kernel_rfl) (by kernel_rfl) (by kernel_rfl) (fun _ _ _ h => h) (Or.inl ⟨by rfl, fun W hW => by have hc := (show W.cell? ⟨g, 2, none⟩ = some (.chan (some k)) from hW.1.cell 2); clear hW; go_simp⟩) H1_.out ?_
  try simp only [Act.put, List.getElem_toArray, List.getElem_cons_succ, List.getElem_cons_zero, List.setIfInBounds_toArray, List.set_cons_zero, List.set_cons_succ]
  refine wpAnyH_take (i := 11) (v := .agg m.arr) rfl (by kernel_rfl) (by kernel_rfl) (by kernel_rfl) (fun _ _ _ h => h) (yields_at 31 _ _ rfl (by rfl) rfl Try.underlying31 rfl (by rw [Msg.arr_size]; exact sz31) (fun W hW => hW.2)) H1_.out ?_
  try simp only [Act.put, List.getElem_toArray, List.getElem_cons_succ, List.getElem_cons_zero, List.setIfInBounds_toArray, List.set_cons_zero, List.set_cons_succ]
  refine wpAnyH_ready (rs := [12]) (by kernel_rfl) (by simp) ?_
  refine AllReadyH.cons rfl (fun K hK => ?_) AllReadyH.nil
  go_simp
  go_at_call 37
  refine (send_no h2 3 rfl H2.out).mono ?_
  rintro e V2 ⟨rfl, h3⟩
  have H2_ := Lib.hid (show At V2 g 79 #[.int .i64 R, .chan (some h), .chan (some k)] ∧ At V2 b 31 m.arr from ⟨h3.get 1 rfl, h3.get 0 rfl⟩)
  clear h2
  refine hK.out _ _ H2_.out (fun _ => ?_)
  clear hK K
  try simp only [Act.put, List.getElem_toArray, List.getElem_cons_succ, List.getElem_cons_zero, List.setIfInBounds_toArray, List.set_cons_zero, List.set_cons_succ]
  refine wpAnyH_take (i := 13) (v := .bool false) rfl (by kernel_rfl) (by kernel_rfl) (by kernel_rfl) (fun _ _ _ h => h) (Or.inl ⟨by rfl, fun W hW => by clear hW; go_simp⟩) H2_.out ?_
  try simp only [Act.put, List.getElem_toArray, List.getElem_cons_succ, List.getElem_cons_zero, List.setIfInBounds_toArray, List.set_cons_zero, List.set_cons_succ]
  refine wpAnyH_done (by kernel_rfl) ?_ _
  clear H0 H1_
  go_wp2
  go_ret
  exact ⟨rfl, h3.tail⟩
end
end Go.Proofs.Ytacjdeppigdbjaa
