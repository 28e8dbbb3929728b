/- The document's net: its Take, which takes. No statement is proved here. -/
import Derived.Test.YtacjdeppigdbjaaRNet6
namespace Go.Proofs.Ytacjdeppigdbjaa
open Go.RowKit
set_option linter.unusedVariables false
set_option linter.unusedSimpArgs false
section
variable {w W : World} {g n R : Nat} {xs : List Sn} {L M : Blks}
attribute [local irreducible] Msg.arr bufM marr Sn.arr isS msgsTo numsTo hasO
theorem front6 {x z : Nat × Obj} {M M6 M7 L : Blks} {y : Nat × Obj} (h : St w W (x :: (M ++ (M6 ++ (M7 ++ (y :: z :: L)))))) : St w W (x :: y :: (M ++ (M6 ++ (M7 ++ L)))) := by
  have h1 := h.sub (M := x :: (M ++ (M6 ++ (M7 ++ (y :: L))))) (((((List.sublist_cons_self z L).cons_cons y).append_left M7).append_left M6).append_left M |>.cons_cons x)
  exact h1.perm (((((List.perm_middle.append_left M6).trans List.perm_middle).append_left M).trans List.perm_middle).cons x)
set_option maxHeartbeats 4000000 in
theorem rtake_cons2 (h : RN w W g n R xs L) (l : Lk) (hlen : xs.length ≤ 1000) (ho : hasO n l = true) {x : Msg} {ms : List Msg} {i : Nat} {is : List Int} (hi : i < xs.length) (hm : msgsTo l xs xs.length = x :: ms) (hn : numsTo l xs xs.length = (i : Int) :: is) :
    Calls Try.prog 26 #[.pointer (some ⟨g, 0, none⟩), .agg #[.int .i64 l.a, .int .i64 l.b, .int .i64 l.d], .bool false] W fun e W' => e = .returned (.tuple #[.agg x.arr, .int .i64 0]) ∧ RN w W' g n R (xs.take i ++ xs.drop (i + 1)) L := by
  have TH := Lib.hid (fun W L (h : RN w W g n R xs L) => rthere_rn h l)
  have AL := Lib.hid (fun W L (h : RN w W g n R xs L) => rall_cons h l hlen hm hn)
  rw [ho] at TH
  have z1 := (msgsTo_len l xs xs.length).1
  have z2 := (msgsTo_len l xs xs.length).2
  rw [hm, List.length_cons] at z1
  rw [hn, List.length_cons] at z2
  have q1 : 1 ≤ ms.length + 1 := by omega
  have q5 : 1 ≤ is.length + 1 := by omega
  generalize hN : ms.length + 1 = N at *
  generalize hN7 : is.length + 1 = N7 at *
  have q2 : N ≤ 1000 := by omega
  have q6 : N7 ≤ 1000 := by omega
  have q9 : (N7 = 0) = False := eq_false (by omega)
  have q10 : (N = 0) = False := eq_false (by omega)
  have q3 : ((N : Int) == 0) = false := by simp; omega
  have q4 : (N == 0) = false := by simp; omega
  have HL := Lib.hid hlen
  have HI := Lib.hid hi
  obtain ⟨m, hmi⟩ : ∃ m, m = i + 1 := ⟨_, rfl⟩
  rw [← hmi]
  replace hmi := Lib.hid hmi
  clear ho hm hn hlen z1 z2 hN hN7
  go_enter Try.func26, Try.ntmps26
  go_wp2_with (first
    | (refine wpList_box_rn h 51 _ rfl rfl #[.int .i64 l.a, .int .i64 l.b, .int .i64 l.d] rfl ?_; clear h; intro W1 h1; generalize W.heap.size = b4 at *)
    | (have _ := h1; refine wpList_alloc_rn h1 31 rfl rfl _ zmsg.arr zero31 rfl ?_; clear h1; intro W2 h2; generalize W1.heap.size = b6 at *)
    | (have _ := h2; refine wpList_loadL (l := l) (b := b4) (off := 0) (box_rangeL (h2.st.get 1 rfl)) (.tmp 4) rfl rfl rfl ?_)
    | (have _ := h2; go_at_call 30; refine (TH.out _ _ h2).mono ?_; clear h2; rintro e W3 ⟨rfl, h3⟩)
    | (have _ := h3; refine wpList_loadL (l := l) (b := b4) (off := 0) (box_rangeL (h3.st.get 1 rfl)) (.tmp 4) rfl rfl rfl ?_)
    | (have _ := h3; go_at_call 29; refine (AL.out _ _ h3).mono ?_; clear h3; rintro e W5 ⟨b8, o8, c8, b7, o7, c7, M6, M7, rfl, k8, k7, h5⟩; replace k8 := Lib.hid k8; replace k7 := Lib.hid k7)
  )
  replace h5 : RN w W5.drew g n R xs _ := h5.drewN 1
  obtain ⟨q7, q8, v, M, hrl, hs⟩ := h5
  obtain ⟨A, c, rfl, hA0⟩ := hrl.form
  cases A with
  | none => have h9 := (hA0 rfl).1; have := HI.out; subst h9; simp at this
  | some ad =>
  have hrow := hrl.row (hs.perm (List.perm_middle (l₁ := M)).symm) rfl
  obtain ⟨_, _, e1, _, rr⟩ := hrow.at_ i _ (List.getElem?_eq_getElem HI.out)
  obtain ⟨bl, ol, spot⟩ := ad
  injection e1 with e1
  injection e1 with e1 e2 e3
  subst e3
  clear e1 e2
  have hnc := hrow.2.1
  have hcm : c ≤ 9223372036854775807 := by have := hrow.2.2.1; unfold maxLen at this; omega
  replace hs := front6 hs
  have QQ := Lib.hid (And.intro q7 q8)
  have hil := HI.out
  replace hmi := hmi.out
  have hl1 := HL.out
  have T1 : ∀ V X2, St w V ((g, C 68 #[.int .i64 (n : Int), .int .i64 (R : Int), .slice (some ⟨bl, ol, none⟩) xs.length c]) :: (b6, C 31 zmsg.arr) :: (M ++ X2)) → ERow V V.heap.size (some ⟨bl, ol, none⟩) i c (xs.take i) := fun V X2 h =>
    (hrl.row (h.tail.tail) rfl).take i (by omega)
  have T2 : ∀ V X2, St w V ((g, C 68 #[.int .i64 (n : Int), .int .i64 (R : Int), .slice (some ⟨bl, ol, none⟩) xs.length c]) :: (b6, C 31 zmsg.arr) :: (M ++ X2)) → ERow V V.heap.size (dropA (some ⟨bl, ol, none⟩) c m 39) (xs.length - m) (c - m) (xs.drop m) := fun V X2 h =>
    (hrl.row (h.tail.tail) rfl).from_ m (by omega)
  have l1 := Lib.hid (show ([] : List Sn).length + i ≤ 100000 by simp; omega)
  have l2 := Lib.hid (show (xs.take i).length + (xs.length - m) ≤ 100000 by simp; omega)
  have FIN := Lib.hid (fun V v3 M3 (hr : RL v3 (xs.take i ++ xs.drop m) M3) (h : St w V ((g, C 68 #[.int .i64 (n : Int), .int .i64 (R : Int), v3]) :: (M3 ++ L))) => show RN w V g n R (xs.take i ++ xs.drop m) L from ⟨QQ.out.1, QQ.out.2, v3, M3, hr, h⟩)
  replace T1 := Lib.hid T1
  replace T2 := Lib.hid T2
  clear rr hrow hA0 q7 q8 HL HI
  generalize xs.length = nx at *
  generalize hT : M6 ++ (M7 ++ L) = T at *
  have HC := Lib.hid (fun V Y (h : St w V ((g, C 68 #[.int .i64 (n : Int), .int .i64 (R : Int), .slice (some ⟨bl, ol, none⟩) nx c]) :: (b6, C 31 zmsg.arr) :: (Y ++ (M ++ T)))) => show V.cell? ⟨b7, o7, none⟩ = some (.int .i64 (i : Int)) from by
    rw [← hT] at h
    exact k7.out V L (h.tail.tail.sub ((List.sublist_append_right M6 _).trans ((List.sublist_append_right M _).trans (List.sublist_append_right Y _)))))
  have HX := Lib.hid (fun V ar Y (h : St w V ((g, C 68 ar) :: (b6, C 31 zmsg.arr) :: (Y ++ (M ++ T)))) => show V.rangeAt b8 o8 x.cs from by
    rw [← hT] at h
    exact k8.out V _ (h.tail.tail.sub ((List.sublist_append_right M _).trans (List.sublist_append_right Y _))))
  have b1 : i ≤ nx := by omega
  have b2 : m ≤ nx := by omega
  have b3 : i ≤ c := by omega
  have b4' : m ≤ c := by omega
  have q0 : ((i : Int) < 0) = False := eq_false (by omega)
  have hmI : (i : Int) + 1 = (m : Int) := by omega
  have hw : IntKind.i64.wrap (m : Int) = (m : Int) := IntWalk.i64_in _ (by omega)
  have QI := Lib.hid (And.intro hmi hil)
  clear hmi hil hl1 k7 k8
  refine wp_region_last (fun W => At W g 68 #[.int .i64 (n : Int), .int .i64 (R : Int), .slice (some ⟨bl, ol, none⟩) nx c] ∧ W.cell? ⟨b7, o7, none⟩ = some (.int .i64 (i : Int))) 10 (by kernel_rfl) ?_
  generalize World.drew _ = V0 at *
  have H0 := Lib.hid (show At V0 g 68 #[.int .i64 (n : Int), .int .i64 (R : Int), .slice (some ⟨bl, ol, none⟩) nx c] ∧ V0.cell? ⟨b7, o7, none⟩ = some (.int .i64 (i : Int)) from ⟨hs.get 0 rfl, HC.out _ [] hs⟩)
  refine AnyT.take (i := 1) (v := .pointer (some ⟨g, 0, none⟩)) rfl (by kernel_rfl) (by kernel_rfl) (by kernel_rfl) (by kernel_rfl) (by decide) (fun _ _ _ h => h) (Or.inl ⟨by rfl, fun W hW => by clear hW; go_simp⟩) H0.out ?_
  try simp only [Act.put, List.getElem_toArray, List.getElem_cons_succ, List.getElem_cons_zero, List.setIfInBounds_toArray, List.set_cons_zero, List.set_cons_succ]
  refine AnyT.take (i := 2) (v := .pointer (some ⟨g, 0, none⟩)) rfl (by kernel_rfl) (by kernel_rfl) (by kernel_rfl) (by kernel_rfl) (by decide) (fun _ _ _ h => h) (Or.inl ⟨by rfl, fun W hW => by clear hW; go_simp⟩) H0.out ?_
  try simp only [Act.put, List.getElem_toArray, List.getElem_cons_succ, List.getElem_cons_zero, List.setIfInBounds_toArray, List.set_cons_zero, List.set_cons_succ]
  refine AnyT.take (i := 3) (v := .pointer (some ⟨g, 2, none⟩)) rfl (by kernel_rfl) (by kernel_rfl) (by kernel_rfl) (by kernel_rfl) (by decide) (fun _ _ _ h => h) (Or.inl ⟨by rfl, fun W hW => by clear hW; go_simp⟩) H0.out ?_
  try simp only [Act.put, List.getElem_toArray, List.getElem_cons_succ, List.getElem_cons_zero, List.setIfInBounds_toArray, List.set_cons_zero, List.set_cons_succ]
  refine AnyT.take (i := 4) (v := .slice (some ⟨bl, ol, none⟩) nx c) rfl (by kernel_rfl) (by kernel_rfl) (by kernel_rfl) (by kernel_rfl) (by decide) (fun _ _ _ h => h) (Or.inl ⟨by rfl, fun W hW => by have hc := (show W.cell? ⟨g, 2, none⟩ = some (.slice (some ⟨bl, ol, none⟩) nx c) from hW.1.cell 2); clear hW; go_simp⟩) H0.out ?_
  try simp only [Act.put, List.getElem_toArray, List.getElem_cons_succ, List.getElem_cons_zero, List.setIfInBounds_toArray, List.set_cons_zero, List.set_cons_succ]
  refine AnyT.take (i := 5) (v := .slice (some ⟨b7, o7, none⟩) N7 c7) rfl (by kernel_rfl) (by kernel_rfl) (by kernel_rfl) (by kernel_rfl) (by decide) (fun _ _ _ h => h) (Or.inl ⟨by rfl, fun W hW => by clear hW; go_simp⟩) H0.out ?_
  try simp only [Act.put, List.getElem_toArray, List.getElem_cons_succ, List.getElem_cons_zero, List.setIfInBounds_toArray, List.set_cons_zero, List.set_cons_succ]
  refine AnyT.take (i := 6) (v := .pointer (some ⟨b7, o7, none⟩)) rfl (by kernel_rfl) (by kernel_rfl) (by kernel_rfl) (by kernel_rfl) (by decide) (fun _ _ _ h => h) (Or.inl ⟨by rfl, fun W hW => by clear hW; go_simp⟩) H0.out ?_
  try simp only [Act.put, List.getElem_toArray, List.getElem_cons_succ, List.getElem_cons_zero, List.setIfInBounds_toArray, List.set_cons_zero, List.set_cons_succ]
  refine AnyT.take (i := 7) (v := .int .i64 (i : Int)) rfl (by kernel_rfl) (by kernel_rfl) (by kernel_rfl) (by kernel_rfl) (by decide) (fun _ _ _ h => h) (Or.inl ⟨by rfl, fun W hW => by have hc := hW.2; clear hW; go_simp⟩) H0.out ?_
  try simp only [Act.put, List.getElem_toArray, List.getElem_cons_succ, List.getElem_cons_zero, List.setIfInBounds_toArray, List.set_cons_zero, List.set_cons_succ]
  refine AnyT.take (i := 8) (v := .slice (some ⟨bl, ol, none⟩) i c) rfl (by kernel_rfl) (by kernel_rfl) (by kernel_rfl) (by kernel_rfl) (by decide) (fun _ _ _ h => h) (Or.inl ⟨by rfl, fun W hW => by clear hW; go_simp⟩) H0.out ?_
  try simp only [Act.put, List.getElem_toArray, List.getElem_cons_succ, List.getElem_cons_zero, List.setIfInBounds_toArray, List.set_cons_zero, List.set_cons_succ]
  refine AnyT.one (i := 0) (by kernel_rfl) rfl (fun K hK => ?_)
  rw [if_pos (by rfl)]
  refine wp_build0_st (α := Sn) hs rfl ?_
  clear hs
  intro V1 v4 M4 hv4 r4 h4 _
  replace h4 := St.swap (X := M4) (M := [_, _]) h4
  have H1 := Lib.hid (show At V1 g 68 #[.int .i64 (n : Int), .int .i64 (R : Int), .slice (some ⟨bl, ol, none⟩) nx c] ∧ V1.cell? ⟨b7, o7, none⟩ = some (.int .i64 (i : Int)) from ⟨h4.get 0 rfl, HC.out _ M4 h4⟩)
  refine hK.out _ _ (fun _ => H1.out) ?_
  clear hK K
  try simp only [Act.put, List.getElem_toArray, List.getElem_cons_succ, List.getElem_cons_zero, List.setIfInBounds_toArray, List.set_cons_zero, List.set_cons_succ]
  refine AnyT.one (i := 9) (by kernel_rfl) rfl (fun K hK => ?_)
  rw [if_pos (by rfl)]
  refine wp_append_rl r4 (St.swap (X := [_, _]) h4) (T1.out _ (M4 ++ T) (h4.perm (((List.perm_append_comm_assoc M4 M T).cons _).cons _))) (.tmp 28) (.tmp 36) rfl rfl rfl l1.out ?_
  intro v5 V2 M5 r5 h5
  replace h5 := St.swap (X := M5) (M := [_, _]) h5
  rw [List.nil_append] at r5
  have H2 := Lib.hid (show At V2 g 68 #[.int .i64 (n : Int), .int .i64 (R : Int), .slice (some ⟨bl, ol, none⟩) nx c] ∧ V2.cell? ⟨b7, o7, none⟩ = some (.int .i64 (i : Int)) from ⟨h5.get 0 rfl, HC.out _ M5 h5⟩)
  clear h4 H1 r4
  refine hK.out _ _ (fun _ => H2.out) ?_
  clear hK K
  try simp only [Act.put, List.getElem_toArray, List.getElem_cons_succ, List.getElem_cons_zero, List.setIfInBounds_toArray, List.set_cons_zero, List.set_cons_succ]
  refine AnyT.one (i := 10) (by kernel_rfl) rfl (fun K hK => ?_)
  rw [if_pos (by rfl)]
  go_simp
  refine hK.out _ _ (fun h => absurd rfl h) ?_
  clear hK K
  try simp only [Act.put, List.getElem_toArray, List.getElem_cons_succ, List.getElem_cons_zero, List.setIfInBounds_toArray, List.set_cons_zero, List.set_cons_succ]
  refine AnyT.done (by kernel_rfl) ?_ _
  go_wp2
  replace h5 := h5.drew
  refine wp_region_last (fun W => At W g 68 #[.int .i64 (n : Int), .int .i64 (R : Int), .slice (some ⟨bl, ol, none⟩) nx c] ∧ W.cell? ⟨b7, o7, none⟩ = some (.int .i64 (i : Int))) 14 (by kernel_rfl) ?_
  generalize World.drew _ = V3 at *
  have H3 := Lib.hid (show At V3 g 68 #[.int .i64 (n : Int), .int .i64 (R : Int), .slice (some ⟨bl, ol, none⟩) nx c] ∧ V3.cell? ⟨b7, o7, none⟩ = some (.int .i64 (i : Int)) from ⟨h5.get 0 rfl, HC.out _ M5 h5⟩)
  clear H2
  refine AnyT.take (i := 0) (v := .pointer (some ⟨g, 0, none⟩)) rfl (by kernel_rfl) (by kernel_rfl) (by kernel_rfl) (by kernel_rfl) (by decide) (fun _ _ _ h => h) (Or.inl ⟨by rfl, fun W hW => by clear hW; go_simp⟩) H3.out ?_
  try simp only [Act.put, List.getElem_toArray, List.getElem_cons_succ, List.getElem_cons_zero, List.setIfInBounds_toArray, List.set_cons_zero, List.set_cons_succ]
  refine AnyT.take (i := 1) (v := v5) rfl (by kernel_rfl) (by kernel_rfl) (by kernel_rfl) (by kernel_rfl) (by decide) (fun _ _ _ h => h) (Or.inl ⟨by rfl, fun W hW => by clear hW; go_simp⟩) H3.out ?_
  try simp only [Act.put, List.getElem_toArray, List.getElem_cons_succ, List.getElem_cons_zero, List.setIfInBounds_toArray, List.set_cons_zero, List.set_cons_succ]
  refine AnyT.take (i := 2) (v := .pointer (some ⟨g, 0, none⟩)) rfl (by kernel_rfl) (by kernel_rfl) (by kernel_rfl) (by kernel_rfl) (by decide) (fun _ _ _ h => h) (Or.inl ⟨by rfl, fun W hW => by clear hW; go_simp⟩) H3.out ?_
  try simp only [Act.put, List.getElem_toArray, List.getElem_cons_succ, List.getElem_cons_zero, List.setIfInBounds_toArray, List.set_cons_zero, List.set_cons_succ]
  refine AnyT.take (i := 3) (v := .pointer (some ⟨g, 0, none⟩)) rfl (by kernel_rfl) (by kernel_rfl) (by kernel_rfl) (by kernel_rfl) (by decide) (fun _ _ _ h => h) (Or.inl ⟨by rfl, fun W hW => by clear hW; go_simp⟩) H3.out ?_
  try simp only [Act.put, List.getElem_toArray, List.getElem_cons_succ, List.getElem_cons_zero, List.setIfInBounds_toArray, List.set_cons_zero, List.set_cons_succ]
  refine AnyT.take (i := 4) (v := .pointer (some ⟨g, 2, none⟩)) rfl (by kernel_rfl) (by kernel_rfl) (by kernel_rfl) (by kernel_rfl) (by decide) (fun _ _ _ h => h) (Or.inl ⟨by rfl, fun W hW => by clear hW; go_simp⟩) H3.out ?_
  try simp only [Act.put, List.getElem_toArray, List.getElem_cons_succ, List.getElem_cons_zero, List.setIfInBounds_toArray, List.set_cons_zero, List.set_cons_succ]
  refine AnyT.take (i := 5) (v := .slice (some ⟨bl, ol, none⟩) nx c) rfl (by kernel_rfl) (by kernel_rfl) (by kernel_rfl) (by kernel_rfl) (by decide) (fun _ _ _ h => h) (Or.inl ⟨by rfl, fun W hW => by have hc := (show W.cell? ⟨g, 2, none⟩ = some (.slice (some ⟨bl, ol, none⟩) nx c) from hW.1.cell 2); clear hW; go_simp⟩) H3.out ?_
  try simp only [Act.put, List.getElem_toArray, List.getElem_cons_succ, List.getElem_cons_zero, List.setIfInBounds_toArray, List.set_cons_zero, List.set_cons_succ]
  refine AnyT.take (i := 6) (v := .slice (some ⟨b7, o7, none⟩) N7 c7) rfl (by kernel_rfl) (by kernel_rfl) (by kernel_rfl) (by kernel_rfl) (by decide) (fun _ _ _ h => h) (Or.inl ⟨by rfl, fun W hW => by clear hW; go_simp⟩) H3.out ?_
  try simp only [Act.put, List.getElem_toArray, List.getElem_cons_succ, List.getElem_cons_zero, List.setIfInBounds_toArray, List.set_cons_zero, List.set_cons_succ]
  refine AnyT.take (i := 7) (v := .pointer (some ⟨b7, o7, none⟩)) rfl (by kernel_rfl) (by kernel_rfl) (by kernel_rfl) (by kernel_rfl) (by decide) (fun _ _ _ h => h) (Or.inl ⟨by rfl, fun W hW => by clear hW; go_simp⟩) H3.out ?_
  try simp only [Act.put, List.getElem_toArray, List.getElem_cons_succ, List.getElem_cons_zero, List.setIfInBounds_toArray, List.set_cons_zero, List.set_cons_succ]
  refine AnyT.take (i := 8) (v := .int .i64 (i : Int)) rfl (by kernel_rfl) (by kernel_rfl) (by kernel_rfl) (by kernel_rfl) (by decide) (fun _ _ _ h => h) (Or.inl ⟨by rfl, fun W hW => by have hc := hW.2; clear hW; go_simp⟩) H3.out ?_
  try simp only [Act.put, List.getElem_toArray, List.getElem_cons_succ, List.getElem_cons_zero, List.setIfInBounds_toArray, List.set_cons_zero, List.set_cons_succ]
  refine AnyT.take (i := 9) (v := .int .i64 (m : Int)) rfl (by kernel_rfl) (by kernel_rfl) (by kernel_rfl) (by kernel_rfl) (by decide) (fun _ _ _ h => h) (Or.inl ⟨by rfl, fun W hW => by clear hW; go_simp⟩) H3.out ?_
  try simp only [Act.put, List.getElem_toArray, List.getElem_cons_succ, List.getElem_cons_zero, List.setIfInBounds_toArray, List.set_cons_zero, List.set_cons_succ]
  refine AnyT.take (i := 10) (v := .slice (dropA (some ⟨bl, ol, none⟩) c m 39) (nx - m) (c - m)) rfl (by kernel_rfl) (by kernel_rfl) (by kernel_rfl) (by kernel_rfl) (by decide) (fun _ _ _ h => h) (Or.inl ⟨by rfl, fun W hW => exec_slice_from (α := Sn) _ _ rfl rfl rfl b2 hnc W⟩) H3.out ?_
  try simp only [Act.put, List.getElem_toArray, List.getElem_cons_succ, List.getElem_cons_zero, List.setIfInBounds_toArray, List.set_cons_zero, List.set_cons_succ]
  refine AnyT.one (i := 11) (by kernel_rfl) rfl (fun K hK => ?_)
  rw [if_pos (by rfl)]
  refine wp_append_rl r5 (St.swap (X := [_, _]) h5) (T2.out _ (M5 ++ T) (h5.perm (((List.perm_append_comm_assoc M5 M T).cons _).cons _))) (.tmp 39) (.tmp 48) rfl rfl rfl l2.out ?_
  intro v6 V5 Mx rx h6
  replace h6 := St.swap (X := Mx) (M := [_, _]) h6
  have H4 := Lib.hid (show At V5 g 68 #[.int .i64 (n : Int), .int .i64 (R : Int), .slice (some ⟨bl, ol, none⟩) nx c] ∧ V5.cell? ⟨b7, o7, none⟩ = some (.int .i64 (i : Int)) from ⟨h6.get 0 rfl, HC.out _ Mx h6⟩)
  clear h5 H3 r5
  refine hK.out _ _ (fun _ => H4.out) ?_
  clear hK K
  try simp only [Act.put, List.getElem_toArray, List.getElem_cons_succ, List.getElem_cons_zero, List.setIfInBounds_toArray, List.set_cons_zero, List.set_cons_succ]
  refine AnyT.one (i := 12) (by kernel_rfl) rfl (fun K hK => ?_)
  go_simp
  refine hK.out _ _ (fun _ => H4.out) ?_
  clear hK K
  try simp only [Act.put, List.getElem_toArray, List.getElem_cons_succ, List.getElem_cons_zero, List.setIfInBounds_toArray, List.set_cons_zero, List.set_cons_succ]
  refine AnyT.take (i := 13) (v := .pointer (some ⟨g, 2, none⟩)) rfl (by kernel_rfl) (by kernel_rfl) (by kernel_rfl) (by kernel_rfl) (by decide) (fun _ _ _ h => h) (Or.inl ⟨by rfl, fun W hW => by clear hW; go_simp⟩) H4.out ?_
  try simp only [Act.put, List.getElem_toArray, List.getElem_cons_succ, List.getElem_cons_zero, List.setIfInBounds_toArray, List.set_cons_zero, List.set_cons_succ]
  refine AnyT.one (i := 14) (by kernel_rfl) rfl (fun K hK => ?_)
  rw [if_pos (by rfl)]
  refine wp_cell_st h6 0 rfl 66 (.tmp 51) (.tmp 49) rfl 2 v6 rfl rfl (by simp) (rl_cellsS rx).1 (rl_cellsS rx).2 sz66 ?_
  intro V6 h7
  clear h6 H4
  refine hK.out _ _ (fun h => absurd rfl h) ?_
  clear hK K
  try simp only [Act.put, List.getElem_toArray, List.getElem_cons_succ, List.getElem_cons_zero, List.setIfInBounds_toArray, List.set_cons_zero, List.set_cons_succ]
  refine AnyT.done (by kernel_rfl) ?_ _
  replace h7 : St w V6 ((g, C 68 #[.int .i64 (n : Int), .int .i64 (R : Int), v6]) :: (b6, C 31 zmsg.arr) :: (Mx ++ (M ++ T))) := h7
  have r8 := Lib.hid (HX.out _ _ _ h7)
  go_wp2_with (first
    | (have _ := h7; refine wpList_loadM (m := x) (b := b8) (off := o8) r8.out (.tmp 53) rfl rfl rfl ?_)
    | (have _ := h7; refine wpList_store_st (arr' := x.arr) h7 1 rfl 31 (.tmp 6) (.tmp 54) rfl rfl rfl rfl (by rw [Msg.arr_size]; exact sz31) (by simp only [Msg.arr_size]) (Msg.arr_one _) ?_; clear h7; intro V7 h8 _)
  )
  replace h8 : St w V7 ((g, C 68 #[.int .i64 (n : Int), .int .i64 (R : Int), v6]) :: (b6, C 31 x.arr) :: (Mx ++ (M ++ T))) := h8
  refine bodyPost_ret (results_msg Try.results26 _ _ b6 rfl x (h8.get 1 rfl)) rfl ⟨rfl, FIN.out _ _ _ rx ?_⟩
  rw [← hT] at h8
  exact h8.sub (((((List.sublist_append_right M7 L).trans (List.sublist_append_right M6 _)).trans (List.sublist_append_right M _)).append_left Mx).trans (List.sublist_cons_self _ _) |>.cons_cons _)
end
end Go.Proofs.Ytacjdeppigdbjaa
