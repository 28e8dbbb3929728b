/- The document's cache: New, Oldest, Room, Set, Touch. No statement is proved here. -/
import Derived.Test.YtmlepikgiicaiaaRCache
namespace Go.Proofs.Ytmlepikgiicaiaa
open Go.RowKit
set_option linter.unusedVariables false
set_option linter.unusedSimpArgs false

section
variable {w W W' : World} {gr S N : Nat} {l : List Ent} {L M : Blks}
set_option maxRecDepth 20000 in
set_option maxHeartbeats 1000000 in
theorem rnew_any (h : St w W L) (s1 s2 : Int) :
    Calls Try.prog 9 #[.agg #[.int .i64 s1, .int .i64 s2]] W fun e W' => ∃ gr, e = .returned (.pointer (some ⟨gr, 0, none⟩)) ∧ RC w W' gr (fitN s1) (fitN s2) [] L := by
  have WI1 := Lib.hid (fun W => fitR_any s1 W)
  have WI2 := Lib.hid (fun W => fitR_any s2 W)
  have F := Lib.hid (fun (V : World) (gr : Nat) (X : Nat × Obj) (h : St w V ((gr, C 43 #[.int .i64 (fitN s1 : Nat), .int .i64 (fitN s2 : Nat), .slice none 0 0]) :: X :: L)) => show RC w V gr (fitN s1) (fitN s2) [] L from
    ⟨_, [], RL.nil_, h.sub ((List.sublist_cons_self X L).cons_cons _)⟩)
  generalize fitN s1 = N1 at *
  generalize fitN s2 = N2 at *
  go_enter Try.func9, Try.ntmps9
  go_wp2_with (refine wpList_box_st h 23 _ rfl rfl #[.int .i64 s1, .int .i64 s2] rfl ?_; clear h; intro W1 h1 _ hb1; replace h1 := h1.front; generalize W.heap.size = sp at *)
  have CB := Lib.hid (fun (V : World) (X : Blks) (hs : St w V X) (m1 : (sp, C 23 #[.int .i64 s1, .int .i64 s2]) ∈ X) => show V.cell? ⟨sp, 0, none⟩ = some (.int .i64 s1) ∧ V.cell? ⟨sp, 1, none⟩ = some (.int .i64 s2) from by
    have a1 : At V sp 23 #[.int .i64 s1, .int .i64 s2] := hs.at_ _ m1
    exact ⟨a1.cell 0, a1.cell 1⟩)
  have HS0 := Lib.hid h1.drew
  have H0 := Lib.hid (CB.out _ _ HS0.out (by simp))
  clear h1
  refine wp_region_last (fun W => W.cell? ⟨sp, 0, none⟩ = some (.int .i64 s1) ∧ W.cell? ⟨sp, 1, none⟩ = some (.int .i64 s2)) 8 (by kernel_rfl) ?_
  generalize W1.drew = V0 at *
  refine AnyT.take (i := 0) (v := .pointer (some ⟨sp, 0, none⟩)) rfl (by kernel_rfl) (by kernel_rfl) (by kernel_rfl) (by kernel_rfl) (by decide) (fun _ _ _ h => h) (Or.inl ⟨by rfl, fun W hW => by clear hW; go_simp⟩) H0.out ?_
  try simp only [Act.put, List.getElem_toArray, List.getElem_cons_succ, List.getElem_cons_zero, List.setIfInBounds_toArray, List.set_cons_zero, List.set_cons_succ]
  refine AnyT.take (i := 1) (v := .int .i64 s1) rfl (by kernel_rfl) (by kernel_rfl) (by kernel_rfl) (by kernel_rfl) (by decide) (fun _ _ _ h => h) (Or.inl ⟨by rfl, fun W hW => by have hc := (show W.cell? ⟨sp, 0, none⟩ = some (.int .i64 s1) from hW.1); clear hW; go_simp⟩) H0.out ?_
  try simp only [Act.put, List.getElem_toArray, List.getElem_cons_succ, List.getElem_cons_zero, List.setIfInBounds_toArray, List.set_cons_zero, List.set_cons_succ]
  refine AnyT.take (i := 3) (v := .pointer (some ⟨sp, 1, none⟩)) rfl (by kernel_rfl) (by kernel_rfl) (by kernel_rfl) (by kernel_rfl) (by decide) (fun _ _ _ h => h) (Or.inl ⟨by rfl, fun W hW => by clear hW; go_simp⟩) H0.out ?_
  try simp only [Act.put, List.getElem_toArray, List.getElem_cons_succ, List.getElem_cons_zero, List.setIfInBounds_toArray, List.set_cons_zero, List.set_cons_succ]
  refine AnyT.take (i := 4) (v := .int .i64 s2) rfl (by kernel_rfl) (by kernel_rfl) (by kernel_rfl) (by kernel_rfl) (by decide) (fun _ _ _ h => h) (Or.inl ⟨by rfl, fun W hW => by have hc := (show W.cell? ⟨sp, 1, none⟩ = some (.int .i64 s2) from hW.2); clear hW; go_simp⟩) H0.out ?_
  try simp only [Act.put, List.getElem_toArray, List.getElem_cons_succ, List.getElem_cons_zero, List.setIfInBounds_toArray, List.set_cons_zero, List.set_cons_succ]
  refine AnyT.one (i := 2) (by kernel_rfl) rfl (fun K hK => ?_)
  go_simp
  go_at_call 26
  refine (WI1.out _).mono ?_
  rintro e V1 ⟨rfl, rfl⟩
  have H1_ := Lib.hid H0.out
  refine hK.out _ _ (fun _ => H1_.out) ?_
  clear hK K
  try simp only [Act.put, List.getElem_toArray, List.getElem_cons_succ, List.getElem_cons_zero, List.setIfInBounds_toArray, List.set_cons_zero, List.set_cons_succ]
  refine AnyT.one (i := 5) (by kernel_rfl) rfl (fun K hK => ?_)
  go_simp
  go_at_call 26
  refine (WI2.out _).mono ?_
  rintro e V2 ⟨rfl, rfl⟩
  have H2_ := Lib.hid H1_.out
  refine hK.out _ _ (fun _ => H2_.out) ?_
  clear hK K
  try simp only [Act.put, List.getElem_toArray, List.getElem_cons_succ, List.getElem_cons_zero, List.setIfInBounds_toArray, List.set_cons_zero, List.set_cons_succ]
  refine AnyT.take (i := 6) (v := .agg #[.int .i64 (N1 : Int), .int .i64 (N2 : Int), .slice none 0 0]) rfl (by kernel_rfl) (by kernel_rfl) (by kernel_rfl) (by kernel_rfl) (by decide) (fun _ _ _ h => h) (Or.inl ⟨by rfl, fun W hW => by clear hW; go_simp⟩) H2_.out ?_
  try simp only [Act.put, List.getElem_toArray, List.getElem_cons_succ, List.getElem_cons_zero, List.setIfInBounds_toArray, List.set_cons_zero, List.set_cons_succ]
  refine AnyT.one (i := 7) (by kernel_rfl) rfl (fun K hK => ?_)
  rw [if_pos (by rfl)]
  refine wp_box_st HS0.out 43 (.tmp 9) rfl #[.int .i64 (N1 : Int), .int .i64 (N2 : Int), .slice none 0 0] rfl ?_
  intro V4 h4
  replace h4 := h4.front
  have H4_ := Lib.hid (CB.out V4 _ h4 (by simp))
  have HS4 := Lib.hid h4
  clear h4
  generalize V2.heap.size = gr at *
  refine hK.out _ _ (fun _ => H4_.out) ?_
  clear hK K
  try simp only [Act.put, List.getElem_toArray, List.getElem_cons_succ, List.getElem_cons_zero, List.setIfInBounds_toArray, List.set_cons_zero, List.set_cons_succ]
  refine AnyT.one (i := 8) (by kernel_rfl) rfl (fun K hK => ?_)
  rw [if_pos (by rfl)]
  go_simp
  refine hK.out _ _ (fun h => absurd rfl h) ?_
  clear hK K
  try simp only [Act.put, List.getElem_toArray, List.getElem_cons_succ, List.getElem_cons_zero, List.setIfInBounds_toArray, List.set_cons_zero, List.set_cons_succ]
  refine AnyT.done (by kernel_rfl) ?_ _
  go_wp2
  go_ret
  exact ⟨gr, rfl, F.out _ _ _ HS4.out⟩
/-- The numbers of a number's set, in the list's order. -/
def oldR (S : Nat) (l : List Ent) (k : Int) : List Int := if k < 0 then [] else (l.filter (fun e => e.k % (S : Int) == k % (S : Int))).map (·.k)
theorem oldR_len (S : Nat) (l : List Ent) (k : Int) : (oldR S l k).length ≤ l.length := by
  unfold oldR
  split
  · simp
  · rw [List.length_map]; exact List.length_filter_le _ _
theorem oldR_take (S : Nat) (l : List Ent) (k : Int) (hk : 0 ≤ k) (j : Nat) (e : Ent) (he : l[j]? = some e) : oldR S (l.take (j + 1)) k = oldR S (l.take j) k ++ (if (e.k % (S : Int) == k % (S : Int)) = true then [e.k] else []) := by
  unfold oldR
  rw [if_neg (by omega), if_neg (by omega), List.take_add_one, he, List.filter_append, List.map_append]
  congr 1
  simp only [Option.toList_some, List.filter_cons, List.filter_nil]
  split <;> rfl
theorem RC.fix (h : RC w W gr S N l L) : ∃ (A : Option Addr) (p : Nat) (Y : Blks), St w W (Y ++ L) ∧ (l.length ≤ p ∧ p ≤ 9223372036854775807) ∧ ∀ V X, St w V (Y ++ X) → RC w V gr S N l X ∧ V.cell? ⟨gr, 0, none⟩ = some (.int .i64 (S : Int)) ∧ V.cell? ⟨gr, 1, none⟩ = some (.int .i64 (N : Int)) ∧ V.cell? ⟨gr, 2, none⟩ = some (.slice A l.length p) ∧ ERow V V.heap.size A l.length p (l.map toP) := by
  obtain ⟨v, M, hr, hs⟩ := h
  obtain ⟨A, p, rfl, _⟩ := hr.form
  have hr2 := hr.row (hs.perm (List.perm_middle (l₁ := M)).symm) rfl
  have hb : l.length ≤ p ∧ p ≤ 9223372036854775807 := by
    have h1 := hr2.2.1
    have h2 := hr2.2.2.1
    rw [List.length_map] at h1
    unfold maxLen at h2
    exact ⟨h1, by omega⟩
  refine ⟨A, p, (gr, C 43 #[.int .i64 (S : Int), .int .i64 (N : Int), .slice A (l.map toP).length p]) :: M, hs, hb, fun V X h' => ?_⟩
  have hA : At V gr 43 #[.int .i64 (S : Int), .int .i64 (N : Int), .slice A (l.map toP).length p] := h'.get 0 rfl
  have hr3 := hr.row (St.perm h' (List.perm_middle (l₁ := M)).symm) rfl
  refine ⟨⟨_, M, hr, h'⟩, hA.cell 0, hA.cell 1, ?_, ?_⟩
  · rw [List.length_map] at hA; exact hA.cell 2
  · rw [List.length_map] at hr3; exact hr3
theorem oldR_zero (S : Nat) (l : List Ent) (k : Int) : oldR S (l.take 0) k = [] := by simp [oldR]
def OlRel (w : World) (Y : Blks) (S : Nat) (l : List Ent) (k : Int) (L : Blks) (s i : Value) (wr : World) : Prop :=
  ∃ (j : Nat) (M : Blks), j ≤ l.length ∧ i = .int .i64 (j : Nat) ∧ RL s (oldR S (l.take j) k) M ∧ St w wr (Y ++ (M ++ L))
set_option maxHeartbeats 4000000 in
theorem roldest_any (h : RC w W gr S N l L) (k : Int) (hk : k ≤ 9223372036854775807) (HP : ∀ e ∈ l, 0 ≤ e.k ∧ e.k ≤ 9223372036854775807) (hS : 1 ≤ S) (hS2 : S ≤ 64) (hl : l.length ≤ 1000) :
    Calls Try.prog 20 #[.pointer (some ⟨gr, 0, none⟩), .int .i64 k] W fun e W' => ∃ v M, e = .returned v ∧ RL v (oldR S l k) M ∧ RC w W' gr S N l (M ++ L) := by
  obtain ⟨A, p, Y, hs, hb, FX⟩ := h.fix
  clear h
  by_cases h0 : k < 0
  · have e1 : Hid (oldR S l k = []) := show _ = _ by unfold oldR; rw [if_pos h0]
    generalize oldR S l k = D at *
    have q : (0 ≤ k) = False := eq_false (by omega)
    have q1 : decide (0 ≤ k) = false := decide_eq_false (by omega)
    go_enter Try.func20, Try.ntmps20
    go_wp2_with (refine wpList_build0_st (α := Int) hs rfl rfl ?_; intro W1 v M hv hr h1 hb; have h2 := FX _ _ (h1.perm (List.perm_append_comm_assoc M Y L)); obtain ⟨h3, c0, c1, c2, _⟩ := h2; clear h1; replace hv := Lib.hid hv)
    go_loopw [5, 6] (fun s i wr => s = v ∧ i = .int .i64 0 ∧ wr = W1) (fun _ i _ => 0)
    case atStart => exact ⟨rfl, rfl, rfl⟩
    case round =>
      obtain ⟨rfl, rfl, rfl⟩ := hrel
      go_wp2
      all_goals (go_ret; exact ⟨_, M, rfl, by rw [e1.out]; exact hr, h3⟩)
  · obtain ⟨kk, rfl⟩ : ∃ kk : Nat, k = (kk : Int) := ⟨k.toNat, by omega⟩
    have q : (0 ≤ (kk : Int)) = True := eq_true (by omega)
    have q1 : decide (0 ≤ (kk : Int)) = true := decide_eq_true (by omega)
    have kkm : kk ≤ 9223372036854775807 := by omega
    have HPh := Lib.hid HP
    generalize hln : l.length = n at *
    replace hln := Lib.hid hln
    replace FX := Lib.hid FX
    clear HP hb
    go_enter Try.func20, Try.ntmps20
    go_wp2_with (refine wpList_build0_st (α := Int) hs rfl rfl ?_; clear hs; intro W1 v M hv hr h1 hb; have h2 := h1.perm (List.perm_append_comm_assoc M Y L); clear h1; replace hv := Lib.hid hv)
    go_loopw [5, 6] (OlRel w Y S l (kk : Int) L) (fun _ i _ => n - (intOf i).toNat)
    case atStart => exact ⟨0, M, by omega, rfl, by rw [oldR_zero]; exact hr, h2⟩
    case round =>
      clear h2 hr hv
      obtain ⟨j, M, hj, rfl, hr, h3⟩ := hrel
      rw [hln.out] at hj
      obtain ⟨_, c0, c1, c2, hrow⟩ := FX.out _ _ h3
      by_cases hlt : j < n
      · have g1 : ((j : Int) < (n : Int)) = True := eq_true (by omega)
        have g2 : decide ((j : Int) < (n : Int)) = true := decide_eq_true (by omega)
        have hjl : j < l.length := by have := hln.out; omega
        have hx : l[j]? = some l[j] := List.getElem?_eq_getElem hjl
        have hp := HPh.out l[j] (List.getElem_mem hjl)
        generalize l[j] = x at *
        obtain ⟨b, o, rfl, _, d1, _⟩ := pr_cells hrow j x hx
        have tk := Lib.hid (oldR_take S l (kk : Int) (by omega) j x hx)
        have bl := Lib.hid (show (oldR S (l.take j) (kk : Int)).length + 1 ≤ 100000 by have := oldR_len S (l.take j) (kk : Int); simp at this; omega)
        obtain ⟨ek, hek⟩ : ∃ ek : Nat, x.k = (ek : Int) := ⟨x.k.toNat, by omega⟩
        have ekm : ek ≤ 9223372036854775807 := by omega
        rw [hek] at d1 tk
        replace hek := Lib.hid hek
        replace h3 := Lib.hid h3
        clear hrow hx hjl hp
        by_cases hm : ((ek : Int) % (S : Int) == (kk : Int) % (S : Int)) = true
        · have tk2 := tk.out
          rw [if_pos hm] at tk2
          replace tk2 := Lib.hid tk2
          clear tk
          go_wp2
          go_quiet (fail)
          have h4 := h3.out.drewN nq
          go_wp2_with (first
            | (have _ := h4; refine wpList_build1_st (α := Int) h4 _ (ek : Int) rfl rfl rfl ?_; clear h4 d1 c0 c1 c2; intro W2 h5; have rw5 := Lib.hid (new_row h5))
            | (have _ := h5; refine wpList_append_rl (ys := [(ek : Int)]) hr (h5.perm (((List.perm_append_comm_assoc Y M L).cons _).trans List.perm_middle.symm)) rw5.out _ _ rfl rfl rfl rfl bl.out ?_; clear h5; intro v2 W3 M2 hr2 h6))
          rw [← tk2.out] at hr2
          go_roundw
          case rel => exact ⟨j + 1, M2, by have := hln.out; omega, by go_num, hr2, (h6.sub ((List.sublist_cons_self _ _).append_left M2)).perm (List.perm_append_comm_assoc M2 Y L)⟩
          case measure => simp [intOf]; omega
        · have tk2 := tk.out
          rw [if_neg hm, List.append_nil] at tk2
          replace tk2 := Lib.hid tk2
          have hm2 : ((ek : Int) % (S : Int) == (kk : Int) % (S : Int)) = false := by simpa using hm
          clear tk hm
          go_wp2
          go_quiet (fail)
          have h4 := h3.out.drewN nq
          go_wp2
          go_roundw
          case rel => exact ⟨j + 1, M, by have := hln.out; omega, by go_num, by rw [tk2.out]; exact hr, h4⟩
          case measure => simp [intOf]; omega
      · obtain rfl : j = n := by omega
        have g1 : ((j : Int) < (j : Int)) = False := eq_false (by omega)
        have g2 : decide ((j : Int) < (j : Int)) = false := decide_eq_false (by omega)
        rw [List.take_of_length_le (by rw [hln.out]; exact Nat.le_refl _)] at hr
        go_wp2
        go_ret
        exact ⟨_, M, rfl, hr, (FX.out _ _ h3).1⟩
/-- The number that Room answers. -/
def roomR (S N : Nat) (l : List Ent) (k : Int) : Int := if k < 0 then 1 else if (fnd l k).isNone = true ∧ N ≤ (oldR S l k).length then 5 else 0
set_option maxRecDepth 20000 in
set_option maxHeartbeats 2000000 in
theorem rroom_any (h : RC w W gr S N l L) (k : Int) (hk : k ≤ 9223372036854775807) (HP : ∀ e ∈ l, 0 ≤ e.k ∧ e.k ≤ 9223372036854775807) (hS : 1 ≤ S) (hS2 : S ≤ 64) (hl : l.length ≤ 1000) :
    Calls Try.prog 24 #[.pointer (some ⟨gr, 0, none⟩), .int .i64 k] W fun e W' => e = .returned (.int .i64 (roomR S N l k)) ∧ RC w W' gr S N l L := by
  by_cases h0 : k < 0
  · have q : (k < 0) = True := eq_true h0
    have e1 : Hid (roomR S N l k = 1) := show _ = _ by unfold roomR; rw [if_pos h0]
    generalize roomR S N l k = R at *
    go_enter Try.func24, Try.ntmps24
    go_wp2
    go_ret
    exact ⟨by rw [e1.out]; rfl, h⟩
  have q : (k < 0) = False := eq_false h0
  have FI := Lib.hid (fun W (h : RC w W gr S N l L) => rfind_any h k)
  have OL := Lib.hid (fun W (h : RC w W gr S N l L) => roldest_any h k hk HP hS hS2 hl)
  cases hf : fnd l k with
  | some i =>
    have e1 : Hid (roomR S N l k = 0) := show _ = _ by unfold roomR; rw [if_neg h0, hf, if_neg (by simp)]
    have e2 : fndV l k = (i : Int) := by unfold fndV; rw [hf]
    have q2 : ((i : Int) < 0) = False := eq_false (by omega)
    have q3 : decide ((i : Int) < 0) = false := decide_eq_false (by omega)
    rw [e2] at FI
    generalize roomR S N l k = R at *
    have FI2 := Lib.hid (fun j => FI.out _ (h.drewN j))
    obtain ⟨A, p, c0, c1, c2, _⟩ := h.open_
    replace h := Lib.hid h
    clear hf e2 OL FI HP
    go_enter Try.func24, Try.ntmps24
    go_wp2
    go_quiet ((go_at_call 17; exact Calls.quiet_of_same (FI2.out _)))
    go_wp2
    go_ret
    exact ⟨by rw [e1.out]; rfl, h.out.drewN _⟩
  | none =>
    have e2 : fndV l k = -1 := by unfold fndV; rw [hf]
    rw [e2] at FI
    have HS := Lib.hid h
    have CB := Lib.hid (fun V X (h : RC w V gr S N l X) => show V.cell? ⟨gr, 1, none⟩ = some (.int .i64 (N : Int)) from by obtain ⟨A, p, _, c1, _⟩ := h.open_; exact c1)
    by_cases hN : N ≤ (oldR S l k).length
    · have e1 : Hid (roomR S N l k = 5) := show _ = _ by unfold roomR; rw [if_neg h0, hf, if_pos ⟨rfl, hN⟩]
      generalize roomR S N l k = R at *
      generalize hLN : (oldR S l k).length = LN at *
      have q4 : ((N : Int) ≤ (LN : Int)) = True := eq_true (by omega)
      have q5 : decide ((N : Int) ≤ (LN : Int)) = true := decide_eq_true (by omega)
      clear h hf e2 HP
      go_enter Try.func24, Try.ntmps24
      go_wp2
      have HS0 := Lib.hid (show RC w W.drew gr S N l L from HS.out.drewN 1)
      have H0 := Lib.hid (CB.out _ _ HS0.out)
      refine wp_region_held_drew (S := fun W => W.cell? ⟨gr, 1, none⟩ = some (.int .i64 (N : Int))) (by kernel_rfl) H0.out (fun _ => ?_)
      generalize W.drew = V0 at *
      refine wpAnyH_take (i := 0) (v := .pointer (some ⟨gr, 0, none⟩)) rfl (by kernel_rfl) (by kernel_rfl) (by kernel_rfl) (fun _ _ _ h => h) (Or.inl ⟨by rfl, fun W hW => by clear hW; go_simp⟩) H0.out ?_
      try simp only [Act.put, List.getElem_toArray, List.getElem_cons_succ, List.getElem_cons_zero, List.setIfInBounds_toArray, List.set_cons_zero, List.set_cons_succ]
      refine wpAnyH_take (i := 1) (v := .int .i64 k) rfl (by kernel_rfl) (by kernel_rfl) (by kernel_rfl) (fun _ _ _ h => h) (Or.inl ⟨by rfl, fun W hW => by clear hW; go_simp⟩) H0.out ?_
      try simp only [Act.put, List.getElem_toArray, List.getElem_cons_succ, List.getElem_cons_zero, List.setIfInBounds_toArray, List.set_cons_zero, List.set_cons_succ]
      refine wpAnyH_ready (rs := [2]) (by kernel_rfl) (by simp) ?_
      refine AllReadyH.cons rfl (fun K hK => ?_) AllReadyH.nil
      go_simp
      go_at_call 17
      refine (FI.out _ HS0.out).mono ?_
      rintro e V1 ⟨rfl, rfl⟩
      have H1_ := Lib.hid H0.out
      refine hK.out _ _ H1_.out (fun _ => ?_)
      clear hK K
      try simp only [Act.put, List.getElem_toArray, List.getElem_cons_succ, List.getElem_cons_zero, List.setIfInBounds_toArray, List.set_cons_zero, List.set_cons_succ]
      refine wpAnyH_take (i := 3) (v := .bool true) rfl (by kernel_rfl) (by kernel_rfl) (by kernel_rfl) (fun _ _ _ h => h) (Or.inl ⟨by rfl, fun W hW => by clear hW; go_simp⟩) H1_.out ?_
      try simp only [Act.put, List.getElem_toArray, List.getElem_cons_succ, List.getElem_cons_zero, List.setIfInBounds_toArray, List.set_cons_zero, List.set_cons_succ]
      refine wpAnyH_take (i := 4) (v := .bool true) rfl (by kernel_rfl) (by kernel_rfl) (by kernel_rfl) (fun _ _ _ h => h) (Or.inl ⟨by rfl, fun W hW => by clear hW; go_simp⟩) H1_.out ?_
      try simp only [Act.put, List.getElem_toArray, List.getElem_cons_succ, List.getElem_cons_zero, List.setIfInBounds_toArray, List.set_cons_zero, List.set_cons_succ]
      refine wpAnyH_take (i := 5) (v := .pointer (some ⟨gr, 0, none⟩)) rfl (by kernel_rfl) (by kernel_rfl) (by kernel_rfl) (fun _ _ _ h => h) (Or.inl ⟨by rfl, fun W hW => by clear hW; go_simp⟩) H1_.out ?_
      try simp only [Act.put, List.getElem_toArray, List.getElem_cons_succ, List.getElem_cons_zero, List.setIfInBounds_toArray, List.set_cons_zero, List.set_cons_succ]
      refine wpAnyH_take (i := 6) (v := .int .i64 k) rfl (by kernel_rfl) (by kernel_rfl) (by kernel_rfl) (fun _ _ _ h => h) (Or.inl ⟨by rfl, fun W hW => by clear hW; go_simp⟩) H1_.out ?_
      try simp only [Act.put, List.getElem_toArray, List.getElem_cons_succ, List.getElem_cons_zero, List.setIfInBounds_toArray, List.set_cons_zero, List.set_cons_succ]
      refine wpAnyH_take (i := 9) (v := .pointer (some ⟨gr, 0, none⟩)) rfl (by kernel_rfl) (by kernel_rfl) (by kernel_rfl) (fun _ _ _ h => h) (Or.inl ⟨by rfl, fun W hW => by clear hW; go_simp⟩) H1_.out ?_
      try simp only [Act.put, List.getElem_toArray, List.getElem_cons_succ, List.getElem_cons_zero, List.setIfInBounds_toArray, List.set_cons_zero, List.set_cons_succ]
      refine wpAnyH_take (i := 10) (v := .pointer (some ⟨gr, 0, none⟩)) rfl (by kernel_rfl) (by kernel_rfl) (by kernel_rfl) (fun _ _ _ h => h) (Or.inl ⟨by rfl, fun W hW => by clear hW; go_simp⟩) H1_.out ?_
      try simp only [Act.put, List.getElem_toArray, List.getElem_cons_succ, List.getElem_cons_zero, List.setIfInBounds_toArray, List.set_cons_zero, List.set_cons_succ]
      refine wpAnyH_take (i := 11) (v := .pointer (some ⟨gr, 1, none⟩)) rfl (by kernel_rfl) (by kernel_rfl) (by kernel_rfl) (fun _ _ _ h => h) (Or.inl ⟨by rfl, fun W hW => by clear hW; go_simp⟩) H1_.out ?_
      try simp only [Act.put, List.getElem_toArray, List.getElem_cons_succ, List.getElem_cons_zero, List.setIfInBounds_toArray, List.set_cons_zero, List.set_cons_succ]
      refine wpAnyH_take (i := 12) (v := .int .i64 (N : Int)) rfl (by kernel_rfl) (by kernel_rfl) (by kernel_rfl) (fun _ _ _ h => h) (Or.inl ⟨by rfl, fun W hW => by have hc := (show W.cell? ⟨gr, 1, none⟩ = some (.int .i64 (N : Int)) from hW); clear hW; go_simp⟩) H1_.out ?_
      try simp only [Act.put, List.getElem_toArray, List.getElem_cons_succ, List.getElem_cons_zero, List.setIfInBounds_toArray, List.set_cons_zero, List.set_cons_succ]
      refine wpAnyH_ready (rs := [7]) (by kernel_rfl) (by simp) ?_
      refine AllReadyH.cons rfl (fun K hK => ?_) AllReadyH.nil
      go_simp
      go_at_call 20
      refine (OL.out _ HS0.out).mono ?_
      rintro e V2 ⟨v, M, rfl, hr, h⟩
      obtain ⟨A, p, rfl, _⟩ := hr.form
      rw [hLN]
      have HS2 := Lib.hid h
      clear hr h
      have H2_ := Lib.hid (CB.out _ _ HS2.out)
      refine hK.out _ _ H2_.out (fun _ => ?_)
      clear hK K
      try simp only [Act.put, List.getElem_toArray, List.getElem_cons_succ, List.getElem_cons_zero, List.setIfInBounds_toArray, List.set_cons_zero, List.set_cons_succ]
      refine wpAnyH_take (i := 8) (v := .int .i64 (LN : Int)) rfl (by kernel_rfl) (by kernel_rfl) (by kernel_rfl) (fun _ _ _ h => h) (Or.inl ⟨by rfl, fun W hW => by clear hW; go_simp⟩) H2_.out ?_
      try simp only [Act.put, List.getElem_toArray, List.getElem_cons_succ, List.getElem_cons_zero, List.setIfInBounds_toArray, List.set_cons_zero, List.set_cons_succ]
      refine wpAnyH_take (i := 13) (v := .bool true) rfl (by kernel_rfl) (by kernel_rfl) (by kernel_rfl) (fun _ _ _ h => h) (Or.inl ⟨by rfl, fun W hW => by clear hW; go_simp⟩) H2_.out ?_
      try simp only [Act.put, List.getElem_toArray, List.getElem_cons_succ, List.getElem_cons_zero, List.setIfInBounds_toArray, List.set_cons_zero, List.set_cons_succ]
      refine wpAnyH_take (i := 14) (v := .bool true) rfl (by kernel_rfl) (by kernel_rfl) (by kernel_rfl) (fun _ _ _ h => h) (Or.inl ⟨by rfl, fun W hW => by clear hW; go_simp⟩) H2_.out ?_
      try simp only [Act.put, List.getElem_toArray, List.getElem_cons_succ, List.getElem_cons_zero, List.setIfInBounds_toArray, List.set_cons_zero, List.set_cons_succ]
      refine wpAnyH_done (by kernel_rfl) ?_ _
      go_wp2
      go_ret
      exact ⟨by rw [e1.out]; rfl, HS2.out.sub (List.sublist_append_right _ L)⟩
    · have e1 : Hid (roomR S N l k = 0) := show _ = _ by unfold roomR; rw [if_neg h0, hf, if_neg (fun h => hN h.2)]
      generalize roomR S N l k = R at *
      generalize hLN : (oldR S l k).length = LN at *
      have q4 : ((N : Int) ≤ (LN : Int)) = False := eq_false (by omega)
      have q5 : decide ((N : Int) ≤ (LN : Int)) = false := decide_eq_false (by omega)
      clear h hf e2 HP
      go_enter Try.func24, Try.ntmps24
      go_wp2
      have HS0 := Lib.hid (show RC w W.drew gr S N l L from HS.out.drewN 1)
      have H0 := Lib.hid (CB.out _ _ HS0.out)
      refine wp_region_held_drew (S := fun W => W.cell? ⟨gr, 1, none⟩ = some (.int .i64 (N : Int))) (by kernel_rfl) H0.out (fun _ => ?_)
      generalize W.drew = V0 at *
      refine wpAnyH_take (i := 0) (v := .pointer (some ⟨gr, 0, none⟩)) rfl (by kernel_rfl) (by kernel_rfl) (by kernel_rfl) (fun _ _ _ h => h) (Or.inl ⟨by rfl, fun W hW => by clear hW; go_simp⟩) H0.out ?_
      try simp only [Act.put, List.getElem_toArray, List.getElem_cons_succ, List.getElem_cons_zero, List.setIfInBounds_toArray, List.set_cons_zero, List.set_cons_succ]
      refine wpAnyH_take (i := 1) (v := .int .i64 k) rfl (by kernel_rfl) (by kernel_rfl) (by kernel_rfl) (fun _ _ _ h => h) (Or.inl ⟨by rfl, fun W hW => by clear hW; go_simp⟩) H0.out ?_
      try simp only [Act.put, List.getElem_toArray, List.getElem_cons_succ, List.getElem_cons_zero, List.setIfInBounds_toArray, List.set_cons_zero, List.set_cons_succ]
      refine wpAnyH_ready (rs := [2]) (by kernel_rfl) (by simp) ?_
      refine AllReadyH.cons rfl (fun K hK => ?_) AllReadyH.nil
      go_simp
      go_at_call 17
      refine (FI.out _ HS0.out).mono ?_
      rintro e V1 ⟨rfl, rfl⟩
      have H1_ := Lib.hid H0.out
      refine hK.out _ _ H1_.out (fun _ => ?_)
      clear hK K
      try simp only [Act.put, List.getElem_toArray, List.getElem_cons_succ, List.getElem_cons_zero, List.setIfInBounds_toArray, List.set_cons_zero, List.set_cons_succ]
      refine wpAnyH_take (i := 3) (v := .bool true) rfl (by kernel_rfl) (by kernel_rfl) (by kernel_rfl) (fun _ _ _ h => h) (Or.inl ⟨by rfl, fun W hW => by clear hW; go_simp⟩) H1_.out ?_
      try simp only [Act.put, List.getElem_toArray, List.getElem_cons_succ, List.getElem_cons_zero, List.setIfInBounds_toArray, List.set_cons_zero, List.set_cons_succ]
      refine wpAnyH_take (i := 4) (v := .bool true) rfl (by kernel_rfl) (by kernel_rfl) (by kernel_rfl) (fun _ _ _ h => h) (Or.inl ⟨by rfl, fun W hW => by clear hW; go_simp⟩) H1_.out ?_
      try simp only [Act.put, List.getElem_toArray, List.getElem_cons_succ, List.getElem_cons_zero, List.setIfInBounds_toArray, List.set_cons_zero, List.set_cons_succ]
      refine wpAnyH_take (i := 5) (v := .pointer (some ⟨gr, 0, none⟩)) rfl (by kernel_rfl) (by kernel_rfl) (by kernel_rfl) (fun _ _ _ h => h) (Or.inl ⟨by rfl, fun W hW => by clear hW; go_simp⟩) H1_.out ?_
      try simp only [Act.put, List.getElem_toArray, List.getElem_cons_succ, List.getElem_cons_zero, List.setIfInBounds_toArray, List.set_cons_zero, List.set_cons_succ]
      refine wpAnyH_take (i := 6) (v := .int .i64 k) rfl (by kernel_rfl) (by kernel_rfl) (by kernel_rfl) (fun _ _ _ h => h) (Or.inl ⟨by rfl, fun W hW => by clear hW; go_simp⟩) H1_.out ?_
      try simp only [Act.put, List.getElem_toArray, List.getElem_cons_succ, List.getElem_cons_zero, List.setIfInBounds_toArray, List.set_cons_zero, List.set_cons_succ]
      refine wpAnyH_take (i := 9) (v := .pointer (some ⟨gr, 0, none⟩)) rfl (by kernel_rfl) (by kernel_rfl) (by kernel_rfl) (fun _ _ _ h => h) (Or.inl ⟨by rfl, fun W hW => by clear hW; go_simp⟩) H1_.out ?_
      try simp only [Act.put, List.getElem_toArray, List.getElem_cons_succ, List.getElem_cons_zero, List.setIfInBounds_toArray, List.set_cons_zero, List.set_cons_succ]
      refine wpAnyH_take (i := 10) (v := .pointer (some ⟨gr, 0, none⟩)) rfl (by kernel_rfl) (by kernel_rfl) (by kernel_rfl) (fun _ _ _ h => h) (Or.inl ⟨by rfl, fun W hW => by clear hW; go_simp⟩) H1_.out ?_
      try simp only [Act.put, List.getElem_toArray, List.getElem_cons_succ, List.getElem_cons_zero, List.setIfInBounds_toArray, List.set_cons_zero, List.set_cons_succ]
      refine wpAnyH_take (i := 11) (v := .pointer (some ⟨gr, 1, none⟩)) rfl (by kernel_rfl) (by kernel_rfl) (by kernel_rfl) (fun _ _ _ h => h) (Or.inl ⟨by rfl, fun W hW => by clear hW; go_simp⟩) H1_.out ?_
      try simp only [Act.put, List.getElem_toArray, List.getElem_cons_succ, List.getElem_cons_zero, List.setIfInBounds_toArray, List.set_cons_zero, List.set_cons_succ]
      refine wpAnyH_take (i := 12) (v := .int .i64 (N : Int)) rfl (by kernel_rfl) (by kernel_rfl) (by kernel_rfl) (fun _ _ _ h => h) (Or.inl ⟨by rfl, fun W hW => by have hc := (show W.cell? ⟨gr, 1, none⟩ = some (.int .i64 (N : Int)) from hW); clear hW; go_simp⟩) H1_.out ?_
      try simp only [Act.put, List.getElem_toArray, List.getElem_cons_succ, List.getElem_cons_zero, List.setIfInBounds_toArray, List.set_cons_zero, List.set_cons_succ]
      refine wpAnyH_ready (rs := [7]) (by kernel_rfl) (by simp) ?_
      refine AllReadyH.cons rfl (fun K hK => ?_) AllReadyH.nil
      go_simp
      go_at_call 20
      refine (OL.out _ HS0.out).mono ?_
      rintro e V2 ⟨v, M, rfl, hr, h⟩
      obtain ⟨A, p, rfl, _⟩ := hr.form
      rw [hLN]
      have HS2 := Lib.hid h
      clear hr h
      have H2_ := Lib.hid (CB.out _ _ HS2.out)
      refine hK.out _ _ H2_.out (fun _ => ?_)
      clear hK K
      try simp only [Act.put, List.getElem_toArray, List.getElem_cons_succ, List.getElem_cons_zero, List.setIfInBounds_toArray, List.set_cons_zero, List.set_cons_succ]
      refine wpAnyH_take (i := 8) (v := .int .i64 (LN : Int)) rfl (by kernel_rfl) (by kernel_rfl) (by kernel_rfl) (fun _ _ _ h => h) (Or.inl ⟨by rfl, fun W hW => by clear hW; go_simp⟩) H2_.out ?_
      try simp only [Act.put, List.getElem_toArray, List.getElem_cons_succ, List.getElem_cons_zero, List.setIfInBounds_toArray, List.set_cons_zero, List.set_cons_succ]
      refine wpAnyH_take (i := 13) (v := .bool false) rfl (by kernel_rfl) (by kernel_rfl) (by kernel_rfl) (fun _ _ _ h => h) (Or.inl ⟨by rfl, fun W hW => by clear hW; go_simp⟩) H2_.out ?_
      try simp only [Act.put, List.getElem_toArray, List.getElem_cons_succ, List.getElem_cons_zero, List.setIfInBounds_toArray, List.set_cons_zero, List.set_cons_succ]
      refine wpAnyH_take (i := 14) (v := .bool false) rfl (by kernel_rfl) (by kernel_rfl) (by kernel_rfl) (fun _ _ _ h => h) (Or.inl ⟨by rfl, fun W hW => by clear hW; go_simp⟩) H2_.out ?_
      try simp only [Act.put, List.getElem_toArray, List.getElem_cons_succ, List.getElem_cons_zero, List.setIfInBounds_toArray, List.set_cons_zero, List.set_cons_succ]
      refine wpAnyH_done (by kernel_rfl) ?_ _
      go_wp2
      go_ret
      exact ⟨by rw [e1.out]; rfl, HS2.out.sub (List.sublist_append_right _ L)⟩
end
end Go.Proofs.Ytmlepikgiicaiaa
