/- The law of a plan's room. No statement is proved here. -/
import Derived.Test.YtcbpnmcfiohndaaSpeaks
namespace Go.Proofs.Ytcbpnmcfiohndaa
open Go.RowKit
set_option linter.unusedVariables false
set_option linter.unusedSimpArgs false

theorem kindI_idem (v : Int) : kindI (kindI v) = kindI v := by
  unfold kindI; split <;> simp
theorem bounded_fit (p : Pl) : bounded (fitP p) = fitP p := by
  unfold fitP
  generalize Ls (bounded p) + p.me % 4 = m
  unfold bounded
  simp only [fitI_same _ _ _ (fitI_win p.co 1 4 (by omega)), fitI_same _ _ _ (fitI_win p.ba 1 4 (by omega)), fitI_same _ _ _ (fitI_win p.pa 1 16 (by omega)), fitI_same _ _ _ (fitI_win p.li 1 8 (by omega)), fitI_same _ _ _ (fitI_win p.ar 2 4 (by omega)), fitI_same _ _ _ (fitI_win p.mi 1 8 (by omega)), fitI_same _ _ _ (fitI_win p.ns 1 4 (by omega)), fitI_same _ _ _ (fitI_win p.nw 1 4 (by omega)), fitI_same _ _ _ (fitI_win p.fs 1 4 (by omega)), fitI_same _ _ _ (fitI_win p.fw 1 4 (by omega)), fitI_same _ _ _ (fitI_win p.qu 1 4 (by omega)), kindI_idem]
  rw [show min (min p.ma 4294967296) 4294967296 = min p.ma 4294967296 by omega]
theorem Ls_me (p : Pl) (m : Int) : Ls { p with me := m } = Ls p := by
  unfold Ls Lv shaped; rfl
theorem fit_right (p : Pl) : right (fitP p) = true := by
  unfold right
  rw [(Pl.same_iff _ _ (by rfl)).2 (bounded_fit p)]
  have e : Ls (fitP p) = Ls (bounded p) := Ls_me _ _
  rw [e]
  obtain ⟨h1, h2⟩ := Ls_bounds (bounded_shaped p)
  have r1 := Int.emod_nonneg p.me (b := 4) (by omega)
  have r2 := Int.emod_lt_of_pos p.me (b := 4) (by omega)
  have e2 : (fitP p).me = Ls (bounded p) + p.me % 4 := rfl
  rw [e2, decide_eq_true (by omega), decide_eq_true (by omega)]
  rfl
theorem right_facts {p : Pl} (h : right p = true) : bounded p = p ∧ shaped p = true ∧ Ls p ≤ p.me ∧ p.me ≤ 64 := by
  unfold right at h
  simp only [Bool.and_eq_true, decide_eq_true_eq] at h
  have e := (Pl.same_iff (bounded p) p (by rfl)).1 h.1
  refine ⟨e, ?_, h.2.1, h.2.2⟩
  have := bounded_shaped p
  rwa [e] at this
def sw (n a : Nat) : Nat → Nat
  | 0 => 0
  | k + 1 => sw n a k + wid n a k
theorem sw_succ (n a k : Nat) : sw n a (k + 1) = sw n a k + wid n a k := rfl
theorem sw_zero (n a : Nat) : sw n a 0 = 0 := rfl
theorem sw_fin : ∀ n : Fin 16, ∀ a : Fin 3, ∀ k : Fin 6, k ≤ lev (n + 1) (a + 2) → sw (n + 1) (a + 2) k ≤ 31 := by decide +kernel
theorem sw_le {n a : Nat} (h1 : 1 ≤ n) (h2 : n ≤ 16) (h3 : 2 ≤ a) (h4 : a ≤ 4) (k : Nat) (hk : k ≤ lev n a) : sw n a k ≤ 31 := by
  have t := (tree_facts h1 h2 h3 h4).1
  have := sw_fin ⟨n - 1, by omega⟩ ⟨a - 2, by omega⟩ ⟨k, by omega⟩
  simp only [show n - 1 + 1 = n by omega, show a - 2 + 2 = a by omega] at this
  exact this hk
def RoomRel (w : World) (q : Pl) (n a L : Nat) (s i : Value) (wr : World) : Prop :=
  ∃ k, k ≤ L ∧ s = .int .i64 (sw n a k : Nat) ∧ i = .int .i64 (k : Nat) ∧ PSt w w.heap.size q wr
attribute [local irreducible] shaped Ls Lv Wd Al right bounded fitP sw

set_option maxHeartbeats 4000000 in
set_option maxRecDepth 20000 in
theorem room_with (p q : Pl) (w : World) (hq : right q = true) (hpq : (right p = true ∧ q = p) ∨ (right p = false ∧ q = fitP p)) : Calls Try.prog 6 #[.agg p.arr] w fun e w' => e = .returned (.bool true) ∧ Below w.heap.size w w' := by
  obtain ⟨-, hs, f1, f2⟩ := right_facts hq
  have SP := Lib.hid (fun W => speaks5_true W)
  have CK := Lib.hid (fun W => check_any p W)
  have FT := Lib.hid (fun W => fit_any p W)
  have LV := Lib.hid (fun W => levels_any q W)
  have LS := Lib.hid (fun W => least_any q W)
  have AL := Lib.hid (fun W => all_any q W)
  have N := Lib.hid (PSt.new w p)
  have sh := sh_of hs
  have eA : Al q = q.pa * q.li := by unfold Al; rw [if_pos hs]
  have eL : Ls q = q.ba * (Lv q : Int) + 1 := by unfold Ls; rw [if_pos hs]
  have c1 := sh.ba
  have c2 := sh.pa
  have c3 := sh.li
  have b1 := sh.b1
  have b2 := sh.b2
  have n1 := sh.n1
  have n2 := sh.n2
  have l1 := sh.l1
  have l2 := sh.l2
  have WA : Hid (∀ k, k < Lv q → ∀ W, Calls Try.prog 17 #[.agg q.arr, .int .i64 (k : Nat)] W fun e w' => e = .returned (.int .i64 (wid q.pa.toNat q.ar.toNat k : Nat)) ∧ Below W.heap.size W w') := fun k hk W => by rw [← Wd_at q k hk]; exact width_any q k W
  have TF := tree_facts sh.n1 sh.n2 sh.a1 sh.a2
  have SW := Lib.hid (fun k hk => sw_le sh.n1 sh.n2 sh.a1 sh.a2 k hk)
  rw [← sh.lv hs] at TF SW
  rw [eA, c2, c3] at AL
  rw [c1] at eL
  rw [eL] at LS f1
  have t1 := TF.1
  have T3 := Lib.hid TF.2.2
  generalize q.ba.toNat = b at *
  generalize q.pa.toNat = n at *
  generalize q.li.toNat = l at *
  generalize q.ar.toNat = a at *
  generalize Lv q = L at *
  have m0 : b * L ≤ 20 := Nat.le_trans (Nat.mul_le_mul b2 t1) (by omega)
  have m1 : (b : Int) * (L : Int) ≤ 20 := by exact_mod_cast m0
  have m2 : 0 ≤ (b : Int) * (L : Int) := Int.mul_nonneg (by omega) (by omega)
  have m3 : n * l ≤ 128 := Nat.le_trans (Nat.mul_le_mul n2 l2) (by omega)
  have m4 : (n : Int) * (l : Int) ≤ 128 := by exact_mod_cast m3
  have m5 : 0 ≤ (n : Int) * (l : Int) := Int.mul_nonneg (by omega) (by omega)
  have w1 : IntKind.i64.wrap ((b : Int) * (L : Int)) = (b : Int) * (L : Int) := IntWalk.i64_in _ (by omega)
  have w2 : IntKind.i64.wrap ((n : Int) * (l : Int)) = (n : Int) * (l : Int) := IntWalk.i64_in _ (by omega)
  have g1 : ((b : Int) * (L : Int) < q.me) = True := eq_true (by omega)
  have g2 : ((b : Int) * (L : Int) + 1 ≤ q.me) = True := eq_true (by omega)
  generalize hLL : (b : Int) * (L : Int) + 1 = LL at *
  clear hq hs sh eA eL TF m0 m3 f1 f2
  rcases hpq with ⟨hr, rfl⟩ | ⟨hr, hqe⟩
  · rw [hr, if_pos rfl] at CK
    go_enter Try.func6, Try.ntmps6
    go_wp2_with (first
      | (go_at_call 12; refine (SP.out _).mono ?_; rintro e X0 ⟨rfl, hb⟩; have h1 := N.out.call hb; clear N hb)
      | (refine wpList_load_plan h1.blk _ rfl rfl rfl ?_)
      | (go_at_call 13; refine (CK.out _).mono ?_; rintro e X1 ⟨rfl, hb⟩; have h2 := h1.call hb; clear h1 hb))
    go_loopw [3, 4] (RoomRel w q n a L) (fun s i _ => L - (intOf i).toNat)
    case atStart => exact ⟨0, by omega, by rw [sw_zero]; rfl, rfl, h2⟩
    case round =>
      clear h2
      obtain ⟨k, hk, rfl, rfl, hst⟩ := hrel
      by_cases hlt : k < L
      · have WK := Lib.hid (WA.out k hlt)
        obtain ⟨y1, y2, y3⟩ := T3.out k hlt
        have s1 := SW.out k hk
        have ES := Lib.hid (sw_succ n a k)
        generalize hz' : sw n a (k + 1) = z' at *
        generalize hz : sw n a k = z at *
        generalize wid n a k = y at *
        clear y3
        go_wp2_with (first
          | (refine wpList_load_plan hst.blk _ rfl rfl rfl ?_)
          | (refine wpList_load_plan hs2.blk _ rfl rfl rfl ?_)
          | (go_at_call 15; refine (LV.out _).mono ?_; rintro e X2 ⟨rfl, hb⟩; have hs2 := hst.call hb; clear hst hb)
          | (go_at_call 17; refine (WK.out _).mono ?_; rintro e X3 ⟨rfl, hb⟩; have hs3 := hs2.call hb; clear hs2 hb))
        go_roundw
        case rel => exact ⟨k + 1, by omega, by rw [show sw n a (k + 1) = z' from hz', ES.out]; go_num, by go_num, hs3⟩
        case measure => simp [intOf]; omega
      · have s1 := SW.out k hk
        generalize sw n a k = T at *
        have g3 : (T ≤ 31) = True := eq_true s1
        have g4 : ((T : Int) ≤ 31) = True := eq_true (by omega)
        have g5 : ((k : Int) < (L : Int)) = False := eq_false (by omega)
        have g6 : (k < L) = False := eq_false (by omega)
        go_wp2_with (first
          | (refine wpList_load_plan hst.blk _ rfl rfl rfl ?_)
          | (go_at_call 15; refine (LV.out _).mono ?_; rintro e X2 ⟨rfl, hb⟩; have hs2 := hst.call hb; clear hst hb))
        have H0 := Lib.hid hs2.drew
        clear hs2
        refine wp_region_held_drew (S := fun W => PSt w w.heap.size q W) (by kernel_rfl) H0.out (fun _ => ?_)
        generalize X2.drew = V0 at *
        refine wpAnyH_take (i := 0) (v := .pointer (some ⟨w.heap.size, 11, none⟩)) rfl (by kernel_rfl) (by kernel_rfl) (by kernel_rfl) (fun _ _ _ h => h) (Or.inl ⟨by rfl, fun W hW => by clear hW; go_simp⟩) H0.out ?_
        try simp only [Act.put, List.getElem_toArray, List.getElem_cons_succ, List.getElem_cons_zero, List.setIfInBounds_toArray, List.set_cons_zero, List.set_cons_succ]
        refine wpAnyH_take (i := 1) (v := .int .i64 q.me) rfl (by kernel_rfl) (by kernel_rfl) (by kernel_rfl) (fun _ _ _ h => h) (Or.inl ⟨by rfl, fun W hW => by have hc := hW.blk.c11; clear hW; go_simp⟩) H0.out ?_
        try simp only [Act.put, List.getElem_toArray, List.getElem_cons_succ, List.getElem_cons_zero, List.setIfInBounds_toArray, List.set_cons_zero, List.set_cons_succ]
        refine wpAnyH_take (i := 2) (v := .pointer (some ⟨w.heap.size, 1, none⟩)) rfl (by kernel_rfl) (by kernel_rfl) (by kernel_rfl) (fun _ _ _ h => h) (Or.inl ⟨by rfl, fun W hW => by clear hW; go_simp⟩) H0.out ?_
        try simp only [Act.put, List.getElem_toArray, List.getElem_cons_succ, List.getElem_cons_zero, List.setIfInBounds_toArray, List.set_cons_zero, List.set_cons_succ]
        refine wpAnyH_take (i := 3) (v := .int .i64 (b : Nat)) rfl (by kernel_rfl) (by kernel_rfl) (by kernel_rfl) (fun _ _ _ h => h) (Or.inl ⟨by rfl, fun W hW => by have hc := hW.blk.c1.trans (congrArg (fun z => some (Value.int .i64 z)) c1); clear hW; go_simp⟩) H0.out ?_
        try simp only [Act.put, List.getElem_toArray, List.getElem_cons_succ, List.getElem_cons_zero, List.setIfInBounds_toArray, List.set_cons_zero, List.set_cons_succ]
        refine wpAnyH_take (i := 4) (v := .agg q.arr) rfl (by kernel_rfl) (by kernel_rfl) (by kernel_rfl) (fun _ _ _ h => h) (yields_plan _ rfl (by rfl) rfl (fun W hW => hW.blk)) H0.out ?_
        try simp only [Act.put, List.getElem_toArray, List.getElem_cons_succ, List.getElem_cons_zero, List.setIfInBounds_toArray, List.set_cons_zero, List.set_cons_succ]
        refine wpAnyH_ready (rs := [5]) (by kernel_rfl) (by simp) ?_
        refine AllReadyH.cons rfl (fun K hK => ?_) AllReadyH.nil
        go_simp
        go_at_call 15
        refine (LV.out _).mono ?_
        rintro e V1_ ⟨rfl, hb1_⟩
        have H1_ := Lib.hid (H0.out.call hb1_)
        clear hb1_
        refine hK.out _ _ H1_.out (fun _ => ?_)
        clear hK K
        try simp only [Act.put, List.getElem_toArray, List.getElem_cons_succ, List.getElem_cons_zero, List.setIfInBounds_toArray, List.set_cons_zero, List.set_cons_succ]
        refine wpAnyH_take (i := 6) (v := .int .i64 ((b : Int) * (L : Int))) rfl (by kernel_rfl) (by kernel_rfl) (by kernel_rfl) (fun _ _ _ h => h) (Or.inl ⟨by rfl, fun W hW => by clear hW; go_simp⟩) H1_.out ?_
        try simp only [Act.put, List.getElem_toArray, List.getElem_cons_succ, List.getElem_cons_zero, List.setIfInBounds_toArray, List.set_cons_zero, List.set_cons_succ]
        refine wpAnyH_take (i := 7) (v := .bool true) rfl (by kernel_rfl) (by kernel_rfl) (by kernel_rfl) (fun _ _ _ h => h) (Or.inl ⟨by rfl, fun W hW => by clear hW; go_simp⟩) H1_.out ?_
        try simp only [Act.put, List.getElem_toArray, List.getElem_cons_succ, List.getElem_cons_zero, List.setIfInBounds_toArray, List.set_cons_zero, List.set_cons_succ]
        refine wpAnyH_take (i := 8) (v := .bool true) rfl (by kernel_rfl) (by kernel_rfl) (by kernel_rfl) (fun _ _ _ h => h) (Or.inl ⟨by rfl, fun W hW => by clear hW; go_simp⟩) H1_.out ?_
        try simp only [Act.put, List.getElem_toArray, List.getElem_cons_succ, List.getElem_cons_zero, List.setIfInBounds_toArray, List.set_cons_zero, List.set_cons_succ]
        refine wpAnyH_take (i := 9) (v := .pointer (some ⟨w.heap.size, 11, none⟩)) rfl (by kernel_rfl) (by kernel_rfl) (by kernel_rfl) (fun _ _ _ h => h) (Or.inl ⟨by rfl, fun W hW => by clear hW; go_simp⟩) H1_.out ?_
        try simp only [Act.put, List.getElem_toArray, List.getElem_cons_succ, List.getElem_cons_zero, List.setIfInBounds_toArray, List.set_cons_zero, List.set_cons_succ]
        refine wpAnyH_take (i := 10) (v := .int .i64 q.me) rfl (by kernel_rfl) (by kernel_rfl) (by kernel_rfl) (fun _ _ _ h => h) (Or.inl ⟨by rfl, fun W hW => by have hc := hW.blk.c11; clear hW; go_simp⟩) H1_.out ?_
        try simp only [Act.put, List.getElem_toArray, List.getElem_cons_succ, List.getElem_cons_zero, List.setIfInBounds_toArray, List.set_cons_zero, List.set_cons_succ]
        refine wpAnyH_take (i := 11) (v := .agg q.arr) rfl (by kernel_rfl) (by kernel_rfl) (by kernel_rfl) (fun _ _ _ h => h) (yields_plan _ rfl (by rfl) rfl (fun W hW => hW.blk)) H1_.out ?_
        try simp only [Act.put, List.getElem_toArray, List.getElem_cons_succ, List.getElem_cons_zero, List.setIfInBounds_toArray, List.set_cons_zero, List.set_cons_succ]
        refine wpAnyH_ready (rs := [12]) (by kernel_rfl) (by simp) ?_
        refine AllReadyH.cons rfl (fun K hK => ?_) AllReadyH.nil
        go_simp
        go_at_call 21
        refine (LS.out _).mono ?_
        rintro e V2_ ⟨rfl, hb2_⟩
        have H2_ := Lib.hid (H1_.out.call hb2_)
        clear hb2_
        refine hK.out _ _ H2_.out (fun _ => ?_)
        clear hK K
        try simp only [Act.put, List.getElem_toArray, List.getElem_cons_succ, List.getElem_cons_zero, List.setIfInBounds_toArray, List.set_cons_zero, List.set_cons_succ]
        refine wpAnyH_take (i := 13) (v := .bool true) rfl (by kernel_rfl) (by kernel_rfl) (by kernel_rfl) (fun _ _ _ h => h) (Or.inl ⟨by rfl, fun W hW => by clear hW; go_simp⟩) H2_.out ?_
        try simp only [Act.put, List.getElem_toArray, List.getElem_cons_succ, List.getElem_cons_zero, List.setIfInBounds_toArray, List.set_cons_zero, List.set_cons_succ]
        refine wpAnyH_take (i := 14) (v := .bool true) rfl (by kernel_rfl) (by kernel_rfl) (by kernel_rfl) (fun _ _ _ h => h) (Or.inl ⟨by rfl, fun W hW => by clear hW; go_simp⟩) H2_.out ?_
        try simp only [Act.put, List.getElem_toArray, List.getElem_cons_succ, List.getElem_cons_zero, List.setIfInBounds_toArray, List.set_cons_zero, List.set_cons_succ]
        refine wpAnyH_take (i := 15) (v := .bool true) rfl (by kernel_rfl) (by kernel_rfl) (by kernel_rfl) (fun _ _ _ h => h) (Or.inl ⟨by rfl, fun W hW => by clear hW; go_simp⟩) H2_.out ?_
        try simp only [Act.put, List.getElem_toArray, List.getElem_cons_succ, List.getElem_cons_zero, List.setIfInBounds_toArray, List.set_cons_zero, List.set_cons_succ]
        refine wpAnyH_take (i := 16) (v := .int .i64 (T : Nat)) rfl (by kernel_rfl) (by kernel_rfl) (by kernel_rfl) (fun _ _ _ h => h) (Or.inl ⟨by rfl, fun W hW => by clear hW; go_simp⟩) H2_.out ?_
        try simp only [Act.put, List.getElem_toArray, List.getElem_cons_succ, List.getElem_cons_zero, List.setIfInBounds_toArray, List.set_cons_zero, List.set_cons_succ]
        refine wpAnyH_take (i := 17) (v := .bool true) rfl (by kernel_rfl) (by kernel_rfl) (by kernel_rfl) (fun _ _ _ h => h) (Or.inl ⟨by rfl, fun W hW => by clear hW; go_simp⟩) H2_.out ?_
        try simp only [Act.put, List.getElem_toArray, List.getElem_cons_succ, List.getElem_cons_zero, List.setIfInBounds_toArray, List.set_cons_zero, List.set_cons_succ]
        refine wpAnyH_take (i := 18) (v := .bool true) rfl (by kernel_rfl) (by kernel_rfl) (by kernel_rfl) (fun _ _ _ h => h) (Or.inl ⟨by rfl, fun W hW => by clear hW; go_simp⟩) H2_.out ?_
        try simp only [Act.put, List.getElem_toArray, List.getElem_cons_succ, List.getElem_cons_zero, List.setIfInBounds_toArray, List.set_cons_zero, List.set_cons_succ]
        refine wpAnyH_take (i := 19) (v := .bool true) rfl (by kernel_rfl) (by kernel_rfl) (by kernel_rfl) (fun _ _ _ h => h) (Or.inl ⟨by rfl, fun W hW => by clear hW; go_simp⟩) H2_.out ?_
        try simp only [Act.put, List.getElem_toArray, List.getElem_cons_succ, List.getElem_cons_zero, List.setIfInBounds_toArray, List.set_cons_zero, List.set_cons_succ]
        refine wpAnyH_take (i := 20) (v := .agg q.arr) rfl (by kernel_rfl) (by kernel_rfl) (by kernel_rfl) (fun _ _ _ h => h) (yields_plan _ rfl (by rfl) rfl (fun W hW => hW.blk)) H2_.out ?_
        try simp only [Act.put, List.getElem_toArray, List.getElem_cons_succ, List.getElem_cons_zero, List.setIfInBounds_toArray, List.set_cons_zero, List.set_cons_succ]
        refine wpAnyH_take (i := 22) (v := .pointer (some ⟨w.heap.size, 2, none⟩)) rfl (by kernel_rfl) (by kernel_rfl) (by kernel_rfl) (fun _ _ _ h => h) (Or.inl ⟨by rfl, fun W hW => by clear hW; go_simp⟩) H2_.out ?_
        try simp only [Act.put, List.getElem_toArray, List.getElem_cons_succ, List.getElem_cons_zero, List.setIfInBounds_toArray, List.set_cons_zero, List.set_cons_succ]
        refine wpAnyH_take (i := 23) (v := .int .i64 (n : Nat)) rfl (by kernel_rfl) (by kernel_rfl) (by kernel_rfl) (fun _ _ _ h => h) (Or.inl ⟨by rfl, fun W hW => by have hc := hW.blk.c2.trans (congrArg (fun z => some (Value.int .i64 z)) c2); clear hW; go_simp⟩) H2_.out ?_
        try simp only [Act.put, List.getElem_toArray, List.getElem_cons_succ, List.getElem_cons_zero, List.setIfInBounds_toArray, List.set_cons_zero, List.set_cons_succ]
        refine wpAnyH_take (i := 24) (v := .pointer (some ⟨w.heap.size, 3, none⟩)) rfl (by kernel_rfl) (by kernel_rfl) (by kernel_rfl) (fun _ _ _ h => h) (Or.inl ⟨by rfl, fun W hW => by clear hW; go_simp⟩) H2_.out ?_
        try simp only [Act.put, List.getElem_toArray, List.getElem_cons_succ, List.getElem_cons_zero, List.setIfInBounds_toArray, List.set_cons_zero, List.set_cons_succ]
        refine wpAnyH_take (i := 25) (v := .int .i64 (l : Nat)) rfl (by kernel_rfl) (by kernel_rfl) (by kernel_rfl) (fun _ _ _ h => h) (Or.inl ⟨by rfl, fun W hW => by have hc := hW.blk.c3.trans (congrArg (fun z => some (Value.int .i64 z)) c3); clear hW; go_simp⟩) H2_.out ?_
        try simp only [Act.put, List.getElem_toArray, List.getElem_cons_succ, List.getElem_cons_zero, List.setIfInBounds_toArray, List.set_cons_zero, List.set_cons_succ]
        refine wpAnyH_take (i := 26) (v := .int .i64 ((n : Int) * (l : Int))) rfl (by kernel_rfl) (by kernel_rfl) (by kernel_rfl) (fun _ _ _ h => h) (Or.inl ⟨by rfl, fun W hW => by clear hW; go_simp⟩) H2_.out ?_
        try simp only [Act.put, List.getElem_toArray, List.getElem_cons_succ, List.getElem_cons_zero, List.setIfInBounds_toArray, List.set_cons_zero, List.set_cons_succ]
        refine wpAnyH_ready (rs := [21]) (by kernel_rfl) (by simp) ?_
        refine AllReadyH.cons rfl (fun K hK => ?_) AllReadyH.nil
        go_simp
        go_at_call 19
        refine (AL.out _).mono ?_
        rintro e V3_ ⟨rfl, hb3_⟩
        have H3_ := Lib.hid (H2_.out.call hb3_)
        clear hb3_
        refine hK.out _ _ H3_.out (fun _ => ?_)
        clear hK K
        try simp only [Act.put, List.getElem_toArray, List.getElem_cons_succ, List.getElem_cons_zero, List.setIfInBounds_toArray, List.set_cons_zero, List.set_cons_succ]
        refine wpAnyH_take (i := 27) (v := .bool true) rfl (by kernel_rfl) (by kernel_rfl) (by kernel_rfl) (fun _ _ _ h => h) (Or.inl ⟨by rfl, fun W hW => by clear hW; go_simp⟩) H3_.out ?_
        try simp only [Act.put, List.getElem_toArray, List.getElem_cons_succ, List.getElem_cons_zero, List.setIfInBounds_toArray, List.set_cons_zero, List.set_cons_succ]
        refine wpAnyH_take (i := 28) (v := .bool true) rfl (by kernel_rfl) (by kernel_rfl) (by kernel_rfl) (fun _ _ _ h => h) (Or.inl ⟨by rfl, fun W hW => by clear hW; go_simp⟩) H3_.out ?_
        try simp only [Act.put, List.getElem_toArray, List.getElem_cons_succ, List.getElem_cons_zero, List.setIfInBounds_toArray, List.set_cons_zero, List.set_cons_succ]
        refine wpAnyH_take (i := 29) (v := .bool true) rfl (by kernel_rfl) (by kernel_rfl) (by kernel_rfl) (fun _ _ _ h => h) (Or.inl ⟨by rfl, fun W hW => by clear hW; go_simp⟩) H3_.out ?_
        try simp only [Act.put, List.getElem_toArray, List.getElem_cons_succ, List.getElem_cons_zero, List.setIfInBounds_toArray, List.set_cons_zero, List.set_cons_succ]
        refine wpAnyH_done (by kernel_rfl) ?_ _
        go_wp2
        go_ret
        exact ⟨rfl, H3_.out.bel⟩
  · rw [hr, if_neg (by simp)] at CK
    rw [← hqe] at FT
    clear hqe hr
    go_enter Try.func6, Try.ntmps6
    go_wp2_with (first
      | (go_at_call 12; refine (SP.out _).mono ?_; rintro e X0 ⟨rfl, hb⟩; have h1 := N.out.call hb; clear N hb)
      | (refine wpList_load_plan h1.blk _ rfl rfl rfl ?_)
      | (go_at_call 13; refine (CK.out _).mono ?_; rintro e X1 ⟨rfl, hb⟩; have h1 := h1.call hb; clear hb)
      | (go_at_call 23; refine (FT.out _).mono ?_; rintro e X2 ⟨rfl, hb⟩; have h3 := h1.call hb; clear h1 hb)
      | (refine wpList_newP h3 (Nat.le_refl _) _ _ rfl rfl rfl _ rfl rfl ?_; clear h3; intro X3 h2))
    go_loopw [3, 4] (RoomRel w q n a L) (fun s i _ => L - (intOf i).toNat)
    case atStart => exact ⟨0, by omega, by rw [sw_zero]; rfl, rfl, h2⟩
    case round =>
      clear h2
      obtain ⟨k, hk, rfl, rfl, hst⟩ := hrel
      by_cases hlt : k < L
      · have WK := Lib.hid (WA.out k hlt)
        obtain ⟨y1, y2, y3⟩ := T3.out k hlt
        have s1 := SW.out k hk
        have ES := Lib.hid (sw_succ n a k)
        generalize hz' : sw n a (k + 1) = z' at *
        generalize hz : sw n a k = z at *
        generalize wid n a k = y at *
        clear y3
        go_wp2_with (first
          | (refine wpList_load_plan hst.blk _ rfl rfl rfl ?_)
          | (refine wpList_load_plan hs2.blk _ rfl rfl rfl ?_)
          | (go_at_call 15; refine (LV.out _).mono ?_; rintro e X2 ⟨rfl, hb⟩; have hs2 := hst.call hb; clear hst hb)
          | (go_at_call 17; refine (WK.out _).mono ?_; rintro e X3 ⟨rfl, hb⟩; have hs3 := hs2.call hb; clear hs2 hb))
        go_roundw
        case rel => exact ⟨k + 1, by omega, by rw [show sw n a (k + 1) = z' from hz', ES.out]; go_num, by go_num, hs3⟩
        case measure => simp [intOf]; omega
      · have s1 := SW.out k hk
        generalize sw n a k = T at *
        have g3 : (T ≤ 31) = True := eq_true s1
        have g4 : ((T : Int) ≤ 31) = True := eq_true (by omega)
        have g5 : ((k : Int) < (L : Int)) = False := eq_false (by omega)
        have g6 : (k < L) = False := eq_false (by omega)
        go_wp2_with (first
          | (refine wpList_load_plan hst.blk _ rfl rfl rfl ?_)
          | (go_at_call 15; refine (LV.out _).mono ?_; rintro e X2 ⟨rfl, hb⟩; have hs2 := hst.call hb; clear hst hb))
        have H0 := Lib.hid hs2.drew
        clear hs2
        refine wp_region_held_drew (S := fun W => PSt w w.heap.size q W) (by kernel_rfl) H0.out (fun _ => ?_)
        generalize X2.drew = V0 at *
        refine wpAnyH_take (i := 0) (v := .pointer (some ⟨w.heap.size, 11, none⟩)) rfl (by kernel_rfl) (by kernel_rfl) (by kernel_rfl) (fun _ _ _ h => h) (Or.inl ⟨by rfl, fun W hW => by clear hW; go_simp⟩) H0.out ?_
        try simp only [Act.put, List.getElem_toArray, List.getElem_cons_succ, List.getElem_cons_zero, List.setIfInBounds_toArray, List.set_cons_zero, List.set_cons_succ]
        refine wpAnyH_take (i := 1) (v := .int .i64 q.me) rfl (by kernel_rfl) (by kernel_rfl) (by kernel_rfl) (fun _ _ _ h => h) (Or.inl ⟨by rfl, fun W hW => by have hc := hW.blk.c11; clear hW; go_simp⟩) H0.out ?_
        try simp only [Act.put, List.getElem_toArray, List.getElem_cons_succ, List.getElem_cons_zero, List.setIfInBounds_toArray, List.set_cons_zero, List.set_cons_succ]
        refine wpAnyH_take (i := 2) (v := .pointer (some ⟨w.heap.size, 1, none⟩)) rfl (by kernel_rfl) (by kernel_rfl) (by kernel_rfl) (fun _ _ _ h => h) (Or.inl ⟨by rfl, fun W hW => by clear hW; go_simp⟩) H0.out ?_
        try simp only [Act.put, List.getElem_toArray, List.getElem_cons_succ, List.getElem_cons_zero, List.setIfInBounds_toArray, List.set_cons_zero, List.set_cons_succ]
        refine wpAnyH_take (i := 3) (v := .int .i64 (b : Nat)) rfl (by kernel_rfl) (by kernel_rfl) (by kernel_rfl) (fun _ _ _ h => h) (Or.inl ⟨by rfl, fun W hW => by have hc := hW.blk.c1.trans (congrArg (fun z => some (Value.int .i64 z)) c1); clear hW; go_simp⟩) H0.out ?_
        try simp only [Act.put, List.getElem_toArray, List.getElem_cons_succ, List.getElem_cons_zero, List.setIfInBounds_toArray, List.set_cons_zero, List.set_cons_succ]
        refine wpAnyH_take (i := 4) (v := .agg q.arr) rfl (by kernel_rfl) (by kernel_rfl) (by kernel_rfl) (fun _ _ _ h => h) (yields_plan _ rfl (by rfl) rfl (fun W hW => hW.blk)) H0.out ?_
        try simp only [Act.put, List.getElem_toArray, List.getElem_cons_succ, List.getElem_cons_zero, List.setIfInBounds_toArray, List.set_cons_zero, List.set_cons_succ]
        refine wpAnyH_ready (rs := [5]) (by kernel_rfl) (by simp) ?_
        refine AllReadyH.cons rfl (fun K hK => ?_) AllReadyH.nil
        go_simp
        go_at_call 15
        refine (LV.out _).mono ?_
        rintro e V1_ ⟨rfl, hb1_⟩
        have H1_ := Lib.hid (H0.out.call hb1_)
        clear hb1_
        refine hK.out _ _ H1_.out (fun _ => ?_)
        clear hK K
        try simp only [Act.put, List.getElem_toArray, List.getElem_cons_succ, List.getElem_cons_zero, List.setIfInBounds_toArray, List.set_cons_zero, List.set_cons_succ]
        refine wpAnyH_take (i := 6) (v := .int .i64 ((b : Int) * (L : Int))) rfl (by kernel_rfl) (by kernel_rfl) (by kernel_rfl) (fun _ _ _ h => h) (Or.inl ⟨by rfl, fun W hW => by clear hW; go_simp⟩) H1_.out ?_
        try simp only [Act.put, List.getElem_toArray, List.getElem_cons_succ, List.getElem_cons_zero, List.setIfInBounds_toArray, List.set_cons_zero, List.set_cons_succ]
        refine wpAnyH_take (i := 7) (v := .bool true) rfl (by kernel_rfl) (by kernel_rfl) (by kernel_rfl) (fun _ _ _ h => h) (Or.inl ⟨by rfl, fun W hW => by clear hW; go_simp⟩) H1_.out ?_
        try simp only [Act.put, List.getElem_toArray, List.getElem_cons_succ, List.getElem_cons_zero, List.setIfInBounds_toArray, List.set_cons_zero, List.set_cons_succ]
        refine wpAnyH_take (i := 8) (v := .bool true) rfl (by kernel_rfl) (by kernel_rfl) (by kernel_rfl) (fun _ _ _ h => h) (Or.inl ⟨by rfl, fun W hW => by clear hW; go_simp⟩) H1_.out ?_
        try simp only [Act.put, List.getElem_toArray, List.getElem_cons_succ, List.getElem_cons_zero, List.setIfInBounds_toArray, List.set_cons_zero, List.set_cons_succ]
        refine wpAnyH_take (i := 9) (v := .pointer (some ⟨w.heap.size, 11, none⟩)) rfl (by kernel_rfl) (by kernel_rfl) (by kernel_rfl) (fun _ _ _ h => h) (Or.inl ⟨by rfl, fun W hW => by clear hW; go_simp⟩) H1_.out ?_
        try simp only [Act.put, List.getElem_toArray, List.getElem_cons_succ, List.getElem_cons_zero, List.setIfInBounds_toArray, List.set_cons_zero, List.set_cons_succ]
        refine wpAnyH_take (i := 10) (v := .int .i64 q.me) rfl (by kernel_rfl) (by kernel_rfl) (by kernel_rfl) (fun _ _ _ h => h) (Or.inl ⟨by rfl, fun W hW => by have hc := hW.blk.c11; clear hW; go_simp⟩) H1_.out ?_
        try simp only [Act.put, List.getElem_toArray, List.getElem_cons_succ, List.getElem_cons_zero, List.setIfInBounds_toArray, List.set_cons_zero, List.set_cons_succ]
        refine wpAnyH_take (i := 11) (v := .agg q.arr) rfl (by kernel_rfl) (by kernel_rfl) (by kernel_rfl) (fun _ _ _ h => h) (yields_plan _ rfl (by rfl) rfl (fun W hW => hW.blk)) H1_.out ?_
        try simp only [Act.put, List.getElem_toArray, List.getElem_cons_succ, List.getElem_cons_zero, List.setIfInBounds_toArray, List.set_cons_zero, List.set_cons_succ]
        refine wpAnyH_ready (rs := [12]) (by kernel_rfl) (by simp) ?_
        refine AllReadyH.cons rfl (fun K hK => ?_) AllReadyH.nil
        go_simp
        go_at_call 21
        refine (LS.out _).mono ?_
        rintro e V2_ ⟨rfl, hb2_⟩
        have H2_ := Lib.hid (H1_.out.call hb2_)
        clear hb2_
        refine hK.out _ _ H2_.out (fun _ => ?_)
        clear hK K
        try simp only [Act.put, List.getElem_toArray, List.getElem_cons_succ, List.getElem_cons_zero, List.setIfInBounds_toArray, List.set_cons_zero, List.set_cons_succ]
        refine wpAnyH_take (i := 13) (v := .bool true) rfl (by kernel_rfl) (by kernel_rfl) (by kernel_rfl) (fun _ _ _ h => h) (Or.inl ⟨by rfl, fun W hW => by clear hW; go_simp⟩) H2_.out ?_
        try simp only [Act.put, List.getElem_toArray, List.getElem_cons_succ, List.getElem_cons_zero, List.setIfInBounds_toArray, List.set_cons_zero, List.set_cons_succ]
        refine wpAnyH_take (i := 14) (v := .bool true) rfl (by kernel_rfl) (by kernel_rfl) (by kernel_rfl) (fun _ _ _ h => h) (Or.inl ⟨by rfl, fun W hW => by clear hW; go_simp⟩) H2_.out ?_
        try simp only [Act.put, List.getElem_toArray, List.getElem_cons_succ, List.getElem_cons_zero, List.setIfInBounds_toArray, List.set_cons_zero, List.set_cons_succ]
        refine wpAnyH_take (i := 15) (v := .bool true) rfl (by kernel_rfl) (by kernel_rfl) (by kernel_rfl) (fun _ _ _ h => h) (Or.inl ⟨by rfl, fun W hW => by clear hW; go_simp⟩) H2_.out ?_
        try simp only [Act.put, List.getElem_toArray, List.getElem_cons_succ, List.getElem_cons_zero, List.setIfInBounds_toArray, List.set_cons_zero, List.set_cons_succ]
        refine wpAnyH_take (i := 16) (v := .int .i64 (T : Nat)) rfl (by kernel_rfl) (by kernel_rfl) (by kernel_rfl) (fun _ _ _ h => h) (Or.inl ⟨by rfl, fun W hW => by clear hW; go_simp⟩) H2_.out ?_
        try simp only [Act.put, List.getElem_toArray, List.getElem_cons_succ, List.getElem_cons_zero, List.setIfInBounds_toArray, List.set_cons_zero, List.set_cons_succ]
        refine wpAnyH_take (i := 17) (v := .bool true) rfl (by kernel_rfl) (by kernel_rfl) (by kernel_rfl) (fun _ _ _ h => h) (Or.inl ⟨by rfl, fun W hW => by clear hW; go_simp⟩) H2_.out ?_
        try simp only [Act.put, List.getElem_toArray, List.getElem_cons_succ, List.getElem_cons_zero, List.setIfInBounds_toArray, List.set_cons_zero, List.set_cons_succ]
        refine wpAnyH_take (i := 18) (v := .bool true) rfl (by kernel_rfl) (by kernel_rfl) (by kernel_rfl) (fun _ _ _ h => h) (Or.inl ⟨by rfl, fun W hW => by clear hW; go_simp⟩) H2_.out ?_
        try simp only [Act.put, List.getElem_toArray, List.getElem_cons_succ, List.getElem_cons_zero, List.setIfInBounds_toArray, List.set_cons_zero, List.set_cons_succ]
        refine wpAnyH_take (i := 19) (v := .bool true) rfl (by kernel_rfl) (by kernel_rfl) (by kernel_rfl) (fun _ _ _ h => h) (Or.inl ⟨by rfl, fun W hW => by clear hW; go_simp⟩) H2_.out ?_
        try simp only [Act.put, List.getElem_toArray, List.getElem_cons_succ, List.getElem_cons_zero, List.setIfInBounds_toArray, List.set_cons_zero, List.set_cons_succ]
        refine wpAnyH_take (i := 20) (v := .agg q.arr) rfl (by kernel_rfl) (by kernel_rfl) (by kernel_rfl) (fun _ _ _ h => h) (yields_plan _ rfl (by rfl) rfl (fun W hW => hW.blk)) H2_.out ?_
        try simp only [Act.put, List.getElem_toArray, List.getElem_cons_succ, List.getElem_cons_zero, List.setIfInBounds_toArray, List.set_cons_zero, List.set_cons_succ]
        refine wpAnyH_take (i := 22) (v := .pointer (some ⟨w.heap.size, 2, none⟩)) rfl (by kernel_rfl) (by kernel_rfl) (by kernel_rfl) (fun _ _ _ h => h) (Or.inl ⟨by rfl, fun W hW => by clear hW; go_simp⟩) H2_.out ?_
        try simp only [Act.put, List.getElem_toArray, List.getElem_cons_succ, List.getElem_cons_zero, List.setIfInBounds_toArray, List.set_cons_zero, List.set_cons_succ]
        refine wpAnyH_take (i := 23) (v := .int .i64 (n : Nat)) rfl (by kernel_rfl) (by kernel_rfl) (by kernel_rfl) (fun _ _ _ h => h) (Or.inl ⟨by rfl, fun W hW => by have hc := hW.blk.c2.trans (congrArg (fun z => some (Value.int .i64 z)) c2); clear hW; go_simp⟩) H2_.out ?_
        try simp only [Act.put, List.getElem_toArray, List.getElem_cons_succ, List.getElem_cons_zero, List.setIfInBounds_toArray, List.set_cons_zero, List.set_cons_succ]
        refine wpAnyH_take (i := 24) (v := .pointer (some ⟨w.heap.size, 3, none⟩)) rfl (by kernel_rfl) (by kernel_rfl) (by kernel_rfl) (fun _ _ _ h => h) (Or.inl ⟨by rfl, fun W hW => by clear hW; go_simp⟩) H2_.out ?_
        try simp only [Act.put, List.getElem_toArray, List.getElem_cons_succ, List.getElem_cons_zero, List.setIfInBounds_toArray, List.set_cons_zero, List.set_cons_succ]
        refine wpAnyH_take (i := 25) (v := .int .i64 (l : Nat)) rfl (by kernel_rfl) (by kernel_rfl) (by kernel_rfl) (fun _ _ _ h => h) (Or.inl ⟨by rfl, fun W hW => by have hc := hW.blk.c3.trans (congrArg (fun z => some (Value.int .i64 z)) c3); clear hW; go_simp⟩) H2_.out ?_
        try simp only [Act.put, List.getElem_toArray, List.getElem_cons_succ, List.getElem_cons_zero, List.setIfInBounds_toArray, List.set_cons_zero, List.set_cons_succ]
        refine wpAnyH_take (i := 26) (v := .int .i64 ((n : Int) * (l : Int))) rfl (by kernel_rfl) (by kernel_rfl) (by kernel_rfl) (fun _ _ _ h => h) (Or.inl ⟨by rfl, fun W hW => by clear hW; go_simp⟩) H2_.out ?_
        try simp only [Act.put, List.getElem_toArray, List.getElem_cons_succ, List.getElem_cons_zero, List.setIfInBounds_toArray, List.set_cons_zero, List.set_cons_succ]
        refine wpAnyH_ready (rs := [21]) (by kernel_rfl) (by simp) ?_
        refine AllReadyH.cons rfl (fun K hK => ?_) AllReadyH.nil
        go_simp
        go_at_call 19
        refine (AL.out _).mono ?_
        rintro e V3_ ⟨rfl, hb3_⟩
        have H3_ := Lib.hid (H2_.out.call hb3_)
        clear hb3_
        refine hK.out _ _ H3_.out (fun _ => ?_)
        clear hK K
        try simp only [Act.put, List.getElem_toArray, List.getElem_cons_succ, List.getElem_cons_zero, List.setIfInBounds_toArray, List.set_cons_zero, List.set_cons_succ]
        refine wpAnyH_take (i := 27) (v := .bool true) rfl (by kernel_rfl) (by kernel_rfl) (by kernel_rfl) (fun _ _ _ h => h) (Or.inl ⟨by rfl, fun W hW => by clear hW; go_simp⟩) H3_.out ?_
        try simp only [Act.put, List.getElem_toArray, List.getElem_cons_succ, List.getElem_cons_zero, List.setIfInBounds_toArray, List.set_cons_zero, List.set_cons_succ]
        refine wpAnyH_take (i := 28) (v := .bool true) rfl (by kernel_rfl) (by kernel_rfl) (by kernel_rfl) (fun _ _ _ h => h) (Or.inl ⟨by rfl, fun W hW => by clear hW; go_simp⟩) H3_.out ?_
        try simp only [Act.put, List.getElem_toArray, List.getElem_cons_succ, List.getElem_cons_zero, List.setIfInBounds_toArray, List.set_cons_zero, List.set_cons_succ]
        refine wpAnyH_take (i := 29) (v := .bool true) rfl (by kernel_rfl) (by kernel_rfl) (by kernel_rfl) (fun _ _ _ h => h) (Or.inl ⟨by rfl, fun W hW => by clear hW; go_simp⟩) H3_.out ?_
        try simp only [Act.put, List.getElem_toArray, List.getElem_cons_succ, List.getElem_cons_zero, List.setIfInBounds_toArray, List.set_cons_zero, List.set_cons_succ]
        refine wpAnyH_done (by kernel_rfl) ?_ _
        go_wp2
        go_ret
        exact ⟨rfl, H3_.out.bel⟩
theorem room_any (p : Pl) (w : World) : Calls Try.prog 6 #[.agg p.arr] w fun e w' => e = .returned (.bool true) ∧ Below w.heap.size w w' := by
  cases hr : right p
  · exact room_with p (fitP p) w (fit_right p) (.inr ⟨hr, rfl⟩)
  · exact room_with p p w hr (.inl ⟨hr, rfl⟩)
end Go.Proofs.Ytcbpnmcfiohndaa
