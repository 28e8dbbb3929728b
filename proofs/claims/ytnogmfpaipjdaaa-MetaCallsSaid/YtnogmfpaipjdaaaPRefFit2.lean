/- The document's right plan out of any is the program's. No statement is proved here. -/
import Derived.Test.YtnogmfpaipjdaaaPRefFit
namespace Go.Proofs.Ytnogmfpaipjdaaa.P
open Go.RowKit
set_option maxRecDepth 20000
set_option linter.unusedVariables false
set_option linter.unusedSimpArgs false

theorem wp_region_last3 {id : Nat} {ops : Array Oper} {Q : Exit → Act → World → Prop} {a : Act} {w W : World} {p q : Pl} (h : P3 w p q W) (m : Nat) (k : AnyT Try.prog ops Q (fun V => P3 w p q V) m ops.size (Array.replicate ops.size false) a W.drew) : (Code.region id ops true).wp Try.prog Q a W :=
  wp_region_last _ m (by kernel_rfl) k
attribute [local irreducible] fitP bounded Ls
set_option maxHeartbeats 8000000 in
set_option maxRecDepth 20000 in
theorem refFit_any (p : Pl) (w : World) : Calls Try.prog 26 #[.agg p.arr] w fun e w' => e = .returned (.agg (fitP p).arr) ∧ Below w.heap.size w w' := by
  have hA := P2.new w p
  rw [zero_arr] at hA
  have h0 := P3.new w p
  rw [zero_arr] at h0
  have Fco : Hid (∀ W, Calls Try.prog 48 #[.int .i64 p.co, .int .i64 1, .int .i64 4] W fun e w' => e = .returned (.int .i64 (fitI p.co 1 4)) ∧ w' = W) := fun W => refFit1_any p.co 1 4 (by omega) (by omega) W
  have Fba : Hid (∀ W, Calls Try.prog 48 #[.int .i64 p.ba, .int .i64 1, .int .i64 4] W fun e w' => e = .returned (.int .i64 (fitI p.ba 1 4)) ∧ w' = W) := fun W => refFit1_any p.ba 1 4 (by omega) (by omega) W
  have Fpa : Hid (∀ W, Calls Try.prog 48 #[.int .i64 p.pa, .int .i64 1, .int .i64 16] W fun e w' => e = .returned (.int .i64 (fitI p.pa 1 16)) ∧ w' = W) := fun W => refFit1_any p.pa 1 16 (by omega) (by omega) W
  have Fli : Hid (∀ W, Calls Try.prog 48 #[.int .i64 p.li, .int .i64 1, .int .i64 8] W fun e w' => e = .returned (.int .i64 (fitI p.li 1 8)) ∧ w' = W) := fun W => refFit1_any p.li 1 8 (by omega) (by omega) W
  have Far : Hid (∀ W, Calls Try.prog 48 #[.int .i64 p.ar, .int .i64 2, .int .i64 4] W fun e w' => e = .returned (.int .i64 (fitI p.ar 2 4)) ∧ w' = W) := fun W => refFit1_any p.ar 2 4 (by omega) (by omega) W
  have Fmi : Hid (∀ W, Calls Try.prog 48 #[.int .i64 p.mi, .int .i64 1, .int .i64 8] W fun e w' => e = .returned (.int .i64 (fitI p.mi 1 8)) ∧ w' = W) := fun W => refFit1_any p.mi 1 8 (by omega) (by omega) W
  have Fqu : Hid (∀ W, Calls Try.prog 48 #[.int .i64 p.qu, .int .i64 1, .int .i64 4] W fun e w' => e = .returned (.int .i64 (fitI p.qu 1 4)) ∧ w' = W) := fun W => refFit1_any p.qu 1 4 (by omega) (by omega) W
  have Fns : Hid (∀ W, Calls Try.prog 48 #[.int .i64 p.ns, .int .i64 1, .int .i64 4] W fun e w' => e = .returned (.int .i64 (fitI p.ns 1 4)) ∧ w' = W) := fun W => refFit1_any p.ns 1 4 (by omega) (by omega) W
  have Fnw : Hid (∀ W, Calls Try.prog 48 #[.int .i64 p.nw, .int .i64 1, .int .i64 4] W fun e w' => e = .returned (.int .i64 (fitI p.nw 1 4)) ∧ w' = W) := fun W => refFit1_any p.nw 1 4 (by omega) (by omega) W
  have Ffs : Hid (∀ W, Calls Try.prog 48 #[.int .i64 p.fs, .int .i64 1, .int .i64 4] W fun e w' => e = .returned (.int .i64 (fitI p.fs 1 4)) ∧ w' = W) := fun W => refFit1_any p.fs 1 4 (by omega) (by omega) W
  have Ffw : Hid (∀ W, Calls Try.prog 48 #[.int .i64 p.fw, .int .i64 1, .int .i64 4] W fun e w' => e = .returned (.int .i64 (fitI p.fw 1 4)) ∧ w' = W) := fun W => refFit1_any p.fw 1 4 (by omega) (by omega) W
  obtain ⟨-, -, k3, k4⟩ := tmod_facts p.ki 2 (by omega)
  have k3' : -2 < p.ki.tmod 2 := k3
  have k4' : p.ki.tmod 2 < 2 := k4
  obtain ⟨-, -, x3, x4⟩ := tmod_facts p.me 4 (by omega)
  have x3' : -4 < p.me.tmod 4 := x3
  have x4' : p.me.tmod 4 < 4 := x4
  have rt1 : (p.me.tmod 4 + 4).tmod 4 = p.me % 4 := rem_twice p.me 4 (by omega)
  have rt2 : (p.me.tmod 4 + 4) % 4 = p.me % 4 := (Int.tmod_eq_emod_of_nonneg (show 0 ≤ p.me.tmod 4 + 4 by omega)).symm.trans rt1
  obtain ⟨u1, u2⟩ := Ls_bounds (bounded_shaped p)
  have r1 := Int.emod_nonneg p.me (b := 4) (by omega)
  have r2 := Int.emod_lt_of_pos p.me (b := 4) (by omega)
  generalize hx : p.me.tmod 4 = xm at *
  generalize hr : p.me % 4 = r at *
  generalize hLL : Ls (bounded p) = LL at *
  clear k3 k4 x3 x4
  have w1 : IntKind.i64.wrap (LL + r) = LL + r := IntWalk.i64_in _ (by omega)
  have w2 : IntKind.i64.wrap (xm + 4) = xm + 4 := IntWalk.i64_in _ (by omega)
  have w3 : IntKind.i64.wrap r = r := IntWalk.i64_in _ (by omega)
  by_cases hm : 4294967296 < p.ma <;> by_cases hk : p.ki % 2 = 1
  · have E : Hid ((fitP p).arr = (⟨fitI p.co 1 4, fitI p.ba 1 4, fitI p.pa 1 16, fitI p.li 1 8, fitI p.ar 2 4, fitI p.mi 1 8, 4294967296, fitI p.ns 1 4, fitI p.nw 1 4, fitI p.fs 1 4, fitI p.fw 1 4, LL + r, fitI p.qu 1 4, 1, p.ks, p.hk⟩ : Pl).arr) := by
      have e : fitP p = { bounded p with me := LL + r } := by unfold fitP; rw [hLL, hr]
      rw [e]; unfold bounded
      rw [show min p.ma 4294967296 = 4294967296 by omega, show kindI p.ki = 1 by unfold kindI; rw [if_pos hk]]; exact rfl
    have LS : Hid (∀ W, Calls Try.prog 29 #[.agg (⟨fitI p.co 1 4, fitI p.ba 1 4, fitI p.pa 1 16, fitI p.li 1 8, fitI p.ar 2 4, fitI p.mi 1 8, 4294967296, fitI p.ns 1 4, fitI p.nw 1 4, fitI p.fs 1 4, fitI p.fw 1 4, p.me, fitI p.qu 1 4, 1, p.ks, p.hk⟩ : Pl).arr] W fun e w' => e = .returned (.int .i64 LL) ∧ Below W.heap.size W w') := fun W => by
      have h := refLeast_any (⟨fitI p.co 1 4, fitI p.ba 1 4, fitI p.pa 1 16, fitI p.li 1 8, fitI p.ar 2 4, fitI p.mi 1 8, 4294967296, fitI p.ns 1 4, fitI p.nw 1 4, fitI p.fs 1 4, fitI p.fw 1 4, p.me, fitI p.qu 1 4, 1, p.ks, p.hk⟩ : Pl) W
      have e : Ls (⟨fitI p.co 1 4, fitI p.ba 1 4, fitI p.pa 1 16, fitI p.li 1 8, fitI p.ar 2 4, fitI p.mi 1 8, 4294967296, fitI p.ns 1 4, fitI p.nw 1 4, fitI p.fs 1 4, fitI p.fw 1 4, p.me, fitI p.qu 1 4, 1, p.ks, p.hk⟩ : Pl) = LL := by rw [← hLL]; unfold bounded Ls Lv shaped; rfl
      rw [e] at h; exact h
    have gk : (p.ki.tmod 2 = 0) = False := eq_false (fun h => (tmod2 _).1 h hk)
    have gk2 : (p.ki.tmod 2 != 0) = true := by rw [bne_iff_ne]; exact fun h => (tmod2 _).1 h hk
    have gm : (4294967296 < p.ma) = True := eq_true hm
    generalize (fitP p).arr = BA at *
    clear hk hm hLL hr
    go_enter Try.func26, Try.ntmps26
    go_wp2_with (first
      | (refine wpList_load_plan hA.b1 _ rfl rfl rfl ?_)
      | (refine wpList_new3 h0 _ _ rfl rfl rfl rfl ?_; clear h0 hA; intro W0 h1; have d0 : W0.cell? ⟨w.heap.size, 0, none⟩ = some (.int .i64 p.co) := h1.a.b2.c0)
      | (go_at_call 48; have _ := d0; refine (Fco.out _).mono ?_; rintro e X0 ⟨rfl, rfl⟩)
      | (refine wpList_put3 h1 (by omega) (Pl.set_co _ (fitI p.co 1 4)) _ _ rfl rfl rfl rfl ?_; clear d0 h1; intro W1 h2; have d1 : W1.cell? ⟨w.heap.size, 1, none⟩ = some (.int .i64 p.ba) := h2.a.b2.c1)
      | (go_at_call 48; have _ := d1; refine (Fba.out _).mono ?_; rintro e X1 ⟨rfl, rfl⟩)
      | (refine wpList_put3 h2 (by omega) (Pl.set_ba _ (fitI p.ba 1 4)) _ _ rfl rfl rfl rfl ?_; clear d1 h2; intro W2 h3; have d2 : W2.cell? ⟨w.heap.size, 2, none⟩ = some (.int .i64 p.pa) := h3.a.b2.c2)
      | (go_at_call 48; have _ := d2; refine (Fpa.out _).mono ?_; rintro e X2 ⟨rfl, rfl⟩)
      | (refine wpList_put3 h3 (by omega) (Pl.set_pa _ (fitI p.pa 1 16)) _ _ rfl rfl rfl rfl ?_; clear d2 h3; intro W3 h4; have d3 : W3.cell? ⟨w.heap.size, 3, none⟩ = some (.int .i64 p.li) := h4.a.b2.c3)
      | (go_at_call 48; have _ := d3; refine (Fli.out _).mono ?_; rintro e X3 ⟨rfl, rfl⟩)
      | (refine wpList_put3 h4 (by omega) (Pl.set_li _ (fitI p.li 1 8)) _ _ rfl rfl rfl rfl ?_; clear d3 h4; intro W4 h5; have d4 : W4.cell? ⟨w.heap.size, 4, none⟩ = some (.int .i64 p.ar) := h5.a.b2.c4)
      | (go_at_call 48; have _ := d4; refine (Far.out _).mono ?_; rintro e X4 ⟨rfl, rfl⟩)
      | (refine wpList_put3 h5 (by omega) (Pl.set_ar _ (fitI p.ar 2 4)) _ _ rfl rfl rfl rfl ?_; clear d4 h5; intro W5 h6; have d5 : W5.cell? ⟨w.heap.size, 5, none⟩ = some (.int .i64 p.mi) := h6.a.b2.c5)
      | (go_at_call 48; have _ := d5; refine (Fmi.out _).mono ?_; rintro e X5 ⟨rfl, rfl⟩)
      | (refine wpList_put3 h6 (by omega) (Pl.set_mi _ (fitI p.mi 1 8)) _ _ rfl rfl rfl rfl ?_; clear d5 h6; intro W6 h7; have d6 : W6.cell? ⟨w.heap.size, 6, none⟩ = some (.int .u64 p.ma) := h7.a.b2.c6)
      | (refine wpList_put3U h7 (by omega) (Pl.set_ma _ 4294967296) _ _ rfl rfl rfl rfl ?_; clear h7 d6; intro W7 h8))
    have H0 := Lib.hid h8.drew
    refine wp_region_last3 h8 10 ?_
    clear h8
    generalize World.drew _ = V0 at *
    refine AnyT.take (i := 0) (v := .pointer (some ⟨w.heap.size, 7, none⟩)) rfl (by kernel_rfl) (by kernel_rfl) (by kernel_rfl) (by kernel_rfl) (by decide) (fun _ _ _ h => h) (Or.inl ⟨by rfl, fun W hW => by clear hW; go_simp⟩) H0.out ?_
    try simp only [Act.put, List.getElem_toArray, List.getElem_cons_succ, List.getElem_cons_zero, List.setIfInBounds_toArray, List.set_cons_zero, List.set_cons_succ]
    refine AnyT.take (i := 1) (v := .pointer (some ⟨w.heap.size, 7, none⟩)) rfl (by kernel_rfl) (by kernel_rfl) (by kernel_rfl) (by kernel_rfl) (by decide) (fun _ _ _ h => h) (Or.inl ⟨by rfl, fun W hW => by clear hW; go_simp⟩) H0.out ?_
    try simp only [Act.put, List.getElem_toArray, List.getElem_cons_succ, List.getElem_cons_zero, List.setIfInBounds_toArray, List.set_cons_zero, List.set_cons_succ]
    refine AnyT.take (i := 2) (v := .int .i64 p.ns) rfl (by kernel_rfl) (by kernel_rfl) (by kernel_rfl) (by kernel_rfl) (by decide) (fun _ _ _ h => h) (Or.inl ⟨by rfl, fun W hW => by have hc := hW.a.b2.c7; clear hW; go_simp⟩) H0.out ?_
    try simp only [Act.put, List.getElem_toArray, List.getElem_cons_succ, List.getElem_cons_zero, List.setIfInBounds_toArray, List.set_cons_zero, List.set_cons_succ]
    refine AnyT.take (i := 4) (v := .pointer (some ⟨w.heap.size, 7, none⟩)) rfl (by kernel_rfl) (by kernel_rfl) (by kernel_rfl) (by kernel_rfl) (by decide) (fun _ _ _ h => h) (Or.inl ⟨by rfl, fun W hW => by clear hW; go_simp⟩) H0.out ?_
    try simp only [Act.put, List.getElem_toArray, List.getElem_cons_succ, List.getElem_cons_zero, List.setIfInBounds_toArray, List.set_cons_zero, List.set_cons_succ]
    refine AnyT.take (i := 5) (v := .pointer (some ⟨w.heap.size, 8, none⟩)) rfl (by kernel_rfl) (by kernel_rfl) (by kernel_rfl) (by kernel_rfl) (by decide) (fun _ _ _ h => h) (Or.inl ⟨by rfl, fun W hW => by clear hW; go_simp⟩) H0.out ?_
    try simp only [Act.put, List.getElem_toArray, List.getElem_cons_succ, List.getElem_cons_zero, List.setIfInBounds_toArray, List.set_cons_zero, List.set_cons_succ]
    refine AnyT.take (i := 6) (v := .int .i64 p.nw) rfl (by kernel_rfl) (by kernel_rfl) (by kernel_rfl) (by kernel_rfl) (by decide) (fun _ _ _ h => h) (Or.inl ⟨by rfl, fun W hW => by have hc := hW.a.b2.c8; clear hW; go_simp⟩) H0.out ?_
    try simp only [Act.put, List.getElem_toArray, List.getElem_cons_succ, List.getElem_cons_zero, List.setIfInBounds_toArray, List.set_cons_zero, List.set_cons_succ]
    refine AnyT.one (i := 3) (by kernel_rfl) rfl (fun K hK => ?_)
    go_simp
    go_at_call 48
    refine (Fns.out _).mono ?_
    rintro e V1_ ⟨rfl, rfl⟩
    have H1_ := Lib.hid (H0.out)
    refine hK.out _ _ (fun _ => H1_.out) ?_
    clear hK K
    try simp only [Act.put, List.getElem_toArray, List.getElem_cons_succ, List.getElem_cons_zero, List.setIfInBounds_toArray, List.set_cons_zero, List.set_cons_succ]
    refine AnyT.one (i := 7) (by kernel_rfl) rfl (fun K hK => ?_)
    go_simp
    go_at_call 48
    refine (Fnw.out _).mono ?_
    rintro e V2_ ⟨rfl, rfl⟩
    have H2_ := Lib.hid (H1_.out)
    refine hK.out _ _ (fun _ => H2_.out) ?_
    clear hK K
    try simp only [Act.put, List.getElem_toArray, List.getElem_cons_succ, List.getElem_cons_zero, List.setIfInBounds_toArray, List.set_cons_zero, List.set_cons_succ]
    refine AnyT.take (i := 8) (v := .agg #[.int .i64 (fitI p.ns 1 4), .int .i64 (fitI p.nw 1 4)]) rfl (by kernel_rfl) (by kernel_rfl) (by kernel_rfl) (by kernel_rfl) (by decide) (fun _ _ _ h => h) (Or.inl ⟨by rfl, fun W hW => by clear hW; go_simp⟩) H2_.out ?_
    try simp only [Act.put, List.getElem_toArray, List.getElem_cons_succ, List.getElem_cons_zero, List.setIfInBounds_toArray, List.set_cons_zero, List.set_cons_succ]
    refine AnyT.take (i := 9) (v := .pointer (some ⟨w.heap.size + 2, 7, none⟩)) rfl (by kernel_rfl) (by kernel_rfl) (by kernel_rfl) (by kernel_rfl) (by decide) (fun _ _ _ h => h) (Or.inl ⟨by rfl, fun W hW => by clear hW; go_simp⟩) H2_.out ?_
    try simp only [Act.put, List.getElem_toArray, List.getElem_cons_succ, List.getElem_cons_zero, List.setIfInBounds_toArray, List.set_cons_zero, List.set_cons_succ]
    refine AnyT.one (i := 10) (by kernel_rfl) rfl (fun K hK => ?_)
    rw [if_pos (by rfl)]
    refine wp_two3 H2_.out (by omega) (Pl.set_near _ (fitI p.ns 1 4) (fitI p.nw 1 4)) _ _ rfl rfl rfl (fun X hX => ?_)
    refine hK.out _ _ (fun h => absurd rfl h) ?_
    clear hK K
    try simp only [Act.put, List.getElem_toArray, List.getElem_cons_succ, List.getElem_cons_zero, List.setIfInBounds_toArray, List.set_cons_zero, List.set_cons_succ]
    refine AnyT.done (by kernel_rfl) ?_ _
    have h9 := hX
    clear H0 H1_ H2_ hX
    go_wp2
    have H0 := Lib.hid h9.drew
    refine wp_region_last3 h9 10 ?_
    clear h9
    generalize World.drew _ = V0 at *
    refine AnyT.take (i := 0) (v := .pointer (some ⟨w.heap.size, 9, none⟩)) rfl (by kernel_rfl) (by kernel_rfl) (by kernel_rfl) (by kernel_rfl) (by decide) (fun _ _ _ h => h) (Or.inl ⟨by rfl, fun W hW => by clear hW; go_simp⟩) H0.out ?_
    try simp only [Act.put, List.getElem_toArray, List.getElem_cons_succ, List.getElem_cons_zero, List.setIfInBounds_toArray, List.set_cons_zero, List.set_cons_succ]
    refine AnyT.take (i := 1) (v := .pointer (some ⟨w.heap.size, 9, none⟩)) rfl (by kernel_rfl) (by kernel_rfl) (by kernel_rfl) (by kernel_rfl) (by decide) (fun _ _ _ h => h) (Or.inl ⟨by rfl, fun W hW => by clear hW; go_simp⟩) H0.out ?_
    try simp only [Act.put, List.getElem_toArray, List.getElem_cons_succ, List.getElem_cons_zero, List.setIfInBounds_toArray, List.set_cons_zero, List.set_cons_succ]
    refine AnyT.take (i := 2) (v := .int .i64 p.fs) rfl (by kernel_rfl) (by kernel_rfl) (by kernel_rfl) (by kernel_rfl) (by decide) (fun _ _ _ h => h) (Or.inl ⟨by rfl, fun W hW => by have hc := hW.a.b2.c9; clear hW; go_simp⟩) H0.out ?_
    try simp only [Act.put, List.getElem_toArray, List.getElem_cons_succ, List.getElem_cons_zero, List.setIfInBounds_toArray, List.set_cons_zero, List.set_cons_succ]
    refine AnyT.take (i := 4) (v := .pointer (some ⟨w.heap.size, 9, none⟩)) rfl (by kernel_rfl) (by kernel_rfl) (by kernel_rfl) (by kernel_rfl) (by decide) (fun _ _ _ h => h) (Or.inl ⟨by rfl, fun W hW => by clear hW; go_simp⟩) H0.out ?_
    try simp only [Act.put, List.getElem_toArray, List.getElem_cons_succ, List.getElem_cons_zero, List.setIfInBounds_toArray, List.set_cons_zero, List.set_cons_succ]
    refine AnyT.take (i := 5) (v := .pointer (some ⟨w.heap.size, 10, none⟩)) rfl (by kernel_rfl) (by kernel_rfl) (by kernel_rfl) (by kernel_rfl) (by decide) (fun _ _ _ h => h) (Or.inl ⟨by rfl, fun W hW => by clear hW; go_simp⟩) H0.out ?_
    try simp only [Act.put, List.getElem_toArray, List.getElem_cons_succ, List.getElem_cons_zero, List.setIfInBounds_toArray, List.set_cons_zero, List.set_cons_succ]
    refine AnyT.take (i := 6) (v := .int .i64 p.fw) rfl (by kernel_rfl) (by kernel_rfl) (by kernel_rfl) (by kernel_rfl) (by decide) (fun _ _ _ h => h) (Or.inl ⟨by rfl, fun W hW => by have hc := hW.a.b2.c10; clear hW; go_simp⟩) H0.out ?_
    try simp only [Act.put, List.getElem_toArray, List.getElem_cons_succ, List.getElem_cons_zero, List.setIfInBounds_toArray, List.set_cons_zero, List.set_cons_succ]
    refine AnyT.one (i := 3) (by kernel_rfl) rfl (fun K hK => ?_)
    go_simp
    go_at_call 48
    refine (Ffs.out _).mono ?_
    rintro e V1_ ⟨rfl, rfl⟩
    have H1_ := Lib.hid (H0.out)
    refine hK.out _ _ (fun _ => H1_.out) ?_
    clear hK K
    try simp only [Act.put, List.getElem_toArray, List.getElem_cons_succ, List.getElem_cons_zero, List.setIfInBounds_toArray, List.set_cons_zero, List.set_cons_succ]
    refine AnyT.one (i := 7) (by kernel_rfl) rfl (fun K hK => ?_)
    go_simp
    go_at_call 48
    refine (Ffw.out _).mono ?_
    rintro e V2_ ⟨rfl, rfl⟩
    have H2_ := Lib.hid (H1_.out)
    refine hK.out _ _ (fun _ => H2_.out) ?_
    clear hK K
    try simp only [Act.put, List.getElem_toArray, List.getElem_cons_succ, List.getElem_cons_zero, List.setIfInBounds_toArray, List.set_cons_zero, List.set_cons_succ]
    refine AnyT.take (i := 8) (v := .agg #[.int .i64 (fitI p.fs 1 4), .int .i64 (fitI p.fw 1 4)]) rfl (by kernel_rfl) (by kernel_rfl) (by kernel_rfl) (by kernel_rfl) (by decide) (fun _ _ _ h => h) (Or.inl ⟨by rfl, fun W hW => by clear hW; go_simp⟩) H2_.out ?_
    try simp only [Act.put, List.getElem_toArray, List.getElem_cons_succ, List.getElem_cons_zero, List.setIfInBounds_toArray, List.set_cons_zero, List.set_cons_succ]
    refine AnyT.take (i := 9) (v := .pointer (some ⟨w.heap.size + 2, 9, none⟩)) rfl (by kernel_rfl) (by kernel_rfl) (by kernel_rfl) (by kernel_rfl) (by decide) (fun _ _ _ h => h) (Or.inl ⟨by rfl, fun W hW => by clear hW; go_simp⟩) H2_.out ?_
    try simp only [Act.put, List.getElem_toArray, List.getElem_cons_succ, List.getElem_cons_zero, List.setIfInBounds_toArray, List.set_cons_zero, List.set_cons_succ]
    refine AnyT.one (i := 10) (by kernel_rfl) rfl (fun K hK => ?_)
    rw [if_pos (by rfl)]
    refine wp_two3 H2_.out (by omega) (Pl.set_far _ (fitI p.fs 1 4) (fitI p.fw 1 4)) _ _ rfl rfl rfl (fun X hX => ?_)
    refine hK.out _ _ (fun h => absurd rfl h) ?_
    clear hK K
    try simp only [Act.put, List.getElem_toArray, List.getElem_cons_succ, List.getElem_cons_zero, List.setIfInBounds_toArray, List.set_cons_zero, List.set_cons_succ]
    refine AnyT.done (by kernel_rfl) ?_ _
    have h10 := hX
    clear H0 H1_ H2_ hX
    have d12 : X.cell? ⟨w.heap.size, 12, none⟩ = some (.int .i64 p.qu) := h10.a.b2.c12
    go_wp2_with (first
      | (go_at_call 48; have _ := d12; refine (Fqu.out _).mono ?_; rintro e X6 ⟨rfl, rfl⟩)
      | (refine wpList_put3 h10 (by omega) (Pl.set_qu _ (fitI p.qu 1 4)) _ _ rfl rfl rfl rfl ?_; clear d12 h10; intro W8 h11)
      | (refine wpList_put3 h11 (by omega) (Pl.set_ki _ 0) _ _ rfl rfl rfl rfl ?_; clear h11; intro W9 h12; have d13 : W9.cell? ⟨w.heap.size, 13, none⟩ = some (.int .i64 p.ki) := h12.a.b2.c13)
      | (refine wpList_put3 h12 (by omega) (Pl.set_ki _ 1) _ _ rfl rfl rfl rfl ?_; clear h12 d13; intro W10 h13))
    have H0 := Lib.hid h13.drew
    refine wp_region_last3 h13 9 ?_
    clear h13
    generalize World.drew _ = V0 at *
    refine AnyT.take (i := 0)  rfl (by kernel_rfl) (by kernel_rfl) (by kernel_rfl) (by kernel_rfl) (by decide) (fun _ _ _ h => h) (yields_plan _ rfl (by rfl) rfl (fun W hW => hW.a.b1)) H0.out ?_
    try simp only [Act.put, List.getElem_toArray, List.getElem_cons_succ, List.getElem_cons_zero, List.setIfInBounds_toArray, List.set_cons_zero, List.set_cons_succ]
    refine AnyT.take (i := 2) (v := .pointer (some ⟨w.heap.size, 11, none⟩)) rfl (by kernel_rfl) (by kernel_rfl) (by kernel_rfl) (by kernel_rfl) (by decide) (fun _ _ _ h => h) (Or.inl ⟨by rfl, fun W hW => by clear hW; go_simp⟩) H0.out ?_
    try simp only [Act.put, List.getElem_toArray, List.getElem_cons_succ, List.getElem_cons_zero, List.setIfInBounds_toArray, List.set_cons_zero, List.set_cons_succ]
    refine AnyT.take (i := 3) (v := .int .i64 p.me) rfl (by kernel_rfl) (by kernel_rfl) (by kernel_rfl) (by kernel_rfl) (by decide) (fun _ _ _ h => h) (Or.inl ⟨by rfl, fun W hW => by have hc := hW.a.b2.c11; clear hW; go_simp⟩) H0.out ?_
    try simp only [Act.put, List.getElem_toArray, List.getElem_cons_succ, List.getElem_cons_zero, List.setIfInBounds_toArray, List.set_cons_zero, List.set_cons_succ]
    refine AnyT.take (i := 4) (v := .int .i64 xm) rfl (by kernel_rfl) (by kernel_rfl) (by kernel_rfl) (by kernel_rfl) (by decide) (fun _ _ _ h => h) (Or.inl ⟨by rfl, fun W hW => by clear hW; go_simp⟩) H0.out ?_
    try simp only [Act.put, List.getElem_toArray, List.getElem_cons_succ, List.getElem_cons_zero, List.setIfInBounds_toArray, List.set_cons_zero, List.set_cons_succ]
    refine AnyT.take (i := 5) (v := .int .i64 (xm + 4)) rfl (by kernel_rfl) (by kernel_rfl) (by kernel_rfl) (by kernel_rfl) (by decide) (fun _ _ _ h => h) (Or.inl ⟨by rfl, fun W hW => by clear hW; go_simp⟩) H0.out ?_
    try simp only [Act.put, List.getElem_toArray, List.getElem_cons_succ, List.getElem_cons_zero, List.setIfInBounds_toArray, List.set_cons_zero, List.set_cons_succ]
    refine AnyT.take (i := 6) (v := .int .i64 r) rfl (by kernel_rfl) (by kernel_rfl) (by kernel_rfl) (by kernel_rfl) (by decide) (fun _ _ _ h => h) (Or.inl ⟨by rfl, fun W hW => by clear hW; go_simp⟩) H0.out ?_
    try simp only [Act.put, List.getElem_toArray, List.getElem_cons_succ, List.getElem_cons_zero, List.setIfInBounds_toArray, List.set_cons_zero, List.set_cons_succ]
    refine AnyT.one (i := 1) (by kernel_rfl) rfl (fun K hK => ?_)
    go_simp
    go_at_call 29
    refine (LS.out _).mono ?_
    rintro e V1_ ⟨rfl, hb1_⟩
    have H1_ := Lib.hid (H0.out.call hb1_)
    clear hb1_
    refine hK.out _ _ (fun _ => H1_.out) ?_
    clear hK K
    try simp only [Act.put, List.getElem_toArray, List.getElem_cons_succ, List.getElem_cons_zero, List.setIfInBounds_toArray, List.set_cons_zero, List.set_cons_succ]
    refine AnyT.take (i := 7) (v := .int .i64 (LL + r)) rfl (by kernel_rfl) (by kernel_rfl) (by kernel_rfl) (by kernel_rfl) (by decide) (fun _ _ _ h => h) (Or.inl ⟨by rfl, fun W hW => by clear hW; go_simp⟩) H1_.out ?_
    try simp only [Act.put, List.getElem_toArray, List.getElem_cons_succ, List.getElem_cons_zero, List.setIfInBounds_toArray, List.set_cons_zero, List.set_cons_succ]
    refine AnyT.take (i := 8) (v := .pointer (some ⟨w.heap.size + 2, 11, none⟩)) rfl (by kernel_rfl) (by kernel_rfl) (by kernel_rfl) (by kernel_rfl) (by decide) (fun _ _ _ h => h) (Or.inl ⟨by rfl, fun W hW => by clear hW; go_simp⟩) H1_.out ?_
    try simp only [Act.put, List.getElem_toArray, List.getElem_cons_succ, List.getElem_cons_zero, List.setIfInBounds_toArray, List.set_cons_zero, List.set_cons_succ]
    refine AnyT.one (i := 9) (by kernel_rfl) rfl (fun K hK => ?_)
    rw [if_pos (by rfl)]
    refine wp_store_num _ _ rfl rfl rfl (H1_.out.a.b1.some 11 (by omega)) (H1_.out.a.b1.frozen 11) ?_
    refine hK.out _ _ (fun h => absurd rfl h) ?_
    clear hK K
    try simp only [Act.put, List.getElem_toArray, List.getElem_cons_succ, List.getElem_cons_zero, List.setIfInBounds_toArray, List.set_cons_zero, List.set_cons_succ]
    refine AnyT.done (by kernel_rfl) ?_ _
    have h14 := Lib.hid (H1_.out.put (Pl.set_me _ (LL + r)))
    generalize World.setCell _ _ _ = V3 at *
    go_wp2_with (first
      | (refine wpList_load_plan h14.out.a.b1 _ rfl rfl rfl ?_)
      | (refine wpList_end3 h14.out _ _ rfl rfl rfl rfl ?_; intro W11 h15))
    exact bodyPost_ret (results_arr Try.results26 _ _ (w.heap.size + 1) rfl _ h15.blk.loadV) rfl ⟨congrArg (fun z => Ending.returned (Value.agg z)) E.out.symm, h15.bel⟩
  · have E : Hid ((fitP p).arr = (⟨fitI p.co 1 4, fitI p.ba 1 4, fitI p.pa 1 16, fitI p.li 1 8, fitI p.ar 2 4, fitI p.mi 1 8, 4294967296, fitI p.ns 1 4, fitI p.nw 1 4, fitI p.fs 1 4, fitI p.fw 1 4, LL + r, fitI p.qu 1 4, 0, p.ks, p.hk⟩ : Pl).arr) := by
      have e : fitP p = { bounded p with me := LL + r } := by unfold fitP; rw [hLL, hr]
      rw [e]; unfold bounded
      rw [show min p.ma 4294967296 = 4294967296 by omega, show kindI p.ki = 0 by unfold kindI; rw [if_neg hk]]; exact rfl
    have LS : Hid (∀ W, Calls Try.prog 29 #[.agg (⟨fitI p.co 1 4, fitI p.ba 1 4, fitI p.pa 1 16, fitI p.li 1 8, fitI p.ar 2 4, fitI p.mi 1 8, 4294967296, fitI p.ns 1 4, fitI p.nw 1 4, fitI p.fs 1 4, fitI p.fw 1 4, p.me, fitI p.qu 1 4, 0, p.ks, p.hk⟩ : Pl).arr] W fun e w' => e = .returned (.int .i64 LL) ∧ Below W.heap.size W w') := fun W => by
      have h := refLeast_any (⟨fitI p.co 1 4, fitI p.ba 1 4, fitI p.pa 1 16, fitI p.li 1 8, fitI p.ar 2 4, fitI p.mi 1 8, 4294967296, fitI p.ns 1 4, fitI p.nw 1 4, fitI p.fs 1 4, fitI p.fw 1 4, p.me, fitI p.qu 1 4, 0, p.ks, p.hk⟩ : Pl) W
      have e : Ls (⟨fitI p.co 1 4, fitI p.ba 1 4, fitI p.pa 1 16, fitI p.li 1 8, fitI p.ar 2 4, fitI p.mi 1 8, 4294967296, fitI p.ns 1 4, fitI p.nw 1 4, fitI p.fs 1 4, fitI p.fw 1 4, p.me, fitI p.qu 1 4, 0, p.ks, p.hk⟩ : Pl) = LL := by rw [← hLL]; unfold bounded Ls Lv shaped; rfl
      rw [e] at h; exact h
    have gk : (p.ki.tmod 2 = 0) = True := eq_true ((tmod2 _).2 hk)
    have gk2 : (p.ki.tmod 2 != 0) = false := by rw [bne_eq_false_iff_eq]; exact (tmod2 _).2 hk
    have gm : (4294967296 < p.ma) = True := eq_true hm
    generalize (fitP p).arr = BA at *
    clear hk hm hLL hr
    go_enter Try.func26, Try.ntmps26
    go_wp2_with (first
      | (refine wpList_load_plan hA.b1 _ rfl rfl rfl ?_)
      | (refine wpList_new3 h0 _ _ rfl rfl rfl rfl ?_; clear h0 hA; intro W0 h1; have d0 : W0.cell? ⟨w.heap.size, 0, none⟩ = some (.int .i64 p.co) := h1.a.b2.c0)
      | (go_at_call 48; have _ := d0; refine (Fco.out _).mono ?_; rintro e X0 ⟨rfl, rfl⟩)
      | (refine wpList_put3 h1 (by omega) (Pl.set_co _ (fitI p.co 1 4)) _ _ rfl rfl rfl rfl ?_; clear d0 h1; intro W1 h2; have d1 : W1.cell? ⟨w.heap.size, 1, none⟩ = some (.int .i64 p.ba) := h2.a.b2.c1)
      | (go_at_call 48; have _ := d1; refine (Fba.out _).mono ?_; rintro e X1 ⟨rfl, rfl⟩)
      | (refine wpList_put3 h2 (by omega) (Pl.set_ba _ (fitI p.ba 1 4)) _ _ rfl rfl rfl rfl ?_; clear d1 h2; intro W2 h3; have d2 : W2.cell? ⟨w.heap.size, 2, none⟩ = some (.int .i64 p.pa) := h3.a.b2.c2)
      | (go_at_call 48; have _ := d2; refine (Fpa.out _).mono ?_; rintro e X2 ⟨rfl, rfl⟩)
      | (refine wpList_put3 h3 (by omega) (Pl.set_pa _ (fitI p.pa 1 16)) _ _ rfl rfl rfl rfl ?_; clear d2 h3; intro W3 h4; have d3 : W3.cell? ⟨w.heap.size, 3, none⟩ = some (.int .i64 p.li) := h4.a.b2.c3)
      | (go_at_call 48; have _ := d3; refine (Fli.out _).mono ?_; rintro e X3 ⟨rfl, rfl⟩)
      | (refine wpList_put3 h4 (by omega) (Pl.set_li _ (fitI p.li 1 8)) _ _ rfl rfl rfl rfl ?_; clear d3 h4; intro W4 h5; have d4 : W4.cell? ⟨w.heap.size, 4, none⟩ = some (.int .i64 p.ar) := h5.a.b2.c4)
      | (go_at_call 48; have _ := d4; refine (Far.out _).mono ?_; rintro e X4 ⟨rfl, rfl⟩)
      | (refine wpList_put3 h5 (by omega) (Pl.set_ar _ (fitI p.ar 2 4)) _ _ rfl rfl rfl rfl ?_; clear d4 h5; intro W5 h6; have d5 : W5.cell? ⟨w.heap.size, 5, none⟩ = some (.int .i64 p.mi) := h6.a.b2.c5)
      | (go_at_call 48; have _ := d5; refine (Fmi.out _).mono ?_; rintro e X5 ⟨rfl, rfl⟩)
      | (refine wpList_put3 h6 (by omega) (Pl.set_mi _ (fitI p.mi 1 8)) _ _ rfl rfl rfl rfl ?_; clear d5 h6; intro W6 h7; have d6 : W6.cell? ⟨w.heap.size, 6, none⟩ = some (.int .u64 p.ma) := h7.a.b2.c6)
      | (refine wpList_put3U h7 (by omega) (Pl.set_ma _ 4294967296) _ _ rfl rfl rfl rfl ?_; clear h7 d6; intro W7 h8))
    have H0 := Lib.hid h8.drew
    refine wp_region_last3 h8 10 ?_
    clear h8
    generalize World.drew _ = V0 at *
    refine AnyT.take (i := 0) (v := .pointer (some ⟨w.heap.size, 7, none⟩)) rfl (by kernel_rfl) (by kernel_rfl) (by kernel_rfl) (by kernel_rfl) (by decide) (fun _ _ _ h => h) (Or.inl ⟨by rfl, fun W hW => by clear hW; go_simp⟩) H0.out ?_
    try simp only [Act.put, List.getElem_toArray, List.getElem_cons_succ, List.getElem_cons_zero, List.setIfInBounds_toArray, List.set_cons_zero, List.set_cons_succ]
    refine AnyT.take (i := 1) (v := .pointer (some ⟨w.heap.size, 7, none⟩)) rfl (by kernel_rfl) (by kernel_rfl) (by kernel_rfl) (by kernel_rfl) (by decide) (fun _ _ _ h => h) (Or.inl ⟨by rfl, fun W hW => by clear hW; go_simp⟩) H0.out ?_
    try simp only [Act.put, List.getElem_toArray, List.getElem_cons_succ, List.getElem_cons_zero, List.setIfInBounds_toArray, List.set_cons_zero, List.set_cons_succ]
    refine AnyT.take (i := 2) (v := .int .i64 p.ns) rfl (by kernel_rfl) (by kernel_rfl) (by kernel_rfl) (by kernel_rfl) (by decide) (fun _ _ _ h => h) (Or.inl ⟨by rfl, fun W hW => by have hc := hW.a.b2.c7; clear hW; go_simp⟩) H0.out ?_
    try simp only [Act.put, List.getElem_toArray, List.getElem_cons_succ, List.getElem_cons_zero, List.setIfInBounds_toArray, List.set_cons_zero, List.set_cons_succ]
    refine AnyT.take (i := 4) (v := .pointer (some ⟨w.heap.size, 7, none⟩)) rfl (by kernel_rfl) (by kernel_rfl) (by kernel_rfl) (by kernel_rfl) (by decide) (fun _ _ _ h => h) (Or.inl ⟨by rfl, fun W hW => by clear hW; go_simp⟩) H0.out ?_
    try simp only [Act.put, List.getElem_toArray, List.getElem_cons_succ, List.getElem_cons_zero, List.setIfInBounds_toArray, List.set_cons_zero, List.set_cons_succ]
    refine AnyT.take (i := 5) (v := .pointer (some ⟨w.heap.size, 8, none⟩)) rfl (by kernel_rfl) (by kernel_rfl) (by kernel_rfl) (by kernel_rfl) (by decide) (fun _ _ _ h => h) (Or.inl ⟨by rfl, fun W hW => by clear hW; go_simp⟩) H0.out ?_
    try simp only [Act.put, List.getElem_toArray, List.getElem_cons_succ, List.getElem_cons_zero, List.setIfInBounds_toArray, List.set_cons_zero, List.set_cons_succ]
    refine AnyT.take (i := 6) (v := .int .i64 p.nw) rfl (by kernel_rfl) (by kernel_rfl) (by kernel_rfl) (by kernel_rfl) (by decide) (fun _ _ _ h => h) (Or.inl ⟨by rfl, fun W hW => by have hc := hW.a.b2.c8; clear hW; go_simp⟩) H0.out ?_
    try simp only [Act.put, List.getElem_toArray, List.getElem_cons_succ, List.getElem_cons_zero, List.setIfInBounds_toArray, List.set_cons_zero, List.set_cons_succ]
    refine AnyT.one (i := 3) (by kernel_rfl) rfl (fun K hK => ?_)
    go_simp
    go_at_call 48
    refine (Fns.out _).mono ?_
    rintro e V1_ ⟨rfl, rfl⟩
    have H1_ := Lib.hid (H0.out)
    refine hK.out _ _ (fun _ => H1_.out) ?_
    clear hK K
    try simp only [Act.put, List.getElem_toArray, List.getElem_cons_succ, List.getElem_cons_zero, List.setIfInBounds_toArray, List.set_cons_zero, List.set_cons_succ]
    refine AnyT.one (i := 7) (by kernel_rfl) rfl (fun K hK => ?_)
    go_simp
    go_at_call 48
    refine (Fnw.out _).mono ?_
    rintro e V2_ ⟨rfl, rfl⟩
    have H2_ := Lib.hid (H1_.out)
    refine hK.out _ _ (fun _ => H2_.out) ?_
    clear hK K
    try simp only [Act.put, List.getElem_toArray, List.getElem_cons_succ, List.getElem_cons_zero, List.setIfInBounds_toArray, List.set_cons_zero, List.set_cons_succ]
    refine AnyT.take (i := 8) (v := .agg #[.int .i64 (fitI p.ns 1 4), .int .i64 (fitI p.nw 1 4)]) rfl (by kernel_rfl) (by kernel_rfl) (by kernel_rfl) (by kernel_rfl) (by decide) (fun _ _ _ h => h) (Or.inl ⟨by rfl, fun W hW => by clear hW; go_simp⟩) H2_.out ?_
    try simp only [Act.put, List.getElem_toArray, List.getElem_cons_succ, List.getElem_cons_zero, List.setIfInBounds_toArray, List.set_cons_zero, List.set_cons_succ]
    refine AnyT.take (i := 9) (v := .pointer (some ⟨w.heap.size + 2, 7, none⟩)) rfl (by kernel_rfl) (by kernel_rfl) (by kernel_rfl) (by kernel_rfl) (by decide) (fun _ _ _ h => h) (Or.inl ⟨by rfl, fun W hW => by clear hW; go_simp⟩) H2_.out ?_
    try simp only [Act.put, List.getElem_toArray, List.getElem_cons_succ, List.getElem_cons_zero, List.setIfInBounds_toArray, List.set_cons_zero, List.set_cons_succ]
    refine AnyT.one (i := 10) (by kernel_rfl) rfl (fun K hK => ?_)
    rw [if_pos (by rfl)]
    refine wp_two3 H2_.out (by omega) (Pl.set_near _ (fitI p.ns 1 4) (fitI p.nw 1 4)) _ _ rfl rfl rfl (fun X hX => ?_)
    refine hK.out _ _ (fun h => absurd rfl h) ?_
    clear hK K
    try simp only [Act.put, List.getElem_toArray, List.getElem_cons_succ, List.getElem_cons_zero, List.setIfInBounds_toArray, List.set_cons_zero, List.set_cons_succ]
    refine AnyT.done (by kernel_rfl) ?_ _
    have h9 := hX
    clear H0 H1_ H2_ hX
    go_wp2
    have H0 := Lib.hid h9.drew
    refine wp_region_last3 h9 10 ?_
    clear h9
    generalize World.drew _ = V0 at *
    refine AnyT.take (i := 0) (v := .pointer (some ⟨w.heap.size, 9, none⟩)) rfl (by kernel_rfl) (by kernel_rfl) (by kernel_rfl) (by kernel_rfl) (by decide) (fun _ _ _ h => h) (Or.inl ⟨by rfl, fun W hW => by clear hW; go_simp⟩) H0.out ?_
    try simp only [Act.put, List.getElem_toArray, List.getElem_cons_succ, List.getElem_cons_zero, List.setIfInBounds_toArray, List.set_cons_zero, List.set_cons_succ]
    refine AnyT.take (i := 1) (v := .pointer (some ⟨w.heap.size, 9, none⟩)) rfl (by kernel_rfl) (by kernel_rfl) (by kernel_rfl) (by kernel_rfl) (by decide) (fun _ _ _ h => h) (Or.inl ⟨by rfl, fun W hW => by clear hW; go_simp⟩) H0.out ?_
    try simp only [Act.put, List.getElem_toArray, List.getElem_cons_succ, List.getElem_cons_zero, List.setIfInBounds_toArray, List.set_cons_zero, List.set_cons_succ]
    refine AnyT.take (i := 2) (v := .int .i64 p.fs) rfl (by kernel_rfl) (by kernel_rfl) (by kernel_rfl) (by kernel_rfl) (by decide) (fun _ _ _ h => h) (Or.inl ⟨by rfl, fun W hW => by have hc := hW.a.b2.c9; clear hW; go_simp⟩) H0.out ?_
    try simp only [Act.put, List.getElem_toArray, List.getElem_cons_succ, List.getElem_cons_zero, List.setIfInBounds_toArray, List.set_cons_zero, List.set_cons_succ]
    refine AnyT.take (i := 4) (v := .pointer (some ⟨w.heap.size, 9, none⟩)) rfl (by kernel_rfl) (by kernel_rfl) (by kernel_rfl) (by kernel_rfl) (by decide) (fun _ _ _ h => h) (Or.inl ⟨by rfl, fun W hW => by clear hW; go_simp⟩) H0.out ?_
    try simp only [Act.put, List.getElem_toArray, List.getElem_cons_succ, List.getElem_cons_zero, List.setIfInBounds_toArray, List.set_cons_zero, List.set_cons_succ]
    refine AnyT.take (i := 5) (v := .pointer (some ⟨w.heap.size, 10, none⟩)) rfl (by kernel_rfl) (by kernel_rfl) (by kernel_rfl) (by kernel_rfl) (by decide) (fun _ _ _ h => h) (Or.inl ⟨by rfl, fun W hW => by clear hW; go_simp⟩) H0.out ?_
    try simp only [Act.put, List.getElem_toArray, List.getElem_cons_succ, List.getElem_cons_zero, List.setIfInBounds_toArray, List.set_cons_zero, List.set_cons_succ]
    refine AnyT.take (i := 6) (v := .int .i64 p.fw) rfl (by kernel_rfl) (by kernel_rfl) (by kernel_rfl) (by kernel_rfl) (by decide) (fun _ _ _ h => h) (Or.inl ⟨by rfl, fun W hW => by have hc := hW.a.b2.c10; clear hW; go_simp⟩) H0.out ?_
    try simp only [Act.put, List.getElem_toArray, List.getElem_cons_succ, List.getElem_cons_zero, List.setIfInBounds_toArray, List.set_cons_zero, List.set_cons_succ]
    refine AnyT.one (i := 3) (by kernel_rfl) rfl (fun K hK => ?_)
    go_simp
    go_at_call 48
    refine (Ffs.out _).mono ?_
    rintro e V1_ ⟨rfl, rfl⟩
    have H1_ := Lib.hid (H0.out)
    refine hK.out _ _ (fun _ => H1_.out) ?_
    clear hK K
    try simp only [Act.put, List.getElem_toArray, List.getElem_cons_succ, List.getElem_cons_zero, List.setIfInBounds_toArray, List.set_cons_zero, List.set_cons_succ]
    refine AnyT.one (i := 7) (by kernel_rfl) rfl (fun K hK => ?_)
    go_simp
    go_at_call 48
    refine (Ffw.out _).mono ?_
    rintro e V2_ ⟨rfl, rfl⟩
    have H2_ := Lib.hid (H1_.out)
    refine hK.out _ _ (fun _ => H2_.out) ?_
    clear hK K
    try simp only [Act.put, List.getElem_toArray, List.getElem_cons_succ, List.getElem_cons_zero, List.setIfInBounds_toArray, List.set_cons_zero, List.set_cons_succ]
    refine AnyT.take (i := 8) (v := .agg #[.int .i64 (fitI p.fs 1 4), .int .i64 (fitI p.fw 1 4)]) rfl (by kernel_rfl) (by kernel_rfl) (by kernel_rfl) (by kernel_rfl) (by decide) (fun _ _ _ h => h) (Or.inl ⟨by rfl, fun W hW => by clear hW; go_simp⟩) H2_.out ?_
    try simp only [Act.put, List.getElem_toArray, List.getElem_cons_succ, List.getElem_cons_zero, List.setIfInBounds_toArray, List.set_cons_zero, List.set_cons_succ]
    refine AnyT.take (i := 9) (v := .pointer (some ⟨w.heap.size + 2, 9, none⟩)) rfl (by kernel_rfl) (by kernel_rfl) (by kernel_rfl) (by kernel_rfl) (by decide) (fun _ _ _ h => h) (Or.inl ⟨by rfl, fun W hW => by clear hW; go_simp⟩) H2_.out ?_
    try simp only [Act.put, List.getElem_toArray, List.getElem_cons_succ, List.getElem_cons_zero, List.setIfInBounds_toArray, List.set_cons_zero, List.set_cons_succ]
    refine AnyT.one (i := 10) (by kernel_rfl) rfl (fun K hK => ?_)
    rw [if_pos (by rfl)]
    refine wp_two3 H2_.out (by omega) (Pl.set_far _ (fitI p.fs 1 4) (fitI p.fw 1 4)) _ _ rfl rfl rfl (fun X hX => ?_)
    refine hK.out _ _ (fun h => absurd rfl h) ?_
    clear hK K
    try simp only [Act.put, List.getElem_toArray, List.getElem_cons_succ, List.getElem_cons_zero, List.setIfInBounds_toArray, List.set_cons_zero, List.set_cons_succ]
    refine AnyT.done (by kernel_rfl) ?_ _
    have h10 := hX
    clear H0 H1_ H2_ hX
    have d12 : X.cell? ⟨w.heap.size, 12, none⟩ = some (.int .i64 p.qu) := h10.a.b2.c12
    go_wp2_with (first
      | (go_at_call 48; have _ := d12; refine (Fqu.out _).mono ?_; rintro e X6 ⟨rfl, rfl⟩)
      | (refine wpList_put3 h10 (by omega) (Pl.set_qu _ (fitI p.qu 1 4)) _ _ rfl rfl rfl rfl ?_; clear d12 h10; intro W8 h11)
      | (refine wpList_put3 h11 (by omega) (Pl.set_ki _ 0) _ _ rfl rfl rfl rfl ?_; clear h11; intro W9 h12; have d13 : W9.cell? ⟨w.heap.size, 13, none⟩ = some (.int .i64 p.ki) := h12.a.b2.c13))
    have H0 := Lib.hid h12.drew
    refine wp_region_last3 h12 9 ?_
    clear h12
    generalize World.drew _ = V0 at *
    refine AnyT.take (i := 0)  rfl (by kernel_rfl) (by kernel_rfl) (by kernel_rfl) (by kernel_rfl) (by decide) (fun _ _ _ h => h) (yields_plan _ rfl (by rfl) rfl (fun W hW => hW.a.b1)) H0.out ?_
    try simp only [Act.put, List.getElem_toArray, List.getElem_cons_succ, List.getElem_cons_zero, List.setIfInBounds_toArray, List.set_cons_zero, List.set_cons_succ]
    refine AnyT.take (i := 2) (v := .pointer (some ⟨w.heap.size, 11, none⟩)) rfl (by kernel_rfl) (by kernel_rfl) (by kernel_rfl) (by kernel_rfl) (by decide) (fun _ _ _ h => h) (Or.inl ⟨by rfl, fun W hW => by clear hW; go_simp⟩) H0.out ?_
    try simp only [Act.put, List.getElem_toArray, List.getElem_cons_succ, List.getElem_cons_zero, List.setIfInBounds_toArray, List.set_cons_zero, List.set_cons_succ]
    refine AnyT.take (i := 3) (v := .int .i64 p.me) rfl (by kernel_rfl) (by kernel_rfl) (by kernel_rfl) (by kernel_rfl) (by decide) (fun _ _ _ h => h) (Or.inl ⟨by rfl, fun W hW => by have hc := hW.a.b2.c11; clear hW; go_simp⟩) H0.out ?_
    try simp only [Act.put, List.getElem_toArray, List.getElem_cons_succ, List.getElem_cons_zero, List.setIfInBounds_toArray, List.set_cons_zero, List.set_cons_succ]
    refine AnyT.take (i := 4) (v := .int .i64 xm) rfl (by kernel_rfl) (by kernel_rfl) (by kernel_rfl) (by kernel_rfl) (by decide) (fun _ _ _ h => h) (Or.inl ⟨by rfl, fun W hW => by clear hW; go_simp⟩) H0.out ?_
    try simp only [Act.put, List.getElem_toArray, List.getElem_cons_succ, List.getElem_cons_zero, List.setIfInBounds_toArray, List.set_cons_zero, List.set_cons_succ]
    refine AnyT.take (i := 5) (v := .int .i64 (xm + 4)) rfl (by kernel_rfl) (by kernel_rfl) (by kernel_rfl) (by kernel_rfl) (by decide) (fun _ _ _ h => h) (Or.inl ⟨by rfl, fun W hW => by clear hW; go_simp⟩) H0.out ?_
    try simp only [Act.put, List.getElem_toArray, List.getElem_cons_succ, List.getElem_cons_zero, List.setIfInBounds_toArray, List.set_cons_zero, List.set_cons_succ]
    refine AnyT.take (i := 6) (v := .int .i64 r) rfl (by kernel_rfl) (by kernel_rfl) (by kernel_rfl) (by kernel_rfl) (by decide) (fun _ _ _ h => h) (Or.inl ⟨by rfl, fun W hW => by clear hW; go_simp⟩) H0.out ?_
    try simp only [Act.put, List.getElem_toArray, List.getElem_cons_succ, List.getElem_cons_zero, List.setIfInBounds_toArray, List.set_cons_zero, List.set_cons_succ]
    refine AnyT.one (i := 1) (by kernel_rfl) rfl (fun K hK => ?_)
    go_simp
    go_at_call 29
    refine (LS.out _).mono ?_
    rintro e V1_ ⟨rfl, hb1_⟩
    have H1_ := Lib.hid (H0.out.call hb1_)
    clear hb1_
    refine hK.out _ _ (fun _ => H1_.out) ?_
    clear hK K
    try simp only [Act.put, List.getElem_toArray, List.getElem_cons_succ, List.getElem_cons_zero, List.setIfInBounds_toArray, List.set_cons_zero, List.set_cons_succ]
    refine AnyT.take (i := 7) (v := .int .i64 (LL + r)) rfl (by kernel_rfl) (by kernel_rfl) (by kernel_rfl) (by kernel_rfl) (by decide) (fun _ _ _ h => h) (Or.inl ⟨by rfl, fun W hW => by clear hW; go_simp⟩) H1_.out ?_
    try simp only [Act.put, List.getElem_toArray, List.getElem_cons_succ, List.getElem_cons_zero, List.setIfInBounds_toArray, List.set_cons_zero, List.set_cons_succ]
    refine AnyT.take (i := 8) (v := .pointer (some ⟨w.heap.size + 2, 11, none⟩)) rfl (by kernel_rfl) (by kernel_rfl) (by kernel_rfl) (by kernel_rfl) (by decide) (fun _ _ _ h => h) (Or.inl ⟨by rfl, fun W hW => by clear hW; go_simp⟩) H1_.out ?_
    try simp only [Act.put, List.getElem_toArray, List.getElem_cons_succ, List.getElem_cons_zero, List.setIfInBounds_toArray, List.set_cons_zero, List.set_cons_succ]
    refine AnyT.one (i := 9) (by kernel_rfl) rfl (fun K hK => ?_)
    rw [if_pos (by rfl)]
    refine wp_store_num _ _ rfl rfl rfl (H1_.out.a.b1.some 11 (by omega)) (H1_.out.a.b1.frozen 11) ?_
    refine hK.out _ _ (fun h => absurd rfl h) ?_
    clear hK K
    try simp only [Act.put, List.getElem_toArray, List.getElem_cons_succ, List.getElem_cons_zero, List.setIfInBounds_toArray, List.set_cons_zero, List.set_cons_succ]
    refine AnyT.done (by kernel_rfl) ?_ _
    have h14 := Lib.hid (H1_.out.put (Pl.set_me _ (LL + r)))
    generalize World.setCell _ _ _ = V3 at *
    go_wp2_with (first
      | (refine wpList_load_plan h14.out.a.b1 _ rfl rfl rfl ?_)
      | (refine wpList_end3 h14.out _ _ rfl rfl rfl rfl ?_; intro W11 h15))
    exact bodyPost_ret (results_arr Try.results26 _ _ (w.heap.size + 1) rfl _ h15.blk.loadV) rfl ⟨congrArg (fun z => Ending.returned (Value.agg z)) E.out.symm, h15.bel⟩
  · have E : Hid ((fitP p).arr = (⟨fitI p.co 1 4, fitI p.ba 1 4, fitI p.pa 1 16, fitI p.li 1 8, fitI p.ar 2 4, fitI p.mi 1 8, p.ma, fitI p.ns 1 4, fitI p.nw 1 4, fitI p.fs 1 4, fitI p.fw 1 4, LL + r, fitI p.qu 1 4, 1, p.ks, p.hk⟩ : Pl).arr) := by
      have e : fitP p = { bounded p with me := LL + r } := by unfold fitP; rw [hLL, hr]
      rw [e]; unfold bounded
      rw [show min p.ma 4294967296 = p.ma by omega, show kindI p.ki = 1 by unfold kindI; rw [if_pos hk]]; exact rfl
    have LS : Hid (∀ W, Calls Try.prog 29 #[.agg (⟨fitI p.co 1 4, fitI p.ba 1 4, fitI p.pa 1 16, fitI p.li 1 8, fitI p.ar 2 4, fitI p.mi 1 8, p.ma, fitI p.ns 1 4, fitI p.nw 1 4, fitI p.fs 1 4, fitI p.fw 1 4, p.me, fitI p.qu 1 4, 1, p.ks, p.hk⟩ : Pl).arr] W fun e w' => e = .returned (.int .i64 LL) ∧ Below W.heap.size W w') := fun W => by
      have h := refLeast_any (⟨fitI p.co 1 4, fitI p.ba 1 4, fitI p.pa 1 16, fitI p.li 1 8, fitI p.ar 2 4, fitI p.mi 1 8, p.ma, fitI p.ns 1 4, fitI p.nw 1 4, fitI p.fs 1 4, fitI p.fw 1 4, p.me, fitI p.qu 1 4, 1, p.ks, p.hk⟩ : Pl) W
      have e : Ls (⟨fitI p.co 1 4, fitI p.ba 1 4, fitI p.pa 1 16, fitI p.li 1 8, fitI p.ar 2 4, fitI p.mi 1 8, p.ma, fitI p.ns 1 4, fitI p.nw 1 4, fitI p.fs 1 4, fitI p.fw 1 4, p.me, fitI p.qu 1 4, 1, p.ks, p.hk⟩ : Pl) = LL := by rw [← hLL]; unfold bounded Ls Lv shaped; rfl
      rw [e] at h; exact h
    have gk : (p.ki.tmod 2 = 0) = False := eq_false (fun h => (tmod2 _).1 h hk)
    have gk2 : (p.ki.tmod 2 != 0) = true := by rw [bne_iff_ne]; exact fun h => (tmod2 _).1 h hk
    have gm : (4294967296 < p.ma) = False := eq_false hm
    generalize (fitP p).arr = BA at *
    clear hk hm hLL hr
    go_enter Try.func26, Try.ntmps26
    go_wp2_with (first
      | (refine wpList_load_plan hA.b1 _ rfl rfl rfl ?_)
      | (refine wpList_new3 h0 _ _ rfl rfl rfl rfl ?_; clear h0 hA; intro W0 h1; have d0 : W0.cell? ⟨w.heap.size, 0, none⟩ = some (.int .i64 p.co) := h1.a.b2.c0)
      | (go_at_call 48; have _ := d0; refine (Fco.out _).mono ?_; rintro e X0 ⟨rfl, rfl⟩)
      | (refine wpList_put3 h1 (by omega) (Pl.set_co _ (fitI p.co 1 4)) _ _ rfl rfl rfl rfl ?_; clear d0 h1; intro W1 h2; have d1 : W1.cell? ⟨w.heap.size, 1, none⟩ = some (.int .i64 p.ba) := h2.a.b2.c1)
      | (go_at_call 48; have _ := d1; refine (Fba.out _).mono ?_; rintro e X1 ⟨rfl, rfl⟩)
      | (refine wpList_put3 h2 (by omega) (Pl.set_ba _ (fitI p.ba 1 4)) _ _ rfl rfl rfl rfl ?_; clear d1 h2; intro W2 h3; have d2 : W2.cell? ⟨w.heap.size, 2, none⟩ = some (.int .i64 p.pa) := h3.a.b2.c2)
      | (go_at_call 48; have _ := d2; refine (Fpa.out _).mono ?_; rintro e X2 ⟨rfl, rfl⟩)
      | (refine wpList_put3 h3 (by omega) (Pl.set_pa _ (fitI p.pa 1 16)) _ _ rfl rfl rfl rfl ?_; clear d2 h3; intro W3 h4; have d3 : W3.cell? ⟨w.heap.size, 3, none⟩ = some (.int .i64 p.li) := h4.a.b2.c3)
      | (go_at_call 48; have _ := d3; refine (Fli.out _).mono ?_; rintro e X3 ⟨rfl, rfl⟩)
      | (refine wpList_put3 h4 (by omega) (Pl.set_li _ (fitI p.li 1 8)) _ _ rfl rfl rfl rfl ?_; clear d3 h4; intro W4 h5; have d4 : W4.cell? ⟨w.heap.size, 4, none⟩ = some (.int .i64 p.ar) := h5.a.b2.c4)
      | (go_at_call 48; have _ := d4; refine (Far.out _).mono ?_; rintro e X4 ⟨rfl, rfl⟩)
      | (refine wpList_put3 h5 (by omega) (Pl.set_ar _ (fitI p.ar 2 4)) _ _ rfl rfl rfl rfl ?_; clear d4 h5; intro W5 h6; have d5 : W5.cell? ⟨w.heap.size, 5, none⟩ = some (.int .i64 p.mi) := h6.a.b2.c5)
      | (go_at_call 48; have _ := d5; refine (Fmi.out _).mono ?_; rintro e X5 ⟨rfl, rfl⟩)
      | (refine wpList_put3 h6 (by omega) (Pl.set_mi _ (fitI p.mi 1 8)) _ _ rfl rfl rfl rfl ?_; clear d5 h6; intro W6 h7; have d6 : W6.cell? ⟨w.heap.size, 6, none⟩ = some (.int .u64 p.ma) := h7.a.b2.c6))
    have H0 := Lib.hid h7.drew
    refine wp_region_last3 h7 10 ?_
    clear h7
    generalize World.drew _ = V0 at *
    refine AnyT.take (i := 0) (v := .pointer (some ⟨w.heap.size, 7, none⟩)) rfl (by kernel_rfl) (by kernel_rfl) (by kernel_rfl) (by kernel_rfl) (by decide) (fun _ _ _ h => h) (Or.inl ⟨by rfl, fun W hW => by clear hW; go_simp⟩) H0.out ?_
    try simp only [Act.put, List.getElem_toArray, List.getElem_cons_succ, List.getElem_cons_zero, List.setIfInBounds_toArray, List.set_cons_zero, List.set_cons_succ]
    refine AnyT.take (i := 1) (v := .pointer (some ⟨w.heap.size, 7, none⟩)) rfl (by kernel_rfl) (by kernel_rfl) (by kernel_rfl) (by kernel_rfl) (by decide) (fun _ _ _ h => h) (Or.inl ⟨by rfl, fun W hW => by clear hW; go_simp⟩) H0.out ?_
    try simp only [Act.put, List.getElem_toArray, List.getElem_cons_succ, List.getElem_cons_zero, List.setIfInBounds_toArray, List.set_cons_zero, List.set_cons_succ]
    refine AnyT.take (i := 2) (v := .int .i64 p.ns) rfl (by kernel_rfl) (by kernel_rfl) (by kernel_rfl) (by kernel_rfl) (by decide) (fun _ _ _ h => h) (Or.inl ⟨by rfl, fun W hW => by have hc := hW.a.b2.c7; clear hW; go_simp⟩) H0.out ?_
    try simp only [Act.put, List.getElem_toArray, List.getElem_cons_succ, List.getElem_cons_zero, List.setIfInBounds_toArray, List.set_cons_zero, List.set_cons_succ]
    refine AnyT.take (i := 4) (v := .pointer (some ⟨w.heap.size, 7, none⟩)) rfl (by kernel_rfl) (by kernel_rfl) (by kernel_rfl) (by kernel_rfl) (by decide) (fun _ _ _ h => h) (Or.inl ⟨by rfl, fun W hW => by clear hW; go_simp⟩) H0.out ?_
    try simp only [Act.put, List.getElem_toArray, List.getElem_cons_succ, List.getElem_cons_zero, List.setIfInBounds_toArray, List.set_cons_zero, List.set_cons_succ]
    refine AnyT.take (i := 5) (v := .pointer (some ⟨w.heap.size, 8, none⟩)) rfl (by kernel_rfl) (by kernel_rfl) (by kernel_rfl) (by kernel_rfl) (by decide) (fun _ _ _ h => h) (Or.inl ⟨by rfl, fun W hW => by clear hW; go_simp⟩) H0.out ?_
    try simp only [Act.put, List.getElem_toArray, List.getElem_cons_succ, List.getElem_cons_zero, List.setIfInBounds_toArray, List.set_cons_zero, List.set_cons_succ]
    refine AnyT.take (i := 6) (v := .int .i64 p.nw) rfl (by kernel_rfl) (by kernel_rfl) (by kernel_rfl) (by kernel_rfl) (by decide) (fun _ _ _ h => h) (Or.inl ⟨by rfl, fun W hW => by have hc := hW.a.b2.c8; clear hW; go_simp⟩) H0.out ?_
    try simp only [Act.put, List.getElem_toArray, List.getElem_cons_succ, List.getElem_cons_zero, List.setIfInBounds_toArray, List.set_cons_zero, List.set_cons_succ]
    refine AnyT.one (i := 3) (by kernel_rfl) rfl (fun K hK => ?_)
    go_simp
    go_at_call 48
    refine (Fns.out _).mono ?_
    rintro e V1_ ⟨rfl, rfl⟩
    have H1_ := Lib.hid (H0.out)
    refine hK.out _ _ (fun _ => H1_.out) ?_
    clear hK K
    try simp only [Act.put, List.getElem_toArray, List.getElem_cons_succ, List.getElem_cons_zero, List.setIfInBounds_toArray, List.set_cons_zero, List.set_cons_succ]
    refine AnyT.one (i := 7) (by kernel_rfl) rfl (fun K hK => ?_)
    go_simp
    go_at_call 48
    refine (Fnw.out _).mono ?_
    rintro e V2_ ⟨rfl, rfl⟩
    have H2_ := Lib.hid (H1_.out)
    refine hK.out _ _ (fun _ => H2_.out) ?_
    clear hK K
    try simp only [Act.put, List.getElem_toArray, List.getElem_cons_succ, List.getElem_cons_zero, List.setIfInBounds_toArray, List.set_cons_zero, List.set_cons_succ]
    refine AnyT.take (i := 8) (v := .agg #[.int .i64 (fitI p.ns 1 4), .int .i64 (fitI p.nw 1 4)]) rfl (by kernel_rfl) (by kernel_rfl) (by kernel_rfl) (by kernel_rfl) (by decide) (fun _ _ _ h => h) (Or.inl ⟨by rfl, fun W hW => by clear hW; go_simp⟩) H2_.out ?_
    try simp only [Act.put, List.getElem_toArray, List.getElem_cons_succ, List.getElem_cons_zero, List.setIfInBounds_toArray, List.set_cons_zero, List.set_cons_succ]
    refine AnyT.take (i := 9) (v := .pointer (some ⟨w.heap.size + 2, 7, none⟩)) rfl (by kernel_rfl) (by kernel_rfl) (by kernel_rfl) (by kernel_rfl) (by decide) (fun _ _ _ h => h) (Or.inl ⟨by rfl, fun W hW => by clear hW; go_simp⟩) H2_.out ?_
    try simp only [Act.put, List.getElem_toArray, List.getElem_cons_succ, List.getElem_cons_zero, List.setIfInBounds_toArray, List.set_cons_zero, List.set_cons_succ]
    refine AnyT.one (i := 10) (by kernel_rfl) rfl (fun K hK => ?_)
    rw [if_pos (by rfl)]
    refine wp_two3 H2_.out (by omega) (Pl.set_near _ (fitI p.ns 1 4) (fitI p.nw 1 4)) _ _ rfl rfl rfl (fun X hX => ?_)
    refine hK.out _ _ (fun h => absurd rfl h) ?_
    clear hK K
    try simp only [Act.put, List.getElem_toArray, List.getElem_cons_succ, List.getElem_cons_zero, List.setIfInBounds_toArray, List.set_cons_zero, List.set_cons_succ]
    refine AnyT.done (by kernel_rfl) ?_ _
    have h9 := hX
    clear H0 H1_ H2_ hX
    go_wp2
    have H0 := Lib.hid h9.drew
    refine wp_region_last3 h9 10 ?_
    clear h9
    generalize World.drew _ = V0 at *
    refine AnyT.take (i := 0) (v := .pointer (some ⟨w.heap.size, 9, none⟩)) rfl (by kernel_rfl) (by kernel_rfl) (by kernel_rfl) (by kernel_rfl) (by decide) (fun _ _ _ h => h) (Or.inl ⟨by rfl, fun W hW => by clear hW; go_simp⟩) H0.out ?_
    try simp only [Act.put, List.getElem_toArray, List.getElem_cons_succ, List.getElem_cons_zero, List.setIfInBounds_toArray, List.set_cons_zero, List.set_cons_succ]
    refine AnyT.take (i := 1) (v := .pointer (some ⟨w.heap.size, 9, none⟩)) rfl (by kernel_rfl) (by kernel_rfl) (by kernel_rfl) (by kernel_rfl) (by decide) (fun _ _ _ h => h) (Or.inl ⟨by rfl, fun W hW => by clear hW; go_simp⟩) H0.out ?_
    try simp only [Act.put, List.getElem_toArray, List.getElem_cons_succ, List.getElem_cons_zero, List.setIfInBounds_toArray, List.set_cons_zero, List.set_cons_succ]
    refine AnyT.take (i := 2) (v := .int .i64 p.fs) rfl (by kernel_rfl) (by kernel_rfl) (by kernel_rfl) (by kernel_rfl) (by decide) (fun _ _ _ h => h) (Or.inl ⟨by rfl, fun W hW => by have hc := hW.a.b2.c9; clear hW; go_simp⟩) H0.out ?_
    try simp only [Act.put, List.getElem_toArray, List.getElem_cons_succ, List.getElem_cons_zero, List.setIfInBounds_toArray, List.set_cons_zero, List.set_cons_succ]
    refine AnyT.take (i := 4) (v := .pointer (some ⟨w.heap.size, 9, none⟩)) rfl (by kernel_rfl) (by kernel_rfl) (by kernel_rfl) (by kernel_rfl) (by decide) (fun _ _ _ h => h) (Or.inl ⟨by rfl, fun W hW => by clear hW; go_simp⟩) H0.out ?_
    try simp only [Act.put, List.getElem_toArray, List.getElem_cons_succ, List.getElem_cons_zero, List.setIfInBounds_toArray, List.set_cons_zero, List.set_cons_succ]
    refine AnyT.take (i := 5) (v := .pointer (some ⟨w.heap.size, 10, none⟩)) rfl (by kernel_rfl) (by kernel_rfl) (by kernel_rfl) (by kernel_rfl) (by decide) (fun _ _ _ h => h) (Or.inl ⟨by rfl, fun W hW => by clear hW; go_simp⟩) H0.out ?_
    try simp only [Act.put, List.getElem_toArray, List.getElem_cons_succ, List.getElem_cons_zero, List.setIfInBounds_toArray, List.set_cons_zero, List.set_cons_succ]
    refine AnyT.take (i := 6) (v := .int .i64 p.fw) rfl (by kernel_rfl) (by kernel_rfl) (by kernel_rfl) (by kernel_rfl) (by decide) (fun _ _ _ h => h) (Or.inl ⟨by rfl, fun W hW => by have hc := hW.a.b2.c10; clear hW; go_simp⟩) H0.out ?_
    try simp only [Act.put, List.getElem_toArray, List.getElem_cons_succ, List.getElem_cons_zero, List.setIfInBounds_toArray, List.set_cons_zero, List.set_cons_succ]
    refine AnyT.one (i := 3) (by kernel_rfl) rfl (fun K hK => ?_)
    go_simp
    go_at_call 48
    refine (Ffs.out _).mono ?_
    rintro e V1_ ⟨rfl, rfl⟩
    have H1_ := Lib.hid (H0.out)
    refine hK.out _ _ (fun _ => H1_.out) ?_
    clear hK K
    try simp only [Act.put, List.getElem_toArray, List.getElem_cons_succ, List.getElem_cons_zero, List.setIfInBounds_toArray, List.set_cons_zero, List.set_cons_succ]
    refine AnyT.one (i := 7) (by kernel_rfl) rfl (fun K hK => ?_)
    go_simp
    go_at_call 48
    refine (Ffw.out _).mono ?_
    rintro e V2_ ⟨rfl, rfl⟩
    have H2_ := Lib.hid (H1_.out)
    refine hK.out _ _ (fun _ => H2_.out) ?_
    clear hK K
    try simp only [Act.put, List.getElem_toArray, List.getElem_cons_succ, List.getElem_cons_zero, List.setIfInBounds_toArray, List.set_cons_zero, List.set_cons_succ]
    refine AnyT.take (i := 8) (v := .agg #[.int .i64 (fitI p.fs 1 4), .int .i64 (fitI p.fw 1 4)]) rfl (by kernel_rfl) (by kernel_rfl) (by kernel_rfl) (by kernel_rfl) (by decide) (fun _ _ _ h => h) (Or.inl ⟨by rfl, fun W hW => by clear hW; go_simp⟩) H2_.out ?_
    try simp only [Act.put, List.getElem_toArray, List.getElem_cons_succ, List.getElem_cons_zero, List.setIfInBounds_toArray, List.set_cons_zero, List.set_cons_succ]
    refine AnyT.take (i := 9) (v := .pointer (some ⟨w.heap.size + 2, 9, none⟩)) rfl (by kernel_rfl) (by kernel_rfl) (by kernel_rfl) (by kernel_rfl) (by decide) (fun _ _ _ h => h) (Or.inl ⟨by rfl, fun W hW => by clear hW; go_simp⟩) H2_.out ?_
    try simp only [Act.put, List.getElem_toArray, List.getElem_cons_succ, List.getElem_cons_zero, List.setIfInBounds_toArray, List.set_cons_zero, List.set_cons_succ]
    refine AnyT.one (i := 10) (by kernel_rfl) rfl (fun K hK => ?_)
    rw [if_pos (by rfl)]
    refine wp_two3 H2_.out (by omega) (Pl.set_far _ (fitI p.fs 1 4) (fitI p.fw 1 4)) _ _ rfl rfl rfl (fun X hX => ?_)
    refine hK.out _ _ (fun h => absurd rfl h) ?_
    clear hK K
    try simp only [Act.put, List.getElem_toArray, List.getElem_cons_succ, List.getElem_cons_zero, List.setIfInBounds_toArray, List.set_cons_zero, List.set_cons_succ]
    refine AnyT.done (by kernel_rfl) ?_ _
    have h10 := hX
    clear H0 H1_ H2_ hX
    have d12 : X.cell? ⟨w.heap.size, 12, none⟩ = some (.int .i64 p.qu) := h10.a.b2.c12
    go_wp2_with (first
      | (go_at_call 48; have _ := d12; refine (Fqu.out _).mono ?_; rintro e X6 ⟨rfl, rfl⟩)
      | (refine wpList_put3 h10 (by omega) (Pl.set_qu _ (fitI p.qu 1 4)) _ _ rfl rfl rfl rfl ?_; clear d12 h10; intro W8 h11)
      | (refine wpList_put3 h11 (by omega) (Pl.set_ki _ 0) _ _ rfl rfl rfl rfl ?_; clear h11; intro W9 h12; have d13 : W9.cell? ⟨w.heap.size, 13, none⟩ = some (.int .i64 p.ki) := h12.a.b2.c13)
      | (refine wpList_put3 h12 (by omega) (Pl.set_ki _ 1) _ _ rfl rfl rfl rfl ?_; clear h12 d13; intro W10 h13))
    have H0 := Lib.hid h13.drew
    refine wp_region_last3 h13 9 ?_
    clear h13
    generalize World.drew _ = V0 at *
    refine AnyT.take (i := 0)  rfl (by kernel_rfl) (by kernel_rfl) (by kernel_rfl) (by kernel_rfl) (by decide) (fun _ _ _ h => h) (yields_plan _ rfl (by rfl) rfl (fun W hW => hW.a.b1)) H0.out ?_
    try simp only [Act.put, List.getElem_toArray, List.getElem_cons_succ, List.getElem_cons_zero, List.setIfInBounds_toArray, List.set_cons_zero, List.set_cons_succ]
    refine AnyT.take (i := 2) (v := .pointer (some ⟨w.heap.size, 11, none⟩)) rfl (by kernel_rfl) (by kernel_rfl) (by kernel_rfl) (by kernel_rfl) (by decide) (fun _ _ _ h => h) (Or.inl ⟨by rfl, fun W hW => by clear hW; go_simp⟩) H0.out ?_
    try simp only [Act.put, List.getElem_toArray, List.getElem_cons_succ, List.getElem_cons_zero, List.setIfInBounds_toArray, List.set_cons_zero, List.set_cons_succ]
    refine AnyT.take (i := 3) (v := .int .i64 p.me) rfl (by kernel_rfl) (by kernel_rfl) (by kernel_rfl) (by kernel_rfl) (by decide) (fun _ _ _ h => h) (Or.inl ⟨by rfl, fun W hW => by have hc := hW.a.b2.c11; clear hW; go_simp⟩) H0.out ?_
    try simp only [Act.put, List.getElem_toArray, List.getElem_cons_succ, List.getElem_cons_zero, List.setIfInBounds_toArray, List.set_cons_zero, List.set_cons_succ]
    refine AnyT.take (i := 4) (v := .int .i64 xm) rfl (by kernel_rfl) (by kernel_rfl) (by kernel_rfl) (by kernel_rfl) (by decide) (fun _ _ _ h => h) (Or.inl ⟨by rfl, fun W hW => by clear hW; go_simp⟩) H0.out ?_
    try simp only [Act.put, List.getElem_toArray, List.getElem_cons_succ, List.getElem_cons_zero, List.setIfInBounds_toArray, List.set_cons_zero, List.set_cons_succ]
    refine AnyT.take (i := 5) (v := .int .i64 (xm + 4)) rfl (by kernel_rfl) (by kernel_rfl) (by kernel_rfl) (by kernel_rfl) (by decide) (fun _ _ _ h => h) (Or.inl ⟨by rfl, fun W hW => by clear hW; go_simp⟩) H0.out ?_
    try simp only [Act.put, List.getElem_toArray, List.getElem_cons_succ, List.getElem_cons_zero, List.setIfInBounds_toArray, List.set_cons_zero, List.set_cons_succ]
    refine AnyT.take (i := 6) (v := .int .i64 r) rfl (by kernel_rfl) (by kernel_rfl) (by kernel_rfl) (by kernel_rfl) (by decide) (fun _ _ _ h => h) (Or.inl ⟨by rfl, fun W hW => by clear hW; go_simp⟩) H0.out ?_
    try simp only [Act.put, List.getElem_toArray, List.getElem_cons_succ, List.getElem_cons_zero, List.setIfInBounds_toArray, List.set_cons_zero, List.set_cons_succ]
    refine AnyT.one (i := 1) (by kernel_rfl) rfl (fun K hK => ?_)
    go_simp
    go_at_call 29
    refine (LS.out _).mono ?_
    rintro e V1_ ⟨rfl, hb1_⟩
    have H1_ := Lib.hid (H0.out.call hb1_)
    clear hb1_
    refine hK.out _ _ (fun _ => H1_.out) ?_
    clear hK K
    try simp only [Act.put, List.getElem_toArray, List.getElem_cons_succ, List.getElem_cons_zero, List.setIfInBounds_toArray, List.set_cons_zero, List.set_cons_succ]
    refine AnyT.take (i := 7) (v := .int .i64 (LL + r)) rfl (by kernel_rfl) (by kernel_rfl) (by kernel_rfl) (by kernel_rfl) (by decide) (fun _ _ _ h => h) (Or.inl ⟨by rfl, fun W hW => by clear hW; go_simp⟩) H1_.out ?_
    try simp only [Act.put, List.getElem_toArray, List.getElem_cons_succ, List.getElem_cons_zero, List.setIfInBounds_toArray, List.set_cons_zero, List.set_cons_succ]
    refine AnyT.take (i := 8) (v := .pointer (some ⟨w.heap.size + 2, 11, none⟩)) rfl (by kernel_rfl) (by kernel_rfl) (by kernel_rfl) (by kernel_rfl) (by decide) (fun _ _ _ h => h) (Or.inl ⟨by rfl, fun W hW => by clear hW; go_simp⟩) H1_.out ?_
    try simp only [Act.put, List.getElem_toArray, List.getElem_cons_succ, List.getElem_cons_zero, List.setIfInBounds_toArray, List.set_cons_zero, List.set_cons_succ]
    refine AnyT.one (i := 9) (by kernel_rfl) rfl (fun K hK => ?_)
    rw [if_pos (by rfl)]
    refine wp_store_num _ _ rfl rfl rfl (H1_.out.a.b1.some 11 (by omega)) (H1_.out.a.b1.frozen 11) ?_
    refine hK.out _ _ (fun h => absurd rfl h) ?_
    clear hK K
    try simp only [Act.put, List.getElem_toArray, List.getElem_cons_succ, List.getElem_cons_zero, List.setIfInBounds_toArray, List.set_cons_zero, List.set_cons_succ]
    refine AnyT.done (by kernel_rfl) ?_ _
    have h14 := Lib.hid (H1_.out.put (Pl.set_me _ (LL + r)))
    generalize World.setCell _ _ _ = V3 at *
    go_wp2_with (first
      | (refine wpList_load_plan h14.out.a.b1 _ rfl rfl rfl ?_)
      | (refine wpList_end3 h14.out _ _ rfl rfl rfl rfl ?_; intro W11 h15))
    exact bodyPost_ret (results_arr Try.results26 _ _ (w.heap.size + 1) rfl _ h15.blk.loadV) rfl ⟨congrArg (fun z => Ending.returned (Value.agg z)) E.out.symm, h15.bel⟩
  · have E : Hid ((fitP p).arr = (⟨fitI p.co 1 4, fitI p.ba 1 4, fitI p.pa 1 16, fitI p.li 1 8, fitI p.ar 2 4, fitI p.mi 1 8, p.ma, fitI p.ns 1 4, fitI p.nw 1 4, fitI p.fs 1 4, fitI p.fw 1 4, LL + r, fitI p.qu 1 4, 0, p.ks, p.hk⟩ : Pl).arr) := by
      have e : fitP p = { bounded p with me := LL + r } := by unfold fitP; rw [hLL, hr]
      rw [e]; unfold bounded
      rw [show min p.ma 4294967296 = p.ma by omega, show kindI p.ki = 0 by unfold kindI; rw [if_neg hk]]; exact rfl
    have LS : Hid (∀ W, Calls Try.prog 29 #[.agg (⟨fitI p.co 1 4, fitI p.ba 1 4, fitI p.pa 1 16, fitI p.li 1 8, fitI p.ar 2 4, fitI p.mi 1 8, p.ma, fitI p.ns 1 4, fitI p.nw 1 4, fitI p.fs 1 4, fitI p.fw 1 4, p.me, fitI p.qu 1 4, 0, p.ks, p.hk⟩ : Pl).arr] W fun e w' => e = .returned (.int .i64 LL) ∧ Below W.heap.size W w') := fun W => by
      have h := refLeast_any (⟨fitI p.co 1 4, fitI p.ba 1 4, fitI p.pa 1 16, fitI p.li 1 8, fitI p.ar 2 4, fitI p.mi 1 8, p.ma, fitI p.ns 1 4, fitI p.nw 1 4, fitI p.fs 1 4, fitI p.fw 1 4, p.me, fitI p.qu 1 4, 0, p.ks, p.hk⟩ : Pl) W
      have e : Ls (⟨fitI p.co 1 4, fitI p.ba 1 4, fitI p.pa 1 16, fitI p.li 1 8, fitI p.ar 2 4, fitI p.mi 1 8, p.ma, fitI p.ns 1 4, fitI p.nw 1 4, fitI p.fs 1 4, fitI p.fw 1 4, p.me, fitI p.qu 1 4, 0, p.ks, p.hk⟩ : Pl) = LL := by rw [← hLL]; unfold bounded Ls Lv shaped; rfl
      rw [e] at h; exact h
    have gk : (p.ki.tmod 2 = 0) = True := eq_true ((tmod2 _).2 hk)
    have gk2 : (p.ki.tmod 2 != 0) = false := by rw [bne_eq_false_iff_eq]; exact (tmod2 _).2 hk
    have gm : (4294967296 < p.ma) = False := eq_false hm
    generalize (fitP p).arr = BA at *
    clear hk hm hLL hr
    go_enter Try.func26, Try.ntmps26
    go_wp2_with (first
      | (refine wpList_load_plan hA.b1 _ rfl rfl rfl ?_)
      | (refine wpList_new3 h0 _ _ rfl rfl rfl rfl ?_; clear h0 hA; intro W0 h1; have d0 : W0.cell? ⟨w.heap.size, 0, none⟩ = some (.int .i64 p.co) := h1.a.b2.c0)
      | (go_at_call 48; have _ := d0; refine (Fco.out _).mono ?_; rintro e X0 ⟨rfl, rfl⟩)
      | (refine wpList_put3 h1 (by omega) (Pl.set_co _ (fitI p.co 1 4)) _ _ rfl rfl rfl rfl ?_; clear d0 h1; intro W1 h2; have d1 : W1.cell? ⟨w.heap.size, 1, none⟩ = some (.int .i64 p.ba) := h2.a.b2.c1)
      | (go_at_call 48; have _ := d1; refine (Fba.out _).mono ?_; rintro e X1 ⟨rfl, rfl⟩)
      | (refine wpList_put3 h2 (by omega) (Pl.set_ba _ (fitI p.ba 1 4)) _ _ rfl rfl rfl rfl ?_; clear d1 h2; intro W2 h3; have d2 : W2.cell? ⟨w.heap.size, 2, none⟩ = some (.int .i64 p.pa) := h3.a.b2.c2)
      | (go_at_call 48; have _ := d2; refine (Fpa.out _).mono ?_; rintro e X2 ⟨rfl, rfl⟩)
      | (refine wpList_put3 h3 (by omega) (Pl.set_pa _ (fitI p.pa 1 16)) _ _ rfl rfl rfl rfl ?_; clear d2 h3; intro W3 h4; have d3 : W3.cell? ⟨w.heap.size, 3, none⟩ = some (.int .i64 p.li) := h4.a.b2.c3)
      | (go_at_call 48; have _ := d3; refine (Fli.out _).mono ?_; rintro e X3 ⟨rfl, rfl⟩)
      | (refine wpList_put3 h4 (by omega) (Pl.set_li _ (fitI p.li 1 8)) _ _ rfl rfl rfl rfl ?_; clear d3 h4; intro W4 h5; have d4 : W4.cell? ⟨w.heap.size, 4, none⟩ = some (.int .i64 p.ar) := h5.a.b2.c4)
      | (go_at_call 48; have _ := d4; refine (Far.out _).mono ?_; rintro e X4 ⟨rfl, rfl⟩)
      | (refine wpList_put3 h5 (by omega) (Pl.set_ar _ (fitI p.ar 2 4)) _ _ rfl rfl rfl rfl ?_; clear d4 h5; intro W5 h6; have d5 : W5.cell? ⟨w.heap.size, 5, none⟩ = some (.int .i64 p.mi) := h6.a.b2.c5)
      | (go_at_call 48; have _ := d5; refine (Fmi.out _).mono ?_; rintro e X5 ⟨rfl, rfl⟩)
      | (refine wpList_put3 h6 (by omega) (Pl.set_mi _ (fitI p.mi 1 8)) _ _ rfl rfl rfl rfl ?_; clear d5 h6; intro W6 h7; have d6 : W6.cell? ⟨w.heap.size, 6, none⟩ = some (.int .u64 p.ma) := h7.a.b2.c6))
    have H0 := Lib.hid h7.drew
    refine wp_region_last3 h7 10 ?_
    clear h7
    generalize World.drew _ = V0 at *
    refine AnyT.take (i := 0) (v := .pointer (some ⟨w.heap.size, 7, none⟩)) rfl (by kernel_rfl) (by kernel_rfl) (by kernel_rfl) (by kernel_rfl) (by decide) (fun _ _ _ h => h) (Or.inl ⟨by rfl, fun W hW => by clear hW; go_simp⟩) H0.out ?_
    try simp only [Act.put, List.getElem_toArray, List.getElem_cons_succ, List.getElem_cons_zero, List.setIfInBounds_toArray, List.set_cons_zero, List.set_cons_succ]
    refine AnyT.take (i := 1) (v := .pointer (some ⟨w.heap.size, 7, none⟩)) rfl (by kernel_rfl) (by kernel_rfl) (by kernel_rfl) (by kernel_rfl) (by decide) (fun _ _ _ h => h) (Or.inl ⟨by rfl, fun W hW => by clear hW; go_simp⟩) H0.out ?_
    try simp only [Act.put, List.getElem_toArray, List.getElem_cons_succ, List.getElem_cons_zero, List.setIfInBounds_toArray, List.set_cons_zero, List.set_cons_succ]
    refine AnyT.take (i := 2) (v := .int .i64 p.ns) rfl (by kernel_rfl) (by kernel_rfl) (by kernel_rfl) (by kernel_rfl) (by decide) (fun _ _ _ h => h) (Or.inl ⟨by rfl, fun W hW => by have hc := hW.a.b2.c7; clear hW; go_simp⟩) H0.out ?_
    try simp only [Act.put, List.getElem_toArray, List.getElem_cons_succ, List.getElem_cons_zero, List.setIfInBounds_toArray, List.set_cons_zero, List.set_cons_succ]
    refine AnyT.take (i := 4) (v := .pointer (some ⟨w.heap.size, 7, none⟩)) rfl (by kernel_rfl) (by kernel_rfl) (by kernel_rfl) (by kernel_rfl) (by decide) (fun _ _ _ h => h) (Or.inl ⟨by rfl, fun W hW => by clear hW; go_simp⟩) H0.out ?_
    try simp only [Act.put, List.getElem_toArray, List.getElem_cons_succ, List.getElem_cons_zero, List.setIfInBounds_toArray, List.set_cons_zero, List.set_cons_succ]
    refine AnyT.take (i := 5) (v := .pointer (some ⟨w.heap.size, 8, none⟩)) rfl (by kernel_rfl) (by kernel_rfl) (by kernel_rfl) (by kernel_rfl) (by decide) (fun _ _ _ h => h) (Or.inl ⟨by rfl, fun W hW => by clear hW; go_simp⟩) H0.out ?_
    try simp only [Act.put, List.getElem_toArray, List.getElem_cons_succ, List.getElem_cons_zero, List.setIfInBounds_toArray, List.set_cons_zero, List.set_cons_succ]
    refine AnyT.take (i := 6) (v := .int .i64 p.nw) rfl (by kernel_rfl) (by kernel_rfl) (by kernel_rfl) (by kernel_rfl) (by decide) (fun _ _ _ h => h) (Or.inl ⟨by rfl, fun W hW => by have hc := hW.a.b2.c8; clear hW; go_simp⟩) H0.out ?_
    try simp only [Act.put, List.getElem_toArray, List.getElem_cons_succ, List.getElem_cons_zero, List.setIfInBounds_toArray, List.set_cons_zero, List.set_cons_succ]
    refine AnyT.one (i := 3) (by kernel_rfl) rfl (fun K hK => ?_)
    go_simp
    go_at_call 48
    refine (Fns.out _).mono ?_
    rintro e V1_ ⟨rfl, rfl⟩
    have H1_ := Lib.hid (H0.out)
    refine hK.out _ _ (fun _ => H1_.out) ?_
    clear hK K
    try simp only [Act.put, List.getElem_toArray, List.getElem_cons_succ, List.getElem_cons_zero, List.setIfInBounds_toArray, List.set_cons_zero, List.set_cons_succ]
    refine AnyT.one (i := 7) (by kernel_rfl) rfl (fun K hK => ?_)
    go_simp
    go_at_call 48
    refine (Fnw.out _).mono ?_
    rintro e V2_ ⟨rfl, rfl⟩
    have H2_ := Lib.hid (H1_.out)
    refine hK.out _ _ (fun _ => H2_.out) ?_
    clear hK K
    try simp only [Act.put, List.getElem_toArray, List.getElem_cons_succ, List.getElem_cons_zero, List.setIfInBounds_toArray, List.set_cons_zero, List.set_cons_succ]
    refine AnyT.take (i := 8) (v := .agg #[.int .i64 (fitI p.ns 1 4), .int .i64 (fitI p.nw 1 4)]) rfl (by kernel_rfl) (by kernel_rfl) (by kernel_rfl) (by kernel_rfl) (by decide) (fun _ _ _ h => h) (Or.inl ⟨by rfl, fun W hW => by clear hW; go_simp⟩) H2_.out ?_
    try simp only [Act.put, List.getElem_toArray, List.getElem_cons_succ, List.getElem_cons_zero, List.setIfInBounds_toArray, List.set_cons_zero, List.set_cons_succ]
    refine AnyT.take (i := 9) (v := .pointer (some ⟨w.heap.size + 2, 7, none⟩)) rfl (by kernel_rfl) (by kernel_rfl) (by kernel_rfl) (by kernel_rfl) (by decide) (fun _ _ _ h => h) (Or.inl ⟨by rfl, fun W hW => by clear hW; go_simp⟩) H2_.out ?_
    try simp only [Act.put, List.getElem_toArray, List.getElem_cons_succ, List.getElem_cons_zero, List.setIfInBounds_toArray, List.set_cons_zero, List.set_cons_succ]
    refine AnyT.one (i := 10) (by kernel_rfl) rfl (fun K hK => ?_)
    rw [if_pos (by rfl)]
    refine wp_two3 H2_.out (by omega) (Pl.set_near _ (fitI p.ns 1 4) (fitI p.nw 1 4)) _ _ rfl rfl rfl (fun X hX => ?_)
    refine hK.out _ _ (fun h => absurd rfl h) ?_
    clear hK K
    try simp only [Act.put, List.getElem_toArray, List.getElem_cons_succ, List.getElem_cons_zero, List.setIfInBounds_toArray, List.set_cons_zero, List.set_cons_succ]
    refine AnyT.done (by kernel_rfl) ?_ _
    have h9 := hX
    clear H0 H1_ H2_ hX
    go_wp2
    have H0 := Lib.hid h9.drew
    refine wp_region_last3 h9 10 ?_
    clear h9
    generalize World.drew _ = V0 at *
    refine AnyT.take (i := 0) (v := .pointer (some ⟨w.heap.size, 9, none⟩)) rfl (by kernel_rfl) (by kernel_rfl) (by kernel_rfl) (by kernel_rfl) (by decide) (fun _ _ _ h => h) (Or.inl ⟨by rfl, fun W hW => by clear hW; go_simp⟩) H0.out ?_
    try simp only [Act.put, List.getElem_toArray, List.getElem_cons_succ, List.getElem_cons_zero, List.setIfInBounds_toArray, List.set_cons_zero, List.set_cons_succ]
    refine AnyT.take (i := 1) (v := .pointer (some ⟨w.heap.size, 9, none⟩)) rfl (by kernel_rfl) (by kernel_rfl) (by kernel_rfl) (by kernel_rfl) (by decide) (fun _ _ _ h => h) (Or.inl ⟨by rfl, fun W hW => by clear hW; go_simp⟩) H0.out ?_
    try simp only [Act.put, List.getElem_toArray, List.getElem_cons_succ, List.getElem_cons_zero, List.setIfInBounds_toArray, List.set_cons_zero, List.set_cons_succ]
    refine AnyT.take (i := 2) (v := .int .i64 p.fs) rfl (by kernel_rfl) (by kernel_rfl) (by kernel_rfl) (by kernel_rfl) (by decide) (fun _ _ _ h => h) (Or.inl ⟨by rfl, fun W hW => by have hc := hW.a.b2.c9; clear hW; go_simp⟩) H0.out ?_
    try simp only [Act.put, List.getElem_toArray, List.getElem_cons_succ, List.getElem_cons_zero, List.setIfInBounds_toArray, List.set_cons_zero, List.set_cons_succ]
    refine AnyT.take (i := 4) (v := .pointer (some ⟨w.heap.size, 9, none⟩)) rfl (by kernel_rfl) (by kernel_rfl) (by kernel_rfl) (by kernel_rfl) (by decide) (fun _ _ _ h => h) (Or.inl ⟨by rfl, fun W hW => by clear hW; go_simp⟩) H0.out ?_
    try simp only [Act.put, List.getElem_toArray, List.getElem_cons_succ, List.getElem_cons_zero, List.setIfInBounds_toArray, List.set_cons_zero, List.set_cons_succ]
    refine AnyT.take (i := 5) (v := .pointer (some ⟨w.heap.size, 10, none⟩)) rfl (by kernel_rfl) (by kernel_rfl) (by kernel_rfl) (by kernel_rfl) (by decide) (fun _ _ _ h => h) (Or.inl ⟨by rfl, fun W hW => by clear hW; go_simp⟩) H0.out ?_
    try simp only [Act.put, List.getElem_toArray, List.getElem_cons_succ, List.getElem_cons_zero, List.setIfInBounds_toArray, List.set_cons_zero, List.set_cons_succ]
    refine AnyT.take (i := 6) (v := .int .i64 p.fw) rfl (by kernel_rfl) (by kernel_rfl) (by kernel_rfl) (by kernel_rfl) (by decide) (fun _ _ _ h => h) (Or.inl ⟨by rfl, fun W hW => by have hc := hW.a.b2.c10; clear hW; go_simp⟩) H0.out ?_
    try simp only [Act.put, List.getElem_toArray, List.getElem_cons_succ, List.getElem_cons_zero, List.setIfInBounds_toArray, List.set_cons_zero, List.set_cons_succ]
    refine AnyT.one (i := 3) (by kernel_rfl) rfl (fun K hK => ?_)
    go_simp
    go_at_call 48
    refine (Ffs.out _).mono ?_
    rintro e V1_ ⟨rfl, rfl⟩
    have H1_ := Lib.hid (H0.out)
    refine hK.out _ _ (fun _ => H1_.out) ?_
    clear hK K
    try simp only [Act.put, List.getElem_toArray, List.getElem_cons_succ, List.getElem_cons_zero, List.setIfInBounds_toArray, List.set_cons_zero, List.set_cons_succ]
    refine AnyT.one (i := 7) (by kernel_rfl) rfl (fun K hK => ?_)
    go_simp
    go_at_call 48
    refine (Ffw.out _).mono ?_
    rintro e V2_ ⟨rfl, rfl⟩
    have H2_ := Lib.hid (H1_.out)
    refine hK.out _ _ (fun _ => H2_.out) ?_
    clear hK K
    try simp only [Act.put, List.getElem_toArray, List.getElem_cons_succ, List.getElem_cons_zero, List.setIfInBounds_toArray, List.set_cons_zero, List.set_cons_succ]
    refine AnyT.take (i := 8) (v := .agg #[.int .i64 (fitI p.fs 1 4), .int .i64 (fitI p.fw 1 4)]) rfl (by kernel_rfl) (by kernel_rfl) (by kernel_rfl) (by kernel_rfl) (by decide) (fun _ _ _ h => h) (Or.inl ⟨by rfl, fun W hW => by clear hW; go_simp⟩) H2_.out ?_
    try simp only [Act.put, List.getElem_toArray, List.getElem_cons_succ, List.getElem_cons_zero, List.setIfInBounds_toArray, List.set_cons_zero, List.set_cons_succ]
    refine AnyT.take (i := 9) (v := .pointer (some ⟨w.heap.size + 2, 9, none⟩)) rfl (by kernel_rfl) (by kernel_rfl) (by kernel_rfl) (by kernel_rfl) (by decide) (fun _ _ _ h => h) (Or.inl ⟨by rfl, fun W hW => by clear hW; go_simp⟩) H2_.out ?_
    try simp only [Act.put, List.getElem_toArray, List.getElem_cons_succ, List.getElem_cons_zero, List.setIfInBounds_toArray, List.set_cons_zero, List.set_cons_succ]
    refine AnyT.one (i := 10) (by kernel_rfl) rfl (fun K hK => ?_)
    rw [if_pos (by rfl)]
    refine wp_two3 H2_.out (by omega) (Pl.set_far _ (fitI p.fs 1 4) (fitI p.fw 1 4)) _ _ rfl rfl rfl (fun X hX => ?_)
    refine hK.out _ _ (fun h => absurd rfl h) ?_
    clear hK K
    try simp only [Act.put, List.getElem_toArray, List.getElem_cons_succ, List.getElem_cons_zero, List.setIfInBounds_toArray, List.set_cons_zero, List.set_cons_succ]
    refine AnyT.done (by kernel_rfl) ?_ _
    have h10 := hX
    clear H0 H1_ H2_ hX
    have d12 : X.cell? ⟨w.heap.size, 12, none⟩ = some (.int .i64 p.qu) := h10.a.b2.c12
    go_wp2_with (first
      | (go_at_call 48; have _ := d12; refine (Fqu.out _).mono ?_; rintro e X6 ⟨rfl, rfl⟩)
      | (refine wpList_put3 h10 (by omega) (Pl.set_qu _ (fitI p.qu 1 4)) _ _ rfl rfl rfl rfl ?_; clear d12 h10; intro W8 h11)
      | (refine wpList_put3 h11 (by omega) (Pl.set_ki _ 0) _ _ rfl rfl rfl rfl ?_; clear h11; intro W9 h12; have d13 : W9.cell? ⟨w.heap.size, 13, none⟩ = some (.int .i64 p.ki) := h12.a.b2.c13))
    have H0 := Lib.hid h12.drew
    refine wp_region_last3 h12 9 ?_
    clear h12
    generalize World.drew _ = V0 at *
    refine AnyT.take (i := 0)  rfl (by kernel_rfl) (by kernel_rfl) (by kernel_rfl) (by kernel_rfl) (by decide) (fun _ _ _ h => h) (yields_plan _ rfl (by rfl) rfl (fun W hW => hW.a.b1)) H0.out ?_
    try simp only [Act.put, List.getElem_toArray, List.getElem_cons_succ, List.getElem_cons_zero, List.setIfInBounds_toArray, List.set_cons_zero, List.set_cons_succ]
    refine AnyT.take (i := 2) (v := .pointer (some ⟨w.heap.size, 11, none⟩)) rfl (by kernel_rfl) (by kernel_rfl) (by kernel_rfl) (by kernel_rfl) (by decide) (fun _ _ _ h => h) (Or.inl ⟨by rfl, fun W hW => by clear hW; go_simp⟩) H0.out ?_
    try simp only [Act.put, List.getElem_toArray, List.getElem_cons_succ, List.getElem_cons_zero, List.setIfInBounds_toArray, List.set_cons_zero, List.set_cons_succ]
    refine AnyT.take (i := 3) (v := .int .i64 p.me) rfl (by kernel_rfl) (by kernel_rfl) (by kernel_rfl) (by kernel_rfl) (by decide) (fun _ _ _ h => h) (Or.inl ⟨by rfl, fun W hW => by have hc := hW.a.b2.c11; clear hW; go_simp⟩) H0.out ?_
    try simp only [Act.put, List.getElem_toArray, List.getElem_cons_succ, List.getElem_cons_zero, List.setIfInBounds_toArray, List.set_cons_zero, List.set_cons_succ]
    refine AnyT.take (i := 4) (v := .int .i64 xm) rfl (by kernel_rfl) (by kernel_rfl) (by kernel_rfl) (by kernel_rfl) (by decide) (fun _ _ _ h => h) (Or.inl ⟨by rfl, fun W hW => by clear hW; go_simp⟩) H0.out ?_
    try simp only [Act.put, List.getElem_toArray, List.getElem_cons_succ, List.getElem_cons_zero, List.setIfInBounds_toArray, List.set_cons_zero, List.set_cons_succ]
    refine AnyT.take (i := 5) (v := .int .i64 (xm + 4)) rfl (by kernel_rfl) (by kernel_rfl) (by kernel_rfl) (by kernel_rfl) (by decide) (fun _ _ _ h => h) (Or.inl ⟨by rfl, fun W hW => by clear hW; go_simp⟩) H0.out ?_
    try simp only [Act.put, List.getElem_toArray, List.getElem_cons_succ, List.getElem_cons_zero, List.setIfInBounds_toArray, List.set_cons_zero, List.set_cons_succ]
    refine AnyT.take (i := 6) (v := .int .i64 r) rfl (by kernel_rfl) (by kernel_rfl) (by kernel_rfl) (by kernel_rfl) (by decide) (fun _ _ _ h => h) (Or.inl ⟨by rfl, fun W hW => by clear hW; go_simp⟩) H0.out ?_
    try simp only [Act.put, List.getElem_toArray, List.getElem_cons_succ, List.getElem_cons_zero, List.setIfInBounds_toArray, List.set_cons_zero, List.set_cons_succ]
    refine AnyT.one (i := 1) (by kernel_rfl) rfl (fun K hK => ?_)
    go_simp
    go_at_call 29
    refine (LS.out _).mono ?_
    rintro e V1_ ⟨rfl, hb1_⟩
    have H1_ := Lib.hid (H0.out.call hb1_)
    clear hb1_
    refine hK.out _ _ (fun _ => H1_.out) ?_
    clear hK K
    try simp only [Act.put, List.getElem_toArray, List.getElem_cons_succ, List.getElem_cons_zero, List.setIfInBounds_toArray, List.set_cons_zero, List.set_cons_succ]
    refine AnyT.take (i := 7) (v := .int .i64 (LL + r)) rfl (by kernel_rfl) (by kernel_rfl) (by kernel_rfl) (by kernel_rfl) (by decide) (fun _ _ _ h => h) (Or.inl ⟨by rfl, fun W hW => by clear hW; go_simp⟩) H1_.out ?_
    try simp only [Act.put, List.getElem_toArray, List.getElem_cons_succ, List.getElem_cons_zero, List.setIfInBounds_toArray, List.set_cons_zero, List.set_cons_succ]
    refine AnyT.take (i := 8) (v := .pointer (some ⟨w.heap.size + 2, 11, none⟩)) rfl (by kernel_rfl) (by kernel_rfl) (by kernel_rfl) (by kernel_rfl) (by decide) (fun _ _ _ h => h) (Or.inl ⟨by rfl, fun W hW => by clear hW; go_simp⟩) H1_.out ?_
    try simp only [Act.put, List.getElem_toArray, List.getElem_cons_succ, List.getElem_cons_zero, List.setIfInBounds_toArray, List.set_cons_zero, List.set_cons_succ]
    refine AnyT.one (i := 9) (by kernel_rfl) rfl (fun K hK => ?_)
    rw [if_pos (by rfl)]
    refine wp_store_num _ _ rfl rfl rfl (H1_.out.a.b1.some 11 (by omega)) (H1_.out.a.b1.frozen 11) ?_
    refine hK.out _ _ (fun h => absurd rfl h) ?_
    clear hK K
    try simp only [Act.put, List.getElem_toArray, List.getElem_cons_succ, List.getElem_cons_zero, List.setIfInBounds_toArray, List.set_cons_zero, List.set_cons_succ]
    refine AnyT.done (by kernel_rfl) ?_ _
    have h14 := Lib.hid (H1_.out.put (Pl.set_me _ (LL + r)))
    generalize World.setCell _ _ _ = V3 at *
    go_wp2_with (first
      | (refine wpList_load_plan h14.out.a.b1 _ rfl rfl rfl ?_)
      | (refine wpList_end3 h14.out _ _ rfl rfl rfl rfl ?_; intro W11 h15))
    exact bodyPost_ret (results_arr Try.results26 _ _ (w.heap.size + 1) rfl _ h15.blk.loadV) rfl ⟨congrArg (fun z => Ending.returned (Value.agg z)) E.out.symm, h15.bel⟩
end Go.Proofs.Ytnogmfpaipjdaaa.P
