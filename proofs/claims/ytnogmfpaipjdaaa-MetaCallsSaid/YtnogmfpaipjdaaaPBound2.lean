/- A plan made as it may be, all but its Meta. No statement is proved here. -/
import Derived.Test.YtnogmfpaipjdaaaPBound
namespace Go.Proofs.Ytnogmfpaipjdaaa.P
open Go.RowKit
set_option linter.unusedVariables false
set_option linter.unusedSimpArgs false

theorem results_arr {P : Program} {fn : Func} {p : Tmp} {ty : TypeId} (h : fn.results = #[.cell p ty]) (tmps : Array Value) (w : World) (g : Nat) (hp : tmps.getD p undef = .pointer (some ⟨g, 0, none⟩)) (v : Value)
    (hl : (loadVar ty ⟨g, 0, none⟩).run P w = .ok v w) : (results fn tmps).run P w = .ok v w := by
  have hp' : tmps[p]?.getD undef = .pointer (some ⟨g, 0, none⟩) := by simpa using hp
  simp [results, h, hp', asAddr, hl]
theorem PBlk.loadV {W : World} {g : Nat} {p : Pl} (h : PBlk W g p) : (loadVar 28 ⟨g, 0, none⟩).run Try.prog W = .ok (.agg p.arr) W :=
  run_loadVar_row (P := Try.prog) W g 28 28 p.arr (0, 0) _ h Try.underlying28 rfl (by rw [p.arr_size]; kernel_rfl)
attribute [local irreducible] shaped

set_option maxHeartbeats 1000000 in
theorem shape_any (a b : Int) (w : World) : Calls Try.prog 61 #[.agg #[.int .i64 a, .int .i64 b]] w fun e w' => e = .returned (.agg #[.int .i64 (fitI a 1 4), .int .i64 (fitI b 1 4)]) ∧ Below w.heap.size w w' := by
  have F1 : Hid (∀ W, Calls Try.prog 60 #[.int .i64 a, .int .i64 1, .int .i64 4] W fun e w' => e = .returned (.int .i64 (fitI a 1 4)) ∧ w' = W) := fun W => fitted_any a 1 4 (by omega) (by omega) W
  have F2 : Hid (∀ W, Calls Try.prog 60 #[.int .i64 b, .int .i64 1, .int .i64 4] W fun e w' => e = .returned (.int .i64 (fitI b 1 4)) ∧ w' = W) := fun W => fitted_any b 1 4 (by omega) (by omega) W
  generalize fitI a 1 4 = x at *
  generalize fitI b 1 4 = y at *
  go_enter Try.func61, Try.ntmps61
  go_wp2
  go_region_held3 (fun W => W.cell? ⟨w.heap.size, 0, none⟩ = some (.int .i64 a) ∧ W.cell? ⟨w.heap.size, 1, none⟩ = some (.int .i64 b)) (go_keep) (first
    | (go_at_call_of 60 (Value.int IntKind.i64 a); refine (F1.out _).mono ?_; rintro e W1 ⟨rfl, rfl⟩)
    | (go_at_call_of 60 (Value.int IntKind.i64 b); refine (F2.out _).mono ?_; rintro e W1 ⟨rfl, rfl⟩))
  go_wp2
  exact bodyPost_ret (results_arr Try.results61 _ _ (w.heap.size + 1) rfl _ (run_loadVar_row (P := Try.prog) _ (w.heap.size + 1) 24 24 #[.int .i64 x, .int .i64 y] (0, 0) _ (heap_alloc2_new w _ _) Try.underlying24 rfl sz24)) rfl ⟨rfl, (((Below.refl _ _).alloc (Nat.le_refl _) _).alloc (by simp) _).drew⟩
def bounded (p : Pl) : Pl := ⟨fitI p.co 1 4, fitI p.ba 1 4, fitI p.pa 1 16, fitI p.li 1 8, fitI p.ar 2 4, fitI p.mi 1 8, min p.ma 4294967296, fitI p.ns 1 4, fitI p.nw 1 4, fitI p.fs 1 4, fitI p.fw 1 4, p.me, fitI p.qu 1 4, kindI p.ki, p.ks, p.hk⟩
theorem Pl.set_near (p : Pl) (v u : Int) : ({ p with ns := v, nw := u } : Pl).arr = (p.arr.setIfInBounds 7 (.int .i64 v)).setIfInBounds 8 (.int .i64 u) := by
  unfold Pl.arr Pl.cs; rw [List.setIfInBounds_toArray, List.setIfInBounds_toArray]; rfl
theorem Pl.set_far (p : Pl) (v u : Int) : ({ p with fs := v, fw := u } : Pl).arr = (p.arr.setIfInBounds 9 (.int .i64 v)).setIfInBounds 10 (.int .i64 u) := by
  unfold Pl.arr Pl.cs; rw [List.setIfInBounds_toArray, List.setIfInBounds_toArray]; rfl
theorem Pl.same_ma (p : Pl) : p.arr = p.arr.setIfInBounds 6 (.int .u64 p.ma) := by
  unfold Pl.arr Pl.cs; rw [List.setIfInBounds_toArray]; rfl
set_option maxHeartbeats 2000000 in
set_option maxRecDepth 20000 in
theorem bounded_any (p : Pl) (w : World) : Calls Try.prog 49 #[.agg p.arr] w fun e w' => e = .returned (.agg (bounded p).arr) ∧ Below w.heap.size w w' := by
  have h0 := P2.new w p
  rw [zero_arr] at h0
  have d0 := h0.b1.c0
  have Fco : Hid (∀ W, Calls Try.prog 60 #[.int .i64 p.co, .int .i64 1, .int .i64 4] W fun e w' => e = .returned (.int .i64 (fitI p.co 1 4)) ∧ w' = W) := fun W => fitted_any p.co 1 4 (by omega) (by omega) W
  have Fba : Hid (∀ W, Calls Try.prog 60 #[.int .i64 p.ba, .int .i64 1, .int .i64 4] W fun e w' => e = .returned (.int .i64 (fitI p.ba 1 4)) ∧ w' = W) := fun W => fitted_any p.ba 1 4 (by omega) (by omega) W
  have Fpa : Hid (∀ W, Calls Try.prog 60 #[.int .i64 p.pa, .int .i64 1, .int .i64 16] W fun e w' => e = .returned (.int .i64 (fitI p.pa 1 16)) ∧ w' = W) := fun W => fitted_any p.pa 1 16 (by omega) (by omega) W
  have Fli : Hid (∀ W, Calls Try.prog 60 #[.int .i64 p.li, .int .i64 1, .int .i64 8] W fun e w' => e = .returned (.int .i64 (fitI p.li 1 8)) ∧ w' = W) := fun W => fitted_any p.li 1 8 (by omega) (by omega) W
  have Far : Hid (∀ W, Calls Try.prog 60 #[.int .i64 p.ar, .int .i64 2, .int .i64 4] W fun e w' => e = .returned (.int .i64 (fitI p.ar 2 4)) ∧ w' = W) := fun W => fitted_any p.ar 2 4 (by omega) (by omega) W
  have Fmi : Hid (∀ W, Calls Try.prog 60 #[.int .i64 p.mi, .int .i64 1, .int .i64 8] W fun e w' => e = .returned (.int .i64 (fitI p.mi 1 8)) ∧ w' = W) := fun W => fitted_any p.mi 1 8 (by omega) (by omega) W
  have Fqu : Hid (∀ W, Calls Try.prog 60 #[.int .i64 p.qu, .int .i64 1, .int .i64 4] W fun e w' => e = .returned (.int .i64 (fitI p.qu 1 4)) ∧ w' = W) := fun W => fitted_any p.qu 1 4 (by omega) (by omega) W
  have Fki := Lib.hid (fun W => kindOf_any p.ki W)
  have S1 := Lib.hid (fun W => shape_any p.ns p.nw W)
  have S2 := Lib.hid (fun W => shape_any p.fs p.fw W)
  by_cases hm : 4294967296 < p.ma
  · have E : Hid ((bounded p).arr = (⟨fitI p.co 1 4, fitI p.ba 1 4, fitI p.pa 1 16, fitI p.li 1 8, fitI p.ar 2 4, fitI p.mi 1 8, 4294967296, fitI p.ns 1 4, fitI p.nw 1 4, fitI p.fs 1 4, fitI p.fw 1 4, p.me, fitI p.qu 1 4, kindI p.ki, p.ks, p.hk⟩ : Pl).arr) := by unfold bounded; rw [show min p.ma 4294967296 = 4294967296 by omega]; exact rfl
    generalize (bounded p).arr = BA at *
    go_enter Try.func49, Try.ntmps49
    go_wp2_with (first
      | (go_at_call 60; have _ := d0; refine (Fco.out _).mono ?_; rintro e W0 ⟨rfl, rfl⟩)
      | (refine wpList_put h0 (by omega) (Pl.set_co _ (fitI p.co 1 4)) _ _ rfl rfl rfl rfl ?_; clear d0 h0; intro W0 h1; have d1 : W0.cell? ⟨w.heap.size, 1, none⟩ = some (.int .i64 p.ba) := h1.b1.c1)
      | (go_at_call 60; have _ := d1; refine (Fba.out _).mono ?_; rintro e W1 ⟨rfl, rfl⟩)
      | (refine wpList_put h1 (by omega) (Pl.set_ba _ (fitI p.ba 1 4)) _ _ rfl rfl rfl rfl ?_; clear d1 h1; intro W1 h2; have d2 : W1.cell? ⟨w.heap.size, 2, none⟩ = some (.int .i64 p.pa) := h2.b1.c2)
      | (go_at_call 60; have _ := d2; refine (Fpa.out _).mono ?_; rintro e W2 ⟨rfl, rfl⟩)
      | (refine wpList_put h2 (by omega) (Pl.set_pa _ (fitI p.pa 1 16)) _ _ rfl rfl rfl rfl ?_; clear d2 h2; intro W2 h3; have d3 : W2.cell? ⟨w.heap.size, 3, none⟩ = some (.int .i64 p.li) := h3.b1.c3)
      | (go_at_call 60; have _ := d3; refine (Fli.out _).mono ?_; rintro e W3 ⟨rfl, rfl⟩)
      | (refine wpList_put h3 (by omega) (Pl.set_li _ (fitI p.li 1 8)) _ _ rfl rfl rfl rfl ?_; clear d3 h3; intro W3 h4; have d4 : W3.cell? ⟨w.heap.size, 4, none⟩ = some (.int .i64 p.ar) := h4.b1.c4)
      | (go_at_call 60; have _ := d4; refine (Far.out _).mono ?_; rintro e W4 ⟨rfl, rfl⟩)
      | (refine wpList_put h4 (by omega) (Pl.set_ar _ (fitI p.ar 2 4)) _ _ rfl rfl rfl rfl ?_; clear d4 h4; intro W4 h5; have d5 : W4.cell? ⟨w.heap.size, 5, none⟩ = some (.int .i64 p.mi) := h5.b1.c5)
      | (go_at_call 60; have _ := d5; refine (Fmi.out _).mono ?_; rintro e W5 ⟨rfl, rfl⟩)
      | (refine wpList_put h5 (by omega) (Pl.set_mi _ (fitI p.mi 1 8)) _ _ rfl rfl rfl rfl ?_; clear d5 h5; intro W5 h6; have d6 : W5.cell? ⟨w.heap.size, 6, none⟩ = some (.int .u64 p.ma) := h6.b1.c6)
      | (refine wpList_putU h6 (by omega) (Pl.set_ma _ (4294967296)) _ _ rfl rfl rfl rfl ?_; clear d6 h6; intro W6 h7; have d7 : W6.cell? ⟨w.heap.size, 7, none⟩ = some (.int .i64 p.ns) := h7.b1.c7; have d8 : W6.cell? ⟨w.heap.size, 8, none⟩ = some (.int .i64 p.nw) := h7.b1.c8)
      | (go_at_call_of 61 (Value.int IntKind.i64 p.ns); refine (S1.out _).mono ?_; rintro e W7 ⟨rfl, hb⟩; have h8 := h7.call hb; clear h7 hb d7 d8)
      | (refine wpList_put2 h8 (by omega) (Pl.set_near _ (fitI p.ns 1 4) (fitI p.nw 1 4)) _ _ rfl rfl rfl rfl ?_; clear h8; intro W8 h9; have d9 : W8.cell? ⟨w.heap.size, 9, none⟩ = some (.int .i64 p.fs) := h9.b1.c9; have d10 : W8.cell? ⟨w.heap.size, 10, none⟩ = some (.int .i64 p.fw) := h9.b1.c10)
      | (go_at_call_of 61 (Value.int IntKind.i64 p.fs); refine (S2.out _).mono ?_; rintro e W9 ⟨rfl, hb⟩; have h10 := h9.call hb; clear h9 hb d9 d10)
      | (refine wpList_put2 h10 (by omega) (Pl.set_far _ (fitI p.fs 1 4) (fitI p.fw 1 4)) _ _ rfl rfl rfl rfl ?_; clear h10; intro W10 h11; have d12 : W10.cell? ⟨w.heap.size, 12, none⟩ = some (.int .i64 p.qu) := h11.b1.c12)
      | (go_at_call 60; have _ := d12; refine (Fqu.out _).mono ?_; rintro e W11 ⟨rfl, rfl⟩)
      | (refine wpList_put h11 (by omega) (Pl.set_qu _ (fitI p.qu 1 4)) _ _ rfl rfl rfl rfl ?_; clear d12 h11; intro W12 h12; have d13 : W12.cell? ⟨w.heap.size, 13, none⟩ = some (.int .i64 p.ki) := h12.b1.c13)
      | (go_at_call 62; have _ := d13; refine (Fki.out _).mono ?_; rintro e W13 ⟨rfl, rfl⟩)
      | (refine wpList_put h12 (by omega) (Pl.set_ki _ (kindI p.ki)) _ _ rfl rfl rfl rfl ?_; clear d13 h12; intro W14 h14)
      | (refine wpList_load_plan h14.b1 _ rfl rfl rfl ?_)
      | (refine wpList_putP h14 _ _ rfl rfl rfl rfl ?_; clear h14; intro W15 h15))
    exact bodyPost_ret (results_arr Try.results49 _ _ (w.heap.size + 1) rfl _ h15.b2.loadV) rfl ⟨congrArg (fun z => Ending.returned (Value.agg z)) E.out.symm, h15.bel⟩
  · have E : Hid ((bounded p).arr = (⟨fitI p.co 1 4, fitI p.ba 1 4, fitI p.pa 1 16, fitI p.li 1 8, fitI p.ar 2 4, fitI p.mi 1 8, p.ma, fitI p.ns 1 4, fitI p.nw 1 4, fitI p.fs 1 4, fitI p.fw 1 4, p.me, fitI p.qu 1 4, kindI p.ki, p.ks, p.hk⟩ : Pl).arr) := by unfold bounded; rw [show min p.ma 4294967296 = p.ma by omega]; exact rfl
    generalize (bounded p).arr = BA at *
    go_enter Try.func49, Try.ntmps49
    go_wp2_with (first
      | (go_at_call 60; have _ := d0; refine (Fco.out _).mono ?_; rintro e W0 ⟨rfl, rfl⟩)
      | (refine wpList_put h0 (by omega) (Pl.set_co _ (fitI p.co 1 4)) _ _ rfl rfl rfl rfl ?_; clear d0 h0; intro W0 h1; have d1 : W0.cell? ⟨w.heap.size, 1, none⟩ = some (.int .i64 p.ba) := h1.b1.c1)
      | (go_at_call 60; have _ := d1; refine (Fba.out _).mono ?_; rintro e W1 ⟨rfl, rfl⟩)
      | (refine wpList_put h1 (by omega) (Pl.set_ba _ (fitI p.ba 1 4)) _ _ rfl rfl rfl rfl ?_; clear d1 h1; intro W1 h2; have d2 : W1.cell? ⟨w.heap.size, 2, none⟩ = some (.int .i64 p.pa) := h2.b1.c2)
      | (go_at_call 60; have _ := d2; refine (Fpa.out _).mono ?_; rintro e W2 ⟨rfl, rfl⟩)
      | (refine wpList_put h2 (by omega) (Pl.set_pa _ (fitI p.pa 1 16)) _ _ rfl rfl rfl rfl ?_; clear d2 h2; intro W2 h3; have d3 : W2.cell? ⟨w.heap.size, 3, none⟩ = some (.int .i64 p.li) := h3.b1.c3)
      | (go_at_call 60; have _ := d3; refine (Fli.out _).mono ?_; rintro e W3 ⟨rfl, rfl⟩)
      | (refine wpList_put h3 (by omega) (Pl.set_li _ (fitI p.li 1 8)) _ _ rfl rfl rfl rfl ?_; clear d3 h3; intro W3 h4; have d4 : W3.cell? ⟨w.heap.size, 4, none⟩ = some (.int .i64 p.ar) := h4.b1.c4)
      | (go_at_call 60; have _ := d4; refine (Far.out _).mono ?_; rintro e W4 ⟨rfl, rfl⟩)
      | (refine wpList_put h4 (by omega) (Pl.set_ar _ (fitI p.ar 2 4)) _ _ rfl rfl rfl rfl ?_; clear d4 h4; intro W4 h5; have d5 : W4.cell? ⟨w.heap.size, 5, none⟩ = some (.int .i64 p.mi) := h5.b1.c5)
      | (go_at_call 60; have _ := d5; refine (Fmi.out _).mono ?_; rintro e W5 ⟨rfl, rfl⟩)
      | (refine wpList_put h5 (by omega) (Pl.set_mi _ (fitI p.mi 1 8)) _ _ rfl rfl rfl rfl ?_; clear d5 h5; intro W5 h6; have d6 : W5.cell? ⟨w.heap.size, 6, none⟩ = some (.int .u64 p.ma) := h6.b1.c6)
      | (refine wpList_putU h6 (by omega) (Pl.set_ma _ (p.ma)) _ _ rfl rfl rfl rfl ?_; clear d6 h6; intro W6 h7; have d7 : W6.cell? ⟨w.heap.size, 7, none⟩ = some (.int .i64 p.ns) := h7.b1.c7; have d8 : W6.cell? ⟨w.heap.size, 8, none⟩ = some (.int .i64 p.nw) := h7.b1.c8)
      | (go_at_call_of 61 (Value.int IntKind.i64 p.ns); refine (S1.out _).mono ?_; rintro e W7 ⟨rfl, hb⟩; have h8 := h7.call hb; clear h7 hb d7 d8)
      | (refine wpList_put2 h8 (by omega) (Pl.set_near _ (fitI p.ns 1 4) (fitI p.nw 1 4)) _ _ rfl rfl rfl rfl ?_; clear h8; intro W8 h9; have d9 : W8.cell? ⟨w.heap.size, 9, none⟩ = some (.int .i64 p.fs) := h9.b1.c9; have d10 : W8.cell? ⟨w.heap.size, 10, none⟩ = some (.int .i64 p.fw) := h9.b1.c10)
      | (go_at_call_of 61 (Value.int IntKind.i64 p.fs); refine (S2.out _).mono ?_; rintro e W9 ⟨rfl, hb⟩; have h10 := h9.call hb; clear h9 hb d9 d10)
      | (refine wpList_put2 h10 (by omega) (Pl.set_far _ (fitI p.fs 1 4) (fitI p.fw 1 4)) _ _ rfl rfl rfl rfl ?_; clear h10; intro W10 h11; have d12 : W10.cell? ⟨w.heap.size, 12, none⟩ = some (.int .i64 p.qu) := h11.b1.c12)
      | (go_at_call 60; have _ := d12; refine (Fqu.out _).mono ?_; rintro e W11 ⟨rfl, rfl⟩)
      | (refine wpList_put h11 (by omega) (Pl.set_qu _ (fitI p.qu 1 4)) _ _ rfl rfl rfl rfl ?_; clear d12 h11; intro W12 h12; have d13 : W12.cell? ⟨w.heap.size, 13, none⟩ = some (.int .i64 p.ki) := h12.b1.c13)
      | (go_at_call 62; have _ := d13; refine (Fki.out _).mono ?_; rintro e W13 ⟨rfl, rfl⟩)
      | (refine wpList_put h12 (by omega) (Pl.set_ki _ (kindI p.ki)) _ _ rfl rfl rfl rfl ?_; clear d13 h12; intro W14 h14)
      | (refine wpList_load_plan h14.b1 _ rfl rfl rfl ?_)
      | (refine wpList_putP h14 _ _ rfl rfl rfl rfl ?_; clear h14; intro W15 h15))
    exact bodyPost_ret (results_arr Try.results49 _ _ (w.heap.size + 1) rfl _ h15.b2.loadV) rfl ⟨congrArg (fun z => Ending.returned (Value.agg z)) E.out.symm, h15.bel⟩
end Go.Proofs.Ytnogmfpaipjdaaa.P
