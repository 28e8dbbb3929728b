/- The document's example of counters is told as it says. No statement is proved here. -/
import Derived.Test.YtcepncdolbfcfaaSpeaks7
namespace Go.Proofs.Ytcepncdolbfcfaa
open Go.RowKit
set_option linter.unusedVariables false
set_option linter.unusedSimpArgs false
attribute [local irreducible] arrV shaped Ls right putN iarr cb fitP

def Gives1 (w : World) (M : Int) (ms : List Int) (n : Nat) (o : Bool) (c0 : Int) (e : Ending) (w' : World) : Prop :=
  ∃ A c, e = .returned (.tuple #[.agg #[.int .u64 M, .slice A n c], .bool o, .int .i64 c0]) ∧ IRow w' w'.heap.size A n c ms ∧ Below w.heap.size w w'
set_option maxHeartbeats 2000000 in
set_option maxRecDepth 20000 in
theorem speaks_true (w : World) : Calls Try.prog 9 #[] w fun e w' => e = .returned (.bool true) ∧ Below w.heap.size w w' := by
  have F := Lib.hid (fun W => refFit_any Pl.x7 W)
  rw [x7_arr] at F
  have C : Hid (∀ A W, IRow W W.heap.size A 2 2 [5, 6] → Calls Try.prog 10 #[.agg (fitP Pl.x7).arr, .agg #[.int .u64 1, .slice A 2 2]] W (GivesL W (cb 1 [5, 6] 3 2) 0)) := fun A W h => counters_yes (fitP Pl.x7) 1 2 3 2 A [5, 6] W h x7_good x7_li x7_mi x7_wrg1
  have N1 : Hid (∀ A W, IRow W W.heap.size A 2 2 [5, 6] → Calls Try.prog 25 #[.agg (fitP Pl.x7).arr, .agg #[.int .u64 1, .slice A 2 2], .int .i64 1] W (Gives1 W 1 [5, 7] 2 false 0)) := fun A W h => by
    have := next_any (fitP Pl.x7) 1 A 2 2 [5, 6] 1 W h (by omega)
    rw [x7_nxt1] at this
    exact this
  have N2 : Hid (∀ A c W, IRow W W.heap.size A 2 c [5, 7] → Calls Try.prog 25 #[.agg (fitP Pl.x7).arr, .agg #[.int .u64 1, .slice A 2 c], .int .i64 1] W (Gives1 W 2 [0, 0] 2 true 0)) := fun A c W h => by
    have := next_any (fitP Pl.x7) 1 A 2 c [5, 7] 1 W h (by omega)
    rw [x7_nxt2] at this
    exact this
  have SM : Hid (∀ A c B W, IRow W W.heap.size A 2 c [0, 0] → IRow W W.heap.size B 2 2 [0, 0] → Calls Try.prog 13 #[.agg #[.int .u64 2, .slice A 2 c], .agg #[.int .u64 2, .slice B 2 2]] W fun e w' => e = .returned (.bool true) ∧ Below W.heap.size W w') := fun A c B W h1 h2 => by
    have := refSame_any 2 2 2 2 c 2 A B [0, 0] [0, 0] W h1 h2
    rw [decide_eq_true ⟨rfl, rfl⟩] at this
    exact this
  have YL := Lib.hid (cb_len 1 [5, 6] 3 2)
  have Y0 := Lib.hid (arrV_at (cb 1 [5, 6] 3 2) 0 1 (by rw [YL.out]; omega) x7_cb0)
  have Y8 := Lib.hid (arrV_at (cb 1 [5, 6] 3 2) 8 53 (by rw [YL.out]; omega) x7_cb8)
  generalize cb 1 [5, 6] 3 2 = Y at *
  generalize fitP Pl.x7 = p at *
  have SP := Lib.hid (show (Try.prog.info? 28).map (·.size) = some p.arr.size by rw [p.arr_size]; exact sz28)
  have SZ : Hid (p.arr.size = Pl.zero.arr.size) := by rw [p.arr_size, Pl.zero.arr_size]; exact rfl
  have SA := Lib.hid p.arr_all
  have S3 := Lib.hid (sz33 YL.out)
  have S3z : Hid ((arrV Y).size = (arrV zeros).size) := by rw [arrV_size, arrV_size, YL.out]; exact rfl
  have S3a := Lib.hid (arrV_all Y)
  have h0 := St.nil w
  go_enter Try.func9, Try.ntmps9
  go_wp2_with (first
    | (go_at_call 27; refine (F.out _).mono ?_; rintro e W1 ⟨rfl, hb⟩; have h1 := h0.call hb; clear h0 hb F)
    | (refine wpList_alloc_st h1 28 rfl rfl _ Pl.zero.arr zv28 rfl ?_; clear h1; intro W2 h2 _ _)
    | (refine wpList_store_st h2 0 rfl 28 _ _ rfl rfl rfl rfl SP.out SZ.out SA.out ?_; clear h2; intro W3 h3 _)
    | (refine wpList_load_st h3 0 rfl 28 _ _ rfl rfl rfl Try.underlying28 rfl SP.out ?_)
    | (go_at_call 10; refine (C.out _ _ ((IRow.two _ 5 6 (by simp [I64]) (by simp [I64])).wider (by simp))).mono ?_; rintro e W4 ⟨rfl, hb⟩; have h4 := h3.call (((Below.refl _ _).alloc (Nat.le_refl _) _).trans (hb.mono (by simp))); clear h3 hb C)
    | (refine wpList_alloc_st h4 33 rfl rfl _ (arrV zeros) zv33 rfl ?_; clear h4; intro W5 h5 _ _)
    | (refine wpList_store_st h5 1 rfl 33 _ _ rfl rfl rfl rfl S3.out S3z.out S3a.out ?_; clear h5; intro W6 h6 _)
    | (refine wpList_load_st h6 0 rfl 28 _ _ rfl rfl rfl Try.underlying28 rfl SP.out ?_)
    | (go_at_call 25; have _ := h6; refine (N1.out _ _ ((IRow.two _ 5 6 (by simp [I64]) (by simp [I64])).wider (by simp))).mono ?_; rintro e W7 ⟨A7, c7, rfl, hr7, hb⟩; have h7 := h6.call (((Below.refl _ _).alloc (Nat.le_refl _) _).trans (hb.mono (by simp))); clear h6 hb N1)
    | (refine wpList_alloc_st h7 31 rfl rfl _ #[.int .u64 0, .slice none 0 0] zv31 rfl ?_; clear h7; intro W8 h8 _ b8; have hr8 := hr7.below b8; have z8 := b8.size; clear hr7)
    | (refine wpList_store_st h8 2 rfl 31 _ _ rfl rfl rfl rfl sz31 rfl (cell2 _ _ _ _) ?_; intro W9 h9 hg9; have hr9 := (hr8.beside hg9 z8).wider (Nat.le_trans z8 hg9.size); clear h8 hr8 hg9 z8)
    | (refine wpList_load_st h9 0 rfl 28 _ _ rfl rfl rfl Try.underlying28 rfl SP.out ?_)
    | (refine wpList_load_st h9 2 rfl 31 _ _ rfl rfl rfl Try.underlying31 rfl sz31 ?_)
    | (go_at_call 25; have _ := h9; refine (N2.out _ _ _ hr9).mono ?_; rintro e W10 ⟨A10, c10, rfl, hr10, hb⟩; have h10 := h9.call hb; clear h9 hb N2 hr9)
    | (refine wpList_alloc_st h10 31 rfl rfl _ #[.int .u64 0, .slice none 0 0] zv31 rfl ?_; clear h10; intro W11 h11 _ b11; have hr11 := hr10.below b11; have z11 := b11.size; clear hr10)
    | (refine wpList_store_st h11 3 rfl 31 _ _ rfl rfl rfl rfl sz31 rfl (cell2 _ _ _ _) ?_; intro W12 h12 hg12; have hr12 := (hr11.beside hg12 z11).wider (Nat.le_trans z11 hg12.size); have y0 : W12.cell? ⟨W4.heap.size, 0, none⟩ = some (.int .u8 1) := h12.cell 1 rfl 0 _ Y0.out; have y8 : W12.cell? ⟨W4.heap.size, 8, none⟩ = some (.int .u8 53) := h12.cell 1 rfl 8 _ Y8.out; clear h11 hr11 hg12 z11)
    | (refine wpList_load_st h12 3 rfl 31 _ _ rfl rfl rfl Try.underlying31 rfl sz31 ?_)
    | (go_at_call 13; refine (SM.out _ _ _ _ ((hr12.alloc (Nat.le_refl _) _).wider (by simp)) ((IRow.two _ 0 0 (by simp [I64]) (by simp [I64])).wider (by simp))).mono ?_; rintro e W13 ⟨rfl, hb⟩; have h13 := h12.call (((Below.refl _ _).alloc (Nat.le_refl _) _).trans (hb.mono (by simp)))))
  go_ret
  exact ⟨rfl, h13.bel⟩
end Go.Proofs.Ytcepncdolbfcfaa
