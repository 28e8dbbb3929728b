/- The document's example; whether calls are too many. No statement is proved here. -/
import Derived.Test.YtnogmfpaipjdaaaNew
import Derived.Test.YtnogmfpaipjdaaaPRefFit2
namespace Go.Proofs.Ytnogmfpaipjdaaa
open Go.RowKit
open P (Pl right hasI vals fitP)
set_option maxRecDepth 20000
set_option linter.unusedVariables false
set_option linter.unusedSimpArgs false

def pex : Pl := { P.Pl.zero with ba := 2, pa := 2, ar := 2 }
theorem pex_arr : pex.arr = #[.int .i64 0, .int .i64 2, .int .i64 2, .int .i64 0, .int .i64 2, .int .i64 0, .int .u64 0, .int .i64 0, .int .i64 0, .int .i64 0, .int .i64 0, .int .i64 0, .int .i64 0, .int .i64 0, .int .u8 0, .int .u8 0, .int .u8 0, .int .u8 0, .int .u8 0, .int .u8 0, .int .u8 0, .int .u8 0, .int .u8 0, .int .u8 0, .int .u8 0, .int .u8 0, .int .u8 0, .int .u8 0, .int .u8 0, .int .u8 0, .int .u8 0, .int .u8 0, .int .u8 0, .int .u8 0, .int .u8 0, .int .u8 0, .int .u8 0, .int .u8 0, .int .u8 0, .int .u8 0, .int .u8 0, .int .u8 0, .int .u8 0, .int .u8 0, .int .u8 0, .int .u8 0] := by
  unfold Pl.arr P.Pl.cs; rfl
def xA : Cd := ⟨⟨1, 0⟩, 0, z32, false, z32_len⟩
def xB : Cd := ⟨⟨0, 1⟩, 1, z32, false, z32_len⟩
theorem ex_p1 : putK (fitP pex) [] 0 ⟨1, 0⟩ = 0 := by decide +kernel
theorem ex_l1 : putL (fitP pex) [] 0 ⟨1, 0⟩ xA = [xA] := by unfold putL; rw [if_pos ex_p1]; rfl
theorem ex_p2 : putK (fitP pex) [xA] 1 ⟨0, 1⟩ = 0 := by decide +kernel
theorem ex_l2 : putL (fitP pex) [xA] 1 ⟨0, 1⟩ xB = [xA, xB] := by unfold putL; rw [if_pos ex_p2]; rfl
theorem ex_c : vicC (fitP pex) [xA, xB] 0 [] = some xA := by decide +kernel
theorem ex_i : vicI (fitP pex) [xA, xB] [xB, xA] 0 [] = ⟨0, 1⟩ := by
  unfold vicI; rw [ex_c]; decide +kernel
theorem ex_all : IsAll [xA, xB] [xB, xA] := ⟨List.Perm.swap _ _ _, by decide⟩
theorem zero28 (W : World) : (zeroValue 28).run Try.prog W = .ok (.agg P.Pl.zero.arr) W := by rw [P.zero_arr]; kernel_rfl
theorem fit_cells (p : Pl) : (Value.agg (fitP p).arr).cells = (fitP p).arr := rfl
set_option maxHeartbeats 4000000 in
theorem speaks_any (W : World) : Calls Try.prog 5 #[] W fun e W' => e = .returned (.bool true) ∧ Below W.heap.size W W' := by
  have FT := Lib.hid (fun V => show Calls Try.prog 26 #[.agg #[.int .i64 0, .int .i64 2, .int .i64 2, .int .i64 0, .int .i64 2, .int .i64 0, .int .u64 0, .int .i64 0, .int .i64 0, .int .i64 0, .int .i64 0, .int .i64 0, .int .i64 0, .int .i64 0, .int .u8 0, .int .u8 0, .int .u8 0, .int .u8 0, .int .u8 0, .int .u8 0, .int .u8 0, .int .u8 0, .int .u8 0, .int .u8 0, .int .u8 0, .int .u8 0, .int .u8 0, .int .u8 0, .int .u8 0, .int .u8 0, .int .u8 0, .int .u8 0, .int .u8 0, .int .u8 0, .int .u8 0, .int .u8 0, .int .u8 0, .int .u8 0, .int .u8 0, .int .u8 0, .int .u8 0, .int .u8 0, .int .u8 0, .int .u8 0, .int .u8 0, .int .u8 0]] V fun e W' => e = .returned (.agg (fitP pex).arr) ∧ Below V.heap.size V W' from by
    have := P.refFit_any pex V
    rwa [pex_arr] at this)
  have hp := P.fit_right pex
  have NW := Lib.hid (fun V L (h : St W V L) => new_any h hp)
  have I0 := Inv.nil hp
  have I1 : Inv (fitP pex) [xA] := by have := I0.put (c := xA) (x := ⟨1, 0⟩) (b := 0) rfl rfl; rwa [ex_l1] at this
  have I2 : Inv (fitP pex) [xA, xB] := by have := I1.put (c := xB) (x := ⟨0, 1⟩) (b := 1) rfl rfl; rwa [ex_l2] at this
  have P1 := Lib.hid (fun V g b L (h : MC W V g b (fitP pex) [] L) => show Calls Try.prog 9 #[.pointer (some ⟨g, 0, none⟩), .int .i64 0, .agg #[.int .i64 1, .int .i64 0], .agg #[.int .u8 0, .int .u8 0, .int .u8 0, .int .u8 0, .int .u8 0, .int .u8 0, .int .u8 0, .int .u8 0, .int .u8 0, .int .u8 0, .int .u8 0, .int .u8 0, .int .u8 0, .int .u8 0, .int .u8 0, .int .u8 0, .int .u8 0, .int .u8 0, .int .u8 0, .int .u8 0, .int .u8 0, .int .u8 0, .int .u8 0, .int .u8 0, .int .u8 0, .int .u8 0, .int .u8 0, .int .u8 0, .int .u8 0, .int .u8 0, .int .u8 0, .int .u8 0]] V fun e W' => e = .returned (.int .i64 0) ∧ MC W W' g b (fitP pex) [xA] L from by
    have := put_any h I0 0 ⟨1, 0⟩ z32 z32_len (by simp)
    rw [zln_lit, ex_p1] at this
    rw [show (⟨⟨1, 0⟩, 0, z32, false, z32_len⟩ : Cd) = xA from rfl, ex_l1] at this
    exact this)
  have P2 := Lib.hid (fun V g b L (h : MC W V g b (fitP pex) [xA] L) => show Calls Try.prog 9 #[.pointer (some ⟨g, 0, none⟩), .int .i64 1, .agg #[.int .i64 0, .int .i64 1], .agg #[.int .u8 0, .int .u8 0, .int .u8 0, .int .u8 0, .int .u8 0, .int .u8 0, .int .u8 0, .int .u8 0, .int .u8 0, .int .u8 0, .int .u8 0, .int .u8 0, .int .u8 0, .int .u8 0, .int .u8 0, .int .u8 0, .int .u8 0, .int .u8 0, .int .u8 0, .int .u8 0, .int .u8 0, .int .u8 0, .int .u8 0, .int .u8 0, .int .u8 0, .int .u8 0, .int .u8 0, .int .u8 0, .int .u8 0, .int .u8 0, .int .u8 0, .int .u8 0]] V fun e W' => e = .returned (.int .i64 0) ∧ MC W W' g b (fitP pex) [xA, xB] L from by
    have := put_any h I1 1 ⟨0, 1⟩ z32 z32_len (by simp)
    rw [zln_lit, ex_p2] at this
    rw [show (⟨⟨0, 1⟩, 1, z32, false, z32_len⟩ : Cd) = xB from rfl, ex_l2] at this
    exact this)
  have VI := Lib.hid (fun V g b L (h : MC W V g b (fitP pex) [xA, xB] L) => show Calls Try.prog 17 #[.pointer (some ⟨g, 0, none⟩), .int .i64 0, .slice none 0 0] V fun e W' => e = .returned (.tuple #[.agg #[.int .i64 0, .int .i64 1], .bool true]) ∧ Below V.heap.size V W' from by
    have := victim_any h I2 (by simp) ex_all 0 none 0 0 [] (ERow.nil_ V _) (by omega)
    rw [ex_i, ex_c] at this
    exact this)
  have S0 := St.nil W
  have EQ : ∀ V, (binOp .eql 42 (.agg #[.int .i64 0, .int .i64 1]) (.agg #[.int .i64 0, .int .i64 1])).run Try.prog V = .ok (.bool true) V := fun V => by
    have := eql_it ⟨0, 1⟩ ⟨0, 1⟩ V
    rwa [decide_eq_true rfl] at this
  generalize fitP pex = q at *
  clear hp I0 I1 I2
  go_enter Try.func5, Try.ntmps5
  go_wp2_with (first
    | (go_at_call 26; refine (FT.out _).mono ?_; clear FT; rintro e W1 ⟨rfl, hb⟩; have h1 := S0.call hb; clear S0 hb)
    | (have _ := h1; refine wpList_alloc_st h1 28 rfl rfl _ P.Pl.zero.arr zero28 rfl ?_; clear h1; intro W2 h2 _ _; replace h2 := h2.front; generalize W1.heap.size = pb at *)
    | (have _ := h2; refine wpList_store_st (arr' := q.arr) h2 0 rfl 28 _ _ rfl rfl rfl rfl (by rw [q.arr_size]; exact sz28) (by rw [q.arr_size, P.Pl.arr_size]) q.arr_all ?_; clear h2; intro W3 h3 _; have q2 := load_plA (h3.get 0 rfl))
    | (have _ := q2; refine wpList_load_run q2 _ rfl rfl rfl ?_; clear q2)
    | (have _ := h3; go_at_call 6; refine (NW.out _ _ h3).mono ?_; clear h3; rintro e W4 ⟨g, b, rfl, h4⟩)
    | (have _ := h4; go_at_call 9; refine (P1.out _ _ _ _ h4).mono ?_; clear h4; rintro e W5 ⟨rfl, h5⟩)
    | (have _ := h5; go_at_call 9; refine (P2.out _ _ _ _ h5).mono ?_; clear h5; rintro e W6 ⟨rfl, h6⟩)
    | (have _ := h6; go_at_call 17; refine (VI.out _ _ _ _ h6).mono ?_; rintro e W7 ⟨rfl, hb⟩; have h7 := (h6.call hb).st; clear h6 hb)
    | (have _ := h7; refine wpList_alloc_it h7 rfl rfl ?_; clear h7; intro W8 h8 _; generalize W7.heap.size = ib at *)
    | (have _ := h8; refine wpList_store_itE h8 0 ⟨0, 1⟩ rfl _ _ rfl rfl rfl _ rfl rfl ?_; clear h8; intro W9 h9 _; have q9 : (loadVar 42 ⟨ib, 0, none⟩).run Try.prog W9 = .ok (.agg #[.int .i64 0, .int .i64 1]) W9 := load_itA (h9.get 0 rfl))
    | (have _ := q9; refine wpList_load_run q9 _ rfl rfl rfl ?_; clear q9))
  go_ret
  exact ⟨rfl, h9.bel⟩
end Go.Proofs.Ytnogmfpaipjdaaa
