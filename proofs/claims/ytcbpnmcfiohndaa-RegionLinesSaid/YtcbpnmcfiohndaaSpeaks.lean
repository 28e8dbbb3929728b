/- The document's example of a plan is told as it says. No statement is proved here. -/
import Derived.Test.YtcbpnmcfiohndaaOpen
namespace Go.Proofs.Ytcbpnmcfiohndaa
open Go.RowKit
set_option linter.unusedVariables false
set_option linter.unusedSimpArgs false

def Pl.ex : Pl := { Pl.zero with ba := 1, pa := 5, li := 1, ar := 2 }
theorem ex_arr : Pl.ex.arr = #[.int .i64 0, .int .i64 1, .int .i64 5, .int .i64 1, .int .i64 2, .int .i64 0, .int .u64 0, .int .i64 0, .int .i64 0, .int .i64 0, .int .i64 0, .int .i64 0, .int .i64 0, .int .i64 0, .int .u8 0, .int .u8 0, .int .u8 0, .int .u8 0, .int .u8 0, .int .u8 0, .int .u8 0, .int .u8 0, .int .u8 0, .int .u8 0, .int .u8 0, .int .u8 0, .int .u8 0, .int .u8 0, .int .u8 0, .int .u8 0, .int .u8 0, .int .u8 0, .int .u8 0, .int .u8 0, .int .u8 0, .int .u8 0, .int .u8 0, .int .u8 0, .int .u8 0, .int .u8 0, .int .u8 0, .int .u8 0, .int .u8 0, .int .u8 0, .int .u8 0, .int .u8 0] := by
  unfold Pl.arr Pl.cs; rfl
/-- A whole plan, given by its cells, is stored into a block of the call's own. -/
theorem wpList_newP {ops : Array Oper} {rest : List Oper} {o : Oper} {a : Act} {w W : World} {Q : Exit → Act → World → Prop} {g : Nat} {q p' : Pl} (h : PSt w g q W) (lo : w.heap.size ≤ g) (x y : Operand) (ho : o.op = .store 28 x y) (hx : a.eval x = .pointer (some ⟨g, 0, none⟩)) (hw : Region.wanted o (yielded ops a.tmps) = true)
    (cs : Array Value) (hy : a.eval y = .agg cs) (e : cs = p'.arr) (k : ∀ W', PSt w g p' W' → wpList Try.prog ops Q rest (a.put o.dst undef) W') : wpList Try.prog ops Q (o :: rest) a W := by
  subst e
  unfold wpList
  rw [if_pos hw]
  refine .inl (wp_store_row 28 x y ho g p'.arr hx hy 28 q.arr h.blk (by rw [p'.arr_size]; exact sz28) (by rw [p'.arr_size, q.arr_size]) p'.arr_all (k _ ?_))
  exact ⟨h.blk.putAll, h.bel.trans ⟨rfl, rfl, rfl, by simp [World.setRow], fun k hk => heap_setRow_far W g k _ (by omega)⟩⟩
theorem ex_lv : Lv Pl.ex = 4 := by decide +kernel
theorem ex_w1 : Wd Pl.ex 1 = 3 := by decide +kernel
theorem ex_w3 : Wd Pl.ex 3 = 1 := by decide +kernel
set_option maxHeartbeats 1000000 in
set_option maxRecDepth 20000 in
theorem speaks5_true (w : World) : Calls Try.prog 12 #[] w fun e w' => e = .returned (.bool true) ∧ Below w.heap.size w w' := by
  have h0 := PSt.new w Pl.zero
  rw [zero_arr] at h0
  have A1 := Lib.hid (fun W => levels_any Pl.ex W)
  have A2 := Lib.hid (fun W => width_any Pl.ex 1 W)
  have A3 := Lib.hid (fun W => width_any Pl.ex 3 W)
  rw [ex_lv] at A1
  rw [ex_w1] at A2
  rw [ex_w3] at A3
  go_enter Try.func12, Try.ntmps12
  go_wp2_with (first
    | (refine wpList_newP h0 (Nat.le_refl _) _ _ rfl rfl rfl _ rfl ex_arr.symm ?_; clear h0; intro W1 h1)
    | (refine wpList_load_plan h1.blk _ rfl rfl rfl ?_)
    | (refine wpList_load_plan h2.blk _ rfl rfl rfl ?_)
    | (refine wpList_load_plan h3.blk _ rfl rfl rfl ?_)
    | (go_at_call 15; refine (A1.out _).mono ?_; rintro e W2 ⟨rfl, hb⟩; have h2 := h1.call hb; clear h1 hb)
    | (go_at_call_of 17 (Value.int IntKind.i64 1); refine (A2.out _).mono ?_; rintro e W3 ⟨rfl, hb⟩; have h3 := h2.call hb; clear h2 hb)
    | (go_at_call_of 17 (Value.int IntKind.i64 3); refine (A3.out _).mono ?_; rintro e W4 ⟨rfl, hb⟩; have h4 := h3.call hb; clear h3 hb))
  go_ret
  exact ⟨rfl, h4.bel⟩
end Go.Proofs.Ytcbpnmcfiohndaa
