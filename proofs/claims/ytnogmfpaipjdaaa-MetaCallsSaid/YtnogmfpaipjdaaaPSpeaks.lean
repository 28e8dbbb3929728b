/- The document's example of a plan is told as it says. No statement is proved here. -/
import Derived.Test.YtnogmfpaipjdaaaPOpen
namespace Go.Proofs.Ytnogmfpaipjdaaa.P
open Go.RowKit
set_option maxRecDepth 20000
set_option linter.unusedVariables false
set_option linter.unusedSimpArgs false

def Pl.ex : Pl := { Pl.zero with ba := 1, pa := 5, li := 1, ar := 2 }
theorem ex_arr : Pl.ex.arr = #[.int .i64 0, .int .i64 1, .int .i64 5, .int .i64 1, .int .i64 2, .int .i64 0, .int .u64 0, .int .i64 0, .int .i64 0, .int .i64 0, .int .i64 0, .int .i64 0, .int .i64 0, .int .i64 0, .int .u8 0, .int .u8 0, .int .u8 0, .int .u8 0, .int .u8 0, .int .u8 0, .int .u8 0, .int .u8 0, .int .u8 0, .int .u8 0, .int .u8 0, .int .u8 0, .int .u8 0, .int .u8 0, .int .u8 0, .int .u8 0, .int .u8 0, .int .u8 0, .int .u8 0, .int .u8 0, .int .u8 0, .int .u8 0, .int .u8 0, .int .u8 0, .int .u8 0, .int .u8 0, .int .u8 0, .int .u8 0, .int .u8 0, .int .u8 0, .int .u8 0, .int .u8 0] := by
  unfold Pl.arr Pl.cs; rfl
/-- A whole plan, given by its cells, is stored into a block of the call's own. -/
theorem wpList_newP {ops : Array Oper} {rest : List Oper} {o : Oper} {a : Act} {w W : World} {Q : Exit → Act → World → Prop} {g : Nat} {q p' : Pl} (h : PSt w g q W) (lo : w.heap.size ≤ g) (x y : Operand) (ho : o.op = .store 28 x y) (hx : a.eval x = .pointer (some ⟨g, 0, none⟩)) (hw : Region.wanted o (yielded ops a.tmps) = true)
    (cs : Array Value) (hy : a.eval y = .agg cs) (e : cs = p'.arr) (k : ∀ W', PSt w g p' W' → wpList Try.prog ops Q rest (a.put o.dst undef) W') : wpList Try.prog ops Q (o :: rest) a W := by
  subst e
  unfold wpList
  rw [if_pos hw]
  refine .inl (wp_store_row 28 x y ho g p'.arr hx hy 28 q.arr h.blk (by rw [p'.arr_size]; exact sz28) (by rw [p'.arr_size, q.arr_size]) p'.arr_all (k _ ?_))
  exact ⟨h.blk.putAll, h.bel.trans ⟨rfl, rfl, rfl, by simp [World.setRow], fun k hk => heap_setRow_far W g k _ (by omega)⟩⟩
theorem ex_lv : Lv Pl.ex = 4 := by decide +kernel
theorem ex_w1 : Wd Pl.ex 1 = 3 := by decide +kernel
theorem ex_w3 : Wd Pl.ex 3 = 1 := by decide +kernel
end Go.Proofs.Ytnogmfpaipjdaaa.P
