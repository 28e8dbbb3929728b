/- A message is sent, or received, where nobody waits. No statement is proved here. -/
import Derived.Test.YtacjdeppigdbjaaMsg
namespace Go.Proofs.Ytacjdeppigdbjaa
open Go.Conc Go.RowKit
set_option linter.unusedVariables false
set_option linter.unusedSimpArgs false

/-- What is in a channel. -/
def bufM (xs : List Msg) : Array Value := (xs.map fun m => Value.agg m.arr).toArray
theorem bufM_nil : bufM [] = #[] := rfl
theorem bufM_size (xs : List Msg) : (bufM xs).size = xs.length := by simp [bufM]
theorem bufM_push (xs : List Msg) (m : Msg) : (bufM xs).push (.agg m.arr) = bufM (xs ++ [m]) := by simp [bufM]
theorem bufM_head (x : Msg) (xs : List Msg) : (bufM (x :: xs)).getD 0 undef = .agg x.arr := by simp [bufM]
theorem bufM_tail (x : Msg) (xs : List Msg) : (bufM (x :: xs)).extract 1 (bufM (x :: xs)).size = bufM xs := by
  apply Array.ext'
  rw [Array.toList_extract]
  simp only [bufM, List.map_cons, List.size_toArray, List.length_cons, List.length_map, List.extract, List.drop_succ_cons, List.drop_zero, Nat.add_sub_cancel]
  exact List.take_of_length_le (by simp)
theorem box31 (W : World) (m : Msg) : (Instr.box 31 (.agg m.arr)).run Try.prog W = .ok (.pointer (some ⟨W.heap.size, 0, none⟩)) (W.alloc (.cells m.arr 31)) := by
  simp only [Instr.box, newVar, Value.cells]
  generalize m.arr = cs
  go_simp
theorem load31 (W : World) (g : Nat) (m : Msg) (h : At W g 31 m.arr) : (Instr.loadAt 31 (.pointer (some ⟨g, 0, none⟩))).run Try.prog W = .ok (.agg m.arr) W := by
  have := h.loadV 31 _ Try.underlying31 rfl (by rw [m.arr_size]; exact sz31)
  simp only [Instr.loadAt, Instr.sureAddr, Sem.run_bind, Sem.run_pure, Result.andThen_ok, this]
theorem exec_load31 {W : World} {a : Act} {o : Oper} {g : Nat} {m : Msg} (x : Operand) (ho : o.op = .load 31 x) (hx : a.eval x = .pointer (some ⟨g, 0, none⟩)) (h : At W g 31 m.arr) : (execOp a.eval o).run Try.prog W = .ok (.value (.agg m.arr)) W := by
  have := h.loadV 31 _ Try.underlying31 rfl (by rw [m.arr_size]; exact sz31)
  simp only [execOp, ho, hx, Instr.loadAt, Instr.sureAddr, Sem.run_bind, Sem.run_pure, Result.andThen_ok, this]
theorem exec_store31 {W : World} {a : Act} {o : Oper} {g : Nat} {m m' : Msg} (x y : Operand) (ho : o.op = .store 31 x y) (hx : a.eval x = .pointer (some ⟨g, 0, none⟩)) (hy : a.eval y = .agg m'.arr) (h : At W g 31 m.arr) : (execOp a.eval o).run Try.prog W = .ok .skip (W.setRow g m'.arr) := by
  have := run_storeVar_row (P := Try.prog) W g 31 31 m.arr m'.arr h (by rw [m'.arr_size]; exact sz31) (by rw [m.arr_size, m'.arr_size]) m'.arr_one
  simp only [execOp, ho, hx, hy, Instr.storeAt, Instr.sureAddr, Sem.run_bind, Sem.run_pure, Result.andThen_ok, this]
theorem exec_alloc31 {W : World} {a : Act} {o : Oper} (ho : o.op = .alloc 31) : (execOp a.eval o).run Try.prog W = .ok (.value (.pointer (some ⟨W.heap.size, 0, none⟩))) (W.alloc (.cells zmsg.arr 31)) := by
  simp only [execOp, ho, Instr.alloc, Sem.run_bind, zero31, Result.andThen_ok]
  generalize zmsg.arr = cs
  go_simp
attribute [local irreducible] Msg.arr bufM
set_option maxRecDepth 100000 in
theorem send_walk (c cap s r : Nat) (buf : Array Value) (m : Msg) (w : World) (hc : w.heap[c]? = some (Ch cap buf s r)) :
    Calls Try.prog 37 #[.chan (some c), .agg m.arr] w fun e w' => e = .returned (.bool (decide (buf.size < cap))) ∧ w' = (if buf.size < cap then (w.alloc (.cells m.arr 31)).setChan c cap (buf.push (.agg m.arr)) false (s + 1) r false else w.alloc (.cells m.arr 31)) := by
  refine calls_of_loneTo fun cs => ?_
  have e : Frame.enter Try.prog 37 #[.chan (some c), .agg m.arr] .normal = (base 37).at ⟨#[.chan (some c), .agg m.arr, undef, undef, undef, undef, undef, undef, undef, undef], []⟩ [.code (Try.f37.body.getD .skip)] := by
    simp [Frame.enter, Frame.at, Try.func37, base, Try.f37]
  rw [e]
  have hbox := box31 w m
  have hload := At.new w 31 m.arr
  have hz := zero31 (w.alloc (.cells m.arr 31))
  have hc2 : (w.alloc (.cells m.arr 31)).heap[c]? = some (Ch cap buf s r) := (Below.heap_alloc w _ c (heap_lt hc)).trans hc
  refine LoneTo.goes (n := 18) ?_
  simp only [Try.f37, Option.getD_some]
  s_c stepG_seq
  s_reg
  s_op
  s_op
  s_c stepG_region_end
  s_c stepG_seq
  s_c stepG_seq
  s_reg
  s_op
  s_c stepG_region_end
  s_reg
  s_in
  refine goes_oper_k rfl rfl (by decide) (fun K hK => ?_)
  rw [exec_load31 (.tmp 3) rfl rfl hload]
  simp only [uponK_value]
  refine hK _ _ ⟨trivial, ?_⟩
  clear hK K
  walk_nrm
  s_c stepG_region_end
  s_c stepG_seq
  s_reg
  s_stop
  by_cases hr : buf.size < cap
  · rw [if_pos hr, decide_eq_true hr]
    refine LoneTo.step (step_lone_select_send_room (c := c) (cap := cap) (buf := buf) (s := s) (r := r) (tm := false) (stepG_comm (cases := #[scase c (.agg m.arr) (.agg zmsg.arr)]) (blocking := false) (shape := .select) (w' := w.alloc (.cells m.arr 31)) rfl rfl (by decide) (by simp [go_sem, execOp, scase, Act.eval, hz])) hc2 hr) ?_
    rw [Frame.finish_at]
    walk_nrm
    refine LoneTo.goes (n := 10) ?_
    s_op
    s_op
    s_c stepG_region_end
    s_c stepG_block
    s_cond true
    s_c stepG_seq
    s_reg
    s_op
    s_c stepG_region_end
    s_c stepG_ret'
    s_stop
    exact LoneTo.done ⟨.returned (.bool true), _, rfl, ⟨rfl, rfl⟩, rfl, rfl, rfl, rfl, _, Try.func37, by simp [results, Try.f37, Frame.at]⟩
  · rw [if_neg hr, decide_eq_false hr]
    refine LoneTo.step (step_lone_select_send_full (c := c) (cap := cap) (buf := buf) (s := s) (r := r) (tm := false) (stepG_comm (cases := #[scase c (.agg m.arr) (.agg zmsg.arr)]) (blocking := false) (shape := .select) (w' := w.alloc (.cells m.arr 31)) rfl rfl (by decide) (by simp [go_sem, execOp, scase, Act.eval, hz])) hc2 (by omega)) ?_
    rw [Frame.finish_at]
    walk_nrm
    refine LoneTo.goes (n := 10) ?_
    s_op
    s_op
    s_c stepG_region_end
    s_c stepG_block
    s_cond false
    s_c stepG_seq
    s_reg
    s_op
    s_c stepG_region_end
    s_c stepG_ret'
    s_stop
    exact LoneTo.done ⟨.returned (.bool false), _, rfl, ⟨rfl, rfl⟩, rfl, rfl, rfl, rfl, _, Try.func37, by simp [results, Try.f37, Frame.at]⟩
theorem grown_alloc (W : World) (o : Obj) (row : Option Nat) : W.grownBy (W.alloc o) row := ⟨rfl, rfl, rfl, by simp, fun j hj _ => Below.heap_alloc W o j hj⟩
theorem grown_new {W W1 : World} {row : Option Nat} (h : W.grownBy W1 row) (g : Nat) (hg : W.heap.size ≤ g) (arr : Array Value) : W.grownBy (W1.setRow g arr) row :=
  ⟨h.os, h.tape, h.output, by simp only [World.setRow, Array.size_modify]; exact h.size, fun j hj hne => (heap_setRow_far W1 g j arr (by omega)).trans (h.block j hj hne)⟩
theorem grown_more {W W1 : World} {row : Option Nat} (h : W.grownBy W1 row) (o : Obj) : W.grownBy (W1.alloc o) row :=
  ⟨h.os, h.tape, h.output, by simp; exact Nat.le_succ_of_le h.size, fun j hj hne => (Below.heap_alloc W1 o j (Nat.lt_of_lt_of_le hj h.size)).trans (h.block j hj hne)⟩
theorem chan_far {W : World} {c c' cap s r : Nat} {buf : Array Value} (hne : c' ≠ c) : (W.setChan c cap buf false s r false).heap[c']? = W.heap[c']? := by
  simp only [World.setChan]
  rw [Array.getElem?_setIfInBounds_ne (Ne.symm hne)]
theorem results_recv (tmps : Array Value) (W : World) (g : Nat) (hp : tmps.getD 2 undef = .pointer (some ⟨g, 0, none⟩)) (m : Msg) (hg : At W g 31 m.arr) :
    (results Try.f36 tmps).run Try.prog W = .ok (.tuple #[.agg m.arr, tmps.getD 3 undef]) W :=
  results_cell_tmp rfl tmps W g hp _ (hg.loadV 31 _ Try.underlying31 rfl (by rw [m.arr_size]; exact sz31))
set_option maxRecDepth 100000 in
theorem recv_some (c cap s r : Nat) (x : Msg) (xs : List Msg) (w : World) (hc : w.heap[c]? = some (Ch cap (bufM (x :: xs)) s r)) :
    Calls Try.prog 36 #[.chan (some c)] w fun e w' => e = .returned (.tuple #[.agg x.arr, .bool true]) ∧ w'.heap[c]? = some (Ch cap (bufM xs) s (r + 1)) ∧ w.grownBy w' (some c) := by
  refine calls_of_loneTo fun cs => ?_
  have e : Frame.enter Try.prog 36 #[.chan (some c)] .normal = (base 36).at ⟨#[.chan (some c), undef, undef, undef, undef, undef, undef, undef, undef, undef, undef, undef], []⟩ [.code (Try.f36.body.getD .skip)] := by
    simp [Frame.enter, Frame.at, Try.func36, base, Try.f36]
  rw [e]
  have hlt := heap_lt hc
  have hc2 : (w.alloc (.cells zmsg.arr 31)).heap[c]? = some (Ch cap (bufM (x :: xs)) s r) := (Below.heap_alloc w _ c hlt).trans hc
  have hA : At (w.alloc (.cells zmsg.arr 31)) w.heap.size 31 zmsg.arr := At.new w 31 zmsg.arr
  have hz := zero31 (w.alloc (.cells zmsg.arr 31))
  have hG := grown_alloc w (.cells zmsg.arr 31) (some c)
  have hS : (w.alloc (.cells zmsg.arr 31)).heap.size = w.heap.size + 1 := by simp
  refine LoneTo.goes (n := 18) ?_
  simp only [Try.f36, Option.getD_some]
  s_c stepG_seq
  s_reg
  s_in
  refine goes_oper_k rfl rfl (by decide) (fun K hK => ?_)
  rw [exec_alloc31 rfl]
  simp only [uponK_value]
  refine hK _ _ ⟨trivial, ?_⟩
  clear hK K
  walk_nrm
  s_op
  generalize w.alloc (.cells zmsg.arr 31) = W at *
  s_c stepG_region_end
  s_c stepG_seq
  s_reg
  s_op
  s_c stepG_region_end
  s_c stepG_seq
  s_reg
  s_stop
  refine LoneTo.step (step_lone_select_recv_buf (c := c) (cap := cap) (buf := bufM (x :: xs)) (closed := false) (s := s) (r := r) (tm := false) (stepG_comm (cases := #[rcase c (.agg zmsg.arr)]) (blocking := false) (shape := .select) (w' := W) rfl rfl (by decide) (by simp [go_sem, execOp, rcase, Act.eval, hz])) hc2 (by rw [bufM_size]; simp)) ?_
  rw [bufM_head, bufM_tail, Frame.finish_at]
  have hk := heap_setChan W c cap (bufM xs) false s (r + 1) false (heap_lt hc2)
  have hA1 : At (W.setChan c cap (bufM xs) false s (r + 1) false) w.heap.size 31 zmsg.arr := (chan_far (by omega)).trans hA
  have hG1 : w.grownBy (W.setChan c cap (bufM xs) false s (r + 1) false) (some c) := hG.trans (grown_setChan W c cap (bufM xs) s (r + 1))
  have hS1 : (W.setChan c cap (bufM xs) false s (r + 1) false).heap.size = w.heap.size + 1 := by rw [size_setChan, hS]
  generalize W.setChan c cap (bufM xs) false s (r + 1) false = V at *
  clear hG hA hc2 hz hS
  walk_nrm
  refine LoneTo.goes (n := 25) ?_
  s_op
  s_op
  s_c stepG_region_end
  s_c stepG_block
  s_cond true
  s_c stepG_seq
  s_reg
  s_op
  s_in
  refine goes_oper_k rfl rfl (by decide) (fun K hK => ?_)
  rw [exec_alloc31 rfl]
  simp only [uponK_value]
  refine hK _ _ ⟨trivial, ?_⟩
  clear hK K
  have hA2 := At.new V 31 zmsg.arr
  have hA3 := hA1.alloc (.cells zmsg.arr 31)
  have hk2 := (Below.heap_alloc V (.cells zmsg.arr 31) c (heap_lt hk)).trans hk
  have hG2 := grown_more hG1 (.cells zmsg.arr 31)
  generalize V.alloc (.cells zmsg.arr 31) = V2 at *
  clear hA1 hk hG1
  walk_nrm
  s_in
  refine goes_oper_k rfl rfl (by decide) (fun K hK => ?_)
  rw [exec_store31 (m' := x) (.tmp 4) (.tmp 10) rfl rfl rfl hA2]
  simp only [uponK_skip]
  refine hK _ _ ⟨trivial, ?_⟩
  clear hK K
  have hA4 : At (V2.setRow V.heap.size x.arr) V.heap.size 31 x.arr := hA2.putAll
  have hA5 : At (V2.setRow V.heap.size x.arr) w.heap.size 31 zmsg.arr := hA3.putFar (by omega)
  have hk3 : (V2.setRow V.heap.size x.arr).heap[c]? = some (Ch cap (bufM xs) s (r + 1)) := (heap_setRow_far V2 _ c _ (by omega)).trans hk2
  have hG3 : w.grownBy (V2.setRow V.heap.size x.arr) (some c) := grown_new hG2 _ (by omega) _
  generalize V2.setRow V.heap.size x.arr = V3 at *
  clear hA2 hA3 hk2 hG2
  walk_nrm
  s_c stepG_region_end
  s_c stepG_seq
  s_reg
  s_in
  refine goes_oper_k rfl rfl (by decide) (fun K hK => ?_)
  rw [exec_load31 (.tmp 4) rfl rfl hA4]
  simp only [uponK_value]
  refine hK _ _ ⟨trivial, ?_⟩
  clear hK K
  walk_nrm
  s_in
  refine goes_oper_k rfl rfl (by decide) (fun K hK => ?_)
  rw [exec_store31 (m' := x) (.tmp 2) (.tmp 11) rfl rfl rfl hA5]
  simp only [uponK_skip]
  refine hK _ _ ⟨trivial, ?_⟩
  clear hK K
  have hA6 : At (V3.setRow w.heap.size x.arr) w.heap.size 31 x.arr := hA5.putAll
  have hk4 : (V3.setRow w.heap.size x.arr).heap[c]? = some (Ch cap (bufM xs) s (r + 1)) := (heap_setRow_far V3 _ c _ (by omega)).trans hk3
  have hG4 : w.grownBy (V3.setRow w.heap.size x.arr) (some c) := grown_new hG3 _ (by omega) _
  generalize V3.setRow w.heap.size x.arr = V4 at *
  clear hA4 hA5 hk3 hG3
  walk_nrm
  s_op
  s_c stepG_region_end
  s_c stepG_ret'
  s_stop
  exact LoneTo.done ⟨.returned (.tuple #[.agg x.arr, .bool true]), _, rfl, ⟨rfl, hk4, hG4⟩, rfl, rfl, rfl, rfl, _, Try.func36, results_recv _ V4 w.heap.size rfl x hA6⟩
set_option maxRecDepth 100000 in
theorem recv_none (c cap s r : Nat) (w : World) (hc : w.heap[c]? = some (Ch cap (bufM []) s r)) :
    Calls Try.prog 36 #[.chan (some c)] w fun e w' => e = .returned (.tuple #[.agg zmsg.arr, .bool false]) ∧ Below w.heap.size w w' := by
  refine calls_of_loneTo fun cs => ?_
  have e : Frame.enter Try.prog 36 #[.chan (some c)] .normal = (base 36).at ⟨#[.chan (some c), undef, undef, undef, undef, undef, undef, undef, undef, undef, undef, undef], []⟩ [.code (Try.f36.body.getD .skip)] := by
    simp [Frame.enter, Frame.at, Try.func36, base, Try.f36]
  rw [e]
  have hlt := heap_lt hc
  have hc2 : (w.alloc (.cells zmsg.arr 31)).heap[c]? = some (Ch cap #[] s r) := (Below.heap_alloc w _ c hlt).trans (bufM_nil ▸ hc)
  have hA : At (w.alloc (.cells zmsg.arr 31)) w.heap.size 31 zmsg.arr := At.new w 31 zmsg.arr
  have hz := zero31 (w.alloc (.cells zmsg.arr 31))
  have hG := grown_alloc w (.cells zmsg.arr 31) none
  have hS : (w.alloc (.cells zmsg.arr 31)).heap.size = w.heap.size + 1 := by simp
  refine LoneTo.goes (n := 18) ?_
  simp only [Try.f36, Option.getD_some]
  s_c stepG_seq
  s_reg
  s_in
  refine goes_oper_k rfl rfl (by decide) (fun K hK => ?_)
  rw [exec_alloc31 rfl]
  simp only [uponK_value]
  refine hK _ _ ⟨trivial, ?_⟩
  clear hK K
  walk_nrm
  s_op
  generalize w.alloc (.cells zmsg.arr 31) = W at *
  s_c stepG_region_end
  s_c stepG_seq
  s_reg
  s_op
  s_c stepG_region_end
  s_c stepG_seq
  s_reg
  s_stop
  refine LoneTo.step (step_lone_select_default (c := c) (cap := cap) (s := s) (r := r) (tm := false) (stepG_comm (cases := #[rcase c (.agg zmsg.arr)]) (blocking := false) (shape := .select) (w' := W) rfl rfl (by decide) (by simp [go_sem, execOp, rcase, Act.eval, hz])) hc2) ?_
  rw [Frame.finish_at]
  walk_nrm
  have hb := built31
  refine LoneTo.goes (n := 25) ?_
  s_op
  s_op
  s_c stepG_region_end
  s_c stepG_block
  s_cond false
  s_c stepG_seq
  s_reg
  s_op
  s_in
  refine goes_oper_k rfl rfl (by decide) (fun K hK => ?_)
  rw [exec_store31 (m' := zmsg) (.tmp 2) (.tmp 9) rfl rfl rfl hA]
  simp only [uponK_skip]
  refine hK _ _ ⟨trivial, ?_⟩
  clear hK K
  have hA6 : At (W.setRow w.heap.size zmsg.arr) w.heap.size 31 zmsg.arr := hA.putAll
  have hG4 : w.grownBy (W.setRow w.heap.size zmsg.arr) none := grown_new hG _ (by omega) _
  generalize W.setRow w.heap.size zmsg.arr = V4 at *
  walk_nrm
  s_op
  s_c stepG_region_end
  s_c stepG_ret'
  s_stop
  exact LoneTo.done ⟨.returned (.tuple #[.agg zmsg.arr, .bool false]), _, rfl, ⟨rfl, hG4.os, hG4.tape, hG4.output, hG4.size, fun j hj => hG4.block j hj (by simp)⟩, rfl, rfl, rfl, rfl, _, Try.func36, results_recv _ V4 w.heap.size rfl zmsg hA6⟩
end Go.Proofs.Ytacjdeppigdbjaa
