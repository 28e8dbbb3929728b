/- What the laws say ahead of all: the document's example; whether two lines are one; calls. No statement is proved here. -/
import Derived.Test.YtfbgpfiodgibbaaPTwice2
import Derived.Stop.BytesEq
namespace Go.Proofs.Ytfbgpfiodgibbaa
open Go.RowKit
open A (arrV vals)
set_option linter.unusedVariables false
set_option linter.unusedSimpArgs false

theorem equalIn_line (xs ys : List Nat) (hx : IsLine xs) (hy : IsLine ys) (w : World) : (Op.equalIn 10000 36 (.agg (arrV xs)) (.agg (arrV ys))).run Try.prog w = .ok (decide (xs = ys)) w := by
  unfold A.arrV
  rw [A.vals_cells xs hx.lt, A.vals_cells ys hy.lt, run_equalIn_bytes w 9998 36 5 32 Try.underlying36 Try.underlying5 (fun _ => by kernel_rfl) _ _ (by simpa using hx.len) (by simpa using hy.len)]
  congr 1
  rw [Bool.eq_iff_iff, beq_iff_eq, decide_eq_true_eq]
  exact ⟨A.ofNat_inj xs ys hx.lt hy.lt, fun e => by rw [e]⟩
theorem eql_line (xs ys : List Nat) (hx : IsLine xs) (hy : IsLine ys) (w : World) : (binOp .eql 36 (.agg (arrV xs)) (.agg (arrV ys))).run Try.prog w = .ok (.bool (decide (xs = ys))) w := by
  rw [run_eql_struct, equalIn_line xs ys hx hy]; rfl
theorem neq_line (xs ys : List Nat) (hx : IsLine xs) (hy : IsLine ys) (w : World) : (binOp .neq 36 (.agg (arrV xs)) (.agg (arrV ys))).run Try.prog w = .ok (.bool (!decide (xs = ys))) w := by
  rw [run_neq_struct, equalIn_line xs ys hx hy]; rfl
theorem equalIn_block (xs ys : List Nat) (hx : xs.length = 16) (hy : ys.length = 16) (bx : ∀ x ∈ xs, x < 256) (by_ : ∀ x ∈ ys, x < 256) (w : World) : (Op.equalIn 10000 23 (.agg (arrV xs)) (.agg (arrV ys))).run Try.prog w = .ok (decide (xs = ys)) w := by
  unfold A.arrV
  rw [A.vals_cells xs bx, A.vals_cells ys by_, run_equalIn_bytes w 9998 23 5 16 Try.underlying23 Try.underlying5 (fun _ => by kernel_rfl) _ _ (by simpa using hx) (by simpa using hy)]
  congr 1
  rw [Bool.eq_iff_iff, beq_iff_eq, decide_eq_true_eq]
  exact ⟨A.ofNat_inj xs ys bx by_, fun e => by rw [e]⟩
theorem eql_block (xs ys : List Nat) (hx : xs.length = 16) (hy : ys.length = 16) (bx : ∀ x ∈ xs, x < 256) (by_ : ∀ x ∈ ys, x < 256) (w : World) : (binOp .eql 23 (.agg (arrV xs)) (.agg (arrV ys))).run Try.prog w = .ok (.bool (decide (xs = ys))) w := by
  rw [run_eql_struct, equalIn_block xs ys hx hy bx by_]; rfl
theorem neq_block (xs ys : List Nat) (hx : xs.length = 16) (hy : ys.length = 16) (bx : ∀ x ∈ xs, x < 256) (by_ : ∀ x ∈ ys, x < 256) (w : World) : (binOp .neq 23 (.agg (arrV xs)) (.agg (arrV ys))).run Try.prog w = .ok (.bool (!decide (xs = ys))) w := by
  rw [run_neq_struct, equalIn_block xs ys hx hy bx by_]; rfl
/-! ### Blocks beside the pads -/
section
variable {w W W' : World} {g gc : Nat} {key : List Nat} {us : List Sd} {L Y : Blks}
theorem PP.lift (h : PP w W g gc key us L) (f : ∀ X : Blks, St w W (X ++ L) → St w W' (X ++ Y)) : PP w W' g gc key us Y := by
  obtain ⟨v, M, hr, hs⟩ := h
  refine ⟨v, M, hr, ?_⟩
  have := f ((g, C 59 #[.pointer (some ⟨gc, 0, none⟩), v]) :: (gc, C 78 (arrV (A.cells key))) :: M) (by simpa using hs)
  simpa using this
theorem PP.pushO (h : PP w W g gc key us L) (o : Obj) : PP w (W.alloc o) g gc key us (L ++ [(W.heap.size, o)]) := h.lift fun X hs => by
  have := hs.pushO o
  rwa [List.append_assoc] at this
theorem PP.put (h : PP w W g gc key us L) (i : Nat) {b : Nat} {o o' : Obj} (hi : L[i]? = some (b, o)) (hA : W'.heap[b]? = some o') (hg : W.grownBy W' (some b)) : PP w W' g gc key us (L.set i (b, o')) := h.lift fun X hs => by
  have := hs.putO (X.length + i) (g := b) (o := o) (by rw [List.getElem?_append_right (by omega), Nat.add_sub_cancel_left]; exact hi) hA hg
  rwa [List.set_append_right _ _ (by omega), Nat.add_sub_cancel_left] at this
theorem PP.perm (h : PP w W g gc key us L) (hp : L.Perm Y) : PP w W g gc key us Y := h.lift fun X hs => hs.perm (hp.append_left X)
theorem PP.sub (h : PP w W g gc key us L) (hp : Y.Sublist L) : PP w W g gc key us Y := h.lift fun X hs => hs.sub ((List.Sublist.refl X).append hp)
variable {ops : Array Oper} {rest : List Oper} {o : Oper} {a : Act} {Q : Exit → Act → World → Prop}
theorem wpList_alloc_pp (h : PP w W g gc key us L) (ty : TypeId) (ho : o.op = .alloc ty) (hw : Region.wanted o (yielded ops a.tmps) = true) (v : Value) (arr : Array Value) (hz : ∀ W, (zeroValue ty).run Try.prog W = .ok v W) (hx : v.cells = arr)
    (k : ∀ W', PP w W' g gc key us (L ++ [(W.heap.size, C ty arr)]) → wpList Try.prog ops Q rest (a.put o.dst (.pointer (some ⟨W.heap.size, 0, none⟩))) W') : wpList Try.prog ops Q (o :: rest) a W := by
  subst hx
  unfold wpList
  rw [if_pos hw]
  refine .inl ?_
  have h1 := k _ (h.pushO (C ty v.cells))
  unfold Oper.wp execOp
  simp only [ho, Instr.alloc, Sem.run_bind, hz, Result.andThen_ok]
  go_simp
  exact h1
theorem wpList_store_pp (h : PP w W g gc key us L) (i : Nat) {b : Nat} {t : TypeId} {arr arr' : Array Value} (hi : L[i]? = some (b, C t arr)) (ty : TypeId) (x y : Operand) (ho : o.op = .store ty x y) (hw : Region.wanted o (yielded ops a.tmps) = true)
    (hx : a.eval x = .pointer (some ⟨b, 0, none⟩)) (hy : a.eval y = .agg arr') (hs : (Try.prog.info? ty).map (·.size) = some arr'.size) (hl : arr'.size = arr.size) (h1 : arr'.all (·.oneCell') = true)
    (k : ∀ W', PP w W' g gc key us (L.set i (b, C t arr')) → wpList Try.prog ops Q rest (a.put o.dst undef) W') : wpList Try.prog ops Q (o :: rest) a W :=
  wpList_store_all (h.rest.get i hi) ty x y ho hx hw hy hs hl h1 fun W' hA hg => k W' (h.put i hi hA hg)
end
/-! ### The document's example -/
def S0 : Sd := ⟨1, 2, 3, 0⟩
def S1 : Sd := ⟨1, 2, 3, 1⟩
theorem zkey : IsKey zs16 := ⟨rfl, by intro x hx; rw [List.eq_of_mem_replicate hx]; omega⟩
theorem zline : IsLine zs32 := ⟨rfl, by intro x hx; rw [List.eq_of_mem_replicate hx]; omega⟩
def ZL : List Nat := crL zs16 1 2 3 zs32
theorem ZL_ne : ZL ≠ zs32 := by
  have : decide (ZL = zs32) = false := by decide +kernel
  simpa using this
theorem S_ok : ∀ s ∈ [S0, S1, S0, S1], s.Ok := by
  intro s hs
  simp only [List.mem_cons, List.not_mem_nil, or_false] at hs
  rcases hs with rfl | rfl | rfl | rfl <;> exact ⟨by simp [I64, S0, S1], by simp [S0, S1], by simp [I64, S0, S1], by simp [I64, S0, S1]⟩
end Go.Proofs.Ytfbgpfiodgibbaa
