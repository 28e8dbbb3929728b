/- A queue, and blocks besides: allocations, stores and loads of those. The document's example. No statement is proved here. -/
import Derived.Test.YtacjdeppigdbjaaSame
import Derived.Test.YtacjdeppigdbjaaQAll
namespace Go.Proofs.Ytacjdeppigdbjaa
open Go.RowKit
set_option linter.unusedVariables false
set_option linter.unusedSimpArgs false
section
variable {ops : Array Oper} {rest : List Oper} {o : Oper} {a : Act} {w W W' : World} {Q : Exit → Act → World → Prop} {L M : Blks} {g R b : Nat} {xs ys : List Msg} {m m' : Msg}
theorem QQ.get (h : QQ w W g R xs L) (i : Nat) {o : Obj} (hi : L[i]? = some (b, o)) : W.heap[b]? = some o := h.st.get i hi
theorem QQ.at2 (h : QQ w W g R xs L) (i : Nat) {t : TypeId} {arr : Array Value} (hi : L[i]? = some (b, C t arr)) : At W b t arr := h.st.get i hi
theorem QQ.cell (h : QQ w W g R xs L) (i : Nat) {t : TypeId} {arr : Array Value} (hi : L[i]? = some (b, C t arr)) (j : Nat) (v : Value) (hv : arr[j]? = some v) : W.cell? ⟨b, j, none⟩ = some v := h.st.cell i hi j v hv
theorem QQ.bel (h : QQ w W g R xs L) : Below w.heap.size w W := h.st.bel
theorem QQ.sub (h : QQ w W g R xs L) (hs : M.Sublist L) : QQ w W g R xs M := by
  obtain ⟨B, hB, hs', up⟩ := h.lift
  exact up W M (hs'.sub (hs.append_left B))
theorem QQ.tail {x : Nat × Obj} (h : QQ w W g R xs (x :: L)) : QQ w W g R xs L := h.sub (List.sublist_cons_self x L)
theorem QQ.perm (h : QQ w W g R xs L) (hp : L.Perm M) : QQ w W g R xs M := by
  obtain ⟨B, hB, hs', up⟩ := h.lift
  exact up W M (hs'.perm (hp.append_left B))
theorem QQ.call (h : QQ w W g R xs L) (hb : Below W.heap.size W W') : QQ w W' g R xs L := by
  obtain ⟨B, hB, hs', up⟩ := h.lift
  exact up W' L (hs'.call hb)
theorem wpList_alloc_q (h : QQ w W g R xs L) (ty : TypeId) (ho : o.op = .alloc ty) (hw : Region.wanted o (yielded ops a.tmps) = true) (v : Value) (arr : Array Value) (hz : ∀ W, (zeroValue ty).run Try.prog W = .ok v W) (hx : v.cells = arr)
    (k : ∀ W', QQ w W' g R xs ((W.heap.size, C ty arr) :: L) → wpList Try.prog ops Q rest (a.put o.dst (.pointer (some ⟨W.heap.size, 0, none⟩))) W') : wpList Try.prog ops Q (o :: rest) a W := by
  obtain ⟨B, hB, hs, up⟩ := h.lift
  refine wpList_alloc_st hs ty ho hw v arr hz hx fun W' h' _ _ => k W' (up W' _ (h'.perm ?_))
  rw [List.append_assoc]
  exact (List.perm_append_singleton _ L).append_left B
theorem wpList_store_q (h : QQ w W g R xs L) (i : Nat) {t : TypeId} {arr arr' : Array Value} (hi : L[i]? = some (b, C t arr)) (ty : TypeId) (x y : Operand) (ho : o.op = .store ty x y) (hw : Region.wanted o (yielded ops a.tmps) = true)
    (hx : a.eval x = .pointer (some ⟨b, 0, none⟩)) (hy : a.eval y = .agg arr') (hs : (Try.prog.info? ty).map (·.size) = some arr'.size) (hl : arr'.size = arr.size) (h1 : arr'.all (·.oneCell') = true)
    (k : ∀ W', QQ w W' g R xs (L.set i (b, C t arr')) → wpList Try.prog ops Q rest (a.put o.dst undef) W') : wpList Try.prog ops Q (o :: rest) a W := by
  obtain ⟨B, hB, hs', up⟩ := h.lift
  refine wpList_store_st hs' (3 + i) (by rw [List.getElem?_append_right (by omega), hB, Nat.add_sub_cancel_left]; exact hi) ty x y ho hw hx hy hs hl h1 fun W' h' _ => k W' (up W' _ ?_)
  rwa [List.set_append_right _ _ (by omega), hB, Nat.add_sub_cancel_left] at h'
end
theorem ERow.at2 {α : Type} [E : Elt α] {w : World} {B n c b1 o1 : Nat} {xs : List α} (h : ERow w B (some ⟨b1, o1, none⟩) n c xs) (j : Nat) (m : α) (hj : xs[j]? = some m) : b1 < B ∧ w.rangeAt b1 (o1 + j * E.sz) (E.cs m) := by
  obtain ⟨b, o, e, hb, hr⟩ := h.at_ j m hj
  injection e with e
  injection e with e1 e2
  subst e1; subst e2
  exact ⟨hb, hr⟩
theorem ERow.addr {α : Type} [E : Elt α] {w : World} {B n c : Nat} {A : Option Addr} {xs : List α} (h : ERow w B A n c xs) : ∃ b1 o1, 0 < n → A = some ⟨b1, o1, none⟩ := by
  by_cases hn : 0 < n
  · have hl := h.len
    have h0 : 0 < xs.length := by omega
    obtain ⟨b, o, e, _⟩ := h.at_ 0 xs[0] (List.getElem?_eq_getElem h0)
    exact ⟨b, o, fun _ => e⟩
  · exact ⟨0, 0, fun h => absurd h hn⟩
theorem clamp2 : clampR 2 = 2 := by decide
set_option maxHeartbeats 1000000 in
theorem speaks_any (w : World) : Calls Try.prog 9 #[] w fun e w' => e = .returned (.bool true) ∧ Below w.heap.size w w' := by
  have N := Lib.hid (qnew_any (w := w) (W := w) (L := []) 2 (St.nil w))
  rw [clamp2] at N
  have P : ∀ (k : Int) (xs : List Msg) W g, QQ w W g 2 xs [] → xs.length < 2 → Calls Try.prog 14 #[.pointer (some ⟨g, 0, none⟩), .agg (kmsg k 0 0).arr] W fun e W' => e = .returned (.int .i64 0) ∧ QQ w W' g 2 (xs ++ [kmsg k 0 0]) [] := fun k xs W g h hl => put_ok h hl
  have F : ∀ (k : Int) (xs : List Msg) W g, QQ w W g 2 xs [] → ¬ xs.length < 2 → Calls Try.prog 14 #[.pointer (some ⟨g, 0, none⟩), .agg (kmsg k 0 0).arr] W fun e W' => e = .returned (.int .i64 5) ∧ QQ w W' g 2 xs [] := fun k xs W g h hl => put_full h hl
  simp only [karr_lit] at P F
  replace P := Lib.hid P
  replace F := Lib.hid F
  go_enter Try.func9, Try.ntmps9
  go_wp2_with (first
    | (go_at_call 10; refine N.out.mono ?_; rintro e W1 ⟨g, rfl, h1⟩; clear N)
    | (have _ := h1; go_at_call 14; refine (P.out 1 [] _ _ h1 (by decide)).mono ?_; clear h1; rintro e W2 ⟨rfl, h2⟩)
    | (have _ := h2; go_at_call 14; refine (P.out 2 _ _ _ h2 (by simp)).mono ?_; clear h2; rintro e W3 ⟨rfl, h3⟩)
    | (have _ := h3; go_at_call 14; refine (F.out 3 _ _ _ h3 (by simp)).mono ?_; clear h3; rintro e W4 ⟨rfl, h4⟩)
    | (have _ := h4; go_at_call 12; refine (take_cons (x := kmsg 1 0 0) h4).mono ?_; clear h4; rintro e W5 ⟨rfl, h5⟩)
    | (have _ := h5; refine wpList_alloc_q h5 31 rfl rfl _ zmsg.arr zero31 rfl ?_; clear h5; intro W6 h6)
    | (have _ := h6; refine wpList_store_q (arr' := (kmsg 1 0 0).arr) h6 0 rfl 31 (.tmp 5) (.tmp 20) rfl rfl rfl rfl (by rw [Msg.arr_size]; exact sz31) (by simp only [Msg.arr_size]) (Msg.arr_one _) ?_; clear h6; intro W7 h7; have c0 := h7.cell 0 rfl 0 (.int .i64 1) (Msg.at0 _)))
  go_ret
  exact ⟨rfl, h7.bel⟩
end Go.Proofs.Ytacjdeppigdbjaa
