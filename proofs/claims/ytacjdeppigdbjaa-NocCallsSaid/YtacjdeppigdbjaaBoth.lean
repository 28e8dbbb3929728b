/- A queue and the document's beside it; what is done with them. No statement is proved here. -/
import Derived.Test.YtacjdeppigdbjaaQKit
namespace Go.Proofs.Ytacjdeppigdbjaa
open Go.RowKit
set_option linter.unusedVariables false
set_option linter.unusedSimpArgs false

/-- A queue with the messages xs, the document's with ys, and other blocks. -/
def BQ (w W : World) (g gr R : Nat) (xs ys : List Msg) (L : Blks) : Prop :=
  ys.length ≤ R ∧ R ≤ 4096 ∧ ∃ v M, RL v ys M ∧ QQ w W g R xs ((gr, C 43 #[v, .int .i64 (R : Int)]) :: (M ++ L))
section
variable {w W W' : World} {g gr R b : Nat} {xs ys : List Msg} {L N : Blks} {m x y : Msg}
theorem BQ.q (h : BQ w W g gr R xs ys L) : ∃ X, QQ w W g R xs X ∧ ∀ W' xs' N, QQ w W' g R xs' (N ++ X) → BQ w W' g gr R xs' ys (N ++ L) := by
  obtain ⟨h1, h2, v, M, hr, hq⟩ := h
  refine ⟨_, hq, fun W' xs' N h' => ⟨h1, h2, v, M, hr, h'.perm ?_⟩⟩
  refine (List.perm_middle).trans (List.Perm.cons _ ?_)
  exact List.perm_append_comm_assoc N M L
theorem BQ.r (h : BQ w W g gr R xs ys L) : ∃ B, RQ w W gr R ys (B ++ L) ∧ ∀ W' ys', RQ w W' gr R ys' (B ++ L) → BQ w W' g gr R xs ys' L := by
  obtain ⟨h1, h2, v, M, hr, hq⟩ := h
  obtain ⟨B, hB, hs, up⟩ := hq.lift
  refine ⟨B, ⟨h1, h2, v, M, hr, hs.perm ?_⟩, fun W' ys' h' => ?_⟩
  · refine (List.perm_middle).trans (List.Perm.cons _ ?_)
    exact List.perm_append_comm_assoc B M L
  · obtain ⟨k1, k2, v', M', hr', hs'⟩ := h'
    refine ⟨k1, k2, v', M', hr', up W' _ (hs'.perm ?_)⟩
    refine (List.Perm.cons _ (List.perm_append_comm_assoc M' B L)).trans ?_
    exact (List.perm_middle).symm
theorem BQ.st (h : BQ w W g gr R xs ys L) : St w W L := by
  obtain ⟨h1, h2, v, M, hr, hq⟩ := h
  exact hq.st.tail.sub (List.sublist_append_right M L)
theorem BQ.bel (h : BQ w W g gr R xs ys L) : Below w.heap.size w W := h.st.bel
theorem BQ.drewN (h : BQ w W g gr R xs ys L) (j : Nat) : BQ w (W.drewN j) g gr R xs ys L := by
  obtain ⟨h1, h2, v, M, hr, hq⟩ := h
  exact ⟨h1, h2, v, M, hr, hq.drewN j⟩
theorem BQ.sub (h : BQ w W g gr R xs ys L) (hs : N.Sublist L) : BQ w W g gr R xs ys N := by
  obtain ⟨h1, h2, v, M, hr, hq⟩ := h
  exact ⟨h1, h2, v, M, hr, hq.sub ((hs.append_left M).cons_cons _)⟩
theorem BQ.lens (h : BQ w W g gr R xs ys L) : ys.length ≤ R ∧ R ≤ 4096 ∧ xs.length ≤ R := by
  obtain ⟨h1, h2, v, M, hr, hq⟩ := h
  exact ⟨h1, h2, hq.1⟩
theorem btake_nil (h : BQ w W g gr R [] ys L) : Calls Try.prog 12 #[.pointer (some ⟨g, 0, none⟩)] W fun e W' => e = .returned (.tuple #[.agg zmsg.arr, .int .i64 6]) ∧ BQ w W' g gr R [] ys L := by
  obtain ⟨X, hq, up⟩ := h.q
  refine (take_nil hq).mono ?_
  rintro e W' ⟨rfl, h'⟩
  exact ⟨rfl, up _ _ [] h'⟩
theorem btake_cons (h : BQ w W g gr R (x :: xs) ys L) : Calls Try.prog 12 #[.pointer (some ⟨g, 0, none⟩)] W fun e W' => e = .returned (.tuple #[.agg x.arr, .int .i64 0]) ∧ BQ w W' g gr R xs ys L := by
  obtain ⟨X, hq, up⟩ := h.q
  refine (take_cons hq).mono ?_
  rintro e W' ⟨rfl, h'⟩
  exact ⟨rfl, up _ _ [] h'⟩
theorem bput_ok (h : BQ w W g gr R xs ys L) (hr : xs.length < R) : Calls Try.prog 14 #[.pointer (some ⟨g, 0, none⟩), .agg m.arr] W fun e W' => e = .returned (.int .i64 0) ∧ BQ w W' g gr R (xs ++ [m]) ys L := by
  obtain ⟨X, hq, up⟩ := h.q
  refine (put_ok hq hr).mono ?_
  rintro e W' ⟨rfl, h'⟩
  exact ⟨rfl, up _ _ [] h'⟩
theorem bput_full (h : BQ w W g gr R xs ys L) (hr : ¬ xs.length < R) : Calls Try.prog 14 #[.pointer (some ⟨g, 0, none⟩), .agg m.arr] W fun e W' => e = .returned (.int .i64 5) ∧ BQ w W' g gr R xs ys L := by
  obtain ⟨X, hq, up⟩ := h.q
  refine (put_full hq hr).mono ?_
  rintro e W' ⟨rfl, h'⟩
  exact ⟨rfl, up _ _ [] h'⟩
theorem bfirst_nil (h : BQ w W g gr R [] ys L) : Calls Try.prog 16 #[.pointer (some ⟨g, 0, none⟩)] W fun e W' => e = .returned (.tuple #[.agg zmsg.arr, .int .i64 6]) ∧ BQ w W' g gr R [] ys L := by
  obtain ⟨X, hq, up⟩ := h.q
  refine (first_nil hq).mono ?_
  rintro e W' ⟨rfl, h'⟩
  exact ⟨rfl, up _ _ [] h'⟩
theorem bfirst_cons (h : BQ w W g gr R (x :: xs) ys L) : Calls Try.prog 16 #[.pointer (some ⟨g, 0, none⟩)] W fun e W' => e = .returned (.tuple #[.agg x.arr, .int .i64 0]) ∧ BQ w W' g gr R (x :: xs) ys L := by
  obtain ⟨X, hq, up⟩ := h.q
  refine (first_cons hq).mono ?_
  rintro e W' ⟨rfl, h'⟩
  exact ⟨rfl, up _ _ [] h'⟩
theorem blen (h : BQ w W g gr R xs ys L) : Calls Try.prog 17 #[.pointer (some ⟨g, 0, none⟩)] W fun e W' => e = .returned (.int .i64 (xs.length : Nat)) ∧ ∃ j, W' = W.drewN j := by
  obtain ⟨X, hq, up⟩ := h.q
  exact len_any hq
theorem broom (h : BQ w W g gr R xs ys L) : Calls Try.prog 18 #[.pointer (some ⟨g, 0, none⟩)] W fun e W' => e = .returned (.int .i64 ((R : Int) - (xs.length : Nat))) ∧ ∃ j, W' = W.drewN j := by
  obtain ⟨X, hq, up⟩ := h.q
  exact room_any hq
theorem ball (h : BQ w W g gr R xs ys L) : Calls Try.prog 20 #[.pointer (some ⟨g, 0, none⟩)] W fun e W' => ∃ b, e = .returned (.slice (some ⟨b, 0, none⟩) xs.length xs.length) ∧ BQ w W' g gr R xs ys ((b, C 31 (marr xs)) :: L) := by
  obtain ⟨X, hq, up⟩ := h.q
  refine (all_any hq).mono ?_
  rintro e W' ⟨b, rfl, h'⟩
  exact ⟨b, rfl, up _ _ [_] h'⟩
theorem brput_ok (h : BQ w W g gr R xs ys L) (hr : ys.length < R) : Calls Try.prog 15 #[.pointer (some ⟨gr, 0, none⟩), .agg m.arr] W fun e W' => e = .returned (.int .i64 0) ∧ BQ w W' g gr R xs (ys ++ [m]) L := by
  obtain ⟨X, hq, up⟩ := h.r
  refine (rput_ok hq hr).mono ?_
  rintro e W' ⟨rfl, h'⟩
  exact ⟨rfl, up _ _ h'⟩
theorem brput_full (h : BQ w W g gr R xs ys L) (hr : ¬ ys.length < R) : Calls Try.prog 15 #[.pointer (some ⟨gr, 0, none⟩), .agg m.arr] W fun e W' => e = .returned (.int .i64 5) ∧ BQ w W' g gr R xs ys L := by
  obtain ⟨X, hq, up⟩ := h.r
  refine (rput_full hq hr).mono ?_
  rintro e W' ⟨rfl, h'⟩
  exact ⟨rfl, up _ _ h'⟩
theorem brtake_nil (h : BQ w W g gr R xs [] L) : Calls Try.prog 13 #[.pointer (some ⟨gr, 0, none⟩)] W fun e W' => e = .returned (.tuple #[.agg zmsg.arr, .int .i64 6]) ∧ BQ w W' g gr R xs [] L := by
  obtain ⟨X, hq, up⟩ := h.r
  refine (rtake_nil hq).mono ?_
  rintro e W' ⟨rfl, h'⟩
  exact ⟨rfl, up _ _ h'⟩
theorem brtake_cons (h : BQ w W g gr R xs (y :: ys) L) : Calls Try.prog 13 #[.pointer (some ⟨gr, 0, none⟩)] W fun e W' => e = .returned (.tuple #[.agg y.arr, .int .i64 0]) ∧ BQ w W' g gr R xs ys L := by
  obtain ⟨X, hq, up⟩ := h.r
  refine (rtake_cons hq).mono ?_
  rintro e W' ⟨rfl, h'⟩
  exact ⟨rfl, up _ _ h'⟩
end
section
variable {ops : Array Oper} {rest : List Oper} {o : Oper} {a : Act} {w W W' : World} {Q : Exit → Act → World → Prop} {L M : Blks} {g gr R b : Nat} {xs ys : List Msg} {m m' : Msg}
theorem BQ.at2 (h : BQ w W g gr R xs ys L) (i : Nat) {t : TypeId} {arr : Array Value} (hi : L[i]? = some (b, C t arr)) : At W b t arr := h.st.get i hi
theorem BQ.cell (h : BQ w W g gr R xs ys L) (i : Nat) {t : TypeId} {arr : Array Value} (hi : L[i]? = some (b, C t arr)) (j : Nat) (v : Value) (hv : arr[j]? = some v) : W.cell? ⟨b, j, none⟩ = some v := h.st.cell i hi j v hv
theorem wpList_alloc_b (h : BQ w W g gr R xs ys L) (ty : TypeId) (ho : o.op = .alloc ty) (hw : Region.wanted o (yielded ops a.tmps) = true) (v : Value) (arr : Array Value) (hz : ∀ W, (zeroValue ty).run Try.prog W = .ok v W) (hx : v.cells = arr)
    (k : ∀ W', BQ w W' g gr R xs ys ((W.heap.size, C ty arr) :: L) → wpList Try.prog ops Q rest (a.put o.dst (.pointer (some ⟨W.heap.size, 0, none⟩))) W') : wpList Try.prog ops Q (o :: rest) a W := by
  obtain ⟨X, hq, up⟩ := h.q
  exact wpList_alloc_q hq ty ho hw v arr hz hx fun W' h' => k W' (up W' xs [_] h')
theorem wpList_store_b (h : BQ w W g gr R xs ys L) (i : Nat) {t : TypeId} {arr arr' : Array Value} (hi : L[i]? = some (b, C t arr)) (ty : TypeId) (x y : Operand) (ho : o.op = .store ty x y) (hw : Region.wanted o (yielded ops a.tmps) = true)
    (hx : a.eval x = .pointer (some ⟨b, 0, none⟩)) (hy : a.eval y = .agg arr') (hs : (Try.prog.info? ty).map (·.size) = some arr'.size) (hl : arr'.size = arr.size) (h1 : arr'.all (·.oneCell') = true)
    (k : ∀ W', BQ w W' g gr R xs ys (L.set i (b, C t arr')) → wpList Try.prog ops Q rest (a.put o.dst undef) W') : wpList Try.prog ops Q (o :: rest) a W := by
  obtain ⟨h1', h2', v, M, hr, hq⟩ := h
  refine wpList_store_q (t := t) hq (1 + M.length + i) ?_ ty x y ho hw hx hy hs hl h1 fun W' h' => k W' ⟨h1', h2', v, M, hr, ?_⟩
  · rw [show 1 + M.length + i = (M.length + i) + 1 by omega, List.getElem?_cons_succ, List.getElem?_append_right (by omega), Nat.add_sub_cancel_left]
    exact hi
  · rw [show 1 + M.length + i = (M.length + i) + 1 by omega, List.set_cons_succ, List.set_append_right _ _ (by omega), Nat.add_sub_cancel_left] at h'
    exact h'
end
end Go.Proofs.Ytacjdeppigdbjaa
