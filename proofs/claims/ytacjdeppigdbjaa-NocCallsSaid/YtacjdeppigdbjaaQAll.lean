/- All messages of a queue. No statement is proved here. -/
import Derived.Test.YtacjdeppigdbjaaMem
namespace Go.Proofs.Ytacjdeppigdbjaa
open Go.RowKit
set_option linter.unusedVariables false
set_option linter.unusedSimpArgs false
attribute [local irreducible] Msg.arr bufM marr

/-- What the row holds behind i rounds. -/
def filled (xs : List Msg) (i : Nat) : List Msg := xs.take i ++ List.replicate (xs.length - i) zmsg
theorem filled_len (xs : List Msg) (i : Nat) (h : i ≤ xs.length) : (filled xs i).length = xs.length := by unfold filled; simp; omega
theorem filled_set (xs : List Msg) (i : Nat) (m : Msg) (h : xs[i]? = some m) : (filled xs i).set i m = filled xs (i + 1) := by
  obtain ⟨hi, rfl⟩ := List.getElem?_eq_some_iff.1 h
  unfold filled
  refine List.ext_getElem? fun j => ?_
  have hl : (xs.take i).length = i := by simp; omega
  have hl2 : (xs.take (i + 1)).length = i + 1 := by simp; omega
  by_cases hj : j = i
  · subst hj
    rw [List.getElem?_set_self (by simp; omega), List.getElem?_append_left (by omega), List.getElem?_take_of_lt (by omega), List.getElem?_eq_getElem hi]
  · rw [List.getElem?_set_ne (Ne.symm hj)]
    by_cases h2 : j < i
    · rw [List.getElem?_append_left (by omega), List.getElem?_append_left (by omega), List.getElem?_take_of_lt h2, List.getElem?_take_of_lt (by omega)]
    · rw [List.getElem?_append_right (by omega), List.getElem?_append_right (by omega), hl, hl2, List.getElem?_replicate, List.getElem?_replicate]
      by_cases h3 : j < xs.length
      · rw [if_pos (by omega), if_pos (by omega)]
      · rw [if_neg (by omega), if_neg (by omega)]
theorem filled_at (xs : List Msg) (i : Nat) (m : Msg) (h : xs[i]? = some m) : (filled xs (i + 1))[i]? = some m := by
  obtain ⟨hi, rfl⟩ := List.getElem?_eq_some_iff.1 h
  unfold filled
  rw [List.getElem?_append_left (by simp; omega), List.getElem?_take_of_lt (by omega), List.getElem?_eq_getElem hi]
theorem filled_zero (xs : List Msg) : filled xs 0 = List.replicate xs.length zmsg := by unfold filled; simp
theorem filled_all (xs : List Msg) : filled xs xs.length = xs := by unfold filled; simp
/-- The queue behind i rounds. -/
def turned (xs : List Msg) (i : Nat) : List Msg := xs.drop i ++ xs.take i
theorem turned_zero (xs : List Msg) : turned xs 0 = xs := by unfold turned; simp
theorem turned_all (xs : List Msg) : turned xs xs.length = xs := by unfold turned; simp
theorem turned_cons (xs : List Msg) (i : Nat) (m : Msg) (h : xs[i]? = some m) : turned xs i = m :: (xs.drop (i + 1) ++ xs.take i) := by
  obtain ⟨hi, rfl⟩ := List.getElem?_eq_some_iff.1 h
  unfold turned
  rw [List.drop_eq_getElem_cons hi]; rfl
theorem turned_step (xs : List Msg) (i : Nat) (m : Msg) (h : xs[i]? = some m) : (xs.drop (i + 1) ++ xs.take i) ++ [m] = turned xs (i + 1) := by
  obtain ⟨hi, rfl⟩ := List.getElem?_eq_some_iff.1 h
  unfold turned
  rw [List.append_assoc, List.take_add_one, List.getElem?_eq_getElem hi]; rfl
theorem QQ.to {w W : World} {g R : Nat} {xs : List Msg} {L M : Blks} (h : QQ w W g R xs L) (k : ∀ W L', St w W (L' ++ L) → St w W (L' ++ M)) : QQ w W g R xs M := by
  obtain ⟨h1, h2, a, b, c, d, e, f, hs⟩ := h
  exact ⟨h1, h2, a, b, c, d, e, f, k W [_, _, _] hs⟩
/-- A law on worlds with blocks, told of a world with a queue besides. -/
theorem QQ.lift {w W : World} {g R : Nat} {xs : List Msg} {L : Blks} (h : QQ w W g R xs L) : ∃ Q : Blks, Q.length = 3 ∧ St w W (Q ++ L) ∧ ∀ W' M, St w W' (Q ++ M) → QQ w W' g R xs M := by
  obtain ⟨h1, h2, a, b, c, d, e, f, hs⟩ := h
  exact ⟨[_, _, _], rfl, hs, fun W' M h' => ⟨h1, h2, a, b, c, d, e, f, h'⟩⟩
section
variable {ops : Array Oper} {rest : List Oper} {o : Oper} {a : Act} {w W : World} {Q : Exit → Act → World → Prop} {L : Blks} {g R b : Nat} {xs ys : List Msg} {m : Msg}
theorem wpList_makeM_q (h : QQ w W g R xs L) (l c : Operand) (ho : o.op = .makeSlice 41 l c) (hw : Region.wanted o (yielded ops a.tmps) = true) (n : Nat) (hl : a.eval l = .int .i64 (n : Int)) (hc : a.eval c = .int .i64 (n : Int)) (hn : n ≤ 5000)
    (k : ∀ W', QQ w W' g R xs ((W.heap.size, C 31 (marr (List.replicate n zmsg))) :: L) → wpList Try.prog ops Q rest (a.put o.dst (.slice (some ⟨W.heap.size, 0, none⟩) n n)) W') : wpList Try.prog ops Q (o :: rest) a W := by
  obtain ⟨B, hB, hs, up⟩ := h.lift
  refine wpList_makeM_st hs l c ho hw n hl hc hn fun W' h' _ => k W' (up W' _ (h'.perm ?_))
  rw [List.append_assoc]
  exact (List.perm_append_singleton _ L).append_left B
theorem wpList_storeM_q {i : Nat} (h : QQ w W g R xs ((b, C 31 (marr ys)) :: L)) (x y : Operand) (ho : o.op = .store 31 x y) (hw : Region.wanted o (yielded ops a.tmps) = true)
    (hx : a.eval x = .pointer (some ⟨b, i * 38, none⟩)) (hy : a.eval y = .agg m.arr) (hi : i < ys.length)
    (k : ∀ W', QQ w W' g R xs ((b, C 31 (marr (ys.set i m))) :: L) → wpList Try.prog ops Q rest (a.put o.dst undef) W') : wpList Try.prog ops Q (o :: rest) a W := by
  obtain ⟨B, hB, hs, up⟩ := h.lift
  refine wpList_storeM_st hs 3 (by rw [List.getElem?_append_right (by omega), hB]; rfl) x y ho hw hx hy hi fun W' h' _ => k W' (up W' _ ?_)
  rwa [List.set_append_right _ _ (by omega), hB] at h'
theorem QQ.at_ (h : QQ w W g R xs ((b, C 31 (marr ys)) :: L)) : At W b 31 (marr ys) := by
  obtain ⟨B, hB, hs, up⟩ := h.lift
  exact hs.get 3 (by rw [List.getElem?_append_right (by omega), hB]; rfl)
end
def ARel (w : World) (g b R : Nat) (xs : List Msg) (L : Blks) (i : Value) (wr : World) : Prop :=
  ∃ j : Nat, j ≤ xs.length ∧ i = .int .i64 (j : Nat) ∧ QQ w wr g R (turned xs j) ((b, C 31 (marr (filled xs j))) :: L)
set_option maxHeartbeats 1000000 in
theorem all_any {w W : World} {L : Blks} {g R : Nat} {xs : List Msg} (h : QQ w W g R xs L) :
    Calls Try.prog 20 #[.pointer (some ⟨g, 0, none⟩)] W fun e W' => ∃ b, e = .returned (.slice (some ⟨b, 0, none⟩) xs.length xs.length) ∧ QQ w W' g R xs ((b, C 31 (marr xs)) :: L) := by
  have LE := Lib.hid (len_any h)
  have h5 : xs.length ≤ 5000 := by have := h.1; have := h.2.1; omega
  have HF := Lib.hid (filled_zero xs)
  have HT := Lib.hid (turned_zero xs)
  go_enter Try.func20, Try.ntmps20
  go_wp2_with (first
    | (go_at_call 17; refine LE.out.mono ?_; rintro e X1 ⟨rfl, j, rfl⟩; replace h := h.drewN j; clear LE)
    | (refine wpList_makeM_q h _ _ rfl rfl xs.length rfl rfl h5 ?_; clear h; intro W2 h2))
  go_loopw [10] (ARel w g W.heap.size R xs L) (fun i _ => xs.length - (intOf i).toNat)
  case atStart => exact ⟨0, by omega, rfl, by rw [HF.out, HT.out]; exact h2⟩
  case round =>
    obtain ⟨j, hj, rfl, h3⟩ := hrel
    clear h2
    generalize W.heap.size = b at *
    by_cases hlt : j < xs.length
    · have g1 : ((j : Int) < (xs.length : Int)) = True := eq_true (by omega)
      have hx : xs[j]? = some xs[j] := List.getElem?_eq_getElem hlt
      generalize xs[j] = m at *
      have E1 := Lib.hid (turned_cons xs j m hx)
      have E2 := Lib.hid (turned_step xs j m hx)
      have E3 := Lib.hid (filled_set xs j m hx)
      have E4 := Lib.hid (filled_at xs j m hx)
      have E5 := Lib.hid (filled_len xs j (by omega))
      have hR := Lib.hid h3.2.1
      have hRx := Lib.hid h3.1
      rw [E1.out] at h3
      have HL := Lib.hid (show (xs.drop (j + 1) ++ xs.take j).length < R by have := h3.1; rw [List.length_cons] at this; omega)
      clear hx
      go_wp2_with (first
        | (have _ := h3; go_at_call 12; refine (take_cons h3).mono ?_; clear h3; rintro e X1 ⟨rfl, h4⟩)
        | (have _ := h4; refine wpList_storeM_q (i := j) h4 _ _ rfl rfl rfl rfl (by rw [E5.out]; exact hlt) ?_; clear h4; intro W4 h5; rw [E3.out] at h5)
        | (have _ := h5; refine wpList_loadM (h5.at_.range j E4.out) _ rfl rfl rfl ?_)
        | (have _ := h5; go_at_call 14; refine (put_ok h5 HL.out).mono ?_; clear h5; rintro e X2 ⟨rfl, h6⟩; rw [E2.out] at h6))
      go_roundw
      case rel => exact ⟨j + 1, by omega, by go_num, h6⟩
      case measure => simp [intOf]; omega
    · obtain rfl : j = xs.length := by omega
      have g1 : ((xs.length : Int) < (xs.length : Int)) = False := eq_false (by omega)
      rw [turned_all, filled_all] at h3
      go_wp2
      go_ret
      exact ⟨b, rfl, h3⟩
end Go.Proofs.Ytacjdeppigdbjaa
