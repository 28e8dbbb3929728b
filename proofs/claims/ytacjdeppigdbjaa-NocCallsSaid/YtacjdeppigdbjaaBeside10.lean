/- A net and the document's, beside each other; what is done with them. No statement is proved here. -/
import Derived.Test.YtacjdeppigdbjaaRel10
namespace Go.Proofs.Ytacjdeppigdbjaa
open Go.RowKit
set_option linter.unusedVariables false
set_option linter.unusedSimpArgs false

/-- A net (block g) with the contents c and the document's (block gr), which was sent xs; L: the other blocks. -/
def BN (w W : World) (g gr n R : Nat) (c : Nat → List Msg) (xs : List Sn) (L : Blks) : Prop :=
  ∃ (q u : Nat) (ps : List Nat) (Y : Blks), NX w W g q u n R ps c (Y ++ L) ∧ ∀ W' M, St w W' (Y ++ M) → RN w W' gr n R xs M
/-- What Take answers, and what is left. -/
def tkM (n : Nat) (c : Nat → List Msg) (l : Lk) : Msg := if hasO n l then (c (idxL n l)).headD zmsg else zmsg
def tkK (n : Nat) (c : Nat → List Msg) (l : Lk) : Int := if hasO n l then (if (c (idxL n l)).length = 0 then 6 else 0) else 2
def tkC (n : Nat) (c : Nat → List Msg) (l : Lk) : Nat → List Msg := if hasO n l then upd c (idxL n l) (c (idxL n l)).tail else c
theorem tk_no {n : Nat} {c : Nat → List Msg} {l : Lk} (h : hasO n l = false) : tkM n c l = zmsg ∧ tkK n c l = 2 ∧ tkC n c l = c := by simp [tkM, tkK, tkC, h]
theorem tk_nil {n : Nat} {c : Nat → List Msg} {l : Lk} (h : hasO n l = true) (hc : c (idxL n l) = []) : tkM n c l = zmsg ∧ tkK n c l = 6 ∧ tkC n c l = c := by
  refine ⟨by simp [tkM, h, hc], by simp [tkK, h, hc], ?_⟩
  simp only [tkC, h, if_true, hc, List.tail_nil]
  rw [← hc, upd_self]
theorem tk_cons {n : Nat} {c : Nat → List Msg} {l : Lk} {x : Msg} {ms : List Msg} (h : hasO n l = true) (hc : c (idxL n l) = x :: ms) : tkM n c l = x ∧ tkK n c l = 0 ∧ tkC n c l = upd c (idxL n l) ms := by
  simp [tkM, tkK, tkC, h, hc]
section
variable {w W W' : World} {g gr n R : Nat} {c c' : Nat → List Msg} {xs : List Sn} {L M : Blks} {l : Lk}
theorem BN.prog (h : BN w W g gr n R c xs L) : ∃ q u ps X, NX w W g q u n R ps c X ∧ ∀ W' q u ps c' M, NX w W' g q u n R ps c' (M ++ X) → BN w W' g gr n R c' xs (M ++ L) := by
  obtain ⟨q, u, ps, Y, h1, up⟩ := h
  exact ⟨q, u, ps, _, h1, fun W' q u ps c' M h' => ⟨q, u, ps, Y, h'.perm (List.perm_append_comm_assoc M Y L), up⟩⟩
theorem BN.doc (h : BN w W g gr n R c xs L) : ∃ X, RN w W gr n R xs X ∧ ∀ W' xs' M, RN w W' gr n R xs' (M ++ X) → BN w W' g gr n R c xs' (M ++ L) := by
  obtain ⟨q, u, ps, Y, h1, up⟩ := h
  obtain ⟨Y1, _, _, _, hs, up1⟩ := h1.lift
  refine ⟨Y1 ++ L, up _ _ (hs.perm (List.perm_append_comm_assoc Y1 Y L)), fun W' xs' M h' => ?_⟩
  obtain ⟨Y2, hs2, up2⟩ := h'.lift
  refine ⟨q, u, ps, Y2, up1 _ _ (hs2.perm ?_), up2⟩
  refine (List.Perm.append_left Y2 (List.perm_append_comm_assoc M Y1 L)).trans ?_
  exact List.perm_append_comm_assoc Y2 Y1 (M ++ L)
theorem BN.st (h : BN w W g gr n R c xs L) : St w W L := by
  obtain ⟨q, u, ps, Y, h1, up⟩ := h
  exact h1.st.sub (List.sublist_append_right Y L)
theorem BN.bel (h : BN w W g gr n R c xs L) : Below w.heap.size w W := h.st.bel
theorem BN.drewN (h : BN w W g gr n R c xs L) (j : Nat) : BN w (W.drewN j) g gr n R c xs L := by
  obtain ⟨q, u, ps, Y, h1, up⟩ := h
  exact ⟨q, u, ps, Y, h1.drewN j, up⟩
theorem BN.call (h : BN w W g gr n R c xs L) (hb : Below W.heap.size W W') : BN w W' g gr n R c xs L := by
  obtain ⟨q, u, ps, Y, h1, up⟩ := h
  exact ⟨q, u, ps, Y, h1.call hb, up⟩
theorem BN.sub (h : BN w W g gr n R c xs L) (hs : M.Sublist L) : BN w W g gr n R c xs M := by
  obtain ⟨q, u, ps, Y, h1, up⟩ := h
  exact ⟨q, u, ps, Y, h1.sub (hs.append_left Y), up⟩
theorem BN.perm (h : BN w W g gr n R c xs L) (hp : L.Perm M) : BN w W g gr n R c xs M := by
  obtain ⟨q, u, ps, Y, h1, up⟩ := h
  exact ⟨q, u, ps, Y, h1.perm (hp.append_left Y), up⟩
theorem BN.lims (h : BN w W g gr n R c xs L) : n ≤ 16 ∧ R ≤ 4096 := by
  obtain ⟨q, u, ps, Y, h1, up⟩ := h
  exact ⟨h1.n16, h1.r4⟩
theorem BN.made {q u : Nat} {ps : List Nat} (h : NX w W g q u n R ps c L) : ∃ Y, St w W (Y ++ L) ∧ ∀ W' gr, RN w W' gr n R xs (Y ++ L) → BN w W' g gr n R c xs L := by
  obtain ⟨Y, _, _, _, hs, up⟩ := h.lift
  refine ⟨Y, hs, fun W' gr h' => ?_⟩
  obtain ⟨Y2, hs2, up2⟩ := h'.lift
  exact ⟨q, u, ps, Y2, up _ _ (hs2.perm (List.perm_append_comm_assoc Y2 Y L)), up2⟩
theorem bn24 (h : BN w W g gr n R c xs L) (l : Lk) :
    Calls Try.prog 24 #[.pointer (some ⟨g, 0, none⟩), .agg #[.int .i64 l.a, .int .i64 l.b, .int .i64 l.d]] W fun e W' => e = .returned (.tuple #[.agg (tkM n c l).arr, .int .i64 (tkK n c l)]) ∧ BN w W' g gr n R (tkC n c l) xs L := by
  obtain ⟨q, u, ps, X, h1, up⟩ := h.prog
  cases ho : hasO n l with
  | false =>
    obtain ⟨e1, e2, e3⟩ := tk_no (c := c) ho
    rw [e1, e2, e3]
    refine (ntake_no h1 l.a l.b l.d ho).mono ?_
    rintro e W' ⟨rfl, h2⟩
    exact ⟨rfl, up _ _ _ _ _ [] h2⟩
  | true =>
    obtain ⟨a, b, d, rfl, ha, hb, hd, ei⟩ := has_nat ho
    cases hc : c (idxL n ⟨(a : Int), (b : Int), (d : Int)⟩) with
    | nil =>
      obtain ⟨e1, e2, e3⟩ := tk_nil (c := c) ho hc
      rw [e1, e2, e3]
      rw [ei] at hc
      refine (ntake_nil h1 a b d ha hb hd hc).mono ?_
      rintro e W' ⟨rfl, h2⟩
      exact ⟨rfl, up _ _ _ _ _ [] h2⟩
    | cons x ms =>
      obtain ⟨e1, e2, e3⟩ := tk_cons (c := c) ho hc
      rw [e1, e2, e3, ei]
      rw [ei] at hc
      refine (ntake_cons h1 a b d ha hb hd hc).mono ?_
      rintro e W' ⟨rfl, h2⟩
      exact ⟨rfl, up _ _ _ _ _ [] h2⟩
theorem bn25 (h : BN w W g gr n R c xs L) (l : Lk) :
    Calls Try.prog 25 #[.pointer (some ⟨g, 0, none⟩), .agg #[.int .i64 l.a, .int .i64 l.b, .int .i64 l.d]] W fun e W' => e = .returned (.tuple #[.agg (tkM n c l).arr, .int .i64 (tkK n c l)]) ∧ BN w W' g gr n R c xs L := by
  obtain ⟨q, u, ps, X, h1, up⟩ := h.prog
  cases ho : hasO n l with
  | false =>
    obtain ⟨e1, e2, e3⟩ := tk_no (c := c) ho
    rw [e1, e2]
    refine (nnext_no h1 l.a l.b l.d ho).mono ?_
    rintro e W' ⟨rfl, h2⟩
    exact ⟨rfl, up _ _ _ _ _ [] h2⟩
  | true =>
    obtain ⟨a, b, d, rfl, ha, hb, hd, ei⟩ := has_nat ho
    cases hc : c (idxL n ⟨(a : Int), (b : Int), (d : Int)⟩) with
    | nil =>
      obtain ⟨e1, e2, e3⟩ := tk_nil (c := c) ho hc
      rw [e1, e2]
      rw [ei] at hc
      refine (nnext_nil h1 a b d ha hb hd hc).mono ?_
      rintro e W' ⟨rfl, h2⟩
      exact ⟨rfl, up _ _ _ _ _ [] h2⟩
    | cons x ms =>
      obtain ⟨e1, e2, e3⟩ := tk_cons (c := c) ho hc
      rw [e1, e2]
      rw [ei] at hc
      refine (nnext_cons h1 a b d ha hb hd hc).mono ?_
      rintro e W' ⟨rfl, h2⟩
      exact ⟨rfl, up _ _ _ _ _ [] h2⟩
/-- The document's Take: the same answer; t: the message stays. -/
theorem bn26 (h : BN w W g gr n R c' xs L) (hR : Rl n c xs) (hlen : xs.length ≤ 1000) (l : Lk) (t : Bool) :
    Calls Try.prog 26 #[.pointer (some ⟨gr, 0, none⟩), .agg #[.int .i64 l.a, .int .i64 l.b, .int .i64 l.d], .bool t] W fun e W' => e = .returned (.tuple #[.agg (tkM n c l).arr, .int .i64 (tkK n c l)]) ∧
      ∃ xs', BN w W' g gr n R c' xs' L ∧ Rl n (if t then c else tkC n c l) xs' ∧ xs'.length ≤ xs.length := by
  obtain ⟨X, h1, up⟩ := h.doc
  cases ho : hasO n l with
  | false =>
    obtain ⟨e1, e2, e3⟩ := tk_no (c := c) ho
    rw [e1, e2, e3, ite_self]
    refine (rtake_no h1 l t ho).mono ?_
    rintro e W' ⟨rfl, h2⟩
    exact ⟨rfl, xs, up _ _ [] h2, hR, Nat.le_refl _⟩
  | true =>
    cases hc : c (idxL n l) with
    | nil =>
      obtain ⟨e1, e2, e3⟩ := tk_nil (c := c) ho hc
      rw [e1, e2, e3, ite_self]
      refine (rtake_nil2 h1 l t hlen ho (by rw [msgsTo_all, hR.eq l ho, hc])).mono ?_
      rintro e W' ⟨rfl, h2⟩
      exact ⟨rfl, xs, up _ _ [] h2, hR, Nat.le_refl _⟩
    | cons x ms =>
      obtain ⟨e1, e2, e3⟩ := tk_cons (c := c) ho hc
      obtain ⟨i, is, hi, hn, hm, hR2⟩ := hR.take ho hc
      rw [e1, e2, e3]
      cases t with
      | true =>
        refine (rtake_first h1 l hlen ho hm hn).mono ?_
        rintro e W' ⟨rfl, h2⟩
        exact ⟨rfl, xs, up _ _ [] h2, hR, Nat.le_refl _⟩
      | false =>
        refine (rtake_cons2 h1 l hlen ho hi hm hn).mono ?_
        rintro e W' ⟨rfl, h2⟩
        exact ⟨rfl, _, up _ _ [] h2, hR2, by rw [List.length_append, List.length_take, List.length_drop]; omega⟩
theorem bn27 (h : BN w W g gr n R c xs L) (a : Int) (m : Msg) :
    Calls Try.prog 27 #[.pointer (some ⟨g, 0, none⟩), .int .i64 a, .agg m.arr] W fun e W' => e = .returned (.int .i64 (sendK n R c a m)) ∧ BN w W' g gr n R (sendC n R c a m) xs L := by
  obtain ⟨q, u, ps, X, h1, up⟩ := h.prog
  refine (nsend_any h1 a m).mono ?_
  rintro e W' ⟨ps', rfl, h2⟩
  exact ⟨rfl, up _ _ _ _ _ [] h2⟩
theorem bn28 (h : BN w W g gr n R c' xs L) (hR : Rl n c xs) (hlen : xs.length ≤ 1000) (a : Int) (m : Msg) :
    Calls Try.prog 28 #[.pointer (some ⟨gr, 0, none⟩), .int .i64 a, .agg m.arr] W fun e W' => e = .returned (.int .i64 (sendK n R c a m)) ∧
      ∃ xs', BN w W' g gr n R c' xs' L ∧ Rl n (sendC n R c a m) xs' ∧ xs'.length ≤ xs.length + 1 := by
  obtain ⟨X, h1, up⟩ := h.doc
  unfold sendK sendC sendOk
  cases ho : hasO n (lkOf a m) with
  | false =>
    rw [if_neg (by simp), Bool.false_and, if_neg (by simp)]
    refine (rsend_no h1 a m ho).mono ?_
    rintro e W' ⟨rfl, h2⟩
    exact ⟨rfl, xs, up _ _ [] h2, hR, by omega⟩
  | true =>
    have hf : msgsTo (lkOf a m) xs xs.length = c (idxL n (lkOf a m)) := by rw [msgsTo_all, hR.eq _ ho]
    rw [if_pos rfl, Bool.true_and]
    by_cases hl : (c (idxL n (lkOf a m))).length < R
    · rw [if_pos hl, decide_eq_true hl, if_pos rfl]
      refine (rsend_ok h1 a m hlen ho (by rw [hf]; exact hl)).mono ?_
      rintro e W' ⟨rfl, h2⟩
      exact ⟨rfl, _, up _ _ [] h2, hR.send a m ho, by simp⟩
    · rw [if_neg hl, decide_eq_false hl, if_neg (by simp)]
      refine (rsend_full h1 a m hlen ho (by rw [hf]; omega)).mono ?_
      rintro e W' ⟨rfl, h2⟩
      exact ⟨rfl, xs, up _ _ [] h2, hR, by omega⟩
theorem bn29 (h : BN w W g gr n R c xs L) (hR : Rl n c xs) (hlen : xs.length ≤ 1000) (l : Lk) :
    Calls Try.prog 29 #[.pointer (some ⟨gr, 0, none⟩), .agg #[.int .i64 l.a, .int .i64 l.b, .int .i64 l.d]] W fun e W' => ∃ v6 v7 M6 M7, e = .returned (.tuple #[v6, v7]) ∧ RL v6 (allOf n c l) M6 ∧ BN w W' g gr n R c xs (M6 ++ (M7 ++ L)) := by
  obtain ⟨X, h1, up⟩ := h.doc
  refine (rall_any h1 l hlen).mono ?_
  rintro e W' ⟨v6, v7, M6, M7, rfl, r6, r7, h2⟩
  rw [hR.all] at r6
  have := up W' xs (M6 ++ M7) (by rw [List.append_assoc]; exact h2)
  rw [List.append_assoc] at this
  exact ⟨v6, v7, M6, M7, rfl, r6, this⟩
theorem bn30 (h : BN w W g gr n R c xs L) (l : Lk) :
    Calls Try.prog 30 #[.pointer (some ⟨gr, 0, none⟩), .agg #[.int .i64 l.a, .int .i64 l.b, .int .i64 l.d]] W fun e W' => e = .returned (.bool (hasO n l)) ∧ BN w W' g gr n R c xs L := by
  obtain ⟨X, h1, up⟩ := h.doc
  refine (rthere_rn h1 l).mono ?_
  rintro e W' ⟨rfl, h2⟩
  exact ⟨rfl, up _ _ [] h2⟩
theorem bn31 (h : BN w W g gr n R c xs L) :
    Calls Try.prog 31 #[.pointer (some ⟨g, 0, none⟩)] W fun e W' => ∃ v M, e = .returned v ∧ RL v (lsTo n c (lks n)) M ∧ BN w W' g gr n R c xs (M ++ L) := by
  obtain ⟨q, u, ps, X, h1, up⟩ := h.prog
  refine (nlinks_any h1).mono ?_
  rintro e W' ⟨v, M, rfl, hr, h2⟩
  exact ⟨v, M, rfl, hr, up _ _ _ _ _ M h2⟩
theorem bn32 (h : BN w W g gr n R c xs L) (hR : Rl n c xs) (hlen : xs.length ≤ 1000) :
    Calls Try.prog 32 #[.pointer (some ⟨gr, 0, none⟩)] W fun e W' => ∃ v M, e = .returned v ∧ RL v (lsTo n c (lks n)) M ∧ BN w W' g gr n R c xs (M ++ L) := by
  obtain ⟨X, h1, up⟩ := h.doc
  refine (rlinks_any h1 hlen).mono ?_
  rintro e W' ⟨v, M, rfl, hr, h2⟩
  rw [hR.links] at hr
  exact ⟨v, M, rfl, hr, up _ _ M h2⟩
theorem bn33 (h : BN w W g gr n R c xs L) (hR : Rl n c xs) :
    Calls Try.prog 33 #[.pointer (some ⟨g, 0, none⟩)] W fun e W' => e = .returned (.int .i64 (xs.length : Nat)) ∧ BN w W' g gr n R c xs L := by
  obtain ⟨q, u, ps, X, h1, up⟩ := h.prog
  rw [hR.sum]
  refine (nlen_any h1).mono ?_
  rintro e W' ⟨rfl, h2⟩
  exact ⟨rfl, up _ _ _ _ _ [] h2⟩
theorem bn34 (h : BN w W g gr n R c xs L) (l : Lk) :
    Calls Try.prog 34 #[.pointer (some ⟨g, 0, none⟩), .agg #[.int .i64 l.a, .int .i64 l.b, .int .i64 l.d]] W fun e W' => e = .returned (.int .i64 (roomOf n R c l)) ∧ BN w W' g gr n R c xs L := by
  obtain ⟨q, u, ps, X, h1, up⟩ := h.prog
  refine (nroom_any h1 l).mono ?_
  rintro e W' ⟨rfl, h2⟩
  exact ⟨rfl, up _ _ _ _ _ [] h2⟩
theorem bn35 (h : BN w W g gr n R c xs L) (l : Lk) :
    Calls Try.prog 35 #[.pointer (some ⟨g, 0, none⟩), .agg #[.int .i64 l.a, .int .i64 l.b, .int .i64 l.d]] W fun e W' => ∃ A M, e = .returned (.slice A (allOf n c l).length (allOf n c l).length) ∧ AllV (.slice A (allOf n c l).length (allOf n c l).length) (allOf n c l) M ∧ BN w W' g gr n R c xs (M ++ L) := by
  obtain ⟨q, u, ps, X, h1, up⟩ := h.prog
  refine (nall_any h1 l).mono ?_
  rintro e W' ⟨A, M, rfl, hv, h2⟩
  exact ⟨A, M, rfl, hv, up _ _ _ _ _ M h2⟩
/-- The cells of the document's net: its room, and how many were sent. -/
theorem BN.room (h : BN w W g gr n R c xs L) : W.cell? ⟨gr, 1, none⟩ = some (.int .i64 (R : Int)) := by
  obtain ⟨X, h1, _⟩ := h.doc
  exact h1.c1
theorem BN.sent (h : BN w W g gr n R c xs L) : ∃ A p, W.cell? ⟨gr, 2, none⟩ = some (.slice A xs.length p) := by
  obtain ⟨X, ⟨_, _, v, M, hr, hs⟩, _⟩ := h.doc
  obtain ⟨A, p, rfl, _⟩ := hr.form
  exact ⟨A, p, (show At W gr 68 #[.int .i64 (n : Int), .int .i64 (R : Int), .slice A xs.length p] from hs.get 0 rfl).cell 2⟩
end
section
variable {w W : World} {g gr n R : Nat} {c : Nat → List Msg} {xs : List Sn} {L : Blks} {ops : Array Oper} {rest : List Oper} {o : Oper} {a : Act} {Q : Exit → Act → World → Prop}
theorem wpList_alloc_bn (h : BN w W g gr n R c xs L) (ty : TypeId) (ho : o.op = .alloc ty) (hw : Region.wanted o (yielded ops a.tmps) = true) (v : Value) (arr : Array Value) (hz : ∀ W, (zeroValue ty).run Try.prog W = .ok v W) (hx : v.cells = arr)
    (k : ∀ W', BN w W' g gr n R c xs ((W.heap.size, C ty arr) :: L) → wpList Try.prog ops Q rest (a.put o.dst (.pointer (some ⟨W.heap.size, 0, none⟩))) W') : wpList Try.prog ops Q (o :: rest) a W := by
  obtain ⟨q, u, ps, X, h1, up⟩ := h.prog
  exact wpList_alloc_nx h1 ty ho hw v arr hz hx fun W' h' => k W' (up _ _ _ _ _ [_] h')
theorem wpList_store_bn {b : Nat} {t : TypeId} {arr arr' : Array Value} (h : BN w W g gr n R c xs L) (i : Nat) (hi : L[i]? = some (b, C t arr)) (ty : TypeId) (x y : Operand) (ho : o.op = .store ty x y) (hw : Region.wanted o (yielded ops a.tmps) = true)
    (hx : a.eval x = .pointer (some ⟨b, 0, none⟩)) (hy : a.eval y = .agg arr') (hs : (Try.prog.info? ty).map (·.size) = some arr'.size) (hl : arr'.size = arr.size) (h1 : arr'.all (·.oneCell') = true)
    (k : ∀ W', BN w W' g gr n R c xs (L.set i (b, C t arr')) → wpList Try.prog ops Q rest (a.put o.dst undef) W') : wpList Try.prog ops Q (o :: rest) a W := by
  obtain ⟨q, u, ps, Y, h2, up⟩ := h
  refine wpList_store_nx (t := t) h2 (Y.length + i) (by rw [List.getElem?_append_right (by omega), Nat.add_sub_cancel_left]; exact hi) ty x y ho hw hx hy hs hl h1 fun W' h' => k W' ⟨q, u, ps, Y, ?_, up⟩
  rwa [List.set_append_right _ _ (by omega), Nat.add_sub_cancel_left] at h'
end
end Go.Proofs.Ytacjdeppigdbjaa
