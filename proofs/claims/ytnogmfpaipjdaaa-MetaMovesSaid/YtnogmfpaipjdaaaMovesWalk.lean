/- The law on items that are moved. No statement is proved here. -/
import Derived.Test.YtnogmfpaipjdaaaLawK
import Derived.Deep.CutRange
import Derived.Deep.Cut
namespace Go.Proofs.Ytnogmfpaipjdaaa
open Go.RowKit
open P (Pl right hasI vals fitP)
set_option maxRecDepth 20000
set_option linter.unusedVariables false
set_option linter.unusedSimpArgs false

/-- What is cached, behind a move. -/
def upd (x : It) (f k : Int) (c : Cd) : Cd := if c.it = x ∧ f = 0 then { c with bk := k } else c
theorem upd_it (x : It) (f k : Int) (c : Cd) : (upd x f k c).it = c.it := by unfold upd; split <;> rfl
theorem rem_perm {p : Pl} {l : List Cd} {x : It} {c : Cd} (I : Inv p l) (h : findC l x = some c) : l.Perm (remL l x ++ [c]) := by
  obtain ⟨h1, h2⟩ := findC_some h
  have hp := (List.filter_append_perm (fun c : Cd => !decide (c.it = x)) l).symm
  have e : l.filter (fun a => !(!decide (a.it = x))) = [c] := by
    have hn := I.nd
    clear hp h I
    induction l with
    | nil => cases h1
    | cons y l ih =>
      rw [List.map_cons, List.nodup_cons] at hn
      rcases List.mem_cons.1 h1 with e1 | h3
      · rw [List.filter_cons, if_pos (by rw [← e1]; simpa using h2), List.filter_eq_nil_iff.2, e1]
        intro d hd
        have : d.it ≠ x := fun e => hn.1 (List.mem_map.2 ⟨d, hd, by rw [e, ← h2, e1]⟩)
        simpa using this
      · have : y.it ≠ x := fun e => hn.1 (List.mem_map.2 ⟨c, h3, by rw [e, h2]⟩)
        rw [List.filter_cons, if_neg (by simpa using this)]
        exact ih h3 hn.2
  rw [e] at hp
  exact hp
theorem upd_rem (l : List Cd) (x : It) (f k : Int) : (remL l x).map (upd x f k) = remL l x := by
  have : ∀ c ∈ remL l x, upd x f k c = c := fun c hc => by
    unfold upd
    rw [if_neg (fun h => remL_not l x c hc h.1)]
  rw [List.map_congr_left this]
  simp
section
variable {ops : Array Oper} {a : Act} {o : Oper}
/-- Two structs compared, in a region that draws its order. -/
theorem yields_cmp {S : World → Prop} {op : BinOp} {t t2 : TypeId} {xs ys : Array Value} {v : Value} (x y : Operand) (ho : o.op = .binOp op t x y t2) (hw : Region.wanted o (yielded ops a.tmps) = true)
    (hx : a.eval x = .agg xs) (hy : a.eval y = .agg ys) (hm : Try.prog.eqGuardType Try.prog.depth t = false) (h : ∀ W, (binOp op t (.agg xs) (.agg ys)).run Try.prog W = .ok v W) : YieldsIf Try.prog ops S o v a :=
  .inl ⟨hw, fun W _ => by
    unfold execOp
    simp only [ho, hx, hy, Sem.run_bind, @run_eqGuard_agg _ _ op t x y xs ys hm, Sem.run_pure, Result.andThen_ok, h W]⟩
end
section
variable {p : Pl} {l ys : List Cd} {x : It} {k : Int}
/-- A move leaves all others. -/
theorem mov_all (I : Inv p l) (h : IsAll l ys) : IsAll (movL p l x k) (ys.map (upd x (movK p l x k) k)) := by
  refine ⟨(h.1.map _).trans ?_, ?_⟩
  · by_cases h0 : movK p l x k = 0
    · cases hf : findC l x with
      | none => unfold movK at h0; rw [hf] at h0; cases hb : hasB p k <;> rw [hb] at h0 <;> simp at h0
      | some c =>
        have e : movL p l x k = remL l x ++ [{ c with bk := k }] := by
          unfold movL
          rw [hf]
          simp only
          rw [if_pos h0]
          unfold useL
          simp only
          rw [(findC_some hf).2]
        rw [e]
        refine ((rem_perm I hf).map _).trans ?_
        rw [List.map_append, upd_rem]
        refine List.Perm.append_left _ ?_
        simp only [List.map_cons, List.map_nil]
        unfold upd
        rw [if_pos ⟨(findC_some hf).2, h0⟩]
    · have e : movL p l x k = l := by
        unfold movL
        cases findC l x with
        | none => rfl
        | some c => simp only; rw [if_neg h0]
      have e2 : l.map (upd x (movK p l x k) k) = l := by
        have : ∀ c ∈ l, upd x (movK p l x k) k c = c := fun c hc => by unfold upd; rw [if_neg (fun h => h0 h.2)]
        rw [List.map_congr_left this]
        simp
      rw [e, e2]
  · rw [List.pairwise_map]
    exact h.2.imp fun hab => by rw [upd_it, upd_it]; exact hab
theorem mov_get (I : Inv p l) : (findC (movL p l x k) x).isSome = (findC l x).isSome ∧ (getC (movL p l x k) x).bs = (getC l x).bs ∧ (getC (movL p l x k) x).dt = (getC l x).dt := by
  cases hf : findC l x with
  | none =>
    have e : movL p l x k = l := by unfold movL; rw [hf]
    rw [e, hf]
    exact ⟨rfl, rfl, rfl⟩
  | some c =>
    obtain ⟨h1, h2⟩ := findC_some hf
    by_cases h0 : movK p l x k = 0
    · have I2 := I.mov (x := x) k
      have e : movL p l x k = remL l x ++ [{ c with bk := k }] := by
        unfold movL
        rw [hf]
        simp only
        rw [if_pos h0]
        unfold useL
        simp only
        rw [h2]
      have hm : ({ c with bk := k } : Cd) ∈ movL p l x k := by rw [e]; simp
      have hf2 := findC_mem I2.nd hm
      simp only at hf2
      rw [h2] at hf2
      unfold getC
      rw [hf2, hf]
      exact ⟨rfl, rfl, rfl⟩
    · have e : movL p l x k = l := by unfold movL; rw [hf]; simp only; rw [if_neg h0]
      rw [e, hf]
      exact ⟨rfl, rfl, rfl⟩
theorem mov_no (h : findC l x = none) : movK p l x k ≠ 0 := by
  unfold movK
  rw [h]
  cases hasB p k <;> simp
end
theorem all_strict {l ys : List Cd} (h : IsAll l ys) {j : Nat} {u z : Cd} (hu : ys[j]? = some u) (hz : ys[j + 1]? = some z) : z.it ≠ u.it := by
  obtain ⟨h1, e1⟩ := List.getElem?_eq_some_iff.1 hu
  obtain ⟨h2, e2⟩ := List.getElem?_eq_some_iff.1 hz
  have := List.pairwise_iff_getElem.1 h.2 j (j + 1) h1 h2 (by omega)
  rw [e1, e2] at this
  unfold ltI at this
  intro e
  rw [e] at this
  omega
def MvRel (w : World) (q : Pl) (g b pb xb n : Nat) (x : It) (i : Value) (wr : World) : Prop :=
  ∃ (k : Nat) (l : List Cd), k ≤ n ∧ i = .int .i64 (k : Nat) ∧ Inv q l ∧ l.length ≤ k ∧ MC w wr g b q l [(xb, C 42 x.arr), (pb, C 28 q.arr)]
def M2Rel (w : World) (q : Pl) (g b m : Nat) (l : List Cd) (N : Blks) (i : Value) (wr : World) : Prop :=
  ∃ k : Nat, k ≤ m ∧ i = .int .i64 (k : Nat) ∧ MC w wr g b q l N
theorem WC.drew1 {w W : World} {g b : Nat} {p : Pl} {c : Cs} {L : Blks} (h : WC w W g b p c L) : WC w W.drew g b p c L := h.drewN 1
attribute [local irreducible] It.arr Cd.arr Cl.arr zclA lnA
set_option maxHeartbeats 8000000 in
theorem moves_walk (p : Pl) (A : Option Addr) (n c : Nat) (es : List Cl) (x : It) (k : Int) (w : World) (he : ERow w w.heap.size A n c es) :
    Calls Try.prog 4 #[.agg p.arr, .slice A n c, .agg x.arr, .int .i64 k] w fun e w' => e = .returned (.bool true) ∧ Below w.heap.size w w' := by
  have SK := Lib.hid (fun V => speaks_any V)
  have FT := Lib.hid (fun V => P.refFit_any p V)
  have hq := P.fit_right p
  generalize fitP p = q at *
  have NW := Lib.hid (fun V L (h : St w V L) => new_any h hq)
  have GR := Lib.hid (fun V (hb : Below w.heap.size w V) => great_any A n c es V ((he.below hb).wider hb.size))
  have hl := Lib.hid he.len
  have mx := he.max
  have HE := Lib.hid he
  have I0 := Lib.hid (Inv.nil hq)
  have S0 := St.nil w
  clear he
  cases hG : grt es with
  | true =>
    rw [hG] at GR
    clear hG
    go_enter Try.func4, Try.ntmps4
    go_wp2_with (first
      | (refine wpList_box_st S0 28 _ rfl rfl p.arr rfl ?_; clear S0; intro W1 h1 _ _; replace h1 := h1.front; generalize hpb : w.heap.size = pb at h1 ⊢)
      | (have _ := h1; refine wpList_box_it h1 x _ rfl rfl rfl ?_; clear h1; intro W2 h2 _; generalize W1.heap.size = xb at *)
      | (have _ := h2; go_at_call 5; refine (SK.out _).mono ?_; rintro e W3 ⟨rfl, hb⟩; have h3 := h2.call hb; clear h2 hb SK; have q1 := load_plA (h3.get 1 rfl))
      | (have _ := q1; refine wpList_load_run q1 _ rfl rfl rfl ?_; clear q1)
      | (have _ := h3; go_at_call 26; refine (FT.out _).mono ?_; rintro e W4 ⟨rfl, hb⟩; have h4 := h3.call hb; clear h3 hb FT)
      | (have _ := h4; refine wpList_store_st (arr' := q.arr) h4 1 rfl 28 _ _ rfl rfl rfl rfl (by rw [q.arr_size]; exact sz28) (by rw [q.arr_size, p.arr_size]) q.arr_all ?_; clear h4; intro W5 h5 _; have q5 := load_plA (h5.get 1 rfl))
      | (have _ := q5; refine wpList_load_run q5 _ rfl rfl rfl ?_; clear q5)
      | (have _ := h5; go_at_call 6; refine (NW.out _ _ h5).mono ?_; clear h5; rintro e W6 ⟨g, b, rfl, h6⟩)
      | (have _ := h6; go_at_call 8; refine (GR.out _ h6.bel).mono ?_; rintro e W7 ⟨rfl, hb⟩; have h7 := (WC.call h6 hb).st; clear h6 hb))
    go_ret
    exact ⟨rfl, h7.bel⟩
  | false =>
  rw [hG] at GR
  have n80 : n ≤ 80 := by
    unfold grt at hG
    rw [Bool.or_eq_false_iff, decide_eq_false_iff_not] at hG
    have := hl.out
    omega
  clear hG
  go_enter Try.func4, Try.ntmps4
  go_wp2_with (first
    | (refine wpList_box_st S0 28 _ rfl rfl p.arr rfl ?_; clear S0; intro W1 h1 _ _; replace h1 := h1.front; generalize hpb : w.heap.size = pb at h1 ⊢)
    | (have _ := h1; refine wpList_box_it h1 x _ rfl rfl rfl ?_; clear h1; intro W2 h2 _; generalize W1.heap.size = xb at *)
    | (have _ := h2; go_at_call 5; refine (SK.out _).mono ?_; rintro e W3 ⟨rfl, hb⟩; have h3 := h2.call hb; clear h2 hb SK; have q1 := load_plA (h3.get 1 rfl))
    | (have _ := q1; refine wpList_load_run q1 _ rfl rfl rfl ?_; clear q1)
    | (have _ := h3; go_at_call 26; refine (FT.out _).mono ?_; rintro e W4 ⟨rfl, hb⟩; have h4 := h3.call hb; clear h3 hb FT)
    | (have _ := h4; refine wpList_store_st (arr' := q.arr) h4 1 rfl 28 _ _ rfl rfl rfl rfl (by rw [q.arr_size]; exact sz28) (by rw [q.arr_size, p.arr_size]) q.arr_all ?_; clear h4; intro W5 h5 _; have q5 := load_plA (h5.get 1 rfl))
    | (have _ := q5; refine wpList_load_run q5 _ rfl rfl rfl ?_; clear q5)
    | (have _ := h5; go_at_call 6; refine (NW.out _ _ h5).mono ?_; clear h5; rintro e W6 ⟨g, b, rfl, h6⟩)
    | (have _ := h6; go_at_call 8; refine (GR.out _ h6.bel).mono ?_; rintro e W7 ⟨rfl, hb⟩; have h7 := WC.call h6 hb; clear h6 hb))
  clear GR NW hpb
  go_loopw [49] (MvRel w q g b pb xb n x) (fun i _ => n - (intOf i).toNat)
  case atStart => exact ⟨0, [], by omega, rfl, I0.out, by simp, h7⟩
  case round =>
    obtain ⟨j, l, hj, rfl, Il, ll, h4⟩ := hrel
    clear h7
    by_cases hlt : j < n
    · have g1 : ((j : Int) < (n : Int)) = True := eq_true (by omega)
      have b1 : j < es.length := by have := hl.out; omega
      have hx : es[j]? = some es[j] := List.getElem?_eq_getElem b1
      generalize es[j] = e at *
      clear b1
      obtain ⟨bb, o, rfl, hb2, r⟩ := HE.out.at_ j e hx
      have r' := load_clM (rangeAt_keep r (h4.bel.block _ hb2))
      replace r' : (loadVar 47 ⟨bb, o + j * 37, none⟩).run Try.prog wr = .ok (.agg e.arr) wr := r'
      have PU := Lib.hid (fun V L (h : MC w V g b q l L) => put_any h Il e.bk e.it e.bs e.hl (by omega))
      have I2 := Il.put (c := ⟨e.it, e.bk, e.bs, false, e.hl⟩) (x := e.it) (b := e.bk) rfl rfl
      have l2len : (putL q l e.bk e.it ⟨e.it, e.bk, e.bs, false, e.hl⟩).length ≤ j + 1 := Nat.le_trans (putL_len _) (by omega)
      generalize putL q l e.bk e.it ⟨e.it, e.bk, e.bs, false, e.hl⟩ = l2 at *
      generalize putK q l e.bk e.it = K1 at *
      clear r hb2 hx
      by_cases ho : e.o = 1
      · have q6 : (e.o == 1) = true := by simpa using ho
        have q7 : (e.o = 1) = True := eq_true ho
        have UP := Lib.hid (fun V L (h : MC w V g b q l2 L) => upd_any h I2 e.it e.bs e.hl (by omega))
        have I3 := Lib.hid (I2.upd (x := e.it) e.bs e.hl)
        have l3len := Lib.hid (Nat.le_trans (updL_len (x := e.it) I2 e.bs e.hl) l2len)
        generalize updL l2 e.it e.bs e.hl = l3 at *
        generalize drpK l2 e.it = K2 at *
        replace Il := Lib.hid Il
        replace I2 := Lib.hid I2
        go_wp2_with (first
        | (refine wpList_load_run r' _ rfl rfl rfl ?_; clear r')
        | (have _ := h4; refine wpList_alloc_clW h4 rfl rfl ?_; clear h4; intro X1 h5; generalize wr.heap.size = cb at *)
        | (have _ := h5; refine wpList_store_clW h5 0 e rfl _ _ rfl rfl rfl rfl ?_; clear h5; intro X2 h6; have CB := ClB.of (h6.at2 0 rfl); have d0 := CB.c0; have d1 := CB.c1; have q2 := CB.it; have q3 := CB.ln; clear CB)
        | (have _ := q2; refine wpList_loadIt (e := e.it) q2 _ rfl rfl rfl ?_; clear q2)
        | (have _ := q3; refine wpList_loadLn e.hl q3 _ rfl rfl rfl ?_; clear q3)
        | (have _ := h6; go_at_call 9; refine (PU.out _ _ h6).mono ?_; clear h6; rintro e2 X3 ⟨rfl, h7⟩; have CB := ClB.of (h7.at2 0 rfl); have d0 := CB.c0; have q2 := CB.it; have q3 := CB.ln; clear CB)
        | (have _ := h7; go_at_call 11; refine (UP.out _ _ h7).mono ?_; clear h7; rintro e3 X4 ⟨rfl, h8⟩))
        go_roundw
        case rel => exact ⟨j + 1, l3, by omega, by go_num, I3.out, l3len.out, h8.tail⟩
        case measure => simp [intOf]; omega
      · have q6 : (e.o == 1) = false := by simpa using ho
        have q7 : (e.o = 1) = False := eq_false ho
        replace Il := Lib.hid Il
        replace I2 := Lib.hid I2
        replace l2len := Lib.hid l2len
        go_wp2_with (first
        | (refine wpList_load_run r' _ rfl rfl rfl ?_; clear r')
        | (have _ := h4; refine wpList_alloc_clW h4 rfl rfl ?_; clear h4; intro X1 h5; generalize wr.heap.size = cb at *)
        | (have _ := h5; refine wpList_store_clW h5 0 e rfl _ _ rfl rfl rfl rfl ?_; clear h5; intro X2 h6; have CB := ClB.of (h6.at2 0 rfl); have d0 := CB.c0; have d1 := CB.c1; have q2 := CB.it; have q3 := CB.ln; clear CB)
        | (have _ := q2; refine wpList_loadIt (e := e.it) q2 _ rfl rfl rfl ?_; clear q2)
        | (have _ := q3; refine wpList_loadLn e.hl q3 _ rfl rfl rfl ?_; clear q3)
        | (have _ := h6; go_at_call 9; refine (PU.out _ _ h6).mono ?_; clear h6; rintro e2 X3 ⟨rfl, h7⟩; have CB := ClB.of (h7.at2 0 rfl); have d0 := CB.c0; have q2 := CB.it; have q3 := CB.ln; clear CB))
        go_roundw
        case rel => exact ⟨j + 1, l2, by omega, by go_num, I2.out, l2len.out, h7.tail⟩
        case measure => simp [intOf]; omega
    · obtain rfl : j = n := by omega
      have g1 : ((j : Int) < (j : Int)) = False := eq_false (by omega)
      have AL := Lib.hid (fun V L (h : MC w V g b q l L) => all_any h Il (by omega))
      have GE := Lib.hid (fun V L (h : MC w V g b q l L) => get_any h Il x)
      have MV := Lib.hid (fun V L (h : MC w V g b q l L) => mov_any h Il x k (by omega))
      have I1 := Il.mov (x := x) k
      have l1n : (movL q l x k).length ≤ 1000 := Nat.le_trans (movL_len Il k) (by omega)
      have AL2 := Lib.hid (fun V L (h : MC w V g b q (movL q l x k) L) => all_any h I1 l1n)
      have GE2 := Lib.hid (fun V L (h : MC w V g b q (movL q l x k) L) => get_any h I1 x)
      have MA := Lib.hid (fun ys (h : IsAll l ys) => mov_all (x := x) (k := k) Il h)
      have MG := mov_get (x := x) (k := k) Il
      have MN := Lib.hid (fun h => mov_no (p := q) (l := l) (x := x) (k := k) h)
      have LQ := Lib.hid (fun ys (h : IsAll l ys) => show ys.length ≤ 80 by have := h.1.length_eq; omega)
      rw [MG.1] at GE2
      replace MN := Lib.hid (fun (h : (findC l x).isSome = false) => MN.out (by cases hq : findC l x with | none => rfl | some c => rw [hq] at h; cases h))
      have MG2 := Lib.hid MG.2
      clear MG I1 l1n Il ll
      generalize getC (movL q l x k) x = Z2 at *
      generalize movL q l x k = l1 at *
      generalize movK q l x k = F at *
      generalize getC l x = Z at *
      generalize (findC l x).isSome = B at *
      go_upto_region 18 with (first
        | (have _ := h4; go_at_call 24; refine (AL.out _ _ h4).mono ?_; clear AL; rintro e1 X1 ⟨v1, M1, ys, rfl, hr1, hA, hst⟩; have h5 := WC.join h4 hst; clear h4 hst; have q1 := at_it (h5.st.at_ (xb, C 42 x.arr) (by simp)))
        | (have _ := q1; refine wpList_loadIt (e := x) q1 _ rfl rfl rfl ?_; clear q1)
        | (have _ := h5; go_at_call 19; refine (GE.out _ _ h5).mono ?_; clear GE; rintro e2 X2 ⟨rfl, hb2⟩; have h6 := WC.call h5 hb2; clear h5 hb2)
        | (have _ := h6; refine wpList_alloc_cdW h6 rfl rfl ?_; clear h6; intro X3 h7; generalize X2.heap.size = ob at *)
        | (have _ := h7; refine wpList_store_cdW h7 0 Z rfl _ _ rfl rfl rfl rfl ?_; clear h7; intro X4 h8; have q4 := at_it (h8.st.at_ (xb, C 42 x.arr) (by simp)))
        | (have _ := q4; refine wpList_loadIt (e := x) q4 _ rfl rfl rfl ?_; clear q4)
        | (have _ := h8; go_at_call 13; refine (MV.out _ _ h8).mono ?_; clear h8 MV; rintro e5 X5 ⟨rfl, h9⟩)
        | (have _ := h9; go_at_call 24; refine (AL2.out _ _ h9).mono ?_; clear AL2; rintro e6 X6 ⟨v2, M2, zs, rfl, hr2, hA2, hst⟩; have h10 := WC.join h9 hst; clear h9 hst))
      have ez : zs = ys.map (upd x F k) := hA2.uniq (MA.out ys hA)
      obtain ⟨A1, c1, rfl, _⟩ := hr1.form
      obtain ⟨A2, cz, rfl, _⟩ := hr2.form
      have el : zs.length = ys.length := by rw [ez]; simp
      have m80 := LQ.out ys hA
      have ROW1 := Lib.hid (fun V (h : MC w V g b q l1 (M2 ++ ((ob, C 59 Z.arr) :: (M1 ++ [(xb, C 42 x.arr), (pb, C 28 q.arr)])))) => hr1.row (L := [(xb, C 42 x.arr), (pb, C 28 q.arr)]) (h.st.sub ((List.sublist_cons_self _ _).trans (List.sublist_append_right M2 _))) rfl)
      have ROW2 := Lib.hid (fun V (h : MC w V g b q l1 (M2 ++ ((ob, C 59 Z.arr) :: (M1 ++ [(xb, C 42 x.arr), (pb, C 28 q.arr)])))) => hr2.row (L := ((ob, C 59 Z.arr) :: (M1 ++ [(xb, C 42 x.arr), (pb, C 28 q.arr)]))) h.st rfl)
      have XB : Hid (∀ V, MC w V g b q l1 (M2 ++ ((ob, C 59 Z.arr) :: (M1 ++ [(xb, C 42 x.arr), (pb, C 28 q.arr)]))) → V.rangeAt xb 0 (Elt.cs x) ∧ At V ob 59 Z.arr) := fun V h => ⟨at_it (h.st.at_ (xb, C 42 x.arr) (by simp)), h.st.at_ (ob, C 59 Z.arr) (by simp)⟩
      replace h10 : MC w _ g b q l1 (M2 ++ ((ob, C 59 Z.arr) :: (M1 ++ [(xb, C 42 x.arr), (pb, C 28 q.arr)]))) := h10
      generalize hN : (M2 ++ ((ob, C 59 Z.arr) :: (M1 ++ [(xb, C 42 x.arr), (pb, C 28 q.arr)]))) = N at *
      rw [el] at *
      have EZ := Lib.hid (fun i y (hy : ys[i]? = some y) => show zs[i]? = some (upd x F k y) by rw [ez, List.getElem?_map, hy]; rfl)
      have ST := Lib.hid (fun j u z => all_strict hA2 (j := j) (u := u) (z := z))
      replace el := Lib.hid el
      have GY := Lib.hid (fun i (h : i < ys.length) => show ∃ y, ys[i]? = some y from ⟨_, List.getElem?_eq_getElem h⟩)
      clear hr1 hr2 hA hA2 hN ez MA LQ
      generalize ys.length = m at *
      have nf : (B = false ∧ F ≠ 0) ∨ B = true := by
        cases B with
        | false => exact .inl ⟨rfl, MN.out rfl⟩
        | true => exact .inr rfl
      replace MN := Lib.hid nf
      clear nf
      try simp only [Act.put, List.getElem_toArray, List.getElem_cons_succ, List.getElem_cons_zero, List.setIfInBounds_toArray, List.set_cons_zero, List.set_cons_succ]
      go_cut [97] from 85 to 97 (fun s97 wx => s97 = .bool false ∧ MC w wx g b q l1 N)
      case first =>
        rcases MN.out with ⟨rfl, hF⟩ | rfl
        · have q1 : (F == 0) = false := by simpa using hF
          have q2 : (F = 0) = False := eq_false hF
          go_wp2
          go_meet
          exact ⟨rfl, h10⟩
        · go_wp2
          go_meet
          exact ⟨rfl, h10⟩
      case rest =>
      obtain ⟨rfl, h11⟩ := hcut
      clear h10
      go_wp2
      go_loopw [100] (M2Rel w q g b m l1 N) (fun i _ => m - (intOf i).toNat)
      case atStart => exact ⟨0, by omega, rfl, h11⟩
      case round =>
        obtain ⟨i, hi, rfl, h4⟩ := hrel
        clear h11
        by_cases him : i < m
        · have g2 : ((i : Int) < (m : Int)) = True := eq_true (by omega)
          obtain ⟨y, hy⟩ := GY.out i him
          obtain ⟨bb, o, rfl, _, r1⟩ := (ROW1.out _ h4).at_ i y hy
          replace r1 : wr.rangeAt bb (o + i * 36) (Elt.cs y) := r1
          obtain ⟨z, hzu⟩ : ∃ z, z = upd x F k y := ⟨_, rfl⟩
          have hz := Lib.hid (show zs[i]? = some z by rw [hzu]; exact EZ.out i y hy)
          have NQ := Lib.hid (fun V => show (binOp .neq 59 (.agg z.arr) (.agg z.arr)).run Try.prog V = .ok (.bool false) V from by rw [neq_cd, decide_eq_true rfl]; rfl)
          have i80 : i ≤ 80 := by omega
          replace hy := Lib.hid hy
          obtain ⟨bz, oz, rfl, _, _⟩ := (ROW2.out _ h4).at_ i z hz.out
          have EI := fun V => eql_it y.it x V
          by_cases hyx : y.it = x
          · rw [decide_eq_true hyx] at EI
            by_cases hF : F = 0
            · have EU := Lib.hid (show z = { y with bk := k } by rw [hzu]; unfold upd; rw [if_pos ⟨hyx, hF⟩])
              have q5 : (F == 0) = true := by simpa using hF
              have q6 : (F = 0) = True := eq_true hF
              have hF2 := Lib.hid hF
              replace hyx := Lib.hid hyx
              clear hzu hF
              go_wp2_with (first
                | (refine wpList_loadCd (e := y) r1 _ rfl rfl rfl ?_; clear r1)
                | (have _ := h4; refine wpList_alloc_cdW h4 rfl rfl ?_; clear h4; intro Y1 h5; generalize wr.heap.size = wb at *)
                | (have _ := h5; refine wpList_store_cdW h5 0 y rfl _ _ rfl rfl rfl rfl ?_; clear h5; intro Y2 h6; have q1 := (range_it (at_cd (h6.at2 0 rfl)) : World.rangeAt _ wb 0 (Elt.cs y.it)); have q2 := (XB.out _ h6.tail).1)
                | (have _ := q1; refine wpList_loadIt (e := y.it) q1 _ rfl rfl rfl ?_; clear q1)
                | (have _ := q2; refine wpList_loadIt (e := x) q2 _ rfl rfl rfl ?_; clear q2)
                | (have _ := h6; refine wpList_store_bkW h6 0 y rfl k _ _ rfl rfl rfl rfl ?_; clear h6; intro Y3 h7))
              replace h7 : MC w Y3 g b q l1 ((wb, C 59 z.arr) :: N) := by rw [EU.out]; exact h7
              by_cases hi0 : i = 0
              · have q8 : ((i : Int) > 0) = False := eq_false (by omega)
                have q9 : ((0 : Int) < (i : Int)) = False := eq_false (by omega)
                have q10 : (0 < i) = False := eq_false (by omega)
                replace hi0 := Lib.hid hi0
                have h8 := WC.drew1 h7
                obtain ⟨bz', oz', e9, _, r2⟩ := (ROW2.out _ h8.tail).at_ i z hz.out
                injection e9 with e9
                injection e9 with e9 e10 _
                subst e9; subst e10
                refine wp_region_held_drew (S := fun W => (loadVar 59 ⟨bz, oz + i * 36, none⟩).run Try.prog W = .ok (.agg z.arr) W ∧ (loadVar 59 ⟨wb, 0, none⟩).run Try.prog W = .ok (.agg z.arr) W) (by kernel_rfl) ⟨load_cd r2, load_cdA (h8.at2 0 rfl)⟩ (fun hS0 => ?_)
                have H0 := Lib.hid hS0
                clear hS0
                generalize World.drew _ = V0 at *
                refine wpAnyH_take (i := 0) (v := .slice (some ⟨bz, oz, none⟩) m cz) rfl (by kernel_rfl) (by kernel_rfl) (by kernel_rfl) (fun _ _ _ h => h) (Or.inl ⟨by rfl, fun W hW => by clear hW; go_simp⟩) H0.out ?_
                try simp only [Act.put, List.getElem_toArray, List.getElem_cons_succ, List.getElem_cons_zero, List.setIfInBounds_toArray, List.set_cons_zero, List.set_cons_succ]
                refine wpAnyH_take (i := 1) (v := .int .i64 (i : Int)) rfl (by kernel_rfl) (by kernel_rfl) (by kernel_rfl) (fun _ _ _ h => h) (Or.inl ⟨by rfl, fun W hW => by clear hW; go_simp⟩) H0.out ?_
                try simp only [Act.put, List.getElem_toArray, List.getElem_cons_succ, List.getElem_cons_zero, List.setIfInBounds_toArray, List.set_cons_zero, List.set_cons_succ]
                refine wpAnyH_take (i := 2) (v := .pointer (some ⟨bz, oz + i * 36, none⟩)) rfl (by kernel_rfl) (by kernel_rfl) (by kernel_rfl) (fun _ _ _ h => h) (Or.inl ⟨by rfl, fun W hW => by clear hW; go_simp⟩) H0.out ?_
                try simp only [Act.put, List.getElem_toArray, List.getElem_cons_succ, List.getElem_cons_zero, List.setIfInBounds_toArray, List.set_cons_zero, List.set_cons_succ]
                refine wpAnyH_take (i := 3) (v := .agg z.arr) rfl (by kernel_rfl) (by kernel_rfl) (by kernel_rfl) (fun _ _ _ h => h) (yields_run _ rfl (by rfl) rfl (fun W hW => hW.1)) H0.out ?_
                try simp only [Act.put, List.getElem_toArray, List.getElem_cons_succ, List.getElem_cons_zero, List.setIfInBounds_toArray, List.set_cons_zero, List.set_cons_succ]
                refine wpAnyH_take (i := 4) (v := .agg z.arr) rfl (by kernel_rfl) (by kernel_rfl) (by kernel_rfl) (fun _ _ _ h => h) (yields_run _ rfl (by rfl) rfl (fun W hW => hW.2)) H0.out ?_
                try simp only [Act.put, List.getElem_toArray, List.getElem_cons_succ, List.getElem_cons_zero, List.setIfInBounds_toArray, List.set_cons_zero, List.set_cons_succ]
                refine wpAnyH_take (i := 5) (v := .bool false) rfl (by kernel_rfl) (by kernel_rfl) (by kernel_rfl) (fun _ _ _ h => h) (yields_cmp _ _ rfl (by rfl) rfl rfl (by kernel_rfl) NQ.out) H0.out ?_
                try simp only [Act.put, List.getElem_toArray, List.getElem_cons_succ, List.getElem_cons_zero, List.setIfInBounds_toArray, List.set_cons_zero, List.set_cons_succ]
                refine wpAnyH_take (i := 6) (v := .bool false) rfl (by kernel_rfl) (by kernel_rfl) (by kernel_rfl) (fun _ _ _ h => h) (Or.inl ⟨by rfl, fun W hW => by clear hW; go_simp⟩) H0.out ?_
                try simp only [Act.put, List.getElem_toArray, List.getElem_cons_succ, List.getElem_cons_zero, List.setIfInBounds_toArray, List.set_cons_zero, List.set_cons_succ]
                refine wpAnyH_take (i := 7) (v := .int .i64 (i : Int)) rfl (by kernel_rfl) (by kernel_rfl) (by kernel_rfl) (fun _ _ _ h => h) (Or.inl ⟨by rfl, fun W hW => by clear hW; go_simp⟩) H0.out ?_
                try simp only [Act.put, List.getElem_toArray, List.getElem_cons_succ, List.getElem_cons_zero, List.setIfInBounds_toArray, List.set_cons_zero, List.set_cons_succ]
                refine wpAnyH_take (i := 8) (v := .bool false) rfl (by kernel_rfl) (by kernel_rfl) (by kernel_rfl) (fun _ _ _ h => h) (Or.inl ⟨by rfl, fun W hW => by clear hW; go_simp⟩) H0.out ?_
                try simp only [Act.put, List.getElem_toArray, List.getElem_cons_succ, List.getElem_cons_zero, List.setIfInBounds_toArray, List.set_cons_zero, List.set_cons_succ]
                refine wpAnyH_take (i := 9) (v := .bool false) rfl (by kernel_rfl) (by kernel_rfl) (by kernel_rfl) (fun _ _ _ h => h) (Or.inl ⟨by rfl, fun W hW => by clear hW; go_simp⟩) H0.out ?_
                try simp only [Act.put, List.getElem_toArray, List.getElem_cons_succ, List.getElem_cons_zero, List.setIfInBounds_toArray, List.set_cons_zero, List.set_cons_succ]
                refine wpAnyH_take (i := 10) (v := undef) rfl (by kernel_rfl) (by kernel_rfl) (by kernel_rfl) (fun _ _ _ h => h) (Or.inr ⟨by rfl, rfl⟩) H0.out ?_
                try simp only [Act.put, List.getElem_toArray, List.getElem_cons_succ, List.getElem_cons_zero, List.setIfInBounds_toArray, List.set_cons_zero, List.set_cons_succ]
                refine wpAnyH_take (i := 11) (v := undef) rfl (by kernel_rfl) (by kernel_rfl) (by kernel_rfl) (fun _ _ _ h => h) (Or.inr ⟨by rfl, rfl⟩) H0.out ?_
                try simp only [Act.put, List.getElem_toArray, List.getElem_cons_succ, List.getElem_cons_zero, List.setIfInBounds_toArray, List.set_cons_zero, List.set_cons_succ]
                refine wpAnyH_take (i := 12) (v := undef) rfl (by kernel_rfl) (by kernel_rfl) (by kernel_rfl) (fun _ _ _ h => h) (Or.inr ⟨by rfl, rfl⟩) H0.out ?_
                try simp only [Act.put, List.getElem_toArray, List.getElem_cons_succ, List.getElem_cons_zero, List.setIfInBounds_toArray, List.set_cons_zero, List.set_cons_succ]
                refine wpAnyH_take (i := 13) (v := undef) rfl (by kernel_rfl) (by kernel_rfl) (by kernel_rfl) (fun _ _ _ h => h) (Or.inr ⟨by rfl, rfl⟩) H0.out ?_
                try simp only [Act.put, List.getElem_toArray, List.getElem_cons_succ, List.getElem_cons_zero, List.setIfInBounds_toArray, List.set_cons_zero, List.set_cons_succ]
                refine wpAnyH_take (i := 14) (v := undef) rfl (by kernel_rfl) (by kernel_rfl) (by kernel_rfl) (fun _ _ _ h => h) (Or.inr ⟨by rfl, rfl⟩) H0.out ?_
                try simp only [Act.put, List.getElem_toArray, List.getElem_cons_succ, List.getElem_cons_zero, List.setIfInBounds_toArray, List.set_cons_zero, List.set_cons_succ]
                refine wpAnyH_take (i := 15) (v := undef) rfl (by kernel_rfl) (by kernel_rfl) (by kernel_rfl) (fun _ _ _ h => h) (Or.inr ⟨by rfl, rfl⟩) H0.out ?_
                try simp only [Act.put, List.getElem_toArray, List.getElem_cons_succ, List.getElem_cons_zero, List.setIfInBounds_toArray, List.set_cons_zero, List.set_cons_succ]
                refine wpAnyH_take (i := 16) (v := undef) rfl (by kernel_rfl) (by kernel_rfl) (by kernel_rfl) (fun _ _ _ h => h) (Or.inr ⟨by rfl, rfl⟩) H0.out ?_
                try simp only [Act.put, List.getElem_toArray, List.getElem_cons_succ, List.getElem_cons_zero, List.setIfInBounds_toArray, List.set_cons_zero, List.set_cons_succ]
                refine wpAnyH_take (i := 17) (v := undef) rfl (by kernel_rfl) (by kernel_rfl) (by kernel_rfl) (fun _ _ _ h => h) (Or.inr ⟨by rfl, rfl⟩) H0.out ?_
                try simp only [Act.put, List.getElem_toArray, List.getElem_cons_succ, List.getElem_cons_zero, List.setIfInBounds_toArray, List.set_cons_zero, List.set_cons_succ]
                refine wpAnyH_take (i := 18) (v := undef) rfl (by kernel_rfl) (by kernel_rfl) (by kernel_rfl) (fun _ _ _ h => h) (Or.inr ⟨by rfl, rfl⟩) H0.out ?_
                try simp only [Act.put, List.getElem_toArray, List.getElem_cons_succ, List.getElem_cons_zero, List.setIfInBounds_toArray, List.set_cons_zero, List.set_cons_succ]
                refine wpAnyH_take (i := 19) (v := undef) rfl (by kernel_rfl) (by kernel_rfl) (by kernel_rfl) (fun _ _ _ h => h) (Or.inr ⟨by rfl, rfl⟩) H0.out ?_
                try simp only [Act.put, List.getElem_toArray, List.getElem_cons_succ, List.getElem_cons_zero, List.setIfInBounds_toArray, List.set_cons_zero, List.set_cons_succ]
                refine wpAnyH_take (i := 20) (v := undef) rfl (by kernel_rfl) (by kernel_rfl) (by kernel_rfl) (fun _ _ _ h => h) (Or.inr ⟨by rfl, rfl⟩) H0.out ?_
                try simp only [Act.put, List.getElem_toArray, List.getElem_cons_succ, List.getElem_cons_zero, List.setIfInBounds_toArray, List.set_cons_zero, List.set_cons_succ]
                refine wpAnyH_take (i := 21) (v := undef) rfl (by kernel_rfl) (by kernel_rfl) (by kernel_rfl) (fun _ _ _ h => h) (Or.inr ⟨by rfl, rfl⟩) H0.out ?_
                try simp only [Act.put, List.getElem_toArray, List.getElem_cons_succ, List.getElem_cons_zero, List.setIfInBounds_toArray, List.set_cons_zero, List.set_cons_succ]
                refine wpAnyH_take (i := 22) (v := .bool false) rfl (by kernel_rfl) (by kernel_rfl) (by kernel_rfl) (fun _ _ _ h => h) (Or.inl ⟨by rfl, fun W hW => by clear hW; go_simp⟩) H0.out ?_
                try simp only [Act.put, List.getElem_toArray, List.getElem_cons_succ, List.getElem_cons_zero, List.setIfInBounds_toArray, List.set_cons_zero, List.set_cons_succ]
                refine wpAnyH_take (i := 23) (v := .bool false) rfl (by kernel_rfl) (by kernel_rfl) (by kernel_rfl) (fun _ _ _ h => h) (Or.inl ⟨by rfl, fun W hW => by clear hW; go_simp⟩) H0.out ?_
                try simp only [Act.put, List.getElem_toArray, List.getElem_cons_succ, List.getElem_cons_zero, List.setIfInBounds_toArray, List.set_cons_zero, List.set_cons_succ]
                refine wpAnyH_done (by kernel_rfl) ?_ _
                go_wp2
                go_roundw
                case rel => exact ⟨i + 1, by omega, by go_num, h8.tail⟩
                case measure => simp [intOf]; omega

              · obtain ⟨j, hij⟩ : ∃ j, i = j + 1 := ⟨i - 1, by omega⟩
                have q8 : ((i : Int) > 0) = True := eq_true (by omega)
                have q9 : ((0 : Int) < (i : Int)) = True := eq_true (by omega)
                have q10 : (0 < i) = True := eq_true (by omega)
                have q11 : (i : Int) - 1 = (j : Int) := by omega
                have q12 : IntKind.i64.wrap (j : Int) = (j : Int) := IntWalk.i64_in _ (by omega)
                have q13 : j < m := by omega
                obtain ⟨u0, hu0⟩ := GY.out j q13
                obtain ⟨u, hu⟩ : ∃ u, zs[j]? = some u := ⟨_, EZ.out j u0 hu0⟩
                have EQ := Lib.hid (fun V => show (binOp .eql 42 (.agg z.it.arr) (.agg u.it.arr)).run Try.prog V = .ok (.bool false) V from by rw [eql_it, decide_eq_false (ST.out j u z hu (by rw [← hij]; exact hz.out))])
                replace hu := Lib.hid hu
                replace hij := Lib.hid hij
                replace hi0 := Lib.hid hi0
                clear hu0
                have h8 := WC.drew1 h7
                obtain ⟨bz', oz', e9, _, r2⟩ := (ROW2.out _ h8.tail).at_ i z hz.out
                injection e9 with e9
                injection e9 with e9 e10 _
                subst e9; subst e10
                obtain ⟨bz', oz', e9, _, r3⟩ := (ROW2.out _ h8.tail).at_ j u hu.out
                injection e9 with e9
                injection e9 with e9 e10 _
                subst e9; subst e10
                refine wp_region_held_drew (S := fun W => (loadVar 59 ⟨bz, oz + i * 36, none⟩).run Try.prog W = .ok (.agg z.arr) W ∧ (loadVar 59 ⟨wb, 0, none⟩).run Try.prog W = .ok (.agg z.arr) W ∧ (loadVar 42 ⟨bz, oz + i * 36, none⟩).run Try.prog W = .ok (.agg z.it.arr) W ∧ (loadVar 42 ⟨bz, oz + j * 36, none⟩).run Try.prog W = .ok (.agg u.it.arr) W) (by kernel_rfl) ⟨load_cd r2, load_cdA (h8.at2 0 rfl), load_it (range_it r2), load_it (range_it r3)⟩ (fun hS0 => ?_)
                have H0 := Lib.hid hS0
                clear hS0
                generalize World.drew _ = V0 at *
                refine wpAnyH_take (i := 0) (v := .slice (some ⟨bz, oz, none⟩) m cz) rfl (by kernel_rfl) (by kernel_rfl) (by kernel_rfl) (fun _ _ _ h => h) (Or.inl ⟨by rfl, fun W hW => by clear hW; go_simp⟩) H0.out ?_
                try simp only [Act.put, List.getElem_toArray, List.getElem_cons_succ, List.getElem_cons_zero, List.setIfInBounds_toArray, List.set_cons_zero, List.set_cons_succ]
                refine wpAnyH_take (i := 1) (v := .int .i64 (i : Int)) rfl (by kernel_rfl) (by kernel_rfl) (by kernel_rfl) (fun _ _ _ h => h) (Or.inl ⟨by rfl, fun W hW => by clear hW; go_simp⟩) H0.out ?_
                try simp only [Act.put, List.getElem_toArray, List.getElem_cons_succ, List.getElem_cons_zero, List.setIfInBounds_toArray, List.set_cons_zero, List.set_cons_succ]
                refine wpAnyH_take (i := 2) (v := .pointer (some ⟨bz, oz + i * 36, none⟩)) rfl (by kernel_rfl) (by kernel_rfl) (by kernel_rfl) (fun _ _ _ h => h) (Or.inl ⟨by rfl, fun W hW => by clear hW; go_simp⟩) H0.out ?_
                try simp only [Act.put, List.getElem_toArray, List.getElem_cons_succ, List.getElem_cons_zero, List.setIfInBounds_toArray, List.set_cons_zero, List.set_cons_succ]
                refine wpAnyH_take (i := 3) (v := .agg z.arr) rfl (by kernel_rfl) (by kernel_rfl) (by kernel_rfl) (fun _ _ _ h => h) (yields_run _ rfl (by rfl) rfl (fun W hW => hW.1)) H0.out ?_
                try simp only [Act.put, List.getElem_toArray, List.getElem_cons_succ, List.getElem_cons_zero, List.setIfInBounds_toArray, List.set_cons_zero, List.set_cons_succ]
                refine wpAnyH_take (i := 4) (v := .agg z.arr) rfl (by kernel_rfl) (by kernel_rfl) (by kernel_rfl) (fun _ _ _ h => h) (yields_run _ rfl (by rfl) rfl (fun W hW => hW.2.1)) H0.out ?_
                try simp only [Act.put, List.getElem_toArray, List.getElem_cons_succ, List.getElem_cons_zero, List.setIfInBounds_toArray, List.set_cons_zero, List.set_cons_succ]
                refine wpAnyH_take (i := 5) (v := .bool false) rfl (by kernel_rfl) (by kernel_rfl) (by kernel_rfl) (fun _ _ _ h => h) (yields_cmp _ _ rfl (by rfl) rfl rfl (by kernel_rfl) NQ.out) H0.out ?_
                try simp only [Act.put, List.getElem_toArray, List.getElem_cons_succ, List.getElem_cons_zero, List.setIfInBounds_toArray, List.set_cons_zero, List.set_cons_succ]
                refine wpAnyH_take (i := 6) (v := .bool false) rfl (by kernel_rfl) (by kernel_rfl) (by kernel_rfl) (fun _ _ _ h => h) (Or.inl ⟨by rfl, fun W hW => by clear hW; go_simp⟩) H0.out ?_
                try simp only [Act.put, List.getElem_toArray, List.getElem_cons_succ, List.getElem_cons_zero, List.setIfInBounds_toArray, List.set_cons_zero, List.set_cons_succ]
                refine wpAnyH_take (i := 7) (v := .int .i64 (i : Int)) rfl (by kernel_rfl) (by kernel_rfl) (by kernel_rfl) (fun _ _ _ h => h) (Or.inl ⟨by rfl, fun W hW => by clear hW; go_simp⟩) H0.out ?_
                try simp only [Act.put, List.getElem_toArray, List.getElem_cons_succ, List.getElem_cons_zero, List.setIfInBounds_toArray, List.set_cons_zero, List.set_cons_succ]
                refine wpAnyH_take (i := 8) (v := .bool true) rfl (by kernel_rfl) (by kernel_rfl) (by kernel_rfl) (fun _ _ _ h => h) (Or.inl ⟨by rfl, fun W hW => by clear hW; go_simp⟩) H0.out ?_
                try simp only [Act.put, List.getElem_toArray, List.getElem_cons_succ, List.getElem_cons_zero, List.setIfInBounds_toArray, List.set_cons_zero, List.set_cons_succ]
                refine wpAnyH_take (i := 9) (v := .bool true) rfl (by kernel_rfl) (by kernel_rfl) (by kernel_rfl) (fun _ _ _ h => h) (Or.inl ⟨by rfl, fun W hW => by clear hW; go_simp⟩) H0.out ?_
                try simp only [Act.put, List.getElem_toArray, List.getElem_cons_succ, List.getElem_cons_zero, List.setIfInBounds_toArray, List.set_cons_zero, List.set_cons_succ]
                refine wpAnyH_take (i := 10) (v := .slice (some ⟨bz, oz, none⟩) m cz) rfl (by kernel_rfl) (by kernel_rfl) (by kernel_rfl) (fun _ _ _ h => h) (Or.inl ⟨by rfl, fun W hW => by clear hW; go_simp⟩) H0.out ?_
                try simp only [Act.put, List.getElem_toArray, List.getElem_cons_succ, List.getElem_cons_zero, List.setIfInBounds_toArray, List.set_cons_zero, List.set_cons_succ]
                refine wpAnyH_take (i := 11) (v := .int .i64 (i : Int)) rfl (by kernel_rfl) (by kernel_rfl) (by kernel_rfl) (fun _ _ _ h => h) (Or.inl ⟨by rfl, fun W hW => by clear hW; go_simp⟩) H0.out ?_
                try simp only [Act.put, List.getElem_toArray, List.getElem_cons_succ, List.getElem_cons_zero, List.setIfInBounds_toArray, List.set_cons_zero, List.set_cons_succ]
                refine wpAnyH_take (i := 12) (v := .pointer (some ⟨bz, oz + i * 36, none⟩)) rfl (by kernel_rfl) (by kernel_rfl) (by kernel_rfl) (fun _ _ _ h => h) (Or.inl ⟨by rfl, fun W hW => by clear hW; go_simp⟩) H0.out ?_
                try simp only [Act.put, List.getElem_toArray, List.getElem_cons_succ, List.getElem_cons_zero, List.setIfInBounds_toArray, List.set_cons_zero, List.set_cons_succ]
                refine wpAnyH_take (i := 13) (v := .pointer (some ⟨bz, oz + i * 36, none⟩)) rfl (by kernel_rfl) (by kernel_rfl) (by kernel_rfl) (fun _ _ _ h => h) (Or.inl ⟨by rfl, fun W hW => by clear hW; go_simp⟩) H0.out ?_
                try simp only [Act.put, List.getElem_toArray, List.getElem_cons_succ, List.getElem_cons_zero, List.setIfInBounds_toArray, List.set_cons_zero, List.set_cons_succ]
                refine wpAnyH_take (i := 14) (v := .agg z.it.arr) rfl (by kernel_rfl) (by kernel_rfl) (by kernel_rfl) (fun _ _ _ h => h) (yields_run _ rfl (by rfl) rfl (fun W hW => hW.2.2.1)) H0.out ?_
                try simp only [Act.put, List.getElem_toArray, List.getElem_cons_succ, List.getElem_cons_zero, List.setIfInBounds_toArray, List.set_cons_zero, List.set_cons_succ]
                refine wpAnyH_take (i := 15) (v := .slice (some ⟨bz, oz, none⟩) m cz) rfl (by kernel_rfl) (by kernel_rfl) (by kernel_rfl) (fun _ _ _ h => h) (Or.inl ⟨by rfl, fun W hW => by clear hW; go_simp⟩) H0.out ?_
                try simp only [Act.put, List.getElem_toArray, List.getElem_cons_succ, List.getElem_cons_zero, List.setIfInBounds_toArray, List.set_cons_zero, List.set_cons_succ]
                refine wpAnyH_take (i := 16) (v := .int .i64 (i : Int)) rfl (by kernel_rfl) (by kernel_rfl) (by kernel_rfl) (fun _ _ _ h => h) (Or.inl ⟨by rfl, fun W hW => by clear hW; go_simp⟩) H0.out ?_
                try simp only [Act.put, List.getElem_toArray, List.getElem_cons_succ, List.getElem_cons_zero, List.setIfInBounds_toArray, List.set_cons_zero, List.set_cons_succ]
                refine wpAnyH_take (i := 17) (v := .int .i64 (j : Int)) rfl (by kernel_rfl) (by kernel_rfl) (by kernel_rfl) (fun _ _ _ h => h) (Or.inl ⟨by rfl, fun W hW => by clear hW; go_simp⟩) H0.out ?_
                try simp only [Act.put, List.getElem_toArray, List.getElem_cons_succ, List.getElem_cons_zero, List.setIfInBounds_toArray, List.set_cons_zero, List.set_cons_succ]
                refine wpAnyH_take (i := 18) (v := .pointer (some ⟨bz, oz + j * 36, none⟩)) rfl (by kernel_rfl) (by kernel_rfl) (by kernel_rfl) (fun _ _ _ h => h) (Or.inl ⟨by rfl, fun W hW => by clear hW; go_simp⟩) H0.out ?_
                try simp only [Act.put, List.getElem_toArray, List.getElem_cons_succ, List.getElem_cons_zero, List.setIfInBounds_toArray, List.set_cons_zero, List.set_cons_succ]
                refine wpAnyH_take (i := 19) (v := .pointer (some ⟨bz, oz + j * 36, none⟩)) rfl (by kernel_rfl) (by kernel_rfl) (by kernel_rfl) (fun _ _ _ h => h) (Or.inl ⟨by rfl, fun W hW => by clear hW; go_simp⟩) H0.out ?_
                try simp only [Act.put, List.getElem_toArray, List.getElem_cons_succ, List.getElem_cons_zero, List.setIfInBounds_toArray, List.set_cons_zero, List.set_cons_succ]
                refine wpAnyH_take (i := 20) (v := .agg u.it.arr) rfl (by kernel_rfl) (by kernel_rfl) (by kernel_rfl) (fun _ _ _ h => h) (yields_run _ rfl (by rfl) rfl (fun W hW => hW.2.2.2)) H0.out ?_
                try simp only [Act.put, List.getElem_toArray, List.getElem_cons_succ, List.getElem_cons_zero, List.setIfInBounds_toArray, List.set_cons_zero, List.set_cons_succ]
                refine wpAnyH_take (i := 21) (v := .bool false) rfl (by kernel_rfl) (by kernel_rfl) (by kernel_rfl) (fun _ _ _ h => h) (yields_cmp _ _ rfl (by rfl) rfl rfl (by kernel_rfl) EQ.out) H0.out ?_
                try simp only [Act.put, List.getElem_toArray, List.getElem_cons_succ, List.getElem_cons_zero, List.setIfInBounds_toArray, List.set_cons_zero, List.set_cons_succ]
                refine wpAnyH_take (i := 22) (v := .bool false) rfl (by kernel_rfl) (by kernel_rfl) (by kernel_rfl) (fun _ _ _ h => h) (Or.inl ⟨by rfl, fun W hW => by clear hW; go_simp⟩) H0.out ?_
                try simp only [Act.put, List.getElem_toArray, List.getElem_cons_succ, List.getElem_cons_zero, List.setIfInBounds_toArray, List.set_cons_zero, List.set_cons_succ]
                refine wpAnyH_take (i := 23) (v := .bool false) rfl (by kernel_rfl) (by kernel_rfl) (by kernel_rfl) (fun _ _ _ h => h) (Or.inl ⟨by rfl, fun W hW => by clear hW; go_simp⟩) H0.out ?_
                try simp only [Act.put, List.getElem_toArray, List.getElem_cons_succ, List.getElem_cons_zero, List.setIfInBounds_toArray, List.set_cons_zero, List.set_cons_succ]
                refine wpAnyH_done (by kernel_rfl) ?_ _
                go_wp2
                go_roundw
                case rel => exact ⟨i + 1, by omega, by go_num, h8.tail⟩
                case measure => simp [intOf]; omega

            · have EU := Lib.hid (show z = y by rw [hzu]; unfold upd; rw [if_neg (fun h => hF h.2)])
              have q5 : (F == 0) = false := by simpa using hF
              have q6 : (F = 0) = False := eq_false hF
              replace hF := Lib.hid hF
              replace hyx := Lib.hid hyx
              clear hzu
              go_wp2_with (first
                | (refine wpList_loadCd (e := y) r1 _ rfl rfl rfl ?_; clear r1)
                | (have _ := h4; refine wpList_alloc_cdW h4 rfl rfl ?_; clear h4; intro Y1 h5; generalize wr.heap.size = wb at *)
                | (have _ := h5; refine wpList_store_cdW h5 0 y rfl _ _ rfl rfl rfl rfl ?_; clear h5; intro Y2 h6; have q1 := (range_it (at_cd (h6.at2 0 rfl)) : World.rangeAt _ wb 0 (Elt.cs y.it)); have q2 := (XB.out _ h6.tail).1)
                | (have _ := q1; refine wpList_loadIt (e := y.it) q1 _ rfl rfl rfl ?_; clear q1)
                | (have _ := q2; refine wpList_loadIt (e := x) q2 _ rfl rfl rfl ?_; clear q2))
              have h7 := h6
              replace h7 : MC w Y2 g b q l1 ((wb, C 59 z.arr) :: N) := by rw [EU.out]; exact h7
              by_cases hi0 : i = 0
              · have q8 : ((i : Int) > 0) = False := eq_false (by omega)
                have q9 : ((0 : Int) < (i : Int)) = False := eq_false (by omega)
                have q10 : (0 < i) = False := eq_false (by omega)
                replace hi0 := Lib.hid hi0
                have h8 := WC.drew1 h7
                obtain ⟨bz', oz', e9, _, r2⟩ := (ROW2.out _ h8.tail).at_ i z hz.out
                injection e9 with e9
                injection e9 with e9 e10 _
                subst e9; subst e10
                refine wp_region_held_drew (S := fun W => (loadVar 59 ⟨bz, oz + i * 36, none⟩).run Try.prog W = .ok (.agg z.arr) W ∧ (loadVar 59 ⟨wb, 0, none⟩).run Try.prog W = .ok (.agg z.arr) W) (by kernel_rfl) ⟨load_cd r2, load_cdA (h8.at2 0 rfl)⟩ (fun hS0 => ?_)
                have H0 := Lib.hid hS0
                clear hS0
                generalize World.drew _ = V0 at *
                refine wpAnyH_take (i := 0) (v := .slice (some ⟨bz, oz, none⟩) m cz) rfl (by kernel_rfl) (by kernel_rfl) (by kernel_rfl) (fun _ _ _ h => h) (Or.inl ⟨by rfl, fun W hW => by clear hW; go_simp⟩) H0.out ?_
                try simp only [Act.put, List.getElem_toArray, List.getElem_cons_succ, List.getElem_cons_zero, List.setIfInBounds_toArray, List.set_cons_zero, List.set_cons_succ]
                refine wpAnyH_take (i := 1) (v := .int .i64 (i : Int)) rfl (by kernel_rfl) (by kernel_rfl) (by kernel_rfl) (fun _ _ _ h => h) (Or.inl ⟨by rfl, fun W hW => by clear hW; go_simp⟩) H0.out ?_
                try simp only [Act.put, List.getElem_toArray, List.getElem_cons_succ, List.getElem_cons_zero, List.setIfInBounds_toArray, List.set_cons_zero, List.set_cons_succ]
                refine wpAnyH_take (i := 2) (v := .pointer (some ⟨bz, oz + i * 36, none⟩)) rfl (by kernel_rfl) (by kernel_rfl) (by kernel_rfl) (fun _ _ _ h => h) (Or.inl ⟨by rfl, fun W hW => by clear hW; go_simp⟩) H0.out ?_
                try simp only [Act.put, List.getElem_toArray, List.getElem_cons_succ, List.getElem_cons_zero, List.setIfInBounds_toArray, List.set_cons_zero, List.set_cons_succ]
                refine wpAnyH_take (i := 3) (v := .agg z.arr) rfl (by kernel_rfl) (by kernel_rfl) (by kernel_rfl) (fun _ _ _ h => h) (yields_run _ rfl (by rfl) rfl (fun W hW => hW.1)) H0.out ?_
                try simp only [Act.put, List.getElem_toArray, List.getElem_cons_succ, List.getElem_cons_zero, List.setIfInBounds_toArray, List.set_cons_zero, List.set_cons_succ]
                refine wpAnyH_take (i := 4) (v := .agg z.arr) rfl (by kernel_rfl) (by kernel_rfl) (by kernel_rfl) (fun _ _ _ h => h) (yields_run _ rfl (by rfl) rfl (fun W hW => hW.2)) H0.out ?_
                try simp only [Act.put, List.getElem_toArray, List.getElem_cons_succ, List.getElem_cons_zero, List.setIfInBounds_toArray, List.set_cons_zero, List.set_cons_succ]
                refine wpAnyH_take (i := 5) (v := .bool false) rfl (by kernel_rfl) (by kernel_rfl) (by kernel_rfl) (fun _ _ _ h => h) (yields_cmp _ _ rfl (by rfl) rfl rfl (by kernel_rfl) NQ.out) H0.out ?_
                try simp only [Act.put, List.getElem_toArray, List.getElem_cons_succ, List.getElem_cons_zero, List.setIfInBounds_toArray, List.set_cons_zero, List.set_cons_succ]
                refine wpAnyH_take (i := 6) (v := .bool false) rfl (by kernel_rfl) (by kernel_rfl) (by kernel_rfl) (fun _ _ _ h => h) (Or.inl ⟨by rfl, fun W hW => by clear hW; go_simp⟩) H0.out ?_
                try simp only [Act.put, List.getElem_toArray, List.getElem_cons_succ, List.getElem_cons_zero, List.setIfInBounds_toArray, List.set_cons_zero, List.set_cons_succ]
                refine wpAnyH_take (i := 7) (v := .int .i64 (i : Int)) rfl (by kernel_rfl) (by kernel_rfl) (by kernel_rfl) (fun _ _ _ h => h) (Or.inl ⟨by rfl, fun W hW => by clear hW; go_simp⟩) H0.out ?_
                try simp only [Act.put, List.getElem_toArray, List.getElem_cons_succ, List.getElem_cons_zero, List.setIfInBounds_toArray, List.set_cons_zero, List.set_cons_succ]
                refine wpAnyH_take (i := 8) (v := .bool false) rfl (by kernel_rfl) (by kernel_rfl) (by kernel_rfl) (fun _ _ _ h => h) (Or.inl ⟨by rfl, fun W hW => by clear hW; go_simp⟩) H0.out ?_
                try simp only [Act.put, List.getElem_toArray, List.getElem_cons_succ, List.getElem_cons_zero, List.setIfInBounds_toArray, List.set_cons_zero, List.set_cons_succ]
                refine wpAnyH_take (i := 9) (v := .bool false) rfl (by kernel_rfl) (by kernel_rfl) (by kernel_rfl) (fun _ _ _ h => h) (Or.inl ⟨by rfl, fun W hW => by clear hW; go_simp⟩) H0.out ?_
                try simp only [Act.put, List.getElem_toArray, List.getElem_cons_succ, List.getElem_cons_zero, List.setIfInBounds_toArray, List.set_cons_zero, List.set_cons_succ]
                refine wpAnyH_take (i := 10) (v := undef) rfl (by kernel_rfl) (by kernel_rfl) (by kernel_rfl) (fun _ _ _ h => h) (Or.inr ⟨by rfl, rfl⟩) H0.out ?_
                try simp only [Act.put, List.getElem_toArray, List.getElem_cons_succ, List.getElem_cons_zero, List.setIfInBounds_toArray, List.set_cons_zero, List.set_cons_succ]
                refine wpAnyH_take (i := 11) (v := undef) rfl (by kernel_rfl) (by kernel_rfl) (by kernel_rfl) (fun _ _ _ h => h) (Or.inr ⟨by rfl, rfl⟩) H0.out ?_
                try simp only [Act.put, List.getElem_toArray, List.getElem_cons_succ, List.getElem_cons_zero, List.setIfInBounds_toArray, List.set_cons_zero, List.set_cons_succ]
                refine wpAnyH_take (i := 12) (v := undef) rfl (by kernel_rfl) (by kernel_rfl) (by kernel_rfl) (fun _ _ _ h => h) (Or.inr ⟨by rfl, rfl⟩) H0.out ?_
                try simp only [Act.put, List.getElem_toArray, List.getElem_cons_succ, List.getElem_cons_zero, List.setIfInBounds_toArray, List.set_cons_zero, List.set_cons_succ]
                refine wpAnyH_take (i := 13) (v := undef) rfl (by kernel_rfl) (by kernel_rfl) (by kernel_rfl) (fun _ _ _ h => h) (Or.inr ⟨by rfl, rfl⟩) H0.out ?_
                try simp only [Act.put, List.getElem_toArray, List.getElem_cons_succ, List.getElem_cons_zero, List.setIfInBounds_toArray, List.set_cons_zero, List.set_cons_succ]
                refine wpAnyH_take (i := 14) (v := undef) rfl (by kernel_rfl) (by kernel_rfl) (by kernel_rfl) (fun _ _ _ h => h) (Or.inr ⟨by rfl, rfl⟩) H0.out ?_
                try simp only [Act.put, List.getElem_toArray, List.getElem_cons_succ, List.getElem_cons_zero, List.setIfInBounds_toArray, List.set_cons_zero, List.set_cons_succ]
                refine wpAnyH_take (i := 15) (v := undef) rfl (by kernel_rfl) (by kernel_rfl) (by kernel_rfl) (fun _ _ _ h => h) (Or.inr ⟨by rfl, rfl⟩) H0.out ?_
                try simp only [Act.put, List.getElem_toArray, List.getElem_cons_succ, List.getElem_cons_zero, List.setIfInBounds_toArray, List.set_cons_zero, List.set_cons_succ]
                refine wpAnyH_take (i := 16) (v := undef) rfl (by kernel_rfl) (by kernel_rfl) (by kernel_rfl) (fun _ _ _ h => h) (Or.inr ⟨by rfl, rfl⟩) H0.out ?_
                try simp only [Act.put, List.getElem_toArray, List.getElem_cons_succ, List.getElem_cons_zero, List.setIfInBounds_toArray, List.set_cons_zero, List.set_cons_succ]
                refine wpAnyH_take (i := 17) (v := undef) rfl (by kernel_rfl) (by kernel_rfl) (by kernel_rfl) (fun _ _ _ h => h) (Or.inr ⟨by rfl, rfl⟩) H0.out ?_
                try simp only [Act.put, List.getElem_toArray, List.getElem_cons_succ, List.getElem_cons_zero, List.setIfInBounds_toArray, List.set_cons_zero, List.set_cons_succ]
                refine wpAnyH_take (i := 18) (v := undef) rfl (by kernel_rfl) (by kernel_rfl) (by kernel_rfl) (fun _ _ _ h => h) (Or.inr ⟨by rfl, rfl⟩) H0.out ?_
                try simp only [Act.put, List.getElem_toArray, List.getElem_cons_succ, List.getElem_cons_zero, List.setIfInBounds_toArray, List.set_cons_zero, List.set_cons_succ]
                refine wpAnyH_take (i := 19) (v := undef) rfl (by kernel_rfl) (by kernel_rfl) (by kernel_rfl) (fun _ _ _ h => h) (Or.inr ⟨by rfl, rfl⟩) H0.out ?_
                try simp only [Act.put, List.getElem_toArray, List.getElem_cons_succ, List.getElem_cons_zero, List.setIfInBounds_toArray, List.set_cons_zero, List.set_cons_succ]
                refine wpAnyH_take (i := 20) (v := undef) rfl (by kernel_rfl) (by kernel_rfl) (by kernel_rfl) (fun _ _ _ h => h) (Or.inr ⟨by rfl, rfl⟩) H0.out ?_
                try simp only [Act.put, List.getElem_toArray, List.getElem_cons_succ, List.getElem_cons_zero, List.setIfInBounds_toArray, List.set_cons_zero, List.set_cons_succ]
                refine wpAnyH_take (i := 21) (v := undef) rfl (by kernel_rfl) (by kernel_rfl) (by kernel_rfl) (fun _ _ _ h => h) (Or.inr ⟨by rfl, rfl⟩) H0.out ?_
                try simp only [Act.put, List.getElem_toArray, List.getElem_cons_succ, List.getElem_cons_zero, List.setIfInBounds_toArray, List.set_cons_zero, List.set_cons_succ]
                refine wpAnyH_take (i := 22) (v := .bool false) rfl (by kernel_rfl) (by kernel_rfl) (by kernel_rfl) (fun _ _ _ h => h) (Or.inl ⟨by rfl, fun W hW => by clear hW; go_simp⟩) H0.out ?_
                try simp only [Act.put, List.getElem_toArray, List.getElem_cons_succ, List.getElem_cons_zero, List.setIfInBounds_toArray, List.set_cons_zero, List.set_cons_succ]
                refine wpAnyH_take (i := 23) (v := .bool false) rfl (by kernel_rfl) (by kernel_rfl) (by kernel_rfl) (fun _ _ _ h => h) (Or.inl ⟨by rfl, fun W hW => by clear hW; go_simp⟩) H0.out ?_
                try simp only [Act.put, List.getElem_toArray, List.getElem_cons_succ, List.getElem_cons_zero, List.setIfInBounds_toArray, List.set_cons_zero, List.set_cons_succ]
                refine wpAnyH_done (by kernel_rfl) ?_ _
                go_wp2
                go_roundw
                case rel => exact ⟨i + 1, by omega, by go_num, h8.tail⟩
                case measure => simp [intOf]; omega

              · obtain ⟨j, hij⟩ : ∃ j, i = j + 1 := ⟨i - 1, by omega⟩
                have q8 : ((i : Int) > 0) = True := eq_true (by omega)
                have q9 : ((0 : Int) < (i : Int)) = True := eq_true (by omega)
                have q10 : (0 < i) = True := eq_true (by omega)
                have q11 : (i : Int) - 1 = (j : Int) := by omega
                have q12 : IntKind.i64.wrap (j : Int) = (j : Int) := IntWalk.i64_in _ (by omega)
                have q13 : j < m := by omega
                obtain ⟨u0, hu0⟩ := GY.out j q13
                obtain ⟨u, hu⟩ : ∃ u, zs[j]? = some u := ⟨_, EZ.out j u0 hu0⟩
                have EQ := Lib.hid (fun V => show (binOp .eql 42 (.agg z.it.arr) (.agg u.it.arr)).run Try.prog V = .ok (.bool false) V from by rw [eql_it, decide_eq_false (ST.out j u z hu (by rw [← hij]; exact hz.out))])
                replace hu := Lib.hid hu
                replace hij := Lib.hid hij
                replace hi0 := Lib.hid hi0
                clear hu0
                have h8 := WC.drew1 h7
                obtain ⟨bz', oz', e9, _, r2⟩ := (ROW2.out _ h8.tail).at_ i z hz.out
                injection e9 with e9
                injection e9 with e9 e10 _
                subst e9; subst e10
                obtain ⟨bz', oz', e9, _, r3⟩ := (ROW2.out _ h8.tail).at_ j u hu.out
                injection e9 with e9
                injection e9 with e9 e10 _
                subst e9; subst e10
                refine wp_region_held_drew (S := fun W => (loadVar 59 ⟨bz, oz + i * 36, none⟩).run Try.prog W = .ok (.agg z.arr) W ∧ (loadVar 59 ⟨wb, 0, none⟩).run Try.prog W = .ok (.agg z.arr) W ∧ (loadVar 42 ⟨bz, oz + i * 36, none⟩).run Try.prog W = .ok (.agg z.it.arr) W ∧ (loadVar 42 ⟨bz, oz + j * 36, none⟩).run Try.prog W = .ok (.agg u.it.arr) W) (by kernel_rfl) ⟨load_cd r2, load_cdA (h8.at2 0 rfl), load_it (range_it r2), load_it (range_it r3)⟩ (fun hS0 => ?_)
                have H0 := Lib.hid hS0
                clear hS0
                generalize World.drew _ = V0 at *
                refine wpAnyH_take (i := 0) (v := .slice (some ⟨bz, oz, none⟩) m cz) rfl (by kernel_rfl) (by kernel_rfl) (by kernel_rfl) (fun _ _ _ h => h) (Or.inl ⟨by rfl, fun W hW => by clear hW; go_simp⟩) H0.out ?_
                try simp only [Act.put, List.getElem_toArray, List.getElem_cons_succ, List.getElem_cons_zero, List.setIfInBounds_toArray, List.set_cons_zero, List.set_cons_succ]
                refine wpAnyH_take (i := 1) (v := .int .i64 (i : Int)) rfl (by kernel_rfl) (by kernel_rfl) (by kernel_rfl) (fun _ _ _ h => h) (Or.inl ⟨by rfl, fun W hW => by clear hW; go_simp⟩) H0.out ?_
                try simp only [Act.put, List.getElem_toArray, List.getElem_cons_succ, List.getElem_cons_zero, List.setIfInBounds_toArray, List.set_cons_zero, List.set_cons_succ]
                refine wpAnyH_take (i := 2) (v := .pointer (some ⟨bz, oz + i * 36, none⟩)) rfl (by kernel_rfl) (by kernel_rfl) (by kernel_rfl) (fun _ _ _ h => h) (Or.inl ⟨by rfl, fun W hW => by clear hW; go_simp⟩) H0.out ?_
                try simp only [Act.put, List.getElem_toArray, List.getElem_cons_succ, List.getElem_cons_zero, List.setIfInBounds_toArray, List.set_cons_zero, List.set_cons_succ]
                refine wpAnyH_take (i := 3) (v := .agg z.arr) rfl (by kernel_rfl) (by kernel_rfl) (by kernel_rfl) (fun _ _ _ h => h) (yields_run _ rfl (by rfl) rfl (fun W hW => hW.1)) H0.out ?_
                try simp only [Act.put, List.getElem_toArray, List.getElem_cons_succ, List.getElem_cons_zero, List.setIfInBounds_toArray, List.set_cons_zero, List.set_cons_succ]
                refine wpAnyH_take (i := 4) (v := .agg z.arr) rfl (by kernel_rfl) (by kernel_rfl) (by kernel_rfl) (fun _ _ _ h => h) (yields_run _ rfl (by rfl) rfl (fun W hW => hW.2.1)) H0.out ?_
                try simp only [Act.put, List.getElem_toArray, List.getElem_cons_succ, List.getElem_cons_zero, List.setIfInBounds_toArray, List.set_cons_zero, List.set_cons_succ]
                refine wpAnyH_take (i := 5) (v := .bool false) rfl (by kernel_rfl) (by kernel_rfl) (by kernel_rfl) (fun _ _ _ h => h) (yields_cmp _ _ rfl (by rfl) rfl rfl (by kernel_rfl) NQ.out) H0.out ?_
                try simp only [Act.put, List.getElem_toArray, List.getElem_cons_succ, List.getElem_cons_zero, List.setIfInBounds_toArray, List.set_cons_zero, List.set_cons_succ]
                refine wpAnyH_take (i := 6) (v := .bool false) rfl (by kernel_rfl) (by kernel_rfl) (by kernel_rfl) (fun _ _ _ h => h) (Or.inl ⟨by rfl, fun W hW => by clear hW; go_simp⟩) H0.out ?_
                try simp only [Act.put, List.getElem_toArray, List.getElem_cons_succ, List.getElem_cons_zero, List.setIfInBounds_toArray, List.set_cons_zero, List.set_cons_succ]
                refine wpAnyH_take (i := 7) (v := .int .i64 (i : Int)) rfl (by kernel_rfl) (by kernel_rfl) (by kernel_rfl) (fun _ _ _ h => h) (Or.inl ⟨by rfl, fun W hW => by clear hW; go_simp⟩) H0.out ?_
                try simp only [Act.put, List.getElem_toArray, List.getElem_cons_succ, List.getElem_cons_zero, List.setIfInBounds_toArray, List.set_cons_zero, List.set_cons_succ]
                refine wpAnyH_take (i := 8) (v := .bool true) rfl (by kernel_rfl) (by kernel_rfl) (by kernel_rfl) (fun _ _ _ h => h) (Or.inl ⟨by rfl, fun W hW => by clear hW; go_simp⟩) H0.out ?_
                try simp only [Act.put, List.getElem_toArray, List.getElem_cons_succ, List.getElem_cons_zero, List.setIfInBounds_toArray, List.set_cons_zero, List.set_cons_succ]
                refine wpAnyH_take (i := 9) (v := .bool true) rfl (by kernel_rfl) (by kernel_rfl) (by kernel_rfl) (fun _ _ _ h => h) (Or.inl ⟨by rfl, fun W hW => by clear hW; go_simp⟩) H0.out ?_
                try simp only [Act.put, List.getElem_toArray, List.getElem_cons_succ, List.getElem_cons_zero, List.setIfInBounds_toArray, List.set_cons_zero, List.set_cons_succ]
                refine wpAnyH_take (i := 10) (v := .slice (some ⟨bz, oz, none⟩) m cz) rfl (by kernel_rfl) (by kernel_rfl) (by kernel_rfl) (fun _ _ _ h => h) (Or.inl ⟨by rfl, fun W hW => by clear hW; go_simp⟩) H0.out ?_
                try simp only [Act.put, List.getElem_toArray, List.getElem_cons_succ, List.getElem_cons_zero, List.setIfInBounds_toArray, List.set_cons_zero, List.set_cons_succ]
                refine wpAnyH_take (i := 11) (v := .int .i64 (i : Int)) rfl (by kernel_rfl) (by kernel_rfl) (by kernel_rfl) (fun _ _ _ h => h) (Or.inl ⟨by rfl, fun W hW => by clear hW; go_simp⟩) H0.out ?_
                try simp only [Act.put, List.getElem_toArray, List.getElem_cons_succ, List.getElem_cons_zero, List.setIfInBounds_toArray, List.set_cons_zero, List.set_cons_succ]
                refine wpAnyH_take (i := 12) (v := .pointer (some ⟨bz, oz + i * 36, none⟩)) rfl (by kernel_rfl) (by kernel_rfl) (by kernel_rfl) (fun _ _ _ h => h) (Or.inl ⟨by rfl, fun W hW => by clear hW; go_simp⟩) H0.out ?_
                try simp only [Act.put, List.getElem_toArray, List.getElem_cons_succ, List.getElem_cons_zero, List.setIfInBounds_toArray, List.set_cons_zero, List.set_cons_succ]
                refine wpAnyH_take (i := 13) (v := .pointer (some ⟨bz, oz + i * 36, none⟩)) rfl (by kernel_rfl) (by kernel_rfl) (by kernel_rfl) (fun _ _ _ h => h) (Or.inl ⟨by rfl, fun W hW => by clear hW; go_simp⟩) H0.out ?_
                try simp only [Act.put, List.getElem_toArray, List.getElem_cons_succ, List.getElem_cons_zero, List.setIfInBounds_toArray, List.set_cons_zero, List.set_cons_succ]
                refine wpAnyH_take (i := 14) (v := .agg z.it.arr) rfl (by kernel_rfl) (by kernel_rfl) (by kernel_rfl) (fun _ _ _ h => h) (yields_run _ rfl (by rfl) rfl (fun W hW => hW.2.2.1)) H0.out ?_
                try simp only [Act.put, List.getElem_toArray, List.getElem_cons_succ, List.getElem_cons_zero, List.setIfInBounds_toArray, List.set_cons_zero, List.set_cons_succ]
                refine wpAnyH_take (i := 15) (v := .slice (some ⟨bz, oz, none⟩) m cz) rfl (by kernel_rfl) (by kernel_rfl) (by kernel_rfl) (fun _ _ _ h => h) (Or.inl ⟨by rfl, fun W hW => by clear hW; go_simp⟩) H0.out ?_
                try simp only [Act.put, List.getElem_toArray, List.getElem_cons_succ, List.getElem_cons_zero, List.setIfInBounds_toArray, List.set_cons_zero, List.set_cons_succ]
                refine wpAnyH_take (i := 16) (v := .int .i64 (i : Int)) rfl (by kernel_rfl) (by kernel_rfl) (by kernel_rfl) (fun _ _ _ h => h) (Or.inl ⟨by rfl, fun W hW => by clear hW; go_simp⟩) H0.out ?_
                try simp only [Act.put, List.getElem_toArray, List.getElem_cons_succ, List.getElem_cons_zero, List.setIfInBounds_toArray, List.set_cons_zero, List.set_cons_succ]
                refine wpAnyH_take (i := 17) (v := .int .i64 (j : Int)) rfl (by kernel_rfl) (by kernel_rfl) (by kernel_rfl) (fun _ _ _ h => h) (Or.inl ⟨by rfl, fun W hW => by clear hW; go_simp⟩) H0.out ?_
                try simp only [Act.put, List.getElem_toArray, List.getElem_cons_succ, List.getElem_cons_zero, List.setIfInBounds_toArray, List.set_cons_zero, List.set_cons_succ]
                refine wpAnyH_take (i := 18) (v := .pointer (some ⟨bz, oz + j * 36, none⟩)) rfl (by kernel_rfl) (by kernel_rfl) (by kernel_rfl) (fun _ _ _ h => h) (Or.inl ⟨by rfl, fun W hW => by clear hW; go_simp⟩) H0.out ?_
                try simp only [Act.put, List.getElem_toArray, List.getElem_cons_succ, List.getElem_cons_zero, List.setIfInBounds_toArray, List.set_cons_zero, List.set_cons_succ]
                refine wpAnyH_take (i := 19) (v := .pointer (some ⟨bz, oz + j * 36, none⟩)) rfl (by kernel_rfl) (by kernel_rfl) (by kernel_rfl) (fun _ _ _ h => h) (Or.inl ⟨by rfl, fun W hW => by clear hW; go_simp⟩) H0.out ?_
                try simp only [Act.put, List.getElem_toArray, List.getElem_cons_succ, List.getElem_cons_zero, List.setIfInBounds_toArray, List.set_cons_zero, List.set_cons_succ]
                refine wpAnyH_take (i := 20) (v := .agg u.it.arr) rfl (by kernel_rfl) (by kernel_rfl) (by kernel_rfl) (fun _ _ _ h => h) (yields_run _ rfl (by rfl) rfl (fun W hW => hW.2.2.2)) H0.out ?_
                try simp only [Act.put, List.getElem_toArray, List.getElem_cons_succ, List.getElem_cons_zero, List.setIfInBounds_toArray, List.set_cons_zero, List.set_cons_succ]
                refine wpAnyH_take (i := 21) (v := .bool false) rfl (by kernel_rfl) (by kernel_rfl) (by kernel_rfl) (fun _ _ _ h => h) (yields_cmp _ _ rfl (by rfl) rfl rfl (by kernel_rfl) EQ.out) H0.out ?_
                try simp only [Act.put, List.getElem_toArray, List.getElem_cons_succ, List.getElem_cons_zero, List.setIfInBounds_toArray, List.set_cons_zero, List.set_cons_succ]
                refine wpAnyH_take (i := 22) (v := .bool false) rfl (by kernel_rfl) (by kernel_rfl) (by kernel_rfl) (fun _ _ _ h => h) (Or.inl ⟨by rfl, fun W hW => by clear hW; go_simp⟩) H0.out ?_
                try simp only [Act.put, List.getElem_toArray, List.getElem_cons_succ, List.getElem_cons_zero, List.setIfInBounds_toArray, List.set_cons_zero, List.set_cons_succ]
                refine wpAnyH_take (i := 23) (v := .bool false) rfl (by kernel_rfl) (by kernel_rfl) (by kernel_rfl) (fun _ _ _ h => h) (Or.inl ⟨by rfl, fun W hW => by clear hW; go_simp⟩) H0.out ?_
                try simp only [Act.put, List.getElem_toArray, List.getElem_cons_succ, List.getElem_cons_zero, List.setIfInBounds_toArray, List.set_cons_zero, List.set_cons_succ]
                refine wpAnyH_done (by kernel_rfl) ?_ _
                go_wp2
                go_roundw
                case rel => exact ⟨i + 1, by omega, by go_num, h8.tail⟩
                case measure => simp [intOf]; omega

          · rw [decide_eq_false hyx] at EI
            have EU := Lib.hid (show z = y by rw [hzu]; unfold upd; rw [if_neg (fun h => hyx h.1)])
            replace hyx := Lib.hid hyx
            clear hzu
            go_wp2_with (first
              | (refine wpList_loadCd (e := y) r1 _ rfl rfl rfl ?_; clear r1)
              | (have _ := h4; refine wpList_alloc_cdW h4 rfl rfl ?_; clear h4; intro Y1 h5; generalize wr.heap.size = wb at *)
              | (have _ := h5; refine wpList_store_cdW h5 0 y rfl _ _ rfl rfl rfl rfl ?_; clear h5; intro Y2 h6; have q1 := (range_it (at_cd (h6.at2 0 rfl)) : World.rangeAt _ wb 0 (Elt.cs y.it)); have q2 := (XB.out _ h6.tail).1)
              | (have _ := q1; refine wpList_loadIt (e := y.it) q1 _ rfl rfl rfl ?_; clear q1)
              | (have _ := q2; refine wpList_loadIt (e := x) q2 _ rfl rfl rfl ?_; clear q2))
            have h7 := h6
            replace h7 : MC w Y2 g b q l1 ((wb, C 59 z.arr) :: N) := by rw [EU.out]; exact h7
            by_cases hi0 : i = 0
            · have q8 : ((i : Int) > 0) = False := eq_false (by omega)
              have q9 : ((0 : Int) < (i : Int)) = False := eq_false (by omega)
              have q10 : (0 < i) = False := eq_false (by omega)
              replace hi0 := Lib.hid hi0
              have h8 := WC.drew1 h7
              obtain ⟨bz', oz', e9, _, r2⟩ := (ROW2.out _ h8.tail).at_ i z hz.out
              injection e9 with e9
              injection e9 with e9 e10 _
              subst e9; subst e10
              refine wp_region_held_drew (S := fun W => (loadVar 59 ⟨bz, oz + i * 36, none⟩).run Try.prog W = .ok (.agg z.arr) W ∧ (loadVar 59 ⟨wb, 0, none⟩).run Try.prog W = .ok (.agg z.arr) W) (by kernel_rfl) ⟨load_cd r2, load_cdA (h8.at2 0 rfl)⟩ (fun hS0 => ?_)
              have H0 := Lib.hid hS0
              clear hS0
              generalize World.drew _ = V0 at *
              refine wpAnyH_take (i := 0) (v := .slice (some ⟨bz, oz, none⟩) m cz) rfl (by kernel_rfl) (by kernel_rfl) (by kernel_rfl) (fun _ _ _ h => h) (Or.inl ⟨by rfl, fun W hW => by clear hW; go_simp⟩) H0.out ?_
              try simp only [Act.put, List.getElem_toArray, List.getElem_cons_succ, List.getElem_cons_zero, List.setIfInBounds_toArray, List.set_cons_zero, List.set_cons_succ]
              refine wpAnyH_take (i := 1) (v := .int .i64 (i : Int)) rfl (by kernel_rfl) (by kernel_rfl) (by kernel_rfl) (fun _ _ _ h => h) (Or.inl ⟨by rfl, fun W hW => by clear hW; go_simp⟩) H0.out ?_
              try simp only [Act.put, List.getElem_toArray, List.getElem_cons_succ, List.getElem_cons_zero, List.setIfInBounds_toArray, List.set_cons_zero, List.set_cons_succ]
              refine wpAnyH_take (i := 2) (v := .pointer (some ⟨bz, oz + i * 36, none⟩)) rfl (by kernel_rfl) (by kernel_rfl) (by kernel_rfl) (fun _ _ _ h => h) (Or.inl ⟨by rfl, fun W hW => by clear hW; go_simp⟩) H0.out ?_
              try simp only [Act.put, List.getElem_toArray, List.getElem_cons_succ, List.getElem_cons_zero, List.setIfInBounds_toArray, List.set_cons_zero, List.set_cons_succ]
              refine wpAnyH_take (i := 3) (v := .agg z.arr) rfl (by kernel_rfl) (by kernel_rfl) (by kernel_rfl) (fun _ _ _ h => h) (yields_run _ rfl (by rfl) rfl (fun W hW => hW.1)) H0.out ?_
              try simp only [Act.put, List.getElem_toArray, List.getElem_cons_succ, List.getElem_cons_zero, List.setIfInBounds_toArray, List.set_cons_zero, List.set_cons_succ]
              refine wpAnyH_take (i := 4) (v := .agg z.arr) rfl (by kernel_rfl) (by kernel_rfl) (by kernel_rfl) (fun _ _ _ h => h) (yields_run _ rfl (by rfl) rfl (fun W hW => hW.2)) H0.out ?_
              try simp only [Act.put, List.getElem_toArray, List.getElem_cons_succ, List.getElem_cons_zero, List.setIfInBounds_toArray, List.set_cons_zero, List.set_cons_succ]
              refine wpAnyH_take (i := 5) (v := .bool false) rfl (by kernel_rfl) (by kernel_rfl) (by kernel_rfl) (fun _ _ _ h => h) (yields_cmp _ _ rfl (by rfl) rfl rfl (by kernel_rfl) NQ.out) H0.out ?_
              try simp only [Act.put, List.getElem_toArray, List.getElem_cons_succ, List.getElem_cons_zero, List.setIfInBounds_toArray, List.set_cons_zero, List.set_cons_succ]
              refine wpAnyH_take (i := 6) (v := .bool false) rfl (by kernel_rfl) (by kernel_rfl) (by kernel_rfl) (fun _ _ _ h => h) (Or.inl ⟨by rfl, fun W hW => by clear hW; go_simp⟩) H0.out ?_
              try simp only [Act.put, List.getElem_toArray, List.getElem_cons_succ, List.getElem_cons_zero, List.setIfInBounds_toArray, List.set_cons_zero, List.set_cons_succ]
              refine wpAnyH_take (i := 7) (v := .int .i64 (i : Int)) rfl (by kernel_rfl) (by kernel_rfl) (by kernel_rfl) (fun _ _ _ h => h) (Or.inl ⟨by rfl, fun W hW => by clear hW; go_simp⟩) H0.out ?_
              try simp only [Act.put, List.getElem_toArray, List.getElem_cons_succ, List.getElem_cons_zero, List.setIfInBounds_toArray, List.set_cons_zero, List.set_cons_succ]
              refine wpAnyH_take (i := 8) (v := .bool false) rfl (by kernel_rfl) (by kernel_rfl) (by kernel_rfl) (fun _ _ _ h => h) (Or.inl ⟨by rfl, fun W hW => by clear hW; go_simp⟩) H0.out ?_
              try simp only [Act.put, List.getElem_toArray, List.getElem_cons_succ, List.getElem_cons_zero, List.setIfInBounds_toArray, List.set_cons_zero, List.set_cons_succ]
              refine wpAnyH_take (i := 9) (v := .bool false) rfl (by kernel_rfl) (by kernel_rfl) (by kernel_rfl) (fun _ _ _ h => h) (Or.inl ⟨by rfl, fun W hW => by clear hW; go_simp⟩) H0.out ?_
              try simp only [Act.put, List.getElem_toArray, List.getElem_cons_succ, List.getElem_cons_zero, List.setIfInBounds_toArray, List.set_cons_zero, List.set_cons_succ]
              refine wpAnyH_take (i := 10) (v := undef) rfl (by kernel_rfl) (by kernel_rfl) (by kernel_rfl) (fun _ _ _ h => h) (Or.inr ⟨by rfl, rfl⟩) H0.out ?_
              try simp only [Act.put, List.getElem_toArray, List.getElem_cons_succ, List.getElem_cons_zero, List.setIfInBounds_toArray, List.set_cons_zero, List.set_cons_succ]
              refine wpAnyH_take (i := 11) (v := undef) rfl (by kernel_rfl) (by kernel_rfl) (by kernel_rfl) (fun _ _ _ h => h) (Or.inr ⟨by rfl, rfl⟩) H0.out ?_
              try simp only [Act.put, List.getElem_toArray, List.getElem_cons_succ, List.getElem_cons_zero, List.setIfInBounds_toArray, List.set_cons_zero, List.set_cons_succ]
              refine wpAnyH_take (i := 12) (v := undef) rfl (by kernel_rfl) (by kernel_rfl) (by kernel_rfl) (fun _ _ _ h => h) (Or.inr ⟨by rfl, rfl⟩) H0.out ?_
              try simp only [Act.put, List.getElem_toArray, List.getElem_cons_succ, List.getElem_cons_zero, List.setIfInBounds_toArray, List.set_cons_zero, List.set_cons_succ]
              refine wpAnyH_take (i := 13) (v := undef) rfl (by kernel_rfl) (by kernel_rfl) (by kernel_rfl) (fun _ _ _ h => h) (Or.inr ⟨by rfl, rfl⟩) H0.out ?_
              try simp only [Act.put, List.getElem_toArray, List.getElem_cons_succ, List.getElem_cons_zero, List.setIfInBounds_toArray, List.set_cons_zero, List.set_cons_succ]
              refine wpAnyH_take (i := 14) (v := undef) rfl (by kernel_rfl) (by kernel_rfl) (by kernel_rfl) (fun _ _ _ h => h) (Or.inr ⟨by rfl, rfl⟩) H0.out ?_
              try simp only [Act.put, List.getElem_toArray, List.getElem_cons_succ, List.getElem_cons_zero, List.setIfInBounds_toArray, List.set_cons_zero, List.set_cons_succ]
              refine wpAnyH_take (i := 15) (v := undef) rfl (by kernel_rfl) (by kernel_rfl) (by kernel_rfl) (fun _ _ _ h => h) (Or.inr ⟨by rfl, rfl⟩) H0.out ?_
              try simp only [Act.put, List.getElem_toArray, List.getElem_cons_succ, List.getElem_cons_zero, List.setIfInBounds_toArray, List.set_cons_zero, List.set_cons_succ]
              refine wpAnyH_take (i := 16) (v := undef) rfl (by kernel_rfl) (by kernel_rfl) (by kernel_rfl) (fun _ _ _ h => h) (Or.inr ⟨by rfl, rfl⟩) H0.out ?_
              try simp only [Act.put, List.getElem_toArray, List.getElem_cons_succ, List.getElem_cons_zero, List.setIfInBounds_toArray, List.set_cons_zero, List.set_cons_succ]
              refine wpAnyH_take (i := 17) (v := undef) rfl (by kernel_rfl) (by kernel_rfl) (by kernel_rfl) (fun _ _ _ h => h) (Or.inr ⟨by rfl, rfl⟩) H0.out ?_
              try simp only [Act.put, List.getElem_toArray, List.getElem_cons_succ, List.getElem_cons_zero, List.setIfInBounds_toArray, List.set_cons_zero, List.set_cons_succ]
              refine wpAnyH_take (i := 18) (v := undef) rfl (by kernel_rfl) (by kernel_rfl) (by kernel_rfl) (fun _ _ _ h => h) (Or.inr ⟨by rfl, rfl⟩) H0.out ?_
              try simp only [Act.put, List.getElem_toArray, List.getElem_cons_succ, List.getElem_cons_zero, List.setIfInBounds_toArray, List.set_cons_zero, List.set_cons_succ]
              refine wpAnyH_take (i := 19) (v := undef) rfl (by kernel_rfl) (by kernel_rfl) (by kernel_rfl) (fun _ _ _ h => h) (Or.inr ⟨by rfl, rfl⟩) H0.out ?_
              try simp only [Act.put, List.getElem_toArray, List.getElem_cons_succ, List.getElem_cons_zero, List.setIfInBounds_toArray, List.set_cons_zero, List.set_cons_succ]
              refine wpAnyH_take (i := 20) (v := undef) rfl (by kernel_rfl) (by kernel_rfl) (by kernel_rfl) (fun _ _ _ h => h) (Or.inr ⟨by rfl, rfl⟩) H0.out ?_
              try simp only [Act.put, List.getElem_toArray, List.getElem_cons_succ, List.getElem_cons_zero, List.setIfInBounds_toArray, List.set_cons_zero, List.set_cons_succ]
              refine wpAnyH_take (i := 21) (v := undef) rfl (by kernel_rfl) (by kernel_rfl) (by kernel_rfl) (fun _ _ _ h => h) (Or.inr ⟨by rfl, rfl⟩) H0.out ?_
              try simp only [Act.put, List.getElem_toArray, List.getElem_cons_succ, List.getElem_cons_zero, List.setIfInBounds_toArray, List.set_cons_zero, List.set_cons_succ]
              refine wpAnyH_take (i := 22) (v := .bool false) rfl (by kernel_rfl) (by kernel_rfl) (by kernel_rfl) (fun _ _ _ h => h) (Or.inl ⟨by rfl, fun W hW => by clear hW; go_simp⟩) H0.out ?_
              try simp only [Act.put, List.getElem_toArray, List.getElem_cons_succ, List.getElem_cons_zero, List.setIfInBounds_toArray, List.set_cons_zero, List.set_cons_succ]
              refine wpAnyH_take (i := 23) (v := .bool false) rfl (by kernel_rfl) (by kernel_rfl) (by kernel_rfl) (fun _ _ _ h => h) (Or.inl ⟨by rfl, fun W hW => by clear hW; go_simp⟩) H0.out ?_
              try simp only [Act.put, List.getElem_toArray, List.getElem_cons_succ, List.getElem_cons_zero, List.setIfInBounds_toArray, List.set_cons_zero, List.set_cons_succ]
              refine wpAnyH_done (by kernel_rfl) ?_ _
              go_wp2
              go_roundw
              case rel => exact ⟨i + 1, by omega, by go_num, h8.tail⟩
              case measure => simp [intOf]; omega

            · obtain ⟨j, hij⟩ : ∃ j, i = j + 1 := ⟨i - 1, by omega⟩
              have q8 : ((i : Int) > 0) = True := eq_true (by omega)
              have q9 : ((0 : Int) < (i : Int)) = True := eq_true (by omega)
              have q10 : (0 < i) = True := eq_true (by omega)
              have q11 : (i : Int) - 1 = (j : Int) := by omega
              have q12 : IntKind.i64.wrap (j : Int) = (j : Int) := IntWalk.i64_in _ (by omega)
              have q13 : j < m := by omega
              obtain ⟨u0, hu0⟩ := GY.out j q13
              obtain ⟨u, hu⟩ : ∃ u, zs[j]? = some u := ⟨_, EZ.out j u0 hu0⟩
              have EQ := Lib.hid (fun V => show (binOp .eql 42 (.agg z.it.arr) (.agg u.it.arr)).run Try.prog V = .ok (.bool false) V from by rw [eql_it, decide_eq_false (ST.out j u z hu (by rw [← hij]; exact hz.out))])
              replace hu := Lib.hid hu
              replace hij := Lib.hid hij
              replace hi0 := Lib.hid hi0
              clear hu0
              have h8 := WC.drew1 h7
              obtain ⟨bz', oz', e9, _, r2⟩ := (ROW2.out _ h8.tail).at_ i z hz.out
              injection e9 with e9
              injection e9 with e9 e10 _
              subst e9; subst e10
              obtain ⟨bz', oz', e9, _, r3⟩ := (ROW2.out _ h8.tail).at_ j u hu.out
              injection e9 with e9
              injection e9 with e9 e10 _
              subst e9; subst e10
              refine wp_region_held_drew (S := fun W => (loadVar 59 ⟨bz, oz + i * 36, none⟩).run Try.prog W = .ok (.agg z.arr) W ∧ (loadVar 59 ⟨wb, 0, none⟩).run Try.prog W = .ok (.agg z.arr) W ∧ (loadVar 42 ⟨bz, oz + i * 36, none⟩).run Try.prog W = .ok (.agg z.it.arr) W ∧ (loadVar 42 ⟨bz, oz + j * 36, none⟩).run Try.prog W = .ok (.agg u.it.arr) W) (by kernel_rfl) ⟨load_cd r2, load_cdA (h8.at2 0 rfl), load_it (range_it r2), load_it (range_it r3)⟩ (fun hS0 => ?_)
              have H0 := Lib.hid hS0
              clear hS0
              generalize World.drew _ = V0 at *
              refine wpAnyH_take (i := 0) (v := .slice (some ⟨bz, oz, none⟩) m cz) rfl (by kernel_rfl) (by kernel_rfl) (by kernel_rfl) (fun _ _ _ h => h) (Or.inl ⟨by rfl, fun W hW => by clear hW; go_simp⟩) H0.out ?_
              try simp only [Act.put, List.getElem_toArray, List.getElem_cons_succ, List.getElem_cons_zero, List.setIfInBounds_toArray, List.set_cons_zero, List.set_cons_succ]
              refine wpAnyH_take (i := 1) (v := .int .i64 (i : Int)) rfl (by kernel_rfl) (by kernel_rfl) (by kernel_rfl) (fun _ _ _ h => h) (Or.inl ⟨by rfl, fun W hW => by clear hW; go_simp⟩) H0.out ?_
              try simp only [Act.put, List.getElem_toArray, List.getElem_cons_succ, List.getElem_cons_zero, List.setIfInBounds_toArray, List.set_cons_zero, List.set_cons_succ]
              refine wpAnyH_take (i := 2) (v := .pointer (some ⟨bz, oz + i * 36, none⟩)) rfl (by kernel_rfl) (by kernel_rfl) (by kernel_rfl) (fun _ _ _ h => h) (Or.inl ⟨by rfl, fun W hW => by clear hW; go_simp⟩) H0.out ?_
              try simp only [Act.put, List.getElem_toArray, List.getElem_cons_succ, List.getElem_cons_zero, List.setIfInBounds_toArray, List.set_cons_zero, List.set_cons_succ]
              refine wpAnyH_take (i := 3) (v := .agg z.arr) rfl (by kernel_rfl) (by kernel_rfl) (by kernel_rfl) (fun _ _ _ h => h) (yields_run _ rfl (by rfl) rfl (fun W hW => hW.1)) H0.out ?_
              try simp only [Act.put, List.getElem_toArray, List.getElem_cons_succ, List.getElem_cons_zero, List.setIfInBounds_toArray, List.set_cons_zero, List.set_cons_succ]
              refine wpAnyH_take (i := 4) (v := .agg z.arr) rfl (by kernel_rfl) (by kernel_rfl) (by kernel_rfl) (fun _ _ _ h => h) (yields_run _ rfl (by rfl) rfl (fun W hW => hW.2.1)) H0.out ?_
              try simp only [Act.put, List.getElem_toArray, List.getElem_cons_succ, List.getElem_cons_zero, List.setIfInBounds_toArray, List.set_cons_zero, List.set_cons_succ]
              refine wpAnyH_take (i := 5) (v := .bool false) rfl (by kernel_rfl) (by kernel_rfl) (by kernel_rfl) (fun _ _ _ h => h) (yields_cmp _ _ rfl (by rfl) rfl rfl (by kernel_rfl) NQ.out) H0.out ?_
              try simp only [Act.put, List.getElem_toArray, List.getElem_cons_succ, List.getElem_cons_zero, List.setIfInBounds_toArray, List.set_cons_zero, List.set_cons_succ]
              refine wpAnyH_take (i := 6) (v := .bool false) rfl (by kernel_rfl) (by kernel_rfl) (by kernel_rfl) (fun _ _ _ h => h) (Or.inl ⟨by rfl, fun W hW => by clear hW; go_simp⟩) H0.out ?_
              try simp only [Act.put, List.getElem_toArray, List.getElem_cons_succ, List.getElem_cons_zero, List.setIfInBounds_toArray, List.set_cons_zero, List.set_cons_succ]
              refine wpAnyH_take (i := 7) (v := .int .i64 (i : Int)) rfl (by kernel_rfl) (by kernel_rfl) (by kernel_rfl) (fun _ _ _ h => h) (Or.inl ⟨by rfl, fun W hW => by clear hW; go_simp⟩) H0.out ?_
              try simp only [Act.put, List.getElem_toArray, List.getElem_cons_succ, List.getElem_cons_zero, List.setIfInBounds_toArray, List.set_cons_zero, List.set_cons_succ]
              refine wpAnyH_take (i := 8) (v := .bool true) rfl (by kernel_rfl) (by kernel_rfl) (by kernel_rfl) (fun _ _ _ h => h) (Or.inl ⟨by rfl, fun W hW => by clear hW; go_simp⟩) H0.out ?_
              try simp only [Act.put, List.getElem_toArray, List.getElem_cons_succ, List.getElem_cons_zero, List.setIfInBounds_toArray, List.set_cons_zero, List.set_cons_succ]
              refine wpAnyH_take (i := 9) (v := .bool true) rfl (by kernel_rfl) (by kernel_rfl) (by kernel_rfl) (fun _ _ _ h => h) (Or.inl ⟨by rfl, fun W hW => by clear hW; go_simp⟩) H0.out ?_
              try simp only [Act.put, List.getElem_toArray, List.getElem_cons_succ, List.getElem_cons_zero, List.setIfInBounds_toArray, List.set_cons_zero, List.set_cons_succ]
              refine wpAnyH_take (i := 10) (v := .slice (some ⟨bz, oz, none⟩) m cz) rfl (by kernel_rfl) (by kernel_rfl) (by kernel_rfl) (fun _ _ _ h => h) (Or.inl ⟨by rfl, fun W hW => by clear hW; go_simp⟩) H0.out ?_
              try simp only [Act.put, List.getElem_toArray, List.getElem_cons_succ, List.getElem_cons_zero, List.setIfInBounds_toArray, List.set_cons_zero, List.set_cons_succ]
              refine wpAnyH_take (i := 11) (v := .int .i64 (i : Int)) rfl (by kernel_rfl) (by kernel_rfl) (by kernel_rfl) (fun _ _ _ h => h) (Or.inl ⟨by rfl, fun W hW => by clear hW; go_simp⟩) H0.out ?_
              try simp only [Act.put, List.getElem_toArray, List.getElem_cons_succ, List.getElem_cons_zero, List.setIfInBounds_toArray, List.set_cons_zero, List.set_cons_succ]
              refine wpAnyH_take (i := 12) (v := .pointer (some ⟨bz, oz + i * 36, none⟩)) rfl (by kernel_rfl) (by kernel_rfl) (by kernel_rfl) (fun _ _ _ h => h) (Or.inl ⟨by rfl, fun W hW => by clear hW; go_simp⟩) H0.out ?_
              try simp only [Act.put, List.getElem_toArray, List.getElem_cons_succ, List.getElem_cons_zero, List.setIfInBounds_toArray, List.set_cons_zero, List.set_cons_succ]
              refine wpAnyH_take (i := 13) (v := .pointer (some ⟨bz, oz + i * 36, none⟩)) rfl (by kernel_rfl) (by kernel_rfl) (by kernel_rfl) (fun _ _ _ h => h) (Or.inl ⟨by rfl, fun W hW => by clear hW; go_simp⟩) H0.out ?_
              try simp only [Act.put, List.getElem_toArray, List.getElem_cons_succ, List.getElem_cons_zero, List.setIfInBounds_toArray, List.set_cons_zero, List.set_cons_succ]
              refine wpAnyH_take (i := 14) (v := .agg z.it.arr) rfl (by kernel_rfl) (by kernel_rfl) (by kernel_rfl) (fun _ _ _ h => h) (yields_run _ rfl (by rfl) rfl (fun W hW => hW.2.2.1)) H0.out ?_
              try simp only [Act.put, List.getElem_toArray, List.getElem_cons_succ, List.getElem_cons_zero, List.setIfInBounds_toArray, List.set_cons_zero, List.set_cons_succ]
              refine wpAnyH_take (i := 15) (v := .slice (some ⟨bz, oz, none⟩) m cz) rfl (by kernel_rfl) (by kernel_rfl) (by kernel_rfl) (fun _ _ _ h => h) (Or.inl ⟨by rfl, fun W hW => by clear hW; go_simp⟩) H0.out ?_
              try simp only [Act.put, List.getElem_toArray, List.getElem_cons_succ, List.getElem_cons_zero, List.setIfInBounds_toArray, List.set_cons_zero, List.set_cons_succ]
              refine wpAnyH_take (i := 16) (v := .int .i64 (i : Int)) rfl (by kernel_rfl) (by kernel_rfl) (by kernel_rfl) (fun _ _ _ h => h) (Or.inl ⟨by rfl, fun W hW => by clear hW; go_simp⟩) H0.out ?_
              try simp only [Act.put, List.getElem_toArray, List.getElem_cons_succ, List.getElem_cons_zero, List.setIfInBounds_toArray, List.set_cons_zero, List.set_cons_succ]
              refine wpAnyH_take (i := 17) (v := .int .i64 (j : Int)) rfl (by kernel_rfl) (by kernel_rfl) (by kernel_rfl) (fun _ _ _ h => h) (Or.inl ⟨by rfl, fun W hW => by clear hW; go_simp⟩) H0.out ?_
              try simp only [Act.put, List.getElem_toArray, List.getElem_cons_succ, List.getElem_cons_zero, List.setIfInBounds_toArray, List.set_cons_zero, List.set_cons_succ]
              refine wpAnyH_take (i := 18) (v := .pointer (some ⟨bz, oz + j * 36, none⟩)) rfl (by kernel_rfl) (by kernel_rfl) (by kernel_rfl) (fun _ _ _ h => h) (Or.inl ⟨by rfl, fun W hW => by clear hW; go_simp⟩) H0.out ?_
              try simp only [Act.put, List.getElem_toArray, List.getElem_cons_succ, List.getElem_cons_zero, List.setIfInBounds_toArray, List.set_cons_zero, List.set_cons_succ]
              refine wpAnyH_take (i := 19) (v := .pointer (some ⟨bz, oz + j * 36, none⟩)) rfl (by kernel_rfl) (by kernel_rfl) (by kernel_rfl) (fun _ _ _ h => h) (Or.inl ⟨by rfl, fun W hW => by clear hW; go_simp⟩) H0.out ?_
              try simp only [Act.put, List.getElem_toArray, List.getElem_cons_succ, List.getElem_cons_zero, List.setIfInBounds_toArray, List.set_cons_zero, List.set_cons_succ]
              refine wpAnyH_take (i := 20) (v := .agg u.it.arr) rfl (by kernel_rfl) (by kernel_rfl) (by kernel_rfl) (fun _ _ _ h => h) (yields_run _ rfl (by rfl) rfl (fun W hW => hW.2.2.2)) H0.out ?_
              try simp only [Act.put, List.getElem_toArray, List.getElem_cons_succ, List.getElem_cons_zero, List.setIfInBounds_toArray, List.set_cons_zero, List.set_cons_succ]
              refine wpAnyH_take (i := 21) (v := .bool false) rfl (by kernel_rfl) (by kernel_rfl) (by kernel_rfl) (fun _ _ _ h => h) (yields_cmp _ _ rfl (by rfl) rfl rfl (by kernel_rfl) EQ.out) H0.out ?_
              try simp only [Act.put, List.getElem_toArray, List.getElem_cons_succ, List.getElem_cons_zero, List.setIfInBounds_toArray, List.set_cons_zero, List.set_cons_succ]
              refine wpAnyH_take (i := 22) (v := .bool false) rfl (by kernel_rfl) (by kernel_rfl) (by kernel_rfl) (fun _ _ _ h => h) (Or.inl ⟨by rfl, fun W hW => by clear hW; go_simp⟩) H0.out ?_
              try simp only [Act.put, List.getElem_toArray, List.getElem_cons_succ, List.getElem_cons_zero, List.setIfInBounds_toArray, List.set_cons_zero, List.set_cons_succ]
              refine wpAnyH_take (i := 23) (v := .bool false) rfl (by kernel_rfl) (by kernel_rfl) (by kernel_rfl) (fun _ _ _ h => h) (Or.inl ⟨by rfl, fun W hW => by clear hW; go_simp⟩) H0.out ?_
              try simp only [Act.put, List.getElem_toArray, List.getElem_cons_succ, List.getElem_cons_zero, List.setIfInBounds_toArray, List.set_cons_zero, List.set_cons_succ]
              refine wpAnyH_done (by kernel_rfl) ?_ _
              go_wp2
              go_roundw
              case rel => exact ⟨i + 1, by omega, by go_num, h8.tail⟩
              case measure => simp [intOf]; omega

        · obtain rfl : i = m := by omega
          have g2 : ((i : Int) < (i : Int)) = False := eq_false (by omega)
          have q1 := (XB.out _ h4).1
          have EB : ∀ V, (binOp .eql 44 (.agg (lnA Z2.bs)) (.agg (lnA Z.bs))).run Try.prog V = .ok (.bool true) V := fun V => by rw [eql_ln _ _ Z2.hl Z.hl, decide_eq_true MG2.out.1]
          have gb : (B == B) = true := by simp
          go_wp2_with (first
            | (have _ := q1; refine wpList_loadIt (e := x) q1 _ rfl rfl rfl ?_; clear q1)
            | (have _ := h4; go_at_call 19; refine (GE2.out _ _ h4).mono ?_; clear GE2; rintro e2 Y2 ⟨rfl, hb2⟩; have h5 := WC.call h4 hb2; clear h4 hb2)
            | (have _ := h5; refine wpList_alloc_cdW h5 rfl rfl ?_; clear h5; intro Y3 h6; generalize Y2.heap.size = nb2 at *)
            | (have _ := h6; refine wpList_store_cdW h6 0 Z2 rfl _ _ rfl rfl rfl rfl ?_; clear h6; intro Y4 h7; have a1 : Y4.rangeAt nb2 3 (vals Z2.bs) := (by have := range_ln (at_cd (h7.at2 0 rfl)); rwa [Nat.zero_add] at this); have a2 : Y4.rangeAt ob 3 (vals Z.bs) := (by have := range_ln (at_cd (XB.out _ h7.tail).2); rwa [Nat.zero_add] at this); have a3 : Y4.cell? ⟨nb2, 35, none⟩ = some (.bool Z.dt) := (h7.cell 0 rfl 35 _ Z2.at35).trans (by rw [MG2.out.2]); have a4 : Y4.cell? ⟨ob, 35, none⟩ = some (.bool Z.dt) := ((XB.out _ h7.tail).2.cell 35).trans Z.at35)
            | (have _ := a1; refine wpList_loadLn Z2.hl a1 _ rfl rfl rfl ?_; clear a1)
            | (have _ := a2; refine wpList_loadLn Z.hl a2 _ rfl rfl rfl ?_; clear a2))
          go_ret
          exact ⟨by simp, h7.st.bel⟩
end Go.Proofs.Ytnogmfpaipjdaaa
