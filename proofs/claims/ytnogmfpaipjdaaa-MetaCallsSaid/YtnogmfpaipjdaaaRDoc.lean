/- The document's caches in memory: a plan, and one row of what is cached. No statement is proved here. Where an item stands in the document's row. No statement is proved here. Whether there is such an item, as the document has it. No statement is proved here. Allocations and stores beside the document's caches; its row is appended to, and set. No statement is proved here. What is at a place of the document's row is taken out. No statement is proved here. The document's Drop, Update. No statement is proved here. -/
import Derived.Test.YtnogmfpaipjdaaaDrop
import Derived.Test.YtnogmfpaipjdaaaLawK
namespace Go.Proofs.Ytnogmfpaipjdaaa
open Go.RowKit
open P (Pl right hasI vals)
set_option maxRecDepth 20000
set_option linter.unusedVariables false
set_option linter.unusedSimpArgs false

section
variable {ops : Array Oper} {a : Act} {o : Oper}
/-- Two structs compared, in a region that draws its order. -/
theorem yields_cmpA {S : World → Prop} {op : BinOp} {t t2 : TypeId} {xs ys : Array Value} {v : Value} (x y : Operand) (ho : o.op = .binOp op t x y t2) (hw : Region.wanted o (yielded ops a.tmps) = true)
    (hx : a.eval x = .agg xs) (hy : a.eval y = .agg ys) (hm : Try.prog.eqGuardType Try.prog.depth t = false) (h : ∀ W, (binOp op t (.agg xs) (.agg ys)).run Try.prog W = .ok v W) : YieldsIf Try.prog ops S o v a :=
  .inl ⟨hw, fun W _ => by
    unfold execOp
    simp only [ho, hx, hy, Sem.run_bind, @run_eqGuard_agg _ _ op t x y xs ys hm, Sem.run_pure, Result.andThen_ok, h W]⟩
end
/-- Block r is the document's caches: the plan p, all that is cached l. -/
def RC (w W : World) (r : Nat) (p : Pl) (l : List Cd) (L : Blks) : Prop := ∃ v M, RL v l M ∧ St w W (M ++ ((r, C 40 (pcar p v)) :: L))
section
variable {w W W' : World} {r : Nat} {p : Pl} {l : List Cd} {L M : Blks}
theorem RC.lift (h : RC w W r p l L) : ∃ Y : Blks, St w W (Y ++ L) ∧ ∀ W' M, St w W' (Y ++ M) → RC w W' r p l M := by
  obtain ⟨v, M, h1, h2⟩ := h
  exact ⟨M ++ [(r, C 40 (pcar p v))], by simpa using h2, fun W' N h' => ⟨v, M, h1, by simpa using h'⟩⟩
theorem RC.st (h : RC w W r p l L) : St w W L := by
  obtain ⟨Y, h1, _⟩ := h.lift
  exact h1.sub (List.sublist_append_right _ _)
theorem RC.bel (h : RC w W r p l L) : Below w.heap.size w W := h.st.bel
theorem RC.drewN (h : RC w W r p l L) (j : Nat) : RC w (W.drewN j) r p l L := by
  obtain ⟨Y, hs, up⟩ := h.lift
  exact up _ _ (hs.drewN j)
theorem RC.call (h : RC w W r p l L) (hb : Below W.heap.size W W') : RC w W' r p l L := by
  obtain ⟨Y, hs, up⟩ := h.lift
  exact up _ _ (hs.call hb)
theorem RC.sub (h : RC w W r p l L) (hs : M.Sublist L) : RC w W r p l M := by
  obtain ⟨Y, hs', up⟩ := h.lift
  exact up _ _ (hs'.sub (hs.append_left Y))
theorem RC.perm (h : RC w W r p l L) (hp : L.Perm M) : RC w W r p l M := by
  obtain ⟨Y, hs', up⟩ := h.lift
  exact up _ _ (hs'.perm (hp.append_left Y))
theorem RC.tail {x : Nat × Obj} (h : RC w W r p l (x :: L)) : RC w W r p l L := h.sub (List.sublist_cons_self x L)
theorem RC.at2 (h : RC w W r p l L) (i : Nat) {q : Nat} {t : TypeId} {arr : Array Value} (hi : L[i]? = some (q, C t arr)) : At W q t arr := h.st.get i hi
theorem RC.cell (h : RC w W r p l L) (i : Nat) {q : Nat} {t : TypeId} {arr : Array Value} (hi : L[i]? = some (q, C t arr)) (j : Nat) (v : Value) (hv : arr[j]? = some v) : W.cell? ⟨q, j, none⟩ = some v := h.st.cell i hi j v hv
theorem RC.front {x : Nat × Obj} {Y : Blks} (up : ∀ W' M, St w W' (Y ++ M) → RC w W' r p l M) (h : St w W' (x :: (Y ++ L))) : RC w W' r p l (x :: L) := up _ _ (h.perm List.perm_middle.symm)
theorem RC.blk (h : RC w W r p l L) : ∃ v, At W r 40 (pcar p v) := by
  obtain ⟨v, M, h1, h2⟩ := h
  exact ⟨v, h2.at_ (r, C 40 (pcar p v)) (by simp)⟩
theorem RC.c1 (h : RC w W r p l L) : W.cell? ⟨r, 1, none⟩ = some (.int .i64 p.ba) := by
  obtain ⟨v, h1⟩ := h.blk
  exact (h1.cell 1).trans ((pcar_lt p v 1 (by omega)).trans p.at1)
theorem RC.c4 (h : RC w W r p l L) : W.cell? ⟨r, 4, none⟩ = some (.int .i64 p.ar) := by
  obtain ⟨v, h1⟩ := h.blk
  exact (h1.cell 4).trans ((pcar_lt p v 4 (by omega)).trans p.at4)
theorem RC.c11 (h : RC w W r p l L) : W.cell? ⟨r, 11, none⟩ = some (.int .i64 p.me) := by
  obtain ⟨v, h1⟩ := h.blk
  exact (h1.cell 11).trans ((pcar_lt p v 11 (by omega)).trans p.at11)
theorem RC.plan (h : RC w W r p l L) : W.rangeAt r 0 p.cs := by
  obtain ⟨v, h1⟩ := h.blk
  exact pcar_range h1
theorem RC.row (h : RC w W r p l L) : ∃ A c, W.cell? ⟨r, 46, none⟩ = some (.slice A l.length c) ∧ ERow W W.heap.size A l.length c l := by
  obtain ⟨v, M, h1, h2⟩ := h
  obtain ⟨A, c, rfl, _⟩ := h1.form
  have hA : At W r 40 (pcar p (.slice A l.length c)) := h2.at_ (r, C 40 (pcar p (.slice A l.length c))) (by simp)
  exact ⟨A, c, (hA.cell 46).trans (pcar46 _ _), h1.row h2 rfl⟩
theorem RC.rlt (h : RC w W r p l L) : r < W.heap.size := cell_lt h.c1
theorem there_any (k : Int) (W : World) (h : W.cell? ⟨r, 1, none⟩ = some (.int .i64 p.ba)) :
    Calls Try.prog 33 #[.pointer (some ⟨r, 0, none⟩), .int .i64 k] W fun e W' => e = .returned (.bool (hasB p k)) ∧ W' = W := by
  have E := Lib.hid (show hasB p k = (decide (0 ≤ k) && decide (k < p.ba)) from rfl)
  generalize hasB p k = B at *
  generalize p.ba = n at *
  by_cases h0 : 0 ≤ k
  · have q1 : decide (k ≥ 0) = true := decide_eq_true (by omega)
    have q2 : (k ≥ 0) = True := eq_true (by omega)
    have q4 : (0 ≤ k) = True := eq_true (by omega)
    by_cases h1 : k < n
    · have q3 : decide (k < n) = true := decide_eq_true h1
      have e : Hid (B = true) := show _ = _ by rw [E.out, q3, decide_eq_true h0]; rfl
      go_enter Try.func33, Try.ntmps33
      go_wp2
      go_ret
      exact ⟨by rw [e.out]; rfl, rfl⟩
    · have q3 : decide (k < n) = false := decide_eq_false h1
      have e : Hid (B = false) := show _ = _ by rw [E.out, q3, decide_eq_true h0]; rfl
      go_enter Try.func33, Try.ntmps33
      go_wp2
      go_ret
      exact ⟨by rw [e.out]; rfl, rfl⟩
  · have q1 : decide (k ≥ 0) = false := decide_eq_false (by omega)
    have q2 : (k ≥ 0) = False := eq_false (by omega)
    have q4 : (0 ≤ k) = False := eq_false (by omega)
    have e : Hid (B = false) := show _ = _ by rw [E.out, decide_eq_false h0]; rfl
    go_enter Try.func33, Try.ntmps33
    go_wp2
    go_ret
    exact ⟨by rw [e.out]; rfl, rfl⟩
/-- How many are in a bank. -/
def cntB (l : List Cd) (k : Int) : Nat := (l.filter (fun c => c.bk == k)).length
theorem cntB_bkL (l : List Cd) (i : Nat) : cntB l (i : Int) = (bkL l i).length := rfl
theorem cntB_le (l : List Cd) (k : Int) : cntB l k ≤ l.length := List.length_filter_le _ _
theorem cnt_step {l : List Cd} {j : Nat} {y : Cd} (h : l[j]? = some y) (k : Int) : cntB (l.take (j + 1)) k = cntB (l.take j) k + (if y.bk = k then 1 else 0) := by
  obtain ⟨h1, rfl⟩ := List.getElem?_eq_some_iff.1 h
  unfold cntB
  rw [List.take_add_one, h, List.filter_append, List.length_append]
  simp only [Option.toList_some, List.filter_cons, List.filter_nil, beq_iff_eq]
  split <;> simp
def CntRel (W : World) (l : List Cd) (k : Int) (c i : Value) (wr : World) : Prop :=
  ∃ j : Nat, j ≤ l.length ∧ i = .int .i64 (j : Nat) ∧ c = .int .i64 (cntB (l.take j) k : Nat) ∧ wr = W
set_option maxHeartbeats 1000000 in
theorem count_any {A : Option Addr} {q : Nat} (k : Int) (W : World) (h : W.cell? ⟨r, 46, none⟩ = some (.slice A l.length q)) (hr : ERow W W.heap.size A l.length q l) :
    Calls Try.prog 41 #[.pointer (some ⟨r, 0, none⟩), .int .i64 k] W fun e W' => e = .returned (.int .i64 (cntB l k : Nat)) ∧ W' = W := by
  have mx := hr.max
  have CB := Lib.hid (fun j y (hy : l[j]? = some y) => show ∃ bb o, A = some ⟨bb, o, none⟩ ∧ W.cell? ⟨bb, o + j * 36 + 2, none⟩ = some (.int .i64 y.bk) from by
    obtain ⟨bb, o, rfl, _, rg⟩ := hr.at_ j y hy
    exact ⟨bb, o, rfl, rg 2 _ (by simp [Elt.cs, Cd.cs])⟩)
  have ST := Lib.hid (fun j y (hy : l[j]? = some y) => cnt_step hy k)
  have LE := Lib.hid (fun j => show cntB (l.take j) k ≤ j from Nat.le_trans (cntB_le _ _) (by rw [List.length_take]; omega))
  have GY := Lib.hid (fun j (hj : j < l.length) => show ∃ y, l[j]? = some y from ⟨_, List.getElem?_eq_getElem hj⟩)
  have TA := Lib.hid (show l.take l.length = l from List.take_length)
  clear hr
  generalize hn : l.length = n at *
  go_enter Try.func41, Try.ntmps41
  go_wp2
  go_loopw [5, 6] (CntRel W l k) (fun _ i _ => n - (intOf i).toNat)
  case atStart => exact ⟨0, by omega, rfl, rfl, rfl⟩
  case round =>
    obtain ⟨j, hj, rfl, rfl, rfl⟩ := hrel
    by_cases hlt : j < n
    · have g1 : ((j : Int) < (n : Int)) = True := eq_true (by omega)
      obtain ⟨y, hy⟩ := GY.out j hlt
      obtain ⟨bb, o, rfl, d0⟩ := CB.out j y hy
      have st := ST.out j y hy
      have le := LE.out j
      by_cases e : y.bk = k
      · rw [if_pos e] at st
        have st := Lib.hid st
        have q1 : (y.bk == k) = true := by simpa using e
        have q2 : (y.bk = k) = True := eq_true e
        generalize cntB (l.take j) k = m at *
        have hw : IntKind.i64.wrap ((m : Int) + 1) = (m : Int) + 1 := IntWalk.i64_in _ (by omega)
        go_wp2
        go_roundw
        case rel => exact ⟨j + 1, by omega, by go_num, by rw [st.out]; go_num, rfl⟩
        case measure => simp [intOf]; omega
      · rw [if_neg e] at st
        have st := Lib.hid st
        have q1 : (y.bk == k) = false := by simpa using e
        have q2 : (y.bk = k) = False := eq_false e
        generalize cntB (l.take j) k = m at *
        go_wp2
        go_roundw
        case rel => exact ⟨j + 1, by omega, by go_num, by rw [st.out]; go_num, rfl⟩
        case measure => simp [intOf]; omega
    · obtain rfl : j = n := by omega
      have g1 : ((j : Int) < (j : Int)) = False := eq_false (by omega)
      go_wp2
      go_ret
      refine ⟨?_, rfl⟩
      rw [TA.out]
      rfl
theorem rroom_any (h : RC w W r p l L) (hp : right p = true) (k : Int) :
    Calls Try.prog 22 #[.pointer (some ⟨r, 0, none⟩), .int .i64 k] W fun e W' => e = .returned (.int .i64 (roomV p l k)) ∧ ∃ j, W' = W.drewN j := by
  have c1 := h.c1
  have TH := Lib.hid (fun W h => there_any (r := r) (p := p) k W h)
  by_cases h0 : 0 ≤ k ∧ k < p.ba
  · rw [(hasB_iff p k).2 h0] at TH
    obtain ⟨A, q, d0, hr⟩ := h.row
    have CO := Lib.hid (fun V (h : V.cell? ⟨r, 46, none⟩ = some (.slice A l.length q)) (hr : ERow V V.heap.size A l.length q l) => count_any k V h hr)
    have E := Lib.hid (show roomV p l k = p.me - (cntB l k : Int) by
      unfold roomV; rw [if_pos h0]
      obtain ⟨i, rfl⟩ : ∃ i : Nat, k = (i : Int) := ⟨k.toNat, by omega⟩
      rfl)
    have mx := hr.max
    have le := cntB_le l k
    have mn := (P.right_facts hp).2.2
    have f3 := (nb_facts hp).2.2
    have mn2 : 0 ≤ p.me := by
      have h2 := (P.right_facts hp).2.1
      have := mn.1
      unfold P.Ls at this
      rw [if_pos h2, f3] at this
      have : (0 : Int) ≤ (nb p : Int) * (P.Lv p : Int) := Int.mul_nonneg (by omega) (by omega)
      omega
    have mn3 := mn.2
    have c11 := h.c11
    have c46 := Lib.hid d0
    have hr := Lib.hid hr
    clear d0
    generalize roomV p l k = R at *
    generalize p.me = m at *
    generalize cntB l k = n at *
    clear h mn h0 f3 hp
    go_enter Try.func22, Try.ntmps22
    go_wp2_with (go_at_call 33; refine (TH.out _ c1).mono ?_; rintro e W2 ⟨rfl, rfl⟩)
    go_quiet ((go_at_call 41; exact Calls.quiet_of_same (CO.out _ c46.out hr.out)))
    go_wp2
    go_ret
    exact ⟨by rw [E.out]; rfl, _, rfl⟩
  · have hb : hasB p k = false := by
      cases hq : hasB p k with
      | false => rfl
      | true => exact absurd ((hasB_iff p k).1 hq) h0
    rw [hb] at TH
    have E := Lib.hid (show roomV p l k = 0 by unfold roomV; rw [if_neg h0])
    generalize roomV p l k = R at *
    clear h
    go_enter Try.func22, Try.ntmps22
    go_wp2_with (go_at_call 33; refine (TH.out _ c1).mono ?_; rintro e W2 ⟨rfl, rfl⟩)
    go_ret
    exact ⟨by rw [E.out]; rfl, 0, rfl⟩
end
end Go.Proofs.Ytnogmfpaipjdaaa
namespace Go.Proofs.Ytnogmfpaipjdaaa
open Go.RowKit
open P (Pl right hasI vals)
set_option maxRecDepth 20000
set_option linter.unusedVariables false
set_option linter.unusedSimpArgs false

/-- The place of an item in the row; -1: it isn't there. -/
def fI (l : List Cd) (x : It) : Int := match l.findIdx? (fun c => decide (c.it = x)) with
  | some k => (k : Int)
  | none => -1
theorem fI_spec (l : List Cd) (x : It) : (findC l x = none ∧ fI l x = -1) ∨ ∃ k c, findC l x = some c ∧ l[k]? = some c ∧ fI l x = (k : Nat) := by
  unfold findC fI
  induction l with
  | nil => exact .inl ⟨rfl, rfl⟩
  | cons y l ih =>
    rw [List.find?_cons, List.findIdx?_cons]
    cases hd : decide (y.it = x) with
    | true => exact .inr ⟨0, y, rfl, rfl, rfl⟩
    | false =>
      simp only [hd, Bool.false_eq_true, if_false]
      rcases ih with ⟨h1, h2⟩ | ⟨k, c, h1, h2, h3⟩
      · refine .inl ⟨h1, ?_⟩
        cases hq : l.findIdx? (fun c => decide (c.it = x)) with
        | none => rfl
        | some k => rw [hq] at h2; simp only at h2; omega
      · refine .inr ⟨k + 1, c, h1, by simpa using h2, ?_⟩
        cases hq : l.findIdx? (fun c => decide (c.it = x)) with
        | none => rw [hq] at h3; simp only at h3; omega
        | some j => rw [hq] at h3; simp only [Option.map_some] at h3 ⊢; omega
theorem fI_none {l : List Cd} {x : It} (h : NotAhead l x l.length) : fI l x = -1 := by
  rcases fI_spec l x with ⟨_, h2⟩ | ⟨k, c, h1, h2, h3⟩
  · exact h2
  · exact absurd (findC_some h1).2 (h k c (List.getElem?_eq_some_iff.1 h2).1 h2)
theorem fI_at {l : List Cd} {x : It} {k : Nat} {y : Cd} (h : NotAhead l x k) (hy : l[k]? = some y) (he : y.it = x) : fI l x = (k : Nat) := by
  unfold fI
  have : l.findIdx? (fun c => decide (c.it = x)) = some k := by
    rw [List.findIdx?_eq_some_iff_getElem]
    obtain ⟨h1, h2⟩ := List.getElem?_eq_some_iff.1 hy
    refine ⟨h1, by rw [h2]; simpa using he, fun j hj => ?_⟩
    have := h j _ hj (List.getElem?_eq_getElem (by omega))
    simpa using this
  rw [this]
def RfRel (W : World) (l : List Cd) (x : It) (xb : Nat) (i : Value) (wr : World) : Prop :=
  ∃ j : Nat, j ≤ l.length ∧ i = .int .i64 (j : Nat) ∧ NotAhead l x j ∧ St W wr [(xb, C 42 x.arr)]
attribute [local irreducible] It.arr Cd.arr
section
variable {w W W' : World} {r : Nat} {p : Pl} {l : List Cd} {L M : Blks}
set_option maxHeartbeats 4000000 in
theorem rfind_any (h : RC w W r p l L) (x : It) :
    Calls Try.prog 20 #[.pointer (some ⟨r, 0, none⟩), .agg x.arr] W fun e W' => e = .returned (.int .i64 (fI l x)) ∧ Below W.heap.size W W' := by
  obtain ⟨A, q, c46, hr⟩ := h.row
  have rlt := h.rlt
  have mx := hr.max
  have S0 := St.nil W
  have hr := Lib.hid hr
  have FN := Lib.hid (fun h => fI_none (l := l) (x := x) h)
  have FA := Lib.hid (fun k y h hy he => fI_at (l := l) (x := x) (k := k) (y := y) h hy he)
  have GY := Lib.hid (fun j (hj : j < l.length) => show ∃ y, l[j]? = some y from ⟨_, List.getElem?_eq_getElem hj⟩)
  have hn := Lib.hid (show l.length = l.length from rfl)
  clear h
  generalize hln : l.length = n at *
  replace hln := Lib.hid hln
  clear hn
  generalize fI l x = R at *
  go_enter Try.func20, Try.ntmps20
  go_wp2_with (refine wpList_box_it S0 x _ rfl rfl rfl ?_; clear S0; intro W1 h1 _; generalize hxb : W.heap.size = xb at *)
  go_loopw [5] (RfRel W l x xb) (fun i _ => n - (intOf i).toNat)
  case atStart => exact ⟨0, by omega, rfl, notAhead_zero l x, h1⟩
  case round =>
    obtain ⟨j, hj, rfl, hah, hst⟩ := hrel
    clear h1
    rw [hln.out] at hj
    have hah := Lib.hid hah
    have d46 := (hst.bel.cell (p := ⟨r, 46, none⟩) (by rw [hxb]; exact rlt)).trans c46
    by_cases hlt : j < n
    · have g1 : ((j : Int) < (n : Int)) = True := eq_true (by omega)
      obtain ⟨y, hy⟩ := GY.out j hlt
      obtain ⟨bb, o, rfl, hb2, rg⟩ := hr.out.at_ j y hy
      have r1 : wr.rangeAt bb (o + j * 36) (Elt.cs y) := rangeAt_keep rg (hst.bel.block _ (by rw [hxb]; exact hb2))
      have L1 : ∀ n, (loadVar 42 ⟨bb, o + j * 36, none⟩).run Try.prog (wr.drewN n) = .ok (.agg y.it.arr) (wr.drewN n) := fun n => load_it (W := wr.drewN n) (range_it r1)
      have L2 : ∀ n, (loadVar 42 ⟨xb, 0, none⟩).run Try.prog (wr.drewN n) = .ok (.agg x.arr) (wr.drewN n) := fun n => load_itA (W := wr.drewN n) (hst.get 0 rfl)
      replace hy := Lib.hid hy
      clear rg hb2 r1
      have EQ := fun V => eql_it y.it x V
      by_cases hyx : y.it = x
      · rw [decide_eq_true hyx] at EQ
        have fa := Lib.hid (FA.out j y hah.out hy.out hyx)
        replace hyx := Lib.hid hyx
        go_wp2
        refine wp_region_held_drew (S := fun W => W.cell? ⟨r, 46, none⟩ = some (.slice (some ⟨bb, o, none⟩) n q) ∧ (loadVar 42 ⟨bb, o + j * 36, none⟩).run Try.prog W = .ok (.agg y.it.arr) W ∧ (loadVar 42 ⟨xb, 0, none⟩).run Try.prog W = .ok (.agg x.arr) W) (by kernel_rfl) ⟨d46, L1 1, L2 1⟩ (fun hS0 => ?_)
        have H0 := Lib.hid hS0
        clear hS0
        have D0 := hst.drew
        clear d46 hst L1 L2
        generalize wr.drew = V0 at *
        replace D0 : St W V0 [(xb, C 42 x.arr)] := D0
        refine wpAnyH_take (i := 0) (v := .pointer (some ⟨r, 0, none⟩)) rfl (by kernel_rfl) (by kernel_rfl) (by kernel_rfl) (fun _ _ _ h => h) (Or.inl ⟨by rfl, fun W hW => by clear hW; go_simp⟩) H0.out ?_
        try simp only [Act.put, List.getElem_toArray, List.getElem_cons_succ, List.getElem_cons_zero, List.setIfInBounds_toArray, List.set_cons_zero, List.set_cons_succ]
        refine wpAnyH_take (i := 1) (v := .pointer (some ⟨r, 0, none⟩)) rfl (by kernel_rfl) (by kernel_rfl) (by kernel_rfl) (fun _ _ _ h => h) (Or.inl ⟨by rfl, fun W hW => by clear hW; go_simp⟩) H0.out ?_
        try simp only [Act.put, List.getElem_toArray, List.getElem_cons_succ, List.getElem_cons_zero, List.setIfInBounds_toArray, List.set_cons_zero, List.set_cons_succ]
        refine wpAnyH_take (i := 2) (v := .pointer (some ⟨r, 46, none⟩)) rfl (by kernel_rfl) (by kernel_rfl) (by kernel_rfl) (fun _ _ _ h => h) (Or.inl ⟨by rfl, fun W hW => by clear hW; go_simp⟩) H0.out ?_
        try simp only [Act.put, List.getElem_toArray, List.getElem_cons_succ, List.getElem_cons_zero, List.setIfInBounds_toArray, List.set_cons_zero, List.set_cons_succ]
        refine wpAnyH_take (i := 3) (v := .slice (some ⟨bb, o, none⟩) n q) rfl (by kernel_rfl) (by kernel_rfl) (by kernel_rfl) (fun _ _ _ h => h) (Or.inl ⟨by rfl, fun W hW => by have hc := (show W.cell? ⟨r, 46, none⟩ = some (.slice (some ⟨bb, o, none⟩) n q) from hW.1); clear hW; go_simp⟩) H0.out ?_
        try simp only [Act.put, List.getElem_toArray, List.getElem_cons_succ, List.getElem_cons_zero, List.setIfInBounds_toArray, List.set_cons_zero, List.set_cons_succ]
        refine wpAnyH_take (i := 4) (v := .int .i64 (j : Int)) rfl (by kernel_rfl) (by kernel_rfl) (by kernel_rfl) (fun _ _ _ h => h) (Or.inl ⟨by rfl, fun W hW => by clear hW; go_simp⟩) H0.out ?_
        try simp only [Act.put, List.getElem_toArray, List.getElem_cons_succ, List.getElem_cons_zero, List.setIfInBounds_toArray, List.set_cons_zero, List.set_cons_succ]
        refine wpAnyH_take (i := 5) (v := .pointer (some ⟨bb, o + j * 36, none⟩)) rfl (by kernel_rfl) (by kernel_rfl) (by kernel_rfl) (fun _ _ _ h => h) (Or.inl ⟨by rfl, fun W hW => by clear hW; go_simp⟩) H0.out ?_
        try simp only [Act.put, List.getElem_toArray, List.getElem_cons_succ, List.getElem_cons_zero, List.setIfInBounds_toArray, List.set_cons_zero, List.set_cons_succ]
        refine wpAnyH_take (i := 6) (v := .pointer (some ⟨bb, o + j * 36, none⟩)) rfl (by kernel_rfl) (by kernel_rfl) (by kernel_rfl) (fun _ _ _ h => h) (Or.inl ⟨by rfl, fun W hW => by clear hW; go_simp⟩) H0.out ?_
        try simp only [Act.put, List.getElem_toArray, List.getElem_cons_succ, List.getElem_cons_zero, List.setIfInBounds_toArray, List.set_cons_zero, List.set_cons_succ]
        refine wpAnyH_take (i := 7) (v := .agg y.it.arr) rfl (by kernel_rfl) (by kernel_rfl) (by kernel_rfl) (fun _ _ _ h => h) (yields_run _ rfl (by rfl) rfl (fun W hW => hW.2.1)) H0.out ?_
        try simp only [Act.put, List.getElem_toArray, List.getElem_cons_succ, List.getElem_cons_zero, List.setIfInBounds_toArray, List.set_cons_zero, List.set_cons_succ]
        refine wpAnyH_take (i := 8) (v := .agg x.arr) rfl (by kernel_rfl) (by kernel_rfl) (by kernel_rfl) (fun _ _ _ h => h) (yields_run _ rfl (by rfl) rfl (fun W hW => hW.2.2)) H0.out ?_
        try simp only [Act.put, List.getElem_toArray, List.getElem_cons_succ, List.getElem_cons_zero, List.setIfInBounds_toArray, List.set_cons_zero, List.set_cons_succ]
        refine wpAnyH_take (i := 9) (v := .bool true) rfl (by kernel_rfl) (by kernel_rfl) (by kernel_rfl) (fun _ _ _ h => h) (yields_cmpA _ _ rfl (by rfl) rfl rfl (by kernel_rfl) EQ) H0.out ?_
        try simp only [Act.put, List.getElem_toArray, List.getElem_cons_succ, List.getElem_cons_zero, List.setIfInBounds_toArray, List.set_cons_zero, List.set_cons_succ]
        refine wpAnyH_done (by kernel_rfl) ?_ _
        go_wp2
        go_ret
        exact ⟨by rw [fa.out]; rfl, D0.bel⟩
      · rw [decide_eq_false hyx] at EQ
        replace hyx := Lib.hid hyx
        go_wp2
        refine wp_region_held_drew (S := fun W => W.cell? ⟨r, 46, none⟩ = some (.slice (some ⟨bb, o, none⟩) n q) ∧ (loadVar 42 ⟨bb, o + j * 36, none⟩).run Try.prog W = .ok (.agg y.it.arr) W ∧ (loadVar 42 ⟨xb, 0, none⟩).run Try.prog W = .ok (.agg x.arr) W) (by kernel_rfl) ⟨d46, L1 1, L2 1⟩ (fun hS0 => ?_)
        have H0 := Lib.hid hS0
        clear hS0
        have D0 := hst.drew
        clear d46 hst L1 L2
        generalize wr.drew = V0 at *
        replace D0 : St W V0 [(xb, C 42 x.arr)] := D0
        refine wpAnyH_take (i := 0) (v := .pointer (some ⟨r, 0, none⟩)) rfl (by kernel_rfl) (by kernel_rfl) (by kernel_rfl) (fun _ _ _ h => h) (Or.inl ⟨by rfl, fun W hW => by clear hW; go_simp⟩) H0.out ?_
        try simp only [Act.put, List.getElem_toArray, List.getElem_cons_succ, List.getElem_cons_zero, List.setIfInBounds_toArray, List.set_cons_zero, List.set_cons_succ]
        refine wpAnyH_take (i := 1) (v := .pointer (some ⟨r, 0, none⟩)) rfl (by kernel_rfl) (by kernel_rfl) (by kernel_rfl) (fun _ _ _ h => h) (Or.inl ⟨by rfl, fun W hW => by clear hW; go_simp⟩) H0.out ?_
        try simp only [Act.put, List.getElem_toArray, List.getElem_cons_succ, List.getElem_cons_zero, List.setIfInBounds_toArray, List.set_cons_zero, List.set_cons_succ]
        refine wpAnyH_take (i := 2) (v := .pointer (some ⟨r, 46, none⟩)) rfl (by kernel_rfl) (by kernel_rfl) (by kernel_rfl) (fun _ _ _ h => h) (Or.inl ⟨by rfl, fun W hW => by clear hW; go_simp⟩) H0.out ?_
        try simp only [Act.put, List.getElem_toArray, List.getElem_cons_succ, List.getElem_cons_zero, List.setIfInBounds_toArray, List.set_cons_zero, List.set_cons_succ]
        refine wpAnyH_take (i := 3) (v := .slice (some ⟨bb, o, none⟩) n q) rfl (by kernel_rfl) (by kernel_rfl) (by kernel_rfl) (fun _ _ _ h => h) (Or.inl ⟨by rfl, fun W hW => by have hc := (show W.cell? ⟨r, 46, none⟩ = some (.slice (some ⟨bb, o, none⟩) n q) from hW.1); clear hW; go_simp⟩) H0.out ?_
        try simp only [Act.put, List.getElem_toArray, List.getElem_cons_succ, List.getElem_cons_zero, List.setIfInBounds_toArray, List.set_cons_zero, List.set_cons_succ]
        refine wpAnyH_take (i := 4) (v := .int .i64 (j : Int)) rfl (by kernel_rfl) (by kernel_rfl) (by kernel_rfl) (fun _ _ _ h => h) (Or.inl ⟨by rfl, fun W hW => by clear hW; go_simp⟩) H0.out ?_
        try simp only [Act.put, List.getElem_toArray, List.getElem_cons_succ, List.getElem_cons_zero, List.setIfInBounds_toArray, List.set_cons_zero, List.set_cons_succ]
        refine wpAnyH_take (i := 5) (v := .pointer (some ⟨bb, o + j * 36, none⟩)) rfl (by kernel_rfl) (by kernel_rfl) (by kernel_rfl) (fun _ _ _ h => h) (Or.inl ⟨by rfl, fun W hW => by clear hW; go_simp⟩) H0.out ?_
        try simp only [Act.put, List.getElem_toArray, List.getElem_cons_succ, List.getElem_cons_zero, List.setIfInBounds_toArray, List.set_cons_zero, List.set_cons_succ]
        refine wpAnyH_take (i := 6) (v := .pointer (some ⟨bb, o + j * 36, none⟩)) rfl (by kernel_rfl) (by kernel_rfl) (by kernel_rfl) (fun _ _ _ h => h) (Or.inl ⟨by rfl, fun W hW => by clear hW; go_simp⟩) H0.out ?_
        try simp only [Act.put, List.getElem_toArray, List.getElem_cons_succ, List.getElem_cons_zero, List.setIfInBounds_toArray, List.set_cons_zero, List.set_cons_succ]
        refine wpAnyH_take (i := 7) (v := .agg y.it.arr) rfl (by kernel_rfl) (by kernel_rfl) (by kernel_rfl) (fun _ _ _ h => h) (yields_run _ rfl (by rfl) rfl (fun W hW => hW.2.1)) H0.out ?_
        try simp only [Act.put, List.getElem_toArray, List.getElem_cons_succ, List.getElem_cons_zero, List.setIfInBounds_toArray, List.set_cons_zero, List.set_cons_succ]
        refine wpAnyH_take (i := 8) (v := .agg x.arr) rfl (by kernel_rfl) (by kernel_rfl) (by kernel_rfl) (fun _ _ _ h => h) (yields_run _ rfl (by rfl) rfl (fun W hW => hW.2.2)) H0.out ?_
        try simp only [Act.put, List.getElem_toArray, List.getElem_cons_succ, List.getElem_cons_zero, List.setIfInBounds_toArray, List.set_cons_zero, List.set_cons_succ]
        refine wpAnyH_take (i := 9) (v := .bool false) rfl (by kernel_rfl) (by kernel_rfl) (by kernel_rfl) (fun _ _ _ h => h) (yields_cmpA _ _ rfl (by rfl) rfl rfl (by kernel_rfl) EQ) H0.out ?_
        try simp only [Act.put, List.getElem_toArray, List.getElem_cons_succ, List.getElem_cons_zero, List.setIfInBounds_toArray, List.set_cons_zero, List.set_cons_succ]
        refine wpAnyH_done (by kernel_rfl) ?_ _
        go_wp2
        go_roundw
        case rel => exact ⟨j + 1, by rw [hln.out]; omega, by go_num, notAhead_succ hah.out hy.out hyx.out, D0⟩
        case measure => simp [intOf]; omega
    · obtain rfl : j = n := by omega
      have g1 : ((j : Int) < (j : Int)) = False := eq_false (by omega)
      have fn := Lib.hid (FN.out hah.out)
      go_wp2
      go_ret
      exact ⟨by rw [fn.out]; rfl, hst.bel⟩
end
end Go.Proofs.Ytnogmfpaipjdaaa
namespace Go.Proofs.Ytnogmfpaipjdaaa
open Go.RowKit
open P (Pl right hasI vals)
set_option maxRecDepth 20000
set_option linter.unusedVariables false
set_option linter.unusedSimpArgs false

theorem isIt_no {p : Pl} {x : It} (h : ¬ (0 ≤ x.l ∧ x.l < 16 ∧ 0 ≤ x.x)) : isIt p x = false := by
  cases hq : isIt p x with
  | false => rfl
  | true =>
    obtain ⟨_, k, j, e1, e2, h1, _⟩ := P.hasI_facts hq
    have := P.Lv_le p
    exact absurd ⟨by omega, by omega, by omega⟩ h
theorem isIt_yes {p : Pl} {x : It} (hp : right p = true) (h : 0 ≤ x.x) : isIt p x = decide (x.x < (P.Wd p x.l : Int)) := by
  unfold isIt hasI
  rw [hp, decide_eq_true h]
  rfl
attribute [local irreducible] It.arr Cd.arr
set_option maxHeartbeats 4000000 in
theorem ritem_any {p : Pl} (hp : right p = true) (x : It) (W : World) :
    Calls Try.prog 34 #[.agg p.arr, .agg x.arr] W fun e W' => e = .returned (.bool (isIt p x)) ∧ Below W.heap.size W W' := by
  have WD := Lib.hid (fun V => P.refWidth_any p x.l V)
  have NO := Lib.hid (fun h => isIt_no (p := p) (x := x) h)
  have YE := Lib.hid (fun h => isIt_yes (x := x) hp h)
  have S0 := St.nil W
  generalize isIt p x = B at *
  generalize P.Wd p x.l = m at *
  clear hp
  by_cases h0 : 0 ≤ x.l
  · have q1 : decide (x.l ≥ 0) = true := decide_eq_true (by omega)
    have q2 : (x.l ≥ 0) = True := eq_true (by omega)
    have q0 : (0 ≤ x.l) = True := eq_true (by omega)
    by_cases h1 : x.l < 16
    · have q3 : decide (x.l < 16) = true := decide_eq_true (by omega)
      have q4 : (x.l < 16) = True := eq_true (by omega)
      by_cases h2 : 0 ≤ x.x
      · have q5 : decide (x.x ≥ 0) = true := decide_eq_true (by omega)
        have q6 : (x.x ≥ 0) = True := eq_true (by omega)
        have q7 : (0 ≤ x.x) = True := eq_true (by omega)
        by_cases h3 : x.x < (m : Int)
        · have ev : Hid (B = true) := show _ = _ by rw [YE.out h2, decide_eq_true h3]
          have q8 : decide (x.x < (m : Int)) = true := decide_eq_true h3
          have q9 : (x.x < (m : Int)) = True := eq_true h3
          clear NO YE h0 h1 h2 h3
          go_enter Try.func34, Try.ntmps34
          go_wp2_with (first
            | (refine wpList_box_st S0 28 _ rfl rfl p.arr rfl ?_; clear S0; intro W1 h1 _ _; replace h1 := h1.front; generalize W.heap.size = pb at h1)
            | (have _ := h1; refine wpList_box_it h1 x _ rfl rfl rfl ?_; clear h1; intro W2 h2 _; generalize W1.heap.size = xb at *))
          have HS0 := Lib.hid h2.drew
          have CB := Lib.hid (fun V (h : St W V [(xb, C 42 x.arr), (pb, C 28 p.arr)]) => show V.cell? ⟨xb, 0, none⟩ = some (.int .i64 x.l) ∧ V.cell? ⟨xb, 1, none⟩ = some (.int .i64 x.x) ∧ (loadVar 28 ⟨pb, 0, none⟩).run Try.prog V = .ok (.agg p.arr) V from ⟨h.cell 0 rfl 0 _ x.at0, h.cell 0 rfl 1 _ x.at1, load_plA (h.get 1 rfl)⟩)
          have H0 := Lib.hid (CB.out _ HS0.out)
          clear h2
          refine wp_region_held_drew (S := fun W => W.cell? ⟨xb, 0, none⟩ = some (.int .i64 x.l) ∧ W.cell? ⟨xb, 1, none⟩ = some (.int .i64 x.x) ∧ (loadVar 28 ⟨pb, 0, none⟩).run Try.prog W = .ok (.agg p.arr) W) (by kernel_rfl) H0.out (fun _ => ?_)
          generalize W2.drew = V0 at *
          refine wpAnyH_take (i := 0) (v := .pointer (some ⟨xb, 0, none⟩)) rfl (by kernel_rfl) (by kernel_rfl) (by kernel_rfl) (fun _ _ _ h => h) (Or.inl ⟨by rfl, fun W hW => by clear hW; go_simp⟩) H0.out ?_
          try simp only [Act.put, List.getElem_toArray, List.getElem_cons_succ, List.getElem_cons_zero, List.setIfInBounds_toArray, List.set_cons_zero, List.set_cons_succ]
          refine wpAnyH_take (i := 1) (v := .int .i64 x.l) rfl (by kernel_rfl) (by kernel_rfl) (by kernel_rfl) (fun _ _ _ h => h) (Or.inl ⟨by rfl, fun W hW => by have hc := (show W.cell? ⟨xb, 0, none⟩ = some (.int .i64 x.l) from hW.1); clear hW; go_simp⟩) H0.out ?_
          try simp only [Act.put, List.getElem_toArray, List.getElem_cons_succ, List.getElem_cons_zero, List.setIfInBounds_toArray, List.set_cons_zero, List.set_cons_succ]
          refine wpAnyH_take (i := 2) (v := .bool true) rfl (by kernel_rfl) (by kernel_rfl) (by kernel_rfl) (fun _ _ _ h => h) (Or.inl ⟨by rfl, fun W hW => by clear hW; go_simp⟩) H0.out ?_
          try simp only [Act.put, List.getElem_toArray, List.getElem_cons_succ, List.getElem_cons_zero, List.setIfInBounds_toArray, List.set_cons_zero, List.set_cons_succ]
          refine wpAnyH_take (i := 3) (v := .bool true) rfl (by kernel_rfl) (by kernel_rfl) (by kernel_rfl) (fun _ _ _ h => h) (Or.inl ⟨by rfl, fun W hW => by clear hW; go_simp⟩) H0.out ?_
          try simp only [Act.put, List.getElem_toArray, List.getElem_cons_succ, List.getElem_cons_zero, List.setIfInBounds_toArray, List.set_cons_zero, List.set_cons_succ]
          refine wpAnyH_take (i := 4) (v := .pointer (some ⟨xb, 0, none⟩)) rfl (by kernel_rfl) (by kernel_rfl) (by kernel_rfl) (fun _ _ _ h => h) (Or.inl ⟨by rfl, fun W hW => by clear hW; go_simp⟩) H0.out ?_
          try simp only [Act.put, List.getElem_toArray, List.getElem_cons_succ, List.getElem_cons_zero, List.setIfInBounds_toArray, List.set_cons_zero, List.set_cons_succ]
          refine wpAnyH_take (i := 5) (v := .int .i64 x.l) rfl (by kernel_rfl) (by kernel_rfl) (by kernel_rfl) (fun _ _ _ h => h) (Or.inl ⟨by rfl, fun W hW => by have hc := (show W.cell? ⟨xb, 0, none⟩ = some (.int .i64 x.l) from hW.1); clear hW; go_simp⟩) H0.out ?_
          try simp only [Act.put, List.getElem_toArray, List.getElem_cons_succ, List.getElem_cons_zero, List.setIfInBounds_toArray, List.set_cons_zero, List.set_cons_succ]
          refine wpAnyH_take (i := 6) (v := .bool true) rfl (by kernel_rfl) (by kernel_rfl) (by kernel_rfl) (fun _ _ _ h => h) (Or.inl ⟨by rfl, fun W hW => by clear hW; go_simp⟩) H0.out ?_
          try simp only [Act.put, List.getElem_toArray, List.getElem_cons_succ, List.getElem_cons_zero, List.setIfInBounds_toArray, List.set_cons_zero, List.set_cons_succ]
          refine wpAnyH_take (i := 7) (v := .bool true) rfl (by kernel_rfl) (by kernel_rfl) (by kernel_rfl) (fun _ _ _ h => h) (Or.inl ⟨by rfl, fun W hW => by clear hW; go_simp⟩) H0.out ?_
          try simp only [Act.put, List.getElem_toArray, List.getElem_cons_succ, List.getElem_cons_zero, List.setIfInBounds_toArray, List.set_cons_zero, List.set_cons_succ]
          refine wpAnyH_take (i := 8) (v := .bool true) rfl (by kernel_rfl) (by kernel_rfl) (by kernel_rfl) (fun _ _ _ h => h) (Or.inl ⟨by rfl, fun W hW => by clear hW; go_simp⟩) H0.out ?_
          try simp only [Act.put, List.getElem_toArray, List.getElem_cons_succ, List.getElem_cons_zero, List.setIfInBounds_toArray, List.set_cons_zero, List.set_cons_succ]
          refine wpAnyH_take (i := 9) (v := .pointer (some ⟨xb, 1, none⟩)) rfl (by kernel_rfl) (by kernel_rfl) (by kernel_rfl) (fun _ _ _ h => h) (Or.inl ⟨by rfl, fun W hW => by clear hW; go_simp⟩) H0.out ?_
          try simp only [Act.put, List.getElem_toArray, List.getElem_cons_succ, List.getElem_cons_zero, List.setIfInBounds_toArray, List.set_cons_zero, List.set_cons_succ]
          refine wpAnyH_take (i := 10) (v := .int .i64 x.x) rfl (by kernel_rfl) (by kernel_rfl) (by kernel_rfl) (fun _ _ _ h => h) (Or.inl ⟨by rfl, fun W hW => by have hc := (show W.cell? ⟨xb, 1, none⟩ = some (.int .i64 x.x) from hW.2.1); clear hW; go_simp⟩) H0.out ?_
          try simp only [Act.put, List.getElem_toArray, List.getElem_cons_succ, List.getElem_cons_zero, List.setIfInBounds_toArray, List.set_cons_zero, List.set_cons_succ]
          refine wpAnyH_take (i := 11) (v := .bool true) rfl (by kernel_rfl) (by kernel_rfl) (by kernel_rfl) (fun _ _ _ h => h) (Or.inl ⟨by rfl, fun W hW => by clear hW; go_simp⟩) H0.out ?_
          try simp only [Act.put, List.getElem_toArray, List.getElem_cons_succ, List.getElem_cons_zero, List.setIfInBounds_toArray, List.set_cons_zero, List.set_cons_succ]
          refine wpAnyH_take (i := 12) (v := .bool true) rfl (by kernel_rfl) (by kernel_rfl) (by kernel_rfl) (fun _ _ _ h => h) (Or.inl ⟨by rfl, fun W hW => by clear hW; go_simp⟩) H0.out ?_
          try simp only [Act.put, List.getElem_toArray, List.getElem_cons_succ, List.getElem_cons_zero, List.setIfInBounds_toArray, List.set_cons_zero, List.set_cons_succ]
          refine wpAnyH_take (i := 13) (v := .bool true) rfl (by kernel_rfl) (by kernel_rfl) (by kernel_rfl) (fun _ _ _ h => h) (Or.inl ⟨by rfl, fun W hW => by clear hW; go_simp⟩) H0.out ?_
          try simp only [Act.put, List.getElem_toArray, List.getElem_cons_succ, List.getElem_cons_zero, List.setIfInBounds_toArray, List.set_cons_zero, List.set_cons_succ]
          refine wpAnyH_take (i := 14) (v := .pointer (some ⟨xb, 1, none⟩)) rfl (by kernel_rfl) (by kernel_rfl) (by kernel_rfl) (fun _ _ _ h => h) (Or.inl ⟨by rfl, fun W hW => by clear hW; go_simp⟩) H0.out ?_
          try simp only [Act.put, List.getElem_toArray, List.getElem_cons_succ, List.getElem_cons_zero, List.setIfInBounds_toArray, List.set_cons_zero, List.set_cons_succ]
          refine wpAnyH_take (i := 15) (v := .int .i64 x.x) rfl (by kernel_rfl) (by kernel_rfl) (by kernel_rfl) (fun _ _ _ h => h) (Or.inl ⟨by rfl, fun W hW => by have hc := (show W.cell? ⟨xb, 1, none⟩ = some (.int .i64 x.x) from hW.2.1); clear hW; go_simp⟩) H0.out ?_
          try simp only [Act.put, List.getElem_toArray, List.getElem_cons_succ, List.getElem_cons_zero, List.setIfInBounds_toArray, List.set_cons_zero, List.set_cons_succ]
          refine wpAnyH_take (i := 16) (v := .agg p.arr) rfl (by kernel_rfl) (by kernel_rfl) (by kernel_rfl) (fun _ _ _ h => h) (yields_run _ rfl (by rfl) rfl (fun W hW => hW.2.2)) H0.out ?_
          try simp only [Act.put, List.getElem_toArray, List.getElem_cons_succ, List.getElem_cons_zero, List.setIfInBounds_toArray, List.set_cons_zero, List.set_cons_succ]
          refine wpAnyH_take (i := 17) (v := .pointer (some ⟨xb, 0, none⟩)) rfl (by kernel_rfl) (by kernel_rfl) (by kernel_rfl) (fun _ _ _ h => h) (Or.inl ⟨by rfl, fun W hW => by clear hW; go_simp⟩) H0.out ?_
          try simp only [Act.put, List.getElem_toArray, List.getElem_cons_succ, List.getElem_cons_zero, List.setIfInBounds_toArray, List.set_cons_zero, List.set_cons_succ]
          refine wpAnyH_take (i := 18) (v := .int .i64 x.l) rfl (by kernel_rfl) (by kernel_rfl) (by kernel_rfl) (fun _ _ _ h => h) (Or.inl ⟨by rfl, fun W hW => by have hc := (show W.cell? ⟨xb, 0, none⟩ = some (.int .i64 x.l) from hW.1); clear hW; go_simp⟩) H0.out ?_
          try simp only [Act.put, List.getElem_toArray, List.getElem_cons_succ, List.getElem_cons_zero, List.setIfInBounds_toArray, List.set_cons_zero, List.set_cons_succ]
          refine wpAnyH_ready (rs := [19]) (by kernel_rfl) (by simp) ?_
          refine AllReadyH.cons rfl (fun K hK => ?_) AllReadyH.nil
          go_simp
          go_at_call 47
          refine (WD.out _).mono ?_
          rintro e V1 ⟨rfl, hb1⟩
          have HS1 := Lib.hid (HS0.out.call hb1)
          clear hb1
          have H1_ := Lib.hid (CB.out _ HS1.out)
          refine hK.out _ _ H1_.out (fun _ => ?_)
          clear hK K
          try simp only [Act.put, List.getElem_toArray, List.getElem_cons_succ, List.getElem_cons_zero, List.setIfInBounds_toArray, List.set_cons_zero, List.set_cons_succ]
          refine wpAnyH_take (i := 20) (v := .bool true) rfl (by kernel_rfl) (by kernel_rfl) (by kernel_rfl) (fun _ _ _ h => h) (Or.inl ⟨by rfl, fun W hW => by clear hW; go_simp⟩) H1_.out ?_
          try simp only [Act.put, List.getElem_toArray, List.getElem_cons_succ, List.getElem_cons_zero, List.setIfInBounds_toArray, List.set_cons_zero, List.set_cons_succ]
          refine wpAnyH_take (i := 21) (v := .bool true) rfl (by kernel_rfl) (by kernel_rfl) (by kernel_rfl) (fun _ _ _ h => h) (Or.inl ⟨by rfl, fun W hW => by clear hW; go_simp⟩) H1_.out ?_
          try simp only [Act.put, List.getElem_toArray, List.getElem_cons_succ, List.getElem_cons_zero, List.setIfInBounds_toArray, List.set_cons_zero, List.set_cons_succ]
          refine wpAnyH_take (i := 22) (v := .bool true) rfl (by kernel_rfl) (by kernel_rfl) (by kernel_rfl) (fun _ _ _ h => h) (Or.inl ⟨by rfl, fun W hW => by clear hW; go_simp⟩) H1_.out ?_
          try simp only [Act.put, List.getElem_toArray, List.getElem_cons_succ, List.getElem_cons_zero, List.setIfInBounds_toArray, List.set_cons_zero, List.set_cons_succ]
          refine wpAnyH_done (by kernel_rfl) ?_ _
          have bel := HS1.out.bel
          clear HS0 H0 CB
          go_wp2
          go_ret
          exact ⟨by rw [ev.out]; rfl, bel⟩
        · have ev : Hid (B = false) := show _ = _ by rw [YE.out h2, decide_eq_false h3]
          have q8 : decide (x.x < (m : Int)) = false := decide_eq_false h3
          have q9 : (x.x < (m : Int)) = False := eq_false h3
          clear NO YE h0 h1 h2 h3
          go_enter Try.func34, Try.ntmps34
          go_wp2_with (first
            | (refine wpList_box_st S0 28 _ rfl rfl p.arr rfl ?_; clear S0; intro W1 h1 _ _; replace h1 := h1.front; generalize W.heap.size = pb at h1)
            | (have _ := h1; refine wpList_box_it h1 x _ rfl rfl rfl ?_; clear h1; intro W2 h2 _; generalize W1.heap.size = xb at *))
          have HS0 := Lib.hid h2.drew
          have CB := Lib.hid (fun V (h : St W V [(xb, C 42 x.arr), (pb, C 28 p.arr)]) => show V.cell? ⟨xb, 0, none⟩ = some (.int .i64 x.l) ∧ V.cell? ⟨xb, 1, none⟩ = some (.int .i64 x.x) ∧ (loadVar 28 ⟨pb, 0, none⟩).run Try.prog V = .ok (.agg p.arr) V from ⟨h.cell 0 rfl 0 _ x.at0, h.cell 0 rfl 1 _ x.at1, load_plA (h.get 1 rfl)⟩)
          have H0 := Lib.hid (CB.out _ HS0.out)
          clear h2
          refine wp_region_held_drew (S := fun W => W.cell? ⟨xb, 0, none⟩ = some (.int .i64 x.l) ∧ W.cell? ⟨xb, 1, none⟩ = some (.int .i64 x.x) ∧ (loadVar 28 ⟨pb, 0, none⟩).run Try.prog W = .ok (.agg p.arr) W) (by kernel_rfl) H0.out (fun _ => ?_)
          generalize W2.drew = V0 at *
          refine wpAnyH_take (i := 0) (v := .pointer (some ⟨xb, 0, none⟩)) rfl (by kernel_rfl) (by kernel_rfl) (by kernel_rfl) (fun _ _ _ h => h) (Or.inl ⟨by rfl, fun W hW => by clear hW; go_simp⟩) H0.out ?_
          try simp only [Act.put, List.getElem_toArray, List.getElem_cons_succ, List.getElem_cons_zero, List.setIfInBounds_toArray, List.set_cons_zero, List.set_cons_succ]
          refine wpAnyH_take (i := 1) (v := .int .i64 x.l) rfl (by kernel_rfl) (by kernel_rfl) (by kernel_rfl) (fun _ _ _ h => h) (Or.inl ⟨by rfl, fun W hW => by have hc := (show W.cell? ⟨xb, 0, none⟩ = some (.int .i64 x.l) from hW.1); clear hW; go_simp⟩) H0.out ?_
          try simp only [Act.put, List.getElem_toArray, List.getElem_cons_succ, List.getElem_cons_zero, List.setIfInBounds_toArray, List.set_cons_zero, List.set_cons_succ]
          refine wpAnyH_take (i := 2) (v := .bool true) rfl (by kernel_rfl) (by kernel_rfl) (by kernel_rfl) (fun _ _ _ h => h) (Or.inl ⟨by rfl, fun W hW => by clear hW; go_simp⟩) H0.out ?_
          try simp only [Act.put, List.getElem_toArray, List.getElem_cons_succ, List.getElem_cons_zero, List.setIfInBounds_toArray, List.set_cons_zero, List.set_cons_succ]
          refine wpAnyH_take (i := 3) (v := .bool true) rfl (by kernel_rfl) (by kernel_rfl) (by kernel_rfl) (fun _ _ _ h => h) (Or.inl ⟨by rfl, fun W hW => by clear hW; go_simp⟩) H0.out ?_
          try simp only [Act.put, List.getElem_toArray, List.getElem_cons_succ, List.getElem_cons_zero, List.setIfInBounds_toArray, List.set_cons_zero, List.set_cons_succ]
          refine wpAnyH_take (i := 4) (v := .pointer (some ⟨xb, 0, none⟩)) rfl (by kernel_rfl) (by kernel_rfl) (by kernel_rfl) (fun _ _ _ h => h) (Or.inl ⟨by rfl, fun W hW => by clear hW; go_simp⟩) H0.out ?_
          try simp only [Act.put, List.getElem_toArray, List.getElem_cons_succ, List.getElem_cons_zero, List.setIfInBounds_toArray, List.set_cons_zero, List.set_cons_succ]
          refine wpAnyH_take (i := 5) (v := .int .i64 x.l) rfl (by kernel_rfl) (by kernel_rfl) (by kernel_rfl) (fun _ _ _ h => h) (Or.inl ⟨by rfl, fun W hW => by have hc := (show W.cell? ⟨xb, 0, none⟩ = some (.int .i64 x.l) from hW.1); clear hW; go_simp⟩) H0.out ?_
          try simp only [Act.put, List.getElem_toArray, List.getElem_cons_succ, List.getElem_cons_zero, List.setIfInBounds_toArray, List.set_cons_zero, List.set_cons_succ]
          refine wpAnyH_take (i := 6) (v := .bool true) rfl (by kernel_rfl) (by kernel_rfl) (by kernel_rfl) (fun _ _ _ h => h) (Or.inl ⟨by rfl, fun W hW => by clear hW; go_simp⟩) H0.out ?_
          try simp only [Act.put, List.getElem_toArray, List.getElem_cons_succ, List.getElem_cons_zero, List.setIfInBounds_toArray, List.set_cons_zero, List.set_cons_succ]
          refine wpAnyH_take (i := 7) (v := .bool true) rfl (by kernel_rfl) (by kernel_rfl) (by kernel_rfl) (fun _ _ _ h => h) (Or.inl ⟨by rfl, fun W hW => by clear hW; go_simp⟩) H0.out ?_
          try simp only [Act.put, List.getElem_toArray, List.getElem_cons_succ, List.getElem_cons_zero, List.setIfInBounds_toArray, List.set_cons_zero, List.set_cons_succ]
          refine wpAnyH_take (i := 8) (v := .bool true) rfl (by kernel_rfl) (by kernel_rfl) (by kernel_rfl) (fun _ _ _ h => h) (Or.inl ⟨by rfl, fun W hW => by clear hW; go_simp⟩) H0.out ?_
          try simp only [Act.put, List.getElem_toArray, List.getElem_cons_succ, List.getElem_cons_zero, List.setIfInBounds_toArray, List.set_cons_zero, List.set_cons_succ]
          refine wpAnyH_take (i := 9) (v := .pointer (some ⟨xb, 1, none⟩)) rfl (by kernel_rfl) (by kernel_rfl) (by kernel_rfl) (fun _ _ _ h => h) (Or.inl ⟨by rfl, fun W hW => by clear hW; go_simp⟩) H0.out ?_
          try simp only [Act.put, List.getElem_toArray, List.getElem_cons_succ, List.getElem_cons_zero, List.setIfInBounds_toArray, List.set_cons_zero, List.set_cons_succ]
          refine wpAnyH_take (i := 10) (v := .int .i64 x.x) rfl (by kernel_rfl) (by kernel_rfl) (by kernel_rfl) (fun _ _ _ h => h) (Or.inl ⟨by rfl, fun W hW => by have hc := (show W.cell? ⟨xb, 1, none⟩ = some (.int .i64 x.x) from hW.2.1); clear hW; go_simp⟩) H0.out ?_
          try simp only [Act.put, List.getElem_toArray, List.getElem_cons_succ, List.getElem_cons_zero, List.setIfInBounds_toArray, List.set_cons_zero, List.set_cons_succ]
          refine wpAnyH_take (i := 11) (v := .bool true) rfl (by kernel_rfl) (by kernel_rfl) (by kernel_rfl) (fun _ _ _ h => h) (Or.inl ⟨by rfl, fun W hW => by clear hW; go_simp⟩) H0.out ?_
          try simp only [Act.put, List.getElem_toArray, List.getElem_cons_succ, List.getElem_cons_zero, List.setIfInBounds_toArray, List.set_cons_zero, List.set_cons_succ]
          refine wpAnyH_take (i := 12) (v := .bool true) rfl (by kernel_rfl) (by kernel_rfl) (by kernel_rfl) (fun _ _ _ h => h) (Or.inl ⟨by rfl, fun W hW => by clear hW; go_simp⟩) H0.out ?_
          try simp only [Act.put, List.getElem_toArray, List.getElem_cons_succ, List.getElem_cons_zero, List.setIfInBounds_toArray, List.set_cons_zero, List.set_cons_succ]
          refine wpAnyH_take (i := 13) (v := .bool true) rfl (by kernel_rfl) (by kernel_rfl) (by kernel_rfl) (fun _ _ _ h => h) (Or.inl ⟨by rfl, fun W hW => by clear hW; go_simp⟩) H0.out ?_
          try simp only [Act.put, List.getElem_toArray, List.getElem_cons_succ, List.getElem_cons_zero, List.setIfInBounds_toArray, List.set_cons_zero, List.set_cons_succ]
          refine wpAnyH_take (i := 14) (v := .pointer (some ⟨xb, 1, none⟩)) rfl (by kernel_rfl) (by kernel_rfl) (by kernel_rfl) (fun _ _ _ h => h) (Or.inl ⟨by rfl, fun W hW => by clear hW; go_simp⟩) H0.out ?_
          try simp only [Act.put, List.getElem_toArray, List.getElem_cons_succ, List.getElem_cons_zero, List.setIfInBounds_toArray, List.set_cons_zero, List.set_cons_succ]
          refine wpAnyH_take (i := 15) (v := .int .i64 x.x) rfl (by kernel_rfl) (by kernel_rfl) (by kernel_rfl) (fun _ _ _ h => h) (Or.inl ⟨by rfl, fun W hW => by have hc := (show W.cell? ⟨xb, 1, none⟩ = some (.int .i64 x.x) from hW.2.1); clear hW; go_simp⟩) H0.out ?_
          try simp only [Act.put, List.getElem_toArray, List.getElem_cons_succ, List.getElem_cons_zero, List.setIfInBounds_toArray, List.set_cons_zero, List.set_cons_succ]
          refine wpAnyH_take (i := 16) (v := .agg p.arr) rfl (by kernel_rfl) (by kernel_rfl) (by kernel_rfl) (fun _ _ _ h => h) (yields_run _ rfl (by rfl) rfl (fun W hW => hW.2.2)) H0.out ?_
          try simp only [Act.put, List.getElem_toArray, List.getElem_cons_succ, List.getElem_cons_zero, List.setIfInBounds_toArray, List.set_cons_zero, List.set_cons_succ]
          refine wpAnyH_take (i := 17) (v := .pointer (some ⟨xb, 0, none⟩)) rfl (by kernel_rfl) (by kernel_rfl) (by kernel_rfl) (fun _ _ _ h => h) (Or.inl ⟨by rfl, fun W hW => by clear hW; go_simp⟩) H0.out ?_
          try simp only [Act.put, List.getElem_toArray, List.getElem_cons_succ, List.getElem_cons_zero, List.setIfInBounds_toArray, List.set_cons_zero, List.set_cons_succ]
          refine wpAnyH_take (i := 18) (v := .int .i64 x.l) rfl (by kernel_rfl) (by kernel_rfl) (by kernel_rfl) (fun _ _ _ h => h) (Or.inl ⟨by rfl, fun W hW => by have hc := (show W.cell? ⟨xb, 0, none⟩ = some (.int .i64 x.l) from hW.1); clear hW; go_simp⟩) H0.out ?_
          try simp only [Act.put, List.getElem_toArray, List.getElem_cons_succ, List.getElem_cons_zero, List.setIfInBounds_toArray, List.set_cons_zero, List.set_cons_succ]
          refine wpAnyH_ready (rs := [19]) (by kernel_rfl) (by simp) ?_
          refine AllReadyH.cons rfl (fun K hK => ?_) AllReadyH.nil
          go_simp
          go_at_call 47
          refine (WD.out _).mono ?_
          rintro e V1 ⟨rfl, hb1⟩
          have HS1 := Lib.hid (HS0.out.call hb1)
          clear hb1
          have H1_ := Lib.hid (CB.out _ HS1.out)
          refine hK.out _ _ H1_.out (fun _ => ?_)
          clear hK K
          try simp only [Act.put, List.getElem_toArray, List.getElem_cons_succ, List.getElem_cons_zero, List.setIfInBounds_toArray, List.set_cons_zero, List.set_cons_succ]
          refine wpAnyH_take (i := 20) (v := .bool false) rfl (by kernel_rfl) (by kernel_rfl) (by kernel_rfl) (fun _ _ _ h => h) (Or.inl ⟨by rfl, fun W hW => by clear hW; go_simp⟩) H1_.out ?_
          try simp only [Act.put, List.getElem_toArray, List.getElem_cons_succ, List.getElem_cons_zero, List.setIfInBounds_toArray, List.set_cons_zero, List.set_cons_succ]
          refine wpAnyH_take (i := 21) (v := .bool false) rfl (by kernel_rfl) (by kernel_rfl) (by kernel_rfl) (fun _ _ _ h => h) (Or.inl ⟨by rfl, fun W hW => by clear hW; go_simp⟩) H1_.out ?_
          try simp only [Act.put, List.getElem_toArray, List.getElem_cons_succ, List.getElem_cons_zero, List.setIfInBounds_toArray, List.set_cons_zero, List.set_cons_succ]
          refine wpAnyH_take (i := 22) (v := .bool false) rfl (by kernel_rfl) (by kernel_rfl) (by kernel_rfl) (fun _ _ _ h => h) (Or.inl ⟨by rfl, fun W hW => by clear hW; go_simp⟩) H1_.out ?_
          try simp only [Act.put, List.getElem_toArray, List.getElem_cons_succ, List.getElem_cons_zero, List.setIfInBounds_toArray, List.set_cons_zero, List.set_cons_succ]
          refine wpAnyH_done (by kernel_rfl) ?_ _
          have bel := HS1.out.bel
          clear HS0 H0 CB
          go_wp2
          go_ret
          exact ⟨by rw [ev.out]; rfl, bel⟩
      · have ev := Lib.hid (NO.out (fun h => h2 h.2.2))
        have q5 : decide (x.x ≥ 0) = false := decide_eq_false (by omega)
        have q6 : (x.x ≥ 0) = False := eq_false (by omega)
        have q7 : (0 ≤ x.x) = False := eq_false (by omega)
        clear NO YE h0 h1 h2
        go_enter Try.func34, Try.ntmps34
        go_wp2_with (first
          | (refine wpList_box_st S0 28 _ rfl rfl p.arr rfl ?_; clear S0; intro W1 h1 _ _; replace h1 := h1.front; generalize W.heap.size = pb at h1)
          | (have _ := h1; refine wpList_box_it h1 x _ rfl rfl rfl ?_; clear h1; intro W2 h2 _; generalize W1.heap.size = xb at *))
        have HS0 := Lib.hid h2.drew
        have CB := Lib.hid (fun V (h : St W V [(xb, C 42 x.arr), (pb, C 28 p.arr)]) => show V.cell? ⟨xb, 0, none⟩ = some (.int .i64 x.l) ∧ V.cell? ⟨xb, 1, none⟩ = some (.int .i64 x.x) ∧ (loadVar 28 ⟨pb, 0, none⟩).run Try.prog V = .ok (.agg p.arr) V from ⟨h.cell 0 rfl 0 _ x.at0, h.cell 0 rfl 1 _ x.at1, load_plA (h.get 1 rfl)⟩)
        have H0 := Lib.hid (CB.out _ HS0.out)
        clear h2
        refine wp_region_held_drew (S := fun W => W.cell? ⟨xb, 0, none⟩ = some (.int .i64 x.l) ∧ W.cell? ⟨xb, 1, none⟩ = some (.int .i64 x.x) ∧ (loadVar 28 ⟨pb, 0, none⟩).run Try.prog W = .ok (.agg p.arr) W) (by kernel_rfl) H0.out (fun _ => ?_)
        generalize W2.drew = V0 at *
        refine wpAnyH_take (i := 0) (v := .pointer (some ⟨xb, 0, none⟩)) rfl (by kernel_rfl) (by kernel_rfl) (by kernel_rfl) (fun _ _ _ h => h) (Or.inl ⟨by rfl, fun W hW => by clear hW; go_simp⟩) H0.out ?_
        try simp only [Act.put, List.getElem_toArray, List.getElem_cons_succ, List.getElem_cons_zero, List.setIfInBounds_toArray, List.set_cons_zero, List.set_cons_succ]
        refine wpAnyH_take (i := 1) (v := .int .i64 x.l) rfl (by kernel_rfl) (by kernel_rfl) (by kernel_rfl) (fun _ _ _ h => h) (Or.inl ⟨by rfl, fun W hW => by have hc := (show W.cell? ⟨xb, 0, none⟩ = some (.int .i64 x.l) from hW.1); clear hW; go_simp⟩) H0.out ?_
        try simp only [Act.put, List.getElem_toArray, List.getElem_cons_succ, List.getElem_cons_zero, List.setIfInBounds_toArray, List.set_cons_zero, List.set_cons_succ]
        refine wpAnyH_take (i := 2) (v := .bool true) rfl (by kernel_rfl) (by kernel_rfl) (by kernel_rfl) (fun _ _ _ h => h) (Or.inl ⟨by rfl, fun W hW => by clear hW; go_simp⟩) H0.out ?_
        try simp only [Act.put, List.getElem_toArray, List.getElem_cons_succ, List.getElem_cons_zero, List.setIfInBounds_toArray, List.set_cons_zero, List.set_cons_succ]
        refine wpAnyH_take (i := 3) (v := .bool true) rfl (by kernel_rfl) (by kernel_rfl) (by kernel_rfl) (fun _ _ _ h => h) (Or.inl ⟨by rfl, fun W hW => by clear hW; go_simp⟩) H0.out ?_
        try simp only [Act.put, List.getElem_toArray, List.getElem_cons_succ, List.getElem_cons_zero, List.setIfInBounds_toArray, List.set_cons_zero, List.set_cons_succ]
        refine wpAnyH_take (i := 4) (v := .pointer (some ⟨xb, 0, none⟩)) rfl (by kernel_rfl) (by kernel_rfl) (by kernel_rfl) (fun _ _ _ h => h) (Or.inl ⟨by rfl, fun W hW => by clear hW; go_simp⟩) H0.out ?_
        try simp only [Act.put, List.getElem_toArray, List.getElem_cons_succ, List.getElem_cons_zero, List.setIfInBounds_toArray, List.set_cons_zero, List.set_cons_succ]
        refine wpAnyH_take (i := 5) (v := .int .i64 x.l) rfl (by kernel_rfl) (by kernel_rfl) (by kernel_rfl) (fun _ _ _ h => h) (Or.inl ⟨by rfl, fun W hW => by have hc := (show W.cell? ⟨xb, 0, none⟩ = some (.int .i64 x.l) from hW.1); clear hW; go_simp⟩) H0.out ?_
        try simp only [Act.put, List.getElem_toArray, List.getElem_cons_succ, List.getElem_cons_zero, List.setIfInBounds_toArray, List.set_cons_zero, List.set_cons_succ]
        refine wpAnyH_take (i := 6) (v := .bool true) rfl (by kernel_rfl) (by kernel_rfl) (by kernel_rfl) (fun _ _ _ h => h) (Or.inl ⟨by rfl, fun W hW => by clear hW; go_simp⟩) H0.out ?_
        try simp only [Act.put, List.getElem_toArray, List.getElem_cons_succ, List.getElem_cons_zero, List.setIfInBounds_toArray, List.set_cons_zero, List.set_cons_succ]
        refine wpAnyH_take (i := 7) (v := .bool true) rfl (by kernel_rfl) (by kernel_rfl) (by kernel_rfl) (fun _ _ _ h => h) (Or.inl ⟨by rfl, fun W hW => by clear hW; go_simp⟩) H0.out ?_
        try simp only [Act.put, List.getElem_toArray, List.getElem_cons_succ, List.getElem_cons_zero, List.setIfInBounds_toArray, List.set_cons_zero, List.set_cons_succ]
        refine wpAnyH_take (i := 8) (v := .bool true) rfl (by kernel_rfl) (by kernel_rfl) (by kernel_rfl) (fun _ _ _ h => h) (Or.inl ⟨by rfl, fun W hW => by clear hW; go_simp⟩) H0.out ?_
        try simp only [Act.put, List.getElem_toArray, List.getElem_cons_succ, List.getElem_cons_zero, List.setIfInBounds_toArray, List.set_cons_zero, List.set_cons_succ]
        refine wpAnyH_take (i := 9) (v := .pointer (some ⟨xb, 1, none⟩)) rfl (by kernel_rfl) (by kernel_rfl) (by kernel_rfl) (fun _ _ _ h => h) (Or.inl ⟨by rfl, fun W hW => by clear hW; go_simp⟩) H0.out ?_
        try simp only [Act.put, List.getElem_toArray, List.getElem_cons_succ, List.getElem_cons_zero, List.setIfInBounds_toArray, List.set_cons_zero, List.set_cons_succ]
        refine wpAnyH_take (i := 10) (v := .int .i64 x.x) rfl (by kernel_rfl) (by kernel_rfl) (by kernel_rfl) (fun _ _ _ h => h) (Or.inl ⟨by rfl, fun W hW => by have hc := (show W.cell? ⟨xb, 1, none⟩ = some (.int .i64 x.x) from hW.2.1); clear hW; go_simp⟩) H0.out ?_
        try simp only [Act.put, List.getElem_toArray, List.getElem_cons_succ, List.getElem_cons_zero, List.setIfInBounds_toArray, List.set_cons_zero, List.set_cons_succ]
        refine wpAnyH_take (i := 11) (v := .bool false) rfl (by kernel_rfl) (by kernel_rfl) (by kernel_rfl) (fun _ _ _ h => h) (Or.inl ⟨by rfl, fun W hW => by clear hW; go_simp⟩) H0.out ?_
        try simp only [Act.put, List.getElem_toArray, List.getElem_cons_succ, List.getElem_cons_zero, List.setIfInBounds_toArray, List.set_cons_zero, List.set_cons_succ]
        refine wpAnyH_take (i := 12) (v := .bool false) rfl (by kernel_rfl) (by kernel_rfl) (by kernel_rfl) (fun _ _ _ h => h) (Or.inl ⟨by rfl, fun W hW => by clear hW; go_simp⟩) H0.out ?_
        try simp only [Act.put, List.getElem_toArray, List.getElem_cons_succ, List.getElem_cons_zero, List.setIfInBounds_toArray, List.set_cons_zero, List.set_cons_succ]
        refine wpAnyH_take (i := 13) (v := .bool false) rfl (by kernel_rfl) (by kernel_rfl) (by kernel_rfl) (fun _ _ _ h => h) (Or.inl ⟨by rfl, fun W hW => by clear hW; go_simp⟩) H0.out ?_
        try simp only [Act.put, List.getElem_toArray, List.getElem_cons_succ, List.getElem_cons_zero, List.setIfInBounds_toArray, List.set_cons_zero, List.set_cons_succ]
        refine wpAnyH_take (i := 14) (v := undef) rfl (by kernel_rfl) (by kernel_rfl) (by kernel_rfl) (fun _ _ _ h => h) (Or.inr ⟨by rfl, rfl⟩) H0.out ?_
        try simp only [Act.put, List.getElem_toArray, List.getElem_cons_succ, List.getElem_cons_zero, List.setIfInBounds_toArray, List.set_cons_zero, List.set_cons_succ]
        refine wpAnyH_take (i := 15) (v := undef) rfl (by kernel_rfl) (by kernel_rfl) (by kernel_rfl) (fun _ _ _ h => h) (Or.inr ⟨by rfl, rfl⟩) H0.out ?_
        try simp only [Act.put, List.getElem_toArray, List.getElem_cons_succ, List.getElem_cons_zero, List.setIfInBounds_toArray, List.set_cons_zero, List.set_cons_succ]
        refine wpAnyH_take (i := 16) (v := undef) rfl (by kernel_rfl) (by kernel_rfl) (by kernel_rfl) (fun _ _ _ h => h) (Or.inr ⟨by rfl, rfl⟩) H0.out ?_
        try simp only [Act.put, List.getElem_toArray, List.getElem_cons_succ, List.getElem_cons_zero, List.setIfInBounds_toArray, List.set_cons_zero, List.set_cons_succ]
        refine wpAnyH_take (i := 17) (v := undef) rfl (by kernel_rfl) (by kernel_rfl) (by kernel_rfl) (fun _ _ _ h => h) (Or.inr ⟨by rfl, rfl⟩) H0.out ?_
        try simp only [Act.put, List.getElem_toArray, List.getElem_cons_succ, List.getElem_cons_zero, List.setIfInBounds_toArray, List.set_cons_zero, List.set_cons_succ]
        refine wpAnyH_take (i := 18) (v := undef) rfl (by kernel_rfl) (by kernel_rfl) (by kernel_rfl) (fun _ _ _ h => h) (Or.inr ⟨by rfl, rfl⟩) H0.out ?_
        try simp only [Act.put, List.getElem_toArray, List.getElem_cons_succ, List.getElem_cons_zero, List.setIfInBounds_toArray, List.set_cons_zero, List.set_cons_succ]
        refine wpAnyH_take (i := 19) (v := undef) rfl (by kernel_rfl) (by kernel_rfl) (by kernel_rfl) (fun _ _ _ h => h) (Or.inr ⟨by rfl, rfl⟩) H0.out ?_
        try simp only [Act.put, List.getElem_toArray, List.getElem_cons_succ, List.getElem_cons_zero, List.setIfInBounds_toArray, List.set_cons_zero, List.set_cons_succ]
        refine wpAnyH_take (i := 20) (v := undef) rfl (by kernel_rfl) (by kernel_rfl) (by kernel_rfl) (fun _ _ _ h => h) (Or.inr ⟨by rfl, rfl⟩) H0.out ?_
        try simp only [Act.put, List.getElem_toArray, List.getElem_cons_succ, List.getElem_cons_zero, List.setIfInBounds_toArray, List.set_cons_zero, List.set_cons_succ]
        refine wpAnyH_take (i := 21) (v := .bool false) rfl (by kernel_rfl) (by kernel_rfl) (by kernel_rfl) (fun _ _ _ h => h) (Or.inl ⟨by rfl, fun W hW => by clear hW; go_simp⟩) H0.out ?_
        try simp only [Act.put, List.getElem_toArray, List.getElem_cons_succ, List.getElem_cons_zero, List.setIfInBounds_toArray, List.set_cons_zero, List.set_cons_succ]
        refine wpAnyH_take (i := 22) (v := .bool false) rfl (by kernel_rfl) (by kernel_rfl) (by kernel_rfl) (fun _ _ _ h => h) (Or.inl ⟨by rfl, fun W hW => by clear hW; go_simp⟩) H0.out ?_
        try simp only [Act.put, List.getElem_toArray, List.getElem_cons_succ, List.getElem_cons_zero, List.setIfInBounds_toArray, List.set_cons_zero, List.set_cons_succ]
        refine wpAnyH_done (by kernel_rfl) ?_ _
        have bel := HS0.out.bel
        clear HS0 H0 CB
        go_wp2
        go_ret
        exact ⟨by rw [ev.out]; rfl, bel⟩
    · have ev := Lib.hid (NO.out (fun h => h1 h.2.1))
      have q3 : decide (x.l < 16) = false := decide_eq_false (by omega)
      have q4 : (x.l < 16) = False := eq_false (by omega)
      clear NO YE h0 h1
      go_enter Try.func34, Try.ntmps34
      go_wp2_with (first
        | (refine wpList_box_st S0 28 _ rfl rfl p.arr rfl ?_; clear S0; intro W1 h1 _ _; replace h1 := h1.front; generalize W.heap.size = pb at h1)
        | (have _ := h1; refine wpList_box_it h1 x _ rfl rfl rfl ?_; clear h1; intro W2 h2 _; generalize W1.heap.size = xb at *))
      have HS0 := Lib.hid h2.drew
      have CB := Lib.hid (fun V (h : St W V [(xb, C 42 x.arr), (pb, C 28 p.arr)]) => show V.cell? ⟨xb, 0, none⟩ = some (.int .i64 x.l) ∧ V.cell? ⟨xb, 1, none⟩ = some (.int .i64 x.x) ∧ (loadVar 28 ⟨pb, 0, none⟩).run Try.prog V = .ok (.agg p.arr) V from ⟨h.cell 0 rfl 0 _ x.at0, h.cell 0 rfl 1 _ x.at1, load_plA (h.get 1 rfl)⟩)
      have H0 := Lib.hid (CB.out _ HS0.out)
      clear h2
      refine wp_region_held_drew (S := fun W => W.cell? ⟨xb, 0, none⟩ = some (.int .i64 x.l) ∧ W.cell? ⟨xb, 1, none⟩ = some (.int .i64 x.x) ∧ (loadVar 28 ⟨pb, 0, none⟩).run Try.prog W = .ok (.agg p.arr) W) (by kernel_rfl) H0.out (fun _ => ?_)
      generalize W2.drew = V0 at *
      refine wpAnyH_take (i := 0) (v := .pointer (some ⟨xb, 0, none⟩)) rfl (by kernel_rfl) (by kernel_rfl) (by kernel_rfl) (fun _ _ _ h => h) (Or.inl ⟨by rfl, fun W hW => by clear hW; go_simp⟩) H0.out ?_
      try simp only [Act.put, List.getElem_toArray, List.getElem_cons_succ, List.getElem_cons_zero, List.setIfInBounds_toArray, List.set_cons_zero, List.set_cons_succ]
      refine wpAnyH_take (i := 1) (v := .int .i64 x.l) rfl (by kernel_rfl) (by kernel_rfl) (by kernel_rfl) (fun _ _ _ h => h) (Or.inl ⟨by rfl, fun W hW => by have hc := (show W.cell? ⟨xb, 0, none⟩ = some (.int .i64 x.l) from hW.1); clear hW; go_simp⟩) H0.out ?_
      try simp only [Act.put, List.getElem_toArray, List.getElem_cons_succ, List.getElem_cons_zero, List.setIfInBounds_toArray, List.set_cons_zero, List.set_cons_succ]
      refine wpAnyH_take (i := 2) (v := .bool true) rfl (by kernel_rfl) (by kernel_rfl) (by kernel_rfl) (fun _ _ _ h => h) (Or.inl ⟨by rfl, fun W hW => by clear hW; go_simp⟩) H0.out ?_
      try simp only [Act.put, List.getElem_toArray, List.getElem_cons_succ, List.getElem_cons_zero, List.setIfInBounds_toArray, List.set_cons_zero, List.set_cons_succ]
      refine wpAnyH_take (i := 3) (v := .bool true) rfl (by kernel_rfl) (by kernel_rfl) (by kernel_rfl) (fun _ _ _ h => h) (Or.inl ⟨by rfl, fun W hW => by clear hW; go_simp⟩) H0.out ?_
      try simp only [Act.put, List.getElem_toArray, List.getElem_cons_succ, List.getElem_cons_zero, List.setIfInBounds_toArray, List.set_cons_zero, List.set_cons_succ]
      refine wpAnyH_take (i := 4) (v := .pointer (some ⟨xb, 0, none⟩)) rfl (by kernel_rfl) (by kernel_rfl) (by kernel_rfl) (fun _ _ _ h => h) (Or.inl ⟨by rfl, fun W hW => by clear hW; go_simp⟩) H0.out ?_
      try simp only [Act.put, List.getElem_toArray, List.getElem_cons_succ, List.getElem_cons_zero, List.setIfInBounds_toArray, List.set_cons_zero, List.set_cons_succ]
      refine wpAnyH_take (i := 5) (v := .int .i64 x.l) rfl (by kernel_rfl) (by kernel_rfl) (by kernel_rfl) (fun _ _ _ h => h) (Or.inl ⟨by rfl, fun W hW => by have hc := (show W.cell? ⟨xb, 0, none⟩ = some (.int .i64 x.l) from hW.1); clear hW; go_simp⟩) H0.out ?_
      try simp only [Act.put, List.getElem_toArray, List.getElem_cons_succ, List.getElem_cons_zero, List.setIfInBounds_toArray, List.set_cons_zero, List.set_cons_succ]
      refine wpAnyH_take (i := 6) (v := .bool false) rfl (by kernel_rfl) (by kernel_rfl) (by kernel_rfl) (fun _ _ _ h => h) (Or.inl ⟨by rfl, fun W hW => by clear hW; go_simp⟩) H0.out ?_
      try simp only [Act.put, List.getElem_toArray, List.getElem_cons_succ, List.getElem_cons_zero, List.setIfInBounds_toArray, List.set_cons_zero, List.set_cons_succ]
      refine wpAnyH_take (i := 7) (v := .bool false) rfl (by kernel_rfl) (by kernel_rfl) (by kernel_rfl) (fun _ _ _ h => h) (Or.inl ⟨by rfl, fun W hW => by clear hW; go_simp⟩) H0.out ?_
      try simp only [Act.put, List.getElem_toArray, List.getElem_cons_succ, List.getElem_cons_zero, List.setIfInBounds_toArray, List.set_cons_zero, List.set_cons_succ]
      refine wpAnyH_take (i := 8) (v := .bool false) rfl (by kernel_rfl) (by kernel_rfl) (by kernel_rfl) (fun _ _ _ h => h) (Or.inl ⟨by rfl, fun W hW => by clear hW; go_simp⟩) H0.out ?_
      try simp only [Act.put, List.getElem_toArray, List.getElem_cons_succ, List.getElem_cons_zero, List.setIfInBounds_toArray, List.set_cons_zero, List.set_cons_succ]
      refine wpAnyH_take (i := 9) (v := undef) rfl (by kernel_rfl) (by kernel_rfl) (by kernel_rfl) (fun _ _ _ h => h) (Or.inr ⟨by rfl, rfl⟩) H0.out ?_
      try simp only [Act.put, List.getElem_toArray, List.getElem_cons_succ, List.getElem_cons_zero, List.setIfInBounds_toArray, List.set_cons_zero, List.set_cons_succ]
      refine wpAnyH_take (i := 10) (v := undef) rfl (by kernel_rfl) (by kernel_rfl) (by kernel_rfl) (fun _ _ _ h => h) (Or.inr ⟨by rfl, rfl⟩) H0.out ?_
      try simp only [Act.put, List.getElem_toArray, List.getElem_cons_succ, List.getElem_cons_zero, List.setIfInBounds_toArray, List.set_cons_zero, List.set_cons_succ]
      refine wpAnyH_take (i := 11) (v := undef) rfl (by kernel_rfl) (by kernel_rfl) (by kernel_rfl) (fun _ _ _ h => h) (Or.inr ⟨by rfl, rfl⟩) H0.out ?_
      try simp only [Act.put, List.getElem_toArray, List.getElem_cons_succ, List.getElem_cons_zero, List.setIfInBounds_toArray, List.set_cons_zero, List.set_cons_succ]
      refine wpAnyH_take (i := 12) (v := .bool false) rfl (by kernel_rfl) (by kernel_rfl) (by kernel_rfl) (fun _ _ _ h => h) (Or.inl ⟨by rfl, fun W hW => by clear hW; go_simp⟩) H0.out ?_
      try simp only [Act.put, List.getElem_toArray, List.getElem_cons_succ, List.getElem_cons_zero, List.setIfInBounds_toArray, List.set_cons_zero, List.set_cons_succ]
      refine wpAnyH_take (i := 13) (v := .bool false) rfl (by kernel_rfl) (by kernel_rfl) (by kernel_rfl) (fun _ _ _ h => h) (Or.inl ⟨by rfl, fun W hW => by clear hW; go_simp⟩) H0.out ?_
      try simp only [Act.put, List.getElem_toArray, List.getElem_cons_succ, List.getElem_cons_zero, List.setIfInBounds_toArray, List.set_cons_zero, List.set_cons_succ]
      refine wpAnyH_take (i := 14) (v := undef) rfl (by kernel_rfl) (by kernel_rfl) (by kernel_rfl) (fun _ _ _ h => h) (Or.inr ⟨by rfl, rfl⟩) H0.out ?_
      try simp only [Act.put, List.getElem_toArray, List.getElem_cons_succ, List.getElem_cons_zero, List.setIfInBounds_toArray, List.set_cons_zero, List.set_cons_succ]
      refine wpAnyH_take (i := 15) (v := undef) rfl (by kernel_rfl) (by kernel_rfl) (by kernel_rfl) (fun _ _ _ h => h) (Or.inr ⟨by rfl, rfl⟩) H0.out ?_
      try simp only [Act.put, List.getElem_toArray, List.getElem_cons_succ, List.getElem_cons_zero, List.setIfInBounds_toArray, List.set_cons_zero, List.set_cons_succ]
      refine wpAnyH_take (i := 16) (v := undef) rfl (by kernel_rfl) (by kernel_rfl) (by kernel_rfl) (fun _ _ _ h => h) (Or.inr ⟨by rfl, rfl⟩) H0.out ?_
      try simp only [Act.put, List.getElem_toArray, List.getElem_cons_succ, List.getElem_cons_zero, List.setIfInBounds_toArray, List.set_cons_zero, List.set_cons_succ]
      refine wpAnyH_take (i := 17) (v := undef) rfl (by kernel_rfl) (by kernel_rfl) (by kernel_rfl) (fun _ _ _ h => h) (Or.inr ⟨by rfl, rfl⟩) H0.out ?_
      try simp only [Act.put, List.getElem_toArray, List.getElem_cons_succ, List.getElem_cons_zero, List.setIfInBounds_toArray, List.set_cons_zero, List.set_cons_succ]
      refine wpAnyH_take (i := 18) (v := undef) rfl (by kernel_rfl) (by kernel_rfl) (by kernel_rfl) (fun _ _ _ h => h) (Or.inr ⟨by rfl, rfl⟩) H0.out ?_
      try simp only [Act.put, List.getElem_toArray, List.getElem_cons_succ, List.getElem_cons_zero, List.setIfInBounds_toArray, List.set_cons_zero, List.set_cons_succ]
      refine wpAnyH_take (i := 19) (v := undef) rfl (by kernel_rfl) (by kernel_rfl) (by kernel_rfl) (fun _ _ _ h => h) (Or.inr ⟨by rfl, rfl⟩) H0.out ?_
      try simp only [Act.put, List.getElem_toArray, List.getElem_cons_succ, List.getElem_cons_zero, List.setIfInBounds_toArray, List.set_cons_zero, List.set_cons_succ]
      refine wpAnyH_take (i := 20) (v := undef) rfl (by kernel_rfl) (by kernel_rfl) (by kernel_rfl) (fun _ _ _ h => h) (Or.inr ⟨by rfl, rfl⟩) H0.out ?_
      try simp only [Act.put, List.getElem_toArray, List.getElem_cons_succ, List.getElem_cons_zero, List.setIfInBounds_toArray, List.set_cons_zero, List.set_cons_succ]
      refine wpAnyH_take (i := 21) (v := .bool false) rfl (by kernel_rfl) (by kernel_rfl) (by kernel_rfl) (fun _ _ _ h => h) (Or.inl ⟨by rfl, fun W hW => by clear hW; go_simp⟩) H0.out ?_
      try simp only [Act.put, List.getElem_toArray, List.getElem_cons_succ, List.getElem_cons_zero, List.setIfInBounds_toArray, List.set_cons_zero, List.set_cons_succ]
      refine wpAnyH_take (i := 22) (v := .bool false) rfl (by kernel_rfl) (by kernel_rfl) (by kernel_rfl) (fun _ _ _ h => h) (Or.inl ⟨by rfl, fun W hW => by clear hW; go_simp⟩) H0.out ?_
      try simp only [Act.put, List.getElem_toArray, List.getElem_cons_succ, List.getElem_cons_zero, List.setIfInBounds_toArray, List.set_cons_zero, List.set_cons_succ]
      refine wpAnyH_done (by kernel_rfl) ?_ _
      have bel := HS0.out.bel
      clear HS0 H0 CB
      go_wp2
      go_ret
      exact ⟨by rw [ev.out]; rfl, bel⟩
  · have ev := Lib.hid (NO.out (fun h => h0 h.1))
    have q1 : decide (x.l ≥ 0) = false := decide_eq_false (by omega)
    have q2 : (x.l ≥ 0) = False := eq_false (by omega)
    have q0 : (0 ≤ x.l) = False := eq_false (by omega)
    clear NO YE h0
    go_enter Try.func34, Try.ntmps34
    go_wp2_with (first
      | (refine wpList_box_st S0 28 _ rfl rfl p.arr rfl ?_; clear S0; intro W1 h1 _ _; replace h1 := h1.front; generalize W.heap.size = pb at h1)
      | (have _ := h1; refine wpList_box_it h1 x _ rfl rfl rfl ?_; clear h1; intro W2 h2 _; generalize W1.heap.size = xb at *))
    have HS0 := Lib.hid h2.drew
    have CB := Lib.hid (fun V (h : St W V [(xb, C 42 x.arr), (pb, C 28 p.arr)]) => show V.cell? ⟨xb, 0, none⟩ = some (.int .i64 x.l) ∧ V.cell? ⟨xb, 1, none⟩ = some (.int .i64 x.x) ∧ (loadVar 28 ⟨pb, 0, none⟩).run Try.prog V = .ok (.agg p.arr) V from ⟨h.cell 0 rfl 0 _ x.at0, h.cell 0 rfl 1 _ x.at1, load_plA (h.get 1 rfl)⟩)
    have H0 := Lib.hid (CB.out _ HS0.out)
    clear h2
    refine wp_region_held_drew (S := fun W => W.cell? ⟨xb, 0, none⟩ = some (.int .i64 x.l) ∧ W.cell? ⟨xb, 1, none⟩ = some (.int .i64 x.x) ∧ (loadVar 28 ⟨pb, 0, none⟩).run Try.prog W = .ok (.agg p.arr) W) (by kernel_rfl) H0.out (fun _ => ?_)
    generalize W2.drew = V0 at *
    refine wpAnyH_take (i := 0) (v := .pointer (some ⟨xb, 0, none⟩)) rfl (by kernel_rfl) (by kernel_rfl) (by kernel_rfl) (fun _ _ _ h => h) (Or.inl ⟨by rfl, fun W hW => by clear hW; go_simp⟩) H0.out ?_
    try simp only [Act.put, List.getElem_toArray, List.getElem_cons_succ, List.getElem_cons_zero, List.setIfInBounds_toArray, List.set_cons_zero, List.set_cons_succ]
    refine wpAnyH_take (i := 1) (v := .int .i64 x.l) rfl (by kernel_rfl) (by kernel_rfl) (by kernel_rfl) (fun _ _ _ h => h) (Or.inl ⟨by rfl, fun W hW => by have hc := (show W.cell? ⟨xb, 0, none⟩ = some (.int .i64 x.l) from hW.1); clear hW; go_simp⟩) H0.out ?_
    try simp only [Act.put, List.getElem_toArray, List.getElem_cons_succ, List.getElem_cons_zero, List.setIfInBounds_toArray, List.set_cons_zero, List.set_cons_succ]
    refine wpAnyH_take (i := 2) (v := .bool false) rfl (by kernel_rfl) (by kernel_rfl) (by kernel_rfl) (fun _ _ _ h => h) (Or.inl ⟨by rfl, fun W hW => by clear hW; go_simp⟩) H0.out ?_
    try simp only [Act.put, List.getElem_toArray, List.getElem_cons_succ, List.getElem_cons_zero, List.setIfInBounds_toArray, List.set_cons_zero, List.set_cons_succ]
    refine wpAnyH_take (i := 3) (v := .bool false) rfl (by kernel_rfl) (by kernel_rfl) (by kernel_rfl) (fun _ _ _ h => h) (Or.inl ⟨by rfl, fun W hW => by clear hW; go_simp⟩) H0.out ?_
    try simp only [Act.put, List.getElem_toArray, List.getElem_cons_succ, List.getElem_cons_zero, List.setIfInBounds_toArray, List.set_cons_zero, List.set_cons_succ]
    refine wpAnyH_take (i := 4) (v := undef) rfl (by kernel_rfl) (by kernel_rfl) (by kernel_rfl) (fun _ _ _ h => h) (Or.inr ⟨by rfl, rfl⟩) H0.out ?_
    try simp only [Act.put, List.getElem_toArray, List.getElem_cons_succ, List.getElem_cons_zero, List.setIfInBounds_toArray, List.set_cons_zero, List.set_cons_succ]
    refine wpAnyH_take (i := 5) (v := undef) rfl (by kernel_rfl) (by kernel_rfl) (by kernel_rfl) (fun _ _ _ h => h) (Or.inr ⟨by rfl, rfl⟩) H0.out ?_
    try simp only [Act.put, List.getElem_toArray, List.getElem_cons_succ, List.getElem_cons_zero, List.setIfInBounds_toArray, List.set_cons_zero, List.set_cons_succ]
    refine wpAnyH_take (i := 6) (v := undef) rfl (by kernel_rfl) (by kernel_rfl) (by kernel_rfl) (fun _ _ _ h => h) (Or.inr ⟨by rfl, rfl⟩) H0.out ?_
    try simp only [Act.put, List.getElem_toArray, List.getElem_cons_succ, List.getElem_cons_zero, List.setIfInBounds_toArray, List.set_cons_zero, List.set_cons_succ]
    refine wpAnyH_take (i := 7) (v := .bool false) rfl (by kernel_rfl) (by kernel_rfl) (by kernel_rfl) (fun _ _ _ h => h) (Or.inl ⟨by rfl, fun W hW => by clear hW; go_simp⟩) H0.out ?_
    try simp only [Act.put, List.getElem_toArray, List.getElem_cons_succ, List.getElem_cons_zero, List.setIfInBounds_toArray, List.set_cons_zero, List.set_cons_succ]
    refine wpAnyH_take (i := 8) (v := .bool false) rfl (by kernel_rfl) (by kernel_rfl) (by kernel_rfl) (fun _ _ _ h => h) (Or.inl ⟨by rfl, fun W hW => by clear hW; go_simp⟩) H0.out ?_
    try simp only [Act.put, List.getElem_toArray, List.getElem_cons_succ, List.getElem_cons_zero, List.setIfInBounds_toArray, List.set_cons_zero, List.set_cons_succ]
    refine wpAnyH_take (i := 9) (v := undef) rfl (by kernel_rfl) (by kernel_rfl) (by kernel_rfl) (fun _ _ _ h => h) (Or.inr ⟨by rfl, rfl⟩) H0.out ?_
    try simp only [Act.put, List.getElem_toArray, List.getElem_cons_succ, List.getElem_cons_zero, List.setIfInBounds_toArray, List.set_cons_zero, List.set_cons_succ]
    refine wpAnyH_take (i := 10) (v := undef) rfl (by kernel_rfl) (by kernel_rfl) (by kernel_rfl) (fun _ _ _ h => h) (Or.inr ⟨by rfl, rfl⟩) H0.out ?_
    try simp only [Act.put, List.getElem_toArray, List.getElem_cons_succ, List.getElem_cons_zero, List.setIfInBounds_toArray, List.set_cons_zero, List.set_cons_succ]
    refine wpAnyH_take (i := 11) (v := undef) rfl (by kernel_rfl) (by kernel_rfl) (by kernel_rfl) (fun _ _ _ h => h) (Or.inr ⟨by rfl, rfl⟩) H0.out ?_
    try simp only [Act.put, List.getElem_toArray, List.getElem_cons_succ, List.getElem_cons_zero, List.setIfInBounds_toArray, List.set_cons_zero, List.set_cons_succ]
    refine wpAnyH_take (i := 12) (v := .bool false) rfl (by kernel_rfl) (by kernel_rfl) (by kernel_rfl) (fun _ _ _ h => h) (Or.inl ⟨by rfl, fun W hW => by clear hW; go_simp⟩) H0.out ?_
    try simp only [Act.put, List.getElem_toArray, List.getElem_cons_succ, List.getElem_cons_zero, List.setIfInBounds_toArray, List.set_cons_zero, List.set_cons_succ]
    refine wpAnyH_take (i := 13) (v := .bool false) rfl (by kernel_rfl) (by kernel_rfl) (by kernel_rfl) (fun _ _ _ h => h) (Or.inl ⟨by rfl, fun W hW => by clear hW; go_simp⟩) H0.out ?_
    try simp only [Act.put, List.getElem_toArray, List.getElem_cons_succ, List.getElem_cons_zero, List.setIfInBounds_toArray, List.set_cons_zero, List.set_cons_succ]
    refine wpAnyH_take (i := 14) (v := undef) rfl (by kernel_rfl) (by kernel_rfl) (by kernel_rfl) (fun _ _ _ h => h) (Or.inr ⟨by rfl, rfl⟩) H0.out ?_
    try simp only [Act.put, List.getElem_toArray, List.getElem_cons_succ, List.getElem_cons_zero, List.setIfInBounds_toArray, List.set_cons_zero, List.set_cons_succ]
    refine wpAnyH_take (i := 15) (v := undef) rfl (by kernel_rfl) (by kernel_rfl) (by kernel_rfl) (fun _ _ _ h => h) (Or.inr ⟨by rfl, rfl⟩) H0.out ?_
    try simp only [Act.put, List.getElem_toArray, List.getElem_cons_succ, List.getElem_cons_zero, List.setIfInBounds_toArray, List.set_cons_zero, List.set_cons_succ]
    refine wpAnyH_take (i := 16) (v := undef) rfl (by kernel_rfl) (by kernel_rfl) (by kernel_rfl) (fun _ _ _ h => h) (Or.inr ⟨by rfl, rfl⟩) H0.out ?_
    try simp only [Act.put, List.getElem_toArray, List.getElem_cons_succ, List.getElem_cons_zero, List.setIfInBounds_toArray, List.set_cons_zero, List.set_cons_succ]
    refine wpAnyH_take (i := 17) (v := undef) rfl (by kernel_rfl) (by kernel_rfl) (by kernel_rfl) (fun _ _ _ h => h) (Or.inr ⟨by rfl, rfl⟩) H0.out ?_
    try simp only [Act.put, List.getElem_toArray, List.getElem_cons_succ, List.getElem_cons_zero, List.setIfInBounds_toArray, List.set_cons_zero, List.set_cons_succ]
    refine wpAnyH_take (i := 18) (v := undef) rfl (by kernel_rfl) (by kernel_rfl) (by kernel_rfl) (fun _ _ _ h => h) (Or.inr ⟨by rfl, rfl⟩) H0.out ?_
    try simp only [Act.put, List.getElem_toArray, List.getElem_cons_succ, List.getElem_cons_zero, List.setIfInBounds_toArray, List.set_cons_zero, List.set_cons_succ]
    refine wpAnyH_take (i := 19) (v := undef) rfl (by kernel_rfl) (by kernel_rfl) (by kernel_rfl) (fun _ _ _ h => h) (Or.inr ⟨by rfl, rfl⟩) H0.out ?_
    try simp only [Act.put, List.getElem_toArray, List.getElem_cons_succ, List.getElem_cons_zero, List.setIfInBounds_toArray, List.set_cons_zero, List.set_cons_succ]
    refine wpAnyH_take (i := 20) (v := undef) rfl (by kernel_rfl) (by kernel_rfl) (by kernel_rfl) (fun _ _ _ h => h) (Or.inr ⟨by rfl, rfl⟩) H0.out ?_
    try simp only [Act.put, List.getElem_toArray, List.getElem_cons_succ, List.getElem_cons_zero, List.setIfInBounds_toArray, List.set_cons_zero, List.set_cons_succ]
    refine wpAnyH_take (i := 21) (v := .bool false) rfl (by kernel_rfl) (by kernel_rfl) (by kernel_rfl) (fun _ _ _ h => h) (Or.inl ⟨by rfl, fun W hW => by clear hW; go_simp⟩) H0.out ?_
    try simp only [Act.put, List.getElem_toArray, List.getElem_cons_succ, List.getElem_cons_zero, List.setIfInBounds_toArray, List.set_cons_zero, List.set_cons_succ]
    refine wpAnyH_take (i := 22) (v := .bool false) rfl (by kernel_rfl) (by kernel_rfl) (by kernel_rfl) (fun _ _ _ h => h) (Or.inl ⟨by rfl, fun W hW => by clear hW; go_simp⟩) H0.out ?_
    try simp only [Act.put, List.getElem_toArray, List.getElem_cons_succ, List.getElem_cons_zero, List.setIfInBounds_toArray, List.set_cons_zero, List.set_cons_succ]
    refine wpAnyH_done (by kernel_rfl) ?_ _
    have bel := HS0.out.bel
    clear HS0 H0 CB
    go_wp2
    go_ret
    exact ⟨by rw [ev.out]; rfl, bel⟩
end Go.Proofs.Ytnogmfpaipjdaaa
namespace Go.Proofs.Ytnogmfpaipjdaaa
open Go.RowKit
open P (Pl right hasI vals)
set_option maxRecDepth 20000
set_option linter.unusedVariables false
set_option linter.unusedSimpArgs false

section
variable {ops : Array Oper} {rest : List Oper} {o : Oper} {a : Act} {w W : World} {K : Act → World → Prop} {Q : Exit → Act → World → Prop} {L : Blks} {r : Nat} {p : Pl} {l : List Cd}
theorem wpList_alloc_cdR (h : RC w W r p l L) (ho : o.op = .alloc 59) (hw : Region.wanted o (yielded ops a.tmps) = true)
    (k : ∀ W', RC w W' r p l ((W.heap.size, C 59 zcd.arr) :: L) → wpList Try.prog ops Q rest (a.put o.dst (.pointer (some ⟨W.heap.size, 0, none⟩))) W') : wpList Try.prog ops Q (o :: rest) a W := by
  obtain ⟨Y, hs, up⟩ := h.lift
  exact wpList_alloc_cd hs ho hw fun W' h' _ => k W' (RC.front up h')
theorem wpList_alloc_itR (h : RC w W r p l L) (ho : o.op = .alloc 42) (hw : Region.wanted o (yielded ops a.tmps) = true)
    (k : ∀ W', RC w W' r p l ((W.heap.size, C 42 zit.arr) :: L) → wpList Try.prog ops Q rest (a.put o.dst (.pointer (some ⟨W.heap.size, 0, none⟩))) W') : wpList Try.prog ops Q (o :: rest) a W := by
  obtain ⟨Y, hs, up⟩ := h.lift
  exact wpList_alloc_it hs ho hw fun W' h' _ => k W' (RC.front up h')
theorem wpList_box_itR (h : RC w W r p l L) (x : It) (y : Operand) (ho : o.op = .box 42 y) (hw : Region.wanted o (yielded ops a.tmps) = true) (hx : a.eval y = .agg x.arr)
    (k : ∀ W', RC w W' r p l ((W.heap.size, C 42 x.arr) :: L) → wpList Try.prog ops Q rest (a.put o.dst (.pointer (some ⟨W.heap.size, 0, none⟩))) W') : wpList Try.prog ops Q (o :: rest) a W := by
  obtain ⟨Y, hs, up⟩ := h.lift
  exact wpList_box_it hs x y ho hw hx fun W' h' _ => k W' (RC.front up h')
theorem wpList_box_cdR (h : RC w W r p l L) (x : Cd) (y : Operand) (ho : o.op = .box 59 y) (hw : Region.wanted o (yielded ops a.tmps) = true) (hx : a.eval y = .agg x.arr)
    (k : ∀ W', RC w W' r p l ((W.heap.size, C 59 x.arr) :: L) → wpList Try.prog ops Q rest (a.put o.dst (.pointer (some ⟨W.heap.size, 0, none⟩))) W') : wpList Try.prog ops Q (o :: rest) a W := by
  obtain ⟨Y, hs, up⟩ := h.lift
  exact wpList_box_cd hs x y ho hw hx fun W' h' _ => k W' (RC.front up h')
theorem wpList_box_lnR (h : RC w W r p l L) (xs : List Nat) (y : Operand) (ho : o.op = .box 44 y) (hw : Region.wanted o (yielded ops a.tmps) = true) (hx : a.eval y = .agg (lnA xs))
    (k : ∀ W', RC w W' r p l ((W.heap.size, C 44 (lnA xs)) :: L) → wpList Try.prog ops Q rest (a.put o.dst (.pointer (some ⟨W.heap.size, 0, none⟩))) W') : wpList Try.prog ops Q (o :: rest) a W := by
  obtain ⟨Y, hs, up⟩ := h.lift
  exact wpList_box_ln hs xs y ho hw hx fun W' h' _ => k W' (RC.front up h')
/-- The i-th block beside the caches is stored into. -/
theorem wpList_store_cdR (h : RC w W r p l L) (i : Nat) {q : Nat} {d : Cd} (e : Cd) (hi : L[i]? = some (q, C 59 d.arr)) (x y : Operand) (ho : o.op = .store 59 x y) (hw : Region.wanted o (yielded ops a.tmps) = true)
    (hx : a.eval x = .pointer (some ⟨q, 0, none⟩)) (hy : a.eval y = .agg e.arr)
    (k : ∀ W', RC w W' r p l (L.set i (q, C 59 e.arr)) → wpList Try.prog ops Q rest (a.put o.dst undef) W') : wpList Try.prog ops Q (o :: rest) a W := by
  obtain ⟨Y, hs, up⟩ := h.lift
  refine wpList_store_cd hs (Y.length + i) e (by rw [List.getElem?_append_right (by omega)]; simpa using hi) x y ho hw hx hy fun W' h' _ => k W' (up _ _ ?_)
  rw [List.set_append_right _ _ (by omega)] at h'
  simpa using h'
theorem wpList_store_itR (h : RC w W r p l L) (i : Nat) {q : Nat} {d : It} (e : It) (hi : L[i]? = some (q, C 42 d.arr)) (x y : Operand) (ho : o.op = .store 42 x y) (hw : Region.wanted o (yielded ops a.tmps) = true)
    (hx : a.eval x = .pointer (some ⟨q, 0, none⟩)) (hy : a.eval y = .agg e.arr)
    (k : ∀ W', RC w W' r p l (L.set i (q, C 42 e.arr)) → wpList Try.prog ops Q rest (a.put o.dst undef) W') : wpList Try.prog ops Q (o :: rest) a W := by
  obtain ⟨Y, hs, up⟩ := h.lift
  refine wpList_store_it hs (Y.length + i) e (by rw [List.getElem?_append_right (by omega)]; simpa using hi) x y ho hw hx hy fun W' h' _ => k W' (up _ _ ?_)
  rw [List.set_append_right _ _ (by omega)] at h'
  simpa using h'
/-- One cell of the i-th block beside the caches is stored into. -/
theorem wpList_cellR (h : RC w W r p l L) (i : Nat) {q : Nat} {t : TypeId} {arr : Array Value} (hi : L[i]? = some (q, C t arr)) (ty : TypeId) (x y : Operand) (ho : o.op = .store ty x y) (hw : Region.wanted o (yielded ops a.tmps) = true)
    (m : Nat) (v : Value) (hx : a.eval x = .pointer (some ⟨q, m, none⟩)) (hy : a.eval y = v) (hm : m < arr.size) (hv : v.cells = #[v]) (h1 : v.oneCell' = true) (hs : (Try.prog.info? ty).map (·.size) = some 1)
    (k : ∀ W', RC w W' r p l (L.set i (q, C t (arr.setIfInBounds m v))) → wpList Try.prog ops Q rest (a.put o.dst undef) W') : wpList Try.prog ops Q (o :: rest) a W := by
  obtain ⟨Y, hst, up⟩ := h.lift
  refine wpList_cell_st hst (Y.length + i) (by rw [List.getElem?_append_right (by omega)]; simpa using hi) ty x y ho hw m v hx hy hm hv h1 hs fun W' h' _ => k W' (up _ _ ?_)
  rw [List.set_append_right _ _ (by omega)] at h'
  simpa using h'
theorem wpList_store_lnR (h : RC w W r p l L) (i : Nat) {q : Nat} (c : Cd) (hi : L[i]? = some (q, C 59 c.arr)) (xs : List Nat) (hl : xs.length = 32) (x y : Operand) (ho : o.op = .store 44 x y) (hw : Region.wanted o (yielded ops a.tmps) = true)
    (hx : a.eval x = .pointer (some ⟨q, 3, none⟩)) (hy : a.eval y = .agg (lnA xs))
    (k : ∀ W', RC w W' r p l (L.set i (q, C 59 ({ c with bs := xs, hl := hl } : Cd).arr)) → wpList Try.prog ops Q rest (a.put o.dst undef) W') : wpList Try.prog ops Q (o :: rest) a W := by
  obtain ⟨Y, hst, up⟩ := h.lift
  refine wpList_store_lnS hst (Y.length + i) c (by rw [List.getElem?_append_right (by omega)]; simpa using hi) xs hl x y ho hw hx hy fun W' h' => k W' (up _ _ ?_)
  rw [List.set_append_right _ _ (by omega)] at h'
  simpa using h'
theorem wpList_store_dtR (h : RC w W r p l L) (i : Nat) {q : Nat} (c : Cd) (hi : L[i]? = some (q, C 59 c.arr)) (v : Bool) (x y : Operand) (ho : o.op = .store 4 x y) (hw : Region.wanted o (yielded ops a.tmps) = true)
    (hx : a.eval x = .pointer (some ⟨q, 35, none⟩)) (hy : a.eval y = .bool v)
    (k : ∀ W', RC w W' r p l (L.set i (q, C 59 ({ c with dt := v } : Cd).arr)) → wpList Try.prog ops Q rest (a.put o.dst undef) W') : wpList Try.prog ops Q (o :: rest) a W := by
  refine wpList_cellR h i hi 4 x y ho hw 35 (.bool v) hx hy (by rw [c.arr_size]; omega) rfl rfl sz4 fun W' h' => k W' ?_
  rwa [c.set_dt] at h'
theorem wpList_store_bkR (h : RC w W r p l L) (i : Nat) {q : Nat} (c : Cd) (hi : L[i]? = some (q, C 59 c.arr)) (v : Int) (x y : Operand) (ho : o.op = .store 3 x y) (hw : Region.wanted o (yielded ops a.tmps) = true)
    (hx : a.eval x = .pointer (some ⟨q, 2, none⟩)) (hy : a.eval y = .int .i64 v)
    (k : ∀ W', RC w W' r p l (L.set i (q, C 59 ({ c with bk := v } : Cd).arr)) → wpList Try.prog ops Q rest (a.put o.dst undef) W') : wpList Try.prog ops Q (o :: rest) a W := by
  refine wpList_cellR h i hi 3 x y ho hw 2 (.int .i64 v) hx hy (by rw [c.arr_size]; omega) rfl rfl sz3 fun W' h' => k W' ?_
  rwa [c.set_bk] at h'

/-- Block r holds the row u; beside it the row v holds l. -/
def RX (w W : World) (r : Nat) (p : Pl) (u v : Value) (l : List Cd) (L : Blks) : Prop := ∃ M, RL v l M ∧ St w W (M ++ ((r, C 40 (pcar p u)) :: L))
theorem RC.open_ (h : RC w W r p l L) : ∃ A c, RX w W r p (.slice A l.length c) (.slice A l.length c) l L := by
  obtain ⟨v, M, h1, h2⟩ := h
  obtain ⟨A, c, rfl, _⟩ := h1.form
  exact ⟨A, c, M, h1, h2⟩
theorem RX.st {u v : Value} (h : RX w W r p u v l L) : St w W L := by
  obtain ⟨M, h1, h2⟩ := h
  exact h2.sub ((List.sublist_cons_self _ _).trans (List.sublist_append_right _ _))
theorem RX.blk {u v : Value} (h : RX w W r p u v l L) : At W r 40 (pcar p u) := by
  obtain ⟨M, h1, h2⟩ := h
  exact h2.at_ (r, C 40 (pcar p u)) (by simp)
theorem RX.c46 {u v : Value} (h : RX w W r p u v l L) : W.cell? ⟨r, 46, none⟩ = some u := (h.blk.cell 46).trans (pcar46 _ _)
theorem RX.lift {u v : Value} (h : RX w W r p u v l L) : ∃ Y : Blks, St w W (Y ++ L) ∧ ∀ W' M, St w W' (Y ++ M) → RX w W' r p u v l M := by
  obtain ⟨M, h1, h2⟩ := h
  exact ⟨M ++ [(r, C 40 (pcar p u))], by simpa using h2, fun W' N h' => ⟨M, h1, by simpa using h'⟩⟩
theorem RX.front {u v : Value} {W' : World} {x : Nat × Obj} {Y : Blks} (up : ∀ W' M, St w W' (Y ++ M) → RX w W' r p u v l M) (h : St w W' (x :: (Y ++ L))) : RX w W' r p u v l (x :: L) := up _ _ (h.perm List.perm_middle.symm)
theorem RX.tail {u v : Value} {x : Nat × Obj} (h : RX w W r p u v l (x :: L)) : RX w W r p u v l L := by
  obtain ⟨Y, hs, up⟩ := h.lift
  exact up _ _ (hs.sub ((List.sublist_cons_self x L).append_left Y))
theorem wp_build1_rx {u v : Value} (h : RX w W r p u v l L) (x : Operand) (c : Cd) (ho : o.op = .buildSlice 38 1 #[(0, x)]) (hx : a.eval x = .agg c.arr)
    (k : ∀ W' b, RX w W' r p u v l ((b, C 59 c.arr) :: L) → K (a.put o.dst (.slice (some ⟨b, 0, none⟩) 1 1)) W') : o.wp Try.prog a W K Q := by
  obtain ⟨Y, hs, up⟩ := h.lift
  refine wp_build1_st (α := Cd) hs x c ho (by rw [hx]; exact (Cd.arr_eq c).symm) fun W' h' => k W' _ (RX.front up ?_)
  exact h'
theorem wp_append_rx {u v : Value} {b : Nat} {c : Cd} (h : RX w W r p u v l ((b, C 59 c.arr) :: L)) (s x : Operand) (ho : o.op = .call { callee := .builtin .append, args := #[s, x], argTypes := #[38, 38] })
    (hsv : a.eval s = v) (hx : a.eval x = .slice (some ⟨b, 0, none⟩) 1 1) (hl : l.length + 1 ≤ 100000)
    (k : ∀ W' v', RX w W' r p u v' (l ++ [c]) L → K (a.put o.dst v') W') : o.wp Try.prog a W K Q := by
  obtain ⟨M, h1, h2⟩ := h
  have hA : At W b 59 c.arr := h2.at_ (b, C 59 c.arr) (by simp)
  have hr : ERow W W.heap.size (some ⟨b, 0, none⟩) 1 1 [c] := new_row (L := M ++ [(r, C 40 (pcar p u))] ++ L) (h2.perm (by
    have : (M ++ ((r, C 40 (pcar p u)) :: (b, C 59 c.arr) :: L)) = (M ++ [(r, C 40 (pcar p u))]) ++ ((b, C 59 c.arr) :: L) := by simp
    rw [this]
    exact List.perm_middle))
  refine wp_append_rl h1 h2 hr s x ho hsv hx hl fun v' W' M' h3 h4 => k W' v' ⟨M', h3, h4.sub ?_⟩
  exact List.Sublist.append_left ((List.sublist_cons_self _ _).cons_cons _) M'
theorem rx_set {u v : Value} {W' : World} {M : Blks} (h1 : RL v l M) (h : St w W' ((M ++ ((r, C 40 (pcar p u)) :: L)).set M.length (r, C 40 ((pcar p u).setIfInBounds 46 v)))) : RC w W' r p l L := by
  rw [pcar_set, List.set_append_right _ _ (Nat.le_refl _), Nat.sub_self] at h
  exact ⟨v, M, h1, h⟩
theorem wp_set_rx {u v : Value} (h : RX w W r p u v l L) (x y : Operand) (ho : o.op = .store 38 x y) (hx : a.eval x = .pointer (some ⟨r, 46, none⟩)) (hy : a.eval y = v)
    (k : ∀ W', RC w W' r p l L → K (a.put o.dst undef) W') : o.wp Try.prog a W K Q := by
  obtain ⟨M, h1, h2⟩ := h
  exact wp_cell_st h2 M.length (by rw [List.getElem?_append_right (Nat.le_refl _), Nat.sub_self]; rfl) 38 x y ho 46 v hx hy (by rw [pcar_size]; omega) (rl_cells h1).1 (rl_cells h1).2 sz38 fun W' h' => k W' (rx_set h1 h')
theorem wpList_build1_rx {u v : Value} (h : RX w W r p u v l L) (x : Operand) (c : Cd) (ho : o.op = .buildSlice 38 1 #[(0, x)]) (hw : Region.wanted o (yielded ops a.tmps) = true) (hx : a.eval x = .agg c.arr)
    (k : ∀ W' b, RX w W' r p u v l ((b, C 59 c.arr) :: L) → wpList Try.prog ops Q rest (a.put o.dst (.slice (some ⟨b, 0, none⟩) 1 1)) W') : wpList Try.prog ops Q (o :: rest) a W := by
  unfold wpList
  rw [if_pos hw]
  exact .inl (wp_build1_rx h x c ho hx k)
theorem wpList_append_rx {u v : Value} {b : Nat} {c : Cd} (h : RX w W r p u v l ((b, C 59 c.arr) :: L)) (s x : Operand) (ho : o.op = .call { callee := .builtin .append, args := #[s, x], argTypes := #[38, 38] }) (hw : Region.wanted o (yielded ops a.tmps) = true)
    (hsv : a.eval s = v) (hx : a.eval x = .slice (some ⟨b, 0, none⟩) 1 1) (hl : l.length + 1 ≤ 100000)
    (k : ∀ W' v', RX w W' r p u v' (l ++ [c]) L → wpList Try.prog ops Q rest (a.put o.dst v') W') : wpList Try.prog ops Q (o :: rest) a W := by
  unfold wpList
  rw [if_pos hw]
  exact .inl (wp_append_rx h s x ho hsv hx hl k)
theorem wpList_set_rx {u v : Value} (h : RX w W r p u v l L) (x y : Operand) (ho : o.op = .store 38 x y) (hw : Region.wanted o (yielded ops a.tmps) = true) (hx : a.eval x = .pointer (some ⟨r, 46, none⟩)) (hy : a.eval y = v)
    (k : ∀ W', RC w W' r p l L → wpList Try.prog ops Q rest (a.put o.dst undef) W') : wpList Try.prog ops Q (o :: rest) a W := by
  unfold wpList
  rw [if_pos hw]
  exact .inl (wp_set_rx h x y ho hx hy k)
/-- A new row is begun beside the document's; it is appended to; and it becomes the document's. -/
theorem wpList_build0_rc (h : RC w W r p l L) (ho : o.op = .buildSlice 38 0 #[]) (hw : Region.wanted o (yielded ops a.tmps) = true)
    (k : ∀ W' v N, RL v ([] : List Cd) N → RC w W' r p l (N ++ L) → Below W.heap.size W W' → wpList Try.prog ops Q rest (a.put o.dst v) W') : wpList Try.prog ops Q (o :: rest) a W := by
  obtain ⟨Y, hs, up⟩ := h.lift
  exact wpList_build0_st (α := Cd) hs ho hw fun W' v N _ h1 h2 h3 => k W' v N h1 (up _ _ (h2.perm (List.perm_append_comm_assoc N Y L))) h3
theorem wpList_append_rc {v : Value} {xs ys : List Cd} {N : Blks} {B k c : Nat} {A : Option Addr} (h1 : RL v xs N) (h : RC w W r p l (N ++ L)) (hr : ERow W B A k c ys) (s x : Operand) (ho : o.op = .call { callee := .builtin .append, args := #[s, x], argTypes := #[38, 38] }) (hw : Region.wanted o (yielded ops a.tmps) = true)
    (hsv : a.eval s = v) (hx : a.eval x = .slice A k c) (hl : xs.length + k ≤ 100000)
    (kk : ∀ v' W' N', RL v' (xs ++ ys) N' → RC w W' r p l (N' ++ L) → wpList Try.prog ops Q rest (a.put o.dst v') W') : wpList Try.prog ops Q (o :: rest) a W := by
  obtain ⟨Y, hs, up⟩ := h.lift
  exact wpList_append_rl h1 (hs.perm (List.perm_append_comm_assoc Y N L)) hr s x ho hw hsv hx hl fun v' W' N' h2 h3 => kk v' W' N' h2 (up _ _ (h3.perm (List.perm_append_comm_assoc N' Y L)))
theorem wpList_turn_rc {v : Value} {xs : List Cd} {N : Blks} (h1 : RL v xs N) (h : RC w W r p l (N ++ L)) (x y : Operand) (ho : o.op = .store 38 x y) (hw : Region.wanted o (yielded ops a.tmps) = true) (hx : a.eval x = .pointer (some ⟨r, 46, none⟩)) (hy : a.eval y = v)
    (k : ∀ W', RC w W' r p xs L → wpList Try.prog ops Q rest (a.put o.dst undef) W') : wpList Try.prog ops Q (o :: rest) a W := by
  obtain ⟨u, M, h2, h3⟩ := h
  refine wpList_set_rx (l := xs) (u := u) ⟨N, h1, ?_⟩ x y ho hw hx hy k
  have h4 := h3.sub (List.sublist_append_right M _)
  exact h4.perm List.perm_middle.symm
theorem wpList_slice_from {A : Option Addr} {n c k : Nat} (x y : Operand) (ho : o.op = .slice 38 x (some y) none none) (hw : Region.wanted o (yielded ops a.tmps) = true) (hx : a.eval x = .slice A n c) (hy : a.eval y = .int .i64 (k : Int)) (hk : k ≤ n) (hn : n ≤ c)
    (kk : wpList Try.prog ops Q rest (a.put o.dst (.slice (dropA A c k 36) (n - k) (c - k))) W) : wpList Try.prog ops Q (o :: rest) a W := by
  unfold wpList
  rw [if_pos hw]
  refine .inl ?_
  unfold Oper.wp
  rw [exec_slice_from (α := Cd) x y ho hx hy hk hn W]
  exact kk
end
end Go.Proofs.Ytnogmfpaipjdaaa
namespace Go.Proofs.Ytnogmfpaipjdaaa
open Go.RowKit
open P (Pl right hasI vals)
set_option maxRecDepth 20000
set_option linter.unusedVariables false
set_option linter.unusedSimpArgs false
attribute [local irreducible] It.arr Cd.arr
section
variable {w W W' : World} {r : Nat} {p : Pl} {l : List Cd} {L M : Blks}
set_option maxHeartbeats 4000000 in
theorem take_any (h : RC w W r p l L) (i : Nat) (e : Cd) (he : l[i]? = some e) (hl : l.length ≤ 1000) :
    Calls Try.prog 35 #[.pointer (some ⟨r, 0, none⟩), .int .i64 (i : Int)] W fun x W' => x = .returned (.agg e.arr) ∧ RC w W' r p (l.take i ++ l.drop (i + 1)) L := by
  obtain ⟨m, hm⟩ : ∃ m, m = i + 1 := ⟨_, rfl⟩
  have hi : i < l.length := (List.getElem?_eq_some_iff.1 he).1
  have RW := Lib.hid (fun V L (h : RC w V r p l L) => h.row)
  have LT := Lib.hid (show (l.take i).length = i by rw [List.length_take]; omega)
  have LD := Lib.hid (show (l.drop m).length = l.length - m by rw [List.length_drop])
  have hmI : (i : Int) + 1 = (m : Int) := by omega
  have hw : IntKind.i64.wrap (m : Int) = (m : Int) := IntWalk.i64_in _ (by omega)
  rw [← hm]
  generalize hn : l.length = n at *
  have b1 : i < n := hi
  have b2 : i ≤ n := by omega
  have b4 : m ≤ n := by omega
  have LE2 := Lib.hid (show (l.take i).length + (n - m) ≤ 100000 by rw [LT.out]; omega)
  clear hm
  go_enter Try.func35, Try.ntmps35
  go_wp2_with (first
    | (refine wpList_alloc_cdR h rfl rfl ?_; clear h; intro W1 h1; generalize W.heap.size = ab at *; obtain ⟨A1, c1, c46, hr1⟩ := RW.out _ _ h1; obtain ⟨bb, o, rfl, _, rg⟩ := hr1.at_ i e he; have rg : W1.rangeAt bb (o + i * 36) (Elt.cs e) := rg; clear hr1)
    | (have _ := rg; refine wpList_loadCd (e := e) rg _ rfl rfl rfl ?_; clear rg)
    | (have _ := h1; refine wpList_alloc_cdR h1 rfl rfl ?_; clear h1 c46; intro W2 h2; generalize W1.heap.size = yb at *)
    | (have _ := h2; refine wpList_store_cdR h2 0 e rfl _ _ rfl rfl rfl rfl ?_; clear h2; intro W3 h3)
    | (have _ := h3; refine wpList_build0_rc h3 rfl rfl ?_; clear h3; intro W4 v4 N4 hN4 h4 _; obtain ⟨A4, c4, d46, hr4⟩ := RW.out _ _ h4; have b3 : i ≤ c4 := by have := hr4.2.1; omega)
    | (have _ := hN4; refine wpList_append_rc hN4 h4 (hr4.take i b2) _ _ rfl rfl rfl rfl (by simp only [List.length_nil]; omega) ?_; clear hN4 h4 hr4 d46 b3; intro v5 W5 N5 hN5 h5; rw [List.nil_append] at hN5; obtain ⟨A5, c5, e46, hr5⟩ := RW.out _ _ h5; have b5 : n ≤ c5 := hr5.2.1)
    | (have _ := b5; refine wpList_slice_from (k := m) _ _ rfl rfl rfl rfl b4 b5 ?_; clear b5)
    | (have _ := hN5; refine wpList_append_rc hN5 h5 (hr5.from_ m b4) _ _ rfl rfl rfl rfl LE2.out ?_; clear hN5 h5 hr5 e46; intro v6 W6 N6 hN6 h6)
    | (have _ := hN6; refine wpList_turn_rc hN6 h6 _ _ rfl rfl rfl rfl ?_; clear hN6 h6; intro W7 h7; have r7 : W7.rangeAt yb 0 (Elt.cs e) := at_cd (h7.at2 0 rfl))
    | (have _ := r7; refine wpList_loadCd (e := e) r7 _ rfl rfl rfl ?_; clear r7)
    | (have _ := h7; refine wpList_store_cdR h7 1 e rfl _ _ rfl rfl rfl rfl ?_; clear h7; intro W8 h8))
  refine bodyPost_ret (P.results_arr Try.results35 _ _ _ rfl _ (load_cdA (h8.at2 1 rfl))) rfl ?_
  exact ⟨rfl, h8.tail.tail⟩
end
end Go.Proofs.Ytnogmfpaipjdaaa
namespace Go.Proofs.Ytnogmfpaipjdaaa
open Go.RowKit
open P (Pl right hasI vals)
set_option maxRecDepth 20000
set_option linter.unusedVariables false
set_option linter.unusedSimpArgs false
theorem RC.drew {w W : World} {r : Nat} {p : Pl} {l : List Cd} {L : Blks} (h : RC w W r p l L) : RC w W.drew r p l L := h.drewN 1
attribute [local irreducible] It.arr Cd.arr
section
variable {w W W' : World} {r : Nat} {p : Pl} {l : List Cd} {L M : Blks}
set_option maxHeartbeats 4000000 in
theorem rdrop_any (h : RC w W r p l L) (I : Inv p l) (x : It) (hl : l.length ≤ 1000) :
    Calls Try.prog 16 #[.pointer (some ⟨r, 0, none⟩), .agg x.arr] W fun e W' => e = .returned (.int .i64 (drpK l x)) ∧ RC w W' r p (remL l x) L := by
  have FI := Lib.hid (fun V L (h : RC w V r p l L) => rfind_any h x)
  rcases fI_spec l x with ⟨hf, ei⟩ | ⟨k, c, hf, hk, ei⟩
  · rw [ei] at FI
    have e1 : Hid (drpK l x = 6) := show _ = _ by unfold drpK; rw [hf]; rfl
    have e2 : Hid (remL l x = l) := show _ = _ by rw [remL_none hf]
    generalize drpK l x = Z at *
    generalize remL l x = l2 at *
    clear ei hf
    go_enter Try.func16, Try.ntmps16
    go_wp2_with (first
      | (refine wpList_box_itR h x _ rfl rfl rfl ?_; clear h; intro W1 h1; have q1 : W1.rangeAt W.heap.size 0 (Elt.cs x) := at_it (h1.at2 0 rfl); generalize W.heap.size = xb at *)
      | (have _ := q1; refine wpList_loadIt (e := x) q1 _ rfl rfl rfl ?_; clear q1)
      | (have _ := h1; go_at_call 20; refine (FI.out _ _ h1).mono ?_; rintro e W3 ⟨rfl, hb3⟩; have h3 := h1.call hb3; clear h1 FI))
    go_ret
    exact ⟨by rw [e1.out]; rfl, by rw [e2.out]; exact h3.tail⟩
  · rw [ei] at FI
    have e1 : Hid (drpK l x = 0) := show _ = _ by unfold drpK; rw [hf]; rfl
    have e2 : Hid (l.take k ++ l.drop (k + 1) = remL l x) := show _ = _ by rw [← (findC_some hf).2]; exact cut_rem I.nd hk
    have TA := Lib.hid (fun V L (h : RC w V r p l L) => take_any h k c hk hl)
    have q2 : ((k : Int) < 0) = False := eq_false (by omega)
    generalize drpK l x = Z at *
    clear ei hf I hl
    go_enter Try.func16, Try.ntmps16
    go_wp2_with (first
      | (refine wpList_box_itR h x _ rfl rfl rfl ?_; clear h; intro W1 h1; have q1 : W1.rangeAt W.heap.size 0 (Elt.cs x) := at_it (h1.at2 0 rfl); generalize W.heap.size = xb at *)
      | (have _ := q1; refine wpList_loadIt (e := x) q1 _ rfl rfl rfl ?_; clear q1)
      | (have _ := h1; go_at_call 20; refine (FI.out _ _ h1).mono ?_; rintro e W3 ⟨rfl, hb3⟩; have h3 := h1.call hb3; clear h1 FI)
      | (have _ := h3; go_at_call 35; refine (TA.out _ _ h3).mono ?_; clear h3; rintro e W4 ⟨rfl, h4⟩))
    go_ret
    rw [e2.out] at h4
    exact ⟨by rw [e1.out]; rfl, h4.tail⟩
set_option maxHeartbeats 4000000 in
theorem rupd_any (h : RC w W r p l L) (I : Inv p l) (x : It) (bs : List Nat) (hbs : bs.length = 32) (hl : l.length ≤ 1000) :
    Calls Try.prog 12 #[.pointer (some ⟨r, 0, none⟩), .agg x.arr, .agg (lnA bs)] W fun e W' => e = .returned (.int .i64 (drpK l x)) ∧ RC w W' r p (updL l x bs hbs) L := by
  have FI := Lib.hid (fun V L (h : RC w V r p l L) => rfind_any h x)
  rcases fI_spec l x with ⟨hf, ei⟩ | ⟨k, c, hf, hk, ei⟩
  · rw [ei] at FI
    have e1 : Hid (drpK l x = 6) := show _ = _ by unfold drpK; rw [hf]; rfl
    have e2 : Hid (updL l x bs hbs = l) := show _ = _ by unfold updL; rw [hf]
    generalize drpK l x = Z at *
    generalize updL l x bs hbs = l2 at *
    clear ei hf
    go_enter Try.func12, Try.ntmps12
    go_wp2_with (first
      | (refine wpList_box_itR h x _ rfl rfl rfl ?_; clear h; intro W1 h1; generalize W.heap.size = xb at *)
      | (have _ := h1; refine wpList_box_lnR h1 bs _ rfl rfl rfl ?_; clear h1; intro W2 h2; have q1 : W2.rangeAt xb 0 (Elt.cs x) := at_it (h2.at2 1 rfl); generalize W1.heap.size = yb at *)
      | (have _ := q1; refine wpList_loadIt (e := x) q1 _ rfl rfl rfl ?_; clear q1)
      | (have _ := h2; go_at_call 20; refine (FI.out _ _ h2).mono ?_; rintro e W3 ⟨rfl, hb3⟩; have h3 := h2.call hb3; clear h2 FI))
    go_ret
    exact ⟨by rw [e1.out]; rfl, by rw [e2.out]; exact h3.tail.tail⟩
  · rw [ei] at FI
    have e1 : Hid (drpK l x = 0) := show _ = _ by unfold drpK; rw [hf]; rfl
    have hx := (findC_some hf).2
    have e2 : Hid (updL l x bs hbs = (l.take k ++ l.drop (k + 1)) ++ [({ c with bs := bs, dt := true, hl := hbs } : Cd)]) := show _ = _ by
      unfold updL
      rw [hf, cut_rem I.nd hk]
      rfl
    have TA := Lib.hid (fun V L (h : RC w V r p l L) => take_any h k c hk hl)
    have q2 : ((k : Int) < 0) = False := eq_false (by omega)
    have LE := Lib.hid (show (l.take k ++ l.drop (k + 1)).length + 1 ≤ 100000 by simp; omega)
    generalize drpK l x = Z at *
    generalize updL l x bs hbs = l3 at *
    generalize l.take k ++ l.drop (k + 1) = l2 at *
    clear ei hf I hl hx
    go_enter Try.func12, Try.ntmps12
    go_wp2_with (first
      | (refine wpList_box_itR h x _ rfl rfl rfl ?_; clear h; intro W1 h1; generalize W.heap.size = xb at *)
      | (have _ := h1; refine wpList_box_lnR h1 bs _ rfl rfl rfl ?_; clear h1; intro W2 h2; have q1 : W2.rangeAt xb 0 (Elt.cs x) := at_it (h2.at2 1 rfl); generalize W1.heap.size = yb at *)
      | (have _ := q1; refine wpList_loadIt (e := x) q1 _ rfl rfl rfl ?_; clear q1)
      | (have _ := h2; go_at_call 20; refine (FI.out _ _ h2).mono ?_; rintro e W3 ⟨rfl, hb3⟩; have h3 := h2.call hb3; clear h2 FI)
      | (have _ := h3; go_at_call 35; refine (TA.out _ _ h3).mono ?_; clear h3; rintro e W4 ⟨rfl, h4⟩)
      | (have _ := h4; refine wpList_alloc_cdR h4 rfl rfl ?_; clear h4; intro W5 h5; generalize W4.heap.size = zb at *)
      | (have _ := h5; refine wpList_store_cdR h5 0 c rfl _ _ rfl rfl rfl rfl ?_; clear h5; intro W6 h6; have q7 : W6.rangeAt yb 0 (vals bs) := at_ln (h6.at2 1 rfl))
      | (have _ := q7; refine wpList_loadLn hbs q7 _ rfl rfl rfl ?_; clear q7)
      | (have _ := h6; refine wpList_store_lnR h6 0 c rfl bs hbs _ _ rfl rfl rfl rfl ?_; clear h6; intro W7 h7)
      | (have _ := h7; refine wpList_store_dtR h7 0 _ rfl true _ _ rfl rfl rfl rfl ?_; clear h7; intro W8 h8))
    replace h8 : RC w W8 r p l2 ((zb, C 59 (Cd.arr { c with bs := bs, dt := true, hl := hbs })) :: (yb, C 44 (lnA bs)) :: (xb, C 42 x.arr) :: L) := h8
    generalize ({ c with bs := bs, dt := true, hl := hbs } : Cd) = D at *
    have h9 := h8
    clear h8
    obtain ⟨A, q, hx⟩ := RC.open_ (show RC w _ r p l2 ((zb, C 59 D.arr) :: (yb, C 44 (lnA bs)) :: (xb, C 42 x.arr) :: L) from RC.drew h9)
    clear h9
    generalize hNN : List.length l2 = N at hx
    have CB := Lib.hid (fun (V : World) v l9 M9 (h : RX w V r p (.slice A N q) v l9 M9) (hm : ∀ y ∈ ((zb, C 59 D.arr) :: (yb, C 44 (lnA bs)) :: (xb, C 42 x.arr) :: L), y ∈ M9) => show V.cell? ⟨r, 46, none⟩ = some (.slice A N q) ∧ (loadVar 59 ⟨zb, 0, none⟩).run Try.prog V = .ok (.agg D.arr) V from ⟨h.c46, load_cdA (h.st.at_ (zb, C 59 D.arr) (hm _ (by simp)))⟩)
    have HX0 := Lib.hid hx
    have H0 := Lib.hid (CB.out _ _ _ _ hx (fun _ h => h))
    clear hx
    have HLE := LE
    refine wp_region_last (fun W => W.cell? ⟨r, 46, none⟩ = some (.slice A N q) ∧ (loadVar 59 ⟨zb, 0, none⟩).run Try.prog W = .ok (.agg D.arr) W) 10 (by kernel_rfl) ?_
    generalize World.drew _ = V0 at *
    refine AnyT.take (i := 0) (v := .pointer (some ⟨r, 0, none⟩)) rfl (by kernel_rfl) (by kernel_rfl) (by kernel_rfl) (by kernel_rfl) (by decide) (fun _ _ _ h => h) (Or.inl ⟨by rfl, fun W hW => by clear hW; go_simp⟩) H0.out ?_
    try simp only [Act.put, List.getElem_toArray, List.getElem_cons_succ, List.getElem_cons_zero, List.setIfInBounds_toArray, List.set_cons_zero, List.set_cons_succ]
    refine AnyT.take (i := 1) (v := .pointer (some ⟨r, 0, none⟩)) rfl (by kernel_rfl) (by kernel_rfl) (by kernel_rfl) (by kernel_rfl) (by decide) (fun _ _ _ h => h) (Or.inl ⟨by rfl, fun W hW => by clear hW; go_simp⟩) H0.out ?_
    try simp only [Act.put, List.getElem_toArray, List.getElem_cons_succ, List.getElem_cons_zero, List.setIfInBounds_toArray, List.set_cons_zero, List.set_cons_succ]
    refine AnyT.take (i := 2) (v := .pointer (some ⟨r, 0, none⟩)) rfl (by kernel_rfl) (by kernel_rfl) (by kernel_rfl) (by kernel_rfl) (by decide) (fun _ _ _ h => h) (Or.inl ⟨by rfl, fun W hW => by clear hW; go_simp⟩) H0.out ?_
    try simp only [Act.put, List.getElem_toArray, List.getElem_cons_succ, List.getElem_cons_zero, List.setIfInBounds_toArray, List.set_cons_zero, List.set_cons_succ]
    refine AnyT.take (i := 3) (v := .pointer (some ⟨r, 46, none⟩)) rfl (by kernel_rfl) (by kernel_rfl) (by kernel_rfl) (by kernel_rfl) (by decide) (fun _ _ _ h => h) (Or.inl ⟨by rfl, fun W hW => by clear hW; go_simp⟩) H0.out ?_
    try simp only [Act.put, List.getElem_toArray, List.getElem_cons_succ, List.getElem_cons_zero, List.setIfInBounds_toArray, List.set_cons_zero, List.set_cons_succ]
    refine AnyT.take (i := 4) (v := .slice A N q) rfl (by kernel_rfl) (by kernel_rfl) (by kernel_rfl) (by kernel_rfl) (by decide) (fun _ _ _ h => h) (Or.inl ⟨by rfl, fun W hW => by have hc := (show W.cell? ⟨r, 46, none⟩ = some (.slice A N q) from hW.1); clear hW; go_simp⟩) H0.out ?_
    try simp only [Act.put, List.getElem_toArray, List.getElem_cons_succ, List.getElem_cons_zero, List.setIfInBounds_toArray, List.set_cons_zero, List.set_cons_succ]
    refine AnyT.take (i := 5) (v := .agg D.arr) rfl (by kernel_rfl) (by kernel_rfl) (by kernel_rfl) (by kernel_rfl) (by decide) (fun _ _ _ h => h) (yields_run _ rfl (by rfl) rfl (fun W hW => hW.2)) H0.out ?_
    try simp only [Act.put, List.getElem_toArray, List.getElem_cons_succ, List.getElem_cons_zero, List.setIfInBounds_toArray, List.set_cons_zero, List.set_cons_succ]
    refine AnyT.one (i := 6) (by kernel_rfl) rfl (fun K hK => ?_)
    rw [if_pos (by rfl)]
    refine wp_build1_rx HX0.out (.tmp 25) D rfl rfl ?_
    intro V1 b1 hx1
    have HX1 := Lib.hid hx1
    have H1_ := Lib.hid (CB.out _ _ _ _ hx1 (by simp +contextual))
    clear hx1
    refine hK.out _ _ (fun _ => H1_.out) ?_
    clear hK K
    try simp only [Act.put, List.getElem_toArray, List.getElem_cons_succ, List.getElem_cons_zero, List.setIfInBounds_toArray, List.set_cons_zero, List.set_cons_succ]
    refine AnyT.one (i := 7) (by kernel_rfl) rfl (fun K hK => ?_)
    rw [if_pos (by rfl)]
    refine wp_append_rx HX1.out (.tmp 24) (.tmp 26) rfl rfl rfl HLE.out ?_
    intro V2 v2 hx2
    have HX2 := Lib.hid hx2
    have H2_ := Lib.hid (CB.out _ _ _ _ hx2 (fun _ h => h))
    clear hx2
    refine hK.out _ _ (fun _ => H2_.out) ?_
    clear hK K
    try simp only [Act.put, List.getElem_toArray, List.getElem_cons_succ, List.getElem_cons_zero, List.setIfInBounds_toArray, List.set_cons_zero, List.set_cons_succ]
    refine AnyT.one (i := 8) (by kernel_rfl) rfl (fun K hK => ?_)
    go_simp
    refine hK.out _ _ (fun _ => H2_.out) ?_
    clear hK K
    try simp only [Act.put, List.getElem_toArray, List.getElem_cons_succ, List.getElem_cons_zero, List.setIfInBounds_toArray, List.set_cons_zero, List.set_cons_succ]
    refine AnyT.take (i := 9) (v := .pointer (some ⟨r, 46, none⟩)) rfl (by kernel_rfl) (by kernel_rfl) (by kernel_rfl) (by kernel_rfl) (by decide) (fun _ _ _ h => h) (Or.inl ⟨by rfl, fun W hW => by clear hW; go_simp⟩) H2_.out ?_
    try simp only [Act.put, List.getElem_toArray, List.getElem_cons_succ, List.getElem_cons_zero, List.setIfInBounds_toArray, List.set_cons_zero, List.set_cons_succ]
    refine AnyT.one (i := 10) (by kernel_rfl) rfl (fun K hK => ?_)
    rw [if_pos (by rfl)]
    refine wp_set_rx HX2.out (.tmp 29) (.tmp 27) rfl rfl rfl ?_
    intro V3 hs3
    have HS3 := Lib.hid hs3
    clear hs3
    refine hK.out _ _ (fun h => absurd rfl h) ?_
    clear hK K
    try simp only [Act.put, List.getElem_toArray, List.getElem_cons_succ, List.getElem_cons_zero, List.setIfInBounds_toArray, List.set_cons_zero, List.set_cons_succ]
    refine AnyT.done (by kernel_rfl) ?_ _
    go_wp2
    go_ret
    have h10 := HS3.out
    rw [← e2.out] at h10
    exact ⟨by rw [e1.out]; rfl, h10.tail.tail.tail⟩
end
end Go.Proofs.Ytnogmfpaipjdaaa
