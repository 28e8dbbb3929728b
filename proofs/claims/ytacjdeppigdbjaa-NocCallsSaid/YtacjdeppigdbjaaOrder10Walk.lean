/- The law of the order on links. No statement is proved here. -/
import Derived.Test.YtacjdeppigdbjaaOx2
import Derived.Test.YtacjdeppigdbjaaApartWalk
namespace Go.Proofs.Ytacjdeppigdbjaa
open Go.RowKit Go.ChangeShapes Go.MapKept Go.ChangeMaps
set_option linter.unusedVariables false
set_option linter.unusedSimpArgs false

theorem arr_fr (m : Msg) : m.arr[1]? = some (.int .i64 m.fr) := by simp [Msg.arr, Msg.cs]
theorem arr_to (m : Msg) : m.arr[2]? = some (.int .i64 m.to) := by simp [Msg.arr, Msg.cs]
theorem load_rangeL {W : World} {b off : Nat} {l : Lk} (hr : W.rangeAt b off l.cs) : (loadVar 51 ⟨b, off, none⟩).run Try.prog W = .ok (.agg #[.int .i64 l.a, .int .i64 l.b, .int .i64 l.d]) W := by
  have := run_loadVar_mid (P := Try.prog) W b off 51 l.cs _ hr Try.underlying51 rfl sz51
  exact this
section
variable {ops : Array Oper} {rest : List Oper} {o : Oper} {a : Act} {Q : Exit → Act → World → Prop} {w W : World}
theorem wpList_loadL {b off : Nat} {l : Lk} (hr : W.rangeAt b off l.cs) (x : Operand) (ho : o.op = .load 51 x) (hw : Region.wanted o (yielded ops a.tmps) = true) (hx : a.eval x = .pointer (some ⟨b, off, none⟩))
    (k : wpList Try.prog ops Q rest (a.put o.dst (.agg #[.int .i64 l.a, .int .i64 l.b, .int .i64 l.d])) W) : wpList Try.prog ops Q (o :: rest) a W := by
  unfold wpList
  rw [if_pos hw]
  refine .inl ?_
  unfold Oper.wp execOp
  simp only [ho, hx, Instr.loadAt, Instr.sureAddr, Sem.run_bind, Sem.run_pure, Result.andThen_ok, load_rangeL hr]
  exact k
theorem yields_loadL {S : World → Prop} {b off : Nat} {l : Lk} (x : Operand) (ho : o.op = .load 51 x) (hw : Region.wanted o (yielded ops a.tmps) = true) (hx : a.eval x = .pointer (some ⟨b, off, none⟩)) (hS : ∀ W, S W → W.rangeAt b off l.cs) : YieldsIf Try.prog ops S o (.agg #[.int .i64 l.a, .int .i64 l.b, .int .i64 l.d]) a :=
  .inl ⟨hw, fun W hW => by
    unfold execOp
    simp only [ho, hx, Instr.loadAt, Instr.sureAddr, Sem.run_bind, Sem.run_pure, Result.andThen_ok, load_rangeL (hS W hW)]⟩
theorem wpList_lookup_ox {g q u nn R b N : Nat} {ps : List Nat} {cc rr : Nat → List Msg} {f : Lk → Value} {L : Blks} {v : Value} (h : OX w W g q u nn R ps cc rr b N f L) (l : Lk) (hl : l.ok) (hv : f l = v) (x y : Operand) (hgd : o.guard = none) (ho : o.op = .lookup 74 x y false) (hx : a.eval x = .map (some b)) (hy : a.eval y = lkv l)
    (k : wpList Try.prog ops Q rest (a.put o.dst v) W) : wpList Try.prog ops Q (o :: rest) a W := by
  refine wpList_plain hgd fun K' hK' => ?_
  have hrun := h.look hl
  unfold Oper.wp
  simp [execOp, ho, hx, hy, hrun, Result.andThen]
  rw [hv]
  exact hK' _ _ k
end
def OrdRel (w : World) (g q u nn R b12 n : Nat) (s i : Value) (wr : World) : Prop :=
  ∃ (k : Nat) (ps : List Nat) (cc : Nat → List Msg) (f : Lk → Value) (N : Nat), k ≤ n ∧ s = .int .i64 (sumTo cc (lks nn) : Nat) ∧ i = .int .i64 (k : Nat) ∧ N ≤ 2 * k ∧ OX w wr g q u nn R ps cc cc b12 N f []
theorem send_yes10 {n R : Nat} {c : Nat → List Msg} {a : Int} {m : Msg} (h : sendOk n R c a m = true) : hasO n (lkOf a m) = true ∧ sendK n R c a m = 0 ∧ sendC n R c a m = upd c (idxL n (lkOf a m)) (c (idxL n (lkOf a m)) ++ [m]) := by
  have h0 := h
  unfold sendOk at h0
  obtain ⟨h1, h2⟩ := Bool.and_eq_true_iff.1 h0
  refine ⟨h1, ?_, ?_⟩
  · unfold sendK
    rw [if_pos h1, if_pos (of_decide_eq_true h2)]
  · unfold sendC
    rw [if_pos h]
theorem send_not {n R : Nat} {c : Nat → List Msg} {a : Int} {m : Msg} (h : ¬ sendOk n R c a m = true) : sendC n R c a m = c := by
  unfold sendC
  rw [if_neg h]
theorem box_rangeL {W : World} {b : Nat} {l : Lk} (h : At W b 51 #[.int .i64 l.a, .int .i64 l.b, .int .i64 l.d]) : W.rangeAt b 0 l.cs := fun j v hv => by
  rw [Nat.zero_add, h.cell]
  simpa [Lk.cs] using hv
theorem ox_look0 {w W : World} {g q u nn R b N : Nat} {ps : List Nat} {cc rr : Nat → List Msg} {f : Lk → Value} {L : Blks} {l : Lk} (h : OX w W g q u nn R ps cc rr b N f L) (hl : hasO nn l = true) (hc : rr (idxL nn l) = []) : ∃ A c, f l = .slice A 0 c := by
  obtain ⟨A, c, e, _⟩ := h.row hl
  rw [hc] at e
  exact ⟨A, c, e⟩
theorem ox_look {w W : World} {g q u nn R b N : Nat} {ps : List Nat} {cc rr : Nat → List Msg} {f : Lk → Value} {L : Blks} {l : Lk} {y : Msg} {ys : List Msg} (h : OX w W g q u nn R ps cc rr b N f L) (hl : hasO nn l = true) (hc : rr (idxL nn l) = y :: ys) : ∃ bw ow cw, f l = .slice (some ⟨bw, ow, none⟩) (y :: ys).length cw ∧ (y :: ys).length ≤ cw ∧ W.rangeAt bw ow y.cs := by
  obtain ⟨A, c, e, hr⟩ := h.row hl
  rw [hc] at e hr
  obtain ⟨b1, o1, hA⟩ := hr.addr
  have hA2 := hA (by simp)
  subst hA2
  refine ⟨b1, o1, c, e, hr.2.1, ?_⟩
  have := (hr.at2 0 y rfl).2
  rw [Nat.zero_mul, Nat.add_zero] at this
  exact this
attribute [local irreducible] Msg.arr bufM marr narr idx lks parr mixp lsTo sumTo roomOf allOf sendC sendK sendOk hasO idxL
set_option maxRecDepth 20000 in
set_option maxHeartbeats 8000000 in
theorem order10_walk (nodes room : Int) (AI : Option Addr) (nI cI : Nat) (zs : List Int) (A : Option Addr) (n c : Nat) (list : List Msg) (AT : Option Addr) (nT cT : Nat) (ts : List Lk) (w : World)
    (hrI : ERow w w.heap.size AI nI cI zs) (hr : ERow w w.heap.size A n c list) (hrT : ERow w w.heap.size AT nT cT ts) (hok : ∀ l ∈ ts, l.ok) :
    Calls Try.prog 7 #[.int .i64 nodes, .int .i64 room, .slice AI nI cI, .slice A n c, .slice AT nT cT] w fun e w' => e = .returned (.bool true) ∧ Below w.heap.size w w' := by
  have SK := Lib.hid (fun W => speaks10_any W)
  have hl := hr.len
  have hlI := hrI.len
  have hlT := hrT.len
  have mx := hr.max
  have mxI := hrI.max
  have mxT := hrT.max
  by_cases h1_ : 60 < n
  · have p1 : decide ((60 : Int) < (n : Int)) = true := decide_eq_true (by omega)
    clear hr hrI hrT
    go_enter Try.func7, Try.ntmps7
    go_wp2_with (go_at_call 21; refine (SK.out _).mono ?_; rintro e W1 ⟨rfl, hb⟩)
    go_ret
    exact ⟨rfl, hb⟩
  have p1 : decide ((60 : Int) < (n : Int)) = false := decide_eq_false (by omega)
  by_cases h2_ : nI < n
  · have p2 : decide ((nI : Int) < (n : Int)) = true := decide_eq_true (by omega)
    clear hr hrI hrT
    go_enter Try.func7, Try.ntmps7
    go_wp2_with (go_at_call 21; refine (SK.out _).mono ?_; rintro e W1 ⟨rfl, hb⟩)
    go_ret
    exact ⟨rfl, hb⟩
  have p2 : decide ((nI : Int) < (n : Int)) = false := decide_eq_false (by omega)
  by_cases h3_ : 60 < nT
  · have p3 : decide ((60 : Int) < (nT : Int)) = true := decide_eq_true (by omega)
    clear hr hrI hrT
    go_enter Try.func7, Try.ntmps7
    go_wp2_with (go_at_call 21; refine (SK.out _).mono ?_; rintro e W1 ⟨rfl, hb⟩)
    go_ret
    exact ⟨rfl, hb⟩
  have p3 : decide ((60 : Int) < (nT : Int)) = false := decide_eq_false (by omega)
  have NW := Lib.hid (fun W L (h : St w W L) => nnew_any nodes room h)
  generalize clampN nodes = nn at *
  generalize clampR room = R at *
  obtain ⟨b1, o1, hA⟩ := hr.addr
  obtain ⟨bi, oi, hAI⟩ := hrI.addr
  obtain ⟨bt, ot, hAT⟩ := hrT.addr
  replace hA := Lib.hid hA
  replace hAI := Lib.hid hAI
  replace hAT := Lib.hid hAT
  have HR := Lib.hid hr
  have HI := Lib.hid hrI
  have HT := Lib.hid hrT
  have HOK := Lib.hid hok
  replace hl := Lib.hid hl
  replace hlI := Lib.hid hlI
  replace hlT := Lib.hid hlT
  have S0 := Lib.hid (St.nil w)
  have hn6 : n ≤ 60 := by omega
  have hnI : n ≤ nI := by omega
  clear hr hrI hrT hok
  go_enter Try.func7, Try.ntmps7
  go_wp2_with (first
    | (go_at_call 21; refine (SK.out _).mono ?_; rintro e W3 ⟨rfl, hb⟩; have h3 := S0.out.call hb; clear hb SK)
    | (have _ := h3; go_at_call 22; refine (NW.out _ _ h3).mono ?_; clear h3; rintro e W4 ⟨g, q, u, ps, rfl, h4⟩; clear NW)
    | (have _ := h4; refine wpList_makeMap_ox h4 (fun _ => rfl) rfl rfl ?_; clear h4; intro W5 h5; generalize W4.heap.size = b12 at *))
  have SZ : sumTo (fun _ => ([] : List Msg)) (lks nn) = 0 := by
    have := sumTo_le (c := fun _ => ([] : List Msg)) (R := 0) (lks nn) (fun j _ => by simp)
    omega
  replace SZ := Lib.hid SZ
  go_loopw [13, 43] (OrdRel w g q u nn R b12 n) (fun _ i _ => n - (intOf i).toNat)
  case atStart => exact ⟨0, ps, _, _, 0, by omega, by rw [SZ.out]; rfl, rfl, by omega, h5⟩
  case round =>
    obtain ⟨k, ps, cc, f, N, hk, rfl, rfl, hN, h6⟩ := hrel
    clear h5 SZ
    have sb := h6.sum_le
    have w1 : IntKind.i64.wrap ((sumTo cc (lks nn) : Nat) + 1 : Int) = (sumTo cc (lks nn) : Nat) + 1 := IntWalk.i64_in _ (by omega)
    have w2 : IntKind.i64.wrap ((sumTo cc (lks nn) : Nat) - 1 : Int) = (sumTo cc (lks nn) : Nat) - 1 := IntWalk.i64_in _ (by omega)
    have w3 : IntKind.i64.wrap ((sumTo cc (lks nn) : Nat) + 1 - 1 : Int) = (sumTo cc (lks nn) : Nat) := by rw [Int.add_sub_cancel]; exact IntWalk.i64_in _ (by omega)
    have w4 : IntKind.i64.wrap ((sumTo cc (lks nn) : Nat) : Int) = (sumTo cc (lks nn) : Nat) := IntWalk.i64_in _ (by omega)
    by_cases hlt : k < n
    · have g1 : ((k : Int) < (n : Int)) = True := eq_true (by omega)
      have hk2 : k < list.length := by have := hl.out; omega
      have hx : list[k]? = some list[k] := List.getElem?_eq_getElem hk2
      generalize list[k] = x at *
      have hA2 := hA.out (by omega)
      subst hA2
      obtain ⟨hb1, r1⟩ := HR.out.at2 k x hx
      replace r1 : w.rangeAt b1 (o1 + k * 38) x.cs := r1
      replace r1 := Lib.hid r1
      replace hb1 := Lib.hid hb1
      have hk4 : k < zs.length := by have := hlI.out; omega
      have hz : zs[k]? = some zs[k] := List.getElem?_eq_getElem hk4
      generalize zs[k] = z at *
      have hAI2 := hAI.out (by omega)
      subst hAI2
      obtain ⟨hbi, r2⟩ := HI.out.at2 k z hz
      replace r2 : w.cell? ⟨bi, oi + k, none⟩ = some (.int .i64 z) := by simpa [Elt.sz, Elt.cs] using r2 0 (.int .i64 z) rfl
      replace r2 := Lib.hid r2
      replace hbi := Lib.hid hbi
      have hin : k < nI := by omega
      clear hk2 hx hk4 hz
      go_wp2_with (first
        | (have _ := h6; refine wpList_loadM (m := x) (b := b1) (off := o1 + k * 38) (rangeAt_keep r1.out (h6.bel.block _ hb1.out)) (.tmp 46) rfl rfl rfl ?_)
        | (have _ := h6; refine wpList_alloc_ox h6 31 rfl rfl _ zmsg.arr zero31 rfl ?_; clear h6; intro X1 h7; generalize wr.heap.size = b15 at *)
        | (have _ := h7; refine wpList_store_ox (arr' := x.arr) h7 0 rfl 31 (.tmp 15) (.tmp 47) rfl rfl rfl rfl (by rw [Msg.arr_size]; exact sz31) (by simp only [Msg.arr_size]) (Msg.arr_one _) ?_; clear h7; intro X2 h8))
      replace h8 : OX w X2 g q u nn R ps cc cc b12 N f [(b15, C 31 x.arr)] := h8
      have h3 : OX w X2.drew g q u nn R ps cc cc b12 N f [(b15, C 31 x.arr)] := h8.drewN 1
      have H0 := Lib.hid (show X2.drew.cell? ⟨bi, oi + k, none⟩ = some (.int .i64 z) ∧ At X2.drew b15 31 x.arr from ⟨(h3.bel.cell (p := ⟨bi, oi + k, none⟩) hbi.out).trans r2.out, h3.nx.at2 0 rfl⟩)
      refine wp_region_held_drew (S := fun W => W.cell? ⟨bi, oi + k, none⟩ = some (.int .i64 z) ∧ At W b15 31 x.arr) (by kernel_rfl) H0.out (fun _ => ?_)
      clear h8
      generalize X2.drew = V0 at *
      refine wpAnyH_take (i := 0) (v := .slice (some ⟨bi, oi, none⟩) nI cI) rfl (by kernel_rfl) (by kernel_rfl) (by kernel_rfl) (fun _ _ _ h => h) (Or.inl ⟨by rfl, fun W hW => by clear hW; go_simp⟩) H0.out ?_
      try simp only [Act.put, List.getElem_toArray, List.getElem_cons_succ, List.getElem_cons_zero, List.setIfInBounds_toArray, List.set_cons_zero, List.set_cons_succ]
      refine wpAnyH_take (i := 1) (v := .int .i64 (k : Int)) rfl (by kernel_rfl) (by kernel_rfl) (by kernel_rfl) (fun _ _ _ h => h) (Or.inl ⟨by rfl, fun W hW => by clear hW; go_simp⟩) H0.out ?_
      try simp only [Act.put, List.getElem_toArray, List.getElem_cons_succ, List.getElem_cons_zero, List.setIfInBounds_toArray, List.set_cons_zero, List.set_cons_succ]
      refine wpAnyH_take (i := 2) (v := .pointer (some ⟨bi, oi + k, none⟩)) rfl (by kernel_rfl) (by kernel_rfl) (by kernel_rfl) (fun _ _ _ h => h) (Or.inl ⟨by rfl, fun W hW => by clear hW; go_simp⟩) H0.out ?_
      try simp only [Act.put, List.getElem_toArray, List.getElem_cons_succ, List.getElem_cons_zero, List.setIfInBounds_toArray, List.set_cons_zero, List.set_cons_succ]
      refine wpAnyH_take (i := 3) (v := .int .i64 z) rfl (by kernel_rfl) (by kernel_rfl) (by kernel_rfl) (fun _ _ _ h => h) (Or.inl ⟨by rfl, fun W hW => by have hc := hW.1; clear hW; go_simp⟩) H0.out ?_
      try simp only [Act.put, List.getElem_toArray, List.getElem_cons_succ, List.getElem_cons_zero, List.setIfInBounds_toArray, List.set_cons_zero, List.set_cons_succ]
      refine wpAnyH_take (i := 4) (v := .pointer (some ⟨b15, 1, none⟩)) rfl (by kernel_rfl) (by kernel_rfl) (by kernel_rfl) (fun _ _ _ h => h) (Or.inl ⟨by rfl, fun W hW => by clear hW; go_simp⟩) H0.out ?_
      try simp only [Act.put, List.getElem_toArray, List.getElem_cons_succ, List.getElem_cons_zero, List.setIfInBounds_toArray, List.set_cons_zero, List.set_cons_succ]
      refine wpAnyH_take (i := 5) (v := .int .i64 x.fr) rfl (by kernel_rfl) (by kernel_rfl) (by kernel_rfl) (fun _ _ _ h => h) (Or.inl ⟨by rfl, fun W hW => by have hc := (show W.cell? ⟨b15, 1, none⟩ = some (.int .i64 x.fr) from (hW.2.cell 1).trans (arr_fr x)); clear hW; go_simp⟩) H0.out ?_
      try simp only [Act.put, List.getElem_toArray, List.getElem_cons_succ, List.getElem_cons_zero, List.setIfInBounds_toArray, List.set_cons_zero, List.set_cons_succ]
      refine wpAnyH_take (i := 6) (v := .pointer (some ⟨b15, 2, none⟩)) rfl (by kernel_rfl) (by kernel_rfl) (by kernel_rfl) (fun _ _ _ h => h) (Or.inl ⟨by rfl, fun W hW => by clear hW; go_simp⟩) H0.out ?_
      try simp only [Act.put, List.getElem_toArray, List.getElem_cons_succ, List.getElem_cons_zero, List.setIfInBounds_toArray, List.set_cons_zero, List.set_cons_succ]
      refine wpAnyH_take (i := 7) (v := .int .i64 x.to) rfl (by kernel_rfl) (by kernel_rfl) (by kernel_rfl) (fun _ _ _ h => h) (Or.inl ⟨by rfl, fun W hW => by have hc := (show W.cell? ⟨b15, 2, none⟩ = some (.int .i64 x.to) from (hW.2.cell 2).trans (arr_to x)); clear hW; go_simp⟩) H0.out ?_
      try simp only [Act.put, List.getElem_toArray, List.getElem_cons_succ, List.getElem_cons_zero, List.setIfInBounds_toArray, List.set_cons_zero, List.set_cons_succ]
      refine wpAnyH_take (i := 8) (v := .agg #[.int .i64 z, .int .i64 x.fr, .int .i64 x.to]) rfl (by kernel_rfl) (by kernel_rfl) (by kernel_rfl) (fun _ _ _ h => h) (Or.inl ⟨by rfl, fun W hW => by clear hW; go_simp⟩) H0.out ?_
      try simp only [Act.put, List.getElem_toArray, List.getElem_cons_succ, List.getElem_cons_zero, List.setIfInBounds_toArray, List.set_cons_zero, List.set_cons_succ]
      refine wpAnyH_ready (rs := [9]) (by kernel_rfl) (by simp) ?_
      refine AllReadyH.cons rfl (fun K hK => ?_) AllReadyH.nil
      rw [if_pos (by rfl)]
      refine wp_alloc_ox h3 51 rfl _ #[.int .i64 0, .int .i64 0, .int .i64 0] zero51 rfl ?_
      intro V1 h4
      generalize V0.heap.size = b16 at *
      have H1_ := Lib.hid (show V1.cell? ⟨bi, oi + k, none⟩ = some (.int .i64 z) ∧ At V1 b15 31 x.arr from ⟨(h4.bel.cell (p := ⟨bi, oi + k, none⟩) hbi.out).trans r2.out, h4.nx.at2 1 rfl⟩)
      clear h3
      refine hK.out _ _ H1_.out (fun _ => ?_)
      clear hK K
      try simp only [Act.put, List.getElem_toArray, List.getElem_cons_succ, List.getElem_cons_zero, List.setIfInBounds_toArray, List.set_cons_zero, List.set_cons_succ]
      refine wpAnyH_ready (rs := [10]) (by kernel_rfl) (by simp) ?_
      refine AllReadyH.cons rfl (fun K hK => ?_) AllReadyH.nil
      rw [if_pos (by rfl)]
      refine wp_store_ox (arr' := #[.int .i64 z, .int .i64 x.fr, .int .i64 x.to]) h4 0 rfl 51 (.tmp 16) (.tmp 56) rfl rfl rfl sz51 rfl (by simp [Value.oneCell']) ?_
      intro V2 h5
      replace h5 : OX w V2 g q u nn R ps cc cc b12 N f [(b16, C 51 #[.int .i64 z, .int .i64 x.fr, .int .i64 x.to]), (b15, C 31 x.arr)] := h5
      have H2_ := Lib.hid (show V2.cell? ⟨bi, oi + k, none⟩ = some (.int .i64 z) ∧ At V2 b15 31 x.arr from ⟨(h5.bel.cell (p := ⟨bi, oi + k, none⟩) hbi.out).trans r2.out, h5.nx.at2 1 rfl⟩)
      clear h4
      refine hK.out _ _ H2_.out (fun _ => ?_)
      clear hK K
      try simp only [Act.put, List.getElem_toArray, List.getElem_cons_succ, List.getElem_cons_zero, List.setIfInBounds_toArray, List.set_cons_zero, List.set_cons_succ]
      refine wpAnyH_done (by kernel_rfl) ?_ _
      clear H0 H1_ H2_
      go_wp2
      have h6 : OX w V2.drew g q u nn R ps cc cc b12 N f [(b16, C 51 #[.int .i64 z, .int .i64 x.fr, .int .i64 x.to]), (b15, C 31 x.arr)] := h5.drewN 1
      have H0 := Lib.hid (show V2.drew.cell? ⟨bi, oi + k, none⟩ = some (.int .i64 z) ∧ At V2.drew b15 31 x.arr from ⟨(h6.bel.cell (p := ⟨bi, oi + k, none⟩) hbi.out).trans r2.out, h6.nx.at2 1 rfl⟩)
      refine wp_region_held_drew (S := fun W => W.cell? ⟨bi, oi + k, none⟩ = some (.int .i64 z) ∧ At W b15 31 x.arr) (by kernel_rfl) H0.out (fun _ => ?_)
      clear h5
      generalize V2.drew = V0 at *
      have SD := Lib.hid (fun W L (h : OX w W g q u nn R ps cc cc b12 N f L) => osend_any h z x)
      by_cases hso : sendOk nn R cc z x = true
      · obtain ⟨hhl, e1, e2⟩ := send_yes10 hso
        rw [e1, e2] at SD
        have lkd : lkOf z x = ⟨z, x.fr, x.to⟩ := rfl
        rw [lkd] at hhl SD
        replace hhl := Lib.hid hhl
        have SU := sumTo_upd cc (idxL nn ⟨z, x.fr, x.to⟩) (cc (idxL nn ⟨z, x.fr, x.to⟩) ++ [x]) (lks nn) (has_lt hhl.out)
        rw [List.length_append, List.length_singleton] at SU
        have LX := Lib.hid (h6.nx.lenle (idxL nn ⟨z, x.fr, x.to⟩) (has_lt hhl.out))
        have R4 := Lib.hid h6.nx.r4
        have HC : ∃ cc1, upd cc (idxL nn ⟨z, x.fr, x.to⟩) (cc (idxL nn ⟨z, x.fr, x.to⟩) ++ [x]) = cc1 := ⟨_, rfl⟩
        obtain ⟨cc1, HC1⟩ := HC
        rw [HC1] at SD SU
        have SU0 : sumTo cc1 (lks nn) = sumTo cc (lks nn) + 1 := by omega
        clear SU
        have SU := Lib.hid SU0
        clear SU0
        replace HC1 := Lib.hid HC1
        clear e1 e2 lkd hso
        refine wpAnyH_take (i := 0) (v := .pointer (some ⟨g, 0, none⟩)) rfl (by kernel_rfl) (by kernel_rfl) (by kernel_rfl) (fun _ _ _ h => h) (Or.inl ⟨by rfl, fun W hW => by clear hW; go_simp⟩) H0.out ?_
        try simp only [Act.put, List.getElem_toArray, List.getElem_cons_succ, List.getElem_cons_zero, List.setIfInBounds_toArray, List.set_cons_zero, List.set_cons_succ]
        refine wpAnyH_take (i := 1) (v := .slice (some ⟨bi, oi, none⟩) nI cI) rfl (by kernel_rfl) (by kernel_rfl) (by kernel_rfl) (fun _ _ _ h => h) (Or.inl ⟨by rfl, fun W hW => by clear hW; go_simp⟩) H0.out ?_
        try simp only [Act.put, List.getElem_toArray, List.getElem_cons_succ, List.getElem_cons_zero, List.setIfInBounds_toArray, List.set_cons_zero, List.set_cons_succ]
        refine wpAnyH_take (i := 2) (v := .int .i64 (k : Int)) rfl (by kernel_rfl) (by kernel_rfl) (by kernel_rfl) (fun _ _ _ h => h) (Or.inl ⟨by rfl, fun W hW => by clear hW; go_simp⟩) H0.out ?_
        try simp only [Act.put, List.getElem_toArray, List.getElem_cons_succ, List.getElem_cons_zero, List.setIfInBounds_toArray, List.set_cons_zero, List.set_cons_succ]
        refine wpAnyH_take (i := 3) (v := .pointer (some ⟨bi, oi + k, none⟩)) rfl (by kernel_rfl) (by kernel_rfl) (by kernel_rfl) (fun _ _ _ h => h) (Or.inl ⟨by rfl, fun W hW => by clear hW; go_simp⟩) H0.out ?_
        try simp only [Act.put, List.getElem_toArray, List.getElem_cons_succ, List.getElem_cons_zero, List.setIfInBounds_toArray, List.set_cons_zero, List.set_cons_succ]
        refine wpAnyH_take (i := 4) (v := .int .i64 z) rfl (by kernel_rfl) (by kernel_rfl) (by kernel_rfl) (fun _ _ _ h => h) (Or.inl ⟨by rfl, fun W hW => by have hc := hW.1; clear hW; go_simp⟩) H0.out ?_
        try simp only [Act.put, List.getElem_toArray, List.getElem_cons_succ, List.getElem_cons_zero, List.setIfInBounds_toArray, List.set_cons_zero, List.set_cons_succ]
        refine wpAnyH_take (i := 5) (v := .agg x.arr) rfl (by kernel_rfl) (by kernel_rfl) (by kernel_rfl) (fun _ _ _ h => h) (yields_at 31 _ _ rfl (by rfl) rfl Try.underlying31 rfl (by rw [Msg.arr_size]; exact sz31) (fun W hW => hW.2)) H0.out ?_
        try simp only [Act.put, List.getElem_toArray, List.getElem_cons_succ, List.getElem_cons_zero, List.setIfInBounds_toArray, List.set_cons_zero, List.set_cons_succ]
        refine wpAnyH_ready (rs := [6]) (by kernel_rfl) (by simp) ?_
        refine AllReadyH.cons rfl (fun K hK => ?_) AllReadyH.nil
        go_simp
        go_at_call 27
        refine (SD.out _ _ h6).mono ?_
        rintro e V2 ⟨ps3, rfl, h7⟩
        clear h6
        have H1_ := Lib.hid (show V2.cell? ⟨bi, oi + k, none⟩ = some (.int .i64 z) ∧ At V2 b15 31 x.arr from ⟨(h7.bel.cell (p := ⟨bi, oi + k, none⟩) hbi.out).trans r2.out, h7.nx.at2 1 rfl⟩)
        refine hK.out _ _ H1_.out (fun _ => ?_)
        clear hK K
        try simp only [Act.put, List.getElem_toArray, List.getElem_cons_succ, List.getElem_cons_zero, List.setIfInBounds_toArray, List.set_cons_zero, List.set_cons_succ]
        refine wpAnyH_take (i := 7) (v := .bool true) rfl (by kernel_rfl) (by kernel_rfl) (by kernel_rfl) (fun _ _ _ h => h) (Or.inl ⟨by rfl, fun W hW => by clear hW; go_simp⟩) H1_.out ?_
        try simp only [Act.put, List.getElem_toArray, List.getElem_cons_succ, List.getElem_cons_zero, List.setIfInBounds_toArray, List.set_cons_zero, List.set_cons_succ]
        refine wpAnyH_done (by kernel_rfl) ?_ _
        clear H0 H1_ SD
        by_cases hkT : k < nT
        · have g2 : ((k : Int) < (nT : Int)) = True := eq_true (by omega)
          have hk3 : k < ts.length := by have := hlT.out; omega
          have ho : ts[k]? = some ts[k] := List.getElem?_eq_getElem hk3
          have hto := Lib.hid (HOK.out ts[k] (List.getElem_mem hk3))
          generalize ts[k] = o at *
          have hAT2 := hAT.out (by omega)
          subst hAT2
          obtain ⟨hbt, r3⟩ := HT.out.at2 k o ho
          replace r3 : w.rangeAt bt (ot + k * 3) o.cs := r3
          replace r3 := Lib.hid r3
          replace hbt := Lib.hid hbt
          clear hk3 ho
          by_cases hho : hasO nn o = true
          · obtain ⟨il, hil⟩ : ∃ il, cc1 (idxL nn o) = il := ⟨_, rfl⟩
            cases il with
            | nil =>
              replace hho := Lib.hid hho
              have hcc := Lib.hid hil
              clear hil
              go_wp2_with (first
                | (have _ := h7; refine wpList_loadL (l := ⟨z, x.fr, x.to⟩) (b := b16) (off := 0) (box_rangeL (h7.nx.at2 0 rfl)) (.tmp 16) rfl rfl rfl ?_)
                | (have _ := h7; refine wpList_loadM (off := 0) (box_rangeN (h7.nx.at2 1 rfl)) (.tmp 15) rfl rfl rfl ?_)
                | (have _ := h7; refine wpList_build1_ox h7 (.tmp 68) x rfl rfl rfl ?_; clear h7; intro X4 h8; generalize V2.heap.size = b69 at *)
                | (have _ := h8; refine wpList_entry_ox h8 (by omega) ⟨z, x.fr, x.to⟩ hhl.out (.tmp 65) (.tmp 66) rfl rfl rfl rfl ?_; clear h8; intro st X5 h9)
                | (have _ := h9; refine wpList_append_oe h9 x b69 (by simp) (.tmp 67) (.tmp 69) rfl rfl rfl rfl (by have := LX.out; have := R4.out; omega) ?_; clear h9; intro v7 X6 h9a)
                | (have _ := h9a; refine wpList_estore_oe h9a (.tmp 65) (.tmp 72) (.tmp 71) rfl rfl rfl rfl rfl ?_; clear h9a; intro X7 h9b; rw [HC1.out] at h9b)
                | (have _ := h9b; refine wpList_loadL (l := o) (b := bt) (off := ot + k * 3) (rangeAt_keep r3.out (h9b.bel.block _ hbt.out)) (.tmp 83) rfl rfl rfl ?_)
                | (have _ := h9b; go_at_call 24; refine (otake_nil h9b hho.out hcc.out).mono ?_; clear h9b; rintro e X10 ⟨rfl, h10⟩)
                | (have _ := h10; refine wpList_alloc_ox h10 31 rfl rfl _ zmsg.arr zero31 rfl ?_; clear h10; intro X11 h11; generalize X10.heap.size = b17 at *)
                | (have _ := h11; refine wpList_store_ox (arr' := zmsg.arr) h11 0 rfl 31 (.tmp 17) (.tmp 86) rfl rfl rfl rfl (by rw [Msg.arr_size]; exact sz31) (by simp only [Msg.arr_size]) (Msg.arr_one _) ?_; clear h11; intro X12 h12)
                | (have _ := h12; refine wpList_loadL (l := o) (b := bt) (off := ot + k * 3) (rangeAt_keep r3.out (h12.bel.block _ hbt.out)) (.tmp 91) rfl rfl rfl ?_)
                | (have _ := h12; obtain ⟨Aw, cw, hf0⟩ := ox_look0 h12 hho.out hcc.out; have hfo := Lib.hid hf0; clear hf0; refine wpList_lookup_ox h12 o hto.out hfo.out (.tmp 88) (.tmp 92) rfl rfl rfl rfl ?_))
              have e12 : X12.drew = X12.drewN 1 := rfl
              replace h12 := h12.drewN 1
              rw [← e12] at h12
              clear e12
              have H0 := Lib.hid (trivial : True)
              refine wp_region_held_drew (S := fun W => True) (by kernel_rfl) H0.out (fun _ => ?_)
              generalize X12.drew = V0 at *
              refine wpAnyH_take (i := 0) (v := .int .i64 6) rfl (by kernel_rfl) (by kernel_rfl) (by kernel_rfl) (fun _ _ _ h => h) (Or.inl ⟨by rfl, fun W hW => by clear hW; go_simp⟩) H0.out ?_
              try simp only [Act.put, List.getElem_toArray, List.getElem_cons_succ, List.getElem_cons_zero, List.setIfInBounds_toArray, List.set_cons_zero, List.set_cons_succ]
              refine wpAnyH_take (i := 1) (v := .bool false) rfl (by kernel_rfl) (by kernel_rfl) (by kernel_rfl) (fun _ _ _ h => h) (Or.inl ⟨by rfl, fun W hW => by clear hW; go_simp⟩) H0.out ?_
              try simp only [Act.put, List.getElem_toArray, List.getElem_cons_succ, List.getElem_cons_zero, List.setIfInBounds_toArray, List.set_cons_zero, List.set_cons_succ]
              refine wpAnyH_take (i := 2) (v := .slice Aw 0 cw) rfl (by kernel_rfl) (by kernel_rfl) (by kernel_rfl) (fun _ _ _ h => h) (Or.inl ⟨by rfl, fun W hW => by clear hW; go_simp⟩) H0.out ?_
              try simp only [Act.put, List.getElem_toArray, List.getElem_cons_succ, List.getElem_cons_zero, List.setIfInBounds_toArray, List.set_cons_zero, List.set_cons_succ]
              refine wpAnyH_take (i := 3) (v := .int .i64 0) rfl (by kernel_rfl) (by kernel_rfl) (by kernel_rfl) (fun _ _ _ h => h) (Or.inl ⟨by rfl, fun W hW => by clear hW; go_simp⟩) H0.out ?_
              try simp only [Act.put, List.getElem_toArray, List.getElem_cons_succ, List.getElem_cons_zero, List.setIfInBounds_toArray, List.set_cons_zero, List.set_cons_succ]
              refine wpAnyH_take (i := 4) (v := .bool false) rfl (by kernel_rfl) (by kernel_rfl) (by kernel_rfl) (fun _ _ _ h => h) (Or.inl ⟨by rfl, fun W hW => by clear hW; go_simp⟩) H0.out ?_
              try simp only [Act.put, List.getElem_toArray, List.getElem_cons_succ, List.getElem_cons_zero, List.setIfInBounds_toArray, List.set_cons_zero, List.set_cons_succ]
              refine wpAnyH_take (i := 5) (v := .bool false) rfl (by kernel_rfl) (by kernel_rfl) (by kernel_rfl) (fun _ _ _ h => h) (Or.inl ⟨by rfl, fun W hW => by clear hW; go_simp⟩) H0.out ?_
              try simp only [Act.put, List.getElem_toArray, List.getElem_cons_succ, List.getElem_cons_zero, List.setIfInBounds_toArray, List.set_cons_zero, List.set_cons_succ]
              refine wpAnyH_take (i := 6) (v := .bool false) rfl (by kernel_rfl) (by kernel_rfl) (by kernel_rfl) (fun _ _ _ h => h) (Or.inl ⟨by rfl, fun W hW => by clear hW; go_simp⟩) H0.out ?_
              try simp only [Act.put, List.getElem_toArray, List.getElem_cons_succ, List.getElem_cons_zero, List.setIfInBounds_toArray, List.set_cons_zero, List.set_cons_succ]
              refine wpAnyH_take (i := 7) (v := .int .i64 6) rfl (by kernel_rfl) (by kernel_rfl) (by kernel_rfl) (fun _ _ _ h => h) (Or.inl ⟨by rfl, fun W hW => by clear hW; go_simp⟩) H0.out ?_
              try simp only [Act.put, List.getElem_toArray, List.getElem_cons_succ, List.getElem_cons_zero, List.setIfInBounds_toArray, List.set_cons_zero, List.set_cons_succ]
              refine wpAnyH_take (i := 8) (v := .bool false) rfl (by kernel_rfl) (by kernel_rfl) (by kernel_rfl) (fun _ _ _ h => h) (Or.inl ⟨by rfl, fun W hW => by clear hW; go_simp⟩) H0.out ?_
              try simp only [Act.put, List.getElem_toArray, List.getElem_cons_succ, List.getElem_cons_zero, List.setIfInBounds_toArray, List.set_cons_zero, List.set_cons_succ]
              refine wpAnyH_take (i := 9) (v := .bool false) rfl (by kernel_rfl) (by kernel_rfl) (by kernel_rfl) (fun _ _ _ h => h) (Or.inl ⟨by rfl, fun W hW => by clear hW; go_simp⟩) H0.out ?_
              try simp only [Act.put, List.getElem_toArray, List.getElem_cons_succ, List.getElem_cons_zero, List.setIfInBounds_toArray, List.set_cons_zero, List.set_cons_succ]
              refine wpAnyH_take (i := 10) (v := undef) rfl (by kernel_rfl) (by kernel_rfl) (by kernel_rfl) (fun _ _ _ h => h) (Or.inr ⟨by rfl, rfl⟩) H0.out ?_
              try simp only [Act.put, List.getElem_toArray, List.getElem_cons_succ, List.getElem_cons_zero, List.setIfInBounds_toArray, List.set_cons_zero, List.set_cons_succ]
              refine wpAnyH_take (i := 11) (v := undef) rfl (by kernel_rfl) (by kernel_rfl) (by kernel_rfl) (fun _ _ _ h => h) (Or.inr ⟨by rfl, rfl⟩) H0.out ?_
              try simp only [Act.put, List.getElem_toArray, List.getElem_cons_succ, List.getElem_cons_zero, List.setIfInBounds_toArray, List.set_cons_zero, List.set_cons_succ]
              refine wpAnyH_take (i := 12) (v := undef) rfl (by kernel_rfl) (by kernel_rfl) (by kernel_rfl) (fun _ _ _ h => h) (Or.inr ⟨by rfl, rfl⟩) H0.out ?_
              try simp only [Act.put, List.getElem_toArray, List.getElem_cons_succ, List.getElem_cons_zero, List.setIfInBounds_toArray, List.set_cons_zero, List.set_cons_succ]
              refine wpAnyH_take (i := 13) (v := undef) rfl (by kernel_rfl) (by kernel_rfl) (by kernel_rfl) (fun _ _ _ h => h) (Or.inr ⟨by rfl, rfl⟩) H0.out ?_
              try simp only [Act.put, List.getElem_toArray, List.getElem_cons_succ, List.getElem_cons_zero, List.setIfInBounds_toArray, List.set_cons_zero, List.set_cons_succ]
              refine wpAnyH_take (i := 14) (v := undef) rfl (by kernel_rfl) (by kernel_rfl) (by kernel_rfl) (fun _ _ _ h => h) (Or.inr ⟨by rfl, rfl⟩) H0.out ?_
              try simp only [Act.put, List.getElem_toArray, List.getElem_cons_succ, List.getElem_cons_zero, List.setIfInBounds_toArray, List.set_cons_zero, List.set_cons_succ]
              refine wpAnyH_take (i := 15) (v := .bool false) rfl (by kernel_rfl) (by kernel_rfl) (by kernel_rfl) (fun _ _ _ h => h) (Or.inl ⟨by rfl, fun W hW => by clear hW; go_simp⟩) H0.out ?_
              try simp only [Act.put, List.getElem_toArray, List.getElem_cons_succ, List.getElem_cons_zero, List.setIfInBounds_toArray, List.set_cons_zero, List.set_cons_succ]
              refine wpAnyH_take (i := 16) (v := .bool false) rfl (by kernel_rfl) (by kernel_rfl) (by kernel_rfl) (fun _ _ _ h => h) (Or.inl ⟨by rfl, fun W hW => by clear hW; go_simp⟩) H0.out ?_
              try simp only [Act.put, List.getElem_toArray, List.getElem_cons_succ, List.getElem_cons_zero, List.setIfInBounds_toArray, List.set_cons_zero, List.set_cons_succ]
              refine wpAnyH_done (by kernel_rfl) ?_ _
              clear H0
              go_wp2
              go_roundw
              case rel => exact ⟨k + 1, _, _, _, _, by omega, (by have a1 := SU.out; congr 1; omega), by go_num, by omega, h12.sub (List.nil_sublist _)⟩
              case measure => simp [intOf]; omega
            | cons y ys =>
              have SU2 := sumTo_upd cc1 (idxL nn o) ys (lks nn) (has_lt hho)
              rw [hil] at SU2
              simp only [List.length_cons] at SU2
              replace SU2 := Lib.hid SU2
              have NQ : ∀ W, (binOp .neq 31 (.agg y.arr) (.agg y.arr)).run Try.prog W = .ok (.bool false) W := fun W => by rw [neq_msg, decide_eq_true rfl]; rfl
              have HNW := Lib.hid (show 0 < (y :: ys).length by simp)
              obtain ⟨nw, hnw⟩ : ∃ nw, (y :: ys).length = nw := ⟨_, rfl⟩
              rw [hnw] at HNW
              replace hnw := Lib.hid hnw
              have g3 : ((0 : Int) < (nw : Int)) = True := eq_true (by have := HNW.out; omega)
              have g4 : decide ((0 : Int) < (nw : Int)) = true := decide_eq_true (by have := HNW.out; omega)
              have UPD := Lib.hid (show upd cc1 (idxL nn o) ((cc1 (idxL nn o)).drop 1) = upd cc1 (idxL nn o) ys by rw [hil]; rfl)
              replace hho := Lib.hid hho
              have hcc := Lib.hid hil
              clear hil
              go_wp2_with (first
                | (have _ := h7; refine wpList_loadL (l := ⟨z, x.fr, x.to⟩) (b := b16) (off := 0) (box_rangeL (h7.nx.at2 0 rfl)) (.tmp 16) rfl rfl rfl ?_)
                | (have _ := h7; refine wpList_loadM (off := 0) (box_rangeN (h7.nx.at2 1 rfl)) (.tmp 15) rfl rfl rfl ?_)
                | (have _ := h7; refine wpList_build1_ox h7 (.tmp 68) x rfl rfl rfl ?_; clear h7; intro X4 h8; generalize V2.heap.size = b69 at *)
                | (have _ := h8; refine wpList_entry_ox h8 (by omega) ⟨z, x.fr, x.to⟩ hhl.out (.tmp 65) (.tmp 66) rfl rfl rfl rfl ?_; clear h8; intro st X5 h9)
                | (have _ := h9; refine wpList_append_oe h9 x b69 (by simp) (.tmp 67) (.tmp 69) rfl rfl rfl rfl (by have := LX.out; have := R4.out; omega) ?_; clear h9; intro v7 X6 h9a)
                | (have _ := h9a; refine wpList_estore_oe h9a (.tmp 65) (.tmp 72) (.tmp 71) rfl rfl rfl rfl rfl ?_; clear h9a; intro X7 h9b; rw [HC1.out] at h9b)
                | (have _ := h9b; refine wpList_loadL (l := o) (b := bt) (off := ot + k * 3) (rangeAt_keep r3.out (h9b.bel.block _ hbt.out)) (.tmp 83) rfl rfl rfl ?_)
                | (have _ := h9b; go_at_call 24; refine (otake_cons h9b hho.out hcc.out).mono ?_; clear h9b; rintro e X10 ⟨rfl, h10⟩)
                | (have _ := h10; refine wpList_alloc_ox h10 31 rfl rfl _ zmsg.arr zero31 rfl ?_; clear h10; intro X11 h11; generalize X10.heap.size = b17 at *)
                | (have _ := h11; refine wpList_store_ox (arr' := y.arr) h11 0 rfl 31 (.tmp 17) (.tmp 86) rfl rfl rfl rfl (by rw [Msg.arr_size]; exact sz31) (by simp only [Msg.arr_size]) (Msg.arr_one _) ?_; clear h11; intro X12 h12)
                | (have _ := h12; refine wpList_loadL (l := o) (b := bt) (off := ot + k * 3) (rangeAt_keep r3.out (h12.bel.block _ hbt.out)) (.tmp 91) rfl rfl rfl ?_)
                | (have _ := h12; obtain ⟨bw, ow, cw, hf0, HCW, hrw⟩ := ox_look h12 hho.out hcc.out; rw [hnw.out] at hf0 HCW; have hfo := Lib.hid hf0; clear hf0; replace HCW := Lib.hid HCW; replace hrw := Lib.hid hrw; refine wpList_lookup_ox h12 o hto.out hfo.out (.tmp 88) (.tmp 92) rfl rfl rfl rfl ?_))
              have e12 : X12.drew = X12.drewN 1 := rfl
              replace h12 := h12.drewN 1
              rw [← e12] at h12
              clear e12
              have H0 := Lib.hid (show At X12.drew b17 31 y.arr ∧ X12.drew.rangeAt bw ow y.cs from ⟨h12.nx.at2 0 rfl, hrw.out⟩)
              refine wp_region_held_drew (S := fun W => At W b17 31 y.arr ∧ W.rangeAt bw ow y.cs) (by kernel_rfl) H0.out (fun _ => ?_)
              clear hrw
              generalize X12.drew = V0 at *
              refine wpAnyH_take (i := 0) (v := .int .i64 0) rfl (by kernel_rfl) (by kernel_rfl) (by kernel_rfl) (fun _ _ _ h => h) (Or.inl ⟨by rfl, fun W hW => by clear hW; go_simp⟩) H0.out ?_
              try simp only [Act.put, List.getElem_toArray, List.getElem_cons_succ, List.getElem_cons_zero, List.setIfInBounds_toArray, List.set_cons_zero, List.set_cons_succ]
              refine wpAnyH_take (i := 1) (v := .bool true) rfl (by kernel_rfl) (by kernel_rfl) (by kernel_rfl) (fun _ _ _ h => h) (Or.inl ⟨by rfl, fun W hW => by clear hW; go_simp⟩) H0.out ?_
              try simp only [Act.put, List.getElem_toArray, List.getElem_cons_succ, List.getElem_cons_zero, List.setIfInBounds_toArray, List.set_cons_zero, List.set_cons_succ]
              refine wpAnyH_take (i := 2) (v := .slice (some ⟨bw, ow, none⟩) nw cw) rfl (by kernel_rfl) (by kernel_rfl) (by kernel_rfl) (fun _ _ _ h => h) (Or.inl ⟨by rfl, fun W hW => by clear hW; go_simp⟩) H0.out ?_
              try simp only [Act.put, List.getElem_toArray, List.getElem_cons_succ, List.getElem_cons_zero, List.setIfInBounds_toArray, List.set_cons_zero, List.set_cons_succ]
              refine wpAnyH_take (i := 3) (v := .int .i64 (nw : Int)) rfl (by kernel_rfl) (by kernel_rfl) (by kernel_rfl) (fun _ _ _ h => h) (Or.inl ⟨by rfl, fun W hW => by clear hW; go_simp⟩) H0.out ?_
              try simp only [Act.put, List.getElem_toArray, List.getElem_cons_succ, List.getElem_cons_zero, List.setIfInBounds_toArray, List.set_cons_zero, List.set_cons_succ]
              refine wpAnyH_take (i := 4) (v := .bool true) rfl (by kernel_rfl) (by kernel_rfl) (by kernel_rfl) (fun _ _ _ h => h) (Or.inl ⟨by rfl, fun W hW => by clear hW; go_simp; exact HNW.out⟩) H0.out ?_
              try simp only [Act.put, List.getElem_toArray, List.getElem_cons_succ, List.getElem_cons_zero, List.setIfInBounds_toArray, List.set_cons_zero, List.set_cons_succ]
              refine wpAnyH_take (i := 5) (v := .bool false) rfl (by kernel_rfl) (by kernel_rfl) (by kernel_rfl) (fun _ _ _ h => h) (Or.inl ⟨by rfl, fun W hW => by clear hW; go_simp⟩) H0.out ?_
              try simp only [Act.put, List.getElem_toArray, List.getElem_cons_succ, List.getElem_cons_zero, List.setIfInBounds_toArray, List.set_cons_zero, List.set_cons_succ]
              refine wpAnyH_take (i := 6) (v := .bool false) rfl (by kernel_rfl) (by kernel_rfl) (by kernel_rfl) (fun _ _ _ h => h) (Or.inl ⟨by rfl, fun W hW => by clear hW; go_simp⟩) H0.out ?_
              try simp only [Act.put, List.getElem_toArray, List.getElem_cons_succ, List.getElem_cons_zero, List.setIfInBounds_toArray, List.set_cons_zero, List.set_cons_succ]
              refine wpAnyH_take (i := 7) (v := .int .i64 0) rfl (by kernel_rfl) (by kernel_rfl) (by kernel_rfl) (fun _ _ _ h => h) (Or.inl ⟨by rfl, fun W hW => by clear hW; go_simp⟩) H0.out ?_
              try simp only [Act.put, List.getElem_toArray, List.getElem_cons_succ, List.getElem_cons_zero, List.setIfInBounds_toArray, List.set_cons_zero, List.set_cons_succ]
              refine wpAnyH_take (i := 8) (v := .bool true) rfl (by kernel_rfl) (by kernel_rfl) (by kernel_rfl) (fun _ _ _ h => h) (Or.inl ⟨by rfl, fun W hW => by clear hW; go_simp⟩) H0.out ?_
              try simp only [Act.put, List.getElem_toArray, List.getElem_cons_succ, List.getElem_cons_zero, List.setIfInBounds_toArray, List.set_cons_zero, List.set_cons_succ]
              refine wpAnyH_take (i := 9) (v := .bool true) rfl (by kernel_rfl) (by kernel_rfl) (by kernel_rfl) (fun _ _ _ h => h) (Or.inl ⟨by rfl, fun W hW => by clear hW; go_simp⟩) H0.out ?_
              try simp only [Act.put, List.getElem_toArray, List.getElem_cons_succ, List.getElem_cons_zero, List.setIfInBounds_toArray, List.set_cons_zero, List.set_cons_succ]
              refine wpAnyH_take (i := 10) (v := .agg y.arr) rfl (by kernel_rfl) (by kernel_rfl) (by kernel_rfl) (fun _ _ _ h => h) (yields_at 31 _ _ rfl (by rfl) rfl Try.underlying31 rfl (by rw [Msg.arr_size]; exact sz31) (fun W hW => hW.1)) H0.out ?_
              try simp only [Act.put, List.getElem_toArray, List.getElem_cons_succ, List.getElem_cons_zero, List.setIfInBounds_toArray, List.set_cons_zero, List.set_cons_succ]
              refine wpAnyH_take (i := 11) (v := .slice (some ⟨bw, ow, none⟩) nw cw) rfl (by kernel_rfl) (by kernel_rfl) (by kernel_rfl) (fun _ _ _ h => h) (Or.inl ⟨by rfl, fun W hW => by clear hW; go_simp⟩) H0.out ?_
              try simp only [Act.put, List.getElem_toArray, List.getElem_cons_succ, List.getElem_cons_zero, List.setIfInBounds_toArray, List.set_cons_zero, List.set_cons_succ]
              refine wpAnyH_take (i := 12) (v := .pointer (some ⟨bw, ow, none⟩)) rfl (by kernel_rfl) (by kernel_rfl) (by kernel_rfl) (fun _ _ _ h => h) (Or.inl ⟨by rfl, fun W hW => by clear hW; go_simp; intro h0; exact absurd h0 (Nat.ne_of_gt HNW.out)⟩) H0.out ?_
              try simp only [Act.put, List.getElem_toArray, List.getElem_cons_succ, List.getElem_cons_zero, List.setIfInBounds_toArray, List.set_cons_zero, List.set_cons_succ]
              refine wpAnyH_take (i := 13) (v := .agg y.arr) rfl (by kernel_rfl) (by kernel_rfl) (by kernel_rfl) (fun _ _ _ h => h) (yields_loadM _ rfl (by rfl) rfl (fun W hW => hW.2)) H0.out ?_
              try simp only [Act.put, List.getElem_toArray, List.getElem_cons_succ, List.getElem_cons_zero, List.setIfInBounds_toArray, List.set_cons_zero, List.set_cons_succ]
              refine wpAnyH_take (i := 14) (v := .bool false) rfl (by kernel_rfl) (by kernel_rfl) (by kernel_rfl) (fun _ _ _ h => h) (Or.inl ⟨by rfl, fun W hW => by clear hW; go_simp⟩) H0.out ?_
              try simp only [Act.put, List.getElem_toArray, List.getElem_cons_succ, List.getElem_cons_zero, List.setIfInBounds_toArray, List.set_cons_zero, List.set_cons_succ]
              refine wpAnyH_take (i := 15) (v := .bool false) rfl (by kernel_rfl) (by kernel_rfl) (by kernel_rfl) (fun _ _ _ h => h) (Or.inl ⟨by rfl, fun W hW => by clear hW; go_simp⟩) H0.out ?_
              try simp only [Act.put, List.getElem_toArray, List.getElem_cons_succ, List.getElem_cons_zero, List.setIfInBounds_toArray, List.set_cons_zero, List.set_cons_succ]
              refine wpAnyH_take (i := 16) (v := .bool false) rfl (by kernel_rfl) (by kernel_rfl) (by kernel_rfl) (fun _ _ _ h => h) (Or.inl ⟨by rfl, fun W hW => by clear hW; go_simp⟩) H0.out ?_
              try simp only [Act.put, List.getElem_toArray, List.getElem_cons_succ, List.getElem_cons_zero, List.setIfInBounds_toArray, List.set_cons_zero, List.set_cons_succ]
              refine wpAnyH_done (by kernel_rfl) ?_ _
              clear H0
              go_wp2
              have e12 : V0.drew = V0.drewN 1 := rfl
              replace h12 := h12.drewN 1
              rw [← e12] at h12
              clear e12
              have H0 := Lib.hid (show V0.drew.rangeAt bt (ot + k * 3) o.cs from rangeAt_keep r3.out (h12.bel.block _ hbt.out))
              refine wp_region_held_drew (S := fun W => W.rangeAt bt (ot + k * 3) o.cs) (by kernel_rfl) H0.out (fun _ => ?_)
              generalize V0.drew = V9 at *
              refine wpAnyH_take (i := 0) (v := .map (some b12)) rfl (by kernel_rfl) (by kernel_rfl) (by kernel_rfl) (fun _ _ _ h => h) (Or.inl ⟨by rfl, fun W hW => by clear hW; go_simp⟩) H0.out ?_
              try simp only [Act.put, List.getElem_toArray, List.getElem_cons_succ, List.getElem_cons_zero, List.setIfInBounds_toArray, List.set_cons_zero, List.set_cons_succ]
              refine wpAnyH_take (i := 1) (v := .slice (some ⟨bt, ot, none⟩) nT cT) rfl (by kernel_rfl) (by kernel_rfl) (by kernel_rfl) (fun _ _ _ h => h) (Or.inl ⟨by rfl, fun W hW => by clear hW; go_simp⟩) H0.out ?_
              try simp only [Act.put, List.getElem_toArray, List.getElem_cons_succ, List.getElem_cons_zero, List.setIfInBounds_toArray, List.set_cons_zero, List.set_cons_succ]
              refine wpAnyH_take (i := 2) (v := .int .i64 (k : Int)) rfl (by kernel_rfl) (by kernel_rfl) (by kernel_rfl) (fun _ _ _ h => h) (Or.inl ⟨by rfl, fun W hW => by clear hW; go_simp⟩) H0.out ?_
              try simp only [Act.put, List.getElem_toArray, List.getElem_cons_succ, List.getElem_cons_zero, List.setIfInBounds_toArray, List.set_cons_zero, List.set_cons_succ]
              refine wpAnyH_take (i := 3) (v := .pointer (some ⟨bt, ot + k * 3, none⟩)) rfl (by kernel_rfl) (by kernel_rfl) (by kernel_rfl) (fun _ _ _ h => h) (Or.inl ⟨by rfl, fun W hW => by clear hW; go_simp⟩) H0.out ?_
              try simp only [Act.put, List.getElem_toArray, List.getElem_cons_succ, List.getElem_cons_zero, List.setIfInBounds_toArray, List.set_cons_zero, List.set_cons_succ]
              refine wpAnyH_take (i := 4) (v := .agg #[.int .i64 o.a, .int .i64 o.b, .int .i64 o.d]) rfl (by kernel_rfl) (by kernel_rfl) (by kernel_rfl) (fun _ _ _ h => h) (yields_loadL _ rfl (by rfl) rfl (fun W hW => hW)) H0.out ?_
              try simp only [Act.put, List.getElem_toArray, List.getElem_cons_succ, List.getElem_cons_zero, List.setIfInBounds_toArray, List.set_cons_zero, List.set_cons_succ]
              refine wpAnyH_take (i := 5) (v := .slice (some ⟨bw, ow, none⟩) nw cw) rfl (by kernel_rfl) (by kernel_rfl) (by kernel_rfl) (fun _ _ _ h => h) (Or.inl ⟨by rfl, fun W hW => by clear hW; go_simp⟩) H0.out ?_
              try simp only [Act.put, List.getElem_toArray, List.getElem_cons_succ, List.getElem_cons_zero, List.setIfInBounds_toArray, List.set_cons_zero, List.set_cons_succ]
              refine wpAnyH_take (i := 6) (v := .slice (dropA (some ⟨bw, ow, none⟩) cw 1 38) (nw - 1) (cw - 1)) rfl (by kernel_rfl) (by kernel_rfl) (by kernel_rfl) (fun _ _ _ h => h) (Or.inl ⟨by rfl, fun W hW => exec_slice_from (α := Msg) (k := 1) (.tmp 118) (.const (.int .i64 1)) rfl rfl rfl HNW.out HCW.out W⟩) H0.out ?_
              try simp only [Act.put, List.getElem_toArray, List.getElem_cons_succ, List.getElem_cons_zero, List.setIfInBounds_toArray, List.set_cons_zero, List.set_cons_succ]
              refine wpAnyH_ready (rs := [7]) (by kernel_rfl) (by simp) ?_
              refine AllReadyH.cons rfl (fun K hK => ?_) AllReadyH.nil
              rw [if_pos (by rfl)]
              refine wp_update_ox h12 o hho.out hfo.out HNW.out (.tmp 113) (.tmp 117) (.tmp 119) rfl rfl rfl rfl ?_
              intro V3 h15
              clear h12
              have H1_ := Lib.hid (show V3.rangeAt bt (ot + k * 3) o.cs from rangeAt_keep r3.out (h15.bel.block _ hbt.out))
              refine hK.out _ _ H1_.out (fun _ => ?_)
              clear hK K
              try simp only [Act.put, List.getElem_toArray, List.getElem_cons_succ, List.getElem_cons_zero, List.setIfInBounds_toArray, List.set_cons_zero, List.set_cons_succ]
              refine wpAnyH_done (by kernel_rfl) ?_ _
              clear H0 H1_
              go_wp2
              rw [UPD.out] at h15
              go_roundw
              case rel => exact ⟨k + 1, _, _, _, _, by omega, (by have a1 := SU.out; have a2 := SU2.out; congr 1; omega), by go_num, by omega, h15.sub (List.nil_sublist _)⟩
              case measure => simp [intOf]; omega
          · replace hho := Lib.hid (Bool.eq_false_iff.2 hho)
            go_wp2_with (first
              | (have _ := h7; refine wpList_loadL (l := ⟨z, x.fr, x.to⟩) (b := b16) (off := 0) (box_rangeL (h7.nx.at2 0 rfl)) (.tmp 16) rfl rfl rfl ?_)
              | (have _ := h7; refine wpList_loadM (off := 0) (box_rangeN (h7.nx.at2 1 rfl)) (.tmp 15) rfl rfl rfl ?_)
              | (have _ := h7; refine wpList_build1_ox h7 (.tmp 68) x rfl rfl rfl ?_; clear h7; intro X4 h8; generalize V2.heap.size = b69 at *)
              | (have _ := h8; refine wpList_entry_ox h8 (by omega) ⟨z, x.fr, x.to⟩ hhl.out (.tmp 65) (.tmp 66) rfl rfl rfl rfl ?_; clear h8; intro st X5 h9)
              | (have _ := h9; refine wpList_append_oe h9 x b69 (by simp) (.tmp 67) (.tmp 69) rfl rfl rfl rfl (by have := LX.out; have := R4.out; omega) ?_; clear h9; intro v7 X6 h9a)
              | (have _ := h9a; refine wpList_estore_oe h9a (.tmp 65) (.tmp 72) (.tmp 71) rfl rfl rfl rfl rfl ?_; clear h9a; intro X7 h9b; rw [HC1.out] at h9b)
              | (have _ := h9b; refine wpList_loadL (l := o) (b := bt) (off := ot + k * 3) (rangeAt_keep r3.out (h9b.bel.block _ hbt.out)) (.tmp 83) rfl rfl rfl ?_)
              | (have _ := h9b; go_at_call 24; refine (otake_no h9b hho.out).mono ?_; clear h9b; rintro e X10 ⟨rfl, h10⟩)
              | (have _ := h10; refine wpList_alloc_ox h10 31 rfl rfl _ zmsg.arr zero31 rfl ?_; clear h10; intro X11 h11; generalize X10.heap.size = b17 at *)
              | (have _ := h11; refine wpList_store_ox (arr' := zmsg.arr) h11 0 rfl 31 (.tmp 17) (.tmp 86) rfl rfl rfl rfl (by rw [Msg.arr_size]; exact sz31) (by simp only [Msg.arr_size]) (Msg.arr_one _) ?_; clear h11; intro X12 h12)
              | (have _ := h12; refine wpList_loadL (l := o) (b := bt) (off := ot + k * 3) (rangeAt_keep r3.out (h12.bel.block _ hbt.out)) (.tmp 91) rfl rfl rfl ?_)
              | (have _ := h12; have hfo := Lib.hid (h12.nil_ hho.out); refine wpList_lookup_ox h12 o hto.out hfo.out (.tmp 88) (.tmp 92) rfl rfl rfl rfl ?_))
            have e12 : X12.drew = X12.drewN 1 := rfl
            replace h12 := h12.drewN 1
            rw [← e12] at h12
            clear e12
            have H0 := Lib.hid (trivial : True)
            refine wp_region_held_drew (S := fun W => True) (by kernel_rfl) H0.out (fun _ => ?_)
            generalize X12.drew = V0 at *
            refine wpAnyH_take (i := 0) (v := .int .i64 2) rfl (by kernel_rfl) (by kernel_rfl) (by kernel_rfl) (fun _ _ _ h => h) (Or.inl ⟨by rfl, fun W hW => by clear hW; go_simp⟩) H0.out ?_
            try simp only [Act.put, List.getElem_toArray, List.getElem_cons_succ, List.getElem_cons_zero, List.setIfInBounds_toArray, List.set_cons_zero, List.set_cons_succ]
            refine wpAnyH_take (i := 1) (v := .bool false) rfl (by kernel_rfl) (by kernel_rfl) (by kernel_rfl) (fun _ _ _ h => h) (Or.inl ⟨by rfl, fun W hW => by clear hW; go_simp⟩) H0.out ?_
            try simp only [Act.put, List.getElem_toArray, List.getElem_cons_succ, List.getElem_cons_zero, List.setIfInBounds_toArray, List.set_cons_zero, List.set_cons_succ]
            refine wpAnyH_take (i := 2) (v := .slice none 0 0) rfl (by kernel_rfl) (by kernel_rfl) (by kernel_rfl) (fun _ _ _ h => h) (Or.inl ⟨by rfl, fun W hW => by clear hW; go_simp⟩) H0.out ?_
            try simp only [Act.put, List.getElem_toArray, List.getElem_cons_succ, List.getElem_cons_zero, List.setIfInBounds_toArray, List.set_cons_zero, List.set_cons_succ]
            refine wpAnyH_take (i := 3) (v := .int .i64 0) rfl (by kernel_rfl) (by kernel_rfl) (by kernel_rfl) (fun _ _ _ h => h) (Or.inl ⟨by rfl, fun W hW => by clear hW; go_simp⟩) H0.out ?_
            try simp only [Act.put, List.getElem_toArray, List.getElem_cons_succ, List.getElem_cons_zero, List.setIfInBounds_toArray, List.set_cons_zero, List.set_cons_succ]
            refine wpAnyH_take (i := 4) (v := .bool false) rfl (by kernel_rfl) (by kernel_rfl) (by kernel_rfl) (fun _ _ _ h => h) (Or.inl ⟨by rfl, fun W hW => by clear hW; go_simp⟩) H0.out ?_
            try simp only [Act.put, List.getElem_toArray, List.getElem_cons_succ, List.getElem_cons_zero, List.setIfInBounds_toArray, List.set_cons_zero, List.set_cons_succ]
            refine wpAnyH_take (i := 5) (v := .bool false) rfl (by kernel_rfl) (by kernel_rfl) (by kernel_rfl) (fun _ _ _ h => h) (Or.inl ⟨by rfl, fun W hW => by clear hW; go_simp⟩) H0.out ?_
            try simp only [Act.put, List.getElem_toArray, List.getElem_cons_succ, List.getElem_cons_zero, List.setIfInBounds_toArray, List.set_cons_zero, List.set_cons_succ]
            refine wpAnyH_take (i := 6) (v := .bool false) rfl (by kernel_rfl) (by kernel_rfl) (by kernel_rfl) (fun _ _ _ h => h) (Or.inl ⟨by rfl, fun W hW => by clear hW; go_simp⟩) H0.out ?_
            try simp only [Act.put, List.getElem_toArray, List.getElem_cons_succ, List.getElem_cons_zero, List.setIfInBounds_toArray, List.set_cons_zero, List.set_cons_succ]
            refine wpAnyH_take (i := 7) (v := .int .i64 2) rfl (by kernel_rfl) (by kernel_rfl) (by kernel_rfl) (fun _ _ _ h => h) (Or.inl ⟨by rfl, fun W hW => by clear hW; go_simp⟩) H0.out ?_
            try simp only [Act.put, List.getElem_toArray, List.getElem_cons_succ, List.getElem_cons_zero, List.setIfInBounds_toArray, List.set_cons_zero, List.set_cons_succ]
            refine wpAnyH_take (i := 8) (v := .bool false) rfl (by kernel_rfl) (by kernel_rfl) (by kernel_rfl) (fun _ _ _ h => h) (Or.inl ⟨by rfl, fun W hW => by clear hW; go_simp⟩) H0.out ?_
            try simp only [Act.put, List.getElem_toArray, List.getElem_cons_succ, List.getElem_cons_zero, List.setIfInBounds_toArray, List.set_cons_zero, List.set_cons_succ]
            refine wpAnyH_take (i := 9) (v := .bool false) rfl (by kernel_rfl) (by kernel_rfl) (by kernel_rfl) (fun _ _ _ h => h) (Or.inl ⟨by rfl, fun W hW => by clear hW; go_simp⟩) H0.out ?_
            try simp only [Act.put, List.getElem_toArray, List.getElem_cons_succ, List.getElem_cons_zero, List.setIfInBounds_toArray, List.set_cons_zero, List.set_cons_succ]
            refine wpAnyH_take (i := 10) (v := undef) rfl (by kernel_rfl) (by kernel_rfl) (by kernel_rfl) (fun _ _ _ h => h) (Or.inr ⟨by rfl, rfl⟩) H0.out ?_
            try simp only [Act.put, List.getElem_toArray, List.getElem_cons_succ, List.getElem_cons_zero, List.setIfInBounds_toArray, List.set_cons_zero, List.set_cons_succ]
            refine wpAnyH_take (i := 11) (v := undef) rfl (by kernel_rfl) (by kernel_rfl) (by kernel_rfl) (fun _ _ _ h => h) (Or.inr ⟨by rfl, rfl⟩) H0.out ?_
            try simp only [Act.put, List.getElem_toArray, List.getElem_cons_succ, List.getElem_cons_zero, List.setIfInBounds_toArray, List.set_cons_zero, List.set_cons_succ]
            refine wpAnyH_take (i := 12) (v := undef) rfl (by kernel_rfl) (by kernel_rfl) (by kernel_rfl) (fun _ _ _ h => h) (Or.inr ⟨by rfl, rfl⟩) H0.out ?_
            try simp only [Act.put, List.getElem_toArray, List.getElem_cons_succ, List.getElem_cons_zero, List.setIfInBounds_toArray, List.set_cons_zero, List.set_cons_succ]
            refine wpAnyH_take (i := 13) (v := undef) rfl (by kernel_rfl) (by kernel_rfl) (by kernel_rfl) (fun _ _ _ h => h) (Or.inr ⟨by rfl, rfl⟩) H0.out ?_
            try simp only [Act.put, List.getElem_toArray, List.getElem_cons_succ, List.getElem_cons_zero, List.setIfInBounds_toArray, List.set_cons_zero, List.set_cons_succ]
            refine wpAnyH_take (i := 14) (v := undef) rfl (by kernel_rfl) (by kernel_rfl) (by kernel_rfl) (fun _ _ _ h => h) (Or.inr ⟨by rfl, rfl⟩) H0.out ?_
            try simp only [Act.put, List.getElem_toArray, List.getElem_cons_succ, List.getElem_cons_zero, List.setIfInBounds_toArray, List.set_cons_zero, List.set_cons_succ]
            refine wpAnyH_take (i := 15) (v := .bool false) rfl (by kernel_rfl) (by kernel_rfl) (by kernel_rfl) (fun _ _ _ h => h) (Or.inl ⟨by rfl, fun W hW => by clear hW; go_simp⟩) H0.out ?_
            try simp only [Act.put, List.getElem_toArray, List.getElem_cons_succ, List.getElem_cons_zero, List.setIfInBounds_toArray, List.set_cons_zero, List.set_cons_succ]
            refine wpAnyH_take (i := 16) (v := .bool false) rfl (by kernel_rfl) (by kernel_rfl) (by kernel_rfl) (fun _ _ _ h => h) (Or.inl ⟨by rfl, fun W hW => by clear hW; go_simp⟩) H0.out ?_
            try simp only [Act.put, List.getElem_toArray, List.getElem_cons_succ, List.getElem_cons_zero, List.setIfInBounds_toArray, List.set_cons_zero, List.set_cons_succ]
            refine wpAnyH_done (by kernel_rfl) ?_ _
            clear H0
            go_wp2
            go_roundw
            case rel => exact ⟨k + 1, _, _, _, _, by omega, (by have a1 := SU.out; congr 1; omega), by go_num, by omega, h12.sub (List.nil_sublist _)⟩
            case measure => simp [intOf]; omega
        · have g2 : ((k : Int) < (nT : Int)) = False := eq_false (by omega)
          go_wp2_with (first
            | (have _ := h7; refine wpList_loadL (l := ⟨z, x.fr, x.to⟩) (b := b16) (off := 0) (box_rangeL (h7.nx.at2 0 rfl)) (.tmp 16) rfl rfl rfl ?_)
            | (have _ := h7; refine wpList_loadM (off := 0) (box_rangeN (h7.nx.at2 1 rfl)) (.tmp 15) rfl rfl rfl ?_)
            | (have _ := h7; refine wpList_build1_ox h7 (.tmp 68) x rfl rfl rfl ?_; clear h7; intro X4 h8; generalize V2.heap.size = b69 at *)
            | (have _ := h8; refine wpList_entry_ox h8 (by omega) ⟨z, x.fr, x.to⟩ hhl.out (.tmp 65) (.tmp 66) rfl rfl rfl rfl ?_; clear h8; intro st X5 h9)
            | (have _ := h9; refine wpList_append_oe h9 x b69 (by simp) (.tmp 67) (.tmp 69) rfl rfl rfl rfl (by have := LX.out; have := R4.out; omega) ?_; clear h9; intro v7 X6 h9a)
            | (have _ := h9a; refine wpList_estore_oe h9a (.tmp 65) (.tmp 72) (.tmp 71) rfl rfl rfl rfl rfl ?_; clear h9a; intro X7 h9b; rw [HC1.out] at h9b))
          go_roundw
          case rel => exact ⟨k + 1, _, _, _, _, by omega, (by have a1 := SU.out; congr 1; omega), by go_num, by omega, h9b.sub (List.nil_sublist _)⟩
          case measure => simp [intOf]; omega
      · have e2 := send_not hso
        have e1 := send_no_k hso
        rw [e2] at SD
        generalize sendK nn R cc z x = kk at *
        have z2 : (kk == 0) = false := by rcases e1 with rfl | rfl <;> rfl
        replace e1 := Lib.hid e1
        clear e2 hso
        refine wpAnyH_take (i := 0) (v := .pointer (some ⟨g, 0, none⟩)) rfl (by kernel_rfl) (by kernel_rfl) (by kernel_rfl) (fun _ _ _ h => h) (Or.inl ⟨by rfl, fun W hW => by clear hW; go_simp⟩) H0.out ?_
        try simp only [Act.put, List.getElem_toArray, List.getElem_cons_succ, List.getElem_cons_zero, List.setIfInBounds_toArray, List.set_cons_zero, List.set_cons_succ]
        refine wpAnyH_take (i := 1) (v := .slice (some ⟨bi, oi, none⟩) nI cI) rfl (by kernel_rfl) (by kernel_rfl) (by kernel_rfl) (fun _ _ _ h => h) (Or.inl ⟨by rfl, fun W hW => by clear hW; go_simp⟩) H0.out ?_
        try simp only [Act.put, List.getElem_toArray, List.getElem_cons_succ, List.getElem_cons_zero, List.setIfInBounds_toArray, List.set_cons_zero, List.set_cons_succ]
        refine wpAnyH_take (i := 2) (v := .int .i64 (k : Int)) rfl (by kernel_rfl) (by kernel_rfl) (by kernel_rfl) (fun _ _ _ h => h) (Or.inl ⟨by rfl, fun W hW => by clear hW; go_simp⟩) H0.out ?_
        try simp only [Act.put, List.getElem_toArray, List.getElem_cons_succ, List.getElem_cons_zero, List.setIfInBounds_toArray, List.set_cons_zero, List.set_cons_succ]
        refine wpAnyH_take (i := 3) (v := .pointer (some ⟨bi, oi + k, none⟩)) rfl (by kernel_rfl) (by kernel_rfl) (by kernel_rfl) (fun _ _ _ h => h) (Or.inl ⟨by rfl, fun W hW => by clear hW; go_simp⟩) H0.out ?_
        try simp only [Act.put, List.getElem_toArray, List.getElem_cons_succ, List.getElem_cons_zero, List.setIfInBounds_toArray, List.set_cons_zero, List.set_cons_succ]
        refine wpAnyH_take (i := 4) (v := .int .i64 z) rfl (by kernel_rfl) (by kernel_rfl) (by kernel_rfl) (fun _ _ _ h => h) (Or.inl ⟨by rfl, fun W hW => by have hc := hW.1; clear hW; go_simp⟩) H0.out ?_
        try simp only [Act.put, List.getElem_toArray, List.getElem_cons_succ, List.getElem_cons_zero, List.setIfInBounds_toArray, List.set_cons_zero, List.set_cons_succ]
        refine wpAnyH_take (i := 5) (v := .agg x.arr) rfl (by kernel_rfl) (by kernel_rfl) (by kernel_rfl) (fun _ _ _ h => h) (yields_at 31 _ _ rfl (by rfl) rfl Try.underlying31 rfl (by rw [Msg.arr_size]; exact sz31) (fun W hW => hW.2)) H0.out ?_
        try simp only [Act.put, List.getElem_toArray, List.getElem_cons_succ, List.getElem_cons_zero, List.setIfInBounds_toArray, List.set_cons_zero, List.set_cons_succ]
        refine wpAnyH_ready (rs := [6]) (by kernel_rfl) (by simp) ?_
        refine AllReadyH.cons rfl (fun K hK => ?_) AllReadyH.nil
        go_simp
        go_at_call 27
        refine (SD.out _ _ h6).mono ?_
        rintro e V2 ⟨ps3, rfl, h7⟩
        clear h6
        have H1_ := Lib.hid (show V2.cell? ⟨bi, oi + k, none⟩ = some (.int .i64 z) ∧ At V2 b15 31 x.arr from ⟨(h7.bel.cell (p := ⟨bi, oi + k, none⟩) hbi.out).trans r2.out, h7.nx.at2 1 rfl⟩)
        refine hK.out _ _ H1_.out (fun _ => ?_)
        clear hK K
        try simp only [Act.put, List.getElem_toArray, List.getElem_cons_succ, List.getElem_cons_zero, List.setIfInBounds_toArray, List.set_cons_zero, List.set_cons_succ]
        refine wpAnyH_take (i := 7) (v := .bool false) rfl (by kernel_rfl) (by kernel_rfl) (by kernel_rfl) (fun _ _ _ h => h) (Or.inl ⟨by rfl, fun W hW => by clear hW; go_simp⟩) H1_.out ?_
        try simp only [Act.put, List.getElem_toArray, List.getElem_cons_succ, List.getElem_cons_zero, List.setIfInBounds_toArray, List.set_cons_zero, List.set_cons_succ]
        refine wpAnyH_done (by kernel_rfl) ?_ _
        clear H0 H1_ SD
        by_cases hkT : k < nT
        · have g2 : ((k : Int) < (nT : Int)) = True := eq_true (by omega)
          have hk3 : k < ts.length := by have := hlT.out; omega
          have ho : ts[k]? = some ts[k] := List.getElem?_eq_getElem hk3
          have hto := Lib.hid (HOK.out ts[k] (List.getElem_mem hk3))
          generalize ts[k] = o at *
          have hAT2 := hAT.out (by omega)
          subst hAT2
          obtain ⟨hbt, r3⟩ := HT.out.at2 k o ho
          replace r3 : w.rangeAt bt (ot + k * 3) o.cs := r3
          replace r3 := Lib.hid r3
          replace hbt := Lib.hid hbt
          clear hk3 ho
          by_cases hho : hasO nn o = true
          · obtain ⟨il, hil⟩ : ∃ il, cc (idxL nn o) = il := ⟨_, rfl⟩
            cases il with
            | nil =>
              replace hho := Lib.hid hho
              have hcc := Lib.hid hil
              clear hil
              go_wp2_with (first
                | (have _ := h7; refine wpList_loadL (l := o) (b := bt) (off := ot + k * 3) (rangeAt_keep r3.out (h7.bel.block _ hbt.out)) (.tmp 83) rfl rfl rfl ?_)
                | (have _ := h7; go_at_call 24; refine (otake_nil h7 hho.out hcc.out).mono ?_; clear h7; rintro e X10 ⟨rfl, h10⟩)
                | (have _ := h10; refine wpList_alloc_ox h10 31 rfl rfl _ zmsg.arr zero31 rfl ?_; clear h10; intro X11 h11; generalize X10.heap.size = b17 at *)
                | (have _ := h11; refine wpList_store_ox (arr' := zmsg.arr) h11 0 rfl 31 (.tmp 17) (.tmp 86) rfl rfl rfl rfl (by rw [Msg.arr_size]; exact sz31) (by simp only [Msg.arr_size]) (Msg.arr_one _) ?_; clear h11; intro X12 h12)
                | (have _ := h12; refine wpList_loadL (l := o) (b := bt) (off := ot + k * 3) (rangeAt_keep r3.out (h12.bel.block _ hbt.out)) (.tmp 91) rfl rfl rfl ?_)
                | (have _ := h12; obtain ⟨Aw, cw, hf0⟩ := ox_look0 h12 hho.out hcc.out; have hfo := Lib.hid hf0; clear hf0; refine wpList_lookup_ox h12 o hto.out hfo.out (.tmp 88) (.tmp 92) rfl rfl rfl rfl ?_))
              have e12 : X12.drew = X12.drewN 1 := rfl
              replace h12 := h12.drewN 1
              rw [← e12] at h12
              clear e12
              have H0 := Lib.hid (trivial : True)
              refine wp_region_held_drew (S := fun W => True) (by kernel_rfl) H0.out (fun _ => ?_)
              generalize X12.drew = V0 at *
              refine wpAnyH_take (i := 0) (v := .int .i64 6) rfl (by kernel_rfl) (by kernel_rfl) (by kernel_rfl) (fun _ _ _ h => h) (Or.inl ⟨by rfl, fun W hW => by clear hW; go_simp⟩) H0.out ?_
              try simp only [Act.put, List.getElem_toArray, List.getElem_cons_succ, List.getElem_cons_zero, List.setIfInBounds_toArray, List.set_cons_zero, List.set_cons_succ]
              refine wpAnyH_take (i := 1) (v := .bool false) rfl (by kernel_rfl) (by kernel_rfl) (by kernel_rfl) (fun _ _ _ h => h) (Or.inl ⟨by rfl, fun W hW => by clear hW; go_simp⟩) H0.out ?_
              try simp only [Act.put, List.getElem_toArray, List.getElem_cons_succ, List.getElem_cons_zero, List.setIfInBounds_toArray, List.set_cons_zero, List.set_cons_succ]
              refine wpAnyH_take (i := 2) (v := .slice Aw 0 cw) rfl (by kernel_rfl) (by kernel_rfl) (by kernel_rfl) (fun _ _ _ h => h) (Or.inl ⟨by rfl, fun W hW => by clear hW; go_simp⟩) H0.out ?_
              try simp only [Act.put, List.getElem_toArray, List.getElem_cons_succ, List.getElem_cons_zero, List.setIfInBounds_toArray, List.set_cons_zero, List.set_cons_succ]
              refine wpAnyH_take (i := 3) (v := .int .i64 0) rfl (by kernel_rfl) (by kernel_rfl) (by kernel_rfl) (fun _ _ _ h => h) (Or.inl ⟨by rfl, fun W hW => by clear hW; go_simp⟩) H0.out ?_
              try simp only [Act.put, List.getElem_toArray, List.getElem_cons_succ, List.getElem_cons_zero, List.setIfInBounds_toArray, List.set_cons_zero, List.set_cons_succ]
              refine wpAnyH_take (i := 4) (v := .bool false) rfl (by kernel_rfl) (by kernel_rfl) (by kernel_rfl) (fun _ _ _ h => h) (Or.inl ⟨by rfl, fun W hW => by clear hW; go_simp⟩) H0.out ?_
              try simp only [Act.put, List.getElem_toArray, List.getElem_cons_succ, List.getElem_cons_zero, List.setIfInBounds_toArray, List.set_cons_zero, List.set_cons_succ]
              refine wpAnyH_take (i := 5) (v := .bool false) rfl (by kernel_rfl) (by kernel_rfl) (by kernel_rfl) (fun _ _ _ h => h) (Or.inl ⟨by rfl, fun W hW => by clear hW; go_simp⟩) H0.out ?_
              try simp only [Act.put, List.getElem_toArray, List.getElem_cons_succ, List.getElem_cons_zero, List.setIfInBounds_toArray, List.set_cons_zero, List.set_cons_succ]
              refine wpAnyH_take (i := 6) (v := .bool false) rfl (by kernel_rfl) (by kernel_rfl) (by kernel_rfl) (fun _ _ _ h => h) (Or.inl ⟨by rfl, fun W hW => by clear hW; go_simp⟩) H0.out ?_
              try simp only [Act.put, List.getElem_toArray, List.getElem_cons_succ, List.getElem_cons_zero, List.setIfInBounds_toArray, List.set_cons_zero, List.set_cons_succ]
              refine wpAnyH_take (i := 7) (v := .int .i64 6) rfl (by kernel_rfl) (by kernel_rfl) (by kernel_rfl) (fun _ _ _ h => h) (Or.inl ⟨by rfl, fun W hW => by clear hW; go_simp⟩) H0.out ?_
              try simp only [Act.put, List.getElem_toArray, List.getElem_cons_succ, List.getElem_cons_zero, List.setIfInBounds_toArray, List.set_cons_zero, List.set_cons_succ]
              refine wpAnyH_take (i := 8) (v := .bool false) rfl (by kernel_rfl) (by kernel_rfl) (by kernel_rfl) (fun _ _ _ h => h) (Or.inl ⟨by rfl, fun W hW => by clear hW; go_simp⟩) H0.out ?_
              try simp only [Act.put, List.getElem_toArray, List.getElem_cons_succ, List.getElem_cons_zero, List.setIfInBounds_toArray, List.set_cons_zero, List.set_cons_succ]
              refine wpAnyH_take (i := 9) (v := .bool false) rfl (by kernel_rfl) (by kernel_rfl) (by kernel_rfl) (fun _ _ _ h => h) (Or.inl ⟨by rfl, fun W hW => by clear hW; go_simp⟩) H0.out ?_
              try simp only [Act.put, List.getElem_toArray, List.getElem_cons_succ, List.getElem_cons_zero, List.setIfInBounds_toArray, List.set_cons_zero, List.set_cons_succ]
              refine wpAnyH_take (i := 10) (v := undef) rfl (by kernel_rfl) (by kernel_rfl) (by kernel_rfl) (fun _ _ _ h => h) (Or.inr ⟨by rfl, rfl⟩) H0.out ?_
              try simp only [Act.put, List.getElem_toArray, List.getElem_cons_succ, List.getElem_cons_zero, List.setIfInBounds_toArray, List.set_cons_zero, List.set_cons_succ]
              refine wpAnyH_take (i := 11) (v := undef) rfl (by kernel_rfl) (by kernel_rfl) (by kernel_rfl) (fun _ _ _ h => h) (Or.inr ⟨by rfl, rfl⟩) H0.out ?_
              try simp only [Act.put, List.getElem_toArray, List.getElem_cons_succ, List.getElem_cons_zero, List.setIfInBounds_toArray, List.set_cons_zero, List.set_cons_succ]
              refine wpAnyH_take (i := 12) (v := undef) rfl (by kernel_rfl) (by kernel_rfl) (by kernel_rfl) (fun _ _ _ h => h) (Or.inr ⟨by rfl, rfl⟩) H0.out ?_
              try simp only [Act.put, List.getElem_toArray, List.getElem_cons_succ, List.getElem_cons_zero, List.setIfInBounds_toArray, List.set_cons_zero, List.set_cons_succ]
              refine wpAnyH_take (i := 13) (v := undef) rfl (by kernel_rfl) (by kernel_rfl) (by kernel_rfl) (fun _ _ _ h => h) (Or.inr ⟨by rfl, rfl⟩) H0.out ?_
              try simp only [Act.put, List.getElem_toArray, List.getElem_cons_succ, List.getElem_cons_zero, List.setIfInBounds_toArray, List.set_cons_zero, List.set_cons_succ]
              refine wpAnyH_take (i := 14) (v := undef) rfl (by kernel_rfl) (by kernel_rfl) (by kernel_rfl) (fun _ _ _ h => h) (Or.inr ⟨by rfl, rfl⟩) H0.out ?_
              try simp only [Act.put, List.getElem_toArray, List.getElem_cons_succ, List.getElem_cons_zero, List.setIfInBounds_toArray, List.set_cons_zero, List.set_cons_succ]
              refine wpAnyH_take (i := 15) (v := .bool false) rfl (by kernel_rfl) (by kernel_rfl) (by kernel_rfl) (fun _ _ _ h => h) (Or.inl ⟨by rfl, fun W hW => by clear hW; go_simp⟩) H0.out ?_
              try simp only [Act.put, List.getElem_toArray, List.getElem_cons_succ, List.getElem_cons_zero, List.setIfInBounds_toArray, List.set_cons_zero, List.set_cons_succ]
              refine wpAnyH_take (i := 16) (v := .bool false) rfl (by kernel_rfl) (by kernel_rfl) (by kernel_rfl) (fun _ _ _ h => h) (Or.inl ⟨by rfl, fun W hW => by clear hW; go_simp⟩) H0.out ?_
              try simp only [Act.put, List.getElem_toArray, List.getElem_cons_succ, List.getElem_cons_zero, List.setIfInBounds_toArray, List.set_cons_zero, List.set_cons_succ]
              refine wpAnyH_done (by kernel_rfl) ?_ _
              clear H0
              go_wp2
              go_roundw
              case rel => exact ⟨k + 1, _, _, _, _, by omega, rfl, by go_num, by omega, h12.sub (List.nil_sublist _)⟩
              case measure => simp [intOf]; omega
            | cons y ys =>
              have SU2 := sumTo_upd cc (idxL nn o) ys (lks nn) (has_lt hho)
              rw [hil] at SU2
              simp only [List.length_cons] at SU2
              replace SU2 := Lib.hid SU2
              have NQ : ∀ W, (binOp .neq 31 (.agg y.arr) (.agg y.arr)).run Try.prog W = .ok (.bool false) W := fun W => by rw [neq_msg, decide_eq_true rfl]; rfl
              have HNW := Lib.hid (show 0 < (y :: ys).length by simp)
              obtain ⟨nw, hnw⟩ : ∃ nw, (y :: ys).length = nw := ⟨_, rfl⟩
              rw [hnw] at HNW
              replace hnw := Lib.hid hnw
              have g3 : ((0 : Int) < (nw : Int)) = True := eq_true (by have := HNW.out; omega)
              have g4 : decide ((0 : Int) < (nw : Int)) = true := decide_eq_true (by have := HNW.out; omega)
              have UPD := Lib.hid (show upd cc (idxL nn o) ((cc (idxL nn o)).drop 1) = upd cc (idxL nn o) ys by rw [hil]; rfl)
              replace hho := Lib.hid hho
              have hcc := Lib.hid hil
              clear hil
              go_wp2_with (first
                | (have _ := h7; refine wpList_loadL (l := o) (b := bt) (off := ot + k * 3) (rangeAt_keep r3.out (h7.bel.block _ hbt.out)) (.tmp 83) rfl rfl rfl ?_)
                | (have _ := h7; go_at_call 24; refine (otake_cons h7 hho.out hcc.out).mono ?_; clear h7; rintro e X10 ⟨rfl, h10⟩)
                | (have _ := h10; refine wpList_alloc_ox h10 31 rfl rfl _ zmsg.arr zero31 rfl ?_; clear h10; intro X11 h11; generalize X10.heap.size = b17 at *)
                | (have _ := h11; refine wpList_store_ox (arr' := y.arr) h11 0 rfl 31 (.tmp 17) (.tmp 86) rfl rfl rfl rfl (by rw [Msg.arr_size]; exact sz31) (by simp only [Msg.arr_size]) (Msg.arr_one _) ?_; clear h11; intro X12 h12)
                | (have _ := h12; refine wpList_loadL (l := o) (b := bt) (off := ot + k * 3) (rangeAt_keep r3.out (h12.bel.block _ hbt.out)) (.tmp 91) rfl rfl rfl ?_)
                | (have _ := h12; obtain ⟨bw, ow, cw, hf0, HCW, hrw⟩ := ox_look h12 hho.out hcc.out; rw [hnw.out] at hf0 HCW; have hfo := Lib.hid hf0; clear hf0; replace HCW := Lib.hid HCW; replace hrw := Lib.hid hrw; refine wpList_lookup_ox h12 o hto.out hfo.out (.tmp 88) (.tmp 92) rfl rfl rfl rfl ?_))
              have e12 : X12.drew = X12.drewN 1 := rfl
              replace h12 := h12.drewN 1
              rw [← e12] at h12
              clear e12
              have H0 := Lib.hid (show At X12.drew b17 31 y.arr ∧ X12.drew.rangeAt bw ow y.cs from ⟨h12.nx.at2 0 rfl, hrw.out⟩)
              refine wp_region_held_drew (S := fun W => At W b17 31 y.arr ∧ W.rangeAt bw ow y.cs) (by kernel_rfl) H0.out (fun _ => ?_)
              clear hrw
              generalize X12.drew = V0 at *
              refine wpAnyH_take (i := 0) (v := .int .i64 0) rfl (by kernel_rfl) (by kernel_rfl) (by kernel_rfl) (fun _ _ _ h => h) (Or.inl ⟨by rfl, fun W hW => by clear hW; go_simp⟩) H0.out ?_
              try simp only [Act.put, List.getElem_toArray, List.getElem_cons_succ, List.getElem_cons_zero, List.setIfInBounds_toArray, List.set_cons_zero, List.set_cons_succ]
              refine wpAnyH_take (i := 1) (v := .bool true) rfl (by kernel_rfl) (by kernel_rfl) (by kernel_rfl) (fun _ _ _ h => h) (Or.inl ⟨by rfl, fun W hW => by clear hW; go_simp⟩) H0.out ?_
              try simp only [Act.put, List.getElem_toArray, List.getElem_cons_succ, List.getElem_cons_zero, List.setIfInBounds_toArray, List.set_cons_zero, List.set_cons_succ]
              refine wpAnyH_take (i := 2) (v := .slice (some ⟨bw, ow, none⟩) nw cw) rfl (by kernel_rfl) (by kernel_rfl) (by kernel_rfl) (fun _ _ _ h => h) (Or.inl ⟨by rfl, fun W hW => by clear hW; go_simp⟩) H0.out ?_
              try simp only [Act.put, List.getElem_toArray, List.getElem_cons_succ, List.getElem_cons_zero, List.setIfInBounds_toArray, List.set_cons_zero, List.set_cons_succ]
              refine wpAnyH_take (i := 3) (v := .int .i64 (nw : Int)) rfl (by kernel_rfl) (by kernel_rfl) (by kernel_rfl) (fun _ _ _ h => h) (Or.inl ⟨by rfl, fun W hW => by clear hW; go_simp⟩) H0.out ?_
              try simp only [Act.put, List.getElem_toArray, List.getElem_cons_succ, List.getElem_cons_zero, List.setIfInBounds_toArray, List.set_cons_zero, List.set_cons_succ]
              refine wpAnyH_take (i := 4) (v := .bool true) rfl (by kernel_rfl) (by kernel_rfl) (by kernel_rfl) (fun _ _ _ h => h) (Or.inl ⟨by rfl, fun W hW => by clear hW; go_simp; exact HNW.out⟩) H0.out ?_
              try simp only [Act.put, List.getElem_toArray, List.getElem_cons_succ, List.getElem_cons_zero, List.setIfInBounds_toArray, List.set_cons_zero, List.set_cons_succ]
              refine wpAnyH_take (i := 5) (v := .bool false) rfl (by kernel_rfl) (by kernel_rfl) (by kernel_rfl) (fun _ _ _ h => h) (Or.inl ⟨by rfl, fun W hW => by clear hW; go_simp⟩) H0.out ?_
              try simp only [Act.put, List.getElem_toArray, List.getElem_cons_succ, List.getElem_cons_zero, List.setIfInBounds_toArray, List.set_cons_zero, List.set_cons_succ]
              refine wpAnyH_take (i := 6) (v := .bool false) rfl (by kernel_rfl) (by kernel_rfl) (by kernel_rfl) (fun _ _ _ h => h) (Or.inl ⟨by rfl, fun W hW => by clear hW; go_simp⟩) H0.out ?_
              try simp only [Act.put, List.getElem_toArray, List.getElem_cons_succ, List.getElem_cons_zero, List.setIfInBounds_toArray, List.set_cons_zero, List.set_cons_succ]
              refine wpAnyH_take (i := 7) (v := .int .i64 0) rfl (by kernel_rfl) (by kernel_rfl) (by kernel_rfl) (fun _ _ _ h => h) (Or.inl ⟨by rfl, fun W hW => by clear hW; go_simp⟩) H0.out ?_
              try simp only [Act.put, List.getElem_toArray, List.getElem_cons_succ, List.getElem_cons_zero, List.setIfInBounds_toArray, List.set_cons_zero, List.set_cons_succ]
              refine wpAnyH_take (i := 8) (v := .bool true) rfl (by kernel_rfl) (by kernel_rfl) (by kernel_rfl) (fun _ _ _ h => h) (Or.inl ⟨by rfl, fun W hW => by clear hW; go_simp⟩) H0.out ?_
              try simp only [Act.put, List.getElem_toArray, List.getElem_cons_succ, List.getElem_cons_zero, List.setIfInBounds_toArray, List.set_cons_zero, List.set_cons_succ]
              refine wpAnyH_take (i := 9) (v := .bool true) rfl (by kernel_rfl) (by kernel_rfl) (by kernel_rfl) (fun _ _ _ h => h) (Or.inl ⟨by rfl, fun W hW => by clear hW; go_simp⟩) H0.out ?_
              try simp only [Act.put, List.getElem_toArray, List.getElem_cons_succ, List.getElem_cons_zero, List.setIfInBounds_toArray, List.set_cons_zero, List.set_cons_succ]
              refine wpAnyH_take (i := 10) (v := .agg y.arr) rfl (by kernel_rfl) (by kernel_rfl) (by kernel_rfl) (fun _ _ _ h => h) (yields_at 31 _ _ rfl (by rfl) rfl Try.underlying31 rfl (by rw [Msg.arr_size]; exact sz31) (fun W hW => hW.1)) H0.out ?_
              try simp only [Act.put, List.getElem_toArray, List.getElem_cons_succ, List.getElem_cons_zero, List.setIfInBounds_toArray, List.set_cons_zero, List.set_cons_succ]
              refine wpAnyH_take (i := 11) (v := .slice (some ⟨bw, ow, none⟩) nw cw) rfl (by kernel_rfl) (by kernel_rfl) (by kernel_rfl) (fun _ _ _ h => h) (Or.inl ⟨by rfl, fun W hW => by clear hW; go_simp⟩) H0.out ?_
              try simp only [Act.put, List.getElem_toArray, List.getElem_cons_succ, List.getElem_cons_zero, List.setIfInBounds_toArray, List.set_cons_zero, List.set_cons_succ]
              refine wpAnyH_take (i := 12) (v := .pointer (some ⟨bw, ow, none⟩)) rfl (by kernel_rfl) (by kernel_rfl) (by kernel_rfl) (fun _ _ _ h => h) (Or.inl ⟨by rfl, fun W hW => by clear hW; go_simp; intro h0; exact absurd h0 (Nat.ne_of_gt HNW.out)⟩) H0.out ?_
              try simp only [Act.put, List.getElem_toArray, List.getElem_cons_succ, List.getElem_cons_zero, List.setIfInBounds_toArray, List.set_cons_zero, List.set_cons_succ]
              refine wpAnyH_take (i := 13) (v := .agg y.arr) rfl (by kernel_rfl) (by kernel_rfl) (by kernel_rfl) (fun _ _ _ h => h) (yields_loadM _ rfl (by rfl) rfl (fun W hW => hW.2)) H0.out ?_
              try simp only [Act.put, List.getElem_toArray, List.getElem_cons_succ, List.getElem_cons_zero, List.setIfInBounds_toArray, List.set_cons_zero, List.set_cons_succ]
              refine wpAnyH_take (i := 14) (v := .bool false) rfl (by kernel_rfl) (by kernel_rfl) (by kernel_rfl) (fun _ _ _ h => h) (Or.inl ⟨by rfl, fun W hW => by clear hW; go_simp⟩) H0.out ?_
              try simp only [Act.put, List.getElem_toArray, List.getElem_cons_succ, List.getElem_cons_zero, List.setIfInBounds_toArray, List.set_cons_zero, List.set_cons_succ]
              refine wpAnyH_take (i := 15) (v := .bool false) rfl (by kernel_rfl) (by kernel_rfl) (by kernel_rfl) (fun _ _ _ h => h) (Or.inl ⟨by rfl, fun W hW => by clear hW; go_simp⟩) H0.out ?_
              try simp only [Act.put, List.getElem_toArray, List.getElem_cons_succ, List.getElem_cons_zero, List.setIfInBounds_toArray, List.set_cons_zero, List.set_cons_succ]
              refine wpAnyH_take (i := 16) (v := .bool false) rfl (by kernel_rfl) (by kernel_rfl) (by kernel_rfl) (fun _ _ _ h => h) (Or.inl ⟨by rfl, fun W hW => by clear hW; go_simp⟩) H0.out ?_
              try simp only [Act.put, List.getElem_toArray, List.getElem_cons_succ, List.getElem_cons_zero, List.setIfInBounds_toArray, List.set_cons_zero, List.set_cons_succ]
              refine wpAnyH_done (by kernel_rfl) ?_ _
              clear H0
              go_wp2
              have e12 : V0.drew = V0.drewN 1 := rfl
              replace h12 := h12.drewN 1
              rw [← e12] at h12
              clear e12
              have H0 := Lib.hid (show V0.drew.rangeAt bt (ot + k * 3) o.cs from rangeAt_keep r3.out (h12.bel.block _ hbt.out))
              refine wp_region_held_drew (S := fun W => W.rangeAt bt (ot + k * 3) o.cs) (by kernel_rfl) H0.out (fun _ => ?_)
              generalize V0.drew = V9 at *
              refine wpAnyH_take (i := 0) (v := .map (some b12)) rfl (by kernel_rfl) (by kernel_rfl) (by kernel_rfl) (fun _ _ _ h => h) (Or.inl ⟨by rfl, fun W hW => by clear hW; go_simp⟩) H0.out ?_
              try simp only [Act.put, List.getElem_toArray, List.getElem_cons_succ, List.getElem_cons_zero, List.setIfInBounds_toArray, List.set_cons_zero, List.set_cons_succ]
              refine wpAnyH_take (i := 1) (v := .slice (some ⟨bt, ot, none⟩) nT cT) rfl (by kernel_rfl) (by kernel_rfl) (by kernel_rfl) (fun _ _ _ h => h) (Or.inl ⟨by rfl, fun W hW => by clear hW; go_simp⟩) H0.out ?_
              try simp only [Act.put, List.getElem_toArray, List.getElem_cons_succ, List.getElem_cons_zero, List.setIfInBounds_toArray, List.set_cons_zero, List.set_cons_succ]
              refine wpAnyH_take (i := 2) (v := .int .i64 (k : Int)) rfl (by kernel_rfl) (by kernel_rfl) (by kernel_rfl) (fun _ _ _ h => h) (Or.inl ⟨by rfl, fun W hW => by clear hW; go_simp⟩) H0.out ?_
              try simp only [Act.put, List.getElem_toArray, List.getElem_cons_succ, List.getElem_cons_zero, List.setIfInBounds_toArray, List.set_cons_zero, List.set_cons_succ]
              refine wpAnyH_take (i := 3) (v := .pointer (some ⟨bt, ot + k * 3, none⟩)) rfl (by kernel_rfl) (by kernel_rfl) (by kernel_rfl) (fun _ _ _ h => h) (Or.inl ⟨by rfl, fun W hW => by clear hW; go_simp⟩) H0.out ?_
              try simp only [Act.put, List.getElem_toArray, List.getElem_cons_succ, List.getElem_cons_zero, List.setIfInBounds_toArray, List.set_cons_zero, List.set_cons_succ]
              refine wpAnyH_take (i := 4) (v := .agg #[.int .i64 o.a, .int .i64 o.b, .int .i64 o.d]) rfl (by kernel_rfl) (by kernel_rfl) (by kernel_rfl) (fun _ _ _ h => h) (yields_loadL _ rfl (by rfl) rfl (fun W hW => hW)) H0.out ?_
              try simp only [Act.put, List.getElem_toArray, List.getElem_cons_succ, List.getElem_cons_zero, List.setIfInBounds_toArray, List.set_cons_zero, List.set_cons_succ]
              refine wpAnyH_take (i := 5) (v := .slice (some ⟨bw, ow, none⟩) nw cw) rfl (by kernel_rfl) (by kernel_rfl) (by kernel_rfl) (fun _ _ _ h => h) (Or.inl ⟨by rfl, fun W hW => by clear hW; go_simp⟩) H0.out ?_
              try simp only [Act.put, List.getElem_toArray, List.getElem_cons_succ, List.getElem_cons_zero, List.setIfInBounds_toArray, List.set_cons_zero, List.set_cons_succ]
              refine wpAnyH_take (i := 6) (v := .slice (dropA (some ⟨bw, ow, none⟩) cw 1 38) (nw - 1) (cw - 1)) rfl (by kernel_rfl) (by kernel_rfl) (by kernel_rfl) (fun _ _ _ h => h) (Or.inl ⟨by rfl, fun W hW => exec_slice_from (α := Msg) (k := 1) (.tmp 118) (.const (.int .i64 1)) rfl rfl rfl HNW.out HCW.out W⟩) H0.out ?_
              try simp only [Act.put, List.getElem_toArray, List.getElem_cons_succ, List.getElem_cons_zero, List.setIfInBounds_toArray, List.set_cons_zero, List.set_cons_succ]
              refine wpAnyH_ready (rs := [7]) (by kernel_rfl) (by simp) ?_
              refine AllReadyH.cons rfl (fun K hK => ?_) AllReadyH.nil
              rw [if_pos (by rfl)]
              refine wp_update_ox h12 o hho.out hfo.out HNW.out (.tmp 113) (.tmp 117) (.tmp 119) rfl rfl rfl rfl ?_
              intro V3 h15
              clear h12
              have H1_ := Lib.hid (show V3.rangeAt bt (ot + k * 3) o.cs from rangeAt_keep r3.out (h15.bel.block _ hbt.out))
              refine hK.out _ _ H1_.out (fun _ => ?_)
              clear hK K
              try simp only [Act.put, List.getElem_toArray, List.getElem_cons_succ, List.getElem_cons_zero, List.setIfInBounds_toArray, List.set_cons_zero, List.set_cons_succ]
              refine wpAnyH_done (by kernel_rfl) ?_ _
              clear H0 H1_
              go_wp2
              rw [UPD.out] at h15
              go_roundw
              case rel => exact ⟨k + 1, _, _, _, _, by omega, (by have a2 := SU2.out; congr 1; omega), by go_num, by omega, h15.sub (List.nil_sublist _)⟩
              case measure => simp [intOf]; omega
          · replace hho := Lib.hid (Bool.eq_false_iff.2 hho)
            go_wp2_with (first
              | (have _ := h7; refine wpList_loadL (l := o) (b := bt) (off := ot + k * 3) (rangeAt_keep r3.out (h7.bel.block _ hbt.out)) (.tmp 83) rfl rfl rfl ?_)
              | (have _ := h7; go_at_call 24; refine (otake_no h7 hho.out).mono ?_; clear h7; rintro e X10 ⟨rfl, h10⟩)
              | (have _ := h10; refine wpList_alloc_ox h10 31 rfl rfl _ zmsg.arr zero31 rfl ?_; clear h10; intro X11 h11; generalize X10.heap.size = b17 at *)
              | (have _ := h11; refine wpList_store_ox (arr' := zmsg.arr) h11 0 rfl 31 (.tmp 17) (.tmp 86) rfl rfl rfl rfl (by rw [Msg.arr_size]; exact sz31) (by simp only [Msg.arr_size]) (Msg.arr_one _) ?_; clear h11; intro X12 h12)
              | (have _ := h12; refine wpList_loadL (l := o) (b := bt) (off := ot + k * 3) (rangeAt_keep r3.out (h12.bel.block _ hbt.out)) (.tmp 91) rfl rfl rfl ?_)
              | (have _ := h12; have hfo := Lib.hid (h12.nil_ hho.out); refine wpList_lookup_ox h12 o hto.out hfo.out (.tmp 88) (.tmp 92) rfl rfl rfl rfl ?_))
            have e12 : X12.drew = X12.drewN 1 := rfl
            replace h12 := h12.drewN 1
            rw [← e12] at h12
            clear e12
            have H0 := Lib.hid (trivial : True)
            refine wp_region_held_drew (S := fun W => True) (by kernel_rfl) H0.out (fun _ => ?_)
            generalize X12.drew = V0 at *
            refine wpAnyH_take (i := 0) (v := .int .i64 2) rfl (by kernel_rfl) (by kernel_rfl) (by kernel_rfl) (fun _ _ _ h => h) (Or.inl ⟨by rfl, fun W hW => by clear hW; go_simp⟩) H0.out ?_
            try simp only [Act.put, List.getElem_toArray, List.getElem_cons_succ, List.getElem_cons_zero, List.setIfInBounds_toArray, List.set_cons_zero, List.set_cons_succ]
            refine wpAnyH_take (i := 1) (v := .bool false) rfl (by kernel_rfl) (by kernel_rfl) (by kernel_rfl) (fun _ _ _ h => h) (Or.inl ⟨by rfl, fun W hW => by clear hW; go_simp⟩) H0.out ?_
            try simp only [Act.put, List.getElem_toArray, List.getElem_cons_succ, List.getElem_cons_zero, List.setIfInBounds_toArray, List.set_cons_zero, List.set_cons_succ]
            refine wpAnyH_take (i := 2) (v := .slice none 0 0) rfl (by kernel_rfl) (by kernel_rfl) (by kernel_rfl) (fun _ _ _ h => h) (Or.inl ⟨by rfl, fun W hW => by clear hW; go_simp⟩) H0.out ?_
            try simp only [Act.put, List.getElem_toArray, List.getElem_cons_succ, List.getElem_cons_zero, List.setIfInBounds_toArray, List.set_cons_zero, List.set_cons_succ]
            refine wpAnyH_take (i := 3) (v := .int .i64 0) rfl (by kernel_rfl) (by kernel_rfl) (by kernel_rfl) (fun _ _ _ h => h) (Or.inl ⟨by rfl, fun W hW => by clear hW; go_simp⟩) H0.out ?_
            try simp only [Act.put, List.getElem_toArray, List.getElem_cons_succ, List.getElem_cons_zero, List.setIfInBounds_toArray, List.set_cons_zero, List.set_cons_succ]
            refine wpAnyH_take (i := 4) (v := .bool false) rfl (by kernel_rfl) (by kernel_rfl) (by kernel_rfl) (fun _ _ _ h => h) (Or.inl ⟨by rfl, fun W hW => by clear hW; go_simp⟩) H0.out ?_
            try simp only [Act.put, List.getElem_toArray, List.getElem_cons_succ, List.getElem_cons_zero, List.setIfInBounds_toArray, List.set_cons_zero, List.set_cons_succ]
            refine wpAnyH_take (i := 5) (v := .bool false) rfl (by kernel_rfl) (by kernel_rfl) (by kernel_rfl) (fun _ _ _ h => h) (Or.inl ⟨by rfl, fun W hW => by clear hW; go_simp⟩) H0.out ?_
            try simp only [Act.put, List.getElem_toArray, List.getElem_cons_succ, List.getElem_cons_zero, List.setIfInBounds_toArray, List.set_cons_zero, List.set_cons_succ]
            refine wpAnyH_take (i := 6) (v := .bool false) rfl (by kernel_rfl) (by kernel_rfl) (by kernel_rfl) (fun _ _ _ h => h) (Or.inl ⟨by rfl, fun W hW => by clear hW; go_simp⟩) H0.out ?_
            try simp only [Act.put, List.getElem_toArray, List.getElem_cons_succ, List.getElem_cons_zero, List.setIfInBounds_toArray, List.set_cons_zero, List.set_cons_succ]
            refine wpAnyH_take (i := 7) (v := .int .i64 2) rfl (by kernel_rfl) (by kernel_rfl) (by kernel_rfl) (fun _ _ _ h => h) (Or.inl ⟨by rfl, fun W hW => by clear hW; go_simp⟩) H0.out ?_
            try simp only [Act.put, List.getElem_toArray, List.getElem_cons_succ, List.getElem_cons_zero, List.setIfInBounds_toArray, List.set_cons_zero, List.set_cons_succ]
            refine wpAnyH_take (i := 8) (v := .bool false) rfl (by kernel_rfl) (by kernel_rfl) (by kernel_rfl) (fun _ _ _ h => h) (Or.inl ⟨by rfl, fun W hW => by clear hW; go_simp⟩) H0.out ?_
            try simp only [Act.put, List.getElem_toArray, List.getElem_cons_succ, List.getElem_cons_zero, List.setIfInBounds_toArray, List.set_cons_zero, List.set_cons_succ]
            refine wpAnyH_take (i := 9) (v := .bool false) rfl (by kernel_rfl) (by kernel_rfl) (by kernel_rfl) (fun _ _ _ h => h) (Or.inl ⟨by rfl, fun W hW => by clear hW; go_simp⟩) H0.out ?_
            try simp only [Act.put, List.getElem_toArray, List.getElem_cons_succ, List.getElem_cons_zero, List.setIfInBounds_toArray, List.set_cons_zero, List.set_cons_succ]
            refine wpAnyH_take (i := 10) (v := undef) rfl (by kernel_rfl) (by kernel_rfl) (by kernel_rfl) (fun _ _ _ h => h) (Or.inr ⟨by rfl, rfl⟩) H0.out ?_
            try simp only [Act.put, List.getElem_toArray, List.getElem_cons_succ, List.getElem_cons_zero, List.setIfInBounds_toArray, List.set_cons_zero, List.set_cons_succ]
            refine wpAnyH_take (i := 11) (v := undef) rfl (by kernel_rfl) (by kernel_rfl) (by kernel_rfl) (fun _ _ _ h => h) (Or.inr ⟨by rfl, rfl⟩) H0.out ?_
            try simp only [Act.put, List.getElem_toArray, List.getElem_cons_succ, List.getElem_cons_zero, List.setIfInBounds_toArray, List.set_cons_zero, List.set_cons_succ]
            refine wpAnyH_take (i := 12) (v := undef) rfl (by kernel_rfl) (by kernel_rfl) (by kernel_rfl) (fun _ _ _ h => h) (Or.inr ⟨by rfl, rfl⟩) H0.out ?_
            try simp only [Act.put, List.getElem_toArray, List.getElem_cons_succ, List.getElem_cons_zero, List.setIfInBounds_toArray, List.set_cons_zero, List.set_cons_succ]
            refine wpAnyH_take (i := 13) (v := undef) rfl (by kernel_rfl) (by kernel_rfl) (by kernel_rfl) (fun _ _ _ h => h) (Or.inr ⟨by rfl, rfl⟩) H0.out ?_
            try simp only [Act.put, List.getElem_toArray, List.getElem_cons_succ, List.getElem_cons_zero, List.setIfInBounds_toArray, List.set_cons_zero, List.set_cons_succ]
            refine wpAnyH_take (i := 14) (v := undef) rfl (by kernel_rfl) (by kernel_rfl) (by kernel_rfl) (fun _ _ _ h => h) (Or.inr ⟨by rfl, rfl⟩) H0.out ?_
            try simp only [Act.put, List.getElem_toArray, List.getElem_cons_succ, List.getElem_cons_zero, List.setIfInBounds_toArray, List.set_cons_zero, List.set_cons_succ]
            refine wpAnyH_take (i := 15) (v := .bool false) rfl (by kernel_rfl) (by kernel_rfl) (by kernel_rfl) (fun _ _ _ h => h) (Or.inl ⟨by rfl, fun W hW => by clear hW; go_simp⟩) H0.out ?_
            try simp only [Act.put, List.getElem_toArray, List.getElem_cons_succ, List.getElem_cons_zero, List.setIfInBounds_toArray, List.set_cons_zero, List.set_cons_succ]
            refine wpAnyH_take (i := 16) (v := .bool false) rfl (by kernel_rfl) (by kernel_rfl) (by kernel_rfl) (fun _ _ _ h => h) (Or.inl ⟨by rfl, fun W hW => by clear hW; go_simp⟩) H0.out ?_
            try simp only [Act.put, List.getElem_toArray, List.getElem_cons_succ, List.getElem_cons_zero, List.setIfInBounds_toArray, List.set_cons_zero, List.set_cons_succ]
            refine wpAnyH_done (by kernel_rfl) ?_ _
            clear H0
            go_wp2
            go_roundw
            case rel => exact ⟨k + 1, _, _, _, _, by omega, rfl, by go_num, by omega, h12.sub (List.nil_sublist _)⟩
            case measure => simp [intOf]; omega
        · have g2 : ((k : Int) < (nT : Int)) = False := eq_false (by omega)
          go_wp2
          go_roundw
          case rel => exact ⟨k + 1, _, _, _, _, by omega, rfl, by go_num, by omega, h7.sub (List.nil_sublist _)⟩
          case measure => simp [intOf]; omega
    · have g1 : ((k : Int) < (n : Int)) = False := eq_false (by omega)
      go_wp2_with (have _ := h6; go_at_call 33; refine (olen_any h6).mono ?_; clear h6; rintro e X1 ⟨rfl, h7⟩)
      go_ret
      exact ⟨rfl, h7.bel⟩
end Go.Proofs.Ytacjdeppigdbjaa
