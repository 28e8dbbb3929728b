/- The law on calls to the caches. No statement is proved here. -/
import Derived.Test.YtnogmfpaipjdaaaLawC
import Derived.Deep.CutRange
import Derived.Deep.Cut
import Derived.Deep.CutBlock
import Derived.Test.YtnogmfpaipjdaaaOpen
namespace Go.Proofs.Ytnogmfpaipjdaaa
open Go.RowKit
open P (Pl right hasI vals)
set_option maxRecDepth 20000
set_option linter.unusedVariables false
set_option linter.unusedSimpArgs false
def CaRel (w : World) (p : Pl) (g b r pb n : Nat) (i : Value) (wr : World) : Prop :=
  ∃ (k : Nat) (l : List Cd), k ≤ n ∧ i = .int .i64 (k : Nat) ∧ Inv p l ∧ l.length ≤ k ∧ BW w wr g b r p l l [(pb, C 28 p.arr)]
theorem grt_kn {es : List Cl} (h : grt es = false) (e : Cl) (he : e ∈ es) : e.kn ≤ 8 := by
  unfold grt at h
  rw [Bool.or_eq_false_iff, List.any_eq_false] at h
  have := h.2 e he
  simp only [decide_eq_true_eq] at this
  omega
theorem cell_heap {V W : World} (h : V.heap = W.heap) {a : Addr} : V.cell? a = W.cell? a := by unfold World.cell?; rw [h]
theorem at_heap {V W : World} (h : V.heap = W.heap) {q : Nat} {t : TypeId} {arr : Array Value} (h1 : At W q t arr) : At V q t arr := by unfold At at h1 ⊢; rw [h]; exact h1
attribute [local irreducible] It.arr Cd.arr Cl.arr zclA lnA
set_option maxHeartbeats 16000000 in
theorem calls_walk (p : Pl) (A : Option Addr) (n c : Nat) (es : List Cl) (w : World) (he : ERow w w.heap.size A n c es) (hkp : ∀ x ∈ es, KeepIn w x) :
    Calls Try.prog 3 #[.agg p.arr, .slice A n c] w fun e W' => e = .returned (.bool true) ∧ Below w.heap.size w W' := by
  have SK := Lib.hid (fun V => speaks_any V)
  have RR := Lib.hid (fun V => P.refRight_any p V)
  have GR := Lib.hid (fun V (hb : Below w.heap.size w V) => great_any A n c es V ((he.below hb).wider hb.size))
  have hl := Lib.hid he.len
  have mx := he.max
  have HE := Lib.hid he
  have S0 := St.nil w
  clear he
  cases hq : right p with
  | false =>
    as_aux_lemma =>
    have NW := Lib.hid (fun V L (h : St w V L) => new_no h hq)
    rw [hq] at RR
    clear hq GR
    go_enter Try.func3, Try.ntmps3
    go_wp2_with (first
      | (refine wpList_box_st S0 28 _ rfl rfl p.arr rfl ?_; clear S0; intro W1 h1 _ _; replace h1 := h1.front; generalize hpb : w.heap.size = pb at h1 ⊢)
      | (have _ := h1; go_at_call 5; refine (SK.out _).mono ?_; rintro e W2 ⟨rfl, hb⟩; have h2 := h1.call hb; clear h1 hb SK; have q1 := load_plA (h2.get 0 rfl))
      | (have _ := q1; refine wpList_load_run q1 _ rfl rfl rfl ?_; clear q1)
      | (have _ := h2; go_at_call 6; refine (NW.out _ _ h2).mono ?_; clear h2; rintro e W3 ⟨rfl, h3⟩; have q2 := load_plA (h3.get 0 rfl))
      | (have _ := q2; refine wpList_load_run q2 _ rfl rfl rfl ?_; clear q2)
      | (have _ := h3; go_at_call 7; refine (RR.out _).mono ?_; rintro e W4 ⟨rfl, hb⟩; have h4 := h3.call hb; clear h3 hb RR))
    go_ret
    exact ⟨rfl, h4.bel⟩
  | true =>
  have NW := Lib.hid (fun V L (h : St w V L) => new_any h hq)
  rw [hq] at RR
  have I0 := Lib.hid (Inv.nil hq)
  have HQ := Lib.hid hq
  clear hq
  cases hG : grt es with
  | true =>
    as_aux_lemma =>
    rw [hG] at GR
    clear hG
    go_enter Try.func3, Try.ntmps3
    go_wp2_with (first
      | (refine wpList_box_st S0 28 _ rfl rfl p.arr rfl ?_; clear S0; intro W1 h1 _ _; replace h1 := h1.front; generalize hpb : w.heap.size = pb at h1 ⊢)
      | (have _ := h1; go_at_call 5; refine (SK.out _).mono ?_; rintro e W2 ⟨rfl, hb⟩; have h2 := h1.call hb; clear h1 hb SK; have q1 := load_plA (h2.get 0 rfl))
      | (have _ := q1; refine wpList_load_run q1 _ rfl rfl rfl ?_; clear q1)
      | (have _ := h2; go_at_call 6; refine (NW.out _ _ h2).mono ?_; clear h2; rintro e W3 ⟨g, b, rfl, h3⟩; have q2 := load_plA (h3.at2 0 rfl))
      | (have _ := q2; refine wpList_load_run q2 _ rfl rfl rfl ?_; clear q2)
      | (have _ := h3; go_at_call 7; refine (RR.out _).mono ?_; rintro e W4 ⟨rfl, hb⟩; have h4 := WC.call h3 hb; clear h3 hb RR)
      | (have _ := h4; go_at_call 8; refine (GR.out _ h4.bel).mono ?_; rintro e W5 ⟨rfl, hb⟩; have h5 := WC.call h4 hb; clear h4 hb))
    go_ret
    exact ⟨rfl, h5.bel⟩
  | false =>
  rw [hG] at GR
  have n80 : n ≤ 80 := by
    have hG' := hG
    unfold grt at hG'
    rw [Bool.or_eq_false_iff, decide_eq_false_iff_not] at hG'
    have := hl.out
    omega
  have KN := Lib.hid (fun e h => grt_kn hG e h)
  have KP := Lib.hid hkp
  clear hG hkp
  go_enter Try.func3, Try.ntmps3
  go_wp2_with (first
    | (refine wpList_box_st S0 28 _ rfl rfl p.arr rfl ?_; clear S0; intro W1 h1 _ _; replace h1 := h1.front; generalize hpb : w.heap.size = pb at h1 ⊢)
    | (have _ := h1; go_at_call 5; refine (SK.out _).mono ?_; rintro e W2 ⟨rfl, hb⟩; have h2 := h1.call hb; clear h1 hb SK; have q1 := load_plA (h2.get 0 rfl))
    | (have _ := q1; refine wpList_load_run q1 _ rfl rfl rfl ?_; clear q1)
    | (have _ := h2; go_at_call 6; refine (NW.out _ _ h2).mono ?_; clear h2; rintro e W3 ⟨g, b, rfl, h3⟩; have q2 := load_plA (h3.at2 0 rfl))
    | (have _ := q2; refine wpList_load_run q2 _ rfl rfl rfl ?_; clear q2)
    | (have _ := h3; go_at_call 7; refine (RR.out _).mono ?_; rintro e W4 ⟨rfl, hb⟩; have h4 := WC.call h3 hb; clear h3 hb RR)
    | (have _ := h4; go_at_call 8; refine (GR.out _ h4.bel).mono ?_; rintro e W5 ⟨rfl, hb⟩; have h5 := WC.call h4 hb; clear h4 hb; have q3 := load_plA (h5.at2 0 rfl))
    | (have _ := q3; refine wpList_load_run q3 _ rfl rfl rfl ?_; clear q3; refine wpList_build_aq 40 _ rfl rfl (pcar p (.slice none 0 0)) (by exact built40K p) ?_)
    | (have _ := h5; refine wpList_box_bw h5 _ rfl rfl rfl ?_; clear h5; intro W6 r h6))
  clear GR NW hpb
  go_loopw [48] (CaRel w p g b r pb n) (fun i _ => n - (intOf i).toNat)
  case atStart => exact ⟨0, [], by omega, rfl, I0.out, by simp, h6⟩
  case round =>
    obtain ⟨j, l, hj, rfl, Il, ll, h1⟩ := hrel
    clear h6
    by_cases hlt : j < n
    · have g1 : ((j : Int) < (n : Int)) = True := eq_true (by omega)
      have b1 : j < es.length := by have := hl.out; omega
      have hx : es[j]? = some es[j] := List.getElem?_eq_getElem b1
      generalize es[j] = e at *
      clear b1
      have hmem := List.mem_of_getElem? hx
      have kn8 := KN.out e hmem
      obtain ⟨ks, hks⟩ := KP.out e hmem
      obtain ⟨bb, o, rfl, hb2, rg⟩ := HE.out.at_ j e hx
      have r' := load_clM (rangeAt_keep rg (h1.bel.block _ hb2))
      replace r' : (loadVar 47 ⟨bb, o + j * 37, none⟩).run Try.prog wr = .ok (.agg e.arr) wr := r'
      clear rg hb2 hx hmem
      go_upto_block 2 with (first
        | (refine wpList_load_run r' _ rfl rfl rfl ?_; clear r')
        | (have _ := h1; refine wpList_alloc_clB h1 rfl rfl ?_; clear h1; intro X1 h2; generalize wr.heap.size = cb at *)
        | (have _ := h2; refine wpList_store_clB h2 0 e rfl _ _ rfl rfl rfl rfl ?_; clear h2; intro X2 h3; have d0 : X2.cell? ⟨cb, 0, none⟩ = some (.int .i64 e.o) := (ClB.of (h3.at2 0 rfl)).c0))
      have CB := Lib.hid (fun V l0 l1 (h : BW w V g b r p l0 l1 [(cb, C 47 e.arr), (pb, C 28 p.arr)]) => show V.cell? ⟨cb, 1, none⟩ = some (.int .i64 e.bk) ∧ (loadVar 42 ⟨cb, 2, none⟩).run Try.prog V = .ok (.agg e.it.arr) V ∧ (loadVar 44 ⟨cb, 4, none⟩).run Try.prog V = .ok (.agg (lnA e.bs)) V from by
        have C := ClB.of (h.at2 0 rfl)
        exact ⟨C.c1, load_it C.it, load_ln e.hl C.ln⟩)
      replace h3 : BW w X2 g b r p l l [(cb, C 47 e.arr), (pb, C 28 p.arr)] := h3
      go_cut [10, 11, 12, 13, 14, 15] from 49 to 199 (fun s10 s11 s12 s13 s14 s15 wx => ∃ K l2, s10 = .int .i64 K ∧ s11 = .int .i64 K ∧ Inv p l2 ∧ l2.length ≤ j + 1 ∧ BW w wx g b r p l2 l2 [(cb, C 47 e.arr), (pb, C 28 p.arr)])
      case first =>
        have l1000 : l.length ≤ 1000 := by omega
        by_cases ho0 : e.o = 0
        · as_aux_lemma =>
          have l22 : (putL p l e.bk e.it ⟨e.it, e.bk, e.bs, false, e.hl⟩).length ≤ j + 1 := Nat.le_trans (putL_len _) (by omega)
          have z0 : (e.o = 0) = True := eq_true ho0
          have y0 : (e.o == 0) = true := by simpa using ho0
          have P1 := Lib.hid (fun V l0 (h : BW w V g b r p l l0 [(cb, C 47 e.arr), (pb, C 28 p.arr)]) => b9 h Il e.bk e.it e.bs e.hl l1000)
          have P2 := Lib.hid (fun V l0 (h : BW w V g b r p l0 l [(cb, C 47 e.arr), (pb, C 28 p.arr)]) => b10 h Il e.bk e.it e.bs e.hl l1000)
          have I2 := Lib.hid (Il.put (c := ⟨e.it, e.bk, e.bs, false, e.hl⟩) (x := e.it) (b := e.bk) rfl rfl)
          have ln2 := Lib.hid (l22)
          generalize putK p l e.bk e.it = K1 at *
          generalize putL p l e.bk e.it ⟨e.it, e.bk, e.bs, false, e.hl⟩ = l2 at *
          replace Il := Lib.hid Il
          go_wp2
          have HS0 := Lib.hid h3.drew
          have H0 := Lib.hid (CB.out _ _ _ HS0.out)
          clear h3
          refine wp_region_held_drew (S := fun W => W.cell? ⟨cb, 1, none⟩ = some (.int .i64 e.bk) ∧ (loadVar 42 ⟨cb, 2, none⟩).run Try.prog W = .ok (.agg e.it.arr) W ∧ (loadVar 44 ⟨cb, 4, none⟩).run Try.prog W = .ok (.agg (lnA e.bs)) W) (by kernel_rfl) H0.out (fun _ => ?_)
          generalize World.drew _ = V0 at *
          refine wpAnyH_take (i := 0) (v := .pointer (some ⟨g, 0, none⟩)) rfl (by kernel_rfl) (by kernel_rfl) (by kernel_rfl) (fun _ _ _ h => h) (Or.inl ⟨by rfl, fun W hW => by clear hW; go_simp⟩) H0.out ?_
          try simp only [Act.put, List.getElem_toArray, List.getElem_cons_succ, List.getElem_cons_zero, List.setIfInBounds_toArray, List.set_cons_zero, List.set_cons_succ]
          refine wpAnyH_take (i := 1) (v := .pointer (some ⟨cb, 1, none⟩)) rfl (by kernel_rfl) (by kernel_rfl) (by kernel_rfl) (fun _ _ _ h => h) (Or.inl ⟨by rfl, fun W hW => by clear hW; go_simp⟩) H0.out ?_
          try simp only [Act.put, List.getElem_toArray, List.getElem_cons_succ, List.getElem_cons_zero, List.setIfInBounds_toArray, List.set_cons_zero, List.set_cons_succ]
          refine wpAnyH_take (i := 2) (v := .int .i64 e.bk) rfl (by kernel_rfl) (by kernel_rfl) (by kernel_rfl) (fun _ _ _ h => h) (Or.inl ⟨by rfl, fun W hW => by have hc := (show W.cell? ⟨cb, 1, none⟩ = some (.int .i64 e.bk) from hW.1); clear hW; go_simp⟩) H0.out ?_
          try simp only [Act.put, List.getElem_toArray, List.getElem_cons_succ, List.getElem_cons_zero, List.setIfInBounds_toArray, List.set_cons_zero, List.set_cons_succ]
          refine wpAnyH_take (i := 3) (v := .pointer (some ⟨cb, 2, none⟩)) rfl (by kernel_rfl) (by kernel_rfl) (by kernel_rfl) (fun _ _ _ h => h) (Or.inl ⟨by rfl, fun W hW => by clear hW; go_simp⟩) H0.out ?_
          try simp only [Act.put, List.getElem_toArray, List.getElem_cons_succ, List.getElem_cons_zero, List.setIfInBounds_toArray, List.set_cons_zero, List.set_cons_succ]
          refine wpAnyH_take (i := 4) (v := .agg e.it.arr) rfl (by kernel_rfl) (by kernel_rfl) (by kernel_rfl) (fun _ _ _ h => h) (yields_run _ rfl (by rfl) rfl (fun W hW => hW.2.1)) H0.out ?_
          try simp only [Act.put, List.getElem_toArray, List.getElem_cons_succ, List.getElem_cons_zero, List.setIfInBounds_toArray, List.set_cons_zero, List.set_cons_succ]
          refine wpAnyH_take (i := 5) (v := .pointer (some ⟨cb, 4, none⟩)) rfl (by kernel_rfl) (by kernel_rfl) (by kernel_rfl) (fun _ _ _ h => h) (Or.inl ⟨by rfl, fun W hW => by clear hW; go_simp⟩) H0.out ?_
          try simp only [Act.put, List.getElem_toArray, List.getElem_cons_succ, List.getElem_cons_zero, List.setIfInBounds_toArray, List.set_cons_zero, List.set_cons_succ]
          refine wpAnyH_take (i := 6) (v := .agg (lnA e.bs)) rfl (by kernel_rfl) (by kernel_rfl) (by kernel_rfl) (fun _ _ _ h => h) (yields_run _ rfl (by rfl) rfl (fun W hW => hW.2.2)) H0.out ?_
          try simp only [Act.put, List.getElem_toArray, List.getElem_cons_succ, List.getElem_cons_zero, List.setIfInBounds_toArray, List.set_cons_zero, List.set_cons_succ]
          refine wpAnyH_take (i := 8) (v := .pointer (some ⟨r, 0, none⟩)) rfl (by kernel_rfl) (by kernel_rfl) (by kernel_rfl) (fun _ _ _ h => h) (Or.inl ⟨by rfl, fun W hW => by clear hW; go_simp⟩) H0.out ?_
          try simp only [Act.put, List.getElem_toArray, List.getElem_cons_succ, List.getElem_cons_zero, List.setIfInBounds_toArray, List.set_cons_zero, List.set_cons_succ]
          refine wpAnyH_take (i := 9) (v := .pointer (some ⟨cb, 1, none⟩)) rfl (by kernel_rfl) (by kernel_rfl) (by kernel_rfl) (fun _ _ _ h => h) (Or.inl ⟨by rfl, fun W hW => by clear hW; go_simp⟩) H0.out ?_
          try simp only [Act.put, List.getElem_toArray, List.getElem_cons_succ, List.getElem_cons_zero, List.setIfInBounds_toArray, List.set_cons_zero, List.set_cons_succ]
          refine wpAnyH_take (i := 10) (v := .int .i64 e.bk) rfl (by kernel_rfl) (by kernel_rfl) (by kernel_rfl) (fun _ _ _ h => h) (Or.inl ⟨by rfl, fun W hW => by have hc := (show W.cell? ⟨cb, 1, none⟩ = some (.int .i64 e.bk) from hW.1); clear hW; go_simp⟩) H0.out ?_
          try simp only [Act.put, List.getElem_toArray, List.getElem_cons_succ, List.getElem_cons_zero, List.setIfInBounds_toArray, List.set_cons_zero, List.set_cons_succ]
          refine wpAnyH_take (i := 11) (v := .pointer (some ⟨cb, 2, none⟩)) rfl (by kernel_rfl) (by kernel_rfl) (by kernel_rfl) (fun _ _ _ h => h) (Or.inl ⟨by rfl, fun W hW => by clear hW; go_simp⟩) H0.out ?_
          try simp only [Act.put, List.getElem_toArray, List.getElem_cons_succ, List.getElem_cons_zero, List.setIfInBounds_toArray, List.set_cons_zero, List.set_cons_succ]
          refine wpAnyH_take (i := 12) (v := .agg e.it.arr) rfl (by kernel_rfl) (by kernel_rfl) (by kernel_rfl) (fun _ _ _ h => h) (yields_run _ rfl (by rfl) rfl (fun W hW => hW.2.1)) H0.out ?_
          try simp only [Act.put, List.getElem_toArray, List.getElem_cons_succ, List.getElem_cons_zero, List.setIfInBounds_toArray, List.set_cons_zero, List.set_cons_succ]
          refine wpAnyH_take (i := 13) (v := .pointer (some ⟨cb, 4, none⟩)) rfl (by kernel_rfl) (by kernel_rfl) (by kernel_rfl) (fun _ _ _ h => h) (Or.inl ⟨by rfl, fun W hW => by clear hW; go_simp⟩) H0.out ?_
          try simp only [Act.put, List.getElem_toArray, List.getElem_cons_succ, List.getElem_cons_zero, List.setIfInBounds_toArray, List.set_cons_zero, List.set_cons_succ]
          refine wpAnyH_take (i := 14) (v := .agg (lnA e.bs)) rfl (by kernel_rfl) (by kernel_rfl) (by kernel_rfl) (fun _ _ _ h => h) (yields_run _ rfl (by rfl) rfl (fun W hW => hW.2.2)) H0.out ?_
          try simp only [Act.put, List.getElem_toArray, List.getElem_cons_succ, List.getElem_cons_zero, List.setIfInBounds_toArray, List.set_cons_zero, List.set_cons_succ]
          refine wpAnyH_ready (rs := [7]) (by kernel_rfl) (by simp) ?_
          refine AllReadyH.cons rfl (fun K hK => ?_) AllReadyH.nil
          go_simp
          go_at_call 9
          refine (P1.out _ _ HS0.out).mono ?_
          rintro e1 V1 ⟨rfl, hs1⟩
          have HS1 := Lib.hid hs1
          clear hs1
          have H1_ := Lib.hid (CB.out _ _ _ HS1.out)
          refine hK.out _ _ H1_.out (fun _ => ?_)
          clear hK K
          try simp only [Act.put, List.getElem_toArray, List.getElem_cons_succ, List.getElem_cons_zero, List.setIfInBounds_toArray, List.set_cons_zero, List.set_cons_succ]
          refine wpAnyH_ready (rs := [15]) (by kernel_rfl) (by simp) ?_
          refine AllReadyH.cons rfl (fun K hK => ?_) AllReadyH.nil
          go_simp
          go_at_call 10
          refine (P2.out _ _ HS1.out).mono ?_
          rintro e2 V2 ⟨rfl, hs2⟩
          have HS2 := Lib.hid hs2
          clear hs2
          have H2_ := Lib.hid (CB.out _ _ _ HS2.out)
          refine hK.out _ _ H2_.out (fun _ => ?_)
          clear hK K
          try simp only [Act.put, List.getElem_toArray, List.getElem_cons_succ, List.getElem_cons_zero, List.setIfInBounds_toArray, List.set_cons_zero, List.set_cons_succ]
          refine wpAnyH_take (i := 16) (v := .int .i64 K1) rfl (by kernel_rfl) (by kernel_rfl) (by kernel_rfl) (fun _ _ _ h => h) (Or.inl ⟨by rfl, fun W hW => by clear hW; go_simp⟩) H2_.out ?_
          try simp only [Act.put, List.getElem_toArray, List.getElem_cons_succ, List.getElem_cons_zero, List.setIfInBounds_toArray, List.set_cons_zero, List.set_cons_succ]
          refine wpAnyH_take (i := 17) (v := .int .i64 K1) rfl (by kernel_rfl) (by kernel_rfl) (by kernel_rfl) (fun _ _ _ h => h) (Or.inl ⟨by rfl, fun W hW => by clear hW; go_simp⟩) H2_.out ?_
          try simp only [Act.put, List.getElem_toArray, List.getElem_cons_succ, List.getElem_cons_zero, List.setIfInBounds_toArray, List.set_cons_zero, List.set_cons_succ]
          refine wpAnyH_done (by kernel_rfl) ?_ _
          go_wp2
          go_meet
          exact ⟨K1, l2, rfl, rfl, I2.out, ln2.out, HS2.out⟩
        by_cases ho1 : e.o = 1
        · as_aux_lemma =>
          have l22 : (updL l e.it e.bs e.hl).length ≤ j + 1 := Nat.le_trans (updL_len (x := e.it) Il e.bs e.hl) (by omega)
          have z0 : (e.o = 0) = False := eq_false ho0
          have y0 : (e.o == 0) = false := by simpa using ho0
          have z1 : (e.o = 1) = True := eq_true ho1
          have y1 : (e.o == 1) = true := by simpa using ho1
          have P1 := Lib.hid (fun V l0 (h : BW w V g b r p l l0 [(cb, C 47 e.arr), (pb, C 28 p.arr)]) => b11 h Il e.it e.bs e.hl l1000)
          have P2 := Lib.hid (fun V l0 (h : BW w V g b r p l0 l [(cb, C 47 e.arr), (pb, C 28 p.arr)]) => b12 h Il e.it e.bs e.hl l1000)
          have I2 := Lib.hid (Il.upd (x := e.it) e.bs e.hl)
          have ln2 := Lib.hid (l22)
          generalize drpK l e.it = K1 at *
          generalize updL l e.it e.bs e.hl = l2 at *
          replace Il := Lib.hid Il
          go_wp2
          have HS0 := Lib.hid h3.drew
          have H0 := Lib.hid (CB.out _ _ _ HS0.out)
          clear h3
          refine wp_region_held_drew (S := fun W => W.cell? ⟨cb, 1, none⟩ = some (.int .i64 e.bk) ∧ (loadVar 42 ⟨cb, 2, none⟩).run Try.prog W = .ok (.agg e.it.arr) W ∧ (loadVar 44 ⟨cb, 4, none⟩).run Try.prog W = .ok (.agg (lnA e.bs)) W) (by kernel_rfl) H0.out (fun _ => ?_)
          generalize World.drew _ = V0 at *
          refine wpAnyH_take (i := 0) (v := .pointer (some ⟨g, 0, none⟩)) rfl (by kernel_rfl) (by kernel_rfl) (by kernel_rfl) (fun _ _ _ h => h) (Or.inl ⟨by rfl, fun W hW => by clear hW; go_simp⟩) H0.out ?_
          try simp only [Act.put, List.getElem_toArray, List.getElem_cons_succ, List.getElem_cons_zero, List.setIfInBounds_toArray, List.set_cons_zero, List.set_cons_succ]
          refine wpAnyH_take (i := 1) (v := .pointer (some ⟨cb, 2, none⟩)) rfl (by kernel_rfl) (by kernel_rfl) (by kernel_rfl) (fun _ _ _ h => h) (Or.inl ⟨by rfl, fun W hW => by clear hW; go_simp⟩) H0.out ?_
          try simp only [Act.put, List.getElem_toArray, List.getElem_cons_succ, List.getElem_cons_zero, List.setIfInBounds_toArray, List.set_cons_zero, List.set_cons_succ]
          refine wpAnyH_take (i := 2) (v := .agg e.it.arr) rfl (by kernel_rfl) (by kernel_rfl) (by kernel_rfl) (fun _ _ _ h => h) (yields_run _ rfl (by rfl) rfl (fun W hW => hW.2.1)) H0.out ?_
          try simp only [Act.put, List.getElem_toArray, List.getElem_cons_succ, List.getElem_cons_zero, List.setIfInBounds_toArray, List.set_cons_zero, List.set_cons_succ]
          refine wpAnyH_take (i := 3) (v := .pointer (some ⟨cb, 4, none⟩)) rfl (by kernel_rfl) (by kernel_rfl) (by kernel_rfl) (fun _ _ _ h => h) (Or.inl ⟨by rfl, fun W hW => by clear hW; go_simp⟩) H0.out ?_
          try simp only [Act.put, List.getElem_toArray, List.getElem_cons_succ, List.getElem_cons_zero, List.setIfInBounds_toArray, List.set_cons_zero, List.set_cons_succ]
          refine wpAnyH_take (i := 4) (v := .agg (lnA e.bs)) rfl (by kernel_rfl) (by kernel_rfl) (by kernel_rfl) (fun _ _ _ h => h) (yields_run _ rfl (by rfl) rfl (fun W hW => hW.2.2)) H0.out ?_
          try simp only [Act.put, List.getElem_toArray, List.getElem_cons_succ, List.getElem_cons_zero, List.setIfInBounds_toArray, List.set_cons_zero, List.set_cons_succ]
          refine wpAnyH_take (i := 6) (v := .pointer (some ⟨r, 0, none⟩)) rfl (by kernel_rfl) (by kernel_rfl) (by kernel_rfl) (fun _ _ _ h => h) (Or.inl ⟨by rfl, fun W hW => by clear hW; go_simp⟩) H0.out ?_
          try simp only [Act.put, List.getElem_toArray, List.getElem_cons_succ, List.getElem_cons_zero, List.setIfInBounds_toArray, List.set_cons_zero, List.set_cons_succ]
          refine wpAnyH_take (i := 7) (v := .pointer (some ⟨cb, 2, none⟩)) rfl (by kernel_rfl) (by kernel_rfl) (by kernel_rfl) (fun _ _ _ h => h) (Or.inl ⟨by rfl, fun W hW => by clear hW; go_simp⟩) H0.out ?_
          try simp only [Act.put, List.getElem_toArray, List.getElem_cons_succ, List.getElem_cons_zero, List.setIfInBounds_toArray, List.set_cons_zero, List.set_cons_succ]
          refine wpAnyH_take (i := 8) (v := .agg e.it.arr) rfl (by kernel_rfl) (by kernel_rfl) (by kernel_rfl) (fun _ _ _ h => h) (yields_run _ rfl (by rfl) rfl (fun W hW => hW.2.1)) H0.out ?_
          try simp only [Act.put, List.getElem_toArray, List.getElem_cons_succ, List.getElem_cons_zero, List.setIfInBounds_toArray, List.set_cons_zero, List.set_cons_succ]
          refine wpAnyH_take (i := 9) (v := .pointer (some ⟨cb, 4, none⟩)) rfl (by kernel_rfl) (by kernel_rfl) (by kernel_rfl) (fun _ _ _ h => h) (Or.inl ⟨by rfl, fun W hW => by clear hW; go_simp⟩) H0.out ?_
          try simp only [Act.put, List.getElem_toArray, List.getElem_cons_succ, List.getElem_cons_zero, List.setIfInBounds_toArray, List.set_cons_zero, List.set_cons_succ]
          refine wpAnyH_take (i := 10) (v := .agg (lnA e.bs)) rfl (by kernel_rfl) (by kernel_rfl) (by kernel_rfl) (fun _ _ _ h => h) (yields_run _ rfl (by rfl) rfl (fun W hW => hW.2.2)) H0.out ?_
          try simp only [Act.put, List.getElem_toArray, List.getElem_cons_succ, List.getElem_cons_zero, List.setIfInBounds_toArray, List.set_cons_zero, List.set_cons_succ]
          refine wpAnyH_ready (rs := [5]) (by kernel_rfl) (by simp) ?_
          refine AllReadyH.cons rfl (fun K hK => ?_) AllReadyH.nil
          go_simp
          go_at_call 11
          refine (P1.out _ _ HS0.out).mono ?_
          rintro e1 V1 ⟨rfl, hs1⟩
          have HS1 := Lib.hid hs1
          clear hs1
          have H1_ := Lib.hid (CB.out _ _ _ HS1.out)
          refine hK.out _ _ H1_.out (fun _ => ?_)
          clear hK K
          try simp only [Act.put, List.getElem_toArray, List.getElem_cons_succ, List.getElem_cons_zero, List.setIfInBounds_toArray, List.set_cons_zero, List.set_cons_succ]
          refine wpAnyH_ready (rs := [11]) (by kernel_rfl) (by simp) ?_
          refine AllReadyH.cons rfl (fun K hK => ?_) AllReadyH.nil
          go_simp
          go_at_call 12
          refine (P2.out _ _ HS1.out).mono ?_
          rintro e2 V2 ⟨rfl, hs2⟩
          have HS2 := Lib.hid hs2
          clear hs2
          have H2_ := Lib.hid (CB.out _ _ _ HS2.out)
          refine hK.out _ _ H2_.out (fun _ => ?_)
          clear hK K
          try simp only [Act.put, List.getElem_toArray, List.getElem_cons_succ, List.getElem_cons_zero, List.setIfInBounds_toArray, List.set_cons_zero, List.set_cons_succ]
          refine wpAnyH_take (i := 12) (v := .int .i64 K1) rfl (by kernel_rfl) (by kernel_rfl) (by kernel_rfl) (fun _ _ _ h => h) (Or.inl ⟨by rfl, fun W hW => by clear hW; go_simp⟩) H2_.out ?_
          try simp only [Act.put, List.getElem_toArray, List.getElem_cons_succ, List.getElem_cons_zero, List.setIfInBounds_toArray, List.set_cons_zero, List.set_cons_succ]
          refine wpAnyH_take (i := 13) (v := .int .i64 K1) rfl (by kernel_rfl) (by kernel_rfl) (by kernel_rfl) (fun _ _ _ h => h) (Or.inl ⟨by rfl, fun W hW => by clear hW; go_simp⟩) H2_.out ?_
          try simp only [Act.put, List.getElem_toArray, List.getElem_cons_succ, List.getElem_cons_zero, List.setIfInBounds_toArray, List.set_cons_zero, List.set_cons_succ]
          refine wpAnyH_done (by kernel_rfl) ?_ _
          go_wp2
          go_meet
          exact ⟨K1, l2, rfl, rfl, I2.out, ln2.out, HS2.out⟩
        by_cases ho2 : e.o = 2
        · as_aux_lemma =>
          have l22 : (movL p l e.it e.bk).length ≤ j + 1 := Nat.le_trans (movL_len Il e.bk) (by omega)
          have z0 : (e.o = 0) = False := eq_false ho0
          have y0 : (e.o == 0) = false := by simpa using ho0
          have z1 : (e.o = 1) = False := eq_false ho1
          have y1 : (e.o == 1) = false := by simpa using ho1
          have z2 : (e.o = 2) = True := eq_true ho2
          have y2 : (e.o == 2) = true := by simpa using ho2
          have P1 := Lib.hid (fun V l0 (h : BW w V g b r p l l0 [(cb, C 47 e.arr), (pb, C 28 p.arr)]) => b13 h Il e.it e.bk l1000)
          have P2 := Lib.hid (fun V l0 (h : BW w V g b r p l0 l [(cb, C 47 e.arr), (pb, C 28 p.arr)]) => b14 h Il e.it e.bk l1000)
          have I2 := Lib.hid (Il.mov (x := e.it) e.bk)
          have ln2 := Lib.hid (l22)
          generalize movK p l e.it e.bk = K1 at *
          generalize movL p l e.it e.bk = l2 at *
          replace Il := Lib.hid Il
          go_wp2
          have HS0 := Lib.hid h3.drew
          have H0 := Lib.hid (CB.out _ _ _ HS0.out)
          clear h3
          refine wp_region_held_drew (S := fun W => W.cell? ⟨cb, 1, none⟩ = some (.int .i64 e.bk) ∧ (loadVar 42 ⟨cb, 2, none⟩).run Try.prog W = .ok (.agg e.it.arr) W ∧ (loadVar 44 ⟨cb, 4, none⟩).run Try.prog W = .ok (.agg (lnA e.bs)) W) (by kernel_rfl) H0.out (fun _ => ?_)
          generalize World.drew _ = V0 at *
          refine wpAnyH_take (i := 0) (v := .pointer (some ⟨g, 0, none⟩)) rfl (by kernel_rfl) (by kernel_rfl) (by kernel_rfl) (fun _ _ _ h => h) (Or.inl ⟨by rfl, fun W hW => by clear hW; go_simp⟩) H0.out ?_
          try simp only [Act.put, List.getElem_toArray, List.getElem_cons_succ, List.getElem_cons_zero, List.setIfInBounds_toArray, List.set_cons_zero, List.set_cons_succ]
          refine wpAnyH_take (i := 1) (v := .pointer (some ⟨cb, 2, none⟩)) rfl (by kernel_rfl) (by kernel_rfl) (by kernel_rfl) (fun _ _ _ h => h) (Or.inl ⟨by rfl, fun W hW => by clear hW; go_simp⟩) H0.out ?_
          try simp only [Act.put, List.getElem_toArray, List.getElem_cons_succ, List.getElem_cons_zero, List.setIfInBounds_toArray, List.set_cons_zero, List.set_cons_succ]
          refine wpAnyH_take (i := 2) (v := .agg e.it.arr) rfl (by kernel_rfl) (by kernel_rfl) (by kernel_rfl) (fun _ _ _ h => h) (yields_run _ rfl (by rfl) rfl (fun W hW => hW.2.1)) H0.out ?_
          try simp only [Act.put, List.getElem_toArray, List.getElem_cons_succ, List.getElem_cons_zero, List.setIfInBounds_toArray, List.set_cons_zero, List.set_cons_succ]
          refine wpAnyH_take (i := 3) (v := .pointer (some ⟨cb, 1, none⟩)) rfl (by kernel_rfl) (by kernel_rfl) (by kernel_rfl) (fun _ _ _ h => h) (Or.inl ⟨by rfl, fun W hW => by clear hW; go_simp⟩) H0.out ?_
          try simp only [Act.put, List.getElem_toArray, List.getElem_cons_succ, List.getElem_cons_zero, List.setIfInBounds_toArray, List.set_cons_zero, List.set_cons_succ]
          refine wpAnyH_take (i := 4) (v := .int .i64 e.bk) rfl (by kernel_rfl) (by kernel_rfl) (by kernel_rfl) (fun _ _ _ h => h) (Or.inl ⟨by rfl, fun W hW => by have hc := (show W.cell? ⟨cb, 1, none⟩ = some (.int .i64 e.bk) from hW.1); clear hW; go_simp⟩) H0.out ?_
          try simp only [Act.put, List.getElem_toArray, List.getElem_cons_succ, List.getElem_cons_zero, List.setIfInBounds_toArray, List.set_cons_zero, List.set_cons_succ]
          refine wpAnyH_take (i := 6) (v := .pointer (some ⟨r, 0, none⟩)) rfl (by kernel_rfl) (by kernel_rfl) (by kernel_rfl) (fun _ _ _ h => h) (Or.inl ⟨by rfl, fun W hW => by clear hW; go_simp⟩) H0.out ?_
          try simp only [Act.put, List.getElem_toArray, List.getElem_cons_succ, List.getElem_cons_zero, List.setIfInBounds_toArray, List.set_cons_zero, List.set_cons_succ]
          refine wpAnyH_take (i := 7) (v := .pointer (some ⟨cb, 2, none⟩)) rfl (by kernel_rfl) (by kernel_rfl) (by kernel_rfl) (fun _ _ _ h => h) (Or.inl ⟨by rfl, fun W hW => by clear hW; go_simp⟩) H0.out ?_
          try simp only [Act.put, List.getElem_toArray, List.getElem_cons_succ, List.getElem_cons_zero, List.setIfInBounds_toArray, List.set_cons_zero, List.set_cons_succ]
          refine wpAnyH_take (i := 8) (v := .agg e.it.arr) rfl (by kernel_rfl) (by kernel_rfl) (by kernel_rfl) (fun _ _ _ h => h) (yields_run _ rfl (by rfl) rfl (fun W hW => hW.2.1)) H0.out ?_
          try simp only [Act.put, List.getElem_toArray, List.getElem_cons_succ, List.getElem_cons_zero, List.setIfInBounds_toArray, List.set_cons_zero, List.set_cons_succ]
          refine wpAnyH_take (i := 9) (v := .pointer (some ⟨cb, 1, none⟩)) rfl (by kernel_rfl) (by kernel_rfl) (by kernel_rfl) (fun _ _ _ h => h) (Or.inl ⟨by rfl, fun W hW => by clear hW; go_simp⟩) H0.out ?_
          try simp only [Act.put, List.getElem_toArray, List.getElem_cons_succ, List.getElem_cons_zero, List.setIfInBounds_toArray, List.set_cons_zero, List.set_cons_succ]
          refine wpAnyH_take (i := 10) (v := .int .i64 e.bk) rfl (by kernel_rfl) (by kernel_rfl) (by kernel_rfl) (fun _ _ _ h => h) (Or.inl ⟨by rfl, fun W hW => by have hc := (show W.cell? ⟨cb, 1, none⟩ = some (.int .i64 e.bk) from hW.1); clear hW; go_simp⟩) H0.out ?_
          try simp only [Act.put, List.getElem_toArray, List.getElem_cons_succ, List.getElem_cons_zero, List.setIfInBounds_toArray, List.set_cons_zero, List.set_cons_succ]
          refine wpAnyH_ready (rs := [5]) (by kernel_rfl) (by simp) ?_
          refine AllReadyH.cons rfl (fun K hK => ?_) AllReadyH.nil
          go_simp
          go_at_call 13
          refine (P1.out _ _ HS0.out).mono ?_
          rintro e1 V1 ⟨rfl, hs1⟩
          have HS1 := Lib.hid hs1
          clear hs1
          have H1_ := Lib.hid (CB.out _ _ _ HS1.out)
          refine hK.out _ _ H1_.out (fun _ => ?_)
          clear hK K
          try simp only [Act.put, List.getElem_toArray, List.getElem_cons_succ, List.getElem_cons_zero, List.setIfInBounds_toArray, List.set_cons_zero, List.set_cons_succ]
          refine wpAnyH_ready (rs := [11]) (by kernel_rfl) (by simp) ?_
          refine AllReadyH.cons rfl (fun K hK => ?_) AllReadyH.nil
          go_simp
          go_at_call 14
          refine (P2.out _ _ HS1.out).mono ?_
          rintro e2 V2 ⟨rfl, hs2⟩
          have HS2 := Lib.hid hs2
          clear hs2
          have H2_ := Lib.hid (CB.out _ _ _ HS2.out)
          refine hK.out _ _ H2_.out (fun _ => ?_)
          clear hK K
          try simp only [Act.put, List.getElem_toArray, List.getElem_cons_succ, List.getElem_cons_zero, List.setIfInBounds_toArray, List.set_cons_zero, List.set_cons_succ]
          refine wpAnyH_take (i := 12) (v := .int .i64 K1) rfl (by kernel_rfl) (by kernel_rfl) (by kernel_rfl) (fun _ _ _ h => h) (Or.inl ⟨by rfl, fun W hW => by clear hW; go_simp⟩) H2_.out ?_
          try simp only [Act.put, List.getElem_toArray, List.getElem_cons_succ, List.getElem_cons_zero, List.setIfInBounds_toArray, List.set_cons_zero, List.set_cons_succ]
          refine wpAnyH_take (i := 13) (v := .int .i64 K1) rfl (by kernel_rfl) (by kernel_rfl) (by kernel_rfl) (fun _ _ _ h => h) (Or.inl ⟨by rfl, fun W hW => by clear hW; go_simp⟩) H2_.out ?_
          try simp only [Act.put, List.getElem_toArray, List.getElem_cons_succ, List.getElem_cons_zero, List.setIfInBounds_toArray, List.set_cons_zero, List.set_cons_succ]
          refine wpAnyH_done (by kernel_rfl) ?_ _
          go_wp2
          go_meet
          exact ⟨K1, l2, rfl, rfl, I2.out, ln2.out, HS2.out⟩
        by_cases ho3 : e.o = 3
        · as_aux_lemma =>
          have l22 : (remL l e.it).length ≤ j + 1 := Nat.le_trans (remL_len l e.it) (by omega)
          have z0 : (e.o = 0) = False := eq_false ho0
          have y0 : (e.o == 0) = false := by simpa using ho0
          have z1 : (e.o = 1) = False := eq_false ho1
          have y1 : (e.o == 1) = false := by simpa using ho1
          have z2 : (e.o = 2) = False := eq_false ho2
          have y2 : (e.o == 2) = false := by simpa using ho2
          have z3 : (e.o = 3) = True := eq_true ho3
          have y3 : (e.o == 3) = true := by simpa using ho3
          have P1 := Lib.hid (fun V l0 (h : BW w V g b r p l l0 [(cb, C 47 e.arr), (pb, C 28 p.arr)]) => b15 h Il e.it)
          have P2 := Lib.hid (fun V l0 (h : BW w V g b r p l0 l [(cb, C 47 e.arr), (pb, C 28 p.arr)]) => b16 h Il e.it l1000)
          have I2 := Lib.hid (Il.rem e.it)
          have ln2 := Lib.hid (l22)
          generalize drpK l e.it = K1 at *
          generalize remL l e.it = l2 at *
          replace Il := Lib.hid Il
          go_wp2
          have HS0 := Lib.hid h3.drew
          have H0 := Lib.hid (CB.out _ _ _ HS0.out)
          clear h3
          refine wp_region_held_drew (S := fun W => W.cell? ⟨cb, 1, none⟩ = some (.int .i64 e.bk) ∧ (loadVar 42 ⟨cb, 2, none⟩).run Try.prog W = .ok (.agg e.it.arr) W ∧ (loadVar 44 ⟨cb, 4, none⟩).run Try.prog W = .ok (.agg (lnA e.bs)) W) (by kernel_rfl) H0.out (fun _ => ?_)
          generalize World.drew _ = V0 at *
          refine wpAnyH_take (i := 0) (v := .pointer (some ⟨g, 0, none⟩)) rfl (by kernel_rfl) (by kernel_rfl) (by kernel_rfl) (fun _ _ _ h => h) (Or.inl ⟨by rfl, fun W hW => by clear hW; go_simp⟩) H0.out ?_
          try simp only [Act.put, List.getElem_toArray, List.getElem_cons_succ, List.getElem_cons_zero, List.setIfInBounds_toArray, List.set_cons_zero, List.set_cons_succ]
          refine wpAnyH_take (i := 1) (v := .pointer (some ⟨cb, 2, none⟩)) rfl (by kernel_rfl) (by kernel_rfl) (by kernel_rfl) (fun _ _ _ h => h) (Or.inl ⟨by rfl, fun W hW => by clear hW; go_simp⟩) H0.out ?_
          try simp only [Act.put, List.getElem_toArray, List.getElem_cons_succ, List.getElem_cons_zero, List.setIfInBounds_toArray, List.set_cons_zero, List.set_cons_succ]
          refine wpAnyH_take (i := 2) (v := .agg e.it.arr) rfl (by kernel_rfl) (by kernel_rfl) (by kernel_rfl) (fun _ _ _ h => h) (yields_run _ rfl (by rfl) rfl (fun W hW => hW.2.1)) H0.out ?_
          try simp only [Act.put, List.getElem_toArray, List.getElem_cons_succ, List.getElem_cons_zero, List.setIfInBounds_toArray, List.set_cons_zero, List.set_cons_succ]
          refine wpAnyH_take (i := 4) (v := .pointer (some ⟨r, 0, none⟩)) rfl (by kernel_rfl) (by kernel_rfl) (by kernel_rfl) (fun _ _ _ h => h) (Or.inl ⟨by rfl, fun W hW => by clear hW; go_simp⟩) H0.out ?_
          try simp only [Act.put, List.getElem_toArray, List.getElem_cons_succ, List.getElem_cons_zero, List.setIfInBounds_toArray, List.set_cons_zero, List.set_cons_succ]
          refine wpAnyH_take (i := 5) (v := .pointer (some ⟨cb, 2, none⟩)) rfl (by kernel_rfl) (by kernel_rfl) (by kernel_rfl) (fun _ _ _ h => h) (Or.inl ⟨by rfl, fun W hW => by clear hW; go_simp⟩) H0.out ?_
          try simp only [Act.put, List.getElem_toArray, List.getElem_cons_succ, List.getElem_cons_zero, List.setIfInBounds_toArray, List.set_cons_zero, List.set_cons_succ]
          refine wpAnyH_take (i := 6) (v := .agg e.it.arr) rfl (by kernel_rfl) (by kernel_rfl) (by kernel_rfl) (fun _ _ _ h => h) (yields_run _ rfl (by rfl) rfl (fun W hW => hW.2.1)) H0.out ?_
          try simp only [Act.put, List.getElem_toArray, List.getElem_cons_succ, List.getElem_cons_zero, List.setIfInBounds_toArray, List.set_cons_zero, List.set_cons_succ]
          refine wpAnyH_ready (rs := [3]) (by kernel_rfl) (by simp) ?_
          refine AllReadyH.cons rfl (fun K hK => ?_) AllReadyH.nil
          go_simp
          go_at_call 15
          refine (P1.out _ _ HS0.out).mono ?_
          rintro e1 V1 ⟨rfl, hs1⟩
          have HS1 := Lib.hid hs1
          clear hs1
          have H1_ := Lib.hid (CB.out _ _ _ HS1.out)
          refine hK.out _ _ H1_.out (fun _ => ?_)
          clear hK K
          try simp only [Act.put, List.getElem_toArray, List.getElem_cons_succ, List.getElem_cons_zero, List.setIfInBounds_toArray, List.set_cons_zero, List.set_cons_succ]
          refine wpAnyH_ready (rs := [7]) (by kernel_rfl) (by simp) ?_
          refine AllReadyH.cons rfl (fun K hK => ?_) AllReadyH.nil
          go_simp
          go_at_call 16
          refine (P2.out _ _ HS1.out).mono ?_
          rintro e2 V2 ⟨rfl, hs2⟩
          have HS2 := Lib.hid hs2
          clear hs2
          have H2_ := Lib.hid (CB.out _ _ _ HS2.out)
          refine hK.out _ _ H2_.out (fun _ => ?_)
          clear hK K
          try simp only [Act.put, List.getElem_toArray, List.getElem_cons_succ, List.getElem_cons_zero, List.setIfInBounds_toArray, List.set_cons_zero, List.set_cons_succ]
          refine wpAnyH_take (i := 8) (v := .int .i64 K1) rfl (by kernel_rfl) (by kernel_rfl) (by kernel_rfl) (fun _ _ _ h => h) (Or.inl ⟨by rfl, fun W hW => by clear hW; go_simp⟩) H2_.out ?_
          try simp only [Act.put, List.getElem_toArray, List.getElem_cons_succ, List.getElem_cons_zero, List.setIfInBounds_toArray, List.set_cons_zero, List.set_cons_succ]
          refine wpAnyH_take (i := 9) (v := .int .i64 K1) rfl (by kernel_rfl) (by kernel_rfl) (by kernel_rfl) (fun _ _ _ h => h) (Or.inl ⟨by rfl, fun W hW => by clear hW; go_simp⟩) H2_.out ?_
          try simp only [Act.put, List.getElem_toArray, List.getElem_cons_succ, List.getElem_cons_zero, List.setIfInBounds_toArray, List.set_cons_zero, List.set_cons_succ]
          refine wpAnyH_done (by kernel_rfl) ?_ _
          go_wp2
          go_meet
          exact ⟨K1, l2, rfl, rfl, I2.out, ln2.out, HS2.out⟩
        have z0 : (e.o = 0) = False := eq_false ho0
        have y0 : (e.o == 0) = false := by simpa using ho0
        have z1 : (e.o = 1) = False := eq_false ho1
        have y1 : (e.o == 1) = false := by simpa using ho1
        have z2 : (e.o = 2) = False := eq_false ho2
        have y2 : (e.o == 2) = false := by simpa using ho2
        have z3 : (e.o = 3) = False := eq_false ho3
        have y3 : (e.o == 3) = false := by simpa using ho3
        obtain ⟨ys, HA⟩ := isAll_exists Il
        have KL : Hid (ks.length ≤ 1000) := by have := hks.len; exact (show ks.length ≤ 1000 by omega)
        have LE : Hid (([] : List It).length + e.kn ≤ 100000) := show ([] : List It).length + e.kn ≤ 100000 by simp only [List.length_nil]; omega
        have VV := Lib.hid (fun V L0 (h : BW w V g b r p l l L0) A m c hk hm => b17 h Il l1000 HA e.bk A m c ks hk hm)
        have VR := Lib.hid (fun V L0 (h : BW w V g b r p l l L0) A m c hk => b18 h Il HA e.bk A m c ks hk)
        have KE := Lib.hid (fun V (hb : Below w.heap.size w V) => hks.below hb)
        have KF := Lib.hid (fun V (hb : Below w.heap.size w V) => (hks.below hb).wider hb.size)
        have P1 := Lib.hid (fun V L0 (h : BW w V g b r p l l L0) => b15 h Il (vicI p l ys e.bk ks))
        have P2 := Lib.hid (fun V l0 L0 (h : BW w V g b r p l0 l L0) => b16 h Il (vicI p l ys e.bk ks) l1000)
        have I2 := Lib.hid (Il.rem (vicI p l ys e.bk ks))
        have ln2 : Hid ((remL l (vicI p l ys e.bk ks)).length ≤ j + 1) := Nat.le_trans (remL_len l _) (by omega)
        have EQ := Lib.hid (fun V => show (binOp .neq 42 (.agg (vicI p l ys e.bk ks).arr) (.agg (vicI p l ys e.bk ks).arr)).run Try.prog V = .ok (.bool false) V from by rw [neq_it, decide_eq_true rfl]; rfl)
        have CB6 := Lib.hid (fun V L0 (h : BW w V g b r p l l L0) (m : (cb, C 47 e.arr) ∈ L0) => show V.cell? ⟨cb, 1, none⟩ = some (.int .i64 e.bk) ∧ V.cell? ⟨cb, 36, none⟩ = some (.slice e.kA e.kn e.kc) from by
          have C0 := ClB.of (h.st.at_ _ m)
          exact ⟨C0.c1, C0.kp⟩)
        generalize (vicC p l e.bk ks).isSome = VB at *
        generalize vicI p l ys e.bk ks = VI at *
        generalize drpK l VI = K1 at *
        generalize remL l VI = l2 at *
        replace Il := Lib.hid Il
        clear HA hks
        go_upto_region 16 with fail
        go_cut [12, 13] from 54 to 64 (fun s12 s13 wx => ∃ ob, s12 = .pointer (some ⟨ob, 0, none⟩) ∧ s13 = .bool VB ∧ BW w wx g b r p l l ((ob, C 42 VI.arr) :: [(cb, C 47 e.arr), (pb, C 28 p.arr)]))
        case first =>
          as_aux_lemma =>
          have HX := Lib.hid h3.drew
          have H0 := Lib.hid (CB6.out _ _ HX.out (by simp))
          clear h3
          have V17 := VV
          refine wp_region_held_drew (S := fun W => W.cell? ⟨cb, 1, none⟩ = some (.int .i64 e.bk) ∧ W.cell? ⟨cb, 36, none⟩ = some (.slice e.kA e.kn e.kc)) (by kernel_rfl) H0.out (fun _ => ?_)
          generalize World.drew _ = V0 at *
          refine wpAnyH_take (i := 0) (v := .pointer (some ⟨g, 0, none⟩)) rfl (by kernel_rfl) (by kernel_rfl) (by kernel_rfl) (fun _ _ _ h => h) (Or.inl ⟨by rfl, fun W hW => by clear hW; go_simp⟩) H0.out ?_
          try simp only [Act.put, List.getElem_toArray, List.getElem_cons_succ, List.getElem_cons_zero, List.setIfInBounds_toArray, List.set_cons_zero, List.set_cons_succ]
          refine wpAnyH_take (i := 1) (v := .pointer (some ⟨cb, 1, none⟩)) rfl (by kernel_rfl) (by kernel_rfl) (by kernel_rfl) (fun _ _ _ h => h) (Or.inl ⟨by rfl, fun W hW => by clear hW; go_simp⟩) H0.out ?_
          try simp only [Act.put, List.getElem_toArray, List.getElem_cons_succ, List.getElem_cons_zero, List.setIfInBounds_toArray, List.set_cons_zero, List.set_cons_succ]
          refine wpAnyH_take (i := 2) (v := .int .i64 e.bk) rfl (by kernel_rfl) (by kernel_rfl) (by kernel_rfl) (fun _ _ _ h => h) (Or.inl ⟨by rfl, fun W hW => by have hc := (show W.cell? ⟨cb, 1, none⟩ = some (.int .i64 e.bk) from hW.1); clear hW; go_simp⟩) H0.out ?_
          try simp only [Act.put, List.getElem_toArray, List.getElem_cons_succ, List.getElem_cons_zero, List.setIfInBounds_toArray, List.set_cons_zero, List.set_cons_succ]
          refine wpAnyH_take (i := 4) (v := .pointer (some ⟨cb, 36, none⟩)) rfl (by kernel_rfl) (by kernel_rfl) (by kernel_rfl) (fun _ _ _ h => h) (Or.inl ⟨by rfl, fun W hW => by clear hW; go_simp⟩) H0.out ?_
          try simp only [Act.put, List.getElem_toArray, List.getElem_cons_succ, List.getElem_cons_zero, List.setIfInBounds_toArray, List.set_cons_zero, List.set_cons_succ]
          refine wpAnyH_take (i := 5) (v := .slice e.kA e.kn e.kc) rfl (by kernel_rfl) (by kernel_rfl) (by kernel_rfl) (fun _ _ _ h => h) (Or.inl ⟨by rfl, fun W hW => by have hc := (show W.cell? ⟨cb, 36, none⟩ = some (.slice e.kA e.kn e.kc) from hW.2); clear hW; go_simp⟩) H0.out ?_
          try simp only [Act.put, List.getElem_toArray, List.getElem_cons_succ, List.getElem_cons_zero, List.setIfInBounds_toArray, List.set_cons_zero, List.set_cons_succ]
          refine wpAnyH_ready (rs := [3, 11]) (by kernel_rfl) (by simp) ?_
          refine (AllReadyH.cons rfl (fun K hK => ?_) (AllReadyH.cons rfl (fun K hK => ?_) AllReadyH.nil))
          · rw [if_pos (by rfl)]
            refine wp_build0B HX.out rfl ?_
            intro Vb vb Nb hrb hxb
            have HR := Lib.hid hrb
            replace HX := Lib.hid hxb
            have Hb_ := Lib.hid (CB6.out _ _ hxb (by simp))
            clear hrb hxb
            refine hK.out _ _ Hb_.out (fun _ => ?_)
            clear hK K
            try simp only [Act.put, List.getElem_toArray, List.getElem_cons_succ, List.getElem_cons_zero, List.setIfInBounds_toArray, List.set_cons_zero, List.set_cons_succ]
            refine wpAnyH_ready (rs := [6, 11]) (by kernel_rfl) (by simp) ?_
            refine (AllReadyH.cons rfl (fun K hK => ?_) (AllReadyH.cons rfl (fun K hK => ?_) AllReadyH.nil))
            · rw [if_pos (by rfl)]
              refine wp_appendB HR.out HX.out (KE.out _ HX.out.bel) (.tmp 58) (.tmp 60) rfl rfl rfl LE.out ?_
              intro va Va Na hra hxa
              rw [List.nil_append] at hra
              obtain ⟨Aa, ca, rfl, _⟩ := hra.form
              replace HR := Lib.hid hra
              replace HX := Lib.hid hxa
              have Ha_ := Lib.hid (CB6.out _ _ hxa (by simp))
              clear hra hxa
              refine hK.out _ _ Ha_.out (fun _ => ?_)
              clear hK K
              try simp only [Act.put, List.getElem_toArray, List.getElem_cons_succ, List.getElem_cons_zero, List.setIfInBounds_toArray, List.set_cons_zero, List.set_cons_succ]
              refine wpAnyH_ready (rs := [7, 11]) (by kernel_rfl) (by simp) ?_
              refine (AllReadyH.cons rfl (fun K hK => ?_) (AllReadyH.cons rfl (fun K hK => ?_) AllReadyH.nil))
              · go_simp
                go_at_call 17
                refine (V17.out _ _ HX.out _ _ _ (HR.out.row HX.out.st rfl) KL.out).mono ?_
                rintro e1 Vc ⟨rfl, hxc⟩
                replace HX := Lib.hid hxc
                have Hc_ := Lib.hid (CB6.out _ _ hxc (by simp))
                clear hxc
                refine hK.out _ _ Hc_.out (fun _ => ?_)
                clear hK K
                try simp only [Act.put, List.getElem_toArray, List.getElem_cons_succ, List.getElem_cons_zero, List.setIfInBounds_toArray, List.set_cons_zero, List.set_cons_succ]
                refine wpAnyH_take (i := 8) (v := .tuple #[.agg VI.arr, .bool VB]) rfl (by kernel_rfl) (by kernel_rfl) (by kernel_rfl) (fun _ _ _ h => h) (Or.inl ⟨by rfl, fun W hW => by clear hW; go_simp⟩) Hc_.out ?_
                try simp only [Act.put, List.getElem_toArray, List.getElem_cons_succ, List.getElem_cons_zero, List.setIfInBounds_toArray, List.set_cons_zero, List.set_cons_succ]
                refine wpAnyH_take (i := 9) (v := .agg VI.arr) rfl (by kernel_rfl) (by kernel_rfl) (by kernel_rfl) (fun _ _ _ h => h) (Or.inl ⟨by rfl, fun W hW => by clear hW; go_simp⟩) Hc_.out ?_
                try simp only [Act.put, List.getElem_toArray, List.getElem_cons_succ, List.getElem_cons_zero, List.setIfInBounds_toArray, List.set_cons_zero, List.set_cons_succ]
                refine wpAnyH_take (i := 10) (v := .bool VB) rfl (by kernel_rfl) (by kernel_rfl) (by kernel_rfl) (fun _ _ _ h => h) (Or.inl ⟨by rfl, fun W hW => by clear hW; go_simp⟩) Hc_.out ?_
                try simp only [Act.put, List.getElem_toArray, List.getElem_cons_succ, List.getElem_cons_zero, List.setIfInBounds_toArray, List.set_cons_zero, List.set_cons_succ]
                refine wpAnyH_ready (rs := [11]) (by kernel_rfl) (by simp) ?_
                refine (AllReadyH.cons rfl (fun K hK => ?_) AllReadyH.nil)
                rw [if_pos (by rfl)]
                refine wp_alloc_itB HX.out rfl ?_
                intro Vo ob hxo
                replace hxo := hxo.perm List.perm_middle.symm
                replace HX := Lib.hid hxo
                have Ho_ := Lib.hid (CB6.out _ _ hxo (by simp))
                clear hxo
                refine hK.out _ _ Ho_.out (fun _ => ?_)
                clear hK K
                try simp only [Act.put, List.getElem_toArray, List.getElem_cons_succ, List.getElem_cons_zero, List.setIfInBounds_toArray, List.set_cons_zero, List.set_cons_succ]
                have hx9 := HX.out.sub (List.sublist_append_right _ _)
                refine wpAnyH_ready (rs := [12]) (by kernel_rfl) (by simp) ?_
                refine AllReadyH.cons rfl (fun K hK => ?_) AllReadyH.nil
                rw [if_pos (by rfl)]
                refine wp_store_itB hx9 0 VI rfl (.tmp 12) (.tmp 63) rfl rfl rfl ?_
                intro Vs hxs
                have HZ := Lib.hid hxs
                have Hs_ := Lib.hid (CB6.out _ _ hxs (by simp))
                clear hxs hx9
                refine hK.out _ _ Hs_.out (fun _ => ?_)
                clear hK K
                try simp only [Act.put, List.getElem_toArray, List.getElem_cons_succ, List.getElem_cons_zero, List.setIfInBounds_toArray, List.set_cons_zero, List.set_cons_succ]
                refine wpAnyH_take (i := 13) (v := .bool VB) rfl (by kernel_rfl) (by kernel_rfl) (by kernel_rfl) (fun _ _ _ h => h) (Or.inl ⟨by rfl, fun W hW => by clear hW; go_simp⟩) Hs_.out ?_
                try simp only [Act.put, List.getElem_toArray, List.getElem_cons_succ, List.getElem_cons_zero, List.setIfInBounds_toArray, List.set_cons_zero, List.set_cons_succ]
                refine wpAnyH_done (by kernel_rfl) ?_ _
                go_wp2
                go_meet
                exact ⟨ob, rfl, rfl, HZ.out⟩
              · rw [if_pos (by rfl)]
                refine wp_alloc_itB HX.out rfl ?_
                intro Vo ob hxo
                replace hxo := hxo.perm List.perm_middle.symm
                replace HX := Lib.hid hxo
                have Ho_ := Lib.hid (CB6.out _ _ hxo (by simp))
                clear hxo
                refine hK.out _ _ Ho_.out (fun _ => ?_)
                clear hK K
                try simp only [Act.put, List.getElem_toArray, List.getElem_cons_succ, List.getElem_cons_zero, List.setIfInBounds_toArray, List.set_cons_zero, List.set_cons_succ]
                refine wpAnyH_ready (rs := [7]) (by kernel_rfl) (by simp) ?_
                refine (AllReadyH.cons rfl (fun K hK => ?_) AllReadyH.nil)
                go_simp
                go_at_call 17
                refine (V17.out _ _ HX.out _ _ _ (HR.out.row HX.out.st rfl) KL.out).mono ?_
                rintro e1 Vc ⟨rfl, hxc⟩
                replace HX := Lib.hid hxc
                have Hc_ := Lib.hid (CB6.out _ _ hxc (by simp))
                clear hxc
                refine hK.out _ _ Hc_.out (fun _ => ?_)
                clear hK K
                try simp only [Act.put, List.getElem_toArray, List.getElem_cons_succ, List.getElem_cons_zero, List.setIfInBounds_toArray, List.set_cons_zero, List.set_cons_succ]
                refine wpAnyH_take (i := 8) (v := .tuple #[.agg VI.arr, .bool VB]) rfl (by kernel_rfl) (by kernel_rfl) (by kernel_rfl) (fun _ _ _ h => h) (Or.inl ⟨by rfl, fun W hW => by clear hW; go_simp⟩) Hc_.out ?_
                try simp only [Act.put, List.getElem_toArray, List.getElem_cons_succ, List.getElem_cons_zero, List.setIfInBounds_toArray, List.set_cons_zero, List.set_cons_succ]
                refine wpAnyH_take (i := 9) (v := .agg VI.arr) rfl (by kernel_rfl) (by kernel_rfl) (by kernel_rfl) (fun _ _ _ h => h) (Or.inl ⟨by rfl, fun W hW => by clear hW; go_simp⟩) Hc_.out ?_
                try simp only [Act.put, List.getElem_toArray, List.getElem_cons_succ, List.getElem_cons_zero, List.setIfInBounds_toArray, List.set_cons_zero, List.set_cons_succ]
                refine wpAnyH_take (i := 10) (v := .bool VB) rfl (by kernel_rfl) (by kernel_rfl) (by kernel_rfl) (fun _ _ _ h => h) (Or.inl ⟨by rfl, fun W hW => by clear hW; go_simp⟩) Hc_.out ?_
                try simp only [Act.put, List.getElem_toArray, List.getElem_cons_succ, List.getElem_cons_zero, List.setIfInBounds_toArray, List.set_cons_zero, List.set_cons_succ]
                have hx9 := HX.out.sub (List.sublist_append_right _ _)
                refine wpAnyH_ready (rs := [12]) (by kernel_rfl) (by simp) ?_
                refine AllReadyH.cons rfl (fun K hK => ?_) AllReadyH.nil
                rw [if_pos (by rfl)]
                refine wp_store_itB hx9 0 VI rfl (.tmp 12) (.tmp 63) rfl rfl rfl ?_
                intro Vs hxs
                have HZ := Lib.hid hxs
                have Hs_ := Lib.hid (CB6.out _ _ hxs (by simp))
                clear hxs hx9
                refine hK.out _ _ Hs_.out (fun _ => ?_)
                clear hK K
                try simp only [Act.put, List.getElem_toArray, List.getElem_cons_succ, List.getElem_cons_zero, List.setIfInBounds_toArray, List.set_cons_zero, List.set_cons_succ]
                refine wpAnyH_take (i := 13) (v := .bool VB) rfl (by kernel_rfl) (by kernel_rfl) (by kernel_rfl) (fun _ _ _ h => h) (Or.inl ⟨by rfl, fun W hW => by clear hW; go_simp⟩) Hs_.out ?_
                try simp only [Act.put, List.getElem_toArray, List.getElem_cons_succ, List.getElem_cons_zero, List.setIfInBounds_toArray, List.set_cons_zero, List.set_cons_succ]
                refine wpAnyH_done (by kernel_rfl) ?_ _
                go_wp2
                go_meet
                exact ⟨ob, rfl, rfl, HZ.out⟩
            · rw [if_pos (by rfl)]
              refine wp_alloc_itB HX.out rfl ?_
              intro Vo ob hxo
              replace hxo := hxo.perm List.perm_middle.symm
              replace HX := Lib.hid hxo
              have Ho_ := Lib.hid (CB6.out _ _ hxo (by simp))
              clear hxo
              refine hK.out _ _ Ho_.out (fun _ => ?_)
              clear hK K
              try simp only [Act.put, List.getElem_toArray, List.getElem_cons_succ, List.getElem_cons_zero, List.setIfInBounds_toArray, List.set_cons_zero, List.set_cons_succ]
              refine wpAnyH_ready (rs := [6]) (by kernel_rfl) (by simp) ?_
              refine (AllReadyH.cons rfl (fun K hK => ?_) AllReadyH.nil)
              rw [if_pos (by rfl)]
              refine wp_appendB HR.out HX.out (KE.out _ HX.out.bel) (.tmp 58) (.tmp 60) rfl rfl rfl LE.out ?_
              intro va Va Na hra hxa
              rw [List.nil_append] at hra
              obtain ⟨Aa, ca, rfl, _⟩ := hra.form
              replace HR := Lib.hid hra
              replace HX := Lib.hid hxa
              have Ha_ := Lib.hid (CB6.out _ _ hxa (by simp))
              clear hra hxa
              refine hK.out _ _ Ha_.out (fun _ => ?_)
              clear hK K
              try simp only [Act.put, List.getElem_toArray, List.getElem_cons_succ, List.getElem_cons_zero, List.setIfInBounds_toArray, List.set_cons_zero, List.set_cons_succ]
              refine wpAnyH_ready (rs := [7]) (by kernel_rfl) (by simp) ?_
              refine (AllReadyH.cons rfl (fun K hK => ?_) AllReadyH.nil)
              go_simp
              go_at_call 17
              refine (V17.out _ _ HX.out _ _ _ (HR.out.row HX.out.st rfl) KL.out).mono ?_
              rintro e1 Vc ⟨rfl, hxc⟩
              replace HX := Lib.hid hxc
              have Hc_ := Lib.hid (CB6.out _ _ hxc (by simp))
              clear hxc
              refine hK.out _ _ Hc_.out (fun _ => ?_)
              clear hK K
              try simp only [Act.put, List.getElem_toArray, List.getElem_cons_succ, List.getElem_cons_zero, List.setIfInBounds_toArray, List.set_cons_zero, List.set_cons_succ]
              refine wpAnyH_take (i := 8) (v := .tuple #[.agg VI.arr, .bool VB]) rfl (by kernel_rfl) (by kernel_rfl) (by kernel_rfl) (fun _ _ _ h => h) (Or.inl ⟨by rfl, fun W hW => by clear hW; go_simp⟩) Hc_.out ?_
              try simp only [Act.put, List.getElem_toArray, List.getElem_cons_succ, List.getElem_cons_zero, List.setIfInBounds_toArray, List.set_cons_zero, List.set_cons_succ]
              refine wpAnyH_take (i := 9) (v := .agg VI.arr) rfl (by kernel_rfl) (by kernel_rfl) (by kernel_rfl) (fun _ _ _ h => h) (Or.inl ⟨by rfl, fun W hW => by clear hW; go_simp⟩) Hc_.out ?_
              try simp only [Act.put, List.getElem_toArray, List.getElem_cons_succ, List.getElem_cons_zero, List.setIfInBounds_toArray, List.set_cons_zero, List.set_cons_succ]
              refine wpAnyH_take (i := 10) (v := .bool VB) rfl (by kernel_rfl) (by kernel_rfl) (by kernel_rfl) (fun _ _ _ h => h) (Or.inl ⟨by rfl, fun W hW => by clear hW; go_simp⟩) Hc_.out ?_
              try simp only [Act.put, List.getElem_toArray, List.getElem_cons_succ, List.getElem_cons_zero, List.setIfInBounds_toArray, List.set_cons_zero, List.set_cons_succ]
              have hx9 := HX.out.sub (List.sublist_append_right _ _)
              refine wpAnyH_ready (rs := [12]) (by kernel_rfl) (by simp) ?_
              refine AllReadyH.cons rfl (fun K hK => ?_) AllReadyH.nil
              rw [if_pos (by rfl)]
              refine wp_store_itB hx9 0 VI rfl (.tmp 12) (.tmp 63) rfl rfl rfl ?_
              intro Vs hxs
              have HZ := Lib.hid hxs
              have Hs_ := Lib.hid (CB6.out _ _ hxs (by simp))
              clear hxs hx9
              refine hK.out _ _ Hs_.out (fun _ => ?_)
              clear hK K
              try simp only [Act.put, List.getElem_toArray, List.getElem_cons_succ, List.getElem_cons_zero, List.setIfInBounds_toArray, List.set_cons_zero, List.set_cons_succ]
              refine wpAnyH_take (i := 13) (v := .bool VB) rfl (by kernel_rfl) (by kernel_rfl) (by kernel_rfl) (fun _ _ _ h => h) (Or.inl ⟨by rfl, fun W hW => by clear hW; go_simp⟩) Hs_.out ?_
              try simp only [Act.put, List.getElem_toArray, List.getElem_cons_succ, List.getElem_cons_zero, List.setIfInBounds_toArray, List.set_cons_zero, List.set_cons_succ]
              refine wpAnyH_done (by kernel_rfl) ?_ _
              go_wp2
              go_meet
              exact ⟨ob, rfl, rfl, HZ.out⟩
          · rw [if_pos (by rfl)]
            refine wp_alloc_itB HX.out rfl ?_
            intro Vo ob hxo
            replace HX := Lib.hid hxo
            have Ho_ := Lib.hid (CB6.out _ _ hxo (by simp))
            clear hxo
            refine hK.out _ _ Ho_.out (fun _ => ?_)
            clear hK K
            try simp only [Act.put, List.getElem_toArray, List.getElem_cons_succ, List.getElem_cons_zero, List.setIfInBounds_toArray, List.set_cons_zero, List.set_cons_succ]
            refine wpAnyH_ready (rs := [3]) (by kernel_rfl) (by simp) ?_
            refine (AllReadyH.cons rfl (fun K hK => ?_) AllReadyH.nil)
            rw [if_pos (by rfl)]
            refine wp_build0B HX.out rfl ?_
            intro Vb vb Nb hrb hxb
            have HR := Lib.hid hrb
            replace HX := Lib.hid hxb
            have Hb_ := Lib.hid (CB6.out _ _ hxb (by simp))
            clear hrb hxb
            refine hK.out _ _ Hb_.out (fun _ => ?_)
            clear hK K
            try simp only [Act.put, List.getElem_toArray, List.getElem_cons_succ, List.getElem_cons_zero, List.setIfInBounds_toArray, List.set_cons_zero, List.set_cons_succ]
            refine wpAnyH_ready (rs := [6]) (by kernel_rfl) (by simp) ?_
            refine (AllReadyH.cons rfl (fun K hK => ?_) AllReadyH.nil)
            rw [if_pos (by rfl)]
            refine wp_appendB HR.out HX.out (KE.out _ HX.out.bel) (.tmp 58) (.tmp 60) rfl rfl rfl LE.out ?_
            intro va Va Na hra hxa
            rw [List.nil_append] at hra
            obtain ⟨Aa, ca, rfl, _⟩ := hra.form
            replace HR := Lib.hid hra
            replace HX := Lib.hid hxa
            have Ha_ := Lib.hid (CB6.out _ _ hxa (by simp))
            clear hra hxa
            refine hK.out _ _ Ha_.out (fun _ => ?_)
            clear hK K
            try simp only [Act.put, List.getElem_toArray, List.getElem_cons_succ, List.getElem_cons_zero, List.setIfInBounds_toArray, List.set_cons_zero, List.set_cons_succ]
            refine wpAnyH_ready (rs := [7]) (by kernel_rfl) (by simp) ?_
            refine (AllReadyH.cons rfl (fun K hK => ?_) AllReadyH.nil)
            go_simp
            go_at_call 17
            refine (V17.out _ _ HX.out _ _ _ (HR.out.row HX.out.st rfl) KL.out).mono ?_
            rintro e1 Vc ⟨rfl, hxc⟩
            replace HX := Lib.hid hxc
            have Hc_ := Lib.hid (CB6.out _ _ hxc (by simp))
            clear hxc
            refine hK.out _ _ Hc_.out (fun _ => ?_)
            clear hK K
            try simp only [Act.put, List.getElem_toArray, List.getElem_cons_succ, List.getElem_cons_zero, List.setIfInBounds_toArray, List.set_cons_zero, List.set_cons_succ]
            refine wpAnyH_take (i := 8) (v := .tuple #[.agg VI.arr, .bool VB]) rfl (by kernel_rfl) (by kernel_rfl) (by kernel_rfl) (fun _ _ _ h => h) (Or.inl ⟨by rfl, fun W hW => by clear hW; go_simp⟩) Hc_.out ?_
            try simp only [Act.put, List.getElem_toArray, List.getElem_cons_succ, List.getElem_cons_zero, List.setIfInBounds_toArray, List.set_cons_zero, List.set_cons_succ]
            refine wpAnyH_take (i := 9) (v := .agg VI.arr) rfl (by kernel_rfl) (by kernel_rfl) (by kernel_rfl) (fun _ _ _ h => h) (Or.inl ⟨by rfl, fun W hW => by clear hW; go_simp⟩) Hc_.out ?_
            try simp only [Act.put, List.getElem_toArray, List.getElem_cons_succ, List.getElem_cons_zero, List.setIfInBounds_toArray, List.set_cons_zero, List.set_cons_succ]
            refine wpAnyH_take (i := 10) (v := .bool VB) rfl (by kernel_rfl) (by kernel_rfl) (by kernel_rfl) (fun _ _ _ h => h) (Or.inl ⟨by rfl, fun W hW => by clear hW; go_simp⟩) Hc_.out ?_
            try simp only [Act.put, List.getElem_toArray, List.getElem_cons_succ, List.getElem_cons_zero, List.setIfInBounds_toArray, List.set_cons_zero, List.set_cons_succ]
            have hx9 := HX.out.sub (List.sublist_append_right _ _)
            refine wpAnyH_ready (rs := [12]) (by kernel_rfl) (by simp) ?_
            refine AllReadyH.cons rfl (fun K hK => ?_) AllReadyH.nil
            rw [if_pos (by rfl)]
            refine wp_store_itB hx9 0 VI rfl (.tmp 12) (.tmp 63) rfl rfl rfl ?_
            intro Vs hxs
            have HZ := Lib.hid hxs
            have Hs_ := Lib.hid (CB6.out _ _ hxs (by simp))
            clear hxs hx9
            refine hK.out _ _ Hs_.out (fun _ => ?_)
            clear hK K
            try simp only [Act.put, List.getElem_toArray, List.getElem_cons_succ, List.getElem_cons_zero, List.setIfInBounds_toArray, List.set_cons_zero, List.set_cons_succ]
            refine wpAnyH_take (i := 13) (v := .bool VB) rfl (by kernel_rfl) (by kernel_rfl) (by kernel_rfl) (fun _ _ _ h => h) (Or.inl ⟨by rfl, fun W hW => by clear hW; go_simp⟩) Hs_.out ?_
            try simp only [Act.put, List.getElem_toArray, List.getElem_cons_succ, List.getElem_cons_zero, List.setIfInBounds_toArray, List.set_cons_zero, List.set_cons_succ]
            refine wpAnyH_done (by kernel_rfl) ?_ _
            go_wp2
            go_meet
            exact ⟨ob, rfl, rfl, HZ.out⟩
        case rest =>
        obtain ⟨ob, rfl, rfl, h4⟩ := hcut
        as_aux_lemma =>
        clear h3 VV KE LE KL d0
        obtain ⟨d1, d36⟩ := CB6.out _ _ h4 (by simp)
        replace EQ := EQ.out
        have CB7 := Lib.hid (fun V l0 l1 wb (h : BW w V g b r p l0 l1 ((wb, C 42 VI.arr) :: (ob, C 42 VI.arr) :: [(cb, C 47 e.arr), (pb, C 28 p.arr)])) => show (loadVar 42 ⟨ob, 0, none⟩).run Try.prog V = .ok (.agg VI.arr) V ∧ (loadVar 42 ⟨wb, 0, none⟩).run Try.prog V = .ok (.agg VI.arr) V from ⟨load_itA (h.at2 1 rfl), load_itA (h.at2 0 rfl)⟩)
        cases VB with
        | false =>
          go_wp2_with (first
            | (have _ := h4; go_at_call 18; refine (VR.out _ _ h4 _ _ _ (KF.out _ h4.bel)).mono ?_; rintro e1 X5 ⟨rfl, h5⟩; clear h4 d1 d36 VR KF)
            | (have _ := h5; refine wpList_alloc_itB h5 rfl rfl ?_; clear h5; intro X6 h6; generalize X5.heap.size = wb at *)
            | (have _ := h6; refine wpList_store_itB h6 0 VI rfl _ _ rfl rfl rfl rfl ?_; clear h6; intro X7 h7; replace h7 : BW w X7 g b r p l l ((wb, C 42 VI.arr) :: (ob, C 42 VI.arr) :: [(cb, C 47 e.arr), (pb, C 28 p.arr)]) := h7; obtain ⟨q1, q2⟩ := CB7.out _ _ _ _ h7)
            | (have _ := q1; refine wpList_load_run q1 _ rfl rfl rfl ?_; clear q1)
            | (have _ := q2; refine wpList_load_run q2 _ rfl rfl rfl ?_; clear q2))
          go_meet
          exact ⟨0, l, rfl, rfl, Il.out, by omega, h7.tail.tail⟩
        | true =>
          go_wp2_with (first
            | (have _ := h4; go_at_call 18; refine (VR.out _ _ h4 _ _ _ (KF.out _ h4.bel)).mono ?_; rintro e1 X5 ⟨rfl, h5⟩; clear h4 d1 d36 VR KF)
            | (have _ := h5; refine wpList_alloc_itB h5 rfl rfl ?_; clear h5; intro X6 h6; generalize X5.heap.size = wb at *)
            | (have _ := h6; refine wpList_store_itB h6 0 VI rfl _ _ rfl rfl rfl rfl ?_; clear h6; intro X7 h7; replace h7 : BW w X7 g b r p l l ((wb, C 42 VI.arr) :: (ob, C 42 VI.arr) :: [(cb, C 47 e.arr), (pb, C 28 p.arr)]) := h7; obtain ⟨q1, q2⟩ := CB7.out _ _ _ _ h7)
            | (have _ := q1; refine wpList_load_run q1 _ rfl rfl rfl ?_; clear q1)
            | (have _ := q2; refine wpList_load_run q2 _ rfl rfl rfl ?_; clear q2))
          have HS0 := Lib.hid h7.drew
          have H0 := Lib.hid (CB7.out _ _ _ _ HS0.out)
          clear h7 EQ
          refine wp_region_held_drew (S := fun W => (loadVar 42 ⟨ob, 0, none⟩).run Try.prog W = .ok (.agg VI.arr) W ∧ (loadVar 42 ⟨wb, 0, none⟩).run Try.prog W = .ok (.agg VI.arr) W) (by kernel_rfl) H0.out (fun _ => ?_)
          generalize World.drew _ = V0 at *
          refine wpAnyH_take (i := 0) (v := .pointer (some ⟨g, 0, none⟩)) rfl (by kernel_rfl) (by kernel_rfl) (by kernel_rfl) (fun _ _ _ h => h) (Or.inl ⟨by rfl, fun W hW => by clear hW; go_simp⟩) H0.out ?_
          try simp only [Act.put, List.getElem_toArray, List.getElem_cons_succ, List.getElem_cons_zero, List.setIfInBounds_toArray, List.set_cons_zero, List.set_cons_succ]
          refine wpAnyH_take (i := 1) (v := .agg VI.arr) rfl (by kernel_rfl) (by kernel_rfl) (by kernel_rfl) (fun _ _ _ h => h) (yields_run _ rfl (by rfl) rfl (fun W hW => hW.1)) H0.out ?_
          try simp only [Act.put, List.getElem_toArray, List.getElem_cons_succ, List.getElem_cons_zero, List.setIfInBounds_toArray, List.set_cons_zero, List.set_cons_succ]
          refine wpAnyH_take (i := 3) (v := .pointer (some ⟨r, 0, none⟩)) rfl (by kernel_rfl) (by kernel_rfl) (by kernel_rfl) (fun _ _ _ h => h) (Or.inl ⟨by rfl, fun W hW => by clear hW; go_simp⟩) H0.out ?_
          try simp only [Act.put, List.getElem_toArray, List.getElem_cons_succ, List.getElem_cons_zero, List.setIfInBounds_toArray, List.set_cons_zero, List.set_cons_succ]
          refine wpAnyH_take (i := 4) (v := .agg VI.arr) rfl (by kernel_rfl) (by kernel_rfl) (by kernel_rfl) (fun _ _ _ h => h) (yields_run _ rfl (by rfl) rfl (fun W hW => hW.2)) H0.out ?_
          try simp only [Act.put, List.getElem_toArray, List.getElem_cons_succ, List.getElem_cons_zero, List.setIfInBounds_toArray, List.set_cons_zero, List.set_cons_succ]
          refine wpAnyH_ready (rs := [2]) (by kernel_rfl) (by simp) ?_
          refine AllReadyH.cons rfl (fun K hK => ?_) AllReadyH.nil
          go_simp
          go_at_call 15
          refine (P1.out _ _ HS0.out).mono ?_
          rintro e1 V1 ⟨rfl, hs1⟩
          have HS1 := Lib.hid hs1
          clear hs1
          have H1_ := Lib.hid (CB7.out _ _ _ _ HS1.out)
          refine hK.out _ _ H1_.out (fun _ => ?_)
          clear hK K
          try simp only [Act.put, List.getElem_toArray, List.getElem_cons_succ, List.getElem_cons_zero, List.setIfInBounds_toArray, List.set_cons_zero, List.set_cons_succ]
          refine wpAnyH_ready (rs := [5]) (by kernel_rfl) (by simp) ?_
          refine AllReadyH.cons rfl (fun K hK => ?_) AllReadyH.nil
          go_simp
          go_at_call 16
          refine (P2.out _ _ _ HS1.out).mono ?_
          rintro e2 V2 ⟨rfl, hs2⟩
          have HS2 := Lib.hid hs2
          clear hs2
          have H2_ := Lib.hid (CB7.out _ _ _ _ HS2.out)
          refine hK.out _ _ H2_.out (fun _ => ?_)
          clear hK K
          try simp only [Act.put, List.getElem_toArray, List.getElem_cons_succ, List.getElem_cons_zero, List.setIfInBounds_toArray, List.set_cons_zero, List.set_cons_succ]
          refine wpAnyH_take (i := 6) (v := .int .i64 K1) rfl (by kernel_rfl) (by kernel_rfl) (by kernel_rfl) (fun _ _ _ h => h) (Or.inl ⟨by rfl, fun W hW => by clear hW; go_simp⟩) H2_.out ?_
          try simp only [Act.put, List.getElem_toArray, List.getElem_cons_succ, List.getElem_cons_zero, List.setIfInBounds_toArray, List.set_cons_zero, List.set_cons_succ]
          refine wpAnyH_take (i := 7) (v := .int .i64 K1) rfl (by kernel_rfl) (by kernel_rfl) (by kernel_rfl) (fun _ _ _ h => h) (Or.inl ⟨by rfl, fun W hW => by clear hW; go_simp⟩) H2_.out ?_
          try simp only [Act.put, List.getElem_toArray, List.getElem_cons_succ, List.getElem_cons_zero, List.setIfInBounds_toArray, List.set_cons_zero, List.set_cons_succ]
          refine wpAnyH_done (by kernel_rfl) ?_ _
          go_wp2
          go_meet
          exact ⟨K1, l2, rfl, rfl, I2.out, ln2.out, HS2.out.tail.tail⟩
      case rest =>
      obtain ⟨K, l2, rfl, rfl, I2, ln2, h4⟩ := hcut
      clear h3 d0
      have R21 := Lib.hid (fun V L0 (h : BW w V g b r p l2 l2 L0) => show Calls Try.prog 21 #[.pointer (some ⟨g, 0, none⟩), .int .i64 e.bk] V (fun e1 W1 => e1 = .returned (.int .i64 (roomV p l2 e.bk)) ∧ ∃ j, W1 = V.drewN j) from by
        obtain ⟨N, h1, _⟩ := h.mc
        exact room_any h1 HQ.out e.bk)
      have R22 := Lib.hid (fun V L0 (h : BW w V g b r p l2 l2 L0) => show Calls Try.prog 22 #[.pointer (some ⟨r, 0, none⟩), .int .i64 e.bk] V (fun e1 W1 => e1 = .returned (.int .i64 (roomV p l2 e.bk)) ∧ ∃ j, W1 = V.drewN j) from by
        obtain ⟨N, h1, _⟩ := h.rc
        exact rroom_any h1 HQ.out e.bk)
      have G19 := Lib.hid (fun V L0 (h : BW w V g b r p l2 l2 L0) => b19 h I2 e.it)
      have G20 := Lib.hid (fun V L0 (h : BW w V g b r p l2 l2 L0) => b20 h e.it)
      generalize roomV p l2 e.bk = RO at *
      have q1 := (CB.out _ _ _ h4).2.1
      have kk : (K != K) = false := bne_self_eq_false K
      have rr : (RO != RO) = false := bne_self_eq_false RO
      rcases fI_spec l2 e.it with ⟨hf, hF⟩ | ⟨i, Z, hf, hi, hF⟩
      · as_aux_lemma =>
        have hg : getC l2 e.it = zcd := by unfold getC; rw [hf]; rfl
        rw [hg, hf] at G19
        rw [hF] at G20
        have NQ := Lib.hid (fun V => show (binOp .neq 59 (.agg zcd.arr) (.agg zcd.arr)).run Try.prog V = .ok (.bool false) V from by rw [neq_cd, decide_eq_true rfl]; rfl)
        replace I2 := Lib.hid I2
        clear hf hF hg
        go_wp2_with (first
          | (have _ := q1; refine wpList_load_run q1 _ rfl rfl rfl ?_; clear q1)
          | (have _ := h4; go_at_call 19; refine (G19.out _ _ h4).mono ?_; clear G19; rintro e1 X5 ⟨rfl, h5⟩; clear h4)
          | (have _ := h5; refine wpList_alloc_cdB h5 rfl rfl ?_; clear h5; intro X6 h6; generalize X5.heap.size = nb2 at *)
          | (have _ := h6; refine wpList_store_cdB h6 0 zcd rfl _ _ rfl rfl rfl rfl ?_; clear h6; intro X7 h7; replace h7 : BW w X7 g b r p l2 l2 ((nb2, C 59 zcd.arr) :: [(cb, C 47 e.arr), (pb, C 28 p.arr)]) := h7; have q2 := (CB.out _ _ _ h7.tail).2.1)
          | (have _ := q2; refine wpList_load_run q2 _ rfl rfl rfl ?_; clear q2)
          | (have _ := h7; go_at_call 20; refine (G20.out _ _ h7).mono ?_; clear G20; rintro e2 X8 ⟨rfl, h8⟩; clear h7))
        have HS0 := Lib.hid h8.drew
        clear h8
        have CBH := Lib.hid (fun W (hv : W.heap = X8.drew.heap) => show W.cell? ⟨cb, 1, none⟩ = some (.int .i64 e.bk) ∧ (loadVar 59 ⟨nb2, 0, none⟩).run Try.prog W = .ok (.agg zcd.arr) W from by
          have a1 := (CB.out _ _ _ HS0.out.tail).1
          have a2 := at_heap hv (HS0.out.at2 0 rfl)
          exact ⟨(cell_heap hv).trans a1, load_cdA a2⟩)
        have H0 := Lib.hid (CBH.out _ rfl)
        refine wp_region_held_drew (S := fun W => W.cell? ⟨cb, 1, none⟩ = some (.int .i64 e.bk) ∧ (loadVar 59 ⟨nb2, 0, none⟩).run Try.prog W = .ok (.agg zcd.arr) W) (by kernel_rfl) H0.out (fun _ => ?_)
        generalize World.drew _ = V0 at *
        refine wpAnyH_take (i := 0) (v := .int .i64 K) rfl (by kernel_rfl) (by kernel_rfl) (by kernel_rfl) (fun _ _ _ h => h) (Or.inl ⟨by rfl, fun W hW => by clear hW; go_simp⟩) H0.out ?_
        try simp only [Act.put, List.getElem_toArray, List.getElem_cons_succ, List.getElem_cons_zero, List.setIfInBounds_toArray, List.set_cons_zero, List.set_cons_succ]
        refine wpAnyH_take (i := 1) (v := .int .i64 K) rfl (by kernel_rfl) (by kernel_rfl) (by kernel_rfl) (fun _ _ _ h => h) (Or.inl ⟨by rfl, fun W hW => by clear hW; go_simp⟩) H0.out ?_
        try simp only [Act.put, List.getElem_toArray, List.getElem_cons_succ, List.getElem_cons_zero, List.setIfInBounds_toArray, List.set_cons_zero, List.set_cons_succ]
        refine wpAnyH_take (i := 2) (v := .bool false) rfl (by kernel_rfl) (by kernel_rfl) (by kernel_rfl) (fun _ _ _ h => h) (Or.inl ⟨by rfl, fun W hW => by clear hW; go_simp⟩) H0.out ?_
        try simp only [Act.put, List.getElem_toArray, List.getElem_cons_succ, List.getElem_cons_zero, List.setIfInBounds_toArray, List.set_cons_zero, List.set_cons_succ]
        refine wpAnyH_take (i := 3) (v := .bool false) rfl (by kernel_rfl) (by kernel_rfl) (by kernel_rfl) (fun _ _ _ h => h) (Or.inl ⟨by rfl, fun W hW => by clear hW; go_simp⟩) H0.out ?_
        try simp only [Act.put, List.getElem_toArray, List.getElem_cons_succ, List.getElem_cons_zero, List.setIfInBounds_toArray, List.set_cons_zero, List.set_cons_succ]
        refine wpAnyH_take (i := 4) (v := .pointer (some ⟨g, 0, none⟩)) rfl (by kernel_rfl) (by kernel_rfl) (by kernel_rfl) (fun _ _ _ h => h) (Or.inl ⟨by rfl, fun W hW => by clear hW; go_simp⟩) H0.out ?_
        try simp only [Act.put, List.getElem_toArray, List.getElem_cons_succ, List.getElem_cons_zero, List.setIfInBounds_toArray, List.set_cons_zero, List.set_cons_succ]
        refine wpAnyH_take (i := 5) (v := .pointer (some ⟨cb, 1, none⟩)) rfl (by kernel_rfl) (by kernel_rfl) (by kernel_rfl) (fun _ _ _ h => h) (Or.inl ⟨by rfl, fun W hW => by clear hW; go_simp⟩) H0.out ?_
        try simp only [Act.put, List.getElem_toArray, List.getElem_cons_succ, List.getElem_cons_zero, List.setIfInBounds_toArray, List.set_cons_zero, List.set_cons_succ]
        refine wpAnyH_take (i := 6) (v := .int .i64 e.bk) rfl (by kernel_rfl) (by kernel_rfl) (by kernel_rfl) (fun _ _ _ h => h) (Or.inl ⟨by rfl, fun W hW => by have hc := (show W.cell? ⟨cb, 1, none⟩ = some (.int .i64 e.bk) from hW.1); clear hW; go_simp⟩) H0.out ?_
        try simp only [Act.put, List.getElem_toArray, List.getElem_cons_succ, List.getElem_cons_zero, List.setIfInBounds_toArray, List.set_cons_zero, List.set_cons_succ]
        refine wpAnyH_take (i := 8) (v := .pointer (some ⟨r, 0, none⟩)) rfl (by kernel_rfl) (by kernel_rfl) (by kernel_rfl) (fun _ _ _ h => h) (Or.inl ⟨by rfl, fun W hW => by clear hW; go_simp⟩) H0.out ?_
        try simp only [Act.put, List.getElem_toArray, List.getElem_cons_succ, List.getElem_cons_zero, List.setIfInBounds_toArray, List.set_cons_zero, List.set_cons_succ]
        refine wpAnyH_take (i := 9) (v := .pointer (some ⟨cb, 1, none⟩)) rfl (by kernel_rfl) (by kernel_rfl) (by kernel_rfl) (fun _ _ _ h => h) (Or.inl ⟨by rfl, fun W hW => by clear hW; go_simp⟩) H0.out ?_
        try simp only [Act.put, List.getElem_toArray, List.getElem_cons_succ, List.getElem_cons_zero, List.setIfInBounds_toArray, List.set_cons_zero, List.set_cons_succ]
        refine wpAnyH_take (i := 10) (v := .int .i64 e.bk) rfl (by kernel_rfl) (by kernel_rfl) (by kernel_rfl) (fun _ _ _ h => h) (Or.inl ⟨by rfl, fun W hW => by have hc := (show W.cell? ⟨cb, 1, none⟩ = some (.int .i64 e.bk) from hW.1); clear hW; go_simp⟩) H0.out ?_
        try simp only [Act.put, List.getElem_toArray, List.getElem_cons_succ, List.getElem_cons_zero, List.setIfInBounds_toArray, List.set_cons_zero, List.set_cons_succ]
        refine wpAnyH_ready (rs := [7]) (by kernel_rfl) (by simp) ?_
        refine AllReadyH.cons rfl (fun K hK => ?_) AllReadyH.nil
        go_simp
        go_at_call 21
        refine (R21.out _ _ HS0.out).mono ?_
        rintro e1 V1 ⟨rfl, j1, rfl⟩
        have HS1 := Lib.hid (HS0.out.drewN j1)
        have H1_ := Lib.hid (CBH.out (V0.drewN j1) rfl)
        refine hK.out _ _ H1_.out (fun _ => ?_)
        clear hK K
        try simp only [Act.put, List.getElem_toArray, List.getElem_cons_succ, List.getElem_cons_zero, List.setIfInBounds_toArray, List.set_cons_zero, List.set_cons_succ]
        refine wpAnyH_ready (rs := [11]) (by kernel_rfl) (by simp) ?_
        refine AllReadyH.cons rfl (fun K hK => ?_) AllReadyH.nil
        go_simp
        go_at_call 22
        refine (R22.out _ _ HS1.out).mono ?_
        rintro e2 V2 ⟨rfl, j2, rfl⟩
        have HS2 := Lib.hid (HS1.out.drewN j2)
        have H2_ := Lib.hid (CBH.out ((V0.drewN j1).drewN j2) rfl)
        refine hK.out _ _ H2_.out (fun _ => ?_)
        clear hK K
        try simp only [Act.put, List.getElem_toArray, List.getElem_cons_succ, List.getElem_cons_zero, List.setIfInBounds_toArray, List.set_cons_zero, List.set_cons_succ]
        refine wpAnyH_take (i := 12) (v := .bool false) rfl (by kernel_rfl) (by kernel_rfl) (by kernel_rfl) (fun _ _ _ h => h) (Or.inl ⟨by rfl, fun W hW => by clear hW; go_simp⟩) H2_.out ?_
        try simp only [Act.put, List.getElem_toArray, List.getElem_cons_succ, List.getElem_cons_zero, List.setIfInBounds_toArray, List.set_cons_zero, List.set_cons_succ]
        refine wpAnyH_take (i := 13) (v := .bool false) rfl (by kernel_rfl) (by kernel_rfl) (by kernel_rfl) (fun _ _ _ h => h) (Or.inl ⟨by rfl, fun W hW => by clear hW; go_simp⟩) H2_.out ?_
        try simp only [Act.put, List.getElem_toArray, List.getElem_cons_succ, List.getElem_cons_zero, List.setIfInBounds_toArray, List.set_cons_zero, List.set_cons_succ]
        refine wpAnyH_take (i := 14) (v := .bool false) rfl (by kernel_rfl) (by kernel_rfl) (by kernel_rfl) (fun _ _ _ h => h) (Or.inl ⟨by rfl, fun W hW => by clear hW; go_simp⟩) H2_.out ?_
        try simp only [Act.put, List.getElem_toArray, List.getElem_cons_succ, List.getElem_cons_zero, List.setIfInBounds_toArray, List.set_cons_zero, List.set_cons_succ]
        refine wpAnyH_take (i := 15) (v := .bool false) rfl (by kernel_rfl) (by kernel_rfl) (by kernel_rfl) (fun _ _ _ h => h) (Or.inl ⟨by rfl, fun W hW => by clear hW; go_simp⟩) H2_.out ?_
        try simp only [Act.put, List.getElem_toArray, List.getElem_cons_succ, List.getElem_cons_zero, List.setIfInBounds_toArray, List.set_cons_zero, List.set_cons_succ]
        refine wpAnyH_take (i := 16) (v := .int .i64 (-1)) rfl (by kernel_rfl) (by kernel_rfl) (by kernel_rfl) (fun _ _ _ h => h) (Or.inl ⟨by rfl, fun W hW => by clear hW; go_simp⟩) H2_.out ?_
        try simp only [Act.put, List.getElem_toArray, List.getElem_cons_succ, List.getElem_cons_zero, List.setIfInBounds_toArray, List.set_cons_zero, List.set_cons_succ]
        refine wpAnyH_take (i := 17) (v := .bool false) rfl (by kernel_rfl) (by kernel_rfl) (by kernel_rfl) (fun _ _ _ h => h) (Or.inl ⟨by rfl, fun W hW => by clear hW; go_simp⟩) H2_.out ?_
        try simp only [Act.put, List.getElem_toArray, List.getElem_cons_succ, List.getElem_cons_zero, List.setIfInBounds_toArray, List.set_cons_zero, List.set_cons_succ]
        refine wpAnyH_take (i := 18) (v := .bool false) rfl (by kernel_rfl) (by kernel_rfl) (by kernel_rfl) (fun _ _ _ h => h) (Or.inl ⟨by rfl, fun W hW => by clear hW; go_simp⟩) H2_.out ?_
        try simp only [Act.put, List.getElem_toArray, List.getElem_cons_succ, List.getElem_cons_zero, List.setIfInBounds_toArray, List.set_cons_zero, List.set_cons_succ]
        refine wpAnyH_take (i := 19) (v := .bool false) rfl (by kernel_rfl) (by kernel_rfl) (by kernel_rfl) (fun _ _ _ h => h) (Or.inl ⟨by rfl, fun W hW => by clear hW; go_simp⟩) H2_.out ?_
        try simp only [Act.put, List.getElem_toArray, List.getElem_cons_succ, List.getElem_cons_zero, List.setIfInBounds_toArray, List.set_cons_zero, List.set_cons_succ]
        refine wpAnyH_take (i := 20) (v := .bool false) rfl (by kernel_rfl) (by kernel_rfl) (by kernel_rfl) (fun _ _ _ h => h) (Or.inl ⟨by rfl, fun W hW => by clear hW; go_simp⟩) H2_.out ?_
        try simp only [Act.put, List.getElem_toArray, List.getElem_cons_succ, List.getElem_cons_zero, List.setIfInBounds_toArray, List.set_cons_zero, List.set_cons_succ]
        refine wpAnyH_take (i := 21) (v := .bool false) rfl (by kernel_rfl) (by kernel_rfl) (by kernel_rfl) (fun _ _ _ h => h) (Or.inl ⟨by rfl, fun W hW => by clear hW; go_simp⟩) H2_.out ?_
        try simp only [Act.put, List.getElem_toArray, List.getElem_cons_succ, List.getElem_cons_zero, List.setIfInBounds_toArray, List.set_cons_zero, List.set_cons_succ]
        refine wpAnyH_take (i := 22) (v := .bool false) rfl (by kernel_rfl) (by kernel_rfl) (by kernel_rfl) (fun _ _ _ h => h) (Or.inl ⟨by rfl, fun W hW => by clear hW; go_simp⟩) H2_.out ?_
        try simp only [Act.put, List.getElem_toArray, List.getElem_cons_succ, List.getElem_cons_zero, List.setIfInBounds_toArray, List.set_cons_zero, List.set_cons_succ]
        refine wpAnyH_take (i := 23) (v := undef) rfl (by kernel_rfl) (by kernel_rfl) (by kernel_rfl) (fun _ _ _ h => h) (Or.inr ⟨by rfl, rfl⟩) H2_.out ?_
        try simp only [Act.put, List.getElem_toArray, List.getElem_cons_succ, List.getElem_cons_zero, List.setIfInBounds_toArray, List.set_cons_zero, List.set_cons_succ]
        refine wpAnyH_take (i := 24) (v := undef) rfl (by kernel_rfl) (by kernel_rfl) (by kernel_rfl) (fun _ _ _ h => h) (Or.inr ⟨by rfl, rfl⟩) H2_.out ?_
        try simp only [Act.put, List.getElem_toArray, List.getElem_cons_succ, List.getElem_cons_zero, List.setIfInBounds_toArray, List.set_cons_zero, List.set_cons_succ]
        refine wpAnyH_take (i := 25) (v := undef) rfl (by kernel_rfl) (by kernel_rfl) (by kernel_rfl) (fun _ _ _ h => h) (Or.inr ⟨by rfl, rfl⟩) H2_.out ?_
        try simp only [Act.put, List.getElem_toArray, List.getElem_cons_succ, List.getElem_cons_zero, List.setIfInBounds_toArray, List.set_cons_zero, List.set_cons_succ]
        refine wpAnyH_take (i := 26) (v := undef) rfl (by kernel_rfl) (by kernel_rfl) (by kernel_rfl) (fun _ _ _ h => h) (Or.inr ⟨by rfl, rfl⟩) H2_.out ?_
        try simp only [Act.put, List.getElem_toArray, List.getElem_cons_succ, List.getElem_cons_zero, List.setIfInBounds_toArray, List.set_cons_zero, List.set_cons_succ]
        refine wpAnyH_take (i := 27) (v := undef) rfl (by kernel_rfl) (by kernel_rfl) (by kernel_rfl) (fun _ _ _ h => h) (Or.inr ⟨by rfl, rfl⟩) H2_.out ?_
        try simp only [Act.put, List.getElem_toArray, List.getElem_cons_succ, List.getElem_cons_zero, List.setIfInBounds_toArray, List.set_cons_zero, List.set_cons_succ]
        refine wpAnyH_take (i := 28) (v := undef) rfl (by kernel_rfl) (by kernel_rfl) (by kernel_rfl) (fun _ _ _ h => h) (Or.inr ⟨by rfl, rfl⟩) H2_.out ?_
        try simp only [Act.put, List.getElem_toArray, List.getElem_cons_succ, List.getElem_cons_zero, List.setIfInBounds_toArray, List.set_cons_zero, List.set_cons_succ]
        refine wpAnyH_take (i := 29) (v := undef) rfl (by kernel_rfl) (by kernel_rfl) (by kernel_rfl) (fun _ _ _ h => h) (Or.inr ⟨by rfl, rfl⟩) H2_.out ?_
        try simp only [Act.put, List.getElem_toArray, List.getElem_cons_succ, List.getElem_cons_zero, List.setIfInBounds_toArray, List.set_cons_zero, List.set_cons_succ]
        refine wpAnyH_take (i := 30) (v := undef) rfl (by kernel_rfl) (by kernel_rfl) (by kernel_rfl) (fun _ _ _ h => h) (Or.inr ⟨by rfl, rfl⟩) H2_.out ?_
        try simp only [Act.put, List.getElem_toArray, List.getElem_cons_succ, List.getElem_cons_zero, List.setIfInBounds_toArray, List.set_cons_zero, List.set_cons_succ]
        refine wpAnyH_take (i := 31) (v := undef) rfl (by kernel_rfl) (by kernel_rfl) (by kernel_rfl) (fun _ _ _ h => h) (Or.inr ⟨by rfl, rfl⟩) H2_.out ?_
        try simp only [Act.put, List.getElem_toArray, List.getElem_cons_succ, List.getElem_cons_zero, List.setIfInBounds_toArray, List.set_cons_zero, List.set_cons_succ]
        refine wpAnyH_take (i := 32) (v := .bool false) rfl (by kernel_rfl) (by kernel_rfl) (by kernel_rfl) (fun _ _ _ h => h) (Or.inl ⟨by rfl, fun W hW => by clear hW; go_simp⟩) H2_.out ?_
        try simp only [Act.put, List.getElem_toArray, List.getElem_cons_succ, List.getElem_cons_zero, List.setIfInBounds_toArray, List.set_cons_zero, List.set_cons_succ]
        refine wpAnyH_take (i := 33) (v := .bool false) rfl (by kernel_rfl) (by kernel_rfl) (by kernel_rfl) (fun _ _ _ h => h) (Or.inl ⟨by rfl, fun W hW => by clear hW; go_simp⟩) H2_.out ?_
        try simp only [Act.put, List.getElem_toArray, List.getElem_cons_succ, List.getElem_cons_zero, List.setIfInBounds_toArray, List.set_cons_zero, List.set_cons_succ]
        refine wpAnyH_take (i := 34) (v := .bool false) rfl (by kernel_rfl) (by kernel_rfl) (by kernel_rfl) (fun _ _ _ h => h) (Or.inl ⟨by rfl, fun W hW => by clear hW; go_simp⟩) H2_.out ?_
        try simp only [Act.put, List.getElem_toArray, List.getElem_cons_succ, List.getElem_cons_zero, List.setIfInBounds_toArray, List.set_cons_zero, List.set_cons_succ]
        refine wpAnyH_take (i := 35) (v := .bool false) rfl (by kernel_rfl) (by kernel_rfl) (by kernel_rfl) (fun _ _ _ h => h) (Or.inl ⟨by rfl, fun W hW => by clear hW; go_simp⟩) H2_.out ?_
        try simp only [Act.put, List.getElem_toArray, List.getElem_cons_succ, List.getElem_cons_zero, List.setIfInBounds_toArray, List.set_cons_zero, List.set_cons_succ]
        refine wpAnyH_take (i := 36) (v := .bool true) rfl (by kernel_rfl) (by kernel_rfl) (by kernel_rfl) (fun _ _ _ h => h) (Or.inl ⟨by rfl, fun W hW => by clear hW; go_simp⟩) H2_.out ?_
        try simp only [Act.put, List.getElem_toArray, List.getElem_cons_succ, List.getElem_cons_zero, List.setIfInBounds_toArray, List.set_cons_zero, List.set_cons_succ]
        refine wpAnyH_take (i := 37) (v := .bool true) rfl (by kernel_rfl) (by kernel_rfl) (by kernel_rfl) (fun _ _ _ h => h) (Or.inl ⟨by rfl, fun W hW => by clear hW; go_simp⟩) H2_.out ?_
        try simp only [Act.put, List.getElem_toArray, List.getElem_cons_succ, List.getElem_cons_zero, List.setIfInBounds_toArray, List.set_cons_zero, List.set_cons_succ]
        refine wpAnyH_take (i := 38) (v := .agg zcd.arr) rfl (by kernel_rfl) (by kernel_rfl) (by kernel_rfl) (fun _ _ _ h => h) (yields_run _ rfl (by rfl) rfl (fun W hW => hW.2)) H2_.out ?_
        try simp only [Act.put, List.getElem_toArray, List.getElem_cons_succ, List.getElem_cons_zero, List.setIfInBounds_toArray, List.set_cons_zero, List.set_cons_succ]
        refine wpAnyH_take (i := 39) (v := .agg zcd.arr) rfl (by kernel_rfl) (by kernel_rfl) (by kernel_rfl) (fun _ _ _ h => h) (yields_build 59 [] rfl (by rfl) _ (by exact built59)) H2_.out ?_
        try simp only [Act.put, List.getElem_toArray, List.getElem_cons_succ, List.getElem_cons_zero, List.setIfInBounds_toArray, List.set_cons_zero, List.set_cons_succ]
        refine wpAnyH_take (i := 40) (v := .bool false) rfl (by kernel_rfl) (by kernel_rfl) (by kernel_rfl) (fun _ _ _ h => h) (yields_cmpA _ _ rfl (by rfl) rfl rfl (by kernel_rfl) NQ.out) H2_.out ?_
        try simp only [Act.put, List.getElem_toArray, List.getElem_cons_succ, List.getElem_cons_zero, List.setIfInBounds_toArray, List.set_cons_zero, List.set_cons_succ]
        refine wpAnyH_take (i := 41) (v := .bool false) rfl (by kernel_rfl) (by kernel_rfl) (by kernel_rfl) (fun _ _ _ h => h) (Or.inl ⟨by rfl, fun W hW => by clear hW; go_simp⟩) H2_.out ?_
        try simp only [Act.put, List.getElem_toArray, List.getElem_cons_succ, List.getElem_cons_zero, List.setIfInBounds_toArray, List.set_cons_zero, List.set_cons_succ]
        refine wpAnyH_take (i := 42) (v := .bool false) rfl (by kernel_rfl) (by kernel_rfl) (by kernel_rfl) (fun _ _ _ h => h) (Or.inl ⟨by rfl, fun W hW => by clear hW; go_simp⟩) H2_.out ?_
        try simp only [Act.put, List.getElem_toArray, List.getElem_cons_succ, List.getElem_cons_zero, List.setIfInBounds_toArray, List.set_cons_zero, List.set_cons_succ]
        refine wpAnyH_done (by kernel_rfl) ?_ _
        go_wp2
        go_roundw
        case rel => exact ⟨j + 1, l2, by omega, by go_num, I2.out, ln2, (HS0.out.drewN (j1 + j2)).tail.tail⟩
        case measure => simp [intOf]; omega
      · as_aux_lemma =>
        have hg : getC l2 e.it = Z := by unfold getC; rw [hf]; rfl
        rw [hg, hf] at G19
        rw [hF] at G20
        have NQ := Lib.hid (fun V => show (binOp .neq 59 (.agg Z.arr) (.agg Z.arr)).run Try.prog V = .ok (.bool false) V from by rw [neq_cd, decide_eq_true rfl]; rfl)
        replace I2 := Lib.hid I2
        clear hf hF hg
        go_wp2_with (first
          | (have _ := q1; refine wpList_load_run q1 _ rfl rfl rfl ?_; clear q1)
          | (have _ := h4; go_at_call 19; refine (G19.out _ _ h4).mono ?_; clear G19; rintro e1 X5 ⟨rfl, h5⟩; clear h4)
          | (have _ := h5; refine wpList_alloc_cdB h5 rfl rfl ?_; clear h5; intro X6 h6; generalize X5.heap.size = nb2 at *)
          | (have _ := h6; refine wpList_store_cdB h6 0 Z rfl _ _ rfl rfl rfl rfl ?_; clear h6; intro X7 h7; replace h7 : BW w X7 g b r p l2 l2 ((nb2, C 59 Z.arr) :: [(cb, C 47 e.arr), (pb, C 28 p.arr)]) := h7; have q2 := (CB.out _ _ _ h7.tail).2.1)
          | (have _ := q2; refine wpList_load_run q2 _ rfl rfl rfl ?_; clear q2)
          | (have _ := h7; go_at_call 20; refine (G20.out _ _ h7).mono ?_; clear G20; rintro e2 X8 ⟨rfl, h8⟩; clear h7))
        have HS0 := Lib.hid h8.drew
        clear h8
        obtain ⟨A2, q2, c46, er⟩ := HS0.out.row
        obtain ⟨bb, o, rfl, hb2, rg⟩ := er.at_ i Z hi
        have hb3 := (List.getElem?_eq_some_iff.1 hi).1
        clear er hi hb2
        generalize hn2 : l2.length = n2 at *
        have x1 : (0 ≤ (i : Int)) = True := eq_true (by omega)
        have x2 : ((i : Int) < (n2 : Int)) = True := eq_true (by omega)
        have x3 : ((i : Int) ≥ 0) = True := eq_true (by omega)
        have x4 : decide ((i : Int) ≥ 0) = true := decide_eq_true (by omega)
        have x5 : decide (0 ≤ (i : Int)) = true := decide_eq_true (by omega)
        have CBH := Lib.hid (fun W (hv : W.heap = X8.drew.heap) => show W.cell? ⟨cb, 1, none⟩ = some (.int .i64 e.bk) ∧ (loadVar 59 ⟨nb2, 0, none⟩).run Try.prog W = .ok (.agg Z.arr) W ∧ W.cell? ⟨r, 46, none⟩ = some (.slice (some ⟨bb, o, none⟩) n2 q2) ∧ (loadVar 59 ⟨bb, o + i * 36, none⟩).run Try.prog W = .ok (.agg Z.arr) W from by
          have a1 := (CB.out _ _ _ HS0.out.tail).1
          have a2 := at_heap hv (HS0.out.at2 0 rfl)
          exact ⟨(cell_heap hv).trans a1, load_cdA a2, (cell_heap hv).trans c46, load_cd (rangeAt_keep rg (by rw [hv]))⟩)
        have H0 := Lib.hid (CBH.out _ rfl)
        refine wp_region_held_drew (S := fun W => W.cell? ⟨cb, 1, none⟩ = some (.int .i64 e.bk) ∧ (loadVar 59 ⟨nb2, 0, none⟩).run Try.prog W = .ok (.agg Z.arr) W ∧ W.cell? ⟨r, 46, none⟩ = some (.slice (some ⟨bb, o, none⟩) n2 q2) ∧ (loadVar 59 ⟨bb, o + i * 36, none⟩).run Try.prog W = .ok (.agg Z.arr) W) (by kernel_rfl) H0.out (fun _ => ?_)
        generalize World.drew _ = V0 at *
        refine wpAnyH_take (i := 0) (v := .int .i64 K) rfl (by kernel_rfl) (by kernel_rfl) (by kernel_rfl) (fun _ _ _ h => h) (Or.inl ⟨by rfl, fun W hW => by clear hW; go_simp⟩) H0.out ?_
        try simp only [Act.put, List.getElem_toArray, List.getElem_cons_succ, List.getElem_cons_zero, List.setIfInBounds_toArray, List.set_cons_zero, List.set_cons_succ]
        refine wpAnyH_take (i := 1) (v := .int .i64 K) rfl (by kernel_rfl) (by kernel_rfl) (by kernel_rfl) (fun _ _ _ h => h) (Or.inl ⟨by rfl, fun W hW => by clear hW; go_simp⟩) H0.out ?_
        try simp only [Act.put, List.getElem_toArray, List.getElem_cons_succ, List.getElem_cons_zero, List.setIfInBounds_toArray, List.set_cons_zero, List.set_cons_succ]
        refine wpAnyH_take (i := 2) (v := .bool false) rfl (by kernel_rfl) (by kernel_rfl) (by kernel_rfl) (fun _ _ _ h => h) (Or.inl ⟨by rfl, fun W hW => by clear hW; go_simp⟩) H0.out ?_
        try simp only [Act.put, List.getElem_toArray, List.getElem_cons_succ, List.getElem_cons_zero, List.setIfInBounds_toArray, List.set_cons_zero, List.set_cons_succ]
        refine wpAnyH_take (i := 3) (v := .bool false) rfl (by kernel_rfl) (by kernel_rfl) (by kernel_rfl) (fun _ _ _ h => h) (Or.inl ⟨by rfl, fun W hW => by clear hW; go_simp⟩) H0.out ?_
        try simp only [Act.put, List.getElem_toArray, List.getElem_cons_succ, List.getElem_cons_zero, List.setIfInBounds_toArray, List.set_cons_zero, List.set_cons_succ]
        refine wpAnyH_take (i := 4) (v := .pointer (some ⟨g, 0, none⟩)) rfl (by kernel_rfl) (by kernel_rfl) (by kernel_rfl) (fun _ _ _ h => h) (Or.inl ⟨by rfl, fun W hW => by clear hW; go_simp⟩) H0.out ?_
        try simp only [Act.put, List.getElem_toArray, List.getElem_cons_succ, List.getElem_cons_zero, List.setIfInBounds_toArray, List.set_cons_zero, List.set_cons_succ]
        refine wpAnyH_take (i := 5) (v := .pointer (some ⟨cb, 1, none⟩)) rfl (by kernel_rfl) (by kernel_rfl) (by kernel_rfl) (fun _ _ _ h => h) (Or.inl ⟨by rfl, fun W hW => by clear hW; go_simp⟩) H0.out ?_
        try simp only [Act.put, List.getElem_toArray, List.getElem_cons_succ, List.getElem_cons_zero, List.setIfInBounds_toArray, List.set_cons_zero, List.set_cons_succ]
        refine wpAnyH_take (i := 6) (v := .int .i64 e.bk) rfl (by kernel_rfl) (by kernel_rfl) (by kernel_rfl) (fun _ _ _ h => h) (Or.inl ⟨by rfl, fun W hW => by have hc := (show W.cell? ⟨cb, 1, none⟩ = some (.int .i64 e.bk) from hW.1); clear hW; go_simp⟩) H0.out ?_
        try simp only [Act.put, List.getElem_toArray, List.getElem_cons_succ, List.getElem_cons_zero, List.setIfInBounds_toArray, List.set_cons_zero, List.set_cons_succ]
        refine wpAnyH_take (i := 8) (v := .pointer (some ⟨r, 0, none⟩)) rfl (by kernel_rfl) (by kernel_rfl) (by kernel_rfl) (fun _ _ _ h => h) (Or.inl ⟨by rfl, fun W hW => by clear hW; go_simp⟩) H0.out ?_
        try simp only [Act.put, List.getElem_toArray, List.getElem_cons_succ, List.getElem_cons_zero, List.setIfInBounds_toArray, List.set_cons_zero, List.set_cons_succ]
        refine wpAnyH_take (i := 9) (v := .pointer (some ⟨cb, 1, none⟩)) rfl (by kernel_rfl) (by kernel_rfl) (by kernel_rfl) (fun _ _ _ h => h) (Or.inl ⟨by rfl, fun W hW => by clear hW; go_simp⟩) H0.out ?_
        try simp only [Act.put, List.getElem_toArray, List.getElem_cons_succ, List.getElem_cons_zero, List.setIfInBounds_toArray, List.set_cons_zero, List.set_cons_succ]
        refine wpAnyH_take (i := 10) (v := .int .i64 e.bk) rfl (by kernel_rfl) (by kernel_rfl) (by kernel_rfl) (fun _ _ _ h => h) (Or.inl ⟨by rfl, fun W hW => by have hc := (show W.cell? ⟨cb, 1, none⟩ = some (.int .i64 e.bk) from hW.1); clear hW; go_simp⟩) H0.out ?_
        try simp only [Act.put, List.getElem_toArray, List.getElem_cons_succ, List.getElem_cons_zero, List.setIfInBounds_toArray, List.set_cons_zero, List.set_cons_succ]
        refine wpAnyH_ready (rs := [7]) (by kernel_rfl) (by simp) ?_
        refine AllReadyH.cons rfl (fun K hK => ?_) AllReadyH.nil
        go_simp
        go_at_call 21
        refine (R21.out _ _ HS0.out).mono ?_
        rintro e1 V1 ⟨rfl, j1, rfl⟩
        have HS1 := Lib.hid (HS0.out.drewN j1)
        have H1_ := Lib.hid (CBH.out (V0.drewN j1) rfl)
        refine hK.out _ _ H1_.out (fun _ => ?_)
        clear hK K
        try simp only [Act.put, List.getElem_toArray, List.getElem_cons_succ, List.getElem_cons_zero, List.setIfInBounds_toArray, List.set_cons_zero, List.set_cons_succ]
        refine wpAnyH_ready (rs := [11]) (by kernel_rfl) (by simp) ?_
        refine AllReadyH.cons rfl (fun K hK => ?_) AllReadyH.nil
        go_simp
        go_at_call 22
        refine (R22.out _ _ HS1.out).mono ?_
        rintro e2 V2 ⟨rfl, j2, rfl⟩
        have HS2 := Lib.hid (HS1.out.drewN j2)
        have H2_ := Lib.hid (CBH.out ((V0.drewN j1).drewN j2) rfl)
        refine hK.out _ _ H2_.out (fun _ => ?_)
        clear hK K
        try simp only [Act.put, List.getElem_toArray, List.getElem_cons_succ, List.getElem_cons_zero, List.setIfInBounds_toArray, List.set_cons_zero, List.set_cons_succ]
        refine wpAnyH_take (i := 12) (v := .bool false) rfl (by kernel_rfl) (by kernel_rfl) (by kernel_rfl) (fun _ _ _ h => h) (Or.inl ⟨by rfl, fun W hW => by clear hW; go_simp⟩) H2_.out ?_
        try simp only [Act.put, List.getElem_toArray, List.getElem_cons_succ, List.getElem_cons_zero, List.setIfInBounds_toArray, List.set_cons_zero, List.set_cons_succ]
        refine wpAnyH_take (i := 13) (v := .bool false) rfl (by kernel_rfl) (by kernel_rfl) (by kernel_rfl) (fun _ _ _ h => h) (Or.inl ⟨by rfl, fun W hW => by clear hW; go_simp⟩) H2_.out ?_
        try simp only [Act.put, List.getElem_toArray, List.getElem_cons_succ, List.getElem_cons_zero, List.setIfInBounds_toArray, List.set_cons_zero, List.set_cons_succ]
        refine wpAnyH_take (i := 14) (v := .bool false) rfl (by kernel_rfl) (by kernel_rfl) (by kernel_rfl) (fun _ _ _ h => h) (Or.inl ⟨by rfl, fun W hW => by clear hW; go_simp⟩) H2_.out ?_
        try simp only [Act.put, List.getElem_toArray, List.getElem_cons_succ, List.getElem_cons_zero, List.setIfInBounds_toArray, List.set_cons_zero, List.set_cons_succ]
        refine wpAnyH_take (i := 15) (v := .bool true) rfl (by kernel_rfl) (by kernel_rfl) (by kernel_rfl) (fun _ _ _ h => h) (Or.inl ⟨by rfl, fun W hW => by clear hW; go_simp⟩) H2_.out ?_
        try simp only [Act.put, List.getElem_toArray, List.getElem_cons_succ, List.getElem_cons_zero, List.setIfInBounds_toArray, List.set_cons_zero, List.set_cons_succ]
        refine wpAnyH_take (i := 16) (v := .int .i64 (i : Int)) rfl (by kernel_rfl) (by kernel_rfl) (by kernel_rfl) (fun _ _ _ h => h) (Or.inl ⟨by rfl, fun W hW => by clear hW; go_simp⟩) H2_.out ?_
        try simp only [Act.put, List.getElem_toArray, List.getElem_cons_succ, List.getElem_cons_zero, List.setIfInBounds_toArray, List.set_cons_zero, List.set_cons_succ]
        refine wpAnyH_take (i := 17) (v := .bool true) rfl (by kernel_rfl) (by kernel_rfl) (by kernel_rfl) (fun _ _ _ h => h) (Or.inl ⟨by rfl, fun W hW => by clear hW; go_simp⟩) H2_.out ?_
        try simp only [Act.put, List.getElem_toArray, List.getElem_cons_succ, List.getElem_cons_zero, List.setIfInBounds_toArray, List.set_cons_zero, List.set_cons_succ]
        refine wpAnyH_take (i := 18) (v := .bool false) rfl (by kernel_rfl) (by kernel_rfl) (by kernel_rfl) (fun _ _ _ h => h) (Or.inl ⟨by rfl, fun W hW => by clear hW; go_simp⟩) H2_.out ?_
        try simp only [Act.put, List.getElem_toArray, List.getElem_cons_succ, List.getElem_cons_zero, List.setIfInBounds_toArray, List.set_cons_zero, List.set_cons_succ]
        refine wpAnyH_take (i := 19) (v := .bool false) rfl (by kernel_rfl) (by kernel_rfl) (by kernel_rfl) (fun _ _ _ h => h) (Or.inl ⟨by rfl, fun W hW => by clear hW; go_simp⟩) H2_.out ?_
        try simp only [Act.put, List.getElem_toArray, List.getElem_cons_succ, List.getElem_cons_zero, List.setIfInBounds_toArray, List.set_cons_zero, List.set_cons_succ]
        refine wpAnyH_take (i := 20) (v := .bool false) rfl (by kernel_rfl) (by kernel_rfl) (by kernel_rfl) (fun _ _ _ h => h) (Or.inl ⟨by rfl, fun W hW => by clear hW; go_simp⟩) H2_.out ?_
        try simp only [Act.put, List.getElem_toArray, List.getElem_cons_succ, List.getElem_cons_zero, List.setIfInBounds_toArray, List.set_cons_zero, List.set_cons_succ]
        refine wpAnyH_take (i := 21) (v := .bool true) rfl (by kernel_rfl) (by kernel_rfl) (by kernel_rfl) (fun _ _ _ h => h) (Or.inl ⟨by rfl, fun W hW => by clear hW; go_simp⟩) H2_.out ?_
        try simp only [Act.put, List.getElem_toArray, List.getElem_cons_succ, List.getElem_cons_zero, List.setIfInBounds_toArray, List.set_cons_zero, List.set_cons_succ]
        refine wpAnyH_take (i := 22) (v := .bool true) rfl (by kernel_rfl) (by kernel_rfl) (by kernel_rfl) (fun _ _ _ h => h) (Or.inl ⟨by rfl, fun W hW => by clear hW; go_simp⟩) H2_.out ?_
        try simp only [Act.put, List.getElem_toArray, List.getElem_cons_succ, List.getElem_cons_zero, List.setIfInBounds_toArray, List.set_cons_zero, List.set_cons_succ]
        refine wpAnyH_take (i := 23) (v := .agg Z.arr) rfl (by kernel_rfl) (by kernel_rfl) (by kernel_rfl) (fun _ _ _ h => h) (yields_run _ rfl (by rfl) rfl (fun W hW => hW.2.1)) H2_.out ?_
        try simp only [Act.put, List.getElem_toArray, List.getElem_cons_succ, List.getElem_cons_zero, List.setIfInBounds_toArray, List.set_cons_zero, List.set_cons_succ]
        refine wpAnyH_take (i := 24) (v := .pointer (some ⟨r, 0, none⟩)) rfl (by kernel_rfl) (by kernel_rfl) (by kernel_rfl) (fun _ _ _ h => h) (Or.inl ⟨by rfl, fun W hW => by clear hW; go_simp⟩) H2_.out ?_
        try simp only [Act.put, List.getElem_toArray, List.getElem_cons_succ, List.getElem_cons_zero, List.setIfInBounds_toArray, List.set_cons_zero, List.set_cons_succ]
        refine wpAnyH_take (i := 25) (v := .pointer (some ⟨r, 0, none⟩)) rfl (by kernel_rfl) (by kernel_rfl) (by kernel_rfl) (fun _ _ _ h => h) (Or.inl ⟨by rfl, fun W hW => by clear hW; go_simp⟩) H2_.out ?_
        try simp only [Act.put, List.getElem_toArray, List.getElem_cons_succ, List.getElem_cons_zero, List.setIfInBounds_toArray, List.set_cons_zero, List.set_cons_succ]
        refine wpAnyH_take (i := 26) (v := .pointer (some ⟨r, 46, none⟩)) rfl (by kernel_rfl) (by kernel_rfl) (by kernel_rfl) (fun _ _ _ h => h) (Or.inl ⟨by rfl, fun W hW => by clear hW; go_simp⟩) H2_.out ?_
        try simp only [Act.put, List.getElem_toArray, List.getElem_cons_succ, List.getElem_cons_zero, List.setIfInBounds_toArray, List.set_cons_zero, List.set_cons_succ]
        refine wpAnyH_take (i := 27) (v := .slice (some ⟨bb, o, none⟩) n2 q2) rfl (by kernel_rfl) (by kernel_rfl) (by kernel_rfl) (fun _ _ _ h => h) (Or.inl ⟨by rfl, fun W hW => by have hc := (show W.cell? ⟨r, 46, none⟩ = some (.slice (some ⟨bb, o, none⟩) n2 q2) from hW.2.2.1); clear hW; go_simp⟩) H2_.out ?_
        try simp only [Act.put, List.getElem_toArray, List.getElem_cons_succ, List.getElem_cons_zero, List.setIfInBounds_toArray, List.set_cons_zero, List.set_cons_succ]
        refine wpAnyH_take (i := 28) (v := .int .i64 (i : Int)) rfl (by kernel_rfl) (by kernel_rfl) (by kernel_rfl) (fun _ _ _ h => h) (Or.inl ⟨by rfl, fun W hW => by clear hW; go_simp⟩) H2_.out ?_
        try simp only [Act.put, List.getElem_toArray, List.getElem_cons_succ, List.getElem_cons_zero, List.setIfInBounds_toArray, List.set_cons_zero, List.set_cons_succ]
        refine wpAnyH_take (i := 29) (v := .pointer (some ⟨bb, o + i * 36, none⟩)) rfl (by kernel_rfl) (by kernel_rfl) (by kernel_rfl) (fun _ _ _ h => h) (Or.inl ⟨by rfl, fun W hW => by clear hW; go_simp⟩) H2_.out ?_
        try simp only [Act.put, List.getElem_toArray, List.getElem_cons_succ, List.getElem_cons_zero, List.setIfInBounds_toArray, List.set_cons_zero, List.set_cons_succ]
        refine wpAnyH_take (i := 30) (v := .agg Z.arr) rfl (by kernel_rfl) (by kernel_rfl) (by kernel_rfl) (fun _ _ _ h => h) (yields_run _ rfl (by rfl) rfl (fun W hW => hW.2.2.2)) H2_.out ?_
        try simp only [Act.put, List.getElem_toArray, List.getElem_cons_succ, List.getElem_cons_zero, List.setIfInBounds_toArray, List.set_cons_zero, List.set_cons_succ]
        refine wpAnyH_take (i := 31) (v := .bool false) rfl (by kernel_rfl) (by kernel_rfl) (by kernel_rfl) (fun _ _ _ h => h) (yields_cmpA _ _ rfl (by rfl) rfl rfl (by kernel_rfl) NQ.out) H2_.out ?_
        try simp only [Act.put, List.getElem_toArray, List.getElem_cons_succ, List.getElem_cons_zero, List.setIfInBounds_toArray, List.set_cons_zero, List.set_cons_succ]
        refine wpAnyH_take (i := 32) (v := .bool false) rfl (by kernel_rfl) (by kernel_rfl) (by kernel_rfl) (fun _ _ _ h => h) (Or.inl ⟨by rfl, fun W hW => by clear hW; go_simp⟩) H2_.out ?_
        try simp only [Act.put, List.getElem_toArray, List.getElem_cons_succ, List.getElem_cons_zero, List.setIfInBounds_toArray, List.set_cons_zero, List.set_cons_succ]
        refine wpAnyH_take (i := 33) (v := .bool false) rfl (by kernel_rfl) (by kernel_rfl) (by kernel_rfl) (fun _ _ _ h => h) (Or.inl ⟨by rfl, fun W hW => by clear hW; go_simp⟩) H2_.out ?_
        try simp only [Act.put, List.getElem_toArray, List.getElem_cons_succ, List.getElem_cons_zero, List.setIfInBounds_toArray, List.set_cons_zero, List.set_cons_succ]
        refine wpAnyH_take (i := 34) (v := .bool false) rfl (by kernel_rfl) (by kernel_rfl) (by kernel_rfl) (fun _ _ _ h => h) (Or.inl ⟨by rfl, fun W hW => by clear hW; go_simp⟩) H2_.out ?_
        try simp only [Act.put, List.getElem_toArray, List.getElem_cons_succ, List.getElem_cons_zero, List.setIfInBounds_toArray, List.set_cons_zero, List.set_cons_succ]
        refine wpAnyH_take (i := 35) (v := .bool true) rfl (by kernel_rfl) (by kernel_rfl) (by kernel_rfl) (fun _ _ _ h => h) (Or.inl ⟨by rfl, fun W hW => by clear hW; go_simp⟩) H2_.out ?_
        try simp only [Act.put, List.getElem_toArray, List.getElem_cons_succ, List.getElem_cons_zero, List.setIfInBounds_toArray, List.set_cons_zero, List.set_cons_succ]
        refine wpAnyH_take (i := 36) (v := .bool false) rfl (by kernel_rfl) (by kernel_rfl) (by kernel_rfl) (fun _ _ _ h => h) (Or.inl ⟨by rfl, fun W hW => by clear hW; go_simp⟩) H2_.out ?_
        try simp only [Act.put, List.getElem_toArray, List.getElem_cons_succ, List.getElem_cons_zero, List.setIfInBounds_toArray, List.set_cons_zero, List.set_cons_succ]
        refine wpAnyH_take (i := 37) (v := .bool false) rfl (by kernel_rfl) (by kernel_rfl) (by kernel_rfl) (fun _ _ _ h => h) (Or.inl ⟨by rfl, fun W hW => by clear hW; go_simp⟩) H2_.out ?_
        try simp only [Act.put, List.getElem_toArray, List.getElem_cons_succ, List.getElem_cons_zero, List.setIfInBounds_toArray, List.set_cons_zero, List.set_cons_succ]
        refine wpAnyH_take (i := 38) (v := undef) rfl (by kernel_rfl) (by kernel_rfl) (by kernel_rfl) (fun _ _ _ h => h) (Or.inr ⟨by rfl, rfl⟩) H2_.out ?_
        try simp only [Act.put, List.getElem_toArray, List.getElem_cons_succ, List.getElem_cons_zero, List.setIfInBounds_toArray, List.set_cons_zero, List.set_cons_succ]
        refine wpAnyH_take (i := 39) (v := undef) rfl (by kernel_rfl) (by kernel_rfl) (by kernel_rfl) (fun _ _ _ h => h) (Or.inr ⟨by rfl, rfl⟩) H2_.out ?_
        try simp only [Act.put, List.getElem_toArray, List.getElem_cons_succ, List.getElem_cons_zero, List.setIfInBounds_toArray, List.set_cons_zero, List.set_cons_succ]
        refine wpAnyH_take (i := 40) (v := undef) rfl (by kernel_rfl) (by kernel_rfl) (by kernel_rfl) (fun _ _ _ h => h) (Or.inr ⟨by rfl, rfl⟩) H2_.out ?_
        try simp only [Act.put, List.getElem_toArray, List.getElem_cons_succ, List.getElem_cons_zero, List.setIfInBounds_toArray, List.set_cons_zero, List.set_cons_succ]
        refine wpAnyH_take (i := 41) (v := .bool false) rfl (by kernel_rfl) (by kernel_rfl) (by kernel_rfl) (fun _ _ _ h => h) (Or.inl ⟨by rfl, fun W hW => by clear hW; go_simp⟩) H2_.out ?_
        try simp only [Act.put, List.getElem_toArray, List.getElem_cons_succ, List.getElem_cons_zero, List.setIfInBounds_toArray, List.set_cons_zero, List.set_cons_succ]
        refine wpAnyH_take (i := 42) (v := .bool false) rfl (by kernel_rfl) (by kernel_rfl) (by kernel_rfl) (fun _ _ _ h => h) (Or.inl ⟨by rfl, fun W hW => by clear hW; go_simp⟩) H2_.out ?_
        try simp only [Act.put, List.getElem_toArray, List.getElem_cons_succ, List.getElem_cons_zero, List.setIfInBounds_toArray, List.set_cons_zero, List.set_cons_succ]
        refine wpAnyH_done (by kernel_rfl) ?_ _
        go_wp2
        go_roundw
        case rel => exact ⟨j + 1, l2, by omega, by go_num, I2.out, by rw [hn2]; exact ln2, (HS0.out.drewN (j1 + j2)).tail.tail⟩
        case measure => simp [intOf]; omega
    · obtain rfl : j = n := by omega
      have g1 : ((j : Int) < (j : Int)) = False := eq_false (by omega)
      have AL := Lib.hid (fun V (h : BW w V g b r p l l [(pb, C 28 p.arr)]) => b24 h Il (by omega))
      have BL := Lib.hid (fun V L (h : BW w V g b r p l l L) => b25 h Il)
      go_wp2_with (first
        | (have _ := h1; go_at_call 24; refine (AL.out _ h1).mono ?_; clear AL; rintro e1 X1 ⟨v1, M1, ys, rfl, hr1, hA1, h2⟩; clear h1)
        | (have _ := h2; go_at_call 25; refine (BL.out _ _ h2).mono ?_; clear BL h2; rintro e2 X2 ⟨v2, M2, zs, rfl, hr2, hA2, h3⟩; obtain ⟨A1, c1, rfl, _⟩ := hr1.form; obtain ⟨A2, c2, rfl, _⟩ := hr2.form; obtain rfl := hA1.uniq hA2; have R1 := hr1.row (h3.st.sub (List.sublist_append_right M2 _)) rfl; have R2 := hr2.row h3.st rfl)
        | (have _ := R1; go_at_call 23; refine (same_any R1 R2).mono ?_; clear R1; rintro e3 X3 ⟨rfl, hb3⟩))
      go_ret
      exact ⟨rfl, (h3.call hb3).bel⟩
end Go.Proofs.Ytnogmfpaipjdaaa
