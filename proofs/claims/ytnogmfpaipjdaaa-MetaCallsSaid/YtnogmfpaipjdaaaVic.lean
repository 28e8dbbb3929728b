/- The item that goes first to make room. No statement is proved here. -/
import Derived.Test.YtnogmfpaipjdaaaBen
namespace Go.Proofs.Ytnogmfpaipjdaaa
open Go.RowKit
open P (Pl right hasI vals)
set_option maxRecDepth 20000
set_option linter.unusedVariables false
set_option linter.unusedSimpArgs false

/-- The first one of a bank that is on none of the ways; what is beneath it. -/
def vicC (p : Pl) (l : List Cd) (k : Int) (ks : List It) : Option Cd := if hasB p k = true then (bkL l k.toNat).find? (fun c => !decide (c.it ∈ ways p ks)) else none
def vicI (p : Pl) (l ys : List Cd) (k : Int) (ks : List It) : It := match vicC p l k ks with
  | some c => beneath p ys c.it
  | none => zit
theorem fstC_none {xs : List Cd} {f : Cd → Bool} (h : ∀ i c, i < xs.length → xs[i]? = some c → f c = false) : xs.find? f = none := by
  rw [List.find?_eq_none]
  intro c hc
  obtain ⟨i, hi⟩ := List.getElem?_of_mem hc
  rw [h i c (List.getElem?_eq_some_iff.1 hi).1 hi]
  simp
theorem fstC_some {xs : List Cd} {f : Cd → Bool} {j : Nat} {c : Cd} (hc : xs[j]? = some c) (hk : f c = true) (h : ∀ i c, i < j → xs[i]? = some c → f c = false) : xs.find? f = some c := by
  rw [split_at hc, List.find?_append, List.find?_eq_none.2, Option.none_or, List.find?_cons, hk]
  intro d hd
  obtain ⟨i, hi⟩ := List.getElem?_of_mem hd
  rw [List.getElem?_take] at hi
  split at hi
  · rename_i hlt
    rw [h i d hlt hi]
    simp
  · cases hi
/-- All those ahead are on some way. -/
def OnAll (ws : List It) (xs : List Cd) (j : Nat) : Prop := ∀ i c, i < j → xs[i]? = some c → (!decide (c.it ∈ ws)) = false
theorem onAll_succ {ws : List It} {xs : List Cd} {j : Nat} {y : Cd} (h : OnAll ws xs j) (hy : xs[j]? = some y) (hn : y.it ∈ ws) : OnAll ws xs (j + 1) := fun i c hi hc => by
  rcases Nat.lt_or_ge i j with q | q
  · exact h i c q hc
  · obtain rfl : i = j := by omega
    rw [hy] at hc
    injection hc with hc
    rw [← hc, decide_eq_true hn]; rfl
def VoRel (W : World) (ws : List It) (xs : List Cd) (M : Blks) (rb f : Nat) (i : Value) (wr : World) : Prop :=
  ∃ j : Nat, j ≤ xs.length ∧ xs.length + 1 ≤ f + j ∧ i = .int .i64 (j : Nat) ∧ OnAll ws xs j ∧ St W wr ((rb, C 42 zit.arr) :: M)
def ViRel (W : World) (ws : List It) (y : Cd) (M : Blks) (rb yb : Nat) (i : Value) (wr : World) : Prop :=
  ∃ q : Nat, q ≤ ws.length ∧ i = .int .i64 (q : Nat) ∧ (∀ i x, i < q → ws[i]? = some x → y.it ≠ x) ∧ St W wr ((yb, C 59 y.arr) :: (rb, C 42 zit.arr) :: M)
theorem isAll_exists {p : Pl} {l : List Cd} (I : Inv p l) : ∃ ys, IsAll l ys := by
  refine ⟨l.mergeSort (fun a b => decide (¬ ltI b.it a.it)), isAll_of I (List.mergeSort_perm l _) ?_⟩
  have := List.pairwise_mergeSort (le := fun a b : Cd => decide (¬ ltI b.it a.it)) (fun a b c h1 h2 => by simp only [decide_eq_true_eq] at *; unfold ltI at *; omega) (fun a b => by simp only [Bool.or_eq_true, decide_eq_true_eq]; unfold ltI; omega) l
  exact this.imp fun h => by simpa using h
attribute [local irreducible] It.arr Cd.arr beneath
section
variable {w W W' : World} {g b : Nat} {p : Pl} {l ys : List Cd} {L M : Blks}
set_option maxHeartbeats 4000000 in
theorem victim_any (h : MC w W g b p l L) (I : Inv p l) (hl : l.length ≤ 1000) (hA : IsAll l ys) (k : Int) (A : Option Addr) (n c : Nat) (ks : List It) (hk : ERow W W.heap.size A n c ks) (hn : n ≤ 1000) :
    Calls Try.prog 17 #[.pointer (some ⟨g, 0, none⟩), .int .i64 k, .slice A n c] W fun e W' => e = .returned (.tuple #[.agg (vicI p l ys k ks).arr, .bool (vicC p l k ks).isSome]) ∧ Below W.heap.size W W' := by
  have HB := Lib.hid (fun V h => hasBank_any (g := g) (b := b) I.rt k V h)
  have BE := Lib.hid (fun x V (h : MC w V g b p l L) => show Calls Try.prog 39 #[.pointer (some ⟨g, 0, none⟩), .agg x.arr] V fun e W' => e = .returned (.agg (beneath p ys x).arr) ∧ Below V.heap.size V W' from
    (beneath_any h I hl x).mono fun e W' ⟨ys', h1, h2, h3⟩ => ⟨by rw [h1.uniq hA] at h2; exact h2, h3⟩)
  have OW := Lib.hid (fun V (hb : Below W.heap.size W V) => onWays_any (g := g) (p := p) (W := V) (Nat.lt_of_lt_of_le h.glt hb.size) (rangeAt_keep h.plan (hb.block _ h.glt)) A n c ks ((hk.below hb).wider hb.size) hn)
  have EI := Lib.hid (show vicI p l ys k ks = match vicC p l k ks with | some c => beneath p ys c.it | none => zit from rfl)
  have EC := Lib.hid (show vicC p l k ks = if hasB p k = true then (bkL l k.toNat).find? (fun c => !decide (c.it ∈ ways p ks)) else none from rfl)
  have c46 := h.c46
  have glt := Lib.hid h.glt
  have S0 := St.nil W
  have HH := Lib.hid h
  obtain ⟨f1, f2, f3⟩ := nb_facts I.rt
  generalize vicI p l ys k ks = VI at *
  generalize vicC p l k ks = VC at *
  cases hb : hasB p k with
  | false =>
    rw [hb] at HB EC
    have e1 : Hid (VC = none) := show _ = _ by rw [EC.out]; rfl
    have e2 : Hid (VI = zit) := show _ = _ by rw [EI.out, e1.out]
    clear EI EC hb
    go_enter Try.func17, Try.ntmps17
    go_wp2_with (refine wpList_alloc_it S0 rfl rfl ?_; clear S0; intro W1 h1 hb1; have c46' := (hb1.cell (p := ⟨g, 46, none⟩) glt.out).trans c46; generalize W.heap.size = rb at *)
    go_step3
    go_wp2_with (first
      | (have _ := c46'; go_at_call 31; refine (HB.out _ c46').mono ?_; rintro e W4 ⟨rfl, rfl⟩; clear HB)
      | (have _ := h1; refine wpList_store_itE h1 0 zit rfl _ _ rfl rfl rfl _ rfl zit_lit.symm ?_; clear h1; intro W5 h5 _))
    try rw [Exit.noGoto_ret]
    refine bodyPost_ret (results_cell_tmp Try.results17 _ _ _ rfl _ (load_itA (h5.get 0 rfl))) rfl ?_
    exact ⟨by rw [e1.out, e2.out]; rfl, h5.bel⟩
  | true =>
  obtain ⟨k, rfl⟩ : ∃ i : Nat, k = (i : Int) := ⟨k.toNat, by have := (hasB_iff p k).1 hb; omega⟩
  have hkn : k < nb p := by have := (hasB_iff p (k : Int)).1 hb; omega
  rw [hb] at HB
  have EC2 := Lib.hid (show VC = (bkL l k).find? (fun c => !decide (c.it ∈ ways p ks)) by rw [EC.out, if_pos hb]; rfl)
  obtain ⟨A0, q0, d0, hr⟩ := h.bank k hkn
  have HR := Lib.hid hr
  have mx := hr.max
  have WL := Lib.hid (ways_len p ks)
  have KL := Lib.hid (show ks.length = n from hk.len)
  generalize ways p ks = ws at *
  generalize bkL l k = xs at *
  generalize hN : nb p = N at *
  clear EC hb h hr I hk
  go_enter Try.func17, Try.ntmps17
  go_wp2_with (refine wpList_alloc_it S0 rfl rfl ?_; clear S0; intro W1 h1 hb1; have c46' := (hb1.cell (p := ⟨g, 46, none⟩) glt.out).trans c46; generalize hrb : W.heap.size = rb at h1 ⊢)
  go_step3
  go_wp2_with (first
    | (have _ := c46'; go_at_call 31; refine (HB.out _ c46').mono ?_; rintro e W4 ⟨rfl, rfl⟩; clear HB c46')
    | (have _ := h1; go_at_call 38; refine (OW.out _ h1.bel).mono ?_; clear OW; rintro e W5 ⟨v, M, rfl, hr2, hst⟩; have h5 := (h1.join hst).perm List.perm_append_comm; clear h1 hst))
  go_step3
  have d1 := (h5.bel.cell (p := ⟨b, k, none⟩) (cell_lt d0)).trans d0
  have d2 := (h5.bel.cell (p := ⟨g, 46, none⟩) glt.out).trans c46
  obtain ⟨A2, q2, rfl, _⟩ := hr2.form
  have HR2 := Lib.hid hr2
  have wl : ws.length ≤ 6000 := by have h1 := WL.out; have h2 := KL.out; omega
  clear hr2 hrb
  go_wp2
  clear d1 d2
  go_loopg [29] (xs.length + 1) (fun f s29 wr => VoRel W ws xs M rb f s29 wr)
  case atStart => exact ⟨0, by omega, by omega, rfl, (fun i c h => absurd h (by omega)), h5⟩
  case round =>
    obtain ⟨j, hj, hgk, rfl, hon, hst⟩ := hrel
    clear h5
    replace hon := Lib.hid hon
    by_cases hlt : j < xs.length
    · have g1 : ((j : Int) < (xs.length : Int)) = True := eq_true (by omega)
      have hy : xs[j]? = some xs[j] := List.getElem?_eq_getElem hlt
      generalize xs[j] = y at *
      obtain ⟨bb, o, rfl, hb2, r⟩ := HR.out.at_ j y hy
      have r' : wr.rangeAt bb (o + j * 36) (Elt.cs y) := rangeAt_keep r (hst.bel.block _ hb2)
      replace hy := Lib.hid hy
      generalize hm : xs.length = m at *
      replace hm := Lib.hid hm
      clear hb2 r
      go_wp2_with (first
        | (refine wpList_loadCd (e := y) r' _ rfl rfl rfl ?_; clear r')
        | (have _ := hst; refine wpList_alloc_cd hst rfl rfl ?_; clear hst; intro X1 h1 _; generalize wr.heap.size = yb at *)
        | (have _ := h1; refine wpList_store_cd h1 0 y rfl _ _ rfl rfl rfl rfl ?_; clear h1; intro X2 h2 _))
      go_loopw [35] (ViRel W ws y M rb yb) (fun i _ => ws.length - (intOf i).toNat)
      case atStart => exact ⟨0, by omega, rfl, (fun i c h => absurd h (by omega)), h2⟩
      case round =>
        obtain ⟨q, hq, rfl, hne, hst2⟩ := hrel
        clear h2
        replace hne := Lib.hid hne
        by_cases hqt : q < ws.length
        · have g2 : ((q : Int) < (ws.length : Int)) = True := eq_true (by omega)
          have hx : ws[q]? = some ws[q] := List.getElem?_eq_getElem hqt
          generalize ws[q] = x at *
          obtain ⟨b3, o3, rfl, _, r3⟩ := at_itr (HR2.out.row (hst2.perm (List.perm_append_comm (l₁ := [_, _]) (l₂ := M))) rfl) q x hx
          replace hx := Lib.hid hx
          generalize hwl : ws.length = wlen at *
          replace hwl := Lib.hid hwl
          have EQ := fun V => eql_it y.it x V
          by_cases hyx : y.it = x
          · rw [decide_eq_true hyx] at EQ
            have NX := Lib.hid (show OnAll ws xs (j + 1) from onAll_succ hon.out hy.out (by rw [hyx]; exact List.mem_of_getElem? hx.out))
            replace hyx := Lib.hid hyx
            go_wp2_with (first
              | (have _ := r3; refine wpList_loadIt (e := x) r3 _ rfl rfl rfl ?_; clear r3)
              | (have _ := hst2; refine wpList_alloc_it hst2 rfl rfl ?_; clear hst2; intro X3 h3 _; generalize wr.heap.size = ib at *)
              | (have _ := h3; refine wpList_store_it h3 0 x rfl _ _ rfl rfl rfl rfl ?_; clear h3; intro X4 h4 _; have q1 := (range_it (at_cd (h4.get 1 rfl)) : World.rangeAt _ yb 0 (Elt.cs y.it)); have q2 := (at_it (h4.get 0 rfl) : World.rangeAt _ ib 0 (Elt.cs x)))
              | (have _ := q1; refine wpList_loadIt (e := y.it) q1 _ rfl rfl rfl ?_; clear q1)
              | (have _ := q2; refine wpList_loadIt (e := x) q2 _ rfl rfl rfl ?_; clear q2))
            go_roundg (gk - 1)
            case measure => omega
            case rel => exact ⟨j + 1, by rw [hm.out]; omega, by rw [hm.out]; omega, by go_num, NX.out, h4.tail.tail⟩
          · rw [decide_eq_false hyx] at EQ
            replace hyx := Lib.hid hyx
            go_wp2_with (first
              | (have _ := r3; refine wpList_loadIt (e := x) r3 _ rfl rfl rfl ?_; clear r3)
              | (have _ := hst2; refine wpList_alloc_it hst2 rfl rfl ?_; clear hst2; intro X3 h3 _; generalize wr.heap.size = ib at *)
              | (have _ := h3; refine wpList_store_it h3 0 x rfl _ _ rfl rfl rfl rfl ?_; clear h3; intro X4 h4 _; have q1 := (range_it (at_cd (h4.get 1 rfl)) : World.rangeAt _ yb 0 (Elt.cs y.it)); have q2 := (at_it (h4.get 0 rfl) : World.rangeAt _ ib 0 (Elt.cs x)))
              | (have _ := q1; refine wpList_loadIt (e := y.it) q1 _ rfl rfl rfl ?_; clear q1)
              | (have _ := q2; refine wpList_loadIt (e := x) q2 _ rfl rfl rfl ?_; clear q2))
            go_roundw
            case rel => exact ⟨q + 1, by rw [hwl.out]; omega, by go_num, fun i z hi hz => by
              rcases Nat.lt_or_ge i q with q1 | q1
              · exact hne.out i z q1 hz
              · obtain rfl : i = q := by omega
                have e1 := hx.out
                rw [hz] at e1
                injection e1 with e1
                rw [e1]; exact hyx.out, h4.tail⟩
            case measure => simp [intOf]; omega
        · obtain rfl : q = ws.length := by omega
          have g2 : ((ws.length : Int) < (ws.length : Int)) = False := eq_false (by omega)
          have hnot : y.it ∉ ws := fun hmem => by
            obtain ⟨i, hi⟩ := List.getElem?_of_mem hmem
            exact hne.out i _ (List.getElem?_eq_some_iff.1 hi).1 hi rfl
          have e1 := Lib.hid (show VC = some y by rw [EC2.out]; exact fstC_some hy.out (by simpa using hnot) hon.out)
          have e2 := Lib.hid (show VI = beneath p ys y.it by rw [EI.out, e1.out])
          have q1 := (range_it (at_cd (hst2.get 0 rfl)) : World.rangeAt _ yb 0 (Elt.cs y.it))
          have hm2 := HH.out.call hst2.bel
          generalize hwl : ws.length = wlen at *
          clear hnot
          go_wp2_with (first
            | (have _ := q1; refine wpList_loadIt (e := y.it) q1 _ rfl rfl rfl ?_; clear q1)
            | (have _ := hm2; go_at_call 39; refine (BE.out _ _ hm2).mono ?_; rintro e X5 ⟨rfl, hb5⟩; have h5 := hst2.call hb5; clear hst2 hm2 hb5)
            | (have _ := h5; refine wpList_store_it h5 1 (beneath p ys y.it) rfl _ _ rfl rfl rfl rfl ?_; clear h5; intro X6 h6 _))
          try rw [Exit.noGoto_ret]
          refine bodyPost_ret (results_cell_tmp Try.results17 _ _ _ rfl _ (load_itA (h6.get 1 rfl))) rfl ?_
          exact ⟨by rw [e1.out, e2.out]; rfl, h6.bel⟩
    · obtain rfl : j = xs.length := by omega
      have g1 : ((xs.length : Int) < (xs.length : Int)) = False := eq_false (by omega)
      have e1 := Lib.hid (show VC = none by rw [EC2.out]; exact fstC_none hon.out)
      have e2 := Lib.hid (show VI = zit by rw [EI.out, e1.out])
      go_wp2_with (refine wpList_store_itE hst 0 zit rfl _ _ rfl rfl rfl _ rfl zit_lit.symm ?_; clear hst; intro W5 h5 _)
      try rw [Exit.noGoto_ret]
      refine bodyPost_ret (results_cell_tmp Try.results17 _ _ _ rfl _ (load_itA (h5.get 0 rfl))) rfl ?_
      exact ⟨by rw [e1.out, e2.out]; rfl, h5.bel⟩
end
end Go.Proofs.Ytnogmfpaipjdaaa
