/- The document's cache: all its numbers, rising. No statement is proved here. -/
import Derived.Test.YtmlepikgiicaiaaRCache3
namespace Go.Proofs.Ytmlepikgiicaiaa
open Go.RowKit
set_option linter.unusedVariables false
set_option linter.unusedSimpArgs false

theorem ins_sorted {out : List Int} {x : Int} {kk : Nat} (h : out.Pairwise (· ≤ ·)) (h1 : ∀ y ∈ out.take kk, y ≤ x) (h2 : ∀ y ∈ out.drop kk, x < y) : (out.take kk ++ [x] ++ out.drop kk).Pairwise (· ≤ ·) := by
  have hs := h
  rw [← List.take_append_drop kk out, List.pairwise_append] at hs
  rw [List.append_assoc, List.singleton_append, List.pairwise_append, List.pairwise_cons]
  refine ⟨hs.1, ⟨fun y hy => by have := h2 y hy; omega, hs.2.1⟩, fun a ha b hb => ?_⟩
  rcases List.mem_cons.1 hb with rfl | hb
  · exact h1 a ha
  · exact hs.2.2 a ha b hb
theorem ins_perm {out : List Int} {x : Int} {l1 l2 : List Int} (kk : Nat) (h : out.Perm l1) (h2 : l2 = l1 ++ [x]) : (out.take kk ++ [x] ++ out.drop kk).Perm l2 := by
  subst h2
  refine List.Perm.trans ?_ (List.perm_append_comm (l₁ := [x]) (l₂ := l1))
  rw [List.append_assoc, List.singleton_append, List.singleton_append]
  refine List.perm_middle.trans (List.Perm.cons x ?_)
  rw [List.take_append_drop]
  exact h
theorem p5 (M5 Y M L : Blks) : (M5 ++ (Y ++ (M ++ L))).Perm (M ++ (M5 ++ (Y ++ L))) := by
  refine (List.Perm.append_left M5 (List.perm_append_comm_assoc Y M L)).trans ?_
  exact List.perm_append_comm_assoc M5 M _
theorem p8 (M8 : Blks) (x : Nat × Obj) (Y M L : Blks) : (M8 ++ (x :: (Y ++ (M ++ L)))).Perm (M ++ (M8 ++ (x :: (Y ++ L)))) := by
  have := p5 M8 (x :: Y) M L
  exact this
theorem s9 (M9 : Blks) (x : Nat × Obj) (Y M L : Blks) : (M9 ++ (Y ++ L)).Sublist (M9 ++ (x :: (Y ++ (M ++ L)))) :=
  (((List.sublist_append_right M L).append_left Y).trans (List.sublist_cons_self _ _)).append_left M9
section
variable {w W W' : World} {gr S N : Nat} {l : List Ent} {L M : Blks}
def RkRel (w : World) (Y : Blks) (l : List Ent) (L : Blks) (s i : Value) (wr : World) : Prop :=
  ∃ (j : Nat) (out : List Int) (M : Blks) (bo oo po : Nat), j ≤ l.length ∧ i = .int .i64 (j : Nat) ∧ s = .slice (some ⟨bo, oo, none⟩) out.length po ∧ RL (.slice (some ⟨bo, oo, none⟩) out.length po) out M ∧ out.Pairwise (· ≤ ·) ∧ out.Perm ((l.take j).map (·.k)) ∧ St w wr (Y ++ (M ++ L))
def RjRel (w : World) (X : Blks) (out : List Int) (x : Int) (i : Value) (wr : World) : Prop :=
  ∃ kk : Nat, kk ≤ out.length ∧ i = .int .i64 (kk : Nat) ∧ (∀ y ∈ out.drop kk, x < y) ∧ St w wr X
set_option maxRecDepth 20000 in
set_option maxHeartbeats 8000000 in
theorem rkeys_any (h : RC w W gr S N l L) (hl : l.length ≤ 1000) :
    Calls Try.prog 22 #[.pointer (some ⟨gr, 0, none⟩)] W fun e W' => ∃ v M out, e = .returned v ∧ RL v out M ∧ out.Pairwise (· ≤ ·) ∧ out.Perm (l.map (·.k)) ∧ RC w W' gr S N l (M ++ L) := by
  obtain ⟨A, p, Y, hs, hb, FX⟩ := h.fix
  clear h
  generalize hln : l.length = n at *
  replace hln := Lib.hid hln
  replace FX := Lib.hid FX
  clear hb
  go_enter Try.func22, Try.ntmps22
  go_wp2_with (refine wpList_build0_st (α := Int) hs rfl rfl ?_; clear hs; intro W1 v M hv hr h1 hb; have h2 := h1.perm (List.perm_append_comm_assoc M Y L); clear h1; subst hv; generalize W.heap.size = b0 at *)
  go_loopw [3, 4] (RkRel w Y l L) (fun _ i _ => n - (intOf i).toNat)
  case atStart => exact ⟨0, [], M, b0, 0, 0, by omega, rfl, rfl, hr, .nil, by simp, h2⟩
  case round =>
    clear h2 hr
    obtain ⟨i, out, M, bo, oo, po, hi, rfl, rfl, hr, srtd, permd, h3⟩ := hrel
    rw [hln.out] at hi
    obtain ⟨_, c0, c1, c2, hrow⟩ := FX.out _ _ h3
    have hrO := hr.row (h3.perm (List.perm_append_comm_assoc Y M L)) rfl
    have hpo := hrO.2.1
    have hpm : po ≤ 9223372036854775807 := by have := hrO.2.2.1; unfold maxLen at this; omega
    by_cases hlt : i < n
    · have g1 : ((i : Int) < (n : Int)) = True := eq_true (by omega)
      have hil : i < l.length := by have := hln.out; omega
      have hx : l[i]? = some l[i] := List.getElem?_eq_getElem hil
      generalize l[i] = x at *
      have hlo : out.length ≤ 1000 := by rw [permd.length_eq, List.length_map, List.length_take]; omega
      have tkx := Lib.hid (show (l.take (i + 1)).map (·.k) = (l.take i).map (·.k) ++ [x.k] by rw [List.take_add_one, hx, List.map_append]; rfl)
      obtain ⟨b, o, rfl, _, d1, _⟩ := pr_cells hrow i x hx
      have HXI := Lib.hid hx
      have HRO := Lib.hid hr
      replace srtd := Lib.hid srtd
      replace permd := Lib.hid permd
      have ROWS := Lib.hid (fun V (h : St w V (Y ++ (M ++ L))) => hr.row (h.perm (List.perm_append_comm_assoc Y M L)) rfl)
      have H3 := Lib.hid h3
      generalize hLO : out.length = LO at *
      replace hLO := Lib.hid hLO
      clear hrow hx hil hr hrO h3
      go_wp2
      clear c0 c1 c2 d1
      go_loopw [5] (RjRel w (Y ++ (M ++ L)) out x.k) (fun i _ => (intOf i).toNat)
      case atStart => exact ⟨LO, by rw [hLO.out]; exact Nat.le_refl _, rfl, (fun y hy => by rw [List.drop_of_length_le (by rw [hLO.out]; exact Nat.le_refl _)] at hy; cases hy), H3.out⟩
      case round =>
        clear H3
        obtain ⟨kk, hkk, rfl, hhigh, h4⟩ := hrel
        rw [hLO.out] at hkk
        obtain ⟨_, c0, c1, c2, hrow⟩ := FX.out _ _ h4
        obtain ⟨b', o', e6, _, d1, _⟩ := pr_cells hrow i x HXI.out
        injection e6 with e6
        injection e6 with e6 e7 e8
        rw [← e6, ← e7] at d1
        clear e6 e7 e8 hrow
        obtain ⟨A2, hA2, hA3⟩ : ∃ A2 : Addr, (if po = kk then (some ⟨bo, oo, none⟩ : Option Addr) else some ⟨bo, oo + kk, none⟩) = some A2 ∧ dropA (some ⟨bo, oo, none⟩) po kk 1 = some A2 := by
          unfold dropA
          by_cases hc : po = kk
          · exact ⟨_, if_pos hc, if_pos hc⟩
          · refine ⟨⟨bo, oo + kk, none⟩, if_neg hc, ?_⟩
            rw [if_neg hc, Option.map_some, Addr.add_lit, Nat.mul_one]
        replace hA3 := Lib.hid hA3
        have k1 : kk ≤ po := by omega
        have k2 : kk ≤ 1000 := by omega
        by_cases hk0 : kk = 0
        · have q0 : ((0 : Int) < (kk : Int)) = False := eq_false (by omega)
          have q1 : decide ((0 : Int) < (kk : Int)) = false := decide_eq_false (by omega)
          have q8 : (0 < kk) = False := eq_false (by omega)
          have q9 : decide (0 < kk) = false := decide_eq_false (by omega)
          have hlow : ∀ y ∈ out.take kk, y ≤ x.k := by rw [hk0]; simp
          replace h4 := Lib.hid h4
          clear hk0
          go_wp2
          go_quiet (fail)
          replace h4 := h4.out.drewN nq
          have FIN := Lib.hid (ins_sorted srtd.out hlow hhigh)
          have FIP := Lib.hid (ins_perm (x := x.k) kk permd.out tkx.out)
          have hro := HRO.out
          have T1 := Lib.hid (fun V L2 (h : St w V (M ++ L2)) => (hro.row h rfl).take kk (by omega))
          have T2 := Lib.hid (fun V L2 (h : St w V (M ++ L2)) => show ERow V V.heap.size (some A2) (LO - kk) (po - kk) (out.drop kk) from by
            have := (hro.row h rfl).from_ kk (by omega)
            rw [show (instEltInt).sz = 1 from rfl] at this
            rwa [hA3.out] at this)
          have LT := Lib.hid (show (out.take kk).length = kk by rw [List.length_take, hLO.out]; omega)
          have LD := Lib.hid (show (out.drop kk).length = LO - kk by rw [List.length_drop, hLO.out])
          clear hro hlow hhigh
          go_wp2_with (first
            | (have _ := h4; refine wpList_build0_st (α := Int) h4 rfl rfl ?_; clear h4 c0 c1 c2 d1; intro W5 v5 M5 hv5 r5 h5 _; replace hv5 := Lib.hid hv5)
            | (have _ := h5; refine wpList_append_rl r5 h5 (T1.out _ _ (h5.perm (p5 M5 Y M L))) _ _ rfl rfl rfl rfl (by simp only [List.length_nil]; omega) ?_; clear h5 r5; intro v6 W6 M6 r6 h6; rw [List.nil_append] at r6; obtain ⟨_, c0, c1, c2, row6⟩ := FX.out _ _ (h6.perm (List.perm_append_comm_assoc M6 Y (M ++ L))); obtain ⟨b, o, e6, _, d1, _⟩ := pr_cells row6 i x HXI.out; injection e6 with e6; injection e6 with e6 e7 e8; rw [← e6, ← e7] at d1; clear row6 e6 e7 e8)
            | (have _ := h6; refine wpList_build1_st (α := Int) h6 _ x.k rfl rfl rfl ?_; clear h6 c0 c1 c2 d1; intro W7 h7; have rw7 := Lib.hid (new_row h7))
            | (have _ := h7; refine wpList_append_rl (ys := [x.k]) r6 (h7.perm List.perm_middle.symm) rw7.out _ _ rfl rfl rfl rfl (by rw [LT.out]; omega) ?_; clear h7 r6; intro v8 W8 M8 r8 h8)
            | (have _ := h8; refine wpList_append_rl r8 h8 (T2.out _ _ (h8.perm (p8 M8 _ Y M L))) _ _ rfl rfl rfl rfl (by rw [List.length_append, LT.out, List.length_singleton]; omega) ?_; clear h8 r8; intro v9 W9 M9 r9 h9))
          obtain ⟨A9, p9, rfl, hA9⟩ := r9.form
          have r9' := Lib.hid r9
          cases A9 with
          | none => exact absurd (hA9 rfl).1 (by simp)
          | some a9 =>
          obtain ⟨b9, o9, s9⟩ := a9
          have e9 := (r9.row h9 rfl).2.2.2.2 _ rfl (by rw [List.length_append, List.length_append, List.length_singleton]; omega)
          simp only at e9
          obtain ⟨rfl, _, _⟩ := e9
          have h10 := Lib.hid (show St w W9 (Y ++ (M9 ++ L)) from (h9.sub (s9 M9 _ Y M L)).perm (List.perm_append_comm_assoc M9 Y L))
          clear r9 hA9 h9
          go_roundw
          case rel => exact ⟨i + 1, _, M9, b9, o9, p9, by have := hln.out; omega, by go_num, rfl, r9'.out, FIN.out, FIP.out, h10.out⟩
          case measure => simp [intOf]; omega
        · have q0 : ((0 : Int) < (kk : Int)) = True := eq_true (by omega)
          have q1 : decide ((0 : Int) < (kk : Int)) = true := decide_eq_true (by omega)
          have q8 : (0 < kk) = True := eq_true (by omega)
          have q9 : decide (0 < kk) = true := decide_eq_true (by omega)
          obtain ⟨qq, hqq⟩ : ∃ qq, kk = qq + 1 := ⟨kk - 1, by omega⟩
          have hqo : qq < out.length := by have := hLO.out; omega
          have hy : out[qq]? = some out[qq] := List.getElem?_eq_getElem hqo
          have hqI : (kk : Int) - 1 = (qq : Int) := by omega
          have hql : qq < LO := by omega
          have hwq : IntKind.i64.wrap (qq : Int) = (qq : Int) := IntWalk.i64_in _ (by omega)
          obtain ⟨b2, o2, e2, _, ry⟩ := (ROWS.out _ h4).at_ qq out[qq] hy
          have d2 : _ = some (Value.int .i64 out[qq]) := ry 0 _ rfl
          injection e2 with e2
          injection e2 with e2 e3 e4
          rw [← e2, ← e3, show oo + qq * (instEltInt).sz + 0 = oo + qq from by show oo + qq * 1 + 0 = _; omega] at d2
          generalize out[qq] = y at *
          replace h4 := Lib.hid h4
          replace hqq := Lib.hid hqq
          clear ry e2 e3 e4 hqo hk0
          by_cases hyx : x.k < y
          · have q2 : (x.k < y) = True := eq_true hyx
            have q3 : decide (x.k < y) = true := decide_eq_true hyx
            have hh2 : ∀ z ∈ out.drop qq, x.k < z := by
              intro z hz
              obtain ⟨hq1, hq2⟩ := List.getElem?_eq_some_iff.1 hy
              rw [List.drop_eq_getElem_cons hq1] at hz
              rcases List.mem_cons.1 hz with rfl | hz
              · rw [hq2]; exact hyx
              · exact hhigh z (by rw [hqq.out]; exact hz)
            replace hh2 := Lib.hid hh2
            clear hhigh hy
            go_wp2
            go_quiet (fail)
            replace h4 := h4.out.drewN nq
            go_wp2
            go_roundw
            case rel => exact ⟨qq, by have := hLO.out; omega, rfl, hh2.out, h4⟩
            case measure => simp [intOf]; omega
          · have q2 : (x.k < y) = False := eq_false hyx
            have q3 : decide (x.k < y) = false := decide_eq_false hyx
            have hlow : ∀ z ∈ out.take kk, z ≤ x.k := by
              intro z hz
              obtain ⟨hq1, hq2⟩ := List.getElem?_eq_some_iff.1 hy
              obtain ⟨j, hj⟩ := List.getElem?_of_mem hz
              rw [List.getElem?_take] at hj
              split at hj
              · obtain ⟨hj1, hj2⟩ := List.getElem?_eq_some_iff.1 hj
                rcases Nat.lt_or_ge j qq with h9 | h9
                · have := List.pairwise_iff_getElem.1 srtd.out j qq hj1 hq1 h9
                  rw [hj2, hq2] at this
                  omega
                · have : j = qq := by have := hqq.out; omega
                  subst this
                  rw [← hj2, hq2]
                  omega
              · cases hj
            clear hy
            go_wp2
            go_quiet (fail)
            replace h4 := h4.out.drewN nq
            have FIN := Lib.hid (ins_sorted srtd.out hlow hhigh)
            have FIP := Lib.hid (ins_perm (x := x.k) kk permd.out tkx.out)
            have hro := HRO.out
            have T1 := Lib.hid (fun V L2 (h : St w V (M ++ L2)) => (hro.row h rfl).take kk (by omega))
            have T2 := Lib.hid (fun V L2 (h : St w V (M ++ L2)) => show ERow V V.heap.size (some A2) (LO - kk) (po - kk) (out.drop kk) from by
              have := (hro.row h rfl).from_ kk (by omega)
              rw [show (instEltInt).sz = 1 from rfl] at this
              rwa [hA3.out] at this)
            have LT := Lib.hid (show (out.take kk).length = kk by rw [List.length_take, hLO.out]; omega)
            have LD := Lib.hid (show (out.drop kk).length = LO - kk by rw [List.length_drop, hLO.out])
            clear hro hlow hhigh
            go_wp2_with (first
              | (have _ := h4; refine wpList_build0_st (α := Int) h4 rfl rfl ?_; clear h4 c0 c1 c2 d1; intro W5 v5 M5 hv5 r5 h5 _; replace hv5 := Lib.hid hv5)
              | (have _ := h5; refine wpList_append_rl r5 h5 (T1.out _ _ (h5.perm (p5 M5 Y M L))) _ _ rfl rfl rfl rfl (by simp only [List.length_nil]; omega) ?_; clear h5 r5; intro v6 W6 M6 r6 h6; rw [List.nil_append] at r6; obtain ⟨_, c0, c1, c2, row6⟩ := FX.out _ _ (h6.perm (List.perm_append_comm_assoc M6 Y (M ++ L))); obtain ⟨b, o, e6, _, d1, _⟩ := pr_cells row6 i x HXI.out; injection e6 with e6; injection e6 with e6 e7 e8; rw [← e6, ← e7] at d1; clear row6 e6 e7 e8)
              | (have _ := h6; refine wpList_build1_st (α := Int) h6 _ x.k rfl rfl rfl ?_; clear h6 c0 c1 c2 d1; intro W7 h7; have rw7 := Lib.hid (new_row h7))
              | (have _ := h7; refine wpList_append_rl (ys := [x.k]) r6 (h7.perm List.perm_middle.symm) rw7.out _ _ rfl rfl rfl rfl (by rw [LT.out]; omega) ?_; clear h7 r6; intro v8 W8 M8 r8 h8)
              | (have _ := h8; refine wpList_append_rl r8 h8 (T2.out _ _ (h8.perm (p8 M8 _ Y M L))) _ _ rfl rfl rfl rfl (by rw [List.length_append, LT.out, List.length_singleton]; omega) ?_; clear h8 r8; intro v9 W9 M9 r9 h9))
            obtain ⟨A9, p9, rfl, hA9⟩ := r9.form
            have r9' := Lib.hid r9
            cases A9 with
            | none => exact absurd (hA9 rfl).1 (by simp)
            | some a9 =>
            obtain ⟨b9, o9, s9⟩ := a9
            have e9 := (r9.row h9 rfl).2.2.2.2 _ rfl (by rw [List.length_append, List.length_append, List.length_singleton]; omega)
            simp only at e9
            obtain ⟨rfl, _, _⟩ := e9
            have h10 := Lib.hid (show St w W9 (Y ++ (M9 ++ L)) from (h9.sub (s9 M9 _ Y M L)).perm (List.perm_append_comm_assoc M9 Y L))
            clear r9 hA9 h9
            go_roundw
            case rel => exact ⟨i + 1, _, M9, b9, o9, p9, by have := hln.out; omega, by go_num, rfl, r9'.out, FIN.out, FIP.out, h10.out⟩
            case measure => simp [intOf]; omega
    · obtain rfl : i = n := by omega
      have g1 : ((i : Int) < (i : Int)) = False := eq_false (by omega)
      rw [List.take_of_length_le (by rw [hln.out]; exact Nat.le_refl _)] at permd
      go_wp2
      go_ret
      exact ⟨_, M, out, rfl, hr, srtd, permd, (FX.out _ _ h3).1⟩
end
end Go.Proofs.Ytmlepikgiicaiaa
