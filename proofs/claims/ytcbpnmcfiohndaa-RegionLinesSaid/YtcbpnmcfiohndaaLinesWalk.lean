/- The law of the lines of addresses. No statement is proved here. -/
import Derived.Test.YtcbpnmcfiohndaaLine2
namespace Go.Proofs.Ytcbpnmcfiohndaa
open Go.RowKit
set_option linter.unusedVariables false
set_option linter.unusedSimpArgs false
attribute [local irreducible] shaped Ls Lv Wd Al right bounded fitP sw wid hasI hasL itAt pts pvs SzI plAt hasP okN lnR PgI SlI BaI
set_option maxHeartbeats 4000000 in
set_option maxRecDepth 20000 in
theorem rlines_any (p : Pl) (m n line : Int) (w : World) : Calls Try.prog 8 #[.agg p.arr, .int .i64 m, .int .i64 n, .int .i64 line] w fun e w' => e = .returned (.bool true) ∧ Below w.heap.size w w' := by
  have SP := Lib.hid (fun W => speaks6_true W)
  have N := Lib.hid (PSt.new w p)
  have LA := Lib.hid (fun W => line_any p m n W)
  have LR := Lib.hid (fun W => refLine_any p m n W)
  have PG := Lib.hid (fun W => page_any p line W)
  have BK := Lib.hid (fun W => bank_any p line W)
  have RT := Lib.hid (fun W => refRight_any p W)
  generalize (lnR p m n).1 = z1 at *
  generalize (lnR p m n).2.1 = z2 at *
  generalize (lnR p m n).2.2 = z3 at *
  obtain ⟨a0, a1⟩ := Al_bounds p
  have C1 : Hid (∀ (V : World), PBlk V w.heap.size p → V.cell? ⟨w.heap.size, 1, none⟩ = some (.int .i64 p.ba)) := fun V h => h.c1
  have C2 : Hid (∀ (V : World), PBlk V w.heap.size p → V.cell? ⟨w.heap.size, 2, none⟩ = some (.int .i64 p.pa)) := fun V h => h.c2
  have C3 : Hid (∀ (V : World), PBlk V w.heap.size p → V.cell? ⟨w.heap.size, 3, none⟩ = some (.int .i64 p.li)) := fun V h => h.c3
  have nl : hasL p line = false → PgI p line = 0 ∧ SlI p line = 0 ∧ BaI p line = 0 := fun h => by
    unfold PgI SlI BaI; rw [h]; exact ⟨rfl, rfl, rfl⟩
  cases hq : right p
  · have hl : hasL p line = false := by unfold hasL; rw [hq]; rfl
    obtain ⟨e1, e2, e3⟩ := nl hl
    rw [e1, e2, hl] at PG
    rw [e3, hl] at BK
    rw [hq] at RT
    clear nl hl hq e1 e2 e3
    go_enter Try.func8, Try.ntmps8
    go_wp2_with (first
      | (go_at_call 25; refine (SP.out _).mono ?_; rintro e X0 ⟨rfl, hb⟩; have h1 := N.out.call hb; clear N hb)
      | (refine wpList_load_plan h1.blk _ rfl rfl rfl ?_)
      | (have := h1; go_at_call 34; refine (LA.out _).mono ?_; rintro e X1 ⟨rfl, hb⟩; have h2 := h1.call hb; clear h1 hb)
      | (refine wpList_load_plan h2.blk _ rfl rfl rfl ?_)
      | (have := h2; go_at_call 35; refine (LR.out _).mono ?_; rintro e X2 ⟨rfl, hb⟩; have h3 := h2.call hb; clear h2 hb)
      | (refine wpList_load_plan h3.blk _ rfl rfl rfl ?_)
      | (have := h3; go_at_call 36; refine (PG.out _).mono ?_; rintro e X3 ⟨rfl, hb⟩; have h4 := h3.call hb; clear h3 hb)
      | (refine wpList_load_plan h4.blk _ rfl rfl rfl ?_)
      | (have := h4; go_at_call 37; refine (BK.out _).mono ?_; rintro e X4 ⟨rfl, hb⟩; have h5 := h4.call hb; clear h4 hb)
      | (refine wpList_load_plan h5.blk _ rfl rfl rfl ?_)
      | (have := h5; go_at_call 14; refine (RT.out _).mono ?_; rintro e X5 ⟨rfl, hb⟩; have h6 := h5.call hb; clear h5 hb; have c1 := C1.out _ h6.blk; have c2 := C2.out _ h6.blk; have c3 := C3.out _ h6.blk))
    go_ret
    exact ⟨rfl, h6.bel⟩
  have hs := (right_facts hq).2.1
  have sh := sh_of hs
  have eA : Al p = p.pa * p.li := by unfold Al; rw [if_pos hs]
  have w1 : IntKind.i64.wrap (p.pa * p.li) = Al p := by rw [← eA]; exact IntWalk.i64_in _ (by omega)
  rw [hq] at RT
  by_cases hz0 : line < 0
  · have hl : hasL p line = false := by unfold hasL; rw [decide_eq_false (show ¬ 0 ≤ line by omega)]; simp
    obtain ⟨e1, e2, e3⟩ := nl hl
    rw [e1, e2, hl] at PG
    rw [e3, hl] at BK
    have g0 : (line < 0) = True := eq_true hz0
    clear nl hl hq e1 e2 e3 hs sh eA
    go_enter Try.func8, Try.ntmps8
    go_wp2_with (first
      | (go_at_call 25; refine (SP.out _).mono ?_; rintro e X0 ⟨rfl, hb⟩; have h1 := N.out.call hb; clear N hb)
      | (refine wpList_load_plan h1.blk _ rfl rfl rfl ?_)
      | (have := h1; go_at_call 34; refine (LA.out _).mono ?_; rintro e X1 ⟨rfl, hb⟩; have h2 := h1.call hb; clear h1 hb)
      | (refine wpList_load_plan h2.blk _ rfl rfl rfl ?_)
      | (have := h2; go_at_call 35; refine (LR.out _).mono ?_; rintro e X2 ⟨rfl, hb⟩; have h3 := h2.call hb; clear h2 hb)
      | (refine wpList_load_plan h3.blk _ rfl rfl rfl ?_)
      | (have := h3; go_at_call 36; refine (PG.out _).mono ?_; rintro e X3 ⟨rfl, hb⟩; have h4 := h3.call hb; clear h3 hb)
      | (refine wpList_load_plan h4.blk _ rfl rfl rfl ?_)
      | (have := h4; go_at_call 37; refine (BK.out _).mono ?_; rintro e X4 ⟨rfl, hb⟩; have h5 := h4.call hb; clear h4 hb)
      | (refine wpList_load_plan h5.blk _ rfl rfl rfl ?_)
      | (have := h5; go_at_call 14; refine (RT.out _).mono ?_; rintro e X5 ⟨rfl, hb⟩; have h6 := h5.call hb; clear h5 hb; have c1 := C1.out _ h6.blk; have c2 := C2.out _ h6.blk; have c3 := C3.out _ h6.blk))
    go_ret
    exact ⟨rfl, h6.bel⟩
  by_cases hz1 : Al p ≤ line
  · have hl : hasL p line = false := by unfold hasL; rw [decide_eq_false (show ¬ line < Al p by omega)]; simp
    obtain ⟨e1, e2, e3⟩ := nl hl
    rw [e1, e2, hl] at PG
    rw [e3, hl] at BK
    have g0 : (line < 0) = False := eq_false hz0
    have g1 : (Al p ≤ line) = True := eq_true hz1
    clear nl hl hq e1 e2 e3 hs sh eA
    generalize Al p = A at *
    generalize p.pa = pa at *
    generalize p.li = li at *
    generalize p.ba = ba at *
    go_enter Try.func8, Try.ntmps8
    go_wp2_with (first
      | (go_at_call 25; refine (SP.out _).mono ?_; rintro e X0 ⟨rfl, hb⟩; have h1 := N.out.call hb; clear N hb)
      | (refine wpList_load_plan h1.blk _ rfl rfl rfl ?_)
      | (have := h1; go_at_call 34; refine (LA.out _).mono ?_; rintro e X1 ⟨rfl, hb⟩; have h2 := h1.call hb; clear h1 hb)
      | (refine wpList_load_plan h2.blk _ rfl rfl rfl ?_)
      | (have := h2; go_at_call 35; refine (LR.out _).mono ?_; rintro e X2 ⟨rfl, hb⟩; have h3 := h2.call hb; clear h2 hb)
      | (refine wpList_load_plan h3.blk _ rfl rfl rfl ?_)
      | (have := h3; go_at_call 36; refine (PG.out _).mono ?_; rintro e X3 ⟨rfl, hb⟩; have h4 := h3.call hb; clear h3 hb)
      | (refine wpList_load_plan h4.blk _ rfl rfl rfl ?_)
      | (have := h4; go_at_call 37; refine (BK.out _).mono ?_; rintro e X4 ⟨rfl, hb⟩; have h5 := h4.call hb; clear h4 hb)
      | (refine wpList_load_plan h5.blk _ rfl rfl rfl ?_)
      | (have := h5; go_at_call 14; refine (RT.out _).mono ?_; rintro e X5 ⟨rfl, hb⟩; have h6 := h5.call hb; clear h5 hb; have c1 := C1.out _ h6.blk; have c2 := C2.out _ h6.blk; have c3 := C3.out _ h6.blk))
    go_ret
    exact ⟨rfl, h6.bel⟩
  have hl : hasL p line = true := by unfold hasL; rw [hq, decide_eq_true (by omega), decide_eq_true (by omega)]; rfl
  have e1 : PgI p line = line / p.li := by unfold PgI; rw [if_pos hl]
  have e2 : SlI p line = line % p.li := by unfold SlI; rw [if_pos hl]
  have e3 : BaI p line = line % p.ba := by unfold BaI; rw [if_pos hl]
  rw [e1, e2, hl] at PG
  rw [e3, hl] at BK
  have g0 : (line < 0) = False := eq_false hz0
  have g1 : (Al p ≤ line) = False := eq_false hz1
  obtain ⟨c, rfl⟩ : ∃ c : Nat, line = (c : Int) := ⟨line.toNat, by omega⟩
  have cb : c < 128 := by omega
  have k1 := sh.l1
  have k2 := sh.l2
  have k3 := sh.b1
  have k4 := sh.b2
  rw [sh.li] at PG C3 w1
  rw [sh.ba] at BK C1
  clear nl hl hq e1 e2 e3 hs sh eA
  generalize Al p = A at *
  generalize p.pa = pa at *
  generalize p.li.toNat = li at *
  generalize p.ba.toNat = ba at *
  have d0 : (li : Int) ≠ 0 := by omega
  have d1 : (ba : Int) ≠ 0 := by omega
  have s0 : 0 ≤ (c : Int) % (li : Int) := Int.emod_nonneg _ d0
  have s1 : (c : Int) % (li : Int) < (li : Int) := Int.emod_lt_of_pos _ (by omega)
  have s2 := Int.mul_ediv_add_emod (c : Int) (li : Int)
  have s3 : 0 ≤ (c : Int) / (li : Int) := Int.ediv_nonneg (by omega) (by omega)
  have s4 : (c : Int).tmod (ba : Int) = (c : Int) % (ba : Int) := Int.tmod_eq_emod_of_nonneg (by omega)
  have s5 : 0 ≤ (c : Int) % (ba : Int) := Int.emod_nonneg _ d1
  have s6 : (c : Int) % (ba : Int) < (ba : Int) := Int.emod_lt_of_pos _ (by omega)
  generalize hx : (c : Int) / (li : Int) = x at *
  generalize hy : (c : Int) % (li : Int) = y at *
  have s7 : 0 ≤ x * (li : Int) := Int.mul_nonneg s3 (by omega)
  have s8 : x * (li : Int) + y = (c : Int) := by rw [Int.mul_comm]; exact s2
  have w2 : IntKind.i64.wrap (x * (li : Int)) = x * (li : Int) := IntWalk.i64_in _ (by omega)
  have w3 : IntKind.i64.wrap (x * (li : Int) + y) = (c : Int) := by rw [s8]; exact IntWalk.i64_in _ (by omega)
  have g2 : (0 ≤ y) = True := eq_true s0
  have g3 : (y < (li : Int)) = True := eq_true s1
  clear hx hy s2
  go_enter Try.func8, Try.ntmps8
  go_wp2_with (first
    | (go_at_call 25; refine (SP.out _).mono ?_; rintro e X0 ⟨rfl, hb⟩; have h1 := N.out.call hb; clear N hb)
    | (refine wpList_load_plan h1.blk _ rfl rfl rfl ?_)
    | (have := h1; go_at_call 34; refine (LA.out _).mono ?_; rintro e X1 ⟨rfl, hb⟩; have h2 := h1.call hb; clear h1 hb)
    | (refine wpList_load_plan h2.blk _ rfl rfl rfl ?_)
    | (have := h2; go_at_call 35; refine (LR.out _).mono ?_; rintro e X2 ⟨rfl, hb⟩; have h3 := h2.call hb; clear h2 hb)
    | (refine wpList_load_plan h3.blk _ rfl rfl rfl ?_)
    | (have := h3; go_at_call 36; refine (PG.out _).mono ?_; rintro e X3 ⟨rfl, hb⟩; have h4 := h3.call hb; clear h3 hb)
    | (refine wpList_load_plan h4.blk _ rfl rfl rfl ?_)
    | (have := h4; go_at_call 37; refine (BK.out _).mono ?_; rintro e X4 ⟨rfl, hb⟩; have h5 := h4.call hb; clear h4 hb)
    | (refine wpList_load_plan h5.blk _ rfl rfl rfl ?_)
    | (have := h5; go_at_call 14; refine (RT.out _).mono ?_; rintro e X5 ⟨rfl, hb⟩; have h6 := h5.call hb; clear h5 hb; have c1 := C1.out _ h6.blk; have c2 := C2.out _ h6.blk; have c3 := C3.out _ h6.blk))
  go_ret
  exact ⟨rfl, h6.bel⟩
end Go.Proofs.Ytcbpnmcfiohndaa
