/- The line of an address, by the document. No statement is proved here. -/
import Derived.Test.YtcbpnmcfiohndaaLine1
namespace Go.Proofs.Ytcbpnmcfiohndaa
open Go.RowKit
set_option linter.unusedVariables false
set_option linter.unusedSimpArgs false
attribute [local irreducible] shaped Ls Lv Wd Al right bounded fitP sw wid hasI hasL itAt pts pvs SzI plAt hasP okN lnR Pc.arr
set_option maxHeartbeats 4000000 in
set_option maxRecDepth 20000 in
theorem refLine_any (q : Pl) (m n : Int) (w : World) : Calls Try.prog 35 #[.agg q.arr, .int .i64 m, .int .i64 n] w fun e w' => e = .returned (.tuple #[.int .i64 (lnR q m n).1, .int .i64 (lnR q m n).2.1, .int .i64 (lnR q m n).2.2]) ∧ Below w.heap.size w w' := by
  have N := Lib.hid (PSt.new w q)
  have RT := Lib.hid (fun W => refRight_any q W)
  have PR := Lib.hid (fun W => refPlace_any q m W)
  obtain ⟨a0, a1⟩ := Al_bounds q
  cases hq : right q
  · have E := Lib.hid (lnR_config (m := m) (n := n) hq)
    rw [hq] at RT
    clear hq
    generalize lnR q m n = R at *
    generalize plAt q m = P at *
    go_enter Try.func35, Try.ntmps35
    go_wp2_with (first
      | (refine wpList_load_plan N.out.blk _ rfl rfl rfl ?_)
      | (go_at_call 14; refine (RT.out _).mono ?_; rintro e X1 ⟨rfl, hb⟩; have h1 := N.out.call hb; clear N hb)
      | (refine wpList_load_plan h1.blk _ rfl rfl rfl ?_)
      | (go_at_call 33; refine (PR.out _).mono ?_; rintro e X2 ⟨rfl, hb⟩; have h2 := h1.call hb; clear h1 hb)
      | (refine wpList_newL h2 P _ _ rfl rfl rfl rfl ?_; clear h2; intro X3 hE; generalize X2.heap.size = g5 at *; obtain ⟨u0, u1, u2, u3, u4⟩ := hE.bc.cells))
    go_ret3
    exact ⟨by rw [E.out]; rfl, h1.bel⟩
  rw [hq] at RT
  rcases okN_cases n with ⟨hn, n1, n2, n4, n8⟩ | ⟨hn, hnn⟩
  · have E := Lib.hid (lnR_arg (m := m) hq hn)
    have f1 : (n = 1) = False := eq_false n1
    have f2 : (n = 2) = False := eq_false n2
    have f4 : (n = 4) = False := eq_false n4
    have f8 : (n = 8) = False := eq_false n8
    have b1 : (n == 1) = false := by simpa using n1
    have b2 : (n == 2) = false := by simpa using n2
    have b4 : (n == 4) = false := by simpa using n4
    have b8 : (n == 8) = false := by simpa using n8
    have x1 : (n != 1) = true := by simpa using n1
    have x2 : (n != 2) = true := by simpa using n2
    have x4 : (n != 4) = true := by simpa using n4
    have x8 : (n != 8) = true := by simpa using n8
    clear hq hn n1 n2 n4 n8
    generalize lnR q m n = R at *
    generalize plAt q m = P at *
    go_enter Try.func35, Try.ntmps35
    go_wp2_with (first
      | (refine wpList_load_plan N.out.blk _ rfl rfl rfl ?_)
      | (go_at_call 14; refine (RT.out _).mono ?_; rintro e X1 ⟨rfl, hb⟩; have h1 := N.out.call hb; clear N hb)
      | (refine wpList_load_plan h1.blk _ rfl rfl rfl ?_)
      | (go_at_call 33; refine (PR.out _).mono ?_; rintro e X2 ⟨rfl, hb⟩; have h2 := h1.call hb; clear h1 hb)
      | (refine wpList_newL h2 P _ _ rfl rfl rfl rfl ?_; clear h2; intro X3 hE; generalize X2.heap.size = g5 at *; obtain ⟨u0, u1, u2, u3, u4⟩ := hE.bc.cells))
    go_ret3
    exact ⟨by rw [E.out]; rfl, h1.bel⟩
  obtain ⟨k1, k2⟩ := plAt_kind (m := m) hq
  by_cases hm : m < 0 ∨ 32 * Al q ≤ m
  · have E := Lib.hid (lnR_range hq hn hm)
    rcases k1 hm with hp | ⟨hp, hk⟩
    · rw [hp] at PR
      clear hq hn k1 k2 hp hm a0 a1
      generalize lnR q m n = R at *
      generalize plAt q m = P at *
      rcases hnn with rfl | rfl | rfl | rfl
      · go_enter Try.func35, Try.ntmps35
        go_wp2_with (first
          | (refine wpList_load_plan N.out.blk _ rfl rfl rfl ?_)
          | (go_at_call 14; refine (RT.out _).mono ?_; rintro e X1 ⟨rfl, hb⟩; have h1 := N.out.call hb; clear N hb)
          | (refine wpList_load_plan h1.blk _ rfl rfl rfl ?_)
          | (go_at_call 33; refine (PR.out _).mono ?_; rintro e X2 ⟨rfl, hb⟩; have h2 := h1.call hb; clear h1 hb)
          | (refine wpList_newL h2 P _ _ rfl rfl rfl rfl ?_; clear h2; intro X3 hE; generalize X2.heap.size = g5 at *; obtain ⟨u0, u1, u2, u3, u4⟩ := hE.bc.cells))
        go_ret3
        exact ⟨by rw [E.out]; rfl, hE.st.bel⟩
      · go_enter Try.func35, Try.ntmps35
        go_wp2_with (first
          | (refine wpList_load_plan N.out.blk _ rfl rfl rfl ?_)
          | (go_at_call 14; refine (RT.out _).mono ?_; rintro e X1 ⟨rfl, hb⟩; have h1 := N.out.call hb; clear N hb)
          | (refine wpList_load_plan h1.blk _ rfl rfl rfl ?_)
          | (go_at_call 33; refine (PR.out _).mono ?_; rintro e X2 ⟨rfl, hb⟩; have h2 := h1.call hb; clear h1 hb)
          | (refine wpList_newL h2 P _ _ rfl rfl rfl rfl ?_; clear h2; intro X3 hE; generalize X2.heap.size = g5 at *; obtain ⟨u0, u1, u2, u3, u4⟩ := hE.bc.cells))
        go_ret3
        exact ⟨by rw [E.out]; rfl, hE.st.bel⟩
      · go_enter Try.func35, Try.ntmps35
        go_wp2_with (first
          | (refine wpList_load_plan N.out.blk _ rfl rfl rfl ?_)
          | (go_at_call 14; refine (RT.out _).mono ?_; rintro e X1 ⟨rfl, hb⟩; have h1 := N.out.call hb; clear N hb)
          | (refine wpList_load_plan h1.blk _ rfl rfl rfl ?_)
          | (go_at_call 33; refine (PR.out _).mono ?_; rintro e X2 ⟨rfl, hb⟩; have h2 := h1.call hb; clear h1 hb)
          | (refine wpList_newL h2 P _ _ rfl rfl rfl rfl ?_; clear h2; intro X3 hE; generalize X2.heap.size = g5 at *; obtain ⟨u0, u1, u2, u3, u4⟩ := hE.bc.cells))
        go_ret3
        exact ⟨by rw [E.out]; rfl, hE.st.bel⟩
      · go_enter Try.func35, Try.ntmps35
        go_wp2_with (first
          | (refine wpList_load_plan N.out.blk _ rfl rfl rfl ?_)
          | (go_at_call 14; refine (RT.out _).mono ?_; rintro e X1 ⟨rfl, hb⟩; have h1 := N.out.call hb; clear N hb)
          | (refine wpList_load_plan h1.blk _ rfl rfl rfl ?_)
          | (go_at_call 33; refine (PR.out _).mono ?_; rintro e X2 ⟨rfl, hb⟩; have h2 := h1.call hb; clear h1 hb)
          | (refine wpList_newL h2 P _ _ rfl rfl rfl rfl ?_; clear h2; intro X3 hE; generalize X2.heap.size = g5 at *; obtain ⟨u0, u1, u2, u3, u4⟩ := hE.bc.cells))
        go_ret3
        exact ⟨by rw [E.out]; rfl, hE.st.bel⟩
    · rw [hp] at PR
      clear hq hn k1 k2 hp hm a0 a1
      generalize lnR q m n = R at *
      generalize plAt q m = P at *
      have g0 : (P.k = 1) = False := eq_false hk
      rcases hnn with rfl | rfl | rfl | rfl
      · go_enter Try.func35, Try.ntmps35
        go_wp2_with (first
          | (refine wpList_load_plan N.out.blk _ rfl rfl rfl ?_)
          | (go_at_call 14; refine (RT.out _).mono ?_; rintro e X1 ⟨rfl, hb⟩; have h1 := N.out.call hb; clear N hb)
          | (refine wpList_load_plan h1.blk _ rfl rfl rfl ?_)
          | (go_at_call 33; refine (PR.out _).mono ?_; rintro e X2 ⟨rfl, hb⟩; have h2 := h1.call hb; clear h1 hb)
          | (refine wpList_newL h2 P _ _ rfl rfl rfl rfl ?_; clear h2; intro X3 hE; generalize X2.heap.size = g5 at *; obtain ⟨u0, u1, u2, u3, u4⟩ := hE.bc.cells))
        go_ret3
        exact ⟨by rw [E.out]; rfl, hE.st.bel⟩
      · go_enter Try.func35, Try.ntmps35
        go_wp2_with (first
          | (refine wpList_load_plan N.out.blk _ rfl rfl rfl ?_)
          | (go_at_call 14; refine (RT.out _).mono ?_; rintro e X1 ⟨rfl, hb⟩; have h1 := N.out.call hb; clear N hb)
          | (refine wpList_load_plan h1.blk _ rfl rfl rfl ?_)
          | (go_at_call 33; refine (PR.out _).mono ?_; rintro e X2 ⟨rfl, hb⟩; have h2 := h1.call hb; clear h1 hb)
          | (refine wpList_newL h2 P _ _ rfl rfl rfl rfl ?_; clear h2; intro X3 hE; generalize X2.heap.size = g5 at *; obtain ⟨u0, u1, u2, u3, u4⟩ := hE.bc.cells))
        go_ret3
        exact ⟨by rw [E.out]; rfl, hE.st.bel⟩
      · go_enter Try.func35, Try.ntmps35
        go_wp2_with (first
          | (refine wpList_load_plan N.out.blk _ rfl rfl rfl ?_)
          | (go_at_call 14; refine (RT.out _).mono ?_; rintro e X1 ⟨rfl, hb⟩; have h1 := N.out.call hb; clear N hb)
          | (refine wpList_load_plan h1.blk _ rfl rfl rfl ?_)
          | (go_at_call 33; refine (PR.out _).mono ?_; rintro e X2 ⟨rfl, hb⟩; have h2 := h1.call hb; clear h1 hb)
          | (refine wpList_newL h2 P _ _ rfl rfl rfl rfl ?_; clear h2; intro X3 hE; generalize X2.heap.size = g5 at *; obtain ⟨u0, u1, u2, u3, u4⟩ := hE.bc.cells))
        go_ret3
        exact ⟨by rw [E.out]; rfl, hE.st.bel⟩
      · go_enter Try.func35, Try.ntmps35
        go_wp2_with (first
          | (refine wpList_load_plan N.out.blk _ rfl rfl rfl ?_)
          | (go_at_call 14; refine (RT.out _).mono ?_; rintro e X1 ⟨rfl, hb⟩; have h1 := N.out.call hb; clear N hb)
          | (refine wpList_load_plan h1.blk _ rfl rfl rfl ?_)
          | (go_at_call 33; refine (PR.out _).mono ?_; rintro e X2 ⟨rfl, hb⟩; have h2 := h1.call hb; clear h1 hb)
          | (refine wpList_newL h2 P _ _ rfl rfl rfl rfl ?_; clear h2; intro X3 hE; generalize X2.heap.size = g5 at *; obtain ⟨u0, u1, u2, u3, u4⟩ := hE.bc.cells))
        go_ret3
        exact ⟨by rw [E.out]; rfl, hE.st.bel⟩
  obtain ⟨hp, hP⟩ := k2 hm
  rw [hp] at PR
  obtain ⟨c, rfl⟩ : ∃ c : Nat, m = (c : Int) := ⟨m.toNat, by omega⟩
  have cb : c < 100000 := by omega
  have e1 : Hid ((plAt q (c : Int)).n = (c : Int) / 32) := by rw [hP]; exact rfl
  have e2 : Hid ((plAt q (c : Int)).o = (c : Int) % 32) := by rw [hP]; exact rfl
  have e3 : (plAt q (c : Int)).k = 1 := by rw [hP]
  clear k1 k2 hP hp
  rcases hnn with rfl | rfl | rfl | rfl
  · by_cases hr : (c : Int) % 1 = 0
    · have E := Lib.hid (lnR_ok hq hn hm hr)
      clear hq hn hm a0 a1
      generalize lnR q (c : Int) 1 = R at *
      generalize plAt q (c : Int) = P at *
      have r1 : ((c : Int) % 1 = 0) = True := eq_true hr
      have r2 : c % 1 = 0 := by omega
      go_enter Try.func35, Try.ntmps35
      go_wp2_with (first
        | (refine wpList_load_plan N.out.blk _ rfl rfl rfl ?_)
        | (go_at_call 14; refine (RT.out _).mono ?_; rintro e X1 ⟨rfl, hb⟩; have h1 := N.out.call hb; clear N hb)
        | (refine wpList_load_plan h1.blk _ rfl rfl rfl ?_)
        | (go_at_call 33; refine (PR.out _).mono ?_; rintro e X2 ⟨rfl, hb⟩; have h2 := h1.call hb; clear h1 hb)
        | (refine wpList_newL h2 P _ _ rfl rfl rfl rfl ?_; clear h2; intro X3 hE; generalize X2.heap.size = g5 at *; obtain ⟨u0, u1, u2, u3, u4⟩ := hE.bc.cells))
      go_quiet (fail)
      go_wp2
      go_ret3
      exact ⟨by rw [E.out]; rw [← e1.out, ← e2.out]; rfl, (below_drewN hE.st.bel _)⟩
    · exfalso; omega
  · by_cases hr : (c : Int) % 2 = 0
    · have E := Lib.hid (lnR_ok hq hn hm hr)
      clear hq hn hm a0 a1
      generalize lnR q (c : Int) 2 = R at *
      generalize plAt q (c : Int) = P at *
      have r1 : ((c : Int) % 2 = 0) = True := eq_true hr
      have r2 : c % 2 = 0 := by omega
      go_enter Try.func35, Try.ntmps35
      go_wp2_with (first
        | (refine wpList_load_plan N.out.blk _ rfl rfl rfl ?_)
        | (go_at_call 14; refine (RT.out _).mono ?_; rintro e X1 ⟨rfl, hb⟩; have h1 := N.out.call hb; clear N hb)
        | (refine wpList_load_plan h1.blk _ rfl rfl rfl ?_)
        | (go_at_call 33; refine (PR.out _).mono ?_; rintro e X2 ⟨rfl, hb⟩; have h2 := h1.call hb; clear h1 hb)
        | (refine wpList_newL h2 P _ _ rfl rfl rfl rfl ?_; clear h2; intro X3 hE; generalize X2.heap.size = g5 at *; obtain ⟨u0, u1, u2, u3, u4⟩ := hE.bc.cells))
      go_quiet (fail)
      go_wp2
      go_ret3
      exact ⟨by rw [E.out]; rw [← e1.out, ← e2.out]; rfl, (below_drewN hE.st.bel _)⟩
    · have E := Lib.hid (lnR_align hq hn hm hr)
      clear hq hn hm a0 a1
      generalize lnR q (c : Int) 2 = R at *
      generalize plAt q (c : Int) = P at *
      have r1 : ((c : Int) % 2 = 0) = False := eq_false hr
      have r2 : ¬ c % 2 = 0 := by omega
      go_enter Try.func35, Try.ntmps35
      go_wp2_with (first
        | (refine wpList_load_plan N.out.blk _ rfl rfl rfl ?_)
        | (go_at_call 14; refine (RT.out _).mono ?_; rintro e X1 ⟨rfl, hb⟩; have h1 := N.out.call hb; clear N hb)
        | (refine wpList_load_plan h1.blk _ rfl rfl rfl ?_)
        | (go_at_call 33; refine (PR.out _).mono ?_; rintro e X2 ⟨rfl, hb⟩; have h2 := h1.call hb; clear h1 hb)
        | (refine wpList_newL h2 P _ _ rfl rfl rfl rfl ?_; clear h2; intro X3 hE; generalize X2.heap.size = g5 at *; obtain ⟨u0, u1, u2, u3, u4⟩ := hE.bc.cells))
      go_ret3
      exact ⟨by rw [E.out]; rfl, hE.st.bel⟩
  · by_cases hr : (c : Int) % 4 = 0
    · have E := Lib.hid (lnR_ok hq hn hm hr)
      clear hq hn hm a0 a1
      generalize lnR q (c : Int) 4 = R at *
      generalize plAt q (c : Int) = P at *
      have r1 : ((c : Int) % 4 = 0) = True := eq_true hr
      have r2 : c % 4 = 0 := by omega
      go_enter Try.func35, Try.ntmps35
      go_wp2_with (first
        | (refine wpList_load_plan N.out.blk _ rfl rfl rfl ?_)
        | (go_at_call 14; refine (RT.out _).mono ?_; rintro e X1 ⟨rfl, hb⟩; have h1 := N.out.call hb; clear N hb)
        | (refine wpList_load_plan h1.blk _ rfl rfl rfl ?_)
        | (go_at_call 33; refine (PR.out _).mono ?_; rintro e X2 ⟨rfl, hb⟩; have h2 := h1.call hb; clear h1 hb)
        | (refine wpList_newL h2 P _ _ rfl rfl rfl rfl ?_; clear h2; intro X3 hE; generalize X2.heap.size = g5 at *; obtain ⟨u0, u1, u2, u3, u4⟩ := hE.bc.cells))
      go_quiet (fail)
      go_wp2
      go_ret3
      exact ⟨by rw [E.out]; rw [← e1.out, ← e2.out]; rfl, (below_drewN hE.st.bel _)⟩
    · have E := Lib.hid (lnR_align hq hn hm hr)
      clear hq hn hm a0 a1
      generalize lnR q (c : Int) 4 = R at *
      generalize plAt q (c : Int) = P at *
      have r1 : ((c : Int) % 4 = 0) = False := eq_false hr
      have r2 : ¬ c % 4 = 0 := by omega
      go_enter Try.func35, Try.ntmps35
      go_wp2_with (first
        | (refine wpList_load_plan N.out.blk _ rfl rfl rfl ?_)
        | (go_at_call 14; refine (RT.out _).mono ?_; rintro e X1 ⟨rfl, hb⟩; have h1 := N.out.call hb; clear N hb)
        | (refine wpList_load_plan h1.blk _ rfl rfl rfl ?_)
        | (go_at_call 33; refine (PR.out _).mono ?_; rintro e X2 ⟨rfl, hb⟩; have h2 := h1.call hb; clear h1 hb)
        | (refine wpList_newL h2 P _ _ rfl rfl rfl rfl ?_; clear h2; intro X3 hE; generalize X2.heap.size = g5 at *; obtain ⟨u0, u1, u2, u3, u4⟩ := hE.bc.cells))
      go_ret3
      exact ⟨by rw [E.out]; rfl, hE.st.bel⟩
  · by_cases hr : (c : Int) % 8 = 0
    · have E := Lib.hid (lnR_ok hq hn hm hr)
      clear hq hn hm a0 a1
      generalize lnR q (c : Int) 8 = R at *
      generalize plAt q (c : Int) = P at *
      have r1 : ((c : Int) % 8 = 0) = True := eq_true hr
      have r2 : c % 8 = 0 := by omega
      go_enter Try.func35, Try.ntmps35
      go_wp2_with (first
        | (refine wpList_load_plan N.out.blk _ rfl rfl rfl ?_)
        | (go_at_call 14; refine (RT.out _).mono ?_; rintro e X1 ⟨rfl, hb⟩; have h1 := N.out.call hb; clear N hb)
        | (refine wpList_load_plan h1.blk _ rfl rfl rfl ?_)
        | (go_at_call 33; refine (PR.out _).mono ?_; rintro e X2 ⟨rfl, hb⟩; have h2 := h1.call hb; clear h1 hb)
        | (refine wpList_newL h2 P _ _ rfl rfl rfl rfl ?_; clear h2; intro X3 hE; generalize X2.heap.size = g5 at *; obtain ⟨u0, u1, u2, u3, u4⟩ := hE.bc.cells))
      go_quiet (fail)
      go_wp2
      go_ret3
      exact ⟨by rw [E.out]; rw [← e1.out, ← e2.out]; rfl, (below_drewN hE.st.bel _)⟩
    · have E := Lib.hid (lnR_align hq hn hm hr)
      clear hq hn hm a0 a1
      generalize lnR q (c : Int) 8 = R at *
      generalize plAt q (c : Int) = P at *
      have r1 : ((c : Int) % 8 = 0) = False := eq_false hr
      have r2 : ¬ c % 8 = 0 := by omega
      go_enter Try.func35, Try.ntmps35
      go_wp2_with (first
        | (refine wpList_load_plan N.out.blk _ rfl rfl rfl ?_)
        | (go_at_call 14; refine (RT.out _).mono ?_; rintro e X1 ⟨rfl, hb⟩; have h1 := N.out.call hb; clear N hb)
        | (refine wpList_load_plan h1.blk _ rfl rfl rfl ?_)
        | (go_at_call 33; refine (PR.out _).mono ?_; rintro e X2 ⟨rfl, hb⟩; have h2 := h1.call hb; clear h1 hb)
        | (refine wpList_newL h2 P _ _ rfl rfl rfl rfl ?_; clear h2; intro X3 hE; generalize X2.heap.size = g5 at *; obtain ⟨u0, u1, u2, u3, u4⟩ := hE.bc.cells))
      go_ret3
      exact ⟨by rw [E.out]; rfl, hE.st.bel⟩
end Go.Proofs.Ytcbpnmcfiohndaa
