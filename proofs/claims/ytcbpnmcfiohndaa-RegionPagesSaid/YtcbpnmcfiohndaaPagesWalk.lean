/- The law of the pages of lines. No statement is proved here. -/
import Derived.Test.YtcbpnmcfiohndaaSpeaks6
namespace Go.Proofs.Ytcbpnmcfiohndaa
open Go.RowKit
set_option linter.unusedVariables false
set_option linter.unusedSimpArgs false

attribute [local irreducible] shaped Ls Lv Wd Al right bounded fitP sw hasI hasL PgI SlI BaI
set_option maxHeartbeats 4000000 in
set_option maxRecDepth 20000 in
theorem pages_any (p : Pl) (a b : Int) (w : World) : Calls Try.prog 11 #[.agg p.arr, .int .i64 a, .int .i64 b] w fun e w' => e = .returned (.bool true) ∧ Below w.heap.size w w' := by
  have SP := Lib.hid (fun W => speaks6_true W)
  have FT := Lib.hid (fun W => refFit_any p W)
  have N := Lib.hid (PSt.new w p)
  have hq := fit_right p
  generalize fitP p = q at *
  obtain ⟨-, hs, -, -⟩ := right_facts hq
  have PA := Lib.hid (fun W => page_any q a W)
  have PB := Lib.hid (fun W => page_any q b W)
  have BA := Lib.hid (fun W => bank_any q a W)
  cases ha : hasL q a
  · rw [ha] at PA BA
    clear ha hs hq
    generalize PgI q a = x1 at *
    generalize SlI q a = x2 at *
    generalize PgI q b = y1 at *
    generalize SlI q b = y2 at *
    generalize BaI q a = z1 at *
    generalize hasL q b = hb' at *
    go_enter Try.func11, Try.ntmps11
    go_wp2_with (first
      | (go_at_call 25; refine (SP.out _).mono ?_; rintro e X0 ⟨rfl, hb⟩; have h1 := N.out.call hb; clear N hb)
      | (refine wpList_load_plan h1.blk _ rfl rfl rfl ?_)
      | (go_at_call 24; refine (FT.out _).mono ?_; rintro e X1 ⟨rfl, hb⟩; have h2 := h1.call hb; clear h1 hb)
      | (refine wpList_newP h2 (Nat.le_refl _) _ _ rfl rfl rfl _ rfl rfl ?_; clear h2; intro X2 h3; have d1 := h3.blk.c1)
      | (refine wpList_load_plan h3.blk _ rfl rfl rfl ?_)
      | (go_at_call 36; have _ := h3; refine (PA.out _).mono ?_; rintro e X3 ⟨rfl, hb⟩; have h4 := h3.call hb; clear h3 hb d1)
      | (refine wpList_load_plan h4.blk _ rfl rfl rfl ?_)
      | (go_at_call 36; have _ := h4; refine (PB.out _).mono ?_; rintro e X4 ⟨rfl, hb⟩; have h5 := h4.call hb; clear h4 hb)
      | (refine wpList_load_plan h5.blk _ rfl rfl rfl ?_)
      | (go_at_call 37; have _ := h5; refine (BA.out _).mono ?_; rintro e X5 ⟨rfl, hb⟩; have h6 := h5.call hb; have d1 := h6.blk.c1; clear h5 hb))
    go_ret
    exact ⟨rfl, h6.bel⟩
  cases hb0 : hasL q b
  · rw [ha] at PA BA
    rw [hb0] at PB
    clear ha hs hq hb0
    generalize PgI q a = x1 at *
    generalize SlI q a = x2 at *
    generalize PgI q b = y1 at *
    generalize SlI q b = y2 at *
    generalize BaI q a = z1 at *
    go_enter Try.func11, Try.ntmps11
    go_wp2_with (first
      | (go_at_call 25; refine (SP.out _).mono ?_; rintro e X0 ⟨rfl, hb⟩; have h1 := N.out.call hb; clear N hb)
      | (refine wpList_load_plan h1.blk _ rfl rfl rfl ?_)
      | (go_at_call 24; refine (FT.out _).mono ?_; rintro e X1 ⟨rfl, hb⟩; have h2 := h1.call hb; clear h1 hb)
      | (refine wpList_newP h2 (Nat.le_refl _) _ _ rfl rfl rfl _ rfl rfl ?_; clear h2; intro X2 h3; have d1 := h3.blk.c1)
      | (refine wpList_load_plan h3.blk _ rfl rfl rfl ?_)
      | (go_at_call 36; have _ := h3; refine (PA.out _).mono ?_; rintro e X3 ⟨rfl, hb⟩; have h4 := h3.call hb; clear h3 hb d1)
      | (refine wpList_load_plan h4.blk _ rfl rfl rfl ?_)
      | (go_at_call 36; have _ := h4; refine (PB.out _).mono ?_; rintro e X4 ⟨rfl, hb⟩; have h5 := h4.call hb; clear h4 hb)
      | (refine wpList_load_plan h5.blk _ rfl rfl rfl ?_)
      | (go_at_call 37; have _ := h5; refine (BA.out _).mono ?_; rintro e X5 ⟨rfl, hb⟩; have h6 := h5.call hb; have d1 := h6.blk.c1; clear h5 hb))
    go_ret
    exact ⟨rfl, h6.bel⟩
  obtain ⟨-, m, rfl, hm⟩ := hasL_facts ha
  obtain ⟨-, m2, rfl, hm2⟩ := hasL_facts hb0
  obtain ⟨-, al⟩ := Al_bounds q
  have sh := sh_of hs
  have c1 := sh.ba
  have b1 := sh.b1
  have b2 := sh.b2
  have eP : ∀ k : Nat, hasL q (k : Int) = true → PgI q (k : Int) = ((k / q.li.toNat : Nat) : Int) := fun k hk => by unfold PgI; rw [if_pos hk, sh.li]; exact Int.ofNat_ediv_ofNat
  have eB : ∀ k : Nat, hasL q (k : Int) = true → BaI q (k : Int) = ((k % q.ba.toNat : Nat) : Int) := fun k hk => by unfold BaI; rw [if_pos hk, sh.ba]; rfl
  have BN : Hid (∀ W, Calls Try.prog 37 #[.agg q.arr, .int .i64 ((m : Int) + 1)] W fun e w' => e = .returned (.tuple #[.int .i64 (BaI q ((m + 1 : Nat) : Int)), .bool (hasL q ((m + 1 : Nat) : Int))]) ∧ Below W.heap.size W w') := fun W => bank_any q ((m + 1 : Nat) : Int) W
  rw [eP m ha, ha] at PA
  rw [eP m2 hb0, hb0] at PB
  rw [eB m ha, ha] at BA
  have mono1 : m < m2 → m / q.li.toNat ≤ m2 / q.li.toNat := fun h => Nat.div_le_div_right (Nat.le_of_lt h)
  have mono2 : m2 < m → m2 / q.li.toNat ≤ m / q.li.toNat := fun h => Nat.div_le_div_right (Nat.le_of_lt h)
  have bk1 : m % q.ba.toNat < q.ba.toNat := Nat.mod_lt _ (by omega)
  have step : (m % q.ba.toNat + 1) % q.ba.toNat = (m + 1) % q.ba.toNat := by rw [Nat.mod_add_mod]
  have nb := fun h => eB (m + 1) h
  generalize SlI q (m : Int) = x2 at *
  generalize SlI q (m2 : Int) = y2 at *
  generalize m / q.li.toNat = x at *
  generalize m2 / q.li.toNat = y at *
  generalize m % q.ba.toNat = i at *
  generalize (m + 1) % q.ba.toNat = k at *
  generalize q.ba.toNat = bk at *
  have hm' : m < 128 := by omega
  have q1 : ((i : Int) + 1) % (bk : Int) = (k : Int) := by rw [← step]; rfl
  have d0 : (bk : Int) ≠ 0 := by omega
  have g1 : ((i : Int) < 0) = False := eq_false (by omega)
  have g2 : ((bk : Int) ≤ (i : Int)) = False := eq_false (by omega)
  have g3 : (bk ≤ i) = False := eq_false (by omega)
  clear eP eB ha hb0 hm hm2 al sh hs hq step
  have HN : (hasL q ((m + 1 : Nat) : Int) = false) ∨ (hasL q ((m + 1 : Nat) : Int) = true ∧ BaI q ((m + 1 : Nat) : Int) = (k : Int)) := by
    cases hc : hasL q ((m + 1 : Nat) : Int)
    · exact .inl rfl
    · exact .inr ⟨rfl, nb hc⟩
  clear nb
  rcases Nat.lt_trichotomy m m2 with hlt | heq | hgt
  · skip
    have u := mono1 hlt
    have e1 : ((m : Int) < (m2 : Int)) = True := eq_true (by omega)
    have e2 : (m < m2) = True := eq_true hlt
    have e3 : ((y : Int) < (x : Int)) = False := eq_false (by omega)
    have e4 : (y < x) = False := eq_false (by omega)
    have e5 : ((m2 : Int) < (m : Int)) = False := eq_false (by omega)
    have e6 : (m2 < m) = False := eq_false (by omega)
    clear mono1 mono2 hlt
    rcases HN with HN | ⟨HN, HB⟩
    · rw [HN] at BN
      generalize BaI q ((m + 1 : Nat) : Int) = z at *
      clear HN
      go_enter Try.func11, Try.ntmps11
      go_wp2_with (first
        | (go_at_call 25; refine (SP.out _).mono ?_; rintro e X0 ⟨rfl, hb⟩; have h1 := N.out.call hb; clear N hb)
        | (refine wpList_load_plan h1.blk _ rfl rfl rfl ?_)
        | (go_at_call 24; refine (FT.out _).mono ?_; rintro e X1 ⟨rfl, hb⟩; have h2 := h1.call hb; clear h1 hb)
        | (refine wpList_newP h2 (Nat.le_refl _) _ _ rfl rfl rfl _ rfl rfl ?_; clear h2; intro X2 h3; have d1 := h3.blk.c1)
        | (refine wpList_load_plan h3.blk _ rfl rfl rfl ?_)
        | (go_at_call 36; have _ := h3; refine (PA.out _).mono ?_; rintro e X3 ⟨rfl, hb⟩; have h4 := h3.call hb; clear h3 hb d1)
        | (refine wpList_load_plan h4.blk _ rfl rfl rfl ?_)
        | (go_at_call 36; have _ := h4; refine (PB.out _).mono ?_; rintro e X4 ⟨rfl, hb⟩; have h5 := h4.call hb; clear h4 hb)
        | (refine wpList_load_plan h5.blk _ rfl rfl rfl ?_)
        | (go_at_call 37; have _ := h5; refine (BA.out _).mono ?_; rintro e X5 ⟨rfl, hb⟩; have h6 := h5.call hb; have d1 := h6.blk.c1; rw [c1] at d1; clear h5 hb)
        | (refine wpList_load_plan h6.blk _ rfl rfl rfl ?_)
        | (go_at_call 37; have _ := h6; refine (BN.out _).mono ?_; rintro e X6 ⟨rfl, hb⟩; have h7 := h6.call hb; clear d1; have d1 := h7.blk.c1; rw [c1] at d1; clear h6 hb))
      go_ret
      exact ⟨rfl, h7.bel⟩
    · rw [HN, HB] at BN
      clear HN HB
      go_enter Try.func11, Try.ntmps11
      go_wp2_with (first
        | (go_at_call 25; refine (SP.out _).mono ?_; rintro e X0 ⟨rfl, hb⟩; have h1 := N.out.call hb; clear N hb)
        | (refine wpList_load_plan h1.blk _ rfl rfl rfl ?_)
        | (go_at_call 24; refine (FT.out _).mono ?_; rintro e X1 ⟨rfl, hb⟩; have h2 := h1.call hb; clear h1 hb)
        | (refine wpList_newP h2 (Nat.le_refl _) _ _ rfl rfl rfl _ rfl rfl ?_; clear h2; intro X2 h3; have d1 := h3.blk.c1)
        | (refine wpList_load_plan h3.blk _ rfl rfl rfl ?_)
        | (go_at_call 36; have _ := h3; refine (PA.out _).mono ?_; rintro e X3 ⟨rfl, hb⟩; have h4 := h3.call hb; clear h3 hb d1)
        | (refine wpList_load_plan h4.blk _ rfl rfl rfl ?_)
        | (go_at_call 36; have _ := h4; refine (PB.out _).mono ?_; rintro e X4 ⟨rfl, hb⟩; have h5 := h4.call hb; clear h4 hb)
        | (refine wpList_load_plan h5.blk _ rfl rfl rfl ?_)
        | (go_at_call 37; have _ := h5; refine (BA.out _).mono ?_; rintro e X5 ⟨rfl, hb⟩; have h6 := h5.call hb; have d1 := h6.blk.c1; rw [c1] at d1; clear h5 hb)
        | (refine wpList_load_plan h6.blk _ rfl rfl rfl ?_)
        | (go_at_call 37; have _ := h6; refine (BN.out _).mono ?_; rintro e X6 ⟨rfl, hb⟩; have h7 := h6.call hb; clear d1; have d1 := h7.blk.c1; rw [c1] at d1; clear h6 hb))
      go_ret
      exact ⟨rfl, h7.bel⟩
  · skip
    have e1 : ((m : Int) < (m2 : Int)) = False := eq_false (by omega)
    have e2 : (m < m2) = False := eq_false (by omega)
    have e5 : ((m2 : Int) < (m : Int)) = False := eq_false (by omega)
    have e6 : (m2 < m) = False := eq_false (by omega)
    clear mono1 mono2 heq
    rcases HN with HN | ⟨HN, HB⟩
    · rw [HN] at BN
      generalize BaI q ((m + 1 : Nat) : Int) = z at *
      clear HN
      go_enter Try.func11, Try.ntmps11
      go_wp2_with (first
        | (go_at_call 25; refine (SP.out _).mono ?_; rintro e X0 ⟨rfl, hb⟩; have h1 := N.out.call hb; clear N hb)
        | (refine wpList_load_plan h1.blk _ rfl rfl rfl ?_)
        | (go_at_call 24; refine (FT.out _).mono ?_; rintro e X1 ⟨rfl, hb⟩; have h2 := h1.call hb; clear h1 hb)
        | (refine wpList_newP h2 (Nat.le_refl _) _ _ rfl rfl rfl _ rfl rfl ?_; clear h2; intro X2 h3; have d1 := h3.blk.c1)
        | (refine wpList_load_plan h3.blk _ rfl rfl rfl ?_)
        | (go_at_call 36; have _ := h3; refine (PA.out _).mono ?_; rintro e X3 ⟨rfl, hb⟩; have h4 := h3.call hb; clear h3 hb d1)
        | (refine wpList_load_plan h4.blk _ rfl rfl rfl ?_)
        | (go_at_call 36; have _ := h4; refine (PB.out _).mono ?_; rintro e X4 ⟨rfl, hb⟩; have h5 := h4.call hb; clear h4 hb)
        | (refine wpList_load_plan h5.blk _ rfl rfl rfl ?_)
        | (go_at_call 37; have _ := h5; refine (BA.out _).mono ?_; rintro e X5 ⟨rfl, hb⟩; have h6 := h5.call hb; have d1 := h6.blk.c1; rw [c1] at d1; clear h5 hb)
        | (refine wpList_load_plan h6.blk _ rfl rfl rfl ?_)
        | (go_at_call 37; have _ := h6; refine (BN.out _).mono ?_; rintro e X6 ⟨rfl, hb⟩; have h7 := h6.call hb; clear d1; have d1 := h7.blk.c1; rw [c1] at d1; clear h6 hb))
      go_ret
      exact ⟨rfl, h7.bel⟩
    · rw [HN, HB] at BN
      clear HN HB
      go_enter Try.func11, Try.ntmps11
      go_wp2_with (first
        | (go_at_call 25; refine (SP.out _).mono ?_; rintro e X0 ⟨rfl, hb⟩; have h1 := N.out.call hb; clear N hb)
        | (refine wpList_load_plan h1.blk _ rfl rfl rfl ?_)
        | (go_at_call 24; refine (FT.out _).mono ?_; rintro e X1 ⟨rfl, hb⟩; have h2 := h1.call hb; clear h1 hb)
        | (refine wpList_newP h2 (Nat.le_refl _) _ _ rfl rfl rfl _ rfl rfl ?_; clear h2; intro X2 h3; have d1 := h3.blk.c1)
        | (refine wpList_load_plan h3.blk _ rfl rfl rfl ?_)
        | (go_at_call 36; have _ := h3; refine (PA.out _).mono ?_; rintro e X3 ⟨rfl, hb⟩; have h4 := h3.call hb; clear h3 hb d1)
        | (refine wpList_load_plan h4.blk _ rfl rfl rfl ?_)
        | (go_at_call 36; have _ := h4; refine (PB.out _).mono ?_; rintro e X4 ⟨rfl, hb⟩; have h5 := h4.call hb; clear h4 hb)
        | (refine wpList_load_plan h5.blk _ rfl rfl rfl ?_)
        | (go_at_call 37; have _ := h5; refine (BA.out _).mono ?_; rintro e X5 ⟨rfl, hb⟩; have h6 := h5.call hb; have d1 := h6.blk.c1; rw [c1] at d1; clear h5 hb)
        | (refine wpList_load_plan h6.blk _ rfl rfl rfl ?_)
        | (go_at_call 37; have _ := h6; refine (BN.out _).mono ?_; rintro e X6 ⟨rfl, hb⟩; have h7 := h6.call hb; clear d1; have d1 := h7.blk.c1; rw [c1] at d1; clear h6 hb))
      go_ret
      exact ⟨rfl, h7.bel⟩
  · skip
    have u := mono2 hgt
    have e1 : ((m : Int) < (m2 : Int)) = False := eq_false (by omega)
    have e2 : (m < m2) = False := eq_false (by omega)
    have e3 : ((x : Int) < (y : Int)) = False := eq_false (by omega)
    have e4 : (x < y) = False := eq_false (by omega)
    have e5 : ((m2 : Int) < (m : Int)) = True := eq_true (by omega)
    have e6 : (m2 < m) = True := eq_true hgt
    clear mono1 mono2 hgt
    rcases HN with HN | ⟨HN, HB⟩
    · rw [HN] at BN
      generalize BaI q ((m + 1 : Nat) : Int) = z at *
      clear HN
      go_enter Try.func11, Try.ntmps11
      go_wp2_with (first
        | (go_at_call 25; refine (SP.out _).mono ?_; rintro e X0 ⟨rfl, hb⟩; have h1 := N.out.call hb; clear N hb)
        | (refine wpList_load_plan h1.blk _ rfl rfl rfl ?_)
        | (go_at_call 24; refine (FT.out _).mono ?_; rintro e X1 ⟨rfl, hb⟩; have h2 := h1.call hb; clear h1 hb)
        | (refine wpList_newP h2 (Nat.le_refl _) _ _ rfl rfl rfl _ rfl rfl ?_; clear h2; intro X2 h3; have d1 := h3.blk.c1)
        | (refine wpList_load_plan h3.blk _ rfl rfl rfl ?_)
        | (go_at_call 36; have _ := h3; refine (PA.out _).mono ?_; rintro e X3 ⟨rfl, hb⟩; have h4 := h3.call hb; clear h3 hb d1)
        | (refine wpList_load_plan h4.blk _ rfl rfl rfl ?_)
        | (go_at_call 36; have _ := h4; refine (PB.out _).mono ?_; rintro e X4 ⟨rfl, hb⟩; have h5 := h4.call hb; clear h4 hb)
        | (refine wpList_load_plan h5.blk _ rfl rfl rfl ?_)
        | (go_at_call 37; have _ := h5; refine (BA.out _).mono ?_; rintro e X5 ⟨rfl, hb⟩; have h6 := h5.call hb; have d1 := h6.blk.c1; rw [c1] at d1; clear h5 hb)
        | (refine wpList_load_plan h6.blk _ rfl rfl rfl ?_)
        | (go_at_call 37; have _ := h6; refine (BN.out _).mono ?_; rintro e X6 ⟨rfl, hb⟩; have h7 := h6.call hb; clear d1; have d1 := h7.blk.c1; rw [c1] at d1; clear h6 hb))
      go_ret
      exact ⟨rfl, h7.bel⟩
    · rw [HN, HB] at BN
      clear HN HB
      go_enter Try.func11, Try.ntmps11
      go_wp2_with (first
        | (go_at_call 25; refine (SP.out _).mono ?_; rintro e X0 ⟨rfl, hb⟩; have h1 := N.out.call hb; clear N hb)
        | (refine wpList_load_plan h1.blk _ rfl rfl rfl ?_)
        | (go_at_call 24; refine (FT.out _).mono ?_; rintro e X1 ⟨rfl, hb⟩; have h2 := h1.call hb; clear h1 hb)
        | (refine wpList_newP h2 (Nat.le_refl _) _ _ rfl rfl rfl _ rfl rfl ?_; clear h2; intro X2 h3; have d1 := h3.blk.c1)
        | (refine wpList_load_plan h3.blk _ rfl rfl rfl ?_)
        | (go_at_call 36; have _ := h3; refine (PA.out _).mono ?_; rintro e X3 ⟨rfl, hb⟩; have h4 := h3.call hb; clear h3 hb d1)
        | (refine wpList_load_plan h4.blk _ rfl rfl rfl ?_)
        | (go_at_call 36; have _ := h4; refine (PB.out _).mono ?_; rintro e X4 ⟨rfl, hb⟩; have h5 := h4.call hb; clear h4 hb)
        | (refine wpList_load_plan h5.blk _ rfl rfl rfl ?_)
        | (go_at_call 37; have _ := h5; refine (BA.out _).mono ?_; rintro e X5 ⟨rfl, hb⟩; have h6 := h5.call hb; have d1 := h6.blk.c1; rw [c1] at d1; clear h5 hb)
        | (refine wpList_load_plan h6.blk _ rfl rfl rfl ?_)
        | (go_at_call 37; have _ := h6; refine (BN.out _).mono ?_; rintro e X6 ⟨rfl, hb⟩; have h7 := h6.call hb; clear d1; have d1 := h7.blk.c1; rw [c1] at d1; clear h6 hb))
      go_ret
      exact ⟨rfl, h7.bel⟩
end Go.Proofs.Ytcbpnmcfiohndaa
