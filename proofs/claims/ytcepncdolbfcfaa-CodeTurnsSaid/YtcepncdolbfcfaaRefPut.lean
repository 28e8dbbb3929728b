/- The document's Put. No statement is proved here. -/
import Derived.Test.YtcepncdolbfcfaaRefBit
namespace Go.Proofs.Ytcepncdolbfcfaa
open Go.RowKit
set_option linter.unusedVariables false
set_option linter.unusedSimpArgs false

theorem newByte_cases : ∀ u : Fin 256, ∀ j : Fin 8, (u.val / 2 ^ j.val % 2 = 1 → newByte u j 0 + 2 ^ j.val = u ∧ newByte u j 1 = u) ∧ (u.val / 2 ^ j.val % 2 = 0 → newByte u j 1 = u + 2 ^ j.val ∧ newByte u j 0 = u) := by decide +kernel
theorem newByte_facts {u j : Nat} (hu : u < 256) (hj : j < 8) : (u / 2 ^ j % 2 = 1 → newByte u j 0 + 2 ^ j = u ∧ newByte u j 1 = u) ∧ (u / 2 ^ j % 2 = 0 → newByte u j 1 = u + 2 ^ j ∧ newByte u j 0 = u) := newByte_cases ⟨u, hu⟩ ⟨j, hj⟩
theorem table_u8 (r : Nat) (hr : r < 8) : (#[.int .u8 1, .int .u8 2, .int .u8 4, .int .u8 8, .int .u8 16, .int .u8 32, .int .u8 64, .int .u8 128] : Array Value)[r]? = some (.int .u8 ((2 ^ r : Nat) : Int)) := by
  rcases (show r = 0 ∨ r = 1 ∨ r = 2 ∨ r = 3 ∨ r = 4 ∨ r = 5 ∨ r = 6 ∨ r = 7 by omega) with rfl | rfl | rfl | rfl | rfl | rfl | rfl | rfl <;> rfl
def RP1 (v : Nat) (n : Nat) (x i : Value) : Prop := ∃ k : Nat, k ≤ n ∧ i = .int .i64 (k : Nat) ∧ x = .int .u64 ((v / 2 ^ k : Nat) : Int)
def RP2 (w : World) (g L c a n v : Nat) (xs : List Nat) (x i : Value) (wr : World) : Prop :=
  ∃ k : Nat, k ≤ n ∧ i = .int .i64 (k : Nat) ∧ x = .int .u64 ((v / 2 ^ k : Nat) : Int) ∧ Own wr w.heap.size (some ⟨g, 0, none⟩) L c (putN xs a v k) ∧ Below w.heap.size w wr
theorem setBit_eq (xs : List Nat) (s d b : Nat) (h : newByte (xs.getD (s / 8) 0) (s % 8) d = b) : setBit xs s d = xs.set (s / 8) b := by unfold setBit; rw [h]
theorem set_same (xs : List Nat) (q : Nat) : xs.set q (xs.getD q 0) = xs := by
  by_cases h : q < xs.length
  · rw [List.getD_eq_getElem?_getD, List.getElem?_eq_getElem h]; simp
  · exact List.set_eq_of_length_le (by omega)
theorem bitN_setBit (xs : List Nat) (s d : Nat) (h : ∀ x ∈ xs, x < 256) (hs : s < 8 * xs.length) (hd : d < 2) : bitN (setBit xs s d) s = d := by
  have h1 := bitAt_setBit xs s d s h hs hd
  rw [if_pos rfl, ← bitN_bitAt] at h1
  have h2 := bitN_lt (setBit xs s d) s
  have h3 : (bitN (setBit xs s d) s = 1) ↔ (d = 1) := by simpa using h1
  by_cases e : d = 1
  · rw [h3.2 e, e]
  · have : ¬ bitN (setBit xs s d) s = 1 := fun x => e (h3.1 x)
    omega
theorem Own.stored {w : World} {base g n c : Nat} {xs : List Nat} (h : Own w base (some ⟨g, 0, none⟩) n c xs) (q b : Nat) (hb : b < 256) : Own (w.setCell ⟨g, q, none⟩ (.int .u8 (b : Int))) base (some ⟨g, 0, none⟩) n c (xs.set q b) ∧ w.grownBy (w.setCell ⟨g, q, none⟩ (.int .u8 (b : Int))) (some g) := by
  obtain ⟨h1, h2⟩ := h.2.2.stored q (.int .u8 (b : Int))
  refine ⟨⟨by rw [List.length_set]; exact h.1, fun x hx => ?_, by rw [vals_set]; exact h1⟩, h2⟩
  rcases List.mem_or_eq_of_mem_set hx with hx | rfl
  · exact h.2.1 x hx
  · exact hb
/-- The call hands back bytes in memory of its own, and a 0. -/
def GivesP (w : World) (L : Nat) (ys : List Nat) (e : Ending) (w' : World) : Prop := ∃ A' c', e = .returned (.tuple #[.slice A' L c', .int .i64 0]) ∧ Own w' w.heap.size A' L c' ys ∧ Below w.heap.size w w'
set_option maxHeartbeats 4000000 in
set_option maxRecDepth 20000 in
theorem refPut_any (A : Option Addr) (L c a n v : Nat) (xs : List Nat) (w : World) (hx : Row w w.heap.size A L c xs) (hL : L ≤ 3000) (hL0 : 0 < L) (h1 : n ≤ 64) (h2 : a + n ≤ 8 * L) (hv : v < 2 ^ n) (hv2 : v < 18446744073709551616) :
    Calls Try.prog 39 #[.slice A L c, .int .i64 a, .int .i64 n, .int .u64 v] w (GivesP w L (putN xs a v n)) := by
  have F := Lib.hid (fun W => refFits_yes A L c a n W hL h1 h2)
  have HV := Lib.hid hv
  have HX := Lib.hid hx
  clear hx hv
  go_enter Try.func39, Try.ntmps39
  go_wp2_with (first
    | (refine wpList_append_row _ rfl _ _ rfl w.heap.size _ 0 0 [] rfl (Own.empty (Nat.le_refl _)) w.heap.size A L c xs rfl (HX.out.alloc (Nat.le_refl _) _) (by omega) (by simp) ?_; intro A2 c2 W2 hO2 hg2 _; have hB2 := Lib.hid (below_first hg2); clear hg2)
    | (go_at_call 56; refine (F.out _).mono ?_; rintro e W3 ⟨rfl, rfl⟩))
  rw [Nat.zero_add] at *
  rw [List.nil_append] at hO2
  obtain ⟨g, rfl⟩ := own_head hO2 hL0
  have HO2 := Lib.hid hO2
  clear hO2
  go_loop [11, 12] (RP1 v n) (fun _ i => n - (intOf i).toNat)
  case atStart => exact ⟨0, by omega, rfl, by simp⟩
  case round =>
    obtain ⟨k, hk, rfl, rfl⟩ := hrel
    have hle : v / 2 ^ k < 18446744073709551616 := Nat.lt_of_le_of_lt (Nat.div_le_self _ _) hv2
    by_cases hlt : k < n
    · have he : Hid (v / 2 ^ (k + 1) = v / 2 ^ k / 2) := by rw [Nat.pow_succ, Nat.div_div_eq_div_mul]; exact rfl
      generalize v / 2 ^ k = y at *
      go_wp2
      go_round
      case rel => exact ⟨k + 1, by omega, by go_num, by rw [he.out]; go_num⟩
      case measure => simp [intOf]; omega
    · obtain rfl : k = n := by omega
      have e0 : v / 2 ^ k = 0 := Nat.div_eq_of_lt HV.out
      rw [e0]
      clear e0 hle hlt hk
      go_wp2
      go_loopw [3, 13] (RP2 w g L c2 a k v xs) (fun _ i _ => k - (intOf i).toNat)
      case atStart => exact ⟨0, by omega, rfl, by simp, HO2.out, hB2.out⟩
      case round =>
        obtain ⟨j, hj, rfl, rfl, hO3, hb3⟩ := hrel
        clear HO2 hB2
        have HB3 := Lib.hid hb3
        clear hb3
        by_cases hlt : j < k
        · have hle : v / 2 ^ j < 18446744073709551616 := Nat.lt_of_le_of_lt (Nat.div_le_self _ _) hv2
          have he : Hid (v / 2 ^ (j + 1) = v / 2 ^ j / 2) := by rw [Nat.pow_succ, Nat.div_div_eq_div_mul]; exact rfl
          have hP : Hid (putN xs a v (j + 1) = setBit (putN xs a v j) (a + j) (v / 2 ^ j % 2)) := rfl
          have hc := hO3.2.2.cellAt ((a + j) / 8) (by omega)
          rw [vals_getElem? (putN xs a v j) ((a + j) / 8) (by rw [hO3.len]; omega)] at hc
          have hf := hO3.2.2.frozenAt ((a + j) / 8)
          have hu := hO3.row.lt ((a + j) / 8)
          have RB := Lib.hid (fun ys W (h : Own W w.heap.size (some ⟨g, 0, none⟩) L c2 ys) => refBit_any (some ⟨g, 0, none⟩) L c2 (a + j) ys W h.row hL (by omega))
          have nf := newByte_facts hu (show (a + j) % 8 < 8 by omega)
          have bx : Hid (bitN (putN xs a v j) (a + j) = (putN xs a v j).getD ((a + j) / 8) 0 / 2 ^ ((a + j) % 8) % 2) := rfl
          have HO3 := Lib.hid hO3
          have tb := table_u8 ((a + j) % 8) (by omega)
          have hq : (a + j) / 8 < L := by omega
          clear hO3
          have hPb := Lib.hid (fun d hd => bitN_setBit (putN xs a v j) (a + j) d HO3.out.2.1 (by rw [HO3.out.len]; omega) hd)
          have hSe := Lib.hid (fun d b h => setBit_eq (putN xs a v j) (a + j) d b h)
          have hSs := Lib.hid (set_same (putN xs a v j) ((a + j) / 8))
          have ed : ((v / 2 ^ j : Nat) : Int) % 2 = ((v / 2 ^ j % 2 : Nat) : Int) := by omega
          have dl : v / 2 ^ j % 2 < 2 := by omega
          have ea : (a : Int) + (j : Int) = ((a + j : Nat) : Int) := by omega
          generalize putN xs a v j = P at *
          generalize v / 2 ^ j % 2 = d at *
          generalize v / 2 ^ j = y at *
          generalize a + j = s at *
          have e8 : (s : Int) % 8 = ((s % 8 : Nat) : Int) := by omega
          have e9 : (s : Int) / 8 = ((s / 8 : Nat) : Int) := by omega
          have pl : 2 ^ (s % 8) ≤ 2 ^ 7 := Nat.pow_le_pow_right (by omega) (by omega)
          have rl : s % 8 < 8 := by omega
          generalize s % 8 = r at *
          generalize s / 8 = q at *
          generalize hgu : P.getD q 0 = u at *
          have HU := Lib.hid hgu
          clear hgu
          have zl : u / 2 ^ r % 2 < 2 := by omega
          generalize u / 2 ^ r % 2 = z at *
          generalize 2 ^ r = p2 at *
          have tb2 : [Value.int .u8 1, .int .u8 2, .int .u8 4, .int .u8 8, .int .u8 16, .int .u8 32, .int .u8 64, .int .u8 128][r]'(by simpa using rl) = .int .u8 (p2 : Int) := by
            have := tb
            rw [Array.getElem?_eq_getElem (by simpa using rl)] at this
            simpa using this
          clear tb
          have sl : s ≤ 24000 := by omega
          obtain ⟨nf1, nf0⟩ := nf
          have NF1 := Lib.hid nf1
          have NF0 := Lib.hid nf0
          clear nf1 nf0
          rcases (show z = 0 ∨ z = 1 by omega) with rfl | rfl
          · obtain ⟨n1, n0⟩ := NF0.out rfl
            have N1 := Lib.hid n1
            have N0 := Lib.hid n0
            clear n1 n0 NF1 NF0
            rcases (show d = 0 ∨ d = 1 by omega) with rfl | rfl
            · have _ := dl
              have hS : Hid (setBit P s 0 = P) := by rw [hSe.out 0 u N0.out]; exact hSs.out
              go_wp2_with (first
                | (go_at_call 57; have _ := HO3; refine (RB.out _ _ (HO3.out.alloc _)).mono ?_; rintro e W4 ⟨rfl, hb4⟩; rw [bx.out]; have HO4 := Lib.hid ((HO3.out.alloc _).below hb4); have HB4 := Lib.hid ((HB3.out.alloc HB3.out.size _).trans (hb4.mono (by have := HB3.out.size; simp; omega))); have hc4 := HO4.out.2.2.cellAt q (by omega); rw [vals_getElem? P q (by rw [HO4.out.len]; omega), HU.out] at hc4; have hf4 := HO4.out.2.2.frozenAt q; clear HO3 HB3 hb4 hc hf)
                | (go_at_call 57; have _ := HO4; refine (RB.out _ _ HO4.out).mono ?_; rintro e W5 ⟨rfl, hb5⟩; rw [bx.out]; have HO5 := Lib.hid (HO4.out.below hb5); have HB5 := Lib.hid (HB4.out.trans (hb5.mono HB4.out.size)); have hc5 := HO5.out.2.2.cellAt q (by omega); rw [vals_getElem? P q (by rw [HO5.out.len]; omega), HU.out] at hc5; have hf5 := HO5.out.2.2.frozenAt q; clear HO4 HB4 hb5 hc4 hf4))
              go_roundw
              case rel => exact ⟨j + 1, by omega, by go_num, by rw [he.out]; go_num, by rw [hP.out, hS.out]; exact HO5.out, HB5.out⟩
              case measure => simp [intOf]; omega
            · have _ := dl
              have hS := Lib.hid (hSe.out 1 _ rfl)
              have bl := newByte_lt u r 1 hu rl (by omega)
              have ew : IntKind.u8.wrap ((u : Int) + (p2 : Int)) = (newByte u r 1 : Nat) := by have := N1.out; rw [this] at bl ⊢; simp [IntKind.wrap, IntKind.bits, IntKind.signed]; omega
              generalize newByte u r 1 = b at *
              go_wp2_with (first
                | (go_at_call 57; have _ := HO3; refine (RB.out _ _ (HO3.out.alloc _)).mono ?_; rintro e W4 ⟨rfl, hb4⟩; rw [bx.out]; have HO4 := Lib.hid ((HO3.out.alloc _).below hb4); have HB4 := Lib.hid ((HB3.out.alloc HB3.out.size _).trans (hb4.mono (by have := HB3.out.size; simp; omega))); have hc4 := HO4.out.2.2.cellAt q (by omega); rw [vals_getElem? P q (by rw [HO4.out.len]; omega), HU.out] at hc4; have hf4 := HO4.out.2.2.frozenAt q; clear HO3 HB3 hb4 hc hf)
                | (go_at_call 57; have _ := HO4; refine (RB.out _ _ HO4.out).mono ?_; rintro e W5 ⟨rfl, hb5⟩; rw [bx.out]; have HO5 := Lib.hid (HO4.out.below hb5); have HB5 := Lib.hid (HB4.out.trans (hb5.mono HB4.out.size)); have hc5 := HO5.out.2.2.cellAt q (by omega); rw [vals_getElem? P q (by rw [HO5.out.len]; omega), HU.out] at hc5; have hf5 := HO5.out.2.2.frozenAt q; clear HO4 HB4 hb5 hc4 hf4))
              go_roundw
              case rel =>
                obtain ⟨o1, o2⟩ := HO5.out.stored q b bl
                exact ⟨j + 1, by omega, by go_num, by rw [he.out]; go_num, by rw [hP.out, hS.out]; exact o1, HB5.out.grown o2 HB5.out.size (fun k hk => by injection hk with hk; have := (HO5.out.2.2.lt g rfl).1; omega)⟩
              case measure => simp [intOf]; omega
          · obtain ⟨n0, n1⟩ := NF1.out rfl
            have N1 := Lib.hid n1
            have N0 := Lib.hid n0
            clear n1 n0 NF1 NF0
            rcases (show d = 0 ∨ d = 1 by omega) with rfl | rfl
            · have _ := dl
              have hS := Lib.hid (hSe.out 0 _ rfl)
              have bl := newByte_lt u r 0 hu rl (by omega)
              have bz := Lib.hid (hPb.out 0 (by omega))
              rw [hS.out] at bz
              have ew : IntKind.u8.wrap ((u : Int) - (p2 : Int)) = (newByte u r 0 : Nat) := by have := N0.out; simp [IntKind.wrap, IntKind.bits, IntKind.signed]; omega
              generalize newByte u r 0 = b at *
              go_wp2_with (first
                | (go_at_call 57; have _ := HO3; refine (RB.out _ _ (HO3.out.alloc _)).mono ?_; rintro e W4 ⟨rfl, hb4⟩; rw [bx.out]; have HO4 := Lib.hid ((HO3.out.alloc _).below hb4); have HB4 := Lib.hid ((HB3.out.alloc HB3.out.size _).trans (hb4.mono (by have := HB3.out.size; simp; omega))); have hc4 := HO4.out.2.2.cellAt q (by omega); rw [vals_getElem? P q (by rw [HO4.out.len]; omega), HU.out] at hc4; have hf4 := HO4.out.2.2.frozenAt q; clear HO3 HB3 hb4 hc hf)
                | (go_at_call 57; have _ := HO4; have HS := Lib.hid (HO4.out.stored q b bl); refine (RB.out _ _ HS.out.1).mono ?_; rintro e W5 ⟨rfl, hb5⟩; rw [bz.out]; have HO5 := Lib.hid (HS.out.1.below hb5); have HB5 := Lib.hid ((HB4.out.grown HS.out.2 HB4.out.size (fun k hk => by injection hk with hk; have := (HO4.out.2.2.lt g rfl).1; omega)).trans (hb5.mono (by have := HB4.out.size; simp; omega))); clear HO4 HB4 hb5 hc4 hf4))
              go_roundw
              case rel => exact ⟨j + 1, by omega, by go_num, by rw [he.out]; go_num, by rw [hP.out, hS.out]; exact HO5.out, HB5.out⟩
              case measure => simp [intOf]; omega
            · have _ := dl
              have hS : Hid (setBit P s 1 = P) := by rw [hSe.out 1 u N1.out]; exact hSs.out
              go_wp2_with (first
                | (go_at_call 57; have _ := HO3; refine (RB.out _ _ (HO3.out.alloc _)).mono ?_; rintro e W4 ⟨rfl, hb4⟩; rw [bx.out]; have HO4 := Lib.hid ((HO3.out.alloc _).below hb4); have HB4 := Lib.hid ((HB3.out.alloc HB3.out.size _).trans (hb4.mono (by have := HB3.out.size; simp; omega))); have hc4 := HO4.out.2.2.cellAt q (by omega); rw [vals_getElem? P q (by rw [HO4.out.len]; omega), HU.out] at hc4; have hf4 := HO4.out.2.2.frozenAt q; clear HO3 HB3 hb4 hc hf)
                | (go_at_call 57; have _ := HO4; refine (RB.out _ _ HO4.out).mono ?_; rintro e W5 ⟨rfl, hb5⟩; rw [bx.out]; have HO5 := Lib.hid (HO4.out.below hb5); have HB5 := Lib.hid (HB4.out.trans (hb5.mono HB4.out.size)); have hc5 := HO5.out.2.2.cellAt q (by omega); rw [vals_getElem? P q (by rw [HO5.out.len]; omega), HU.out] at hc5; have hf5 := HO5.out.2.2.frozenAt q; clear HO4 HB4 hb5 hc4 hf4))
              go_roundw
              case rel => exact ⟨j + 1, by omega, by go_num, by rw [he.out]; go_num, by rw [hP.out, hS.out]; exact HO5.out, HB5.out⟩
              case measure => simp [intOf]; omega
        · obtain rfl : j = k := by omega
          go_wp2
          go_ret2
          exact ⟨_, _, rfl, hO3, HB3.out⟩
end Go.Proofs.Ytcepncdolbfcfaa
