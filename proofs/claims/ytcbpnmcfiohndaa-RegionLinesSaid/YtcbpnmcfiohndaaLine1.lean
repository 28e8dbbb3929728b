/- The line of an address, by the program and by the document. No statement is proved here. -/
import Derived.Test.YtcbpnmcfiohndaaParts5
namespace Go.Proofs.Ytcbpnmcfiohndaa
open Go.RowKit
set_option linter.unusedVariables false
set_option linter.unusedSimpArgs false

/-- A number of bytes that there is. -/
def okN (n : Int) : Bool := n == 1 || n == 2 || n == 4 || n == 8
/-- The line of an address: line, offset, error. -/
def lnR (q : Pl) (m n : Int) : Int × Int × Int :=
  if right q = false then (0, 0, 4) else if okN n = false then (0, 0, 1) else if m < 0 ∨ 32 * Al q ≤ m then (0, 0, 2) else if ¬ m % n = 0 then (0, 0, 9) else (m / 32, m % 32, 0)
theorem lnR_config {q : Pl} {m n : Int} (h : right q = false) : lnR q m n = (0, 0, 4) := by unfold lnR; rw [if_pos h]
theorem lnR_arg {q : Pl} {m n : Int} (h : right q = true) (h2 : okN n = false) : lnR q m n = (0, 0, 1) := by unfold lnR; rw [if_neg (by rw [h]; decide), if_pos h2]
theorem lnR_range {q : Pl} {m n : Int} (h : right q = true) (h2 : okN n = true) (h3 : m < 0 ∨ 32 * Al q ≤ m) : lnR q m n = (0, 0, 2) := by unfold lnR; rw [if_neg (by rw [h]; decide), if_neg (by rw [h2]; decide), if_pos h3]
theorem lnR_align {q : Pl} {m n : Int} (h : right q = true) (h2 : okN n = true) (h3 : ¬ (m < 0 ∨ 32 * Al q ≤ m)) (h4 : ¬ m % n = 0) : lnR q m n = (0, 0, 9) := by unfold lnR; rw [if_neg (by rw [h]; decide), if_neg (by rw [h2]; decide), if_neg h3, if_pos h4]
theorem lnR_ok {q : Pl} {m n : Int} (h : right q = true) (h2 : okN n = true) (h3 : ¬ (m < 0 ∨ 32 * Al q ≤ m)) (h4 : m % n = 0) : lnR q m n = (m / 32, m % 32, 0) := by unfold lnR; rw [if_neg (by rw [h]; decide), if_neg (by rw [h2]; decide), if_neg h3, if_neg (fun e => e h4)]
theorem okN_cases (n : Int) : (okN n = false ∧ ¬ n = 1 ∧ ¬ n = 2 ∧ ¬ n = 4 ∧ ¬ n = 8) ∨ (okN n = true ∧ (n = 1 ∨ n = 2 ∨ n = 4 ∨ n = 8)) := by
  by_cases h1 : n = 1
  · right; exact ⟨by rw [h1]; rfl, .inl h1⟩
  by_cases h2 : n = 2
  · right; exact ⟨by rw [h2]; rfl, .inr (.inl h2)⟩
  by_cases h4 : n = 4
  · right; exact ⟨by rw [h4]; rfl, .inr (.inr (.inl h4))⟩
  by_cases h8 : n = 8
  · right; exact ⟨by rw [h8]; rfl, .inr (.inr (.inr h8))⟩
  left
  refine ⟨?_, h1, h2, h4, h8⟩
  simp [okN, h1, h2, h4, h8]
/-- What stands at an address, as far as the line wants it. -/
theorem plAt_kind {q : Pl} {m : Int} (hq : right q = true) : ((m < 0 ∨ 32 * Al q ≤ m) → hasP q m = false ∨ (hasP q m = true ∧ ¬ (plAt q m).k = 1)) ∧ (¬ (m < 0 ∨ 32 * Al q ≤ m) → hasP q m = true ∧ plAt q m = ⟨1, m / 32, 0, 0, m % 32⟩) := by
  obtain ⟨a0, -⟩ := Al_bounds q
  constructor
  · intro h
    cases hp : hasP q m
    · exact .inl rfl
    · right
      refine ⟨rfl, ?_⟩
      obtain ⟨g1, g2⟩ : 0 ≤ m ∧ m < SzI q := by unfold hasP at hp; simpa using hp
      unfold plAt
      rw [if_pos hp, if_neg (by omega)]
      split <;> simp
  · intro h
    have hp : hasP q m = true := by
      unfold hasP SzI
      rw [if_pos hq, decide_eq_true (by omega), decide_eq_true (by omega)]; rfl
    refine ⟨hp, ?_⟩
    unfold plAt
    rw [if_pos hp, if_pos (by omega)]
attribute [local irreducible] shaped Ls Lv Wd Al right bounded fitP sw wid hasI hasL itAt pts pvs SzI plAt hasP okN lnR
set_option maxHeartbeats 4000000 in
set_option maxRecDepth 20000 in
theorem line_any (q : Pl) (m n : Int) (w : World) : Calls Try.prog 34 #[.agg q.arr, .int .i64 m, .int .i64 n] w fun e w' => e = .returned (.tuple #[.int .i64 (lnR q m n).1, .int .i64 (lnR q m n).2.1, .int .i64 (lnR q m n).2.2]) ∧ Below w.heap.size w w' := by
  have N := Lib.hid (PSt.new w q)
  have RT := Lib.hid (fun W => right45_any q W)
  have TG := Lib.hid (fun W => tagsAt_any q W)
  obtain ⟨a0, a1⟩ := Al_bounds q
  cases hq : right q
  · have E := Lib.hid (lnR_config (m := m) (n := n) hq)
    rw [hq] at RT
    clear hq
    generalize lnR q m n = R at *
    go_enter Try.func34, Try.ntmps34
    go_wp2_with (first
      | (refine wpList_load_plan N.out.blk _ rfl rfl rfl ?_)
      | (go_at_call 45; refine (RT.out _).mono ?_; rintro e X1 ⟨rfl, hb⟩; have h1 := N.out.call hb; clear N hb)
      | (refine wpList_load_plan h1.blk _ rfl rfl rfl ?_)
      | (go_at_call 50; refine (TG.out _).mono ?_; rintro e X2 ⟨rfl, hb⟩; have h2 := h1.call hb; clear h1 hb))
    go_ret3
    exact ⟨by rw [E.out]; rfl, h1.bel⟩
  rw [hq] at RT
  rcases okN_cases n with ⟨hn, n1, n2, n4, n8⟩ | ⟨hn, hnn⟩
  · have E := Lib.hid (lnR_arg (m := m) hq hn)
    have f1 : (n = 1) = False := eq_false n1
    have f2 : (n = 2) = False := eq_false n2
    have f4 : (n = 4) = False := eq_false n4
    have f8 : (n = 8) = False := eq_false n8
    have b1 : (n == 1) = false := by simpa using n1
    have b2 : (n == 2) = false := by simpa using n2
    have b4 : (n == 4) = false := by simpa using n4
    have b8 : (n == 8) = false := by simpa using n8
    have x1 : (n != 1) = true := by simpa using n1
    have x2 : (n != 2) = true := by simpa using n2
    have x4 : (n != 4) = true := by simpa using n4
    have x8 : (n != 8) = true := by simpa using n8
    clear hq hn n1 n2 n4 n8
    generalize lnR q m n = R at *
    go_enter Try.func34, Try.ntmps34
    go_wp2_with (first
      | (refine wpList_load_plan N.out.blk _ rfl rfl rfl ?_)
      | (go_at_call 45; refine (RT.out _).mono ?_; rintro e X1 ⟨rfl, hb⟩; have h1 := N.out.call hb; clear N hb)
      | (refine wpList_load_plan h1.blk _ rfl rfl rfl ?_)
      | (go_at_call 50; refine (TG.out _).mono ?_; rintro e X2 ⟨rfl, hb⟩; have h2 := h1.call hb; clear h1 hb))
    go_ret3
    exact ⟨by rw [E.out]; rfl, h1.bel⟩
  by_cases hm0 : m < 0
  · have E := Lib.hid (lnR_range hq hn (.inl hm0))
    clear hq hn
    generalize lnR q m n = R at *
    have g0 : (m < 0) = True := eq_true hm0
    rcases hnn with rfl | rfl | rfl | rfl
    · go_enter Try.func34, Try.ntmps34
      go_wp2_with (first
        | (refine wpList_load_plan N.out.blk _ rfl rfl rfl ?_)
        | (go_at_call 45; refine (RT.out _).mono ?_; rintro e X1 ⟨rfl, hb⟩; have h1 := N.out.call hb; clear N hb)
        | (refine wpList_load_plan h1.blk _ rfl rfl rfl ?_)
        | (go_at_call 50; refine (TG.out _).mono ?_; rintro e X2 ⟨rfl, hb⟩; have h2 := h1.call hb; clear h1 hb))
      go_ret3
      exact ⟨by rw [E.out]; rfl, h1.bel⟩
    · go_enter Try.func34, Try.ntmps34
      go_wp2_with (first
        | (refine wpList_load_plan N.out.blk _ rfl rfl rfl ?_)
        | (go_at_call 45; refine (RT.out _).mono ?_; rintro e X1 ⟨rfl, hb⟩; have h1 := N.out.call hb; clear N hb)
        | (refine wpList_load_plan h1.blk _ rfl rfl rfl ?_)
        | (go_at_call 50; refine (TG.out _).mono ?_; rintro e X2 ⟨rfl, hb⟩; have h2 := h1.call hb; clear h1 hb))
      go_ret3
      exact ⟨by rw [E.out]; rfl, h1.bel⟩
    · go_enter Try.func34, Try.ntmps34
      go_wp2_with (first
        | (refine wpList_load_plan N.out.blk _ rfl rfl rfl ?_)
        | (go_at_call 45; refine (RT.out _).mono ?_; rintro e X1 ⟨rfl, hb⟩; have h1 := N.out.call hb; clear N hb)
        | (refine wpList_load_plan h1.blk _ rfl rfl rfl ?_)
        | (go_at_call 50; refine (TG.out _).mono ?_; rintro e X2 ⟨rfl, hb⟩; have h2 := h1.call hb; clear h1 hb))
      go_ret3
      exact ⟨by rw [E.out]; rfl, h1.bel⟩
    · go_enter Try.func34, Try.ntmps34
      go_wp2_with (first
        | (refine wpList_load_plan N.out.blk _ rfl rfl rfl ?_)
        | (go_at_call 45; refine (RT.out _).mono ?_; rintro e X1 ⟨rfl, hb⟩; have h1 := N.out.call hb; clear N hb)
        | (refine wpList_load_plan h1.blk _ rfl rfl rfl ?_)
        | (go_at_call 50; refine (TG.out _).mono ?_; rintro e X2 ⟨rfl, hb⟩; have h2 := h1.call hb; clear h1 hb))
      go_ret3
      exact ⟨by rw [E.out]; rfl, h1.bel⟩
  obtain ⟨c, rfl⟩ : ∃ c : Nat, m = (c : Int) := ⟨m.toNat, by omega⟩
  by_cases hm1 : 32 * Al q ≤ (c : Int)
  · have E := Lib.hid (lnR_range hq hn (.inr hm1))
    clear hq hn
    generalize lnR q (c : Int) n = R at *
    generalize Al q = A at *
    have g0 : ((c : Int) < 0) = False := eq_false hm0
    have g1 : (32 * A ≤ (c : Int)) = True := eq_true hm1
    rcases hnn with rfl | rfl | rfl | rfl
    · go_enter Try.func34, Try.ntmps34
      go_wp2_with (first
        | (refine wpList_load_plan N.out.blk _ rfl rfl rfl ?_)
        | (go_at_call 45; refine (RT.out _).mono ?_; rintro e X1 ⟨rfl, hb⟩; have h1 := N.out.call hb; clear N hb)
        | (refine wpList_load_plan h1.blk _ rfl rfl rfl ?_)
        | (go_at_call 50; refine (TG.out _).mono ?_; rintro e X2 ⟨rfl, hb⟩; have h2 := h1.call hb; clear h1 hb))
      go_ret3
      exact ⟨by rw [E.out]; rfl, h2.bel⟩
    · go_enter Try.func34, Try.ntmps34
      go_wp2_with (first
        | (refine wpList_load_plan N.out.blk _ rfl rfl rfl ?_)
        | (go_at_call 45; refine (RT.out _).mono ?_; rintro e X1 ⟨rfl, hb⟩; have h1 := N.out.call hb; clear N hb)
        | (refine wpList_load_plan h1.blk _ rfl rfl rfl ?_)
        | (go_at_call 50; refine (TG.out _).mono ?_; rintro e X2 ⟨rfl, hb⟩; have h2 := h1.call hb; clear h1 hb))
      go_ret3
      exact ⟨by rw [E.out]; rfl, h2.bel⟩
    · go_enter Try.func34, Try.ntmps34
      go_wp2_with (first
        | (refine wpList_load_plan N.out.blk _ rfl rfl rfl ?_)
        | (go_at_call 45; refine (RT.out _).mono ?_; rintro e X1 ⟨rfl, hb⟩; have h1 := N.out.call hb; clear N hb)
        | (refine wpList_load_plan h1.blk _ rfl rfl rfl ?_)
        | (go_at_call 50; refine (TG.out _).mono ?_; rintro e X2 ⟨rfl, hb⟩; have h2 := h1.call hb; clear h1 hb))
      go_ret3
      exact ⟨by rw [E.out]; rfl, h2.bel⟩
    · go_enter Try.func34, Try.ntmps34
      go_wp2_with (first
        | (refine wpList_load_plan N.out.blk _ rfl rfl rfl ?_)
        | (go_at_call 45; refine (RT.out _).mono ?_; rintro e X1 ⟨rfl, hb⟩; have h1 := N.out.call hb; clear N hb)
        | (refine wpList_load_plan h1.blk _ rfl rfl rfl ?_)
        | (go_at_call 50; refine (TG.out _).mono ?_; rintro e X2 ⟨rfl, hb⟩; have h2 := h1.call hb; clear h1 hb))
      go_ret3
      exact ⟨by rw [E.out]; rfl, h2.bel⟩
  have hno : ¬ ((c : Int) < 0 ∨ 32 * Al q ≤ (c : Int)) := by omega
  have g0 : ((c : Int) < 0) = False := eq_false hm0
  have g1 : (32 * Al q ≤ (c : Int)) = False := eq_false hm1
  have cb : c < 100000 := by omega
  rcases hnn with rfl | rfl | rfl | rfl
  · by_cases hr : (c : Int) % 1 = 0
    · have E := Lib.hid (lnR_ok hq hn hno hr)
      clear hq hn hno
      generalize lnR q (c : Int) 1 = R at *
      generalize Al q = A at *
      have r1 : ((c : Int) % 1 = 0) = True := eq_true hr
      have r2 : c % 1 = 0 := by omega
      go_enter Try.func34, Try.ntmps34
      go_wp2_with (first
        | (refine wpList_load_plan N.out.blk _ rfl rfl rfl ?_)
        | (go_at_call 45; refine (RT.out _).mono ?_; rintro e X1 ⟨rfl, hb⟩; have h1 := N.out.call hb; clear N hb)
        | (refine wpList_load_plan h1.blk _ rfl rfl rfl ?_)
        | (go_at_call 50; refine (TG.out _).mono ?_; rintro e X2 ⟨rfl, hb⟩; have h2 := h1.call hb; clear h1 hb))
      go_ret3
      exact ⟨by rw [E.out]; rfl, h2.bel⟩
    · exfalso; omega
  · by_cases hr : (c : Int) % 2 = 0
    · have E := Lib.hid (lnR_ok hq hn hno hr)
      clear hq hn hno
      generalize lnR q (c : Int) 2 = R at *
      generalize Al q = A at *
      have r1 : ((c : Int) % 2 = 0) = True := eq_true hr
      have r2 : c % 2 = 0 := by omega
      go_enter Try.func34, Try.ntmps34
      go_wp2_with (first
        | (refine wpList_load_plan N.out.blk _ rfl rfl rfl ?_)
        | (go_at_call 45; refine (RT.out _).mono ?_; rintro e X1 ⟨rfl, hb⟩; have h1 := N.out.call hb; clear N hb)
        | (refine wpList_load_plan h1.blk _ rfl rfl rfl ?_)
        | (go_at_call 50; refine (TG.out _).mono ?_; rintro e X2 ⟨rfl, hb⟩; have h2 := h1.call hb; clear h1 hb))
      go_ret3
      exact ⟨by rw [E.out]; rfl, h2.bel⟩
    · have E := Lib.hid (lnR_align hq hn hno hr)
      clear hq hn hno
      generalize lnR q (c : Int) 2 = R at *
      generalize Al q = A at *
      have r1 : ((c : Int) % 2 = 0) = False := eq_false hr
      have r2 : ¬ c % 2 = 0 := by omega
      go_enter Try.func34, Try.ntmps34
      go_wp2_with (first
        | (refine wpList_load_plan N.out.blk _ rfl rfl rfl ?_)
        | (go_at_call 45; refine (RT.out _).mono ?_; rintro e X1 ⟨rfl, hb⟩; have h1 := N.out.call hb; clear N hb)
        | (refine wpList_load_plan h1.blk _ rfl rfl rfl ?_)
        | (go_at_call 50; refine (TG.out _).mono ?_; rintro e X2 ⟨rfl, hb⟩; have h2 := h1.call hb; clear h1 hb))
      go_ret3
      exact ⟨by rw [E.out]; rfl, h2.bel⟩
  · by_cases hr : (c : Int) % 4 = 0
    · have E := Lib.hid (lnR_ok hq hn hno hr)
      clear hq hn hno
      generalize lnR q (c : Int) 4 = R at *
      generalize Al q = A at *
      have r1 : ((c : Int) % 4 = 0) = True := eq_true hr
      have r2 : c % 4 = 0 := by omega
      go_enter Try.func34, Try.ntmps34
      go_wp2_with (first
        | (refine wpList_load_plan N.out.blk _ rfl rfl rfl ?_)
        | (go_at_call 45; refine (RT.out _).mono ?_; rintro e X1 ⟨rfl, hb⟩; have h1 := N.out.call hb; clear N hb)
        | (refine wpList_load_plan h1.blk _ rfl rfl rfl ?_)
        | (go_at_call 50; refine (TG.out _).mono ?_; rintro e X2 ⟨rfl, hb⟩; have h2 := h1.call hb; clear h1 hb))
      go_ret3
      exact ⟨by rw [E.out]; rfl, h2.bel⟩
    · have E := Lib.hid (lnR_align hq hn hno hr)
      clear hq hn hno
      generalize lnR q (c : Int) 4 = R at *
      generalize Al q = A at *
      have r1 : ((c : Int) % 4 = 0) = False := eq_false hr
      have r2 : ¬ c % 4 = 0 := by omega
      go_enter Try.func34, Try.ntmps34
      go_wp2_with (first
        | (refine wpList_load_plan N.out.blk _ rfl rfl rfl ?_)
        | (go_at_call 45; refine (RT.out _).mono ?_; rintro e X1 ⟨rfl, hb⟩; have h1 := N.out.call hb; clear N hb)
        | (refine wpList_load_plan h1.blk _ rfl rfl rfl ?_)
        | (go_at_call 50; refine (TG.out _).mono ?_; rintro e X2 ⟨rfl, hb⟩; have h2 := h1.call hb; clear h1 hb))
      go_ret3
      exact ⟨by rw [E.out]; rfl, h2.bel⟩
  · by_cases hr : (c : Int) % 8 = 0
    · have E := Lib.hid (lnR_ok hq hn hno hr)
      clear hq hn hno
      generalize lnR q (c : Int) 8 = R at *
      generalize Al q = A at *
      have r1 : ((c : Int) % 8 = 0) = True := eq_true hr
      have r2 : c % 8 = 0 := by omega
      go_enter Try.func34, Try.ntmps34
      go_wp2_with (first
        | (refine wpList_load_plan N.out.blk _ rfl rfl rfl ?_)
        | (go_at_call 45; refine (RT.out _).mono ?_; rintro e X1 ⟨rfl, hb⟩; have h1 := N.out.call hb; clear N hb)
        | (refine wpList_load_plan h1.blk _ rfl rfl rfl ?_)
        | (go_at_call 50; refine (TG.out _).mono ?_; rintro e X2 ⟨rfl, hb⟩; have h2 := h1.call hb; clear h1 hb))
      go_ret3
      exact ⟨by rw [E.out]; rfl, h2.bel⟩
    · have E := Lib.hid (lnR_align hq hn hno hr)
      clear hq hn hno
      generalize lnR q (c : Int) 8 = R at *
      generalize Al q = A at *
      have r1 : ((c : Int) % 8 = 0) = False := eq_false hr
      have r2 : ¬ c % 8 = 0 := by omega
      go_enter Try.func34, Try.ntmps34
      go_wp2_with (first
        | (refine wpList_load_plan N.out.blk _ rfl rfl rfl ?_)
        | (go_at_call 45; refine (RT.out _).mono ?_; rintro e X1 ⟨rfl, hb⟩; have h1 := N.out.call hb; clear N hb)
        | (refine wpList_load_plan h1.blk _ rfl rfl rfl ?_)
        | (go_at_call 50; refine (TG.out _).mono ?_; rintro e X2 ⟨rfl, hb⟩; have h2 := h1.call hb; clear h1 hb))
      go_ret3
      exact ⟨by rw [E.out]; rfl, h2.bel⟩
end Go.Proofs.Ytcbpnmcfiohndaa
