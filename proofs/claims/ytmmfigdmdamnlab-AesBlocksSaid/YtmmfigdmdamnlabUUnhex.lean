/- The document's Unhex gives the bytes of a text of digits. No statement is proved here. -/
import Derived.Test.YtmmfigdmdamnlabUAppend
namespace Go.Proofs.Ytmmfigdmdamnlab.U
open Go.RowKit
set_option linter.unusedVariables false

/-- The digit of a number below 16, as a byte. -/
def dg (d : Nat) : Nat := if d < 10 then 48 + d else 87 + d
theorem dg_lt (d : Nat) (h : d < 16) : dg d < 256 := by unfold dg; split <;> omega
theorem digit_at : ∀ i : Fin 16, ((⟨#[48, 49, 50, 51, 52, 53, 54, 55, 56, 57, 97, 98, 99, 100, 101, 102]⟩ : ByteArray)[i.val]'(by have := i.isLt; exact this)).toNat = dg i.val := by decide
/-- The number that a byte stands for as a digit, or -1. -/
def dgv (c : Nat) : Int := if 48 ≤ c ∧ c ≤ 57 then (c : Int) - 48 else if 97 ≤ c ∧ c ≤ 102 then (c : Int) - 87 else -1
theorem dgv_bd (c : Nat) : -1 ≤ dgv c ∧ dgv c < 16 := by unfold dgv; split <;> (try split) <;> omega
theorem dgv_dg (d : Nat) (h : d < 16) : dgv (dg d) = (d : Int) := by
  unfold dgv dg
  split <;> split <;> (try split) <;> omega
theorem dgv_eq (c i : Nat) (hi : i < 16) (h : dg i = c) : dgv c = (i : Int) := by subst h; exact dgv_dg i hi
theorem dgv_none (c : Nat) (h : ∀ j, j < 16 → dg j ≠ c) : dgv c = -1 := by
  unfold dgv
  by_cases h1 : 48 ≤ c ∧ c ≤ 57
  · have := h (c - 48) (by omega)
    unfold dg at this
    rw [if_pos (by omega)] at this
    omega
  · by_cases h2 : 97 ≤ c ∧ c ≤ 102
    · have := h (c - 87) (by omega)
      unfold dg at this
      rw [if_neg (by omega)] at this
      omega
    · rw [if_neg h1, if_neg h2]
theorem dig_index (k : Nat) (h : k < 16) : (((⟨#[48, 49, 50, 51, 52, 53, 54, 55, 56, 57, 97, 98, 99, 100, 101, 102]⟩ : ByteArray)[k]'h).toNat : Int) = ((dg k : Nat) : Int) := congrArg _ (digit_at ⟨k, h⟩)

set_option maxHeartbeats 400000 in
theorem digit_any (c : Nat) (w : World) (hc : c < 256) :
    Calls Try.prog 37 #[.int .u8 c] w fun e w' => e = .returned (.int .i64 (dgv c)) ∧ w' = w := by
  go_enter Try.func37, Try.ntmps37
  go_wp2
  go_loop [3] (fun i => ∃ k : Nat, k ≤ 16 ∧ i = .int .i64 k ∧ Hid (∀ j, j < k → dg j ≠ c)) (fun i => 16 - (intOf i).toNat)
  case atStart => exact ⟨0, by omega, rfl, fun j hj => absurd hj (by omega)⟩
  case round =>
    obtain ⟨k, hk, rfl, HK⟩ := hrel
    by_cases hlt : k < 16
    · by_cases he : dg k = c
      · have ht : ((((⟨#[48, 49, 50, 51, 52, 53, 54, 55, 56, 57, 97, 98, 99, 100, 101, 102]⟩ : ByteArray)[k]'hlt).toNat : Int) == (c : Int)) = true := by rw [dig_index k hlt]; simp [he]
        have HE := Lib.hid he
        clear he
        go_wp2
        go_ret
        exact ⟨ret_int (dgv_eq c k hlt HE.out).symm, rfl⟩
      · have ht : ((((⟨#[48, 49, 50, 51, 52, 53, 54, 55, 56, 57, 97, 98, 99, 100, 101, 102]⟩ : ByteArray)[k]'hlt).toNat : Int) == (c : Int)) = false := by rw [dig_index k hlt]; simp; omega
        have HE := Lib.hid he
        clear he
        go_wp2
        go_round
        case rel => exact ⟨k + 1, by omega, by go_num, fun j hj => by
          by_cases e : j = k
          · subst e; exact HE.out
          · exact HK.out j (by omega)⟩
        case measure => simp [intOf]; omega
    · obtain rfl : k = 16 := by omega
      go_wp2
      go_ret
      exact ⟨ret_int (dgv_none c HK.out).symm, rfl⟩
/-- The byte of a text at a place. -/
def bt (s : ByteArray) (i : Nat) : Nat := if h : i < s.size then (s[i]'h).toNat else 0
theorem bt_eq (s : ByteArray) (i : Nat) (h : i < s.size) : (s[i]'h).toNat = bt s i := by unfold bt; rw [dif_pos h]
theorem bt_lt (s : ByteArray) (i : Nat) : bt s i < 256 := by
  unfold bt; split
  · exact UInt8.toNat_lt _
  · omega
def hiD (s : ByteArray) (j : Nat) : Int := dgv (bt s (2 * j))
def loD (s : ByteArray) (j : Nat) : Int := dgv (bt s (2 * j + 1))
/-- Two digits of a text are digits. -/
def good (s : ByteArray) (j : Nat) : Prop := 0 ≤ hiD s j ∧ 0 ≤ loD s j
/-- All digits of a text up to a place are digits. -/
def okTo (s : ByteArray) (k : Nat) : Prop := ∀ j, j < k → good s j
/-- The byte that two digits of a text are. -/
def valD (s : ByteArray) (j : Nat) : Nat := (16 * hiD s j + loD s j).toNat
def unL (s : ByteArray) (k : Nat) : List Nat := (List.range k).map (valD s)
theorem valD_lt (s : ByteArray) (j : Nat) (h : good s j) : valD s j < 256 := by
  have h1 := dgv_bd (bt s (2 * j))
  have h2 := dgv_bd (bt s (2 * j + 1))
  obtain ⟨h3, h4⟩ := h
  unfold valD hiD loD at *
  omega
theorem unL_length (s : ByteArray) (k : Nat) : (unL s k).length = k := by simp [unL]
theorem unL_getD (s : ByteArray) (k j : Nat) (h : j < k) : (unL s k).getD j 0 = valD s j := by simp [unL, h]

/-- What the document's Unhex hands back for a text of n bytes, of K pairs. -/
def RefUnhexPost (w : World) (s : ByteArray) (K : Nat) (even : Bool) (e : Ending) (w' : World) : Prop :=
  (okTo s K → ∃ A c, e = .returned (.tuple #[.slice A K c, .bool even]) ∧ Own w' w.heap.size A K c (unL s K)) ∧
  (¬ okTo s K → e = .returned (.tuple #[.slice none 0 0, .bool false])) ∧ Below w.heap.size w w'
def RURel (w : World) (s : ByteArray) (K : Nat) (v i : Value) (wr : World) : Prop :=
  ∃ k A c, k ≤ K ∧ i = .int .i64 ((2 * k : Nat) : Int) ∧ v = .slice A k c ∧ okTo s k ∧ Own wr w.heap.size A k c (unL s k) ∧ Below w.heap.size w wr

theorem refUnhex_bad {w wr : World} {s : ByteArray} {K k : Nat} {even : Bool} (hk : k < K) (hb : ¬ good s k) (hbr : Below w.heap.size w wr) : RefUnhexPost w s K even (.returned (.tuple #[.slice none 0 0, .bool false])) wr :=
  ⟨fun h => absurd (h k hk) hb, fun _ => rfl, hbr⟩
theorem refUnhex_good {s : ByteArray} {k : Nat} {x y : Int} (hx : dgv (bt s (2 * k)) = x) (hy : dgv (bt s (2 * k + 1)) = y) (d1 : 0 ≤ x) (d2 : 0 ≤ y) : good s k :=
  ⟨by unfold hiD; rw [hx]; exact d1, by unfold loD; rw [hy]; exact d2⟩
theorem refUnhex_val {s : ByteArray} {k : Nat} {x y : Int} (hx : dgv (bt s (2 * k)) = x) (hy : dgv (bt s (2 * k + 1)) = y) (d1 : 0 ≤ x) (d2 : 0 ≤ y) (x2 : x < 16) (y2 : y < 16) : 16 * x + y = ((valD s k : Nat) : Int) := by
  have hv : valD s k = (16 * x + y).toNat := by unfold valD hiD loD; rw [hx, hy]
  rw [hv]; omega
theorem unL_succ (s : ByteArray) (k : Nat) : unL s (k + 1) = unL s k ++ [valD s k] := by simp [unL, List.range_succ]
theorem refUnhex_step {w w3 : World} {s : ByteArray} {K k c3 : Nat} {A3 : Option Addr} (hk : k < K) (hok : okTo s k) (hg : good s k) (hO : Own w3 w.heap.size A3 (k + 1) c3 (unL s k ++ [valD s k])) (hb : Below w.heap.size w w3) :
    RURel w s K (.slice A3 (k + 1) c3) (.int .i64 (2 * (k : Int) + 2)) w3 := by
  refine ⟨k + 1, A3, c3, hk, by simp; omega, rfl, fun j hj => ?_, by rw [unL_succ]; exact hO, hb⟩
  by_cases e : j = k
  · subst e; exact hg
  · exact hok j (by omega)

set_option maxHeartbeats 400000 in
theorem refUnhex_any (s : ByteArray) (K n : Nat) (even : Bool) (w : World) (hs : s.size = n) (hK : K = n / 2) (hn : n ≤ 3000) (he : (((n : Nat) : Int) % 2 == 0) = even) :
    Calls Try.prog 34 #[.string s] w (RefUnhexPost w s K even) := by
  have hK1 : 2 * K ≤ n := by omega
  have hK2 : n ≤ 2 * K + 1 := by omega
  clear hK
  have HE := Lib.hid he
  clear he
  subst hs
  go_enter Try.func34, Try.ntmps34
  go_wp2
  go_loopw [4, 5] (RURel w s K) (fun _ i _ => s.size - (intOf i).toNat)
  case atStart => exact ⟨0, _, _, by omega, rfl, rfl, fun j hj => absurd hj (by omega), Own.empty (Nat.le_refl _), (Below.refl _ _).alloc (Nat.le_refl _) _⟩
  case round =>
    obtain ⟨k, A, c, hk, rfl, rfl, hok, hOr, hbr⟩ := hrel
    have Hok := Lib.hid hok
    have HOr := Lib.hid hOr
    have Hbr := Lib.hid hbr
    clear hok hbr hOr
    by_cases hlt : k < K
    · have i1 : 2 * k < s.size := by omega
      have i2 : 2 * k + 1 < s.size := by omega
      go_wp2
      have j0 : (0 : Int) ≤ 2 * (k : Int) := by omega
      have j1 : 2 * (k : Int) < (s.size : Int) := by omega
      have j2 : 2 * (k : Int) + 1 < (s.size : Int) := by omega
      have j3 : (0 : Int) ≤ 2 * (k : Int) + 1 := by omega
      have j4 : (2 * (k : Int)).toNat = 2 * k := by omega
      have j5 : (2 * (k : Int) + 1).toNat = 2 * k + 1 := by omega
      have j6 : IntKind.i64.wrap (2 * (k : Int) + 1) = 2 * (k : Int) + 1 := IntWalk.i64_in _ (by omega)
      go_quiet ((go_at_call 37; exact Calls.quiet_of_same (digit_any _ _ (UInt8.toNat_lt _))))
      rw [bt_eq s (2 * k) i1, bt_eq s (2 * k + 1) i2]
      clear j0 j1 j2 j3 j4 j5 j6
      have bx := dgv_bd (bt s (2 * k))
      have by_ := dgv_bd (bt s (2 * k + 1))
      generalize hx : dgv (bt s (2 * k)) = x at *
      generalize hy : dgv (bt s (2 * k + 1)) = y at *
      have Hx := Lib.hid hx
      have Hy := Lib.hid hy
      clear hx hy
      obtain ⟨x1, x2⟩ := bx
      obtain ⟨y1, y2⟩ := by_
      by_cases d1 : x < 0
      · have e1 : decide (x < 0) = true := by simpa using d1
        go_wp2
        go_ret2
        exact refUnhex_bad hlt (fun h => by have h1 : 0 ≤ dgv (bt s (2 * k)) := h.1; rw [Hx.out] at h1; omega) (below_drewN Hbr.out)
      · have e1 : decide (x < 0) = false := by simpa using d1
        by_cases d2 : y < 0
        · have e2 : decide (y < 0) = true := by simpa using d2
          go_wp2
          go_ret2
          exact refUnhex_bad hlt (fun h => by have h1 : 0 ≤ dgv (bt s (2 * k + 1)) := h.2; rw [Hy.out] at h1; omega) (below_drewN Hbr.out)
        · have e2 : decide (y < 0) = false := by simpa using d2
          have d1' : 0 ≤ x := by omega
          have d2' : 0 ≤ y := by omega
          go_wp2_with (at_builtin; refine wpList_append_row _ rfl _ _ rfl w.heap.size A k c _ rfl ((HOr.out.drewN nq).alloc _) (wr.heap.size + 1) (some ⟨wr.heap.size, 0, none⟩) 1 1 [valD s k] rfl (Row.one (wr.drewN nq) _ _ (refUnhex_val Hx.out Hy.out (by omega) (by omega) x2 y2) (valD_lt s k (refUnhex_good Hx.out Hy.out (by omega) (by omega)))) (by omega) (by have := Hbr.out.size; simp; omega) ?_; intro A3 c3 w3 hO3 hg3 hbl3)
          have hb3 : Below w.heap.size w w3 := below_append (below_drewN Hbr.out) (HOr.out.drewN nq) hg3
          clear hg3 hbl3
          go_roundw
          case rel => exact refUnhex_step hlt Hok.out (refUnhex_good Hx.out Hy.out (by omega) (by omega)) hO3 hb3
          case measure => simp [intOf]; omega
    · obtain rfl : k = K := by omega
      go_wp2
      go_ret2
      exact ⟨fun _ => ⟨A, c, by rw [← HE.out]; rfl, HOr.out⟩, fun h => absurd Hok.out h, Hbr.out⟩
end Go.Proofs.Ytmmfigdmdamnlab.U
