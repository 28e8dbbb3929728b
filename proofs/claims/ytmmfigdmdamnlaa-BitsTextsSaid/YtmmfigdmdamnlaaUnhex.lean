/- Unhex gives the bytes of a text that is one of digits, or says that it is none; so does the document's. No statement is proved here. -/
import Derived.Test.YtmmfigdmdamnlaaDigit
namespace Go.Proofs.Ytmmfigdmdamnlaa
open Go.RowKit
set_option linter.unusedVariables false

/-- The byte of a text at a place. -/
def bt (s : ByteArray) (i : Nat) : Nat := if h : i < s.size then (s[i]'h).toNat else 0
theorem bt_eq (s : ByteArray) (i : Nat) (h : i < s.size) : (s[i]'h).toNat = bt s i := by unfold bt; rw [dif_pos h]
theorem bt_lt (s : ByteArray) (i : Nat) : bt s i < 256 := by
  unfold bt; split
  · exact UInt8.toNat_lt _
  · omega
def hiD (s : ByteArray) (j : Nat) : Int := dgv (bt s (2 * j))
def loD (s : ByteArray) (j : Nat) : Int := dgv (bt s (2 * j + 1))
/-- Two digits of a text are digits. -/
def good (s : ByteArray) (j : Nat) : Prop := 0 ≤ hiD s j ∧ 0 ≤ loD s j
/-- All digits of a text up to a place are digits. -/
def okTo (s : ByteArray) (k : Nat) : Prop := ∀ j, j < k → good s j
/-- The byte that two digits of a text are. -/
def valD (s : ByteArray) (j : Nat) : Nat := (16 * hiD s j + loD s j).toNat
def unL (s : ByteArray) (k : Nat) : List Nat := (List.range k).map (valD s)
theorem valD_lt (s : ByteArray) (j : Nat) (h : good s j) : valD s j < 256 := by
  have h1 := dgv_bd (bt s (2 * j))
  have h2 := dgv_bd (bt s (2 * j + 1))
  obtain ⟨h3, h4⟩ := h
  unfold valD hiD loD at *
  omega
theorem unL_length (s : ByteArray) (k : Nat) : (unL s k).length = k := by simp [unL]
theorem unL_getD (s : ByteArray) (k j : Nat) (h : j < k) : (unL s k).getD j 0 = valD s j := by simp [unL, h]

/-- What Unhex hands back for a text of K pairs. -/
def UnhexPost (w : World) (s : ByteArray) (K : Nat) (e : Ending) (w' : World) : Prop :=
  (okTo s K → ∃ A c, e = .returned (.tuple #[.slice A K c, .int .i64 0]) ∧ Own w' w.heap.size A K c (unL s K)) ∧
  (¬ okTo s K → e = .returned (.tuple #[.slice none 0 0, .int .i64 3])) ∧ Below w.heap.size w w'
/-- What holds of Unhex's loop at its head. -/
def URel (w : World) (s : ByteArray) (K : Nat) (i : Value) (wr : World) : Prop :=
  ∃ k zs, k ≤ K ∧ i = .int .i64 (k : Nat) ∧ okTo s k ∧ Own wr w.heap.size (some ⟨w.heap.size, 0, none⟩) K K zs ∧ Below w.heap.size w wr ∧ ∀ j, j < k → zs.getD j 0 = valD s j

set_option maxHeartbeats 400000 in
theorem unhex_odd (s : ByteArray) (K : Nat) (w : World) (hs : s.size = 2 * K + 1) (hK : K ≤ 3000) :
    Calls Try.prog 17 #[.string s] w fun e w' => e = .returned (.tuple #[.slice none 0 0, .int .i64 3]) ∧ w = w' := by
  have ht : (((2 * K + 1 : Nat) : Int) % 2 != 0) = true := by simp only [bne_iff_ne, ne_eq]; omega
  go_enter Try.func17, Try.ntmps17
  go_wp2
  go_ret2
  exact ⟨rfl, rfl⟩

theorem unhex_bad {w wr : World} {s : ByteArray} {K k : Nat} (hk : k < K) (hb : ¬ good s k) (hbr : Below w.heap.size w wr) : UnhexPost w s K (.returned (.tuple #[.slice none 0 0, .int .i64 3])) wr :=
  ⟨fun h => absurd (h k hk) hb, fun _ => rfl, hbr⟩
theorem unhex_good {w wr : World} {s : ByteArray} {K : Nat} {zs : List Nat} (hO : Own wr w.heap.size (some ⟨w.heap.size, 0, none⟩) K K zs) (hok : okTo s K) (hbr : Below w.heap.size w wr) (hz : ∀ j, j < K → zs.getD j 0 = valD s j) :
    UnhexPost w s K (.returned (.tuple #[.slice (some ⟨w.heap.size, 0, none⟩) K K, .int .i64 0])) wr := by
  have e : zs = unL s K := by
    refine List.ext_getElem (by rw [unL_length, hO.len]) fun i hi hj => ?_
    have hi' : i < K := by rw [hO.len] at hi; exact hi
    have h1 := hz i hi'
    rw [← unL_getD s K i hi'] at h1
    simpa [List.getD_eq_getElem?_getD, hi, hj] using h1
  subst e
  exact ⟨fun _ => ⟨_, _, rfl, hO⟩, fun h => absurd hok h, hbr⟩

theorem or_digits : ∀ x y : Fin 16, bits .or .i64 ((x.val : Int) * 16) (y.val : Int) % 256 = 16 * (x.val : Int) + (y.val : Int) := by decide +kernel
theorem or_digits' (x y : Int) (h1 : 0 ≤ x) (h2 : 0 ≤ y) (h3 : x < 16) (h4 : y < 16) : bits .or .i64 (x * 16) y % 256 = 16 * x + y := by
  obtain ⟨a, rfl⟩ := Int.eq_ofNat_of_zero_le h1
  obtain ⟨b, rfl⟩ := Int.eq_ofNat_of_zero_le h2
  exact or_digits ⟨a, by omega⟩ ⟨b, by omega⟩
theorem own_set {w : World} {base g K k d : Nat} {zs : List Nat} (hO : Own w base (some ⟨g, 0, none⟩) K K zs) (hd : d < 256) :
    Own (w.setCell ⟨g, k, none⟩ (.int .u8 (d : Int))) base (some ⟨g, 0, none⟩) K K (zs.set k d) ∧ w.grownBy (w.setCell ⟨g, k, none⟩ (.int .u8 (d : Int))) (some g) := by
  obtain ⟨h1, h2⟩ := hO.2.2.stored k (.int .u8 (d : Int))
  refine ⟨⟨by simpa using hO.len, ?_, by rw [vals_set]; exact h1⟩, h2⟩
  intro x hx
  rcases List.mem_or_eq_of_mem_set hx with hx | rfl
  · exact hO.2.1 x hx
  · exact hd
theorem unhex_step {w wr : World} {s : ByteArray} {K k : Nat} {zs : List Nat} {x y : Int} (hO : Own wr w.heap.size (some ⟨w.heap.size, 0, none⟩) K K zs) (hb : Below w.heap.size w wr) (hok : okTo s k) (hz : ∀ j, j < k → zs.getD j 0 = valD s j)
    (hx : dgv (bt s (2 * k)) = x) (hy : dgv (bt s (2 * k + 1)) = y) (d1 : 0 ≤ x) (d2 : 0 ≤ y) (x2 : x < 16) (y2 : y < 16) (hk : k < K) :
    URel w s K (.int .i64 ((k : Int) + 1)) (wr.setCell ⟨w.heap.size, k, none⟩ (.int .u8 (bits .or .i64 (x * 16) y % 256))) := by
  have hv : valD s k = (16 * x + y).toNat := by unfold valD hiD loD; rw [hx, hy]
  have hg : good s k := ⟨by unfold hiD; rw [hx]; exact d1, by unfold loD; rw [hy]; exact d2⟩
  have e : bits .or .i64 (x * 16) y % 256 = ((valD s k : Nat) : Int) := by rw [or_digits' x y d1 d2 x2 y2, hv]; omega
  rw [e]
  obtain ⟨h1, h2⟩ := own_set (k := k) hO (valD_lt s k hg)
  refine ⟨k + 1, zs.set k (valD s k), hk, by simp, fun j hj => ?_, h1, hb.grown h2 hb.size (fun k hk => by injection hk with hk; omega), fun j hj => ?_⟩
  · by_cases e : j = k
    · subst e; exact hg
    · exact hok j (by omega)
  · rw [getD_set _ _ _ _ (by rw [hO.len]; exact hk)]
    by_cases e : k = j
    · subst e; rw [if_pos rfl]
    · rw [if_neg e]; exact hz j (by omega)

set_option maxHeartbeats 400000 in
theorem unhex_even (s : ByteArray) (K : Nat) (w : World) (hs : s.size = 2 * K) (hK : K ≤ 3000) :
    Calls Try.prog 17 #[.string s] w (UnhexPost w s K) := by
  go_enter Try.func17, Try.ntmps17
  go_wp2_with (at_make; refine wpList_make_zeros _ rfl _ _ rfl w.heap.size _ _ K rfl rfl (by omega) (by omega) (by omega) (Nat.le_refl _) ?_; intro w1 hO1 hg1)
  go_loopw [18] (URel w s K) (fun i _ => K - (intOf i).toNat)
  case atStart => exact ⟨0, _, by omega, rfl, fun j hj => absurd hj (by omega), hO1, (Below.refl _ _).grown hg1 (Nat.le_refl _) (fun k hk => by cases hk), fun j hj => absurd hj (by omega)⟩
  case round =>
    obtain ⟨k, zs, hk, rfl, hok, hOr, hbr, hzs⟩ := hrel
    have Hok := Lib.hid hok
    have Hzs := Lib.hid hzs
    have HOr := Lib.hid hOr
    have Hbr := Lib.hid hbr
    clear hO1 hg1 hzs hok hbr hOr
    by_cases hlt : k < K
    · have i1 : 2 * k < s.size := by omega
      have i2 : 2 * k + 1 < s.size := by omega
      go_wp2_with fail
      refine (index_any _ wr (UInt8.toNat_lt _)).mono ?_
      rintro e w' ⟨rfl, rfl⟩
      rw [bt_eq s (2 * k) i1]
      have bx := dgv_bd (bt s (2 * k))
      generalize hx : dgv (bt s (2 * k)) = x at *
      have Hx := Lib.hid hx
      clear hx
      obtain ⟨x1, x2⟩ := bx
      go_wp2_with fail
      refine (index_any _ wr (UInt8.toNat_lt _)).mono ?_
      rintro e w' ⟨rfl, rfl⟩
      rw [bt_eq s (2 * k + 1) i2]
      have by_ := dgv_bd (bt s (2 * k + 1))
      generalize hy : dgv (bt s (2 * k + 1)) = y at *
      have Hy := Lib.hid hy
      clear hy
      obtain ⟨y1, y2⟩ := by_
      by_cases d1 : x < 0
      · have e1 : decide (x < 0) = true := by simpa using d1
        go_wp2
        go_ret2
        exact unhex_bad hlt (fun h => by have h1 : 0 ≤ dgv (bt s (2 * k)) := h.1; rw [Hx.out] at h1; omega) Hbr.out
      · have e1 : decide (x < 0) = false := by simpa using d1
        by_cases d2 : y < 0
        · have e2 : decide (y < 0) = true := by simpa using d2
          go_wp2
          go_ret2
          exact unhex_bad hlt (fun h => by have h1 : 0 ≤ dgv (bt s (2 * k + 1)) := h.2; rw [Hy.out] at h1; omega) Hbr.out
        · have e2 : decide (y < 0) = false := by simpa using d2
          have hck := HOr.out.2.2.cellAt k (by omega)
          rw [vals_getElem? zs k (by rw [HOr.out.len]; exact hlt)] at hck
          have hfk := HOr.out.2.2.frozenAt k
          generalize zs.getD k 0 = z at *
          go_wp2
          go_roundw
          case rel => exact unhex_step HOr.out Hbr.out Hok.out Hzs.out Hx.out Hy.out d1 d2 x2 y2 hlt
          case measure => simp [intOf]; omega
    · obtain rfl : k = K := by omega
      go_wp2
      go_ret2
      exact unhex_good HOr.out Hok.out Hbr.out Hzs.out

/-- What the document's Unhex hands back for a text of n bytes, of K pairs. -/
def RefUnhexPost (w : World) (s : ByteArray) (K : Nat) (even : Bool) (e : Ending) (w' : World) : Prop :=
  (okTo s K → ∃ A c, e = .returned (.tuple #[.slice A K c, .bool even]) ∧ Own w' w.heap.size A K c (unL s K)) ∧
  (¬ okTo s K → e = .returned (.tuple #[.slice none 0 0, .bool false])) ∧ Below w.heap.size w w'
def RURel (w : World) (s : ByteArray) (K : Nat) (v i : Value) (wr : World) : Prop :=
  ∃ k A c, k ≤ K ∧ i = .int .i64 ((2 * k : Nat) : Int) ∧ v = .slice A k c ∧ okTo s k ∧ Own wr w.heap.size A k c (unL s k) ∧ Below w.heap.size w wr

theorem refUnhex_bad {w wr : World} {s : ByteArray} {K k : Nat} {even : Bool} (hk : k < K) (hb : ¬ good s k) (hbr : Below w.heap.size w wr) : RefUnhexPost w s K even (.returned (.tuple #[.slice none 0 0, .bool false])) wr :=
  ⟨fun h => absurd (h k hk) hb, fun _ => rfl, hbr⟩
theorem refUnhex_good {s : ByteArray} {k : Nat} {x y : Int} (hx : dgv (bt s (2 * k)) = x) (hy : dgv (bt s (2 * k + 1)) = y) (d1 : 0 ≤ x) (d2 : 0 ≤ y) : good s k :=
  ⟨by unfold hiD; rw [hx]; exact d1, by unfold loD; rw [hy]; exact d2⟩
theorem refUnhex_val {s : ByteArray} {k : Nat} {x y : Int} (hx : dgv (bt s (2 * k)) = x) (hy : dgv (bt s (2 * k + 1)) = y) (d1 : 0 ≤ x) (d2 : 0 ≤ y) (x2 : x < 16) (y2 : y < 16) : 16 * x + y = ((valD s k : Nat) : Int) := by
  have hv : valD s k = (16 * x + y).toNat := by unfold valD hiD loD; rw [hx, hy]
  rw [hv]; omega
theorem unL_succ (s : ByteArray) (k : Nat) : unL s (k + 1) = unL s k ++ [valD s k] := by simp [unL, List.range_succ]
theorem refUnhex_step {w w3 : World} {s : ByteArray} {K k c3 : Nat} {A3 : Option Addr} (hk : k < K) (hok : okTo s k) (hg : good s k) (hO : Own w3 w.heap.size A3 (k + 1) c3 (unL s k ++ [valD s k])) (hb : Below w.heap.size w w3) :
    RURel w s K (.slice A3 (k + 1) c3) (.int .i64 (2 * (k : Int) + 2)) w3 := by
  refine ⟨k + 1, A3, c3, hk, by simp; omega, rfl, fun j hj => ?_, by rw [unL_succ]; exact hO, hb⟩
  by_cases e : j = k
  · subst e; exact hg
  · exact hok j (by omega)

set_option maxHeartbeats 400000 in
theorem refUnhex_any (s : ByteArray) (K n : Nat) (even : Bool) (w : World) (hs : s.size = n) (hK : K = n / 2) (hn : n ≤ 3000) (he : (((n : Nat) : Int) % 2 == 0) = even) :
    Calls Try.prog 18 #[.string s] w (RefUnhexPost w s K even) := by
  have hK1 : 2 * K ≤ n := by omega
  have hK2 : n ≤ 2 * K + 1 := by omega
  clear hK
  have HE := Lib.hid he
  clear he
  subst hs
  go_enter Try.func18, Try.ntmps18
  go_wp2
  go_loopw [4, 5] (RURel w s K) (fun _ i _ => s.size - (intOf i).toNat)
  case atStart => exact ⟨0, _, _, by omega, rfl, rfl, fun j hj => absurd hj (by omega), Own.empty (Nat.le_refl _), (Below.refl _ _).alloc (Nat.le_refl _) _⟩
  case round =>
    obtain ⟨k, A, c, hk, rfl, rfl, hok, hOr, hbr⟩ := hrel
    have Hok := Lib.hid hok
    have HOr := Lib.hid hOr
    have Hbr := Lib.hid hbr
    clear hok hbr hOr
    by_cases hlt : k < K
    · have i1 : 2 * k < s.size := by omega
      have i2 : 2 * k + 1 < s.size := by omega
      go_wp2
      have j0 : (0 : Int) ≤ 2 * (k : Int) := by omega
      have j1 : 2 * (k : Int) < (s.size : Int) := by omega
      have j2 : 2 * (k : Int) + 1 < (s.size : Int) := by omega
      have j3 : (0 : Int) ≤ 2 * (k : Int) + 1 := by omega
      have j4 : (2 * (k : Int)).toNat = 2 * k := by omega
      have j5 : (2 * (k : Int) + 1).toNat = 2 * k + 1 := by omega
      have j6 : IntKind.i64.wrap (2 * (k : Int) + 1) = 2 * (k : Int) + 1 := IntWalk.i64_in _ (by omega)
      go_quiet ((go_at_call 27; exact Calls.quiet_of_same (digit_any _ _ (UInt8.toNat_lt _))))
      rw [bt_eq s (2 * k) i1, bt_eq s (2 * k + 1) i2]
      clear j0 j1 j2 j3 j4 j5 j6
      have bx := dgv_bd (bt s (2 * k))
      have by_ := dgv_bd (bt s (2 * k + 1))
      generalize hx : dgv (bt s (2 * k)) = x at *
      generalize hy : dgv (bt s (2 * k + 1)) = y at *
      have Hx := Lib.hid hx
      have Hy := Lib.hid hy
      clear hx hy
      obtain ⟨x1, x2⟩ := bx
      obtain ⟨y1, y2⟩ := by_
      by_cases d1 : x < 0
      · have e1 : decide (x < 0) = true := by simpa using d1
        go_wp2
        go_ret2
        exact refUnhex_bad hlt (fun h => by have h1 : 0 ≤ dgv (bt s (2 * k)) := h.1; rw [Hx.out] at h1; omega) (below_drewN Hbr.out)
      · have e1 : decide (x < 0) = false := by simpa using d1
        by_cases d2 : y < 0
        · have e2 : decide (y < 0) = true := by simpa using d2
          go_wp2
          go_ret2
          exact refUnhex_bad hlt (fun h => by have h1 : 0 ≤ dgv (bt s (2 * k + 1)) := h.2; rw [Hy.out] at h1; omega) (below_drewN Hbr.out)
        · have e2 : decide (y < 0) = false := by simpa using d2
          have d1' : 0 ≤ x := by omega
          have d2' : 0 ≤ y := by omega
          go_wp2_with (at_builtin; refine wpList_append_row _ rfl _ _ rfl w.heap.size A k c _ rfl ((HOr.out.drewN nq).alloc _) (wr.heap.size + 1) (some ⟨wr.heap.size, 0, none⟩) 1 1 [valD s k] rfl (Row.one (wr.drewN nq) _ _ (refUnhex_val Hx.out Hy.out (by omega) (by omega) x2 y2) (valD_lt s k (refUnhex_good Hx.out Hy.out (by omega) (by omega)))) (by omega) (by have := Hbr.out.size; simp; omega) ?_; intro A3 c3 w3 hO3 hg3 hbl3)
          have hb3 : Below w.heap.size w w3 := below_append (below_drewN Hbr.out) (HOr.out.drewN nq) hg3
          clear hg3 hbl3
          go_roundw
          case rel => exact refUnhex_step hlt Hok.out (refUnhex_good Hx.out Hy.out (by omega) (by omega)) hO3 hb3
          case measure => simp [intOf]; omega
    · obtain rfl : k = K := by omega
      go_wp2
      go_ret2
      exact ⟨fun _ => ⟨A, c, by rw [← HE.out]; rfl, HOr.out⟩, fun h => absurd Hok.out h, Hbr.out⟩
end Go.Proofs.Ytmmfigdmdamnlaa
