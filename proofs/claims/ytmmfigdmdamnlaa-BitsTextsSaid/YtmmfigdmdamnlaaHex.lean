/- Hex gives bytes as a text: two digits of each byte. Nothing that was there is changed. -/
import Derived.Test.YtmmfigdmdamnlaaPut
import Derived.Deep.RegionLaw
import Derived.Laws.BytesArg
namespace Go.Proofs.Ytmmfigdmdamnlaa
open Go.RowKit
set_option linter.unusedVariables false

/-- The digit of a number below 16, as a byte. -/
def dg (d : Nat) : Nat := if d < 10 then 48 + d else 87 + d
/-- The digits of bytes. -/
def hexL : List Nat → List Nat
  | [] => []
  | x :: r => dg (x / 16) :: dg (x % 16) :: hexL r
/-- Bytes as a text's bytes. -/
def txt (ns : List Nat) : ByteArray := ⟨(ns.map UInt8.ofNat).toArray⟩
theorem txt_toList (ns : List Nat) : (txt ns).toList = ns.map UInt8.ofNat := by simp [txt]
theorem txt_size (ns : List Nat) : (txt ns).size = ns.length := by simp [txt, ByteArray.size]
theorem txt_append (xs ys : List Nat) : txt xs ++ txt ys = txt (xs ++ ys) := by
  unfold txt
  rw [ByteArray.mk_append_mk, List.map_append]
theorem hexL_append (xs ys : List Nat) : hexL (xs ++ ys) = hexL xs ++ hexL ys := by
  induction xs with
  | nil => rfl
  | cons x r ih => simp [hexL, ih]
theorem hexL_length (xs : List Nat) : (hexL xs).length = 2 * xs.length := by
  induction xs with
  | nil => rfl
  | cons x r ih => simp [hexL, ih]; omega
def HRel (w : World) (xs : List Nat) (n : Nat) (s i : Value) (wr : World) : Prop :=
  ∃ k A c, k ≤ n ∧ i = .int .i64 (k : Nat) ∧ s = .slice A (2 * k) c ∧ Own wr w.heap.size A (2 * k) c (hexL (xs.take k)) ∧ Below w.heap.size w wr

theorem Row.two (w : World) (x1 x2 : Nat) (z1 z2 : Int) (h1 : z1 = (x1 : Int)) (h2 : z2 = (x2 : Int)) (l1 : x1 < 256) (l2 : x2 < 256) :
    Row (w.alloc (.cells #[.int .u8 z1, .int .u8 z2] 5)).drew (w.heap.size + 1) (some ⟨w.heap.size, 0, none⟩) 2 2 [x1, x2] := by
  subst h1 h2
  refine ⟨rfl, by simp; omega, Nat.le_refl _, by unfold maxLen; omega, (fun h => by cases h), fun a ha _ => ?_⟩
  injection ha with ha
  subst ha
  refine ⟨rfl, by simp, fun j hj => ?_⟩
  have hj2 : j = 0 ∨ j = 1 := by omega
  rcases hj2 with rfl | rfl <;> simp
theorem dg_lt (d : Nat) (h : d < 16) : dg d < 256 := by unfold dg; split <;> omega
theorem digit_at : ∀ i : Fin 16, ((⟨#[48, 49, 50, 51, 52, 53, 54, 55, 56, 57, 97, 98, 99, 100, 101, 102]⟩ : ByteArray)[i.val]'(by have := i.isLt; exact this)).toNat = dg i.val := by decide
theorem digit_hi (u : Nat) (hu : u < 256) (h : ((u : Int) / 16).toNat < (⟨#[48, 49, 50, 51, 52, 53, 54, 55, 56, 57, 97, 98, 99, 100, 101, 102]⟩ : ByteArray).size) :
    (((⟨#[48, 49, 50, 51, 52, 53, 54, 55, 56, 57, 97, 98, 99, 100, 101, 102]⟩ : ByteArray)[((u : Int) / 16).toNat]'h).toNat : Int) = ((dg (u / 16) : Nat) : Int) := by
  have e : ((u : Int) / 16).toNat = u / 16 := by omega
  have := digit_at ⟨u / 16, by omega⟩
  simp only [e]
  exact congrArg _ this
theorem digit_lo (u : Nat) (hu : u < 256) (h : ((u : Int) % 16).toNat < (⟨#[48, 49, 50, 51, 52, 53, 54, 55, 56, 57, 97, 98, 99, 100, 101, 102]⟩ : ByteArray).size) :
    (((⟨#[48, 49, 50, 51, 52, 53, 54, 55, 56, 57, 97, 98, 99, 100, 101, 102]⟩ : ByteArray)[((u : Int) % 16).toNat]'h).toNat : Int) = ((dg (u % 16) : Nat) : Int) := by
  have e : ((u : Int) % 16).toNat = u % 16 := by omega
  have := digit_at ⟨u % 16, by omega⟩
  simp only [e]
  exact congrArg _ this
theorem hex_step {w w3 : World} {xs : List Nat} {n k u c3 : Nat} {A3 : Option Addr} (hl : xs.length = n) (hu : xs.getD k 0 = u) (hlt : k < n) (hO : Own w3 w.heap.size A3 (2 * k + 2) c3 (hexL (xs.take k) ++ [dg (u / 16), dg (u % 16)])) (hb : Below w.heap.size w w3) :
    HRel w xs n (.slice A3 (2 * k + 2) c3) (.int .i64 ((k : Int) + 1)) w3 := by
  refine ⟨k + 1, A3, c3, hlt, by simp, rfl, ?_, hb⟩
  have e : xs.take (k + 1) = xs.take k ++ [u] := by
    rw [List.take_succ_eq_append_getElem (by omega), ← hu, List.getD_eq_getElem?_getD, List.getElem?_eq_getElem (by omega)]; rfl
  rw [e, hexL_append]
  exact hO

theorem text_of {w : World} {base n c : Nat} {A : Option Addr} {ys : List Nat} (h : Own w base A n c ys) : (convert 22 9 (.slice A n c)).run Try.prog w = .ok (.string (txt ys)) w := by
  have hr := h.row
  rcases h.2.2.2 with ⟨hv, hn⟩ | ⟨g, cap, cur, hv, _⟩
  · injection hv with e1 e2 e3
    subst e1; subst e2; subst e3
    have : ys = [] := List.eq_nil_of_length_eq_zero (by rw [h.len])
    subst this
    exact run_convert_bytes_nil w 22 5 Try.underlying22 Try.underlying5 0 0 9 Try.underlying9
  · injection hv with e1 e2 e3
    subst e1; subst e3
    have := run_convert_bytes_arg (P := Try.prog) w 22 5 Try.underlying22 Try.underlying5 g 0 n c (ys.map fun (y : Nat) => (y : Int)) (by simp [h.len]) (fun i hi => by
      obtain ⟨b, off, e, _, hc⟩ := hr.at_ (by omega)
      injection e with e
      injection e with e1 e2
      subst e1; subst e2
      rw [hc i hi]
      simp [List.getD_eq_getElem?_getD, h.len, hi]) 9 Try.underlying9
    rw [this]
    simp [txt, strOfNums, Function.comp_def]

set_option maxHeartbeats 400000 in
theorem hex_any (A : Option Addr) (n c : Nat) (xs : List Nat) (w : World) (hx : Row w w.heap.size A n c xs) (hn : n ≤ 3000) :
    Calls Try.prog 19 #[.slice A n c] w fun e w' => e = .returned (.string (txt (hexL xs))) ∧ Below w.heap.size w w' := by
  go_enter Try.func19, Try.ntmps19
  go_wp2_with (at_make; refine wpList_make_empty _ rfl _ _ rfl w.heap.size _ (2 * n) rfl rfl (by omega) (by omega) (Nat.le_refl _) ?_; intro w1 hO1 hg1)
  go_loopw [3, 12] (HRel w xs n) (fun _ i _ => n - (intOf i).toNat)
  case atStart => exact ⟨0, _, _, by omega, rfl, rfl, by simpa [hexL] using hO1, (Below.refl _ _).grown hg1 (Nat.le_refl _) (fun k hk => by cases hk)⟩
  case round =>
    obtain ⟨k, A2, c2, hk, rfl, rfl, hO2, hb2⟩ := hrel
    clear hO1 hg1
    by_cases hlt : k < n
    · obtain ⟨b1, o1, rfl, hb1, hc1⟩ := (hx.below hb2).at_ (by omega)
      have hc1k := hc1 k hlt
      have l1 := hx.lt k
      clear hc1
      generalize hu : xs.getD k 0 = u at *
      have Hu := Lib.hid hu
      clear hu
      have HO2 := Lib.hid hO2
      have Hb2 := Lib.hid hb2
      clear hb2 hO2
      have q0 : (0 : Int) ≤ (u : Int) / 16 := by omega
      have q1 : (u : Int) / 16 < 16 := by omega
      have q2 : bits .and .u8 (u : Int) 15 = (u : Int) % 16 := u8_and15 _ (by omega) (by omega)
      have q3 : (0 : Int) ≤ (u : Int) % 16 := by omega
      have q4 : (u : Int) % 16 < 16 := by omega
      go_wp2
      go_region_law (refine step_append_row _ rfl _ _ rfl w.heap.size A2 (2 * k) c2 _ rfl (HO2.out.alloc _).drew (wr.heap.size + 1) ⟨wr.heap.size, 0, none⟩ 2 2 [dg (u / 16), dg (u % 16)] rfl (Row.two _ _ _ _ _ (digit_hi u l1 _) (digit_lo u l1 _) (dg_lt _ (by omega)) (dg_lt _ (by omega))) (by omega) (by have := Hb2.out.size; simp; omega) ?_; intro A3 c3 w3 hO3 hg3)
      all_goals
        have hb3 : Below w.heap.size w w3 := (Hb2.out.alloc Hb2.out.size _).drew.grown hg3 (by have := Hb2.out.size; simp; omega) (fun k hk => (HO2.out.2.2.lt k hk).1)
        have Hb3 := Lib.hid hb3
        have HO3 := Lib.hid hO3
        clear hg3 hb3 hO3
        go_wp2
        go_roundw
        case rel => exact hex_step hx.len Hu.out hlt HO3.out Hb3.out
        case measure => simp [intOf]; omega
    · obtain rfl : k = n := by omega
      rw [List.take_of_length_le (by rw [hx.len]; exact Nat.le_refl _)] at hO2
      have hcv := text_of hO2
      have HO2 := Lib.hid hO2
      have Hb2 := Lib.hid hb2
      clear hO2 hb2
      go_wp2
      go_ret
      exact ⟨rfl, Hb2.out⟩
end Go.Proofs.Ytmmfigdmdamnlaa
