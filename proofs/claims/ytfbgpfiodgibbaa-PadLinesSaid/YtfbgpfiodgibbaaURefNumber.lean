/- The document's Number gives bytes and a number's bytes behind, in new memory. Nothing that was there is changed. -/
import Derived.Test.YtfbgpfiodgibbaaUNumber
namespace Go.Proofs.Ytfbgpfiodgibbaa.U
open Go.RowKit
set_option linter.unusedVariables false

def RRel (w : World) (xs : List Nat) (v n K : Nat) (s i : Value) (wr : World) : Prop :=
  ∃ k A c, k ≤ K ∧ i = .int .i64 k ∧ s = .slice A (n + k) c ∧ Own wr w.heap.size A (n + k) c (xs ++ nb v k) ∧ Below w.heap.size w wr

theorem byte_far (v k : Nat) (hv : v < 18446744073709551616) (hk : 8 ≤ k) : v / 256 ^ k % 256 = 0 := by
  have h8 : (256 : Nat) ^ 8 = 18446744073709551616 := by decide
  have h : 256 ^ 8 ≤ 256 ^ k := Nat.pow_le_pow_right (by omega) hk
  rw [Nat.div_eq_of_lt (by omega)]
theorem byte_of (v k : Nat) (hk : k < 8) : ((v : Int) / 2 ^ (8 * k)) % 256 = ((v / 256 ^ k % 256 : Nat) : Int) := by
  rw [← pow_2_8]; simp
theorem refNumber_step {w w3 : World} {xs : List Nat} {v n K k c3 : Nat} {A3 : Option Addr} (hlt : k < K) (hO : Own w3 w.heap.size A3 (n + k + 1) c3 (xs ++ nb v k ++ [v / 256 ^ k % 256])) (hb : Below w.heap.size w w3) :
    RRel w xs v n K (.slice A3 (n + k + 1) c3) (.int .i64 ((k : Int) + 1)) w3 := by
  refine ⟨k + 1, A3, c3, hlt, by simp, rfl, ?_, hb⟩
  rw [nb_succ, ← List.append_assoc]; exact hO

set_option maxHeartbeats 400000 in
theorem refNumber_any (A : Option Addr) (n c : Nat) (xs : List Nat) (v : Nat) (m : Int) (w : World) (hx : Row w w.heap.size A n c xs) (hn : n ≤ 3000) (hv : v < 18446744073709551616) (hm0 : -9223372036854775808 ≤ m) (hm1 : m ≤ 9223372036854775807) :
    Calls Try.prog 28 #[.slice A n c, .int .u64 v, .int .i64 m] w (GivesRow w (xs ++ nb v (many m))) := by
  go_enter Try.func28, Try.ntmps28
  go_wp2_with (at_builtin; refine wpList_append_row _ rfl _ _ rfl w.heap.size (some ⟨w.heap.size, 0, none⟩) 0 0 [] rfl (Own.empty (Nat.le_refl _)) w.heap.size A n c xs rfl (hx.alloc (Nat.le_refl _) _) (by omega) (by simp) ?_; intro A1 c1 w1 hO hg hbl)
  go_loopw [7, 8] (RRel w xs v n (many m)) (fun _ i _ => many m - (intOf i).toNat)
  case atStart => exact ⟨0, A1, c1, Nat.zero_le _, rfl, rfl, by simpa [nb] using hO, ((Below.refl _ _).alloc (Nat.le_refl _) _).grown hg (by simp) (fun k hk => by injection hk with hk; simp only at hk; omega)⟩
  case round =>
    obtain ⟨k, A2, c2, hk, rfl, rfl, hO2, hb2⟩ := hrel
    clear hg hbl hO
    have hmm : many m ≤ 64 := by unfold many; omega
    by_cases hlt : k < many m
    · have hki : (k : Int) < m := by unfold many at hlt; omega
      have hk64 : (k : Int) < 64 := by omega
      by_cases h8 : k < 8
      · go_wp2_with (at_builtin; refine wpList_append_row _ rfl _ _ rfl w.heap.size A2 (n + k) c2 _ rfl (hO2.alloc _) (wr.heap.size + 1) (some ⟨wr.heap.size, 0, none⟩) 1 1 [v / 256 ^ k % 256] rfl (Row.one _ _ _ (byte_of v k h8) (by omega)) (by omega) (by have := hb2.size; simp; omega) ?_; intro A3 c3 w3 hO3 hg3 hbl3)
        have hb3 := below_append hb2 hO2 hg3
        clear hg3 hbl3
        go_roundw
        case rel => exact refNumber_step hlt hO3 hb3
        case measure => simp [intOf]; omega
      · have hz : v / 256 ^ k % 256 = 0 := byte_far v k hv (by omega)
        have Hz := Lib.hid hz
        clear hz
        go_wp2_with (at_builtin; refine wpList_append_row _ rfl _ _ rfl w.heap.size A2 (n + k) c2 _ rfl (hO2.alloc _) (wr.heap.size + 1) (some ⟨wr.heap.size, 0, none⟩) 1 1 [v / 256 ^ k % 256] rfl (Row.one _ _ _ (by rw [Hz.out]; rfl) (by omega)) (by omega) (by have := hb2.size; simp; omega) ?_; intro A3 c3 w3 hO3 hg3 hbl3)
        have hb3 := below_append hb2 hO2 hg3
        clear hg3 hbl3
        go_roundw
        case rel => exact refNumber_step hlt hO3 hb3
        case measure => simp [intOf]; omega
    · have hge : m ≤ (k : Int) ∨ 64 ≤ k := by unfold many at hlt; omega
      obtain rfl : k = many m := by omega
      rcases hge with hge | hge
      · have hd : decide ((many m : Int) < m) = false := by simp; omega
        go_wp2
        go_ret
        exact number_end hO2 hb2
      · by_cases hd : ((many m : Int) < m)
        · have hd2 : decide ((many m : Int) < 64) = false := by simp; omega
          go_wp2
          go_ret
          exact number_end hO2 hb2
        · have hd3 : decide ((many m : Int) < m) = false := by simpa using hd
          go_wp2
          go_ret
          exact number_end hO2 hb2
end Go.Proofs.Ytfbgpfiodgibbaa.U
