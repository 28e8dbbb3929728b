/- Number puts the bytes of a number behind bytes, in new memory; the document's Number gives the same. Nothing that was there is changed. -/
import Derived.Test.YtfbgpfiodgibbaaUAppend
import Derived.Test.YtfbgpfiodgibbaaUPlain
namespace Go.Proofs.Ytfbgpfiodgibbaa.U
open Go.RowKit
set_option linter.unusedVariables false

/-- How many bytes Number puts. -/
def many (m : Int) : Nat := min m.toNat 64

/-- What holds of Number's loop at its head. -/
def NRel (w : World) (xs : List Nat) (v n K : Nat) (vv s i : Value) (wr : World) : Prop :=
  ∃ k A c, k ≤ K ∧ i = .int .i64 k ∧ vv = .int .u64 (v / 256 ^ k : Nat) ∧ s = .slice A (n + k) c ∧ Own wr w.heap.size A (n + k) c (xs ++ nb v k) ∧ Below w.heap.size w wr

theorem number_step {w w3 : World} {xs : List Nat} {v n K k q c3 : Nat} {A3 : Option Addr} (hlt : k < K) (hq : v / 256 ^ k = q) (hO : Own w3 w.heap.size A3 (n + k + 1) c3 (xs ++ nb v k ++ [q % 256])) (hb : Below w.heap.size w w3) :
    NRel w xs v n K (.int .u64 ((q : Int) / 256)) (.slice A3 (n + k + 1) c3) (.int .i64 ((k : Int) + 1)) w3 := by
  refine ⟨k + 1, A3, c3, hlt, by simp, ?_, rfl, ?_, hb⟩
  · rw [Nat.pow_succ, ← Nat.div_div_eq_div_mul, hq]; simp
  · rw [nb_succ, hq, ← List.append_assoc]; exact hO
theorem number_end {w wr : World} {xs : List Nat} {v n k c : Nat} {A : Option Addr} (hO : Own wr w.heap.size A (n + k) c (xs ++ nb v k)) (hb : Below w.heap.size w wr) :
    GivesRow w (xs ++ nb v k) (.returned (.slice A (n + k) c)) wr := by
  have hl := hO.len
  exact ⟨A, c, by rw [hl], by rw [hl]; exact hO, hb⟩

set_option maxHeartbeats 400000 in
theorem number_any (A : Option Addr) (n c : Nat) (xs : List Nat) (v : Nat) (m : Int) (w : World) (hx : Row w w.heap.size A n c xs) (hn : n ≤ 3000) (hv : v < 18446744073709551616) (hm0 : -9223372036854775808 ≤ m) (hm1 : m ≤ 9223372036854775807) :
    Calls Try.prog 27 #[.slice A n c, .int .u64 v, .int .i64 m] w (GivesRow w (xs ++ nb v (many m))) := by
  by_cases hm : m ≤ 64
  all_goals
    go_enter Try.func27, Try.ntmps27
    go_wp2_with (at_builtin; refine wpList_append_row _ rfl _ _ rfl w.heap.size none 0 0 [] rfl (Own.nil_ _ _) w.heap.size A n c xs rfl hx (by omega) (Nat.le_refl _) ?_; intro A1 c1 w1 hO hg hbl)
    go_loopw [1, 7, 12] (NRel w xs v n (many m)) (fun _ _ i _ => many m - (intOf i).toNat)
    case atStart => exact ⟨0, A1, c1, Nat.zero_le _, rfl, by simp, rfl, by simpa [nb] using hO, (Below.refl _ _).grown hg (Nat.le_refl _) (fun k hk => by cases hk)⟩
    case round =>
      obtain ⟨k, A2, c2, hk, rfl, rfl, rfl, hO2, hb2⟩ := hrel
      clear hg hbl hO
      generalize hq : v / 256 ^ k = q at *
      have Hq := Lib.hid hq
      clear hq
      have hmm : many m ≤ 64 := by unfold many; omega
      by_cases hlt : k < many m
      · have hki : (k : Int) < m := by unfold many at hlt; omega
        have hk64 : k < 64 := by omega
        go_wp2_with (at_builtin; refine wpList_append_row _ rfl _ _ rfl w.heap.size A2 (n + k) c2 _ rfl (hO2.alloc _) (wr.heap.size + 1) (some ⟨wr.heap.size, 0, none⟩) 1 1 [q % 256] rfl (Row.one _ _ _ (by simp) (by omega)) (by omega) (by have := hb2.size; simp; omega) ?_; intro A3 c3 w3 hO3 hg3 hbl3)
        have hb3 := below_append hb2 hO2 hg3
        clear hg3 hbl3
        go_roundw
        case rel => exact number_step hlt Hq.out hO3 hb3
        case measure => simp [intOf]; omega
      · have hge : m ≤ (k : Int) ∨ 64 ≤ k := by unfold many at hlt; omega
        obtain rfl : k = many m := by omega
        go_wp2
        go_ret
        exact number_end hO2 hb2
end Go.Proofs.Ytfbgpfiodgibbaa.U
