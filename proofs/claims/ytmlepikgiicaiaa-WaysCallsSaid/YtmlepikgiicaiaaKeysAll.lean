/- All numbers of a cache, rising. No statement is proved here. -/
import Derived.Test.YtmlepikgiicaiaaSortL
namespace Go.Proofs.Ytmlepikgiicaiaa
open Go.RowKit
set_option linter.unusedVariables false
set_option linter.unusedSimpArgs false

/-- The numbers of all sets, set by set. -/
def allK (c : Cs) : List Int := c.flatMap ks
theorem allK_len {c : Cs} (h : ∀ xs ∈ c, xs.length ≤ 64) : (allK c).length ≤ c.length * 64 := by
  unfold allK
  induction c with
  | nil => simp
  | cons x c ih =>
    have h1 := h x List.mem_cons_self
    have h2 := ih fun xs hx => h xs (List.mem_cons_of_mem _ hx)
    simp only [List.flatMap_cons, List.length_append, ks_length, List.length_cons]
    omega
theorem allK_take (c : Cs) (k : Nat) (xs : List Ent) (h : c[k]? = some xs) : allK (c.take (k + 1)) = allK (c.take k) ++ ks xs := by
  unfold allK
  rw [List.take_add_one, h]
  simp
def KyRel (w : World) (g b n : Nat) (c : Cs) (L : Blks) (s i : Value) (wr : World) : Prop :=
  ∃ (k : Nat) (M : Blks), k ≤ c.length ∧ i = .int .i64 (k : Nat) ∧ RL s (allK (c.take k)) M ∧ WC w wr g b n c (M ++ L)
set_option maxHeartbeats 2000000 in
theorem keysall_any {w W : World} {g b n : Nat} {c : Cs} {L : Blks} (h : WC w W g b n c L) (hle : ∀ xs ∈ c, xs.length ≤ 64) :
    Calls Try.prog 21 #[.pointer (some ⟨g, 0, none⟩)] W fun e W' => ∃ v M, e = .returned v ∧ RL v (srt (allK c)) M ∧ WC w W' g b n c (M ++ L) := by
  have c1 := h.c1
  have s1 := h.pos
  have s64 := h.s64
  have HL := Lib.hid hle
  generalize hS : c.length = Sn at *
  go_enter Try.func21, Try.ntmps21
  go_wp2
  go_loopw [3, 11] (KyRel w g b n c L) (fun _ i _ => Sn - (intOf i).toNat)
  case atStart => exact ⟨0, [], by omega, rfl, RL.nil_, h⟩
  case round =>
    obtain ⟨k, M, hk, rfl, hr, h1⟩ := hrel
    rw [hS] at hk
    clear h c1
    by_cases hlt : k < Sn
    · have g1 : ((k : Int) < (Sn : Int)) = True := eq_true (by omega)
      have hx : c[k]? = some (c.getD k []) := by rw [List.getD_eq_getElem?_getD, List.getElem?_eq_getElem (by omega)]; rfl
      obtain ⟨A, p, d0, hrow⟩ := h1.set_at k (by omega)
      have tk := Lib.hid (allK_take c k _ hx)
      have l1 : (c.getD k []).length ≤ 64 := HL.out _ (List.mem_of_getElem? hx)
      have l2 : (allK (c.take k)).length ≤ 4096 := by
        have := allK_len (c := c.take k) fun xs hx => HL.out xs (List.mem_of_mem_take hx)
        rw [List.length_take] at this
        have : min k c.length * 64 ≤ 64 * 64 := Nat.mul_le_mul_right _ (by omega)
        omega
      generalize c.getD k [] = xs at *
      generalize hln : xs.length = m at *
      obtain ⟨Y, _, _, hs, up⟩ := h1.lift
      have HS := Lib.hid hs
      have UP := Lib.hid up
      have hrow' := Lib.hid hrow
      replace hr := Lib.hid hr
      have b5 := Lib.hid (show (allK (c.take k)).length + m ≤ 100000 by omega)
      have lm := Lib.hid (show (ks xs).length = m by rw [ks_length, hln])
      clear hs up hrow hx l2 h1
      go_wp2_with (first
        | (go_at_call 31; refine (keys_any A m p xs HS.out hrow'.out (by omega)).mono ?_; rintro e W2 ⟨bk, rfl, h2⟩; have ROW := Lib.hid (at_irow (h2.get 0 rfl) (by rw [lm.out]; unfold maxLen; omega)); rw [lm.out] at ROW)
        | (have _ := h2; refine wpList_append_rl (ys := ks xs) hr.out (h2.perm (((List.perm_append_comm_assoc Y M L).cons _).trans List.perm_middle.symm)) ROW.out _ _ rfl rfl rfl rfl b5.out ?_; clear h2; intro v2 W3 M2 hr2 h3))
      rw [← tk.out] at hr2
      have h4 : WC w W3 g b n c (M2 ++ L) := UP.out _ _ ((h3.sub ((List.sublist_cons_self _ _).append_left M2)).perm (List.perm_append_comm_assoc M2 Y L))
      go_roundw
      case rel => exact ⟨k + 1, M2, by omega, by go_num, hr2, h4⟩
      case measure => simp [intOf]; omega
    · obtain rfl : k = Sn := by omega
      have g1 : ((k : Int) < (k : Int)) = False := eq_false (by omega)
      have e1 : allK (c.take k) = allK c := by rw [List.take_of_length_le (by omega)]
      rw [e1] at hr
      have l2 : (allK c).length ≤ 100000 := by
        have := allK_len (c := c) HL.out
        have : c.length * 64 ≤ 64 * 64 := Nat.mul_le_mul_right _ (by omega)
        omega
      obtain ⟨Y, _, _, hs, up⟩ := h1.lift
      have SO := Lib.hid (sort_any hr (hs.perm (List.perm_append_comm_assoc Y M L)) l2)
      clear hr hs e1 l2
      go_wp2_with (go_at_call 32; refine SO.out.mono ?_; rintro e W2 ⟨rfl, M2, hr2, h2⟩)
      go_ret
      exact ⟨_, M2, rfl, hr2, up _ _ (h2.perm (List.perm_append_comm_assoc M2 Y L))⟩
end Go.Proofs.Ytmlepikgiicaiaa
