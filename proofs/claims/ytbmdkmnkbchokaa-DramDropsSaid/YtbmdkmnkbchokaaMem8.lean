/- A bit of memory is turned. No statement is proved here. -/
import Derived.Test.YtbmdkmnkbchokaaMem7
namespace Go.Proofs.Ytbmdkmnkbchokaa
open Go.RowKit
set_option linter.unusedVariables false
set_option linter.unusedSimpArgs false

/-- Bytes of which a bit is turned. -/
def turn (xs : List Nat) (k : Nat) : List Nat := xs.set (k / 8) (xs.getD (k / 8) 0 ^^^ 2 ^ (k % 8))
theorem newByte_turn : ∀ j, j < 8 → ∀ u, u < 256 → newByte u j (1 - u / 2 ^ j % 2) = u ^^^ 2 ^ j := by decide +kernel
theorem xor_lt8 : ∀ j, j < 8 → ∀ u, u < 256 → u ^^^ 2 ^ j < 256 := by decide +kernel
theorem getN_one (xs : List Nat) (k : Nat) : getN xs k 1 = bitN xs k := by simp [getN]
theorem putN_turn (xs : List Nat) (k : Nat) (h : ∀ x ∈ xs, x < 256) : putN xs k (1 - getN xs k 1) 1 = turn xs k := by
  have hl := getD_lt xs h (k / 8)
  have hb := bitN_lt xs k
  unfold putN putN setBit turn
  rw [getN_one, Nat.add_zero, Nat.pow_zero, Nat.div_one, show (1 - bitN xs k) % 2 = 1 - bitN xs k by omega]
  unfold bitN
  rw [newByte_turn (k % 8) (by omega) _ hl]
theorem turn_len (xs : List Nat) (k : Nat) : (turn xs k).length = xs.length := by unfold turn; simp
theorem turn_lt (xs : List Nat) (k : Nat) (h : ∀ x ∈ xs, x < 256) : ∀ x ∈ turn xs k, x < 256 := by
  intro x hx
  rcases List.mem_or_eq_of_mem_set hx with hx | rfl
  · exact h x hx
  · exact xor_lt8 _ (by omega) _ (getD_lt xs h _)
theorem turn_at (xs : List Nat) (k j : Nat) (hk : k < 8 * xs.length) : (turn xs k).getD j 0 = if k / 8 = j then xs.getD j 0 ^^^ 2 ^ (k % 8) else xs.getD j 0 := by
  unfold turn
  rw [getD_set _ _ _ _ (by omega)]
  split
  · subst_vars; rfl
  · rfl
theorem turn_turn (xs : List Nat) (k : Nat) (hk : k < 8 * xs.length) : turn (turn xs k) k = xs := by
  have e := turn_at xs k (k / 8) hk
  rw [if_pos rfl] at e
  have hi : k / 8 < xs.length := by omega
  unfold turn at e ⊢
  rw [e, List.set_set, Nat.xor_assoc, Nat.xor_self, Nat.xor_zero, List.getD_eq_getElem?_getD, List.getElem?_eq_getElem hi]
  exact List.set_getElem_self hi
attribute [local irreducible] arrV Mm.arr turn
section
variable {w W : World} {L : List (Nat × TypeId × Array Value)} {g b : Nat} {m : Mm}
set_option maxHeartbeats 1000000 in
theorem flip_no (a : Int) (h : St w W ((g, 45, m.arr b) :: L)) (hl : m.xs.length ≤ 3000) (a0 : -9223372036854775808 ≤ a) (a1 : a ≤ 9223372036854775807) (hh : fits m.xs.length a 1 = false) :
    Calls Try.prog 16 #[.pointer (some ⟨g, 0, none⟩), .int .i64 a] W fun e W' => e = .returned (.int .i64 2) ∧ W = W' := by
  have c0 := h.cell 0 rfl 0 _ (m.at0 b)
  have G := Lib.hid (fun A c => get_no A m.xs.length c a 1 W hl a0 a1 (by omega) (by omega) hh)
  generalize m.xs.length = N at *
  clear h hh
  go_enter Try.func16, Try.ntmps16
  go_wp2_with (go_at_call 24; refine (G.out _ _).mono ?_; rintro e W1 ⟨rfl, rfl⟩)
  go_ret
  exact ⟨rfl, rfl⟩
set_option maxHeartbeats 1000000 in
theorem flip_yes (k : Nat) (h : St w W ((g, 45, m.arr b) :: (b, 5, arrV m.xs) :: L)) (hm : m.Ok) (hl : m.xs.length ≤ 3000) (hk : k < 8 * m.xs.length) :
    Calls Try.prog 16 #[.pointer (some ⟨g, 0, none⟩), .int .i64 k] W fun e W' => e = .returned (.int .i64 0) ∧ St w W' ((g, 45, ({ m with xs := turn m.xs k } : Mm).arr b) :: (b, 5, arrV (turn m.xs k)) :: L) := by
  have c0 := h.cell 0 rfl 0 _ (m.at0 b)
  have G := Lib.hid (get_yes _ _ _ k 1 m.xs _ W ((h.get 1 rfl).brow0 hm.bytes (by omega)) hl (by omega) (by omega))
  have hv := getN_lt m.xs k 1
  have P := Lib.hid (put_blk b m.xs.length m.xs.length k 1 (1 - getN m.xs k 1) 5 m.xs W (h.get 1 rfl) rfl hm.bytes hl (by omega) (by omega) (by omega) (by omega))
  rw [putN_turn m.xs k hm.bytes] at P
  have EA : Hid (({ m with xs := turn m.xs k } : Mm).arr b = m.arr b) := Mm.arr_len _ _ b (turn_len m.xs k) rfl rfl rfl rfl rfl
  generalize getN m.xs k 1 = q at *
  have hq : q ≤ 1 := by omega
  have eq : Hid (((1 - q : Nat) : Int) = 1 - (q : Int)) := by exact (by omega : ((1 - q : Nat) : Int) = 1 - (q : Int))
  rw [eq.out] at P
  generalize turn m.xs k = zs at *
  generalize m.xs.length = N at *
  clear hm hv eq
  go_enter Try.func16, Try.ntmps16
  go_wp2_with (first
    | (go_at_call 24; refine G.out.mono ?_; rintro e W1 ⟨rfl, rfl⟩; clear G)
    | (go_at_call 25; refine P.out.mono ?_; rintro e W1 ⟨rfl, hB, hg⟩))
  go_ret
  refine ⟨rfl, ?_⟩
  rw [EA.out]
  exact h.put 1 rfl hB hg
set_option maxHeartbeats 1000000 in
theorem tamper_no (a t2 n : Int) (A : Option Addr) (k c : Nat) (h : St w W ((g, 45, m.arr b) :: L)) (hl : m.xs.length ≤ 3000) (a0 : -9223372036854775808 ≤ a) (a1 : a ≤ 9223372036854775807) (hh : fits m.xs.length a 1 = false) :
    Calls Try.prog 8 #[.pointer (some ⟨g, 0, none⟩), .agg #[.int .i64 2, .int .i64 a, .int .i64 t2, .int .i64 n, .slice A k c]] W fun e W' => e = .returned (.int .i64 2) ∧ St w W' ((g, 45, m.arr b) :: L) := by
  have D2 := Lib.hid (fun W M (h : St w W ((g, 45, m.arr b) :: M)) => flip_no a h hl a0 a1 hh)
  clear hh hl
  go_enter Try.func8, Try.ntmps8
  go_wp2_with (first
    | (refine wpList_box_st h 29 (.tmp 1) rfl rfl #[.int .i64 2, .int .i64 a, .int .i64 t2, .int .i64 n, .slice A k c] rfl ?_; clear h; intro W1 h1 _ _; have c0 := h1.cell (L.length + 1) (g := W.heap.size) (t := 29) (arr := #[.int .i64 2, .int .i64 a, .int .i64 t2, .int .i64 n, .slice A k c]) (by simp) 0 (.int .i64 2) rfl; have c1 := h1.cell (L.length + 1) (g := W.heap.size) (t := 29) (arr := #[.int .i64 2, .int .i64 a, .int .i64 t2, .int .i64 n, .slice A k c]) (by simp) 1 (.int .i64 a) rfl)
    | (go_at_call 16; refine (D2.out _ _ h1).mono ?_; rintro e W2 ⟨rfl, rfl⟩))
  go_ret
  exact ⟨rfl, h1.sub (by simp)⟩
set_option maxHeartbeats 1000000 in
theorem tamper_yes (a : Nat) (t2 n : Int) (A : Option Addr) (k c : Nat) (h : St w W ((g, 45, m.arr b) :: (b, 5, arrV m.xs) :: L)) (hm : m.Ok) (hl : m.xs.length ≤ 3000) (hk : a < 8 * m.xs.length) :
    Calls Try.prog 8 #[.pointer (some ⟨g, 0, none⟩), .agg #[.int .i64 2, .int .i64 a, .int .i64 t2, .int .i64 n, .slice A k c]] W fun e W' => e = .returned (.int .i64 0) ∧ St w W' ((g, 45, ({ m with xs := turn m.xs a } : Mm).arr b) :: (b, 5, arrV (turn m.xs a)) :: L) := by
  have D2 := Lib.hid (fun W M (h : St w W ((g, 45, m.arr b) :: (b, 5, arrV m.xs) :: M)) => flip_yes a h hm hl hk)
  generalize turn m.xs a = zs at *
  clear hl hm
  go_enter Try.func8, Try.ntmps8
  go_wp2_with (first
    | (refine wpList_box_st h 29 (.tmp 1) rfl rfl #[.int .i64 2, .int .i64 a, .int .i64 t2, .int .i64 n, .slice A k c] rfl ?_; clear h; intro W1 h1 _ _; have c0 := h1.cell (L.length + 2) (g := W.heap.size) (t := 29) (arr := #[.int .i64 2, .int .i64 a, .int .i64 t2, .int .i64 n, .slice A k c]) (by simp) 0 (.int .i64 2) rfl; have c1 := h1.cell (L.length + 2) (g := W.heap.size) (t := 29) (arr := #[.int .i64 2, .int .i64 a, .int .i64 t2, .int .i64 n, .slice A k c]) (by simp) 1 (.int .i64 a) rfl)
    | (go_at_call 16; refine (D2.out _ _ h1).mono ?_; rintro e W2 ⟨rfl, h2⟩))
  go_ret
  exact ⟨rfl, h2.sub (by simp)⟩
end
end Go.Proofs.Ytbmdkmnkbchokaa
