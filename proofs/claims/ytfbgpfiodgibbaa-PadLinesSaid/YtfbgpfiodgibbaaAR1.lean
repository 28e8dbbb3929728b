/- A round's key fixes the key, in plain lists. No program is spoken of here. The document's product of two bytes is the program's. No statement is proved here. The document's byte that stands for another one is the program's. No statement is proved here. The document's table of the bytes that stand for others. No statement is proved here. Rows of words: slices of slices that a call has made. No statement is proved here. The words of a key, as the document makes them, by the program's own words. No program is walked here. -/
import Derived.Test.YtfbgpfiodgibbaaAInj
import Derived.Test.YtfbgpfiodgibbaaASubsWalk
import Derived.Test.YtfbgpfiodgibbaaAField
import Derived.Test.YtfbgpfiodgibbaaUAppend
import Derived.ArgAppend
namespace Go.Proofs.Ytfbgpfiodgibbaa.A
set_option linter.unusedVariables false
set_option linter.unusedSectionVars false

theorem word_put_lo (ws : List Nat) (i j : Nat) (y : List Nat) (hj : j < i) (h : 4 * i ≤ ws.length) : word (putW ws i y) j = word ws j := by
  unfold word putW
  rw [List.append_assoc, List.drop_append_of_le_length (by rw [List.length_take]; omega), List.take_append_of_le_length (by rw [List.length_drop, List.length_take]; omega), List.drop_take, List.take_take, Nat.min_eq_left (by omega)]
theorem word_put_at (ws : List Nat) (i : Nat) (y : List Nat) (hy : y.length = 4) (h : 4 * i ≤ ws.length) : word (putW ws i y) i = y := by
  unfold word putW
  have hl : (ws.take (4 * i)).length = 4 * i := by rw [List.length_take]; omega
  rw [List.append_assoc, List.drop_append_of_le_length (by omega), List.drop_of_length_le (by omega), List.nil_append, List.take_append_of_le_length (by omega), List.take_of_length_le (by omega)]
section
variable (key : List Nat) (hk : key.length = 16) (bk : ∀ x ∈ key, x < 256)
include hk bk
theorem ex_len (k : Nat) (h : k ≤ 40) : (exTo fresh key k).1.length = 176 := (exTo_ok _ _ fresh_lt hk bk k h).1
theorem add_len (k : Nat) (h : k < 40) : (addTo (word (exTo fresh key k).1 k) (lastW fresh (exTo fresh key k).1 (exTo fresh key k).2 k) 4).length = 4 := by
  rw [addTo_length]; exact word_length _ _ (by rw [ex_len key hk bk k (by omega)]; omega)
theorem ex_stable (k m j : Nat) (h : k + m ≤ 40) (hj : j < k + 4) : word (exTo fresh key (k + m)).1 j = word (exTo fresh key k).1 j := by
  induction m with
  | zero => rfl
  | succ m ih =>
    rw [show k + (m + 1) = (k + m) + 1 by omega, exTo_succ]
    show word (putW _ _ _) j = _
    rw [word_put_lo _ _ _ _ (by omega) (by rw [ex_len key hk bk (k + m) (by omega)]; omega), ih (by omega)]
theorem ex_word (k : Nat) (h : k < 40) : word (exTo fresh key 40).1 (k + 4) = addTo (word (exTo fresh key 40).1 k) (lastW fresh (exTo fresh key 40).1 (exTo fresh key k).2 k) 4 := by
  have e1 := ex_stable key hk bk (k + 1) (40 - (k + 1)) (k + 4) (by omega) (by omega)
  have e2 := ex_stable key hk bk k (40 - k) k (by omega) (by omega)
  have e3 := ex_stable key hk bk k (40 - k) (k + 3) (by omega) (by omega)
  rw [show k + 1 + (40 - (k + 1)) = 40 by omega] at e1
  rw [show k + (40 - k) = 40 by omega] at e2 e3
  have e4 : lastW fresh (exTo fresh key 40).1 (exTo fresh key k).2 k = lastW fresh (exTo fresh key k).1 (exTo fresh key k).2 k := by unfold lastW; rw [e3]
  rw [e1, e2, e4, exTo_succ]
  exact word_put_at _ _ _ (add_len key hk bk k h) (by rw [ex_len key hk bk k (by omega)]; omega)
theorem ex_power (other : List Nat) (k : Nat) : (exTo fresh key k).2 = (exTo fresh other k).2 := by
  induction k with
  | zero => rw [exTo_zero, exTo_zero]
  | succ k ih => rw [exTo_succ, exTo_succ]; show nextP _ _ = nextP _ _; rw [ih]
theorem key_stable (k m j : Nat) (h : k + m ≤ 4) (hj : j < k) : word (keyTo key (k + m)) j = word (keyTo key k) j := by
  induction m with
  | zero => rfl
  | succ m ih =>
    rw [show k + (m + 1) = (k + m) + 1 by omega, keyTo_succ, word_put_lo _ _ _ _ (by omega) (by rw [(keyTo_ok key hk bk (k + m) (by omega)).1]; omega), ih (by omega)]
theorem ex_key (j : Nat) (h : j < 4) : word (exTo fresh key 40).1 j = word key j := by
  have e1 := ex_stable key hk bk 0 40 j (by omega) (by omega)
  rw [Nat.zero_add] at e1
  have e2 := key_stable key hk bk (j + 1) (4 - (j + 1)) j (by omega) (by omega)
  rw [show j + 1 + (4 - (j + 1)) = 4 by omega] at e2
  rw [e1, exTo_zero]
  show word (keyTo key 4) j = _
  rw [e2, keyTo_succ]
  exact word_put_at _ _ _ (word_length _ _ (by omega)) (by rw [(keyTo_ok key hk bk j (by omega)).1]; omega)
end
theorem add4_getD (xs ys : List Nat) (i : Nat) (hx : xs.length = 4) (hi : i < 4) : (addTo xs ys 4).getD i 0 = xs.getD i 0 ^^^ ys.getD i 0 := by
  have z : addTo xs ys 0 = xs := by unfold addTo; rfl
  have := setTo_getD (addTo xs ys) (fun t => xs.getD t 0 ^^^ ys.getD t 0) (fun t => by rw [addTo, addTo_free xs ys t t (Nat.le_refl _)]) 4 i (by rw [z, hx]; exact hi)
  rw [this, if_pos hi]
theorem add4_inj (xs ys ks : List Nat) (hx : xs.length = 4) (hy : ys.length = 4) (h : addTo xs ks 4 = addTo ys ks 4) : xs = ys := by
  refine List.ext_getElem (by rw [hx, hy]) fun i h1 h2 => ?_
  have e : (addTo xs ks 4).getD i 0 = (addTo ys ks 4).getD i 0 := by rw [h]
  rw [add4_getD xs ks i hx (by omega), add4_getD ys ks i hy (by omega)] at e
  have := xor_cancel e
  simpa [List.getD_eq_getElem?_getD, List.getElem?_eq_getElem h1, List.getElem?_eq_getElem h2] using this
/-- The words of a round, alike for two keys. -/
def Alike (a b : List Nat) (r : Nat) : Prop := ∀ j, j < 4 → word (exTo fresh a 40).1 (4 * r + j) = word (exTo fresh b 40).1 (4 * r + j)
theorem alike_back (a b : List Nat) (la : a.length = 16) (lb : b.length = 16) (ba : ∀ x ∈ a, x < 256) (bb : ∀ x ∈ b, x < 256) (r : Nat) (hr : r < 10) (h : Alike a b (r + 1)) : Alike a b r := by
  have wl := fun (key : List Nat) (hk : key.length = 16) (bk : ∀ x ∈ key, x < 256) (k : Nat) (h : k < 40) => word_length (exTo fresh key 40).1 k (by rw [ex_len key hk bk 40 (by omega)]; omega)
  have step : ∀ k, k < 40 → word (exTo fresh a 40).1 (k + 4) = word (exTo fresh b 40).1 (k + 4) → word (exTo fresh a 40).1 (k + 3) = word (exTo fresh b 40).1 (k + 3) → word (exTo fresh a 40).1 k = word (exTo fresh b 40).1 k := by
    intro k hk h1 h2
    have ea := ex_word a la ba k hk
    have eb := ex_word b lb bb k hk
    have e : lastW fresh (exTo fresh a 40).1 (exTo fresh a k).2 k = lastW fresh (exTo fresh b 40).1 (exTo fresh b k).2 k := by unfold lastW; rw [h2, ex_power a la ba b k]
    rw [ea, eb, e] at h1
    exact add4_inj _ _ _ (wl a la ba k hk) (wl b lb bb k hk) h1
  have h0 := h 0 (by omega)
  have h1 := h 1 (by omega)
  have h2 := h 2 (by omega)
  have h3 := h 3 (by omega)
  have g3 := step (4 * r + 3) (by omega) h3 h2
  have g2 := step (4 * r + 2) (by omega) h2 h1
  have g1 := step (4 * r + 1) (by omega) h1 h0
  have g0 := step (4 * r) (by omega) h0 g3
  intro j hj
  rcases (by omega : j = 0 ∨ j = 1 ∨ j = 2 ∨ j = 3) with rfl | rfl | rfl | rfl
  · exact g0
  · exact g1
  · exact g2
  · exact g3
theorem alike_key (a b : List Nat) (la : a.length = 16) (lb : b.length = 16) (ba : ∀ x ∈ a, x < 256) (bb : ∀ x ∈ b, x < 256) (r : Nat) (hr : r ≤ 10) (h : Alike a b r) : a = b := by
  induction r with
  | zero =>
    have w : ∀ j, j < 4 → word a j = word b j := fun j hj => by
      have := h j hj
      rw [Nat.mul_zero, Nat.zero_add, ex_key a la ba j hj, ex_key b lb bb j hj] at this
      exact this
    refine list_ext a b la lb fun i hi => ?_
    have := w (i / 4) (by omega)
    have e : (word a (i / 4)).getD (i % 4) 0 = (word b (i / 4)).getD (i % 4) 0 := by rw [this]
    unfold word at e
    rwa [col_getD a _ _ (by omega), col_getD b _ _ (by omega), show 4 * (i / 4) + i % 4 = i by omega] at e
  | succ r ih => exact ih (by omega) (alike_back a b la lb ba bb r (by omega) h)
theorem rk_eq (cs : List Nat) (r : Nat) : rk cs r = (cs.drop (16 * r)).take 16 := by unfold rk; rfl
theorem rounds_eq (key : List Nat) (hk : key.length = 16) (bk : ∀ x ∈ key, x < 256) : (cells key).take 176 = (exTo fresh key 40).1 := by
  have hl := (exTo_ok _ _ fresh_lt hk bk 40 (by omega)).1
  rw [cells_eq key hk bk, List.take_append_of_le_length (by omega), List.take_of_length_le (by omega)]
theorem rk_key (a b : List Nat) (la : a.length = 16) (lb : b.length = 16) (ba : ∀ x ∈ a, x < 256) (bb : ∀ x ∈ b, x < 256) (r : Nat) (hr : r ≤ 10) (h : rk (exTo fresh a 40).1 r = rk (exTo fresh b 40).1 r) : a = b := by
  refine alike_key a b la lb ba bb r hr fun j hj => ?_
  have e : ∀ cs : List Nat, word cs (4 * r + j) = ((rk cs r).drop (4 * j)).take 4 := fun cs => by
    rw [rk_eq]
    unfold word
    rw [List.drop_take, List.take_take, List.drop_drop, Nat.min_eq_left (by omega), show 16 * r + 4 * j = 4 * (4 * r + j) by omega]
  rw [e, e, h]
end Go.Proofs.Ytfbgpfiodgibbaa.A
namespace Go.Proofs.Ytfbgpfiodgibbaa.A
open Go.RowKit
set_option linter.unusedVariables false

def raw (a b : Nat) : Nat → Nat
  | 0 => 0
  | k + 1 => if b / 2 ^ k % 2 = 1 then raw a b k ^^^ (a * 2 ^ k) else raw a b k
def rd (x : Nat) : Nat → Nat
  | 0 => x
  | m + 1 => if rd x m / 2 ^ (14 - m) % 2 = 1 then rd x m ^^^ (283 * 2 ^ (6 - m)) else rd x m
def rt (a b : Nat) : Nat := rd (raw a b 8) 7 % 256
theorem raw_lt (a b k : Nat) (ha : a < 256) (hk : k ≤ 8) : raw a b k < 32768 := by
  induction k with
  | zero => simp [raw]
  | succ k ih =>
    have h1 : a * 2 ^ k < 2 ^ 15 := by
      have : 2 ^ k ≤ 2 ^ 7 := Nat.pow_le_pow_right (by omega) (by omega)
      calc a * 2 ^ k ≤ 255 * 2 ^ 7 := Nat.mul_le_mul (by omega) this
        _ < 2 ^ 15 := by omega
    simp only [raw]; split
    · exact Nat.xor_lt_two_pow (n := 15) (ih (by omega)) h1
    · exact ih (by omega)
theorem rd_lt (x m : Nat) (hx : x < 32768) (hm : m ≤ 7) : rd x m < 32768 := by
  induction m with
  | zero => exact hx
  | succ m ih =>
    have h1 : 283 * 2 ^ (6 - m) < 2 ^ 15 := by
      have : 2 ^ (6 - m) ≤ 2 ^ 6 := Nat.pow_le_pow_right (by omega) (by omega)
      omega
    simp only [rd]; split
    · exact Nat.xor_lt_two_pow (n := 15) (ih (by omega)) h1
    · exact ih (by omega)
theorem raw_lin (a k b c : Nat) : raw a (b ^^^ c) k = raw a b k ^^^ raw a c k := by
  induction k with
  | zero => simp [raw]
  | succ k ih =>
    simp only [raw, ih]
    have h := bit_xor b c k
    by_cases h1 : b / 2 ^ k % 2 = 1 <;> by_cases h2 : c / 2 ^ k % 2 = 1
    · rw [if_neg (by rw [h]; simp [h1, h2]), if_pos h1, if_pos h2, xor4]
    · rw [if_pos (by rw [h]; simp [h1, h2]), if_pos h1, if_neg h2, Nat.xor_assoc, Nat.xor_comm (raw a c k), ← Nat.xor_assoc]
    · rw [if_pos (by rw [h]; simp [h1, h2]), if_neg h1, if_pos h2, Nat.xor_assoc]
    · rw [if_neg (by rw [h]; simp [h1, h2]), if_neg h1, if_neg h2]
theorem rd_lin (x y m : Nat) : rd (x ^^^ y) m = rd x m ^^^ rd y m := by
  induction m with
  | zero => rfl
  | succ m ih =>
    simp only [rd, ih]
    have h := bit_xor (rd x m) (rd y m) (14 - m)
    by_cases h1 : rd x m / 2 ^ (14 - m) % 2 = 1 <;> by_cases h2 : rd y m / 2 ^ (14 - m) % 2 = 1
    · rw [if_neg (by rw [h]; simp [h1, h2]), if_pos h1, if_pos h2, xor4]
    · rw [if_pos (by rw [h]; simp [h1, h2]), if_pos h1, if_neg h2, Nat.xor_assoc, Nat.xor_comm (rd y m), ← Nat.xor_assoc]
    · rw [if_pos (by rw [h]; simp [h1, h2]), if_neg h1, if_pos h2, Nat.xor_assoc]
    · rw [if_neg (by rw [h]; simp [h1, h2]), if_neg h1, if_neg h2]
theorem rt_lin (a : Nat) : Lin (rt a) := fun b c _ _ => by
  unfold rt
  rw [raw_lin, rd_lin]
  exact Nat.xor_mod_two_pow (n := 8)
theorem rt_basis : ((List.range 256).all fun a => (List.range 8).all fun j => rt a (2 ^ j) == times a (2 ^ j)) = true := by decide +kernel
theorem rt_eq (a b : Nat) (ha : a < 256) (hb : b < 256) : rt a b = times a b :=
  Lin.ext (rt_lin a) (times_lin a) (fun j hj => beq_iff_eq.1 (List.all_eq_true.1 (List.all_eq_true.1 rt_basis a (List.mem_range.2 ha)) j (List.mem_range.2 hj))) b hb

theorem ofInt_64 (a : Nat) (h : a < 32768) : (BitVec.ofInt 64 (a : Int)).toNat = a := by
  rw [BitVec.toNat_ofInt]; omega
theorem i64_xor_nat (a b : Nat) (ha : a < 32768) (hb : b < 32768) : bits .xor .i64 (a : Int) (b : Int) = ((a ^^^ b : Nat) : Int) := by
  have hx : a ^^^ b < 2 ^ 15 := Nat.xor_lt_two_pow (by omega) (by omega)
  show IntKind.i64.wrap ((BitVec.ofInt 64 (a : Int) ^^^ BitVec.ofInt 64 (b : Int)).toNat : Int) = _
  rw [BitVec.toNat_xor, ofInt_64 a ha, ofInt_64 b hb, IntKind.wrap_i64]
  omega
theorem i64_and_one (a : Nat) (ha : a < 32768) : bits .and .i64 (a : Int) 1 = ((a % 2 : Nat) : Int) := by
  show IntKind.i64.wrap ((BitVec.ofInt 64 (a : Int) &&& BitVec.ofInt 64 ((1 : Nat) : Int)).toNat : Int) = _
  rw [BitVec.toNat_and, ofInt_64 a ha, ofInt_64 1 (by omega), IntKind.wrap_i64, Nat.and_one_is_mod]
  omega
theorem i64_bit (p j : Nat) (hp : p < 32768) : bits .and .i64 ((p : Int) / 2 ^ j) 1 = ((p / 2 ^ j % 2 : Nat) : Int) := by
  have e : ((p : Int) / 2 ^ j) = ((p / 2 ^ j : Nat) : Int) := by simp
  rw [e]
  exact i64_and_one _ (Nat.lt_of_le_of_lt (Nat.div_le_self _ _) hp)
theorem wrap_small (n : Nat) (h : n < 32768) : wrap64 (n : Int) = (n : Int) := by unfold wrap64; omega
theorem raw_step (a p k : Nat) (ha : a < 256) (hk : k < 8) (hp : p < 32768) : bits .xor .i64 (p : Int) (wrap64 ((a : Int) * 2 ^ k)) = ((p ^^^ (a * 2 ^ k) : Nat) : Int) := by
  have h1 : a * 2 ^ k < 32768 := by
    have : 2 ^ k ≤ 2 ^ 7 := Nat.pow_le_pow_right (by omega) (by omega)
    calc a * 2 ^ k ≤ 255 * 2 ^ 7 := Nat.mul_le_mul (by omega) this
      _ < 32768 := by omega
  have e : ((a : Int) * 2 ^ k) = ((a * 2 ^ k : Nat) : Int) := by simp
  rw [e, wrap_small _ h1, i64_xor_nat _ _ hp h1]
theorem rd_step (p j : Nat) (h1 : 8 ≤ j) (h2 : j ≤ 14) (hp : p < 32768) : bits .xor .i64 (p : Int) (wrap64 (283 * 2 ^ (j - 8))) = ((p ^^^ (283 * 2 ^ (j - 8)) : Nat) : Int) := by
  have h1 : 283 * 2 ^ (j - 8) < 32768 := by
    have : 2 ^ (j - 8) ≤ 2 ^ 6 := Nat.pow_le_pow_right (by omega) (by omega)
    omega
  have e : ((283 : Int) * 2 ^ (j - 8)) = ((283 * 2 ^ (j - 8) : Nat) : Int) := by simp
  rw [e, wrap_small _ h1, i64_xor_nat _ _ hp h1]
theorem rd_succ (X j : Nat) (h1 : 8 ≤ j) (h2 : j ≤ 14) : rd X (14 - (j - 1)) = if rd X (14 - j) / 2 ^ j % 2 = 1 then rd X (14 - j) ^^^ (283 * 2 ^ (j - 8)) else rd X (14 - j) := by
  rw [show 14 - (j - 1) = (14 - j) + 1 by omega, rd, show 14 - (14 - j) = j by omega, show 6 - (14 - j) = j - 8 by omega]

set_option maxHeartbeats 400000 in
theorem refTimes_any (a b : Nat) (w : World) (ha : a < 256) (hb : b < 256) : Calls Try.prog 34 #[.int .u8 a, .int .u8 b] w fun e w' => e = .returned (.int .u8 (times a b : Nat)) ∧ w = w' := by
  have HR := Lib.hid (rt_eq a b ha hb)
  generalize times a b = R at *
  go_enter Try.func34, Try.ntmps34
  go_wp2
  go_loop [5, 6] (fun x i => ∃ k : Nat, k ≤ 8 ∧ i = .int .i64 k ∧ x = .int .i64 (raw a b k : Nat)) (fun _ i => 8 - (intOf i).toNat)
  case atStart => exact ⟨0, by omega, rfl, rfl⟩
  case round =>
    obtain ⟨k, hk, rfl, rfl⟩ := hrel
    by_cases hlt : k < 8
    · have l2 := raw_lt a b k ha hk
      have hbt := bit_test b k hb
      generalize hp : raw a b k = p at *
      have Hp := Lib.hid hp
      clear hp
      by_cases h1 : b / 2 ^ k % 2 = 1
      · have ht : (bits BinOp.and IntKind.u8 ((b : Int) / 2 ^ k) 1 == 1) = true := by rw [hbt, h1]; rfl
        have H1 := Lib.hid h1
        clear h1 hbt
        go_wp2
        go_round
        case rel => exact ⟨k + 1, by omega, by go_num, by rw [raw_step a p k ha hlt l2, raw, if_pos H1.out, Hp.out]⟩
        case measure => simp [intOf]; omega
      · have ht : (bits BinOp.and IntKind.u8 ((b : Int) / 2 ^ k) 1 == 1) = false := by rw [hbt]; simp only [beq_eq_false_iff_ne, ne_eq]; omega
        have H1 := Lib.hid h1
        clear h1 hbt
        go_wp2
        go_round
        case rel => exact ⟨k + 1, by omega, by go_num, by rw [raw, if_neg H1.out, Hp.out]⟩
        case measure => simp [intOf]; omega
    · have l2 := raw_lt a b k ha hk
      have HR2 : Hid (rd (raw a b k) 7 % 256 = R) := by rw [show k = 8 by omega]; exact HR.out
      clear HR
      generalize raw a b k = X at *
      go_wp2
      go_loop [5, 7] (fun x i => ∃ j : Nat, 7 ≤ j ∧ j ≤ 14 ∧ i = .int .i64 (j : Nat) ∧ x = .int .i64 (rd X (14 - j) : Nat)) (fun _ i => (intOf i).toNat)
      case atStart => exact ⟨14, by omega, by omega, rfl, rfl⟩
      case round =>
        obtain ⟨j, hj1, hj2, rfl, rfl⟩ := hrel
        by_cases hge : 8 ≤ j
        · have l3 := rd_lt X (14 - j) l2 (by omega)
          have hs := Lib.hid (rd_succ X j hge hj2)
          have hbt := i64_bit (rd X (14 - j)) j l3
          generalize hp : rd X (14 - j) = p at *
          have Hp := Lib.hid hp
          clear hp
          by_cases h1 : p / 2 ^ j % 2 = 1
          · have ht : (bits BinOp.and IntKind.i64 ((p : Int) / 2 ^ j) 1 == 1) = true := by rw [hbt, h1]; rfl
            have H1 := Lib.hid h1
            clear h1 hbt
            go_wp2
            go_round
            case rel => exact ⟨j - 1, by omega, by omega, by congr 1; omega, by rw [rd_step p j hge hj2 l3, hs.out, if_pos H1.out]⟩
            case measure => simp [intOf]; omega
          · have ht : (bits BinOp.and IntKind.i64 ((p : Int) / 2 ^ j) 1 == 1) = false := by rw [hbt]; simp only [beq_eq_false_iff_ne, ne_eq]; omega
            have H1 := Lib.hid h1
            clear h1 hbt
            go_wp2
            go_round
            case rel => exact ⟨j - 1, by omega, by omega, by congr 1; omega, by rw [hs.out, if_neg H1.out]⟩
            case measure => simp [intOf]; omega
        · have HR3 : Hid (rd X (14 - j) % 256 = R) := by rw [show 14 - j = 7 by omega]; exact HR2.out
          clear HR2
          generalize rd X (14 - j) = Z at *
          have wz : ((Z : Int) % 256) = (R : Int) := by rw [← HR3.out]; omega
          go_wp2
          go_ret
          exact ⟨ret_int (by first | exact wz | rfl | omega), rfl⟩
end Go.Proofs.Ytfbgpfiodgibbaa.A
namespace Go.Proofs.Ytfbgpfiodgibbaa.A
open Go.RowKit
set_option linter.unusedVariables false

/-- The inverse, if it is below k. -/
def ivTo (x k : Nat) : Nat := if x ≠ 0 ∧ pw x 7 < k then pw x 7 else 0
theorem ivTo_hit (x k : Nat) (hx : x < 256) (hk : k < 256) (h : times x k = 1) : ivTo x (k + 1) = k := by
  have h0 : x ≠ 0 := fun e => by rw [e, times_zero] at h; cases h
  have e := (times_one_iff x k hx hk h0).1 h
  unfold ivTo
  rw [if_pos ⟨h0, by omega⟩]; exact e.symm
theorem ivTo_miss (x k : Nat) (hx : x < 256) (hk : k < 256) (h : ¬ times x k = 1) : ivTo x (k + 1) = ivTo x k := by
  unfold ivTo
  by_cases h0 : x = 0
  · rw [if_neg (by omega), if_neg (by omega)]
  · have e : k ≠ pw x 7 := fun e => h ((times_one_iff x k hx hk h0).2 e)
    by_cases h1 : pw x 7 < k
    · rw [if_pos ⟨h0, by omega⟩, if_pos ⟨h0, h1⟩]
    · rw [if_neg (by omega), if_neg (by omega)]
theorem pw0 : pw 0 7 = 0 := by decide +kernel
theorem ivTo_end (x : Nat) : ivTo x 256 = pw x 7 := by
  unfold ivTo
  by_cases h0 : x = 0
  · rw [if_neg (by omega), h0, pw0]
  · rw [if_pos ⟨h0, pw_lt x 7⟩]
theorem times_x0 (x : Nat) : times x 0 = 0 := (times_lin x).zero
theorem ivTo_one (x : Nat) (hx : x < 256) : ivTo x 1 = 0 := by
  rw [ivTo_miss x 0 hx (by omega) (by rw [times_x0]; omega)]
  unfold ivTo; rw [if_neg (by omega)]
attribute [irreducible] ivTo
def btv (b k : Nat) : Nat := b / 2 ^ k ^^^ b / 2 ^ ((k + 4) % 8) ^^^ b / 2 ^ ((k + 5) % 8) ^^^ b / 2 ^ ((k + 6) % 8) ^^^ b / 2 ^ ((k + 7) % 8) ^^^ 99 / 2 ^ k
def sbTo (b : Nat) : Nat → Nat
  | 0 => 0
  | k + 1 => sbTo b k + btv b k % 2 * 2 ^ k
theorem sbTo_sub : ((List.range 256).all fun x => sbTo (pw x 7) 8 == sub x) = true := by decide +kernel
theorem sbTo_lt (b k : Nat) : sbTo b k < 2 ^ k := by
  induction k with
  | zero => simp [sbTo]
  | succ k ih =>
    rw [sbTo, Nat.pow_succ]
    have : btv b k % 2 * 2 ^ k ≤ 1 * 2 ^ k := Nat.mul_le_mul (by omega) (Nat.le_refl _)
    omega

theorem div_lt (b e : Nat) (hb : b < 256) : b / 2 ^ e < 256 := Nat.lt_of_le_of_lt (Nat.div_le_self _ _) hb
theorem xor_lt8 {a b : Nat} (ha : a < 256) (hb : b < 256) : a ^^^ b < 256 := Nat.xor_lt_two_pow (n := 8) ha hb
theorem xor8 (a b : Nat) (ha : a < 256) (hb : b < 256) : bits .xor .i64 (a : Int) (b : Int) = ((a ^^^ b : Nat) : Int) := i64_xor_nat a b (by omega) (by omega)
theorem sb_step (b k : Nat) (hb : b < 256) (hk : k < 8) :
    wrap64 (((sbTo b k : Nat) : Int) + wrap64 (bits .and .i64 (bits .xor .i64 (bits .xor .i64 (bits .xor .i64 (bits .xor .i64 (bits .xor .i64 ((b : Int) / 2 ^ k) ((b : Int) / 2 ^ ((k + 4) % 8))) ((b : Int) / 2 ^ ((k + 5) % 8))) ((b : Int) / 2 ^ ((k + 6) % 8))) ((b : Int) / 2 ^ ((k + 7) % 8))) (99 / 2 ^ k)) 1 * 2 ^ k)) = ((sbTo b (k + 1) : Nat) : Int) := by
  have e : ∀ j, ((b : Int) / 2 ^ j) = ((b / 2 ^ j : Nat) : Int) := fun j => by simp
  have e9 : ((99 : Int) / 2 ^ k) = ((99 / 2 ^ k : Nat) : Int) := by simp
  have l0 := div_lt b k hb
  have l4 := div_lt b ((k + 4) % 8) hb
  have l5 := div_lt b ((k + 5) % 8) hb
  have l6 := div_lt b ((k + 6) % 8) hb
  have l7 := div_lt b ((k + 7) % 8) hb
  have l9 := div_lt 99 k (by omega)
  have m4 := xor_lt8 l0 l4
  have m5 := xor_lt8 m4 l5
  have m6 := xor_lt8 m5 l6
  have m7 := xor_lt8 m6 l7
  have m9 := xor_lt8 m7 l9
  rw [e, e, e, e, e, e9, xor8 _ _ l0 l4, xor8 _ _ m4 l5, xor8 _ _ m5 l6, xor8 _ _ m6 l7, xor8 _ _ m7 l9]
  change wrap64 (((sbTo b k : Nat) : Int) + wrap64 (bits .and .i64 ((btv b k : Nat) : Int) 1 * 2 ^ k)) = _
  have m9' : btv b k < 256 := m9
  rw [i64_and_one _ (by omega)]
  have e2 : (((btv b k % 2 : Nat) : Int) * 2 ^ k) = ((btv b k % 2 * 2 ^ k : Nat) : Int) := by simp
  have hp : 2 ^ k ≤ 2 ^ 7 := Nat.pow_le_pow_right (by omega) (by omega)
  have h1 : btv b k % 2 * 2 ^ k ≤ 1 * 2 ^ k := Nat.mul_le_mul (by omega) (Nat.le_refl _)
  have h2 := sbTo_lt b k
  rw [e2, wrap_small _ (by omega), show (((sbTo b k : Nat) : Int) + ((btv b k % 2 * 2 ^ k : Nat) : Int)) = ((sbTo b k + btv b k % 2 * 2 ^ k : Nat) : Int) by simp, wrap_small _ (by omega), sbTo]
attribute [irreducible] sbTo

set_option maxRecDepth 20000 in
set_option maxHeartbeats 1000000 in
theorem refSub_any (x : Nat) (w : World) (hx : x < 256) : Calls Try.prog 33 #[.int .u8 x] w fun e w' => e = .returned (.int .u8 (sub x : Nat)) ∧ ∃ n, w' = w.drewN n := by
  have HS := Lib.hid (beq_iff_eq.1 (List.all_eq_true.1 sbTo_sub x (List.mem_range.2 hx)))
  generalize sub x = R at *
  go_enter Try.func33, Try.ntmps33
  go_wp2
  go_loop [3, 4] (fun b i => ∃ k : Nat, 1 ≤ k ∧ k ≤ 256 ∧ i = .int .i64 k ∧ b = .int .i64 (ivTo x k : Nat)) (fun _ i => 256 - (intOf i).toNat)
  case atStart => exact ⟨1, by omega, by omega, rfl, by rw [ivTo_one x hx]; rfl⟩
  case round =>
    obtain ⟨k, hk1, hk, rfl, rfl⟩ := hrel
    by_cases hlt : k < 256
    · have TK := Lib.hid (fun W => refTimes_any x k W hx hlt)
      have wk : IntKind.u8.wrap (k : Int) = (k : Int) := IntWalk.u8_in _ (by omega)
      by_cases h1 : times x k = 1
      · have o2 := Lib.hid (ivTo_hit x k hx hlt h1)
        have H1 := Lib.hid h1
        clear h1
        go_wp2_with (first | (go_at_call 34; refine (TK.out _).mono ?_; rintro e W3 ⟨rfl, rfl⟩; rw [H1.out]))
        go_round
        case rel => exact ⟨k + 1, by omega, by omega, by go_num, by rw [o2.out]⟩
        case measure => simp [intOf]; omega
      · have o1 := Lib.hid (ivTo_miss x k hx hlt h1)
        have hne : (((times x k : Nat) : Int) == 1) = false := by simp only [beq_eq_false_iff_ne, ne_eq]; omega
        clear h1
        generalize times x k = z at *
        go_wp2_with (first | (go_at_call 34; refine (TK.out _).mono ?_; rintro e W3 ⟨rfl, rfl⟩))
        go_round
        case rel => exact ⟨k + 1, by omega, by omega, by go_num, by rw [o1.out]⟩
        case measure => simp [intOf]; omega
    · have e4 : ivTo x k = pw x 7 := by rw [show k = 256 by omega]; exact ivTo_end x
      rw [e4]
      clear e4
      have lb := pw_lt x 7
      generalize pw x 7 = b at *
      go_wp2
      go_loopw [5, 6] (fun o i wr => ∃ k : Nat, k ≤ 8 ∧ i = .int .i64 k ∧ o = .int .i64 (sbTo b k : Nat) ∧ ∃ n, wr = w.drewN n) (fun _ i _ => 8 - (intOf i).toNat)
      case atStart => exact ⟨0, by omega, rfl, by unfold sbTo; rfl, 0, rfl⟩
      case round =>
        obtain ⟨k, hk, rfl, rfl, n, rfl⟩ := hrel
        by_cases hlt : k < 8
        · have w4 : IntKind.i64.wrap ((k : Int) + 4) = (k : Int) + 4 := IntWalk.i64_in _ (by omega)
          have w5 : IntKind.i64.wrap ((k : Int) + 5) = (k : Int) + 5 := IntWalk.i64_in _ (by omega)
          have w6 : IntKind.i64.wrap ((k : Int) + 6) = (k : Int) + 6 := IntWalk.i64_in _ (by omega)
          have w7 : IntKind.i64.wrap ((k : Int) + 7) = (k : Int) + 7 := IntWalk.i64_in _ (by omega)
          go_wp2
          go_quiet (fail)
          go_wp2
          go_roundw
          case rel => exact ⟨k + 1, by omega, by go_num, by rw [sb_step b k lb hlt], _, rfl⟩
          case measure => simp [intOf]; omega
        · have HR3 : Hid (sbTo b k = R) := by rw [show k = 8 by omega]; exact HS.out
          clear HS
          have lz : sbTo b k < 256 := by have := sbTo_lt b k; rw [show k = 8 by omega] at this ⊢; exact this
          generalize sbTo b k = Z at *
          have wz : ((Z : Int) % 256) = (R : Int) := by rw [← HR3.out]; omega
          go_wp2
          go_ret
          exact ⟨ret_int (by first | exact wz | rfl | omega), _, rfl⟩
end Go.Proofs.Ytfbgpfiodgibbaa.A
namespace Go.Proofs.Ytfbgpfiodgibbaa.A
open Go.RowKit
set_option linter.unusedVariables false

def boxTo (k : Nat) : List Nat := (List.range k).map sub
theorem boxTo_succ (k : Nat) : boxTo (k + 1) = boxTo k ++ [sub k] := by unfold boxTo; rw [List.range_succ, List.map_append]; rfl
theorem boxTo_length (k : Nat) : (boxTo k).length = k := by simp [boxTo]
theorem boxTo_getD (v : Nat) (h : v < 256) : (boxTo 256).getD v 0 = sub v := by simp [boxTo, List.getD_eq_getElem?_getD, h]
theorem boxTo_lt (k : Nat) : ∀ x ∈ boxTo k, x < 256 := by
  intro x hx
  unfold boxTo at hx
  obtain ⟨y, _, rfl⟩ := List.mem_map.1 hx
  exact sub_lt y
def BxRel (w : World) (s i : Value) (wr : World) : Prop :=
  ∃ k A c, k ≤ 256 ∧ i = .int .i64 (k : Nat) ∧ s = .slice A k c ∧ U.Own wr w.heap.size A k c (boxTo k) ∧ Below w.heap.size w wr
attribute [local irreducible] boxTo sub

set_option maxRecDepth 20000 in
set_option maxHeartbeats 1000000 in
theorem refBox_any (w : World) : Calls Try.prog 21 #[] w (U.GivesRow w (boxTo 256)) := by
  have E0 : Hid (boxTo 0 = []) := by unfold boxTo; exact rfl
  go_enter Try.func21, Try.ntmps21
  go_wp2
  go_loopw [1, 2] (BxRel w) (fun _ i _ => 256 - (intOf i).toNat)
  case atStart => exact ⟨0, _, 0, Nat.zero_le _, rfl, rfl, by rw [E0.out]; exact U.Own.empty (Nat.le_refl _), (Below.refl _ _).alloc (Nat.le_refl _) _⟩
  case round =>
    obtain ⟨k, A, c, hk, rfl, rfl, hO, hb⟩ := hrel
    have HO := Lib.hid hO
    have HB := Lib.hid hb
    clear hO hb
    by_cases hlt : k < 256
    · have wk : IntKind.u8.wrap (k : Int) = (k : Int) := IntWalk.u8_in _ (by omega)
      have ls := sub_lt k
      have SK := Lib.hid (fun W => refSub_any k W hlt)
      have ES := Lib.hid (boxTo_succ k)
      generalize sub k = u at *
      go_wp2_with (first
        | (go_at_call 33; refine (SK.out _).mono ?_; rintro e X1 ⟨rfl, q, rfl⟩)
        | (at_builtin; refine U.wpList_append_row _ rfl _ _ rfl w.heap.size A k c _ rfl ((HO.out.drewN q).alloc _) (wr.heap.size + 1) (some ⟨wr.heap.size, 0, none⟩) 1 1 [u] rfl (U.Row.one (wr.drewN q) u _ rfl ls) (by omega) (by have := HB.out.size; simp; omega) ?_; intro A3 c3 w3 hO3 hg3 hbl3))
      have HO3 := Lib.hid hO3
      have HB3 := Lib.hid (U.below_append (below_drewN (k := q) HB.out) (HO.out.drewN q) hg3)
      clear hO3 hg3 hbl3
      go_roundw
      case rel => exact ⟨k + 1, A3, c3, hlt, by go_num, rfl, by rw [ES.out]; exact HO3.out, HB3.out⟩
      case measure => simp [intOf]; omega
    · have e : k = 256 := by omega
      have HO2 : Hid (U.Own wr w.heap.size A k c (boxTo 256)) := by rw [show boxTo 256 = boxTo k by rw [e]]; exact HO.out
      have LL : Hid ((boxTo 256).length = k) := by rw [boxTo_length, e]; exact rfl
      clear e HO
      go_wp2
      go_ret
      refine ⟨A, c, ?_, ?_, HB.out⟩
      · rw [LL.out]; rfl
      · rw [LL.out]; exact HO2.out
end Go.Proofs.Ytfbgpfiodgibbaa.A
namespace Go.Proofs.Ytfbgpfiodgibbaa.A
open Go.RowKit
set_option linter.unusedVariables false

/-- A row of k words, word j being ws j, in memory of the call's own. -/
structure WIn (V : World) (base : Nat) (A : Option Addr) (k c : Nat) (ws : Nat → List Nat) (vs : List Value) : Prop where
  top : V.ownsRow base 27 1 (.slice A k c) k vs
  rows : ∀ j, j < k → ∃ g, vs[j]? = some (.slice (some ⟨g, 0, none⟩) 4 4) ∧ base ≤ g ∧ Blk V g 5 (ws j)
section
variable {V V2 : World} {base k c : Nat} {A : Option Addr} {ws : Nat → List Nat} {vs : List Value}
theorem WIn.kept (h : WIn V base A k c ws vs) {row : Option Nat} (hg : V.grownBy V2 row) (hne : ∀ g, row = some g → (Value.slice A k c).ownBlock ≠ some g ∧ ∀ j, j < k → ∀ g', vs[j]? = some (.slice (some ⟨g', 0, none⟩) 4 4) → g' ≠ g) : WIn V2 base A k c ws vs := by
  refine ⟨h.top.kept hg ?_, fun j hj => ?_⟩
  · cases row with
    | none => cases (Value.slice A k c).ownBlock <;> simp
    | some g => exact .inr (hne g rfl).1
  · obtain ⟨g, e, hb, hB⟩ := h.rows j hj
    refine ⟨g, e, hb, (hg.block g hB.lt ?_).trans hB⟩
    intro e2
    cases row with
    | none => cases e2
    | some g2 =>
      injection e2 with e2
      exact (hne g2 rfl).2 j hj g e e2
theorem WIn.alloc (h : WIn V base A k c ws vs) (o : Obj) : WIn (V.alloc o) base A k c ws vs := h.kept (World.grownBy_alloc V o none) (fun g hg => by cases hg)
theorem WIn.drewN (h : WIn V base A k c ws vs) (n : Nat) : WIn (V.drewN n) base A k c ws vs := ⟨h.top, h.rows⟩
theorem WIn.below (h : WIn V base A k c ws vs) (hb : Below V.heap.size V V2) : WIn V2 base A k c ws vs := h.kept (row := none) ⟨hb.os, hb.tape, hb.output, hb.size, fun i hi _ => hb.block i hi⟩ (fun g hg => by cases hg)
theorem WIn.head (h : WIn V base A k c ws vs) (hk : 0 < k) : ∃ g, A = some ⟨g, 0, none⟩ := by
  rcases h.top.2 with ⟨_, h0⟩ | ⟨g, cap, cur, hv, _⟩
  · omega
  · injection hv with e; exact ⟨g, e⟩
/-- Word j, in block g. -/
theorem WIn.word {gt : Nat} (h : WIn V base (some ⟨gt, 0, none⟩) k c ws vs) (j : Nat) (hj : j < k) : ∃ g, V.cell? ⟨gt, j, none⟩ = some (.slice (some ⟨g, 0, none⟩) 4 4) ∧ base ≤ g ∧ Blk V g 5 (ws j) := by
  obtain ⟨g, e, hb, hB⟩ := h.rows j hj
  exact ⟨g, (h.top.cellAt j (by omega)).trans e, hb, hB⟩
theorem WIn.len (h : WIn V base A k c ws vs) : vs.length = k := by have := h.top.1; omega
end
theorem info29 : (Try.prog.info? 27).map (fun i => (i.zero, i.size, i.bytes)) = some (some (.slice none 0 0), 1, 24) := by kernel_rfl
theorem step_append_word {ops : Array Oper} {o : Oper} {a : Act} {K : Act → World → Prop} {Q : Exit → Act → World → Prop} {E : Prop} (w : World) (hgd : o.guard = none) (s x : Operand)
    (ho : o.op = .call { callee := .builtin .append, args := #[s, x], argTypes := #[26, 26] })
    (base gt k c : Nat) (ws : Nat → List Nat) (vs : List Value) (hs : a.eval s = .slice (some ⟨gt, 0, none⟩) k c) (hown : WIn w base (some ⟨gt, 0, none⟩) k c ws vs)
    (gs g : Nat) (hx : a.eval x = .slice (some ⟨gs, 0, none⟩) 1 1) (hr : w.cell? ⟨gs, 0, none⟩ = some (.slice (some ⟨g, 0, none⟩) 4 4)) (hB : Blk w g 5 (ws k)) (hbg : base ≤ g)
    (hlen : k ≤ 1000) (hbase : base ≤ w.heap.size)
    (h : ∀ gt' c' w' vs', WIn w' base (some ⟨gt', 0, none⟩) (k + 1) c' ws vs' → w.grownBy w' (some gt) → (∀ g' t xs', t ≠ 27 → Blk w g' t xs' → Blk w' g' t xs') → (∀ j, j < k → w'.cell? ⟨gt, j, none⟩ = w.cell? ⟨gt, j, none⟩) → K (a.put o.dst (.slice (some ⟨gt', 0, none⟩) (k + 1) c')) w') :
    if Region.wanted o (yielded ops a.tmps) = true then Oper.wp Try.prog o a w K Q else E := by
  have hw : Region.wanted o (yielded ops a.tmps) = true := by simp [Region.wanted, hgd]
  rw [if_pos hw]
  obtain ⟨i0, hi, hz0, hz1, hz2⟩ := info_parts info29
  have hnews : ∀ j u, [Value.slice (some ⟨g, 0, none⟩) 4 4][j]? = some u → w.cell? ((⟨gs, 0, none⟩ : Addr).add j) = some u := by
    intro j u hu
    match j, hu with
    | 0, hu => injection hu with hu; subst hu; rw [Addr.add_lit]; exact hr
    | n + 1, hu => cases hu
  have h1 : ∀ u ∈ [Value.slice (some ⟨g, 0, none⟩) 4 4], u.oneCell' = true := by
    intro u hu
    simp only [List.mem_singleton] at hu
    subst hu
    rfl
  obtain ⟨v', w', hrun, ho', hg, _, hbl⟩ := run_append_own_at (P := Try.prog) w base 26 o.type 27 i0 (.slice none 0 0) 1 24 Try.underlying26 hi hz0 hz1 hz2 rfl (by decide) (.slice (some ⟨gt, 0, none⟩) k c) k vs hown.top ⟨gs, 0, none⟩ 1 1 [.slice (some ⟨g, 0, none⟩) 4 4] rfl hnews h1 (by unfold maxLen; omega) (by omega) hbase
  have htop := hown.top.2
  have hold : ∀ j, j < k → w'.cell? ⟨gt, j, none⟩ = w.cell? ⟨gt, j, none⟩ := by
    intro j hj
    have hjc := hown.top.cellAt j (by omega)
    rcases htop with ⟨hv, _⟩ | ⟨g2, cap, cur, hv, _, hg2, hnc, hcm, hcs, _⟩
    · cases hv
    · injection hv with e1 e2 e3
      injection e1 with e1
      injection e1 with e1
      subst e1
      subst e3
      by_cases hroom : k + 1 ≤ c
      · have hcell : ∀ q, q < c → (w.cell? ⟨gt, q, none⟩).isSome = true := fun q hq => by
          rw [cell_of_row w gt q cur 27 (0, 0) hg2]; simp [hcs]; omega
        have hfz := hown.top.frozenAt
        have hr2 := run_append_room_cells (P := Try.prog) w 26 o.type 27 i0 Try.underlying26 hi gt 0 k c ⟨gs, 0, none⟩ 1 1 [.slice (some ⟨g, 0, none⟩) 4 4] (by rw [hz1]; rfl) hnews h1 hroom
          (fun q hq => by simp only [List.length_singleton] at hq; rw [hz1]; exact hcell _ (by omega)) (fun q hq => hfz _)
        rw [hrun] at hr2
        injection hr2 with _ e5
        rw [e5]
        exact World.cell?_setCells_out gt _ _ w ⟨gt, j, none⟩ (fun _ _ => .inl (show j < 0 + k * i0.size by rw [hz1]; omega))
      · obtain ⟨v2, w2, hr2, _, hg3⟩ := run_append_arg_grows (P := Try.prog) w 26 o.type 27 i0 (.slice none 0 0) 1 24 Try.underlying26 hi hz0 hz1 hz2 rfl (by decide) ⟨gt, 0, none⟩ k c vs (by rw [hown.len]; omega) (fun q u hu => by
            rw [Addr.add_lit, Nat.zero_add, hown.top.cellAt q (by have := hown.len; obtain ⟨hq, _⟩ := List.getElem?_eq_some_iff.1 hu; omega)]; exact hu) ⟨gs, 0, none⟩ 1 1 [.slice (some ⟨g, 0, none⟩) 4 4] rfl hnews (by omega) (by unfold maxLen; omega) (by omega)
        rw [hrun] at hr2
        injection hr2 with _ e5
        rw [e5]
        exact World.cell?_of_block (hg3.block gt (by
          rcases Nat.lt_or_ge gt w.heap.size with hl | hl
          · exact hl
          · rw [Array.getElem?_eq_none hl] at hg2; cases hg2) (by simp))
  unfold Oper.wp execOp
  simp only [ho, resolve, invoke, builtin, Sem.run_bind, Sem.run_pure, Result.andThen_ok, List.map_toArray, List.map_cons, List.map_nil, hs, hx, hrun]
  have hv : ∃ gt' c', v' = .slice (some ⟨gt', 0, none⟩) (k + 1) c' := by
    rcases ho'.2 with ⟨_, h0⟩ | ⟨g', cap, cur, hv, _⟩
    · omega
    · exact ⟨g', cap, hv⟩
  obtain ⟨gt', c', rfl⟩ := hv
  have diff : ∀ g' t xs', t ≠ 27 → Blk w g' t xs' → gt ≠ g' := by
    intro g' t xs' ht hB' e
    subst e
    rcases htop with ⟨hv, _⟩ | ⟨g2, cap, cur, hv, _, hg2, _⟩
    · cases hv
    · injection hv with e1
      injection e1 with e1
      injection e1 with e1
      subst e1
      unfold Blk at hB'
      rw [hg2] at hB'
      simp at hB'
      exact ht hB'.2.symm
  have keep : ∀ g' t xs', t ≠ 27 → Blk w g' t xs' → Blk w' g' t xs' := fun g' t xs' ht hB' => (hg.block g' hB'.lt (fun e => diff g' t xs' ht hB' (by injection e with e; exact e.symm))).trans hB'
  refine h gt' c' w' (vs ++ [.slice (some ⟨g, 0, none⟩) 4 4]) ⟨ho', fun j hj => ?_⟩ hg keep hold
  by_cases hjk : j < k
  · obtain ⟨gj, e, hb, hBj⟩ := hown.rows j hjk
    exact ⟨gj, by rw [List.getElem?_append_left (by rw [hown.len]; exact hjk)]; exact e, hb, keep _ 5 _ (by decide) hBj⟩
  · have hj' : j = k := by omega
    subst hj'
    exact ⟨g, by rw [List.getElem?_append_right (by rw [hown.len]; omega), hown.len]; simp, hbg, keep _ 5 _ (by decide) hB⟩
theorem word_new (V : World) (x0 x1 x2 x3 : Nat) (o : Obj) : Blk ((V.alloc (.cells #[.int .u8 (x0 : Int), .int .u8 (x1 : Int), .int .u8 (x2 : Int), .int .u8 (x3 : Int)] 5)).alloc o) V.heap.size 5 [x0, x1, x2, x3] := (Blk.new V 5 [x0, x1, x2, x3]).alloc o
theorem cell_new (V : World) (o : Obj) (v : Value) (t : TypeId) : ((V.alloc o).alloc (.cells #[v] t)).cell? ⟨V.heap.size + 1, 0, none⟩ = some v := by
  have h := heap_alloc_new (V.alloc o) (.cells #[v] t)
  rw [show (V.alloc o).heap.size = V.heap.size + 1 by simp] at h
  rw [cell_of_row _ _ 0 _ _ _ h]; rfl
end Go.Proofs.Ytfbgpfiodgibbaa.A
namespace Go.Proofs.Ytfbgpfiodgibbaa.A
open Go.RowKit
set_option linter.unusedVariables false

/-- Word j of a key's rounds. -/
def wd (key : List Nat) (j : Nat) : List Nat := word (exTo fresh key 40).1 j
/-- The power of x ahead of word k + 4. -/
def xp (key : List Nat) (k : Nat) : Nat := (exTo fresh key k).2
theorem four_of (xs : List Nat) (h : xs.length = 4) : xs = [xs.getD 0 0, xs.getD 1 0, xs.getD 2 0, xs.getD 3 0] := by
  match xs, h with
  | [a, b, c, d], _ => rfl
theorem four_ext (xs : List Nat) (h : xs.length = 4) (a b c d : Nat) (h0 : xs.getD 0 0 = a) (h1 : xs.getD 1 0 = b) (h2 : xs.getD 2 0 = c) (h3 : xs.getD 3 0 = d) : xs = [a, b, c, d] := by
  rw [four_of xs h, h0, h1, h2, h3]
theorem fresh_table (v : Nat) (h : v < 256) : fresh.getD (176 + v) 0 = sub v := by
  unfold fresh
  rw [List.getD_eq_getElem?_getD, List.getElem?_append_right (by rw [noughts_length]; omega), noughts_length, Nat.add_sub_cancel_left, ← List.getD_eq_getElem?_getD]
  exact tb_getD v h
theorem turned_four (ys : List Nat) (p : Nat) (hy : ys.length = 4) (by_ : ∀ x ∈ ys, x < 256) : turned fresh ys p = [sub (ys.getD 1 0) ^^^ p, sub (ys.getD 2 0), sub (ys.getD 3 0), sub (ys.getD 0 0)] := by
  have t := fun v hv => fresh_table v hv
  have l := getD_lt ys by_
  unfold turned
  simp only [tnTo, zeros4, List.set_cons_zero, List.set_cons_succ, Nat.zero_add, Nat.reduceAdd, Nat.reduceMod, List.getD_cons_zero]
  rw [t _ (l 1), t _ (l 2), t _ (l 3), t _ (l 0)]
section
variable (key : List Nat) (hk : key.length = 16) (bk : ∀ x ∈ key, x < 256)
include hk bk
theorem wd_len (j : Nat) (hj : j < 44) : (wd key j).length = 4 := word_length _ _ (by rw [ex_len key hk bk 40 (by omega)]; omega)
theorem wd_lt (j : Nat) : ∀ x ∈ wd key j, x < 256 := word_lt _ _ (exTo_ok _ _ fresh_lt hk bk 40 (by omega)).2.1
theorem xp_lt (k : Nat) (h : k ≤ 40) : xp key k < 256 := (exTo_ok _ _ fresh_lt hk bk k h).2.2
theorem wd_key (j : Nat) (h : j < 4) : wd key j = [key.getD (4 * j) 0, key.getD (4 * j + 1) 0, key.getD (4 * j + 2) 0, key.getD (4 * j + 3) 0] := by
  have hw : wd key j = word key j := ex_key key hk bk j h
  have g : ∀ i, i < 4 → (word key j).getD i 0 = key.getD (4 * j + i) 0 := fun i hi => by unfold word; exact col_getD key j i hi
  rw [hw]
  exact four_ext _ (word_length _ _ (by omega)) _ _ _ _ (g 0 (by omega)) (g 1 (by omega)) (g 2 (by omega)) (g 3 (by omega))
theorem wd_plain (k : Nat) (h : k < 40) (hz : ¬ k % 4 = 0) : wd key (k + 4) = [(wd key k).getD 0 0 ^^^ (wd key (k + 3)).getD 0 0, (wd key k).getD 1 0 ^^^ (wd key (k + 3)).getD 1 0, (wd key k).getD 2 0 ^^^ (wd key (k + 3)).getD 2 0, (wd key k).getD 3 0 ^^^ (wd key (k + 3)).getD 3 0] := by
  have e := ex_word key hk bk k h
  have el : lastW fresh (exTo fresh key 40).1 (exTo fresh key k).2 k = wd key (k + 3) := by unfold lastW; rw [if_neg (by omega)]; rfl
  rw [el] at e
  have hl := wd_len key hk bk k (by omega)
  have e' : wd key (k + 4) = addTo (wd key k) (wd key (k + 3)) 4 := e
  rw [e']
  exact four_ext _ (by rw [addTo_length]; exact hl) _ _ _ _ (add4_getD _ _ 0 hl (by omega)) (add4_getD _ _ 1 hl (by omega)) (add4_getD _ _ 2 hl (by omega)) (add4_getD _ _ 3 hl (by omega))
theorem wd_turned (k : Nat) (h : k < 40) (hz : k % 4 = 0) : wd key (k + 4) = [(wd key k).getD 0 0 ^^^ (sub ((wd key (k + 3)).getD 1 0) ^^^ xp key k), (wd key k).getD 1 0 ^^^ sub ((wd key (k + 3)).getD 2 0), (wd key k).getD 2 0 ^^^ sub ((wd key (k + 3)).getD 3 0), (wd key k).getD 3 0 ^^^ sub ((wd key (k + 3)).getD 0 0)] := by
  have e := ex_word key hk bk k h
  have el : lastW fresh (exTo fresh key 40).1 (exTo fresh key k).2 k = turned fresh (wd key (k + 3)) (xp key k) := by unfold lastW; rw [if_pos (by omega)]; rfl
  rw [el, turned_four _ _ (wd_len key hk bk (k + 3) (by omega)) (wd_lt key hk bk (k + 3))] at e
  have hl := wd_len key hk bk k (by omega)
  have e' : wd key (k + 4) = addTo (wd key k) _ 4 := e
  rw [e']
  exact four_ext _ (by rw [addTo_length]; exact hl) _ _ _ _ (add4_getD _ _ 0 hl (by omega)) (add4_getD _ _ 1 hl (by omega)) (add4_getD _ _ 2 hl (by omega)) (add4_getD _ _ 3 hl (by omega))
end
theorem xp_zero (key : List Nat) : xp key 0 = 1 := by unfold xp; rw [exTo_zero]
theorem xp_same (key : List Nat) (k : Nat) (hz : ¬ k % 4 = 0) : xp key (k + 1) = xp key k := by
  unfold xp
  rw [exTo_succ]
  show nextP _ _ = _
  unfold nextP
  rw [if_neg (by omega)]
theorem xp_next (key : List Nat) (k : Nat) (hz : k % 4 = 0) : xp key (k + 1) = dbl (xp key k) := by
  unfold xp
  rw [exTo_succ]
  show nextP _ _ = _
  unfold nextP
  rw [if_pos (by omega)]
theorem times_x2 (a : Nat) (ha : a < 256) : times a 2 = dbl a := by
  have := (times_two a 1 ha (by omega)).1
  simpa [dbls] using this
end Go.Proofs.Ytfbgpfiodgibbaa.A
