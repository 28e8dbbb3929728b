/- The small methods of memory: has, openRows, twin, Drops, Bytes, Use, drop. No statement is proved here. -/
import Derived.Test.YtbmdkmnkbchokaaMem
namespace Go.Proofs.Ytbmdkmnkbchokaa
open Go.RowKit
set_option linter.unusedVariables false
set_option linter.unusedSimpArgs false

/-- Bytes ys, laid over xs from a place on. -/
def over (xs : List Nat) (o : Nat) (ys : List Nat) : List Nat := xs.take o ++ ys ++ xs.drop (o + ys.length)
theorem over_len (xs ys : List Nat) (o : Nat) (h : o + ys.length ≤ xs.length) : (over xs o ys).length = xs.length := by unfold over; simp; omega
theorem over_nil (xs : List Nat) (o : Nat) : over xs o [] = xs := by unfold over; simp
theorem over_all (xs ys : List Nat) (h : ys.length = xs.length) : over xs 0 ys = ys := by
  unfold over; rw [Nat.zero_add, h]; simp
theorem over_lt (xs ys : List Nat) (o : Nat) (h1 : ∀ x ∈ xs, x < 256) (h2 : ∀ x ∈ ys, x < 256) : ∀ x ∈ over xs o ys, x < 256 := by
  intro x hx
  unfold over at hx
  rcases List.mem_append.1 hx with hx | hx
  · rcases List.mem_append.1 hx with hx | hx
    · exact h1 x (List.mem_of_mem_take hx)
    · exact h2 x hx
  · exact h1 x (List.mem_of_mem_drop hx)
theorem At.brow {W : World} {g : Nat} {t : TypeId} {xs : List Nat} (h : At W g t (arrV xs)) (bx : ∀ x ∈ xs, x < 256) (o n c : Nat) (hon : o + n ≤ xs.length) (hc : n ≤ c) (hm : c ≤ 2000000) :
    Row W W.heap.size (some ⟨g, o, none⟩) n c ((xs.drop o).take n) := by
  refine ⟨by simp; omega, fun x hx => bx x (List.mem_of_mem_drop (List.mem_of_mem_take hx)), hc, by unfold maxLen; omega, (fun h => by cases h), fun a ha hn => ?_⟩
  injection ha with ha
  subst ha
  refine ⟨rfl, h.lt, fun j hj => ?_⟩
  rw [Blk.cell h (o + j) (by omega)]
  simp [List.getD_eq_getElem?_getD, List.getElem?_take_of_lt hj, List.getElem?_drop]
theorem At.brow0 {W : World} {g : Nat} {t : TypeId} {xs : List Nat} (h : At W g t (arrV xs)) (bx : ∀ x ∈ xs, x < 256) (hm : xs.length ≤ 2000000) :
    Row W W.heap.size (some ⟨g, 0, none⟩) xs.length xs.length xs := by
  have := h.brow bx 0 xs.length xs.length (by omega) (Nat.le_refl _) hm
  rwa [List.drop_zero, List.take_length] at this
theorem set_self {α : Type} {L : List α} {i : Nat} {x : α} (h : L[i]? = some x) : L.set i x = L := by
  obtain ⟨hi, rfl⟩ := List.getElem?_eq_some_iff.1 h
  exact List.set_getElem_self hi
section
variable {ops : Array Oper} {rest : List Oper} {o : Oper} {a : Act} {w W : World} {Q : Exit → Act → World → Prop} {L : List (Nat × TypeId × Array Value)}
/-- Bytes are copied over bytes of a block of the call's own: as many as there are, and fit. -/
theorem wpList_copyB_st (h : St w W L) (i : Nat) {g : Nat} {t : TypeId} {xs : List Nat} (hi : L[i]? = some (g, t, arrV xs)) (d s : Operand) (hgd : o.guard = none)
    (ho : o.op = .call { callee := .builtin .copy, args := #[d, s], argTypes := #[27, 27] }) (off dn dc n c B : Nat) (D A : Option Addr) (ys : List Nat)
    (hd : a.eval d = .slice D dn dc) (hs : a.eval s = .slice A n c) (hr : Row W B A n c ys) (hD : 0 < Nat.min n dn → D = some ⟨g, off, none⟩) (hfit : off + Nat.min n dn ≤ xs.length)
    (k : ∀ W', St w W' (L.set i (g, t, arrV (over xs off (ys.take dn)))) → W.grownBy W' (some g) → wpList Try.prog ops Q rest (a.put o.dst (.int .i64 (Nat.min n dn : Nat))) W') : wpList Try.prog ops Q (o :: rest) a W := by
  have hl := hr.len
  have tl : (ys.take dn).length = Nat.min n dn := by rw [List.length_take, hl]; exact Nat.min_comm _ _
  by_cases h0 : Nat.min n dn = 0
  · have e : ys.take dn = [] := List.eq_nil_of_length_eq_zero (by omega)
    rw [e, over_nil, set_self hi] at k
    refine wpList_copy_nothing hgd d s 27 27 ho 5 Try.underlying27 (by kernel_rfl) D A dn dc n c hd hs h0 ?_
    rw [h0] at k
    exact k W h (World.grownBy.refl _ _)
  · have hp : 0 < Nat.min n dn := Nat.pos_of_ne_zero h0
    have hn : 0 < n := Nat.lt_of_lt_of_le hp (Nat.min_le_left _ _)
    obtain ⟨b, o2, rfl, hb, hc⟩ := hr.at_ hn
    obtain rfl := hD hp
    have hcl : (vals (ys.take dn)).length = Nat.min n dn := by rw [vals_length, tl]
    refine wpList_copy_own hgd d s 27 27 ho 5 Try.underlying27 (by kernel_rfl) g off dn dc ⟨b, o2, none⟩ n c hd hs (arrV xs) t (h.get i hi) (vals (ys.take dn)) hcl ?_ (by rw [arrV_size, hcl]; exact hfit) (vals_one _) ?_
    · intro j u hu
      have hj : j < (ys.take dn).length := by
        rcases Nat.lt_or_ge j (ys.take dn).length with h1 | h1
        · exact h1
        · rw [List.getElem?_eq_none (by rw [vals_length]; exact h1)] at hu; cases hu
      rw [vals_getElem? _ j hj] at hu
      injection hu with hu
      have hm := Nat.min_le_left n dn
      have hj2 : j < Nat.min n dn := by rw [← tl]; exact hj
      have hj3 : j < n := Nat.lt_of_lt_of_le hj2 hm
      have hj4 : j < dn := Nat.lt_of_lt_of_le hj2 (Nat.min_le_right n dn)
      rw [Addr.add_lit, ← hu, hc j hj3]
      congr 3
      rw [List.getD_eq_getElem?_getD, List.getD_eq_getElem?_getD, List.getElem?_take_of_lt hj4]
    · have e : ((arrV xs).toList.take off ++ (vals (ys.take dn) ++ (arrV xs).toList.drop (off + (vals (ys.take dn)).length))).toArray = arrV (over xs off (ys.take dn)) := by
        rw [vals_length]
        unfold arrV over
        congr 1
        simp [vals, List.map_take, List.map_drop]
      rw [e, hcl]
      exact k _ (h.put i hi (h.get i hi).putAll (grown_setRow W g _)) (grown_setRow W g _)
end
theorem twin_any (A : Option Addr) (n c : Nat) (xs : List Nat) (w W : World) (L : List (Nat × TypeId × Array Value)) (h : St w W L) (hr : Row W W.heap.size A n c xs) (hn : n ≤ 1048576) :
    Calls Try.prog 23 #[.slice A n c] W fun e W' => e = .returned (.slice (some ⟨W.heap.size, 0, none⟩) n n) ∧ St w W' (L ++ [(W.heap.size, 5, arrV xs)]) := by
  have hl := Lib.hid hr.len
  have Hr := Lib.hid hr
  clear hr
  go_enter Try.func23, Try.ntmps23
  go_wp2_with (first
    | (refine wpList_makeB_st h _ _ rfl rfl n rfl rfl (by omega) ?_; clear h; intro W1 h1 b1)
    | (have _ := h1; refine wpList_copyB_st h1 L.length (g := W.heap.size) (t := 5) (xs := List.replicate n 0) (by simp) (.tmp 7) (.tmp 8) rfl rfl 0 n n n c W.heap.size _ A xs rfl rfl (Hr.out.below b1) (fun _ => rfl) (by simp) ?_; clear h1; intro W2 h2 _))
  go_ret
  refine ⟨rfl, ?_⟩
  rw [List.take_of_length_le (by rw [hl.out]; exact Nat.le_refl _), over_all _ _ (by rw [hl.out]; simp)] at h2
  simpa using h2
end Go.Proofs.Ytbmdkmnkbchokaa
