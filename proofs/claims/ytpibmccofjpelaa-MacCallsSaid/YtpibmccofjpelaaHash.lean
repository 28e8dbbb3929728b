/- What a hash keeps, and how it goes on. No statement is proved here. -/
import Derived.Test.YtpibmccofjpelaaBlk
namespace Go.Proofs.Ytpibmccofjpelaa
open Go.RowKit
set_option linter.unusedVariables false

/-- What a hash keeps: four numbers, eight bytes, and how many were taken, modulo 256. -/
structure Hs where
  v : V
  left : List Nat
  cnt : Nat
structure Hs.ok (h : Hs) : Prop where
  v : h.v.ok
  len : h.left.length = 8
  bytes : ∀ x ∈ h.left, x < 256
  cnt : h.cnt < 256
def hvals (h : Hs) : List Value := .int .u64 (h.v.a : Int) :: .int .u64 (h.v.b : Int) :: .int .u64 (h.v.c : Int) :: .int .u64 (h.v.d : Int) :: (vals h.left ++ [.int .u8 (h.cnt : Int)])
def HBlk (W : World) (g : Nat) (h : Hs) : Prop := W.heap[g]? = some (.cells (hvals h).toArray 72 (0, 0))

section
variable {W W' : World} {g : Nat} {h : Hs}
theorem HBlk.lt (H : HBlk W g h) : g < W.heap.size := by
  rcases Nat.lt_or_ge g W.heap.size with hlt | hge
  · exact hlt
  · unfold HBlk at H; rw [Array.getElem?_eq_none hge] at H; cases H
theorem HBlk.cell (H : HBlk W g h) (i : Nat) : W.cell? ⟨g, i, none⟩ = (hvals h)[i]? := by
  rw [cell_of_row W g i _ _ _ H]; simp
theorem HBlk.c0 (H : HBlk W g h) : W.cell? ⟨g, 0, none⟩ = some (.int .u64 (h.v.a : Int)) := H.cell 0
theorem HBlk.c1 (H : HBlk W g h) : W.cell? ⟨g, 1, none⟩ = some (.int .u64 (h.v.b : Int)) := H.cell 1
theorem HBlk.c2 (H : HBlk W g h) : W.cell? ⟨g, 2, none⟩ = some (.int .u64 (h.v.c : Int)) := H.cell 2
theorem HBlk.c3 (H : HBlk W g h) : W.cell? ⟨g, 3, none⟩ = some (.int .u64 (h.v.d : Int)) := H.cell 3
theorem hvals_left (h : Hs) (j : Nat) (hl : h.left.length = 8) (hj : j < 8) : (hvals h)[4 + j]? = some (.int .u8 ((h.left.getD j 0 : Nat) : Int)) := by
  rw [show 4 + j = j + 4 by omega]
  simp only [hvals, List.getElem?_cons_succ]
  rw [List.getElem?_append_left (by rw [vals_length]; omega)]
  exact vals_getElem? h.left j (by omega)
theorem HBlk.cl (H : HBlk W g h) (hl : h.left.length = 8) (j : Nat) (hj : j < 8) : W.cell? ⟨g, 4 + j, none⟩ = some (.int .u8 ((h.left.getD j 0 : Nat) : Int)) := by rw [H.cell]; exact hvals_left h j hl hj
theorem HBlk.cc (H : HBlk W g h) (hl : h.left.length = 8) : W.cell? ⟨g, 12, none⟩ = some (.int .u8 (h.cnt : Int)) := by
  rw [H.cell]
  simp only [hvals, List.getElem?_cons_succ]
  rw [List.getElem?_append_right (by rw [vals_length]; omega), vals_length, hl]; rfl
theorem HBlk.frozen (H : HBlk W g h) (i : Nat) : W.frozen? ⟨g, i, none⟩ = false := by
  unfold HBlk at H
  simp [World.frozen?, H]
theorem HBlk.drewN (H : HBlk W g h) (n : Nat) : HBlk (W.drewN n) g h := H
theorem HBlk.below {B : Nat} (H : HBlk W g h) (hb : Below B W W') (hg : g < B) : HBlk W' g h := (hb.block g hg).trans H
theorem HBlk.alloc (H : HBlk W g h) (o : Obj) : HBlk (W.alloc o) g h := (Below.heap_alloc W o g H.lt).trans H
theorem HBlk.far (H : HBlk W g h) {p : Addr} (hp : g ≠ p.block) (u : Value) : HBlk (W.setCell p u) g h := (Below.heap_setCell W p u g hp).trans H
theorem HBlk.setAt (H : HBlk W g h) (i : Nat) (u : Value) (h' : Hs) (e : hvals h' = (hvals h).set i u) : HBlk (W.setCell ⟨g, i, none⟩ u) g h' := by
  unfold HBlk at H ⊢
  rw [e]
  simp [World.setCell, Array.getElem?_modify, H]
theorem HBlk.setLeft (H : HBlk W g h) (hl : h.left.length = 8) (j x : Nat) (hj : j < 8) : HBlk (W.setCell ⟨g, 4 + j, none⟩ (.int .u8 (x : Int))) g { h with left := h.left.set j x } := by
  refine H.setAt _ _ _ ?_
  rw [show 4 + j = j + 4 by omega]
  simp only [hvals, List.set_cons_succ]
  rw [List.set_append_left _ _ (by rw [vals_length]; omega)]
  simp [vals, List.map_set]
theorem HBlk.setCnt (H : HBlk W g h) (hl : h.left.length = 8) (x : Nat) : HBlk (W.setCell ⟨g, 12, none⟩ (.int .u8 (x : Int))) g { h with cnt := x } := by
  refine H.setAt _ _ _ ?_
  simp only [hvals, List.set_cons_succ]
  rw [List.set_append_right _ _ (by rw [vals_length]; omega), vals_length, hl]; rfl
theorem HBlk.setV (H : HBlk W g h) (v : V) : HBlk ((((W.setCell ⟨g, 0, none⟩ (.int .u64 (v.a : Int))).setCell ⟨g, 1, none⟩ (.int .u64 (v.b : Int))).setCell ⟨g, 2, none⟩ (.int .u64 (v.c : Int))).setCell ⟨g, 3, none⟩ (.int .u64 (v.d : Int))) g { h with v := v } :=
  (((H.setAt 0 _ { h with v := ⟨v.a, h.v.b, h.v.c, h.v.d⟩ } rfl).setAt 1 _ { h with v := ⟨v.a, v.b, h.v.c, h.v.d⟩ } rfl).setAt 2 _ { h with v := ⟨v.a, v.b, v.c, h.v.d⟩ } rfl).setAt 3 _ { h with v := v } rfl
theorem HBlk.row (H : HBlk W g h) (ok : h.ok) (n : Nat) (hn : n ≤ 8) : Row W W.heap.size (some ⟨g, 4, none⟩) n 8 (h.left.take n) := by
  refine ⟨by rw [List.length_take, ok.len]; omega, fun x hx => ok.bytes x (List.mem_of_mem_take hx), hn, by unfold maxLen; omega, (fun h => by cases h), fun a ha h0 => ?_⟩
  injection ha with ha
  subst ha
  refine ⟨rfl, H.lt, fun j hj => ?_⟩
  rw [H.cl ok.len j (by omega)]
  simp [List.getD_eq_getElem?_getD, List.getElem?_take_of_lt hj]
theorem HBlk.new (w : World) (h : Hs) : HBlk (w.alloc (.cells (hvals h).toArray 72)) w.heap.size h := heap_alloc_new w _
end

/-- One byte more is taken. -/
def hput (h : Hs) (x : Nat) : Hs :=
  let l := h.left.set (h.cnt % 8) x
  let c := (h.cnt + 1) % 256
  if c % 8 = 0 then ⟨takeM h.v (le l), l, c⟩ else ⟨h.v, l, c⟩
def hputs (h : Hs) (xs : List Nat) : Hs := xs.foldl hput h
theorem le8_lt (l : List Nat) (hl : l.length = 8) (hb : ∀ x ∈ l, x < 256) : le l < 18446744073709551616 := by
  have := le_lt l hb
  rw [hl] at this
  have e : (256 : Nat) ^ 8 = 18446744073709551616 := by decide
  omega
theorem set_bytes {l : List Nat} (hb : ∀ x ∈ l, x < 256) (j x : Nat) (hx : x < 256) : ∀ y ∈ l.set j x, y < 256 := by
  intro y hy
  rcases List.mem_or_eq_of_mem_set hy with hy | rfl
  · exact hb y hy
  · exact hx
theorem hput_ok {h : Hs} (ok : h.ok) (x : Nat) (hx : x < 256) : (hput h x).ok := by
  have hl : (h.left.set (h.cnt % 8) x).length = 8 := by rw [List.length_set]; exact ok.len
  have hb := set_bytes ok.bytes (h.cnt % 8) x hx
  unfold hput
  simp only
  split
  · exact ⟨takeM_ok _ _ ok.v (le8_lt _ hl hb), hl, hb, Nat.mod_lt _ (by omega)⟩
  · exact ⟨ok.v, hl, hb, Nat.mod_lt _ (by omega)⟩
theorem hputs_ok {h : Hs} (ok : h.ok) (xs : List Nat) (hx : ∀ x ∈ xs, x < 256) : (hputs h xs).ok := by
  induction xs generalizing h with
  | nil => exact ok
  | cons x r ih => exact ih (hput_ok ok x (hx x (by simp))) (fun y hy => hx y (by simp [hy]))
theorem hputs_append (h : Hs) (xs ys : List Nat) : hputs h (xs ++ ys) = hputs (hputs h xs) ys := by simp [hputs]
theorem hputs_take (h : Hs) (xs : List Nat) (k : Nat) (hk : k < xs.length) : hputs h (xs.take (k + 1)) = hput (hputs h (xs.take k)) (xs.getD k 0) := by
  rw [List.take_succ_eq_append_getElem hk, hputs_append]
  simp [hputs, List.getD_eq_getElem?_getD, hk]
/-- The number of what was taken. -/
def fin (v : V) : Nat :=
  let u := rndN ⟨v.a, v.b, v.c ^^^ 255, v.d⟩ 4
  u.a ^^^ u.b ^^^ u.c ^^^ u.d
def hsum (h : Hs) : Nat := fin (takeM h.v (le (h.left.take (h.cnt % 8)) ||| h.cnt * 2 ^ 56))
/-- A hash of a key that has taken nothing. -/
def hstart (key : List Nat) : Hs :=
  ⟨⟨le (key.take 8) ^^^ 8317987319222330741, le ((key.drop 8).take 8) ^^^ 7237128888997146477, le (key.take 8) ^^^ 7816392313619706465, le ((key.drop 8).take 8) ^^^ 8387220255154660723⟩, [0, 0, 0, 0, 0, 0, 0, 0], 0⟩
theorem hstart_ok (key : List Nat) (hk : key.length = 16) (bk : ∀ x ∈ key, x < 256) : (hstart key).ok := by
  have h0 : le (key.take 8) < 18446744073709551616 := le8_lt _ (by simp; omega) (fun x hx => bk x (List.mem_of_mem_take hx))
  have h1 : le ((key.drop 8).take 8) < 18446744073709551616 := le8_lt _ (by simp; omega) (fun x hx => bk x (List.mem_of_mem_drop (List.mem_of_mem_take hx)))
  exact ⟨⟨xor_lt64 h0 (by omega), xor_lt64 h1 (by omega), xor_lt64 h0 (by omega), xor_lt64 h1 (by omega)⟩, rfl, (by simp [hstart]), by simp [hstart]⟩
end Go.Proofs.Ytpibmccofjpelaa
