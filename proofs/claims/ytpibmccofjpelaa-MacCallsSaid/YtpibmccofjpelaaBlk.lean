/- Blocks of bytes that are known whole. No statement is proved here. -/
import Derived.Test.YtpibmccofjpelaaTaken
namespace Go.Proofs.Ytpibmccofjpelaa
open Go.RowKit
set_option linter.unusedVariables false

def arrV (xs : List Nat) : Array Value := (vals xs).toArray
theorem arrV_size (xs : List Nat) : (arrV xs).size = xs.length := by simp [arrV, vals]
theorem arrV_all (xs : List Nat) : (arrV xs).all (·.oneCell') = true := all_oneCell_toArray (vals_one xs)
theorem arrV_toList (xs : List Nat) : (arrV xs).toList = vals xs := by simp [arrV]

/-- Block g of the world is just the bytes xs. -/
def Blk (w : World) (g : Nat) (t : TypeId) (xs : List Nat) : Prop := w.heap[g]? = some (.cells (arrV xs) t (0, 0))

section
variable {w w' : World} {g : Nat} {t : TypeId} {xs : List Nat}
theorem Blk.lt (h : Blk w g t xs) : g < w.heap.size := by
  rcases Nat.lt_or_ge g w.heap.size with hlt | hge
  · exact hlt
  · unfold Blk at h; rw [Array.getElem?_eq_none hge] at h; cases h
theorem Blk.cell (h : Blk w g t xs) (i : Nat) (hi : i < xs.length) : w.cell? ⟨g, i, none⟩ = some (.int .u8 ((xs.getD i 0 : Nat) : Int)) := by
  rw [cell_of_row w g i (arrV xs) t (0, 0) h, ← vals_getElem? xs i hi]
  simp [arrV]
theorem Blk.frozen (h : Blk w g t xs) (i : Nat) : w.frozen? ⟨g, i, none⟩ = false := by
  unfold Blk at h
  simp [World.frozen?, h]
theorem Blk.new (w : World) (t : TypeId) (xs : List Nat) : Blk (w.alloc (.cells (arrV xs) t)) w.heap.size t xs := heap_alloc_new w _
theorem Blk.drew (h : Blk w g t xs) : Blk w.drew g t xs := h
theorem Blk.drewN (h : Blk w g t xs) (n : Nat) : Blk (w.drewN n) g t xs := h
theorem Blk.alloc (h : Blk w g t xs) (o : Obj) : Blk (w.alloc o) g t xs := (Below.heap_alloc w o g h.lt).trans h
theorem Blk.far (h : Blk w g t xs) {p : Addr} (hp : g ≠ p.block) (u : Value) : Blk (w.setCell p u) g t xs := (Below.heap_setCell w p u g hp).trans h
theorem Blk.below {B : Nat} (h : Blk w g t xs) (hb : Below B w w') (hg : g < B) : Blk w' g t xs := (hb.block g hg).trans h
theorem Blk.set_ (h : Blk w g t xs) (i d : Nat) : Blk (w.setCell ⟨g, i, none⟩ (.int .u8 (d : Int))) g t (xs.set i d) := by
  unfold Blk at h ⊢
  have e : arrV (xs.set i d) = (arrV xs).setIfInBounds i (.int .u8 (d : Int)) := by
    simp [arrV, vals, List.map_set]
  rw [e]
  simp [World.setCell, Array.getElem?_modify, h]
theorem Blk.range (h : Blk w g t xs) (o n : Nat) (ho : o + n ≤ xs.length) : w.rangeAt g o (vals ((xs.drop o).take n)) := by
  intro j v hv
  have hj : j < n := by
    rcases Nat.lt_or_ge j n with h1 | h1
    · exact h1
    · rw [List.getElem?_eq_none (by rw [vals_length]; simp; omega)] at hv; cases hv
  rw [vals_getElem? _ j (by simp; omega)] at hv
  rw [h.cell (o + j) (by omega), ← hv]
  simp [List.getD_eq_getElem?_getD, List.getElem?_take_of_lt hj, List.getElem?_drop]
theorem Blk.there (h : Blk w g t xs) (o n : Nat) (ho : o + n ≤ xs.length) : w.there g o n := fun j hj => by
  refine ⟨by rw [h.cell (o + j) (by omega)]; rfl, h.frozen _⟩
theorem Blk.load (h : Blk w g t xs) (ty : TypeId) (d : TypeDesc) (o n : Nat) (ho : o + n ≤ xs.length) (hu : Try.prog.underlying ty = some d) (hd : d.isRow = true) (hi : (Try.prog.info? ty).map (·.size) = some n) :
    (loadVar ty ⟨g, o, none⟩).run Try.prog w = .ok (.agg (arrV ((xs.drop o).take n))) w := by
  have := run_loadVar_mid (P := Try.prog) w g o ty (vals ((xs.drop o).take n)) d (h.range o n ho) hu hd (by rw [hi, vals_length]; simp; omega)
  exact this
theorem Blk.setCells (h : Blk w g t xs) (o : Nat) (ys : List Nat) (ho : o + ys.length ≤ xs.length) : Blk (w.setCells g o (vals ys)) g t (xs.take o ++ ys ++ xs.drop (o + ys.length)) := by
  induction ys generalizing w xs o with
  | nil => simp only [vals, List.map_nil, World.setCells, List.append_nil, List.length_nil, Nat.add_zero, List.take_append_drop]; exact h
  | cons y r ih =>
    have h1 := h.set_ o y
    have h2 := ih h1 (o + 1) (by simp at ho ⊢; omega)
    have e : (xs.set o y).take (o + 1) ++ r ++ (xs.set o y).drop (o + 1 + r.length) = xs.take o ++ (y :: r) ++ xs.drop (o + (y :: r).length) := by
      have hl : o < xs.length := by simp at ho; omega
      rw [List.drop_set_of_lt (by omega)]
      have e2 : (xs.set o y).take (o + 1) = xs.take o ++ [y] := by
        rw [List.take_succ_eq_append_getElem (by simpa using hl)]
        simp [List.take_set_of_le]
      rw [e2]
      simp only [List.append_assoc, List.length_cons, List.cons_append, List.nil_append]
      rw [show o + 1 + r.length = o + (r.length + 1) by omega]
    rw [e] at h2
    simpa [vals, World.setCells] using h2
end

theorem Blk.loadAll {w : World} {g n : Nat} {t : TypeId} {xs : List Nat} (h : Blk w g t xs) (ty : TypeId) (d : TypeDesc) (hl : xs.length = n) (hu : Try.prog.underlying ty = some d) (hd : d.isRow = true) (hi : (Try.prog.info? ty).map (·.size) = some n) :
    (loadVar ty ⟨g, 0, none⟩).run Try.prog w = .ok (.agg (arrV xs)) w := by
  have := h.load ty d 0 n (by omega) hu hd hi
  rwa [List.drop_zero, List.take_of_length_le (by omega)] at this
theorem Blk.storeAll {w : World} {g : Nat} {t : TypeId} {xs ys : List Nat} (h : Blk w g t xs) (hl : ys.length = xs.length) : Blk (w.setCells g 0 (vals ys)) g t ys := by
  have := h.setCells 0 ys (by omega)
  rwa [List.take_zero, List.nil_append, Nat.zero_add, List.drop_of_length_le (by omega), List.append_nil] at this
theorem whole_range {w : World} {g n : Nat} {t : TypeId} {xs : List Nat} (h : Blk w g t xs) (hl : xs.length = n) : w.rangeAt g 0 (vals xs) := by
  have := h.range 0 n (by omega)
  rwa [List.drop_zero, List.take_of_length_le (by omega)] at this

theorem below_setCells {w w' : World} {B g : Nat} (h : Below B w w') (hg : B ≤ g) (vs : List Value) (o : Nat) : Below B w (w'.setCells g o vs) := by
  induction vs generalizing w' o with
  | nil => exact h
  | cons v r ih => exact ih (h.setCell (p := ⟨g, o, none⟩) hg v) (o + 1)
theorem Blk.row {W : World} {g : Nat} {t : TypeId} {xs : List Nat} (h : Blk W g t xs) (bx : ∀ x ∈ xs, x < 256) (o n c : Nat) (hon : o + n ≤ xs.length) (hc : n ≤ c) (hm : c ≤ 1000) :
    Row W W.heap.size (some ⟨g, o, none⟩) n c ((xs.drop o).take n) := by
  refine ⟨by simp; omega, fun x hx => bx x (List.mem_of_mem_drop (List.mem_of_mem_take hx)), hc, by unfold maxLen; omega, (fun h => by cases h), fun a ha hn => ?_⟩
  injection ha with ha
  subst ha
  refine ⟨rfl, h.lt, fun j hj => ?_⟩
  rw [h.cell (o + j) (by omega)]
  simp [List.getD_eq_getElem?_getD, List.getElem?_take_of_lt hj, List.getElem?_drop]
end Go.Proofs.Ytpibmccofjpelaa
