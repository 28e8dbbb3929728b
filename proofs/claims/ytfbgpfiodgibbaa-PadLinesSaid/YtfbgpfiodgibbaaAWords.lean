/- Plain words for this seat's proofs: blocks of bytes that are known whole, arrays as values. No statement is proved here. -/
import Derived.Test.YtfbgpfiodgibbaaABytes
import Derived.Deep.MidRow
import Derived.Laws.OwnMore
import Derived.Deep.Draws
namespace Go.Proofs.Ytfbgpfiodgibbaa.A
open Go.RowKit
set_option linter.unusedVariables false

/-- Bytes as the values that cells hold. -/
def vals (xs : List Nat) : List Value := xs.map fun (x : Nat) => Value.int .u8 (x : Int)
def arrV (xs : List Nat) : Array Value := (vals xs).toArray
theorem vals_length (xs : List Nat) : (vals xs).length = xs.length := by simp [vals]
theorem arrV_size (xs : List Nat) : (arrV xs).size = xs.length := by simp [arrV, vals]
theorem vals_append (xs ys : List Nat) : vals (xs ++ ys) = vals xs ++ vals ys := by simp [vals]
theorem vals_getElem? (xs : List Nat) (j : Nat) (h : j < xs.length) : (vals xs)[j]? = some (.int .u8 ((xs.getD j 0 : Nat) : Int)) := by
  simp [vals, h]
theorem vals_one (xs : List Nat) : ∀ u ∈ vals xs, u.oneCell' = true := by
  intro u hu
  simp only [vals, List.mem_map] at hu
  obtain ⟨x, _, rfl⟩ := hu
  rfl
theorem arrV_all (xs : List Nat) : (arrV xs).all (·.oneCell') = true := all_oneCell_toArray (vals_one xs)
theorem arrV_toList (xs : List Nat) : (arrV xs).toList = vals xs := by simp [arrV]

/-- Block g of the world is just the bytes xs. -/
def Blk (w : World) (g : Nat) (t : TypeId) (xs : List Nat) : Prop := w.heap[g]? = some (.cells (arrV xs) t (0, 0))

section
variable {w w' : World} {g : Nat} {t : TypeId} {xs : List Nat}
theorem Blk.lt (h : Blk w g t xs) : g < w.heap.size := by
  rcases Nat.lt_or_ge g w.heap.size with hlt | hge
  · exact hlt
  · unfold Blk at h; rw [Array.getElem?_eq_none hge] at h; cases h
theorem Blk.cell (h : Blk w g t xs) (i : Nat) (hi : i < xs.length) : w.cell? ⟨g, i, none⟩ = some (.int .u8 ((xs.getD i 0 : Nat) : Int)) := by
  rw [cell_of_row w g i (arrV xs) t (0, 0) h, ← vals_getElem? xs i hi]
  simp [arrV]
theorem Blk.frozen (h : Blk w g t xs) (i : Nat) : w.frozen? ⟨g, i, none⟩ = false := by
  unfold Blk at h
  simp [World.frozen?, h]
theorem Blk.new (w : World) (t : TypeId) (xs : List Nat) : Blk (w.alloc (.cells (arrV xs) t)) w.heap.size t xs := heap_alloc_new w _
theorem Blk.drew (h : Blk w g t xs) : Blk w.drew g t xs := h
theorem Blk.drewN (h : Blk w g t xs) (n : Nat) : Blk (w.drewN n) g t xs := h
theorem Blk.alloc (h : Blk w g t xs) (o : Obj) : Blk (w.alloc o) g t xs := (Below.heap_alloc w o g h.lt).trans h
theorem Blk.far (h : Blk w g t xs) {p : Addr} (hp : g ≠ p.block) (u : Value) : Blk (w.setCell p u) g t xs := (Below.heap_setCell w p u g hp).trans h
theorem Blk.below {B : Nat} (h : Blk w g t xs) (hb : Below B w w') (hg : g < B) : Blk w' g t xs := (hb.block g hg).trans h
theorem Blk.set_ (h : Blk w g t xs) (i d : Nat) : Blk (w.setCell ⟨g, i, none⟩ (.int .u8 (d : Int))) g t (xs.set i d) := by
  unfold Blk at h ⊢
  have e : arrV (xs.set i d) = (arrV xs).setIfInBounds i (.int .u8 (d : Int)) := by
    simp [arrV, vals, List.map_set]
  rw [e]
  simp [World.setCell, Array.getElem?_modify, h]
theorem Blk.range (h : Blk w g t xs) (o n : Nat) (ho : o + n ≤ xs.length) : w.rangeAt g o (vals ((xs.drop o).take n)) := by
  intro j v hv
  have hj : j < n := by
    rcases Nat.lt_or_ge j n with h1 | h1
    · exact h1
    · rw [List.getElem?_eq_none (by rw [vals_length]; simp; omega)] at hv; cases hv
  rw [vals_getElem? _ j (by simp; omega)] at hv
  rw [h.cell (o + j) (by omega), ← hv]
  simp [List.getD_eq_getElem?_getD, List.getElem?_take_of_lt hj, List.getElem?_drop]
theorem Blk.there (h : Blk w g t xs) (o n : Nat) (ho : o + n ≤ xs.length) : w.there g o n := fun j hj => by
  refine ⟨by rw [h.cell (o + j) (by omega)]; rfl, h.frozen _⟩
theorem Blk.load (h : Blk w g t xs) (ty : TypeId) (d : TypeDesc) (o n : Nat) (ho : o + n ≤ xs.length) (hu : Try.prog.underlying ty = some d) (hd : d.isRow = true) (hi : (Try.prog.info? ty).map (·.size) = some n) :
    (loadVar ty ⟨g, o, none⟩).run Try.prog w = .ok (.agg (arrV ((xs.drop o).take n))) w := by
  have := run_loadVar_mid (P := Try.prog) w g o ty (vals ((xs.drop o).take n)) d (h.range o n ho) hu hd (by rw [hi, vals_length]; simp; omega)
  exact this
theorem Blk.setCells (h : Blk w g t xs) (o : Nat) (ys : List Nat) (ho : o + ys.length ≤ xs.length) : Blk (w.setCells g o (vals ys)) g t (xs.take o ++ ys ++ xs.drop (o + ys.length)) := by
  induction ys generalizing w xs o with
  | nil => simp only [vals, List.map_nil, World.setCells, List.append_nil, List.length_nil, Nat.add_zero, List.take_append_drop]; exact h
  | cons y r ih =>
    have h1 := h.set_ o y
    have h2 := ih h1 (o + 1) (by simp at ho ⊢; omega)
    have e : (xs.set o y).take (o + 1) ++ r ++ (xs.set o y).drop (o + 1 + r.length) = xs.take o ++ (y :: r) ++ xs.drop (o + (y :: r).length) := by
      have hl : o < xs.length := by simp at ho; omega
      rw [List.drop_set_of_lt (by omega)]
      have e2 : (xs.set o y).take (o + 1) = xs.take o ++ [y] := by
        rw [List.take_succ_eq_append_getElem (by simpa using hl)]
        simp [List.take_set_of_le]
      rw [e2]
      simp only [List.append_assoc, List.length_cons, List.cons_append, List.nil_append]
      rw [show o + 1 + r.length = o + (r.length + 1) by omega]
    rw [e] at h2
    simpa [vals, World.setCells] using h2
end

theorem Blk.loadAll {w : World} {g n : Nat} {t : TypeId} {xs : List Nat} (h : Blk w g t xs) (ty : TypeId) (d : TypeDesc) (hl : xs.length = n) (hu : Try.prog.underlying ty = some d) (hd : d.isRow = true) (hi : (Try.prog.info? ty).map (·.size) = some n) :
    (loadVar ty ⟨g, 0, none⟩).run Try.prog w = .ok (.agg (arrV xs)) w := by
  have := h.load ty d 0 n (by omega) hu hd hi
  rwa [List.drop_zero, List.take_of_length_le (by omega)] at this
theorem Blk.storeAll {w : World} {g : Nat} {t : TypeId} {xs ys : List Nat} (h : Blk w g t xs) (hl : ys.length = xs.length) : Blk (w.setCells g 0 (vals ys)) g t ys := by
  have := h.setCells 0 ys (by omega)
  rwa [List.take_zero, List.nil_append, Nat.zero_add, List.drop_of_length_le (by omega), List.append_nil] at this
theorem whole_range {w : World} {g n : Nat} {t : TypeId} {xs : List Nat} (h : Blk w g t xs) (hl : xs.length = n) : w.rangeAt g 0 (vals xs) := by
  have := h.range 0 n (by omega)
  rwa [List.drop_zero, List.take_of_length_le (by omega)] at this
theorem size59 : (Try.prog.info? 85).map (·.size) = some 4 := by kernel_rfl
theorem size27 : (Try.prog.info? 23).map (·.size) = some 16 := by kernel_rfl
theorem size5 : (Try.prog.info? 5).map (·.size) = some 1 := by kernel_rfl
theorem run_index_block (xs : List Nat) (k : Nat) (hk : k < 16) (hl : xs.length = 16) (w : World) : (Instr.index 23 (.agg (vals xs).toArray) (.int .i64 (k : Int))).run Try.prog w = .ok (.int .u8 ((xs.getD k 0 : Nat) : Int)) w := by
  have h1 : 0 ≤ (k : Int) ∧ (k : Int) < 16 := by omega
  have hv := vals_getElem? xs k (by omega)
  cases hq : Try.prog.info? 5 with
  | none => have := size5; simp [hq] at this
  | some i =>
    have hs : i.size = 1 := by have := size5; simpa [hq] using this
    simp [Instr.index, run_underlying Try.underlying23, asIntOf, h1, sizeOf, typeInfo, hq, hs, part, hv]
    intro h; omega
theorem run_index_words (xs : List Nat) (k : Nat) (hk : k < 44) (hl : xs.length = 176) (w : World) : (Instr.index 86 (.agg (vals xs).toArray) (.int .i64 (k : Int))).run Try.prog w = .ok (.agg (arrV ((xs.drop (4 * k)).take 4))) w := by
  have h1 : 0 ≤ (k : Int) ∧ (k : Int) < 44 := by omega
  cases hq : Try.prog.info? 85 with
  | none => have := size59; simp [hq] at this
  | some i =>
    have hs : i.size = 4 := by have := size59; simpa [hq] using this
    simp [Instr.index, run_underlying Try.underlying86, asIntOf, h1, sizeOf, typeInfo, hq, hs, part]
    simp [arrV, vals, List.map_take, List.map_drop, Nat.mul_comm]
    intro h; omega
theorem step_copy {ops : Array Oper} {o : Oper} {a : Act} {w : World} {K : Act → World → Prop} {Q : Exit → Act → World → Prop} {E : Prop} (hgd : o.guard = none) (d s : Operand)
    (ho : o.op = .call { callee := .builtin .copy, args := #[d, s], argTypes := #[27, 27] }) (g off dLen dCap g2 off2 sLen sCap : Nat)
    (hd : a.eval d = .slice (some ⟨g, off, none⟩) dLen dCap) (hs : a.eval s = .slice (some ⟨g2, off2, none⟩) sLen sCap)
    (ys : List Nat) (hn : ys.length = Nat.min sLen dLen) (hr : w.rangeAt g2 off2 (vals ys)) (ht : w.there g off ys.length)
    (h : K (a.put o.dst (goInt ys.length)) (w.setCells g off (vals ys))) :
    if Region.wanted o (yielded ops a.tmps) = true then Oper.wp Try.prog o a w K Q else E := by
  have hw : Region.wanted o (yielded ops a.tmps) = true := by simp [Region.wanted, hgd]
  rw [if_pos hw]
  have hrun := run_copy_cells (P := Try.prog) w 27 27 o.type 5 g off dLen dCap ⟨g2, off2, none⟩ sLen sCap (vals ys) Try.underlying27 size5 (by rw [vals_length]; exact hn) (fun j v hv => by rw [Addr.add_mid]; exact hr j v hv)
    (fun j hj => (ht j (by rw [vals_length] at hj; exact hj)).1) (fun j hj => (ht j (by rw [vals_length] at hj; exact hj)).2) (vals_one ys)
  unfold Oper.wp
  simp [execOp, ho, resolve, invoke, builtin, hd, hs, hrun, Result.andThen, vals_length]
  exact h
theorem below_drewN {w w' : World} {B k : Nat} (h : Below B w w') : Below B w (w'.drewN k) := ⟨h.os, h.tape, h.output, h.size, h.block⟩
theorem below_setCells {w w' : World} {B g : Nat} (h : Below B w w') (hg : B ≤ g) (vs : List Value) (o : Nat) : Below B w (w'.setCells g o vs) := by
  induction vs generalizing w' o with
  | nil => exact h
  | cons v r ih => exact ih (h.setCell (p := ⟨g, o, none⟩) hg v) (o + 1)
theorem Blk.farCells {w : World} {g b : Nat} {t : TypeId} {xs : List Nat} (h : Blk w g t xs) (hg : g ≠ b) (vs : List Value) (o : Nat) : Blk (w.setCells b o vs) g t xs := by
  induction vs generalizing w o with
  | nil => exact h
  | cons v r ih => exact ih (h.far (p := ⟨b, o, none⟩) hg v) (o + 1)

theorem results_arr {P : Program} {fn : Func} {p : Tmp} {ty : TypeId} (h : fn.results = #[.cell p ty]) (tmps : Array Value) (w : World) (g : Nat) (hp : tmps.getD p undef = .pointer (some ⟨g, 0, none⟩)) (v : Value)
    (hl : (loadVar ty ⟨g, 0, none⟩).run P w = .ok v w) : (results fn tmps).run P w = .ok v w := by
  have hp' : tmps[p]?.getD undef = .pointer (some ⟨g, 0, none⟩) := by simpa using hp
  simp only [results, h]
  simp [hp', asAddr, hl]

/-- The call hands back the array xs, and nothing that was there is changed. -/
def GivesArr (w : World) (xs : List Nat) (e : Ending) (w' : World) : Prop := e = .returned (.agg (arrV xs)) ∧ Below w.heap.size w w'
end Go.Proofs.Ytfbgpfiodgibbaa.A
