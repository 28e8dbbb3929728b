/- Rows that are made; numbers as rows; whether two rows of numbers are one. No statement is proved here. -/
import Derived.Test.YtmlepikgiicaiaaMeth5
import Derived.Laws.MakeOwn
namespace Go.Proofs.Ytmlepikgiicaiaa
open Go.RowKit
set_option linter.unusedVariables false
set_option linter.unusedSimpArgs false

/-- A nil row of entries, as an element. -/
structure Nv where
deriving Inhabited
theorem info55z : (Try.prog.info? 55).map (fun i => (i.zero, i.size, i.bytes)) = some (some (.slice none 0 0), 1, 24) := by kernel_rfl
instance : Elt Nv where
  ty := 55
  sl := 52
  sz := 1
  by_ := 24
  cs := fun _ => [.slice none 0 0]
  zv := .slice none 0 0
  len := fun _ => rfl
  one := by intro x u hu; simp only [List.mem_cons, List.not_mem_nil, or_false] at hu; rcases hu with rfl; rfl
  pos := by omega
  und := Try.underlying52
  inf := infoOf info55z
  zsz := rfl
  few := by omega
  low := by omega
section
variable {α : Type} [E : Elt α]
theorem made_cells (z : α) (hz : E.zv.cells = (E.cs z).toArray) (n : Nat) : madeCells E.zv.cells (n * E.sz) = (ecells (List.replicate n z)).toArray := by
  have hp := E.pos
  apply Array.ext_getElem?
  intro i
  have e2 : (ecells (List.replicate n z)).toArray[i]? = (ecells (List.replicate n z))[i]? := List.getElem?_toArray
  rw [e2]
  by_cases hi : i < n * E.sz
  · have hd : i / E.sz < n := Nat.div_lt_of_lt_mul (by rw [Nat.mul_comm]; exact hi)
    have hm : i % E.sz < E.sz := Nat.mod_lt _ hp
    have hl : i % E.sz < (E.cs z).length := by rw [E.len]; exact hm
    have h1 := ecells_at (List.replicate n z) (i / E.sz) z (by simp [hd]) (i % E.sz) _ (List.getElem?_eq_getElem hl)
    rw [show i / E.sz * E.sz + i % E.sz = i by rw [Nat.mul_comm]; exact Nat.div_add_mod i E.sz] at h1
    rw [h1]
    unfold madeCells
    have h3 : i % E.zv.cells.size < E.zv.cells.size := by rw [E.zsz]; exact hm
    rw [Array.getElem?_map, Array.getElem?_range, if_pos hi, Option.map_some, getElem!_pos E.zv.cells _ h3]
    congr 1
    have : E.zv.cells[i % E.zv.cells.size]? = (E.cs z)[i % E.sz]? := by rw [hz, List.getElem?_toArray]; congr 1; rw [← hz, E.zsz]
    rw [Array.getElem?_eq_getElem h3, List.getElem?_eq_getElem hl] at this
    injection this
  · rw [Array.getElem?_eq_none (by rw [size_madeCells]; omega), List.getElem?_eq_none (by rw [ecells_length]; simp; omega)]
variable {ops : Array Oper} {rest : List Oper} {o : Oper} {a : Act} {w W : World} {K : Act → World → Prop} {Q : Exit → Act → World → Prop} {L : Blks}
theorem wp_makeE_st (h : St w W L) (z : α) (hz : E.zv.cells = (E.cs z).toArray) (l c : Operand) (ho : o.op = .makeSlice E.sl l c) (n : Nat) (hl : a.eval l = .int .i64 (n : Int)) (hc : a.eval c = .int .i64 (n : Int)) (hn : n ≤ 5000)
    (k : ∀ W', St w W' ((W.heap.size, C E.ty (ecells (List.replicate n z)).toArray) :: L) → Below W.heap.size W W' → K (a.put o.dst (.slice (some ⟨W.heap.size, 0, none⟩) n n)) W') : o.wp Try.prog a W K Q := by
  obtain ⟨i0, hi, hz0, hz1, hz2⟩ := E.inf
  have hf := E.few
  have hlow := E.low
  have b1 : n * E.sz ≤ 5000 * 1000 := Nat.mul_le_mul hn hlow
  have b2 : E.by_ * n ≤ 1000 * 5000 := Nat.mul_le_mul hf hn
  have hrun := run_makeSlice (P := Try.prog) (w := W) E.sl E.ty i0 E.zv E.und hi hz0 .i64 .i64 (n : Int) (n : Int) (by omega) (by omega) (by rw [hz1, Int.toNat_natCast]; omega) (by rw [hz2, ← Int.natCast_mul]; omega) (by omega)
  rw [hz1, Int.toNat_natCast, made_cells z hz] at hrun
  unfold Oper.wp
  simp only [execOp, ho, hl, hc, Sem.run_bind, hrun, Result.andThen_ok, Sem.run_pure, Int.toNat_natCast]
  exact k _ ((h.push E.ty _).front) ((Below.refl _ _).alloc (Nat.le_refl _) _)
theorem wpList_makeE_st (h : St w W L) (z : α) (hz : E.zv.cells = (E.cs z).toArray) (l c : Operand) (ho : o.op = .makeSlice E.sl l c) (hw : Region.wanted o (yielded ops a.tmps) = true) (n : Nat) (hl : a.eval l = .int .i64 (n : Int)) (hc : a.eval c = .int .i64 (n : Int)) (hn : n ≤ 5000)
    (k : ∀ W', St w W' ((W.heap.size, C E.ty (ecells (List.replicate n z)).toArray) :: L) → Below W.heap.size W W' → wpList Try.prog ops Q rest (a.put o.dst (.slice (some ⟨W.heap.size, 0, none⟩) n n)) W') : wpList Try.prog ops Q (o :: rest) a W := by
  unfold wpList
  rw [if_pos hw]
  exact .inl (wp_makeE_st h z hz l c ho n hl hc hn k)
end
/-- Numbers as cells. -/
def iarr (l : List Int) : Array Value := (l.map fun n => Value.int .i64 n).toArray
theorem iarr_eq (l : List Int) : (ecells l).toArray = iarr l := by
  unfold iarr ecells
  congr 1
  induction l with
  | nil => rfl
  | cons x l ih => rw [List.flatMap_cons, List.map_cons, ih]; rfl
theorem iarr_size (l : List Int) : (iarr l).size = l.length := by simp [iarr]
theorem iarr_set (l : List Int) (i : Nat) (x : Int) : (iarr l).setIfInBounds i (.int .i64 x) = iarr (l.set i x) := by
  simp [iarr, List.map_set]
theorem iarr_get (l : List Int) (i : Nat) (x : Int) (h : l[i]? = some x) : (iarr l)[i]? = some (.int .i64 x) := by
  simp [iarr, h]
/-- A row of numbers that fills its block. -/
theorem at_irow {W : World} {b : Nat} {l : List Int} (h : At W b 3 (iarr l)) (hm : l.length ≤ maxLen) : ERow W W.heap.size (some ⟨b, 0, none⟩) l.length l.length l := by
  refine ⟨rfl, Nat.le_refl _, hm, (fun h => by cases h), fun a ha _ => ?_⟩
  injection ha with ha
  subst ha
  refine ⟨rfl, h.lt, fun j m hj i u hu => ?_⟩
  have hi : i = 0 := by
    have := (List.getElem?_eq_some_iff.1 hu).1
    change i < 1 at this
    omega
  subst hi
  have hu2 : Value.int .i64 m = u := by simpa [Elt.cs] using hu
  subst hu2
  rw [h.cell]
  show (iarr l)[0 + j * 1 + 0]? = _
  rw [Nat.mul_one, Nat.zero_add, Nat.add_zero]
  exact iarr_get l j m hj
def SmRel (w : World) (xs ys : List Int) (n : Nat) (i : Value) (wr : World) : Prop :=
  ∃ k : Nat, k ≤ n ∧ i = .int .i64 (k : Nat) ∧ (∀ j : Nat, j < k → xs[j]? = ys[j]?) ∧ ∃ j, wr = w.drewN j
set_option maxHeartbeats 1000000 in
theorem same_any (A1 A2 : Option Addr) (n m c1 c2 B1 B2 : Nat) (xs ys : List Int) (w : World) (h1 : ERow w B1 A1 n c1 xs) (h2 : ERow w B2 A2 m c2 ys) :
    Calls Try.prog 18 #[.slice A1 n c1, .slice A2 m c2] w fun e w' => e = .returned (.bool (decide (xs = ys))) ∧ ∃ j, w' = w.drewN j := by
  have l1 := h1.len
  have l2 := h2.len
  have mx := h1.max
  by_cases hnm : n = m
  · subst hnm
    have HX := Lib.hid h1
    have HY := Lib.hid h2
    replace l1 := Lib.hid l1
    replace l2 := Lib.hid l2
    clear h1 h2
    generalize hD : decide (xs = ys) = D
    replace hD := Lib.hid hD
    go_enter Try.func18, Try.ntmps18
    go_wp2
    go_loopw [5] (SmRel w xs ys n) (fun i _ => n - (intOf i).toNat)
    case atStart => exact ⟨0, by omega, rfl, fun j hj => absurd hj (by omega), 0, rfl⟩
    case round =>
      obtain ⟨k, hk, rfl, hall, j, rfl⟩ := hrel
      by_cases hlt : k < n
      · have g1 : ((k : Int) < (n : Int)) = True := eq_true (by omega)
        have b1 : k < xs.length := by have := l1.out; omega
        have b2 : k < ys.length := by have := l2.out; omega
        have hx : xs[k]? = some xs[k] := List.getElem?_eq_getElem b1
        have hy : ys[k]? = some ys[k] := List.getElem?_eq_getElem b2
        generalize xs[k] = x at *
        generalize ys[k] = y at *
        clear b1 b2
        obtain ⟨b1, o1, rfl, _, r1⟩ := HX.out.at_ k x hx
        obtain ⟨b2, o2, rfl, _, r2⟩ := HY.out.at_ k y hy
        have d1 : w.cell? ⟨b1, o1 + k, none⟩ = some (.int .i64 x) := by have := r1 0 _ rfl; rw [show o1 + k * (instEltInt).sz + 0 = o1 + k from by show o1 + k * 1 + 0 = _; omega] at this; exact this
        have d2 : w.cell? ⟨b2, o2 + k, none⟩ = some (.int .i64 y) := by have := r2 0 _ rfl; rw [show o2 + k * (instEltInt).sz + 0 = o2 + k from by show o2 + k * 1 + 0 = _; omega] at this; exact this
        have e1 : (w.drewN j).cell? ⟨b1, o1 + k, none⟩ = some (.int .i64 x) := d1
        have e2 : (w.drewN j).cell? ⟨b2, o2 + k, none⟩ = some (.int .i64 y) := d2
        replace hall := Lib.hid hall
        replace hx := Lib.hid hx
        replace hy := Lib.hid hy
        clear r1 r2 d1 d2
        generalize hwj : w.drewN j = wj at *
        replace hwj := Lib.hid hwj
        by_cases hxy : x = y
        · have q : ((x : Int) != y) = false := by simp [hxy]
          have q2 : (x = y) = True := eq_true hxy
          have hxy2 := Lib.hid hxy
          clear hxy
          go_wp2
          go_quiet (fail)
          go_wp2
          go_roundw
          case rel => exact ⟨k + 1, by omega, by go_num, fun i hi => by
            rcases Nat.lt_or_ge i k with q | q
            · exact hall.out i q
            · obtain rfl : i = k := by omega
              rw [hx.out, hy.out, hxy2.out], j + nq, by rw [← hwj.out, World.drewN_drewN]⟩
          case measure => simp [intOf]; omega
        · have q : ((x : Int) != y) = true := by simp [hxy]
          have q2 : (x = y) = False := eq_false hxy
          have hxy2 := Lib.hid hxy
          clear hxy
          have hD2 : Hid (D = false) := by
            have : D = false := by
              rw [← hD.out]
              refine decide_eq_false fun e => hxy2.out ?_
              have e1 := hx.out
              rw [e, hy.out] at e1
              injection e1 with e1
              exact e1.symm
            exact this
          go_wp2
          go_quiet (fail)
          go_wp2
          go_ret
          exact ⟨by rw [hD2.out]; rfl, j + nq, by rw [← hwj.out, World.drewN_drewN]⟩
      · obtain rfl : k = n := by omega
        have g1 : ((k : Int) < (k : Int)) = False := eq_false (by omega)
        have hD2 : Hid (D = true) := by
          have : D = true := by
            rw [← hD.out]
            refine decide_eq_true (List.ext_getElem? fun i => ?_)
            by_cases hi : i < k
            · exact hall i hi
            · rw [List.getElem?_eq_none (by rw [l1.out]; omega), List.getElem?_eq_none (by rw [l2.out]; omega)]
          exact this
        go_wp2
        go_ret
        exact ⟨by rw [hD2.out]; rfl, j, rfl⟩
  · have hD : Hid (decide (xs = ys) = false) := by
      have : decide (xs = ys) = false := decide_eq_false fun e => hnm (by rw [← l1, ← l2, e])
      exact this
    generalize decide (xs = ys) = D at *
    have g0 : ((n : Int) != (m : Int)) = true := by simp; omega
    have g1 : ((n : Int) = (m : Int)) = False := eq_false (by omega)
    clear h1 h2 l1 l2
    go_enter Try.func18, Try.ntmps18
    go_wp2
    go_ret
    exact ⟨by rw [hD.out]; rfl, 0, rfl⟩
end Go.Proofs.Ytmlepikgiicaiaa
