/- Where a number stands among entries. No statement is proved here. -/
import Derived.Test.YtmlepikgiicaiaaMeth1
namespace Go.Proofs.Ytmlepikgiicaiaa
open Go.RowKit
set_option linter.unusedVariables false
set_option linter.unusedSimpArgs false

/-- The first place at which the number k stands. -/
def fnd (xs : List Ent) (k : Int) : Option Nat := xs.findIdx? (fun e => e.k == k)
def fndV (xs : List Ent) (k : Int) : Int := match fnd xs k with | some i => (i : Int) | none => -1
theorem fnd_some {xs : List Ent} {k : Int} {i : Nat} {x : Ent} (hx : xs[i]? = some x) (hk : x.k = k) (hall : ∀ j y, j < i → xs[j]? = some y → y.k ≠ k) : fnd xs k = some i := by
  unfold fnd
  rw [List.findIdx?_eq_some_iff_getElem]
  obtain ⟨hi, e⟩ := List.getElem?_eq_some_iff.1 hx
  refine ⟨hi, by rw [e]; simpa using hk, fun j hj => ?_⟩
  have hj2 : j < xs.length := by omega
  have := hall j xs[j] hj (List.getElem?_eq_getElem hj2)
  simpa using this
theorem fnd_none {xs : List Ent} {k : Int} (hall : ∀ j y, j < xs.length → xs[j]? = some y → y.k ≠ k) : fnd xs k = none := by
  unfold fnd
  rw [List.findIdx?_eq_none_iff]
  intro y hy
  obtain ⟨j, hj⟩ := List.getElem?_of_mem hy
  have := hall j y (List.getElem?_eq_some_iff.1 hj).1 hj
  simpa using this
theorem fnd_spec {xs : List Ent} {k : Int} {i : Nat} (h : fnd xs k = some i) : ∃ x, xs[i]? = some x ∧ x.k = k ∧ ∀ j y, j < i → xs[j]? = some y → y.k ≠ k := by
  unfold fnd at h
  rw [List.findIdx?_eq_some_iff_getElem] at h
  obtain ⟨hi, e, hall⟩ := h
  refine ⟨xs[i], List.getElem?_eq_getElem hi, by simpa using e, fun j y hj hy => ?_⟩
  have hj2 : j < xs.length := by omega
  have := hall j hj
  rw [List.getElem?_eq_getElem hj2] at hy
  injection hy with hy
  rw [hy] at this
  simpa using this
theorem pred_any (e : Ent) (kb : Nat) (k : Int) (w : World) (hk : w.cell? ⟨kb, 0, none⟩ = some (.int .i64 k)) (hb : kb < w.heap.size) :
    Calls Try.prog 34 #[.agg e.arr, .pointer (some ⟨kb, 0, none⟩)] w fun r W' => r = .returned (.bool (e.k == k)) ∧ Below w.heap.size w W' := by
  have h0 := St.nil w
  unfold Ent.arr
  go_enter Try.func34, Try.ntmps34
  go_wp2_with (refine wpList_box_st h0 57 _ rfl rfl #[.int .i64 e.k, .int .i64 e.v] rfl ?_; clear h0; intro W1 h1 _ hb1; have d0 := h1.cell 0 rfl 0 (.int .i64 e.k) rfl; have e0 := (hb1.cell (p := ⟨kb, 0, none⟩) hb).trans hk; clear hk)
  go_ret
  exact ⟨rfl, hb1⟩
section
variable {ops : Array Oper} {rest : List Oper} {o : Oper} {a : Act} {W : World} {Q : Exit → Act → World → Prop}
theorem load_ent {b off : Nat} {e : Ent} (hr : W.rangeAt b off (Elt.cs e)) : (loadVar 57 ⟨b, off, none⟩).run Try.prog W = .ok (.agg e.arr) W :=
  run_loadVar_mid (P := Try.prog) W b off 57 e.cs _ hr Try.underlying57 rfl sz57
theorem wpList_loadE {b off : Nat} {e : Ent} (hr : W.rangeAt b off (Elt.cs e)) (x : Operand) (ho : o.op = .load 57 x) (hw : Region.wanted o (yielded ops a.tmps) = true) (hx : a.eval x = .pointer (some ⟨b, off, none⟩))
    (k : wpList Try.prog ops Q rest (a.put o.dst (.agg e.arr)) W) : wpList Try.prog ops Q (o :: rest) a W := by
  unfold wpList
  rw [if_pos hw]
  refine .inl ?_
  unfold Oper.wp execOp
  simp only [ho, hx, Instr.loadAt, Instr.sureAddr, Sem.run_bind, Sem.run_pure, Result.andThen_ok, load_ent hr]
  exact k
end
def FRel (w : World) (xs : List Ent) (k : Int) (i : Value) (wr : World) : Prop :=
  ∃ j : Nat, j ≤ xs.length ∧ i = .int .i64 (j : Nat) ∧ (∀ m y, m < j → xs[m]? = some y → y.k ≠ k) ∧ Below w.heap.size w wr
attribute [local irreducible] Ent.arr
set_option maxHeartbeats 1000000 in
theorem indexFunc_any (A : Option Addr) (n c : Nat) (xs : List Ent) (kb : Nat) (k : Int) (w : World) (h : ERow w w.heap.size A n c xs) (hk : w.cell? ⟨kb, 0, none⟩ = some (.int .i64 k)) (hb : kb < w.heap.size) :
    Calls Try.prog 33 #[.slice A n c, .func (.func 34) #[] #[.pointer (some ⟨kb, 0, none⟩)]] w fun r W' => r = .returned (.int .i64 (fndV xs k)) ∧ Below w.heap.size w W' := by
  have hl := h.len
  have mx := h.max
  have HX := Lib.hid h
  replace hl := Lib.hid hl
  replace hk := Lib.hid hk
  clear h
  have PA := Lib.hid (fun e W hk hb => pred_any e kb k W hk hb)
  go_enter Try.func33, Try.ntmps33
  go_wp2
  go_loopw [8] (FRel w xs k) (fun i _ => n - (intOf i).toNat)
  case atStart => exact ⟨0, by omega, rfl, fun m y hm => absurd hm (by omega), Below.refl _ _⟩
  case round =>
    obtain ⟨j, hj, rfl, hall, hbl⟩ := hrel
    rw [hl.out] at hj
    replace hall := Lib.hid hall
    by_cases hlt : j < n
    · have g1 : ((j : Int) < (n : Int)) = True := eq_true (by omega)
      have b1 : j < xs.length := by have := hl.out; omega
      have hx : xs[j]? = some xs[j] := List.getElem?_eq_getElem b1
      generalize xs[j] = x at *
      clear b1
      obtain ⟨b, o, rfl, hb2, r⟩ := HX.out.at_ j x hx
      have r' : wr.rangeAt b (o + j * 2) (Elt.cs x) := rangeAt_keep r (hbl.block _ hb2)
      have hk2 := (hbl.cell (p := ⟨kb, 0, none⟩) hb).trans hk.out
      have hb3 : kb < wr.heap.size := Nat.lt_of_lt_of_le hb hbl.size
      replace hx := Lib.hid hx
      clear r hb2
      by_cases hxk : x.k = k
      · have q : (x.k == k) = true := by simpa using hxk
        replace hxk := Lib.hid hxk
        go_wp2_with (first
          | (refine wpList_loadE (e := x) r' _ rfl rfl rfl ?_)
          | (go_at_call 34; refine (PA.out x _ hk2 hb3).mono ?_; rintro e X1 ⟨rfl, hb4⟩; rw [q]))
        go_ret
        refine ⟨?_, hbl.trans (hb4.mono hbl.size)⟩
        have : fndV xs k = (j : Int) := by unfold fndV; rw [fnd_some hx.out hxk.out hall.out]
        rw [this]; rfl
      · have q : (x.k == k) = false := by simpa using hxk
        replace hxk := Lib.hid hxk
        go_wp2_with (first
          | (refine wpList_loadE (e := x) r' _ rfl rfl rfl ?_)
          | (go_at_call 34; refine (PA.out x _ hk2 hb3).mono ?_; rintro e X1 ⟨rfl, hb4⟩; rw [q]))
        go_roundw
        case rel => exact ⟨j + 1, by have := hl.out; omega, by go_num, fun m y hm hy => by
            rcases Nat.lt_or_ge m j with q2 | q2
            · exact hall.out m y q2 hy
            · obtain rfl : m = j := by omega
              have e1 := hx.out
              rw [hy] at e1
              injection e1 with e1
              rw [e1]; exact hxk.out, hbl.trans (hb4.mono hbl.size)⟩
        case measure => simp [intOf]; omega
    · obtain rfl : j = n := by omega
      have g1 : ((j : Int) < (j : Int)) = False := eq_false (by omega)
      go_wp2
      go_ret
      refine ⟨?_, hbl⟩
      have : fndV xs k = -1 := by unfold fndV; rw [fnd_none (fun m y hm hy => hall.out m y (by have := hl.out; omega) hy)]
      rw [this]; rfl
section
variable {w W : World} {g b n : Nat} {c : Cs} {L : Blks} {ops : Array Oper} {rest : List Oper} {o : Oper} {a : Act} {Q : Exit → Act → World → Prop}
theorem wpList_box_wc (h : WC w W g b n c L) (ty : TypeId) (x : Operand) (ho : o.op = .box ty x) (hw : Region.wanted o (yielded ops a.tmps) = true) (arr : Array Value) (hx : (a.eval x).cells = arr)
    (k : ∀ W', WC w W' g b n c ((W.heap.size, C ty arr) :: L) → Below W.heap.size W W' → wpList Try.prog ops Q rest (a.put o.dst (.pointer (some ⟨W.heap.size, 0, none⟩))) W') : wpList Try.prog ops Q (o :: rest) a W := by
  obtain ⟨Y, _, _, hs, up⟩ := h.lift
  refine wpList_box_st hs ty x ho hw arr hx fun W' h' _ hb => k W' (up _ _ (h'.perm ?_)) hb
  rw [List.append_assoc]
  exact (List.perm_append_singleton _ L).append_left Y
theorem wpList_alloc_wc (h : WC w W g b n c L) (ty : TypeId) (ho : o.op = .alloc ty) (hw : Region.wanted o (yielded ops a.tmps) = true) (v : Value) (arr : Array Value) (hz : ∀ W, (zeroValue ty).run Try.prog W = .ok v W) (hx : v.cells = arr)
    (k : ∀ W', WC w W' g b n c ((W.heap.size, C ty arr) :: L) → Below W.heap.size W W' → wpList Try.prog ops Q rest (a.put o.dst (.pointer (some ⟨W.heap.size, 0, none⟩))) W') : wpList Try.prog ops Q (o :: rest) a W := by
  obtain ⟨Y, _, _, hs, up⟩ := h.lift
  refine wpList_alloc_st hs ty ho hw v arr hz hx fun W' h' _ hb => k W' (up _ _ (h'.perm ?_)) hb
  rw [List.append_assoc]
  exact (List.perm_append_singleton _ L).append_left Y
theorem wpList_store_wc {q : Nat} {t : TypeId} {arr arr' : Array Value} (h : WC w W g b n c ((q, C t arr) :: L)) (ty : TypeId) (x y : Operand) (ho : o.op = .store ty x y) (hw : Region.wanted o (yielded ops a.tmps) = true)
    (hx : a.eval x = .pointer (some ⟨q, 0, none⟩)) (hy : a.eval y = .agg arr') (hs : (Try.prog.info? ty).map (·.size) = some arr'.size) (hl : arr'.size = arr.size) (h1 : arr'.all (·.oneCell') = true)
    (k : ∀ W', WC w W' g b n c ((q, C t arr') :: L) → wpList Try.prog ops Q rest (a.put o.dst undef) W') : wpList Try.prog ops Q (o :: rest) a W := by
  obtain ⟨Y, _, _, hst, up⟩ := h.lift
  have h2 : St w W ((q, C t arr) :: (Y ++ L)) := hst.perm List.perm_middle
  refine wpList_store_st (arr' := arr') h2 0 rfl ty x y ho hw hx hy hs hl h1 fun W' h' _ => k W' (up _ _ ?_)
  exact St.perm h' List.perm_middle.symm
end
section
variable {w W W' : World} {g b n : Nat} {c : Cs} {L M : Blks}
set_option maxHeartbeats 1000000 in
theorem find_any (h : WC w W g b n c L) (k : Int) (hk : k ≤ 9223372036854775807) :
    Calls Try.prog 28 #[.pointer (some ⟨g, 0, none⟩), .int .i64 k] W fun e W' => e = .returned (.int .i64 (fndV (sof c k) k)) ∧ Below W.heap.size W W' := by
  have SO := Lib.hid (fun W L (h : WC w W g b n c L) => setOf_any h k hk)
  generalize hX : fndV (sof c k) k = X
  replace hX := Lib.hid hX
  generalize sof c k = xs at *
  go_enter Try.func28, Try.ntmps28
  go_wp2_with (first
    | (refine wpList_box_wc h 3 _ rfl rfl #[.int .i64 k] rfl ?_; clear h; intro W1 h1 hb1; have d0 := h1.cell 0 rfl 0 (.int .i64 k) rfl; generalize hkb : W.heap.size = kb at *)
    | (have _ := h1; go_at_call 30; refine (SO.out _ _ h1).mono ?_; rintro e W2 ⟨A, p, rfl, hr, j, rfl⟩; replace d0 : (W1.drewN j).cell? ⟨kb, 0, none⟩ = some (.int .i64 k) := d0; have hlt := heap_lt (h1.st.get 0 rfl); clear h1)
    | (have _ := hr; go_at_call 33; refine (indexFunc_any A _ p xs kb k (W1.drewN j) hr d0 hlt).mono ?_; rintro e W3 ⟨rfl, hb3⟩; clear hr))
  go_ret
  exact ⟨by rw [hX.out]; rfl, by rw [hkb]; exact (below_drewN hb1).trans (hb3.mono (by rw [← hkb]; exact hb1.size))⟩
end
end Go.Proofs.Ytmlepikgiicaiaa
