/- Calls in memory; whether they are too many. No statement is proved here. -/
import Derived.Test.YtnogmfpaipjdaaaSpk
namespace Go.Proofs.Ytnogmfpaipjdaaa
open Go.RowKit
open P (Pl right hasI vals fitP)
set_option maxRecDepth 20000
set_option linter.unusedVariables false
set_option linter.unusedSimpArgs false

theorem cl_it {W : World} {b o : Nat} {e : Cl} (hr : W.rangeAt b o e.cs) : W.rangeAt b (o + 2) (Elt.cs e.it) := fun j v hj => by
  have := hr (2 + j) v (e.cs_items j v hj)
  rwa [show o + (2 + j) = o + 2 + j by omega] at this
theorem cl_ln {W : World} {b o : Nat} {e : Cl} (hr : W.rangeAt b o e.cs) : W.rangeAt b (o + 4) (vals e.bs) := fun j v hj => by
  have := hr (4 + j) v (e.cs_bytes j v hj)
  rwa [show o + (4 + j) = o + 4 + j by omega] at this
theorem at_clB {W : World} {b : Nat} {t : TypeId} {e : Cl} (h : At W b t e.arr) : W.rangeAt b 0 e.cs := fun j v hj => by
  rw [h.cell, Nat.zero_add]; unfold Cl.arr; rw [List.getElem?_toArray, hj]
/-- What is in a block that holds a call. -/
structure ClB (W : World) (b : Nat) (e : Cl) : Prop where
  c0 : W.cell? ⟨b, 0, none⟩ = some (.int .i64 e.o)
  c1 : W.cell? ⟨b, 1, none⟩ = some (.int .i64 e.bk)
  it : W.rangeAt b 2 (Elt.cs e.it)
  ln : W.rangeAt b 4 (vals e.bs)
  kp : W.cell? ⟨b, 36, none⟩ = some (.slice e.kA e.kn e.kc)
theorem ClB.of {W : World} {b : Nat} {e : Cl} (h : At W b 47 e.arr) : ClB W b e :=
  ⟨(h.cell 0).trans e.at0, (h.cell 1).trans e.at1, by have := cl_it (at_clB h); rwa [Nat.zero_add] at this, by have := cl_ln (at_clB h); rwa [Nat.zero_add] at this, (h.cell 36).trans e.at36⟩
section
variable {ops : Array Oper} {rest : List Oper} {o : Oper} {a : Act} {w W : World} {Q : Exit → Act → World → Prop} {L : Blks} {g b : Nat} {p : Pl} {c : Cs}
theorem load_clM {b off : Nat} {e : Cl} (hr : W.rangeAt b off (Elt.cs e)) : (loadVar 47 ⟨b, off, none⟩).run Try.prog W = .ok (.agg e.arr) W :=
  run_loadVar_mid (P := Try.prog) W b off 47 e.cs _ hr Try.underlying47 rfl (by rw [e.cs_length]; exact sz47)
theorem wpList_alloc_cl (h : St w W L) (ho : o.op = .alloc 47) (hw : Region.wanted o (yielded ops a.tmps) = true)
    (k : ∀ W', St w W' ((W.heap.size, C 47 zclA) :: L) → Below W.heap.size W W' → wpList Try.prog ops Q rest (a.put o.dst (.pointer (some ⟨W.heap.size, 0, none⟩))) W') : wpList Try.prog ops Q (o :: rest) a W :=
  wpList_alloc_st h 47 ho hw _ zclA zero47 rfl fun W' h' _ hb => k W' h'.front hb
theorem zclA_size : zclA.size = 37 := Cl.arr_size default
theorem wpList_store_cl (h : St w W L) (i : Nat) {g : Nat} (c : Cl) (hi : L[i]? = some (g, C 47 zclA)) (x y : Operand) (ho : o.op = .store 47 x y) (hw : Region.wanted o (yielded ops a.tmps) = true)
    (hx : a.eval x = .pointer (some ⟨g, 0, none⟩)) (hy : a.eval y = .agg c.arr)
    (k : ∀ W', St w W' (L.set i (g, C 47 c.arr)) → W.grownBy W' (some g) → wpList Try.prog ops Q rest (a.put o.dst undef) W') : wpList Try.prog ops Q (o :: rest) a W :=
  wpList_store_st h i hi 47 x y ho hw hx hy (by rw [c.arr_size]; exact sz47) (by rw [c.arr_size, zclA_size]) c.arr_one k
theorem wpList_alloc_clW (h : WC w W g b p c L) (ho : o.op = .alloc 47) (hw : Region.wanted o (yielded ops a.tmps) = true)
    (k : ∀ W', WC w W' g b p c ((W.heap.size, C 47 zclA) :: L) → wpList Try.prog ops Q rest (a.put o.dst (.pointer (some ⟨W.heap.size, 0, none⟩))) W') : wpList Try.prog ops Q (o :: rest) a W := by
  obtain ⟨Y, _, _, hs, up⟩ := h.lift
  exact wpList_alloc_cl hs ho hw fun W' h' _ => k W' (WC.frontL up h')
theorem wpList_store_clW (h : WC w W g b p c L) (i : Nat) {q : Nat} (e : Cl) (hi : L[i]? = some (q, C 47 zclA)) (x y : Operand) (ho : o.op = .store 47 x y) (hw : Region.wanted o (yielded ops a.tmps) = true)
    (hx : a.eval x = .pointer (some ⟨q, 0, none⟩)) (hy : a.eval y = .agg e.arr)
    (k : ∀ W', WC w W' g b p c (L.set i (q, C 47 e.arr)) → wpList Try.prog ops Q rest (a.put o.dst undef) W') : wpList Try.prog ops Q (o :: rest) a W := by
  obtain ⟨Y, _, _, hs, up⟩ := h.lift
  refine wpList_store_cl hs (Y.length + i) e (by rw [List.getElem?_append_right (by omega)]; simpa using hi) x y ho hw hx hy fun W' h' _ => k W' (up _ _ ?_)
  rw [List.set_append_right _ _ (by omega)] at h'
  simpa using h'
end
/-- Calls that are more than are looked at. -/
def grt (xs : List Cl) : Bool := decide (80 < xs.length) || xs.any (fun c => decide (8 < c.kn))
def GrRel (W : World) (xs : List Cl) (i : Value) (wr : World) : Prop :=
  ∃ k : Nat, k ≤ xs.length ∧ i = .int .i64 (k : Nat) ∧ (∀ i c, i < k → xs[i]? = some c → c.kn ≤ 8) ∧ St W wr []
attribute [local irreducible] It.arr Cd.arr Cl.arr zclA
set_option maxHeartbeats 2000000 in
theorem great_any (A : Option Addr) (n c : Nat) (xs : List Cl) (W : World) (h : ERow W W.heap.size A n c xs) :
    Calls Try.prog 8 #[.slice A n c] W fun e W' => e = .returned (.bool (grt xs)) ∧ Below W.heap.size W W' := by
  have hl := h.len
  have mx := h.max
  have HX := Lib.hid h
  have S0 := St.nil W
  clear h
  by_cases h80 : 80 < n
  · have q : ((n : Int) > 80) = True := eq_true (by omega)
    have q2 : ((80 : Int) < (n : Int)) = True := eq_true (by omega)
    have e := Lib.hid (show grt xs = true by unfold grt; rw [decide_eq_true (by omega)]; rfl)
    generalize grt xs = R at *
    go_enter Try.func8, Try.ntmps8
    go_wp2
    go_ret
    exact ⟨by rw [e.out]; rfl, S0.bel⟩
  · have q : ((n : Int) > 80) = False := eq_false (by omega)
    have q2 : ((80 : Int) < (n : Int)) = False := eq_false (by omega)
    have G1 := Lib.hid (fun c (hc : c ∈ xs) (h8 : 8 < c.kn) => show grt xs = true by unfold grt; rw [List.any_eq_true.2 ⟨c, hc, by simpa using h8⟩, Bool.or_true])
    have G0 := Lib.hid (fun (h : ∀ i c, i < xs.length → xs[i]? = some c → c.kn ≤ 8) => show grt xs = false by
      unfold grt
      rw [decide_eq_false (by omega), Bool.false_or, List.any_eq_false]
      intro c hc
      obtain ⟨i, hi⟩ := List.getElem?_of_mem hc
      have := h i c (List.getElem?_eq_some_iff.1 hi).1 hi
      simp; omega)
    generalize grt xs = R at *
    replace hl := Lib.hid hl
    clear h80
    go_enter Try.func8, Try.ntmps8
    go_wp2
    go_loopw [10] (GrRel W xs) (fun i _ => n - (intOf i).toNat)
    case atStart => exact ⟨0, by omega, rfl, (fun i c h => absurd h (by omega)), S0⟩
    case round =>
      obtain ⟨k, hk, rfl, hall, hst⟩ := hrel
      clear S0
      rw [hl.out] at hk
      replace hall := Lib.hid hall
      by_cases hlt : k < n
      · have g1 : ((k : Int) < (n : Int)) = True := eq_true (by omega)
        have b1 : k < xs.length := by have := hl.out; omega
        have hx : xs[k]? = some xs[k] := List.getElem?_eq_getElem b1
        generalize xs[k] = x at *
        clear b1
        obtain ⟨bb, o, rfl, hb2, r⟩ := HX.out.at_ k x hx
        have r' := load_clM (rangeAt_keep r (hst.bel.block _ hb2))
        replace hx := Lib.hid hx
        clear r hb2
        replace r' : (loadVar 47 ⟨bb, o + k * 37, none⟩).run Try.prog wr = .ok (.agg x.arr) wr := r'
        by_cases h8 : 8 < x.kn
        · have q3 : ((x.kn : Int) > 8) = True := eq_true (by omega)
          have q4 : ((8 : Int) < (x.kn : Int)) = True := eq_true (by omega)
          have e := Lib.hid (G1.out x (List.mem_of_getElem? hx.out) h8)
          go_wp2_with (first
            | (refine wpList_load_run r' _ rfl rfl rfl ?_; clear r')
            | (have _ := hst; refine wpList_alloc_cl hst rfl rfl ?_; clear hst; intro X1 h1 _; generalize wr.heap.size = cb at *)
            | (have _ := h1; refine wpList_store_cl h1 0 x rfl _ _ rfl rfl rfl rfl ?_; clear h1; intro X2 h2 _; have d36 := (ClB.of (h2.get 0 rfl)).kp))
          go_ret
          exact ⟨by rw [e.out]; rfl, h2.bel⟩
        · have q3 : ((x.kn : Int) > 8) = False := eq_false (by omega)
          have q4 : ((8 : Int) < (x.kn : Int)) = False := eq_false (by omega)
          have NX := Lib.hid (show ∀ i c, i < k + 1 → xs[i]? = some c → c.kn ≤ 8 from fun i c hi hc => by
            rcases Nat.lt_or_ge i k with q1 | q1
            · exact hall.out i c q1 hc
            · obtain rfl : i = k := by omega
              have e1 := hx.out
              rw [hc] at e1
              injection e1 with e1
              rw [e1]; omega)
          go_wp2_with (first
            | (refine wpList_load_run r' _ rfl rfl rfl ?_; clear r')
            | (have _ := hst; refine wpList_alloc_cl hst rfl rfl ?_; clear hst; intro X1 h1 _; generalize wr.heap.size = cb at *)
            | (have _ := h1; refine wpList_store_cl h1 0 x rfl _ _ rfl rfl rfl rfl ?_; clear h1; intro X2 h2 _; have d36 := (ClB.of (h2.get 0 rfl)).kp))
          go_roundw
          case rel => exact ⟨k + 1, by rw [hl.out]; omega, by go_num, NX.out, h2.tail⟩
          case measure => simp [intOf]; omega
      · obtain rfl : k = n := by omega
        have g1 : ((k : Int) < (k : Int)) = False := eq_false (by omega)
        have e := Lib.hid (G0.out (by rw [hl.out]; exact hall.out))
        go_wp2
        go_ret
        exact ⟨by rw [e.out]; rfl, hst.bel⟩
end Go.Proofs.Ytnogmfpaipjdaaa
