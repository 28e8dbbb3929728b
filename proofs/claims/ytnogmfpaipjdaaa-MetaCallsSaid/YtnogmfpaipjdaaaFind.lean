/- In which bank's cache an item stands, and where. No statement is proved here. -/
import Derived.Test.YtnogmfpaipjdaaaKit
import Derived.OwnWalk
namespace Go.Proofs.Ytnogmfpaipjdaaa
open Go.RowKit
open P (Pl right hasI vals)
set_option maxRecDepth 20000
set_option linter.unusedVariables false
set_option linter.unusedSimpArgs false

/-- The answer of find: bank, place, whether it is there. -/
def FindAt (l : List Cd) (x : It) (k a : Int) : Prop :=
  (∀ c, findC l x = some c → k = c.bk ∧ ∃ j : Nat, a = (j : Int) ∧ (bkL l c.bk.toNat)[j]? = some c) ∧ (findC l x = none → k = 0 ∧ a = 0)
def NotIn (l : List Cd) (x : It) (k : Nat) : Prop := ∀ m, m < k → ∀ c ∈ bkL l m, c.it ≠ x
def NotAhead (xs : List Cd) (x : It) (j : Nat) : Prop := ∀ m y, m < j → xs[m]? = some y → y.it ≠ x
theorem notIn_zero (l : List Cd) (x : It) : NotIn l x 0 := fun m h => absurd h (by omega)
theorem notAhead_zero (xs : List Cd) (x : It) : NotAhead xs x 0 := fun m y h => absurd h (by omega)
theorem notAhead_succ {xs : List Cd} {x : It} {j : Nat} {y : Cd} (h : NotAhead xs x j) (hy : xs[j]? = some y) (hn : y.it ≠ x) : NotAhead xs x (j + 1) := fun m z hm hz => by
  rcases Nat.lt_or_ge m j with q | q
  · exact h m z q hz
  · obtain rfl : m = j := by omega
    rw [hy] at hz
    injection hz with hz
    rw [← hz]; exact hn
theorem notIn_succ {l : List Cd} {x : It} {k : Nat} (h : NotIn l x k) (ha : NotAhead (bkL l k) x (bkL l k).length) : NotIn l x (k + 1) := fun m hm c hc => by
  rcases Nat.lt_or_ge m k with q | q
  · exact h m q c hc
  · obtain rfl : m = k := by omega
    obtain ⟨j, hj⟩ := List.getElem?_of_mem hc
    exact ha j c (List.getElem?_eq_some_iff.1 hj).1 hj
theorem notIn_all {p : Pl} {l : List Cd} {x : It} (I : Inv p l) (h : NotIn l x (nb p)) : findC l x = none := findC_none.2 fun c hc => by
  obtain ⟨h1, h2⟩ := I.bk c hc
  obtain ⟨_, _, f3⟩ := nb_facts I.rt
  exact h c.bk.toNat (by omega) c (mem_bkL.2 ⟨hc, by omega⟩)
theorem findAt_some {p : Pl} {l : List Cd} {x : It} {k j : Nat} {y : Cd} (I : Inv p l) (hy : (bkL l k)[j]? = some y) (he : y.it = x) : (findC l x).isSome = true ∧ FindAt l x (k : Int) (j : Int) := by
  obtain ⟨h1, h2⟩ := mem_bkL.1 (List.mem_of_getElem? hy)
  have hf : findC l x = some y := by rw [← he]; exact findC_mem I.nd h1
  refine ⟨by rw [hf]; rfl, fun c hc => ?_, fun hn => by rw [hf] at hn; cases hn⟩
  rw [hf] at hc
  injection hc with hc
  subst hc
  refine ⟨h2.symm, j, rfl, ?_⟩
  rw [h2]
  exact hy
def OutRel (W : World) (l : List Cd) (x : It) (xb n : Nat) (i : Value) (wr : World) : Prop :=
  ∃ k : Nat, k ≤ n ∧ i = .int .i64 (k : Nat) ∧ NotIn l x k ∧ St W wr [(xb, C 42 x.arr)]
def InRel (W : World) (xs : List Cd) (x : It) (xb : Nat) (i : Value) (wr : World) : Prop :=
  ∃ j : Nat, j ≤ xs.length ∧ i = .int .i64 (j : Nat) ∧ NotAhead xs x j ∧ St W wr [(xb, C 42 x.arr)]
attribute [local irreducible] It.arr Cd.arr
section
variable {w W W' : World} {g b : Nat} {p : Pl} {l : List Cd} {L M : Blks}
set_option maxHeartbeats 4000000 in
theorem find_any (h : MC w W g b p l L) (I : Inv p l) (x : It) :
    Calls Try.prog 36 #[.pointer (some ⟨g, 0, none⟩), .agg x.arr] W fun e W' => (∃ k a, e = .returned (.tuple #[.int .i64 k, .int .i64 a, .bool (findC l x).isSome]) ∧ FindAt l x k a) ∧ Below W.heap.size W W' := by
  have c46 := h.c46
  have glt := h.glt
  obtain ⟨f1, f2, _⟩ := nb_facts I.rt
  have BK := Lib.hid (fun i hi => h.bank i hi)
  have NA := Lib.hid (fun h => notIn_all (x := x) I h)
  have FS := Lib.hid (fun k j y hy he => findAt_some (x := x) (k := k) (j := j) (y := y) I hy he)
  have S0 := St.nil W
  have BL := Lib.hid (fun o v (h : W.cell? ⟨b, o, none⟩ = some v) => cell_lt h)
  clear h I
  generalize nb p = n at *
  replace f1 := Lib.hid f1
  go_enter Try.func36, Try.ntmps36
  go_wp2_with (refine wpList_box_it S0 x _ rfl rfl rfl ?_; clear S0; intro W1 h1 hb1; have c46' := (hb1.cell (p := ⟨g, 46, none⟩) glt).trans c46)
  clear hb1 c46 c46'
  go_loopw [16] (OutRel W l x W.heap.size n) (fun i _ => n - (intOf i).toNat)
  case atStart => exact ⟨0, by omega, rfl, notIn_zero l x, h1⟩
  case round =>
    obtain ⟨k, hk, rfl, hall, hst⟩ := hrel
    clear h1
    replace hall := Lib.hid hall
    by_cases hlt : k < n
    · have g1 : ((k : Int) < (n : Int)) = True := eq_true (by omega)
      obtain ⟨A, q, d0, hr⟩ := BK.out k hlt
      have d1 := (hst.bel.cell (p := ⟨b, k, none⟩) (BL.out _ _ d0)).trans d0
      have hr := Lib.hid hr
      have mx := hr.out.max
      have hl := Lib.hid (show (bkL l k).length = (bkL l k).length from rfl)
      clear d0
      generalize hln : (bkL l k).length = m at *
      replace hln := Lib.hid hln
      clear hl
      go_wp2
      clear d1
      go_loopw [23] (InRel W (bkL l k) x W.heap.size) (fun i _ => m - (intOf i).toNat)
      case atStart => exact ⟨0, by omega, rfl, notAhead_zero _ x, hst⟩
      case round =>
        obtain ⟨j, hj, rfl, hah, hst2⟩ := hrel
        clear hst
        rw [hln.out] at hj
        replace hah := Lib.hid hah
        by_cases hjt : j < m
        · have g2 : ((j : Int) < (m : Int)) = True := eq_true (by omega)
          have b1 : j < (bkL l k).length := by have := hln.out; omega
          have hy : (bkL l k)[j]? = some (bkL l k)[j] := List.getElem?_eq_getElem b1
          generalize (bkL l k)[j] = y at *
          clear b1
          obtain ⟨bb, o, rfl, hb2, r⟩ := hr.out.at_ j y hy
          have r' : wr.rangeAt bb (o + j * 36) (Elt.cs y) := rangeAt_keep r (hst2.bel.block _ hb2)
          replace hy := Lib.hid hy
          clear r hb2
          have EQ := fun V => eql_it y.it x V
          by_cases hyx : y.it = x
          · rw [decide_eq_true hyx] at EQ
            have fs := Lib.hid (FS.out k j y hy.out hyx)
            replace hyx := Lib.hid hyx
            go_wp2_with (first
              | (refine wpList_loadCd (e := y) r' _ rfl rfl rfl ?_)
              | (have _ := hst2; refine wpList_alloc_cd hst2 rfl rfl ?_; clear hst2 r'; intro X1 h3 _; generalize wr.heap.size = yb at *)
              | (have _ := h3; refine wpList_store_cd h3 0 y rfl _ _ rfl rfl rfl rfl ?_; clear h3; intro X2 h4 _; have q1 : X2.rangeAt yb 0 (Elt.cs y.it) := range_it (at_cd (h4.get 0 rfl)); have q2 : X2.rangeAt W.heap.size 0 (Elt.cs x) := at_it (h4.get 1 rfl))
              | (refine wpList_loadIt (e := y.it) q1 _ rfl rfl rfl ?_; clear q1)
              | (refine wpList_loadIt (e := x) q2 _ rfl rfl rfl ?_; clear q2))
            go_ret3
            exact ⟨⟨_, _, by rw [fs.out.1]; rfl, fs.out.2⟩, h4.bel⟩
          · rw [decide_eq_false hyx] at EQ
            replace hyx := Lib.hid hyx
            go_wp2_with (first
              | (refine wpList_loadCd (e := y) r' _ rfl rfl rfl ?_)
              | (have _ := hst2; refine wpList_alloc_cd hst2 rfl rfl ?_; clear hst2 r'; intro X1 h3 _; generalize wr.heap.size = yb at *)
              | (have _ := h3; refine wpList_store_cd h3 0 y rfl _ _ rfl rfl rfl rfl ?_; clear h3; intro X2 h4 _; have q1 : X2.rangeAt yb 0 (Elt.cs y.it) := range_it (at_cd (h4.get 0 rfl)); have q2 : X2.rangeAt W.heap.size 0 (Elt.cs x) := at_it (h4.get 1 rfl))
              | (refine wpList_loadIt (e := y.it) q1 _ rfl rfl rfl ?_; clear q1)
              | (refine wpList_loadIt (e := x) q2 _ rfl rfl rfl ?_; clear q2))
            go_roundw
            case rel => exact ⟨j + 1, by rw [hln.out]; omega, by go_num, notAhead_succ hah.out hy.out hyx.out, h4.tail⟩
            case measure => simp [intOf]; omega
        · obtain rfl : j = m := by omega
          have g2 : ((j : Int) < (j : Int)) = False := eq_false (by omega)
          have ns := Lib.hid (notIn_succ hall.out (by rw [hln.out]; exact hah.out))
          go_wp2
          go_roundw
          case rel => exact ⟨k + 1, by omega, by go_num, ns.out, hst2⟩
          case measure => simp [intOf]; omega
    · obtain rfl : k = n := by omega
      have g1 : ((k : Int) < (k : Int)) = False := eq_false (by omega)
      have nf := Lib.hid (NA.out hall.out)
      go_wp2
      go_ret3
      exact ⟨⟨0, 0, by rw [nf.out]; rfl, (fun c hc => by rw [nf.out] at hc; cases hc), fun _ => ⟨rfl, rfl⟩⟩, hst.bel⟩
end
end Go.Proofs.Ytnogmfpaipjdaaa
