/- What is cached of an item. No statement is proved here. -/
import Derived.Test.YtnogmfpaipjdaaaFind
namespace Go.Proofs.Ytnogmfpaipjdaaa
open Go.RowKit
open P (Pl right hasI vals)
set_option maxRecDepth 20000
set_option linter.unusedVariables false
set_option linter.unusedSimpArgs false

theorem load_cdA {W : World} {b : Nat} {e : Cd} (h : At W b 59 e.arr) : (loadVar 59 ⟨b, 0, none⟩).run Try.prog W = .ok (.agg e.arr) W := h.loadV 59 _ Try.underlying59 rfl (by rw [e.arr_size]; exact sz59)
theorem load_itA {W : World} {b : Nat} {e : It} (h : At W b 42 e.arr) : (loadVar 42 ⟨b, 0, none⟩).run Try.prog W = .ok (.agg e.arr) W := h.loadV 42 _ Try.underlying42 rfl sz42
/-- Where what is cached of an item stands, in bytes. -/
theorem place_of {p : Pl} {l : List Cd} {x : It} {c : Cd} {k a : Int} (I : Inv p l) (hf : findC l x = some c) (h : FindAt l x k a) : ∃ i j : Nat, k = (i : Int) ∧ a = (j : Int) ∧ i < nb p ∧ c.bk = (i : Int) ∧ (bkL l i)[j]? = some c ∧ j < (bkL l i).length := by
  obtain ⟨h1, j, h2, h3⟩ := h.1 c hf
  obtain ⟨b1, b2⟩ := I.bk c (findC_some hf).1
  obtain ⟨_, _, f3⟩ := nb_facts I.rt
  exact ⟨c.bk.toNat, j, by omega, h2, by omega, by omega, h3, (List.getElem?_eq_some_iff.1 h3).1⟩
attribute [local irreducible] It.arr Cd.arr
section
variable {w W W' : World} {g b : Nat} {p : Pl} {l : List Cd} {L M : Blks}
set_option maxHeartbeats 4000000 in
theorem get_any (h : MC w W g b p l L) (I : Inv p l) (x : It) :
    Calls Try.prog 19 #[.pointer (some ⟨g, 0, none⟩), .agg x.arr] W fun e W' => e = .returned (.tuple #[.agg (getC l x).arr, .bool (findC l x).isSome]) ∧ Below W.heap.size W W' := by
  have FI := Lib.hid (fun V (h : MC w V g b p l L) => find_any h I x)
  have S0 := St.nil W
  have HH := Lib.hid h
  cases hf : findC l x with
  | none =>
    have e1 : Hid (getC l x = zcd) := show _ = _ by unfold getC; rw [hf]; rfl
    have FA := Lib.hid (fun k a (h : FindAt l x k a) => h.2 hf)
    rw [hf] at FI
    generalize getC l x = Z at *
    clear h
    go_enter Try.func19, Try.ntmps19
    go_wp2_with (first
      | (refine wpList_box_it S0 x _ rfl rfl rfl ?_; clear S0; intro W1 h1 hb1)
      | (have _ := h1; refine wpList_alloc_cd h1 rfl rfl ?_; clear h1; intro W2 h2 _; have hm := HH.out.call h2.bel; have q1 : W2.rangeAt W.heap.size 0 (Elt.cs x) := at_it (h2.get 1 rfl); generalize W1.heap.size = zb at *)
      | (refine wpList_loadIt (e := x) q1 _ rfl rfl rfl ?_; clear q1)
      | (have _ := hm; go_at_call 36; refine (FI.out _ hm).mono ?_; rintro e W3 ⟨⟨k, a, rfl, fa⟩, hb3⟩; obtain ⟨rfl, rfl⟩ := FA.out _ _ fa; have h3 := h2.call hb3; clear h2 hm)
      | (have _ := h3; refine wpList_store_cdE h3 0 zcd rfl _ _ rfl rfl rfl _ rfl zcd_lit.symm ?_; clear h3; intro W4 h4 _))
    refine bodyPost_ret (results_cell_tmp Try.results19 _ _ _ rfl _ (load_cdA (h4.get 0 rfl))) rfl ?_
    exact ⟨by rw [e1.out]; rfl, h4.bel⟩
  | some c =>
    have e1 : Hid (getC l x = c) := show _ = _ by unfold getC; rw [hf]; rfl
    have PL := Lib.hid (fun k a (h : FindAt l x k a) => place_of I hf h)
    have BK := Lib.hid (fun i hi => h.bank i hi)
    have c46 := h.c46
    have glt := h.glt
    obtain ⟨f1, f2, _⟩ := nb_facts I.rt
    rw [hf] at FI
    generalize getC l x = Z at *
    clear h
    go_enter Try.func19, Try.ntmps19
    go_wp2_with (first
      | (refine wpList_box_it S0 x _ rfl rfl rfl ?_; clear S0; intro W1 h1 hb1)
      | (have _ := h1; refine wpList_alloc_cd h1 rfl rfl ?_; clear h1; intro W2 h2 _; have hm := HH.out.call h2.bel; have q1 : W2.rangeAt W.heap.size 0 (Elt.cs x) := at_it (h2.get 1 rfl); generalize W1.heap.size = zb at *)
      | (refine wpList_loadIt (e := x) q1 _ rfl rfl rfl ?_; clear q1)
      | (have _ := hm; go_at_call 36; refine (FI.out _ hm).mono ?_; rintro e W3 ⟨⟨k, a, rfl, fa⟩, hb3⟩; obtain ⟨i, j, rfl, rfl, hi, _, hj, hjl⟩ := PL.out _ _ fa; have h3 := h2.call hb3; clear h2 hm fa; obtain ⟨A, q, d0, hr⟩ := BK.out i hi; have d1 := (h3.bel.cell (p := ⟨b, i, none⟩) (cell_lt d0)).trans d0; have d2 := (h3.bel.cell (p := ⟨g, 46, none⟩) glt).trans c46; have mx := hr.max; generalize hln : (bkL l i).length = m at *; obtain ⟨bb, o, rfl, hb2, r⟩ := hr.at_ j c hj; have r' : W3.rangeAt bb (o + j * 36) (Elt.cs c) := rangeAt_keep r (h3.bel.block _ hb2); replace hj := Lib.hid hj; clear r hb2 hr d0 c46 hln; generalize nb p = n at *)
      | (refine wpList_loadCd (e := c) r' _ rfl rfl rfl ?_)
      | (have _ := h3; refine wpList_store_cd h3 0 c rfl _ _ rfl rfl rfl rfl ?_; clear h3; intro W4 h4 _))
    refine bodyPost_ret (results_cell_tmp Try.results19 _ _ _ rfl _ (load_cdA (h4.get 0 rfl))) rfl ?_
    exact ⟨by rw [e1.out]; rfl, h4.bel⟩
end
end Go.Proofs.Ytnogmfpaipjdaaa
