/- Whether two rows of counters are one, as the document says; a copy of a row of ints. No statement is proved here. -/
import Derived.Test.YtcepncdolbfcfaaRefCount
namespace Go.Proofs.Ytcepncdolbfcfaa
open Go.RowKit
set_option linter.unusedVariables false
set_option linter.unusedSimpArgs false
attribute [local irreducible] arrV shaped Ls right putN iarr

def AlikeI (xs ys : List Int) (k : Nat) : Prop := ∀ j, j < k → xs.getD j 0 = ys.getD j 0
theorem alikeI_all {xs ys : List Int} {n k : Nat} (h1 : xs.length = n) (h2 : ys.length = n) (hk : n ≤ k) (h : AlikeI xs ys k) : xs = ys := by
  refine List.ext_getElem (by omega) fun i hi hj => ?_
  have := h i (by omega)
  simpa [List.getD_eq_getElem?_getD, hi, hj] using this
def SmRel (w : World) (M1 M2 n c1 c2 : Nat) (A1 A2 : Option Addr) (xs ys : List Int) (g : Nat) (i : Value) (wr : World) : Prop :=
  ∃ k : Nat, k ≤ n ∧ i = .int .i64 (k : Nat) ∧ AlikeI xs ys k ∧ St w wr [(w.heap.size, 31, #[.int .u64 (M1 : Int), .slice A1 n c1]), (g, 31, #[.int .u64 (M2 : Int), .slice A2 n c2])]
set_option maxHeartbeats 2000000 in
theorem refSame_any (M1 M2 n m c1 c2 : Nat) (A1 A2 : Option Addr) (xs ys : List Int) (w : World) (hx : IRow w w.heap.size A1 n c1 xs) (hy : IRow w w.heap.size A2 m c2 ys) :
    Calls Try.prog 13 #[.agg #[.int .u64 M1, .slice A1 n c1], .agg #[.int .u64 M2, .slice A2 m c2]] w fun e w' => e = .returned (.bool (decide (M1 = M2 ∧ xs = ys))) ∧ Below w.heap.size w w' := by
  have h0 := St.nil w
  have hl1 := hx.len
  have hl2 := hy.len
  have mx1 := hx.max
  have mx2 := hy.max
  have HX := Lib.hid hx
  have HY := Lib.hid hy
  clear hx hy
  by_cases h1 : M1 = M2
  · subst h1
    by_cases h2 : n = m
    · subst h2
      have E : Hid (decide (M1 = M1 ∧ xs = ys) = decide (xs = ys)) := by simp [Hid]
      generalize decide (M1 = M1 ∧ xs = ys) = X at *
      have q1 : ((M1 : Int) == (M1 : Int)) = true := by simp
      go_enter Try.func13, Try.ntmps13
      go_wp2_with (first
      | (refine wpList_box_st h0 31 _ rfl rfl #[.int .u64 (M1 : Int), .slice A1 n c1] rfl ?_; clear h0; intro W1 h1 _ _)
      | (refine wpList_box_st h1 31 _ rfl rfl #[.int .u64 (M1 : Int), .slice A2 n c2] rfl ?_; clear h1; intro W2 h2 _ _; have d0 := h2.cell 0 rfl 0 (.int .u64 (M1 : Int)) rfl; have d1 := h2.cell 0 rfl 1 (.slice A1 n c1) rfl; have f0 := h2.cell 1 rfl 0 (.int .u64 (M1 : Int)) rfl; have f1 := h2.cell 1 rfl 1 (.slice A2 n c2) rfl))
      clear d0 d1 f0 f1
      go_loopw [5] (SmRel w M1 M1 n c1 c2 A1 A2 xs ys W1.heap.size) (fun i _ => n - (intOf i).toNat)
      case atStart => exact ⟨0, by omega, rfl, fun j hj => absurd hj (by omega), h2⟩
      case round =>
        obtain ⟨k, hk, rfl, hall, h6⟩ := hrel
        have HA := Lib.hid hall
        clear hall h2
        have d1 := h6.cell 0 rfl 1 (.slice A1 n c1) rfl
        by_cases hlt : k < n
        · obtain ⟨b1, o1, rfl, hb1, hc1⟩ := HX.out.at_ (by omega)
          obtain ⟨b2, o2, rfl, hb2, hc2⟩ := HY.out.at_ (by omega)
          have hw1 := hc1 k hlt
          have hw2 := hc2 k hlt
          generalize hgx : xs.getD k 0 = x at *
          generalize hgy : ys.getD k 0 = y at *
          have HGX := Lib.hid hgx
          have HGY := Lib.hid hgy
          clear hgx hgy hc1 hc2
          go_wp2
          have H0 := Lib.hid h6.drew
          refine wp_region_held_drew (S := fun W => St w W [(w.heap.size, 31, #[.int .u64 (M1 : Int), .slice (some ⟨b1, o1, none⟩) n c1]), (W1.heap.size, 31, #[.int .u64 (M1 : Int), .slice (some ⟨b2, o2, none⟩) n c2])]) (by kernel_rfl) H0.out (fun _ => ?_)
          generalize wr.drew = V0 at *
          clear h6 d1
          by_cases hxy : x = y
          · have g0 : (x == y) = true := by simpa using hxy
            have g1 : (x != y) = false := by simpa using hxy
            have HXY := Lib.hid hxy
            clear hxy
            refine wpAnyH_take (i := 0) (v := .pointer (some ⟨w.heap.size, 1, none⟩)) rfl (by kernel_rfl) (by kernel_rfl) (by kernel_rfl) (fun _ _ _ h => h) (Or.inl ⟨by rfl, fun W hW => by clear hW; go_simp⟩) H0.out ?_
            try simp only [Act.put, List.getElem_toArray, List.getElem_cons_succ, List.getElem_cons_zero, List.setIfInBounds_toArray, List.set_cons_zero, List.set_cons_succ]
            refine wpAnyH_take (i := 1) (v := .slice (some ⟨b1, o1, none⟩) n c1) rfl (by kernel_rfl) (by kernel_rfl) (by kernel_rfl) (fun _ _ _ h => h) (Or.inl ⟨by rfl, fun W hW => by have hc := hW.cell 0 rfl 1 (.slice (some ⟨b1, o1, none⟩) n c1) rfl; clear hW; go_simp⟩) H0.out ?_
            try simp only [Act.put, List.getElem_toArray, List.getElem_cons_succ, List.getElem_cons_zero, List.setIfInBounds_toArray, List.set_cons_zero, List.set_cons_succ]
            refine wpAnyH_take (i := 2) (v := .int .i64 (k : Int)) rfl (by kernel_rfl) (by kernel_rfl) (by kernel_rfl) (fun _ _ _ h => h) (Or.inl ⟨by rfl, fun W hW => by clear hW; go_simp⟩) H0.out ?_
            try simp only [Act.put, List.getElem_toArray, List.getElem_cons_succ, List.getElem_cons_zero, List.setIfInBounds_toArray, List.set_cons_zero, List.set_cons_succ]
            refine wpAnyH_take (i := 3) (v := .pointer (some ⟨b1, o1 + k, none⟩)) rfl (by kernel_rfl) (by kernel_rfl) (by kernel_rfl) (fun _ _ _ h => h) (Or.inl ⟨by rfl, fun W hW => by clear hW; go_simp⟩) H0.out ?_
            try simp only [Act.put, List.getElem_toArray, List.getElem_cons_succ, List.getElem_cons_zero, List.setIfInBounds_toArray, List.set_cons_zero, List.set_cons_succ]
            refine wpAnyH_take (i := 4) (v := .int .i64 x) rfl (by kernel_rfl) (by kernel_rfl) (by kernel_rfl) (fun _ _ _ h => h) (Or.inl ⟨by rfl, fun W hW => by have hc := (hW.bel.cell (p := ⟨b1, o1 + k, none⟩) hb1).trans hw1; clear hW; go_simp⟩) H0.out ?_
            try simp only [Act.put, List.getElem_toArray, List.getElem_cons_succ, List.getElem_cons_zero, List.setIfInBounds_toArray, List.set_cons_zero, List.set_cons_succ]
            refine wpAnyH_take (i := 5) (v := .pointer (some ⟨W1.heap.size, 1, none⟩)) rfl (by kernel_rfl) (by kernel_rfl) (by kernel_rfl) (fun _ _ _ h => h) (Or.inl ⟨by rfl, fun W hW => by clear hW; go_simp⟩) H0.out ?_
            try simp only [Act.put, List.getElem_toArray, List.getElem_cons_succ, List.getElem_cons_zero, List.setIfInBounds_toArray, List.set_cons_zero, List.set_cons_succ]
            refine wpAnyH_take (i := 6) (v := .slice (some ⟨b2, o2, none⟩) n c2) rfl (by kernel_rfl) (by kernel_rfl) (by kernel_rfl) (fun _ _ _ h => h) (Or.inl ⟨by rfl, fun W hW => by have hc := hW.cell 1 rfl 1 (.slice (some ⟨b2, o2, none⟩) n c2) rfl; clear hW; go_simp⟩) H0.out ?_
            try simp only [Act.put, List.getElem_toArray, List.getElem_cons_succ, List.getElem_cons_zero, List.setIfInBounds_toArray, List.set_cons_zero, List.set_cons_succ]
            refine wpAnyH_take (i := 7) (v := .int .i64 (k : Int)) rfl (by kernel_rfl) (by kernel_rfl) (by kernel_rfl) (fun _ _ _ h => h) (Or.inl ⟨by rfl, fun W hW => by clear hW; go_simp⟩) H0.out ?_
            try simp only [Act.put, List.getElem_toArray, List.getElem_cons_succ, List.getElem_cons_zero, List.setIfInBounds_toArray, List.set_cons_zero, List.set_cons_succ]
            refine wpAnyH_take (i := 8) (v := .pointer (some ⟨b2, o2 + k, none⟩)) rfl (by kernel_rfl) (by kernel_rfl) (by kernel_rfl) (fun _ _ _ h => h) (Or.inl ⟨by rfl, fun W hW => by clear hW; go_simp⟩) H0.out ?_
            try simp only [Act.put, List.getElem_toArray, List.getElem_cons_succ, List.getElem_cons_zero, List.setIfInBounds_toArray, List.set_cons_zero, List.set_cons_succ]
            refine wpAnyH_take (i := 9) (v := .int .i64 y) rfl (by kernel_rfl) (by kernel_rfl) (by kernel_rfl) (fun _ _ _ h => h) (Or.inl ⟨by rfl, fun W hW => by have hc := (hW.bel.cell (p := ⟨b2, o2 + k, none⟩) hb2).trans hw2; clear hW; go_simp⟩) H0.out ?_
            try simp only [Act.put, List.getElem_toArray, List.getElem_cons_succ, List.getElem_cons_zero, List.setIfInBounds_toArray, List.set_cons_zero, List.set_cons_succ]
            refine wpAnyH_take (i := 10) (v := .bool false) rfl (by kernel_rfl) (by kernel_rfl) (by kernel_rfl) (fun _ _ _ h => h) (Or.inl ⟨by rfl, fun W hW => by clear hW; go_simp⟩) H0.out ?_
            try simp only [Act.put, List.getElem_toArray, List.getElem_cons_succ, List.getElem_cons_zero, List.setIfInBounds_toArray, List.set_cons_zero, List.set_cons_succ]
            refine wpAnyH_done (by kernel_rfl) ?_ _
            go_wp2
            go_roundw
            case rel =>
              refine ⟨k + 1, by omega, by go_num, fun j hj => ?_, H0.out⟩
              rcases Nat.lt_or_ge j k with h | h
              · exact HA.out j h
              · obtain rfl : j = k := by omega
                rw [HGX.out, HGY.out, HXY.out]
            case measure => simp [intOf]; omega
          · have g0 : (x == y) = false := by simpa using hxy
            have g1 : (x != y) = true := by simpa using hxy
            have HXY := Lib.hid hxy
            clear hxy
            refine wpAnyH_take (i := 0) (v := .pointer (some ⟨w.heap.size, 1, none⟩)) rfl (by kernel_rfl) (by kernel_rfl) (by kernel_rfl) (fun _ _ _ h => h) (Or.inl ⟨by rfl, fun W hW => by clear hW; go_simp⟩) H0.out ?_
            try simp only [Act.put, List.getElem_toArray, List.getElem_cons_succ, List.getElem_cons_zero, List.setIfInBounds_toArray, List.set_cons_zero, List.set_cons_succ]
            refine wpAnyH_take (i := 1) (v := .slice (some ⟨b1, o1, none⟩) n c1) rfl (by kernel_rfl) (by kernel_rfl) (by kernel_rfl) (fun _ _ _ h => h) (Or.inl ⟨by rfl, fun W hW => by have hc := hW.cell 0 rfl 1 (.slice (some ⟨b1, o1, none⟩) n c1) rfl; clear hW; go_simp⟩) H0.out ?_
            try simp only [Act.put, List.getElem_toArray, List.getElem_cons_succ, List.getElem_cons_zero, List.setIfInBounds_toArray, List.set_cons_zero, List.set_cons_succ]
            refine wpAnyH_take (i := 2) (v := .int .i64 (k : Int)) rfl (by kernel_rfl) (by kernel_rfl) (by kernel_rfl) (fun _ _ _ h => h) (Or.inl ⟨by rfl, fun W hW => by clear hW; go_simp⟩) H0.out ?_
            try simp only [Act.put, List.getElem_toArray, List.getElem_cons_succ, List.getElem_cons_zero, List.setIfInBounds_toArray, List.set_cons_zero, List.set_cons_succ]
            refine wpAnyH_take (i := 3) (v := .pointer (some ⟨b1, o1 + k, none⟩)) rfl (by kernel_rfl) (by kernel_rfl) (by kernel_rfl) (fun _ _ _ h => h) (Or.inl ⟨by rfl, fun W hW => by clear hW; go_simp⟩) H0.out ?_
            try simp only [Act.put, List.getElem_toArray, List.getElem_cons_succ, List.getElem_cons_zero, List.setIfInBounds_toArray, List.set_cons_zero, List.set_cons_succ]
            refine wpAnyH_take (i := 4) (v := .int .i64 x) rfl (by kernel_rfl) (by kernel_rfl) (by kernel_rfl) (fun _ _ _ h => h) (Or.inl ⟨by rfl, fun W hW => by have hc := (hW.bel.cell (p := ⟨b1, o1 + k, none⟩) hb1).trans hw1; clear hW; go_simp⟩) H0.out ?_
            try simp only [Act.put, List.getElem_toArray, List.getElem_cons_succ, List.getElem_cons_zero, List.setIfInBounds_toArray, List.set_cons_zero, List.set_cons_succ]
            refine wpAnyH_take (i := 5) (v := .pointer (some ⟨W1.heap.size, 1, none⟩)) rfl (by kernel_rfl) (by kernel_rfl) (by kernel_rfl) (fun _ _ _ h => h) (Or.inl ⟨by rfl, fun W hW => by clear hW; go_simp⟩) H0.out ?_
            try simp only [Act.put, List.getElem_toArray, List.getElem_cons_succ, List.getElem_cons_zero, List.setIfInBounds_toArray, List.set_cons_zero, List.set_cons_succ]
            refine wpAnyH_take (i := 6) (v := .slice (some ⟨b2, o2, none⟩) n c2) rfl (by kernel_rfl) (by kernel_rfl) (by kernel_rfl) (fun _ _ _ h => h) (Or.inl ⟨by rfl, fun W hW => by have hc := hW.cell 1 rfl 1 (.slice (some ⟨b2, o2, none⟩) n c2) rfl; clear hW; go_simp⟩) H0.out ?_
            try simp only [Act.put, List.getElem_toArray, List.getElem_cons_succ, List.getElem_cons_zero, List.setIfInBounds_toArray, List.set_cons_zero, List.set_cons_succ]
            refine wpAnyH_take (i := 7) (v := .int .i64 (k : Int)) rfl (by kernel_rfl) (by kernel_rfl) (by kernel_rfl) (fun _ _ _ h => h) (Or.inl ⟨by rfl, fun W hW => by clear hW; go_simp⟩) H0.out ?_
            try simp only [Act.put, List.getElem_toArray, List.getElem_cons_succ, List.getElem_cons_zero, List.setIfInBounds_toArray, List.set_cons_zero, List.set_cons_succ]
            refine wpAnyH_take (i := 8) (v := .pointer (some ⟨b2, o2 + k, none⟩)) rfl (by kernel_rfl) (by kernel_rfl) (by kernel_rfl) (fun _ _ _ h => h) (Or.inl ⟨by rfl, fun W hW => by clear hW; go_simp⟩) H0.out ?_
            try simp only [Act.put, List.getElem_toArray, List.getElem_cons_succ, List.getElem_cons_zero, List.setIfInBounds_toArray, List.set_cons_zero, List.set_cons_succ]
            refine wpAnyH_take (i := 9) (v := .int .i64 y) rfl (by kernel_rfl) (by kernel_rfl) (by kernel_rfl) (fun _ _ _ h => h) (Or.inl ⟨by rfl, fun W hW => by have hc := (hW.bel.cell (p := ⟨b2, o2 + k, none⟩) hb2).trans hw2; clear hW; go_simp⟩) H0.out ?_
            try simp only [Act.put, List.getElem_toArray, List.getElem_cons_succ, List.getElem_cons_zero, List.setIfInBounds_toArray, List.set_cons_zero, List.set_cons_succ]
            refine wpAnyH_take (i := 10) (v := .bool true) rfl (by kernel_rfl) (by kernel_rfl) (by kernel_rfl) (fun _ _ _ h => h) (Or.inl ⟨by rfl, fun W hW => by clear hW; go_simp⟩) H0.out ?_
            try simp only [Act.put, List.getElem_toArray, List.getElem_cons_succ, List.getElem_cons_zero, List.setIfInBounds_toArray, List.set_cons_zero, List.set_cons_succ]
            refine wpAnyH_done (by kernel_rfl) ?_ _
            go_wp2
            go_ret
            exact ⟨by rw [E.out]; exact ret_bool (decide_eq_false (fun e => HXY.out (by rw [← HGX.out, ← HGY.out, e]))).symm, H0.out.bel⟩
        · obtain rfl : k = n := by omega
          go_wp2
          go_ret
          exact ⟨by rw [E.out]; exact ret_bool (decide_eq_true (alikeI_all hl1 hl2 (Nat.le_refl _) HA.out)).symm, h6.bel⟩
    · have g0 : ((n : Int) == (m : Int)) = false := by simp; omega
      have g1 : ((n : Int) != (m : Int)) = true := by simp; omega
      have E : Hid (decide (M1 = M1 ∧ xs = ys) = false) := decide_eq_false (fun e => h2 (by rw [← hl1, ← hl2, e.2]))
      generalize decide (M1 = M1 ∧ xs = ys) = X at *
      go_enter Try.func13, Try.ntmps13
      go_wp2_with (first
      | (refine wpList_box_st h0 31 _ rfl rfl #[.int .u64 (M1 : Int), .slice A1 n c1] rfl ?_; clear h0; intro W1 h1 _ _)
      | (refine wpList_box_st h1 31 _ rfl rfl #[.int .u64 (M1 : Int), .slice A2 m c2] rfl ?_; clear h1; intro W2 h2 _ _; have d0 := h2.cell 0 rfl 0 (.int .u64 (M1 : Int)) rfl; have d1 := h2.cell 0 rfl 1 (.slice A1 n c1) rfl; have f0 := h2.cell 1 rfl 0 (.int .u64 (M1 : Int)) rfl; have f1 := h2.cell 1 rfl 1 (.slice A2 m c2) rfl))
      go_ret
      exact ⟨by rw [E.out]; rfl, h2.bel⟩
  · have g0 : ((M1 : Int) == (M2 : Int)) = false := by simp; omega
    have g1 : ((M1 : Int) != (M2 : Int)) = true := by simp; omega
    have E : Hid (decide (M1 = M2 ∧ xs = ys) = false) := decide_eq_false (fun e => h1 e.1)
    generalize decide (M1 = M2 ∧ xs = ys) = X at *
    go_enter Try.func13, Try.ntmps13
    go_wp2_with (first
      | (refine wpList_box_st h0 31 _ rfl rfl #[.int .u64 (M1 : Int), .slice A1 n c1] rfl ?_; clear h0; intro W1 h1 _ _)
      | (refine wpList_box_st h1 31 _ rfl rfl #[.int .u64 (M2 : Int), .slice A2 m c2] rfl ?_; clear h1; intro W2 h2 _ _; have d0 := h2.cell 0 rfl 0 (.int .u64 (M1 : Int)) rfl; have d1 := h2.cell 0 rfl 1 (.slice A1 n c1) rfl; have f0 := h2.cell 1 rfl 0 (.int .u64 (M2 : Int)) rfl; have f1 := h2.cell 1 rfl 1 (.slice A2 m c2) rfl))
    go_ret
    exact ⟨by rw [E.out]; rfl, h2.bel⟩
theorem nilI_no (a : Addr) (n c : Nat) (W : World) : (binOp .eql 29 (.slice (some a) n c) (.slice none 0 0)).run Try.prog W = .ok (.bool false) W := by kernel_rfl
set_option maxRecDepth 20000 in
set_option maxHeartbeats 1000000 in
theorem cloneI_any (A : Option Addr) (n c : Nat) (xs : List Int) (w : World) (hx : IRow w w.heap.size A n c xs) (hn : 0 < n) (hn2 : n ≤ 60) : Calls Try.prog 45 #[.slice A n c] w (GivesIRow w xs) := by
  obtain ⟨b, off, rfl, hb, -⟩ := hx.at_ hn
  have hl := Lib.hid hx.len
  have e0 := nilI_no ⟨b, off, none⟩ n c
  go_enter Try.func45, Try.ntmps45
  go_wp2_with (refine wpList_append_irow _ rfl _ _ rfl w.heap.size _ 0 0 [] rfl (IOwn.empty (Nat.le_refl _)) w.heap.size _ n c xs rfl (hx.alloc (Nat.le_refl _) _) (by omega) (by simp) ?_; intro A2 c2 W2 hO2 hg2 _)
  rw [Nat.zero_add, List.nil_append] at hO2
  go_ret
  obtain rfl := hl.out
  exact ⟨A2, c2, rfl, hO2, ibelow_first hg2⟩
end Go.Proofs.Ytcepncdolbfcfaa
