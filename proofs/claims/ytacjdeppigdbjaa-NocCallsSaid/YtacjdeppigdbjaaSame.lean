/- Whether two rows of messages are one. No statement is proved here. -/
import Derived.Test.YtacjdeppigdbjaaRQueue
namespace Go.Proofs.Ytacjdeppigdbjaa
open Go.RowKit
set_option linter.unusedVariables false
set_option linter.unusedSimpArgs false
attribute [local irreducible] Msg.arr bufM marr

def Alike (xs ys : List Msg) (k : Nat) : Prop := ∀ j : Nat, j < k → xs[j]? = ys[j]?
theorem alike_all {xs ys : List Msg} (hl : xs.length = ys.length) (h : Alike xs ys xs.length) : xs = ys := by
  refine List.ext_getElem? fun j => ?_
  by_cases hj : j < xs.length
  · exact h j hj
  · rw [List.getElem?_eq_none (by omega), List.getElem?_eq_none (by omega)]
def SRel (w : World) (xs ys : List Msg) (n : Nat) (i : Value) (wr : World) : Prop :=
  ∃ k : Nat, k ≤ n ∧ i = .int .i64 (k : Nat) ∧ Alike xs ys k ∧ ∃ j, wr = w.drewN j
set_option maxHeartbeats 1000000 in
theorem same_any (A1 A2 : Option Addr) (n m c1 c2 B1 B2 : Nat) (xs ys : List Msg) (w : World) (h1 : ERow w B1 A1 n c1 xs) (h2 : ERow w B2 A2 m c2 ys) :
    Calls Try.prog 19 #[.slice A1 n c1, .slice A2 m c2] w fun e w' => e = .returned (.bool (decide (xs = ys))) ∧ ∃ j, w' = w.drewN j := by
  have l1 := h1.len
  have l2 := h2.len
  have mx := h1.max
  by_cases hnm : n = m
  · subst hnm
    have HX := Lib.hid h1
    have HY := Lib.hid h2
    replace l1 := Lib.hid l1
    replace l2 := Lib.hid l2
    clear h1 h2
    generalize hD : decide (xs = ys) = D
    replace hD := Lib.hid hD
    go_enter Try.func19, Try.ntmps19
    go_wp2
    go_loopw [5] (SRel w xs ys n) (fun i _ => n - (intOf i).toNat)
    case atStart => exact ⟨0, by omega, rfl, fun j hj => absurd hj (by omega), 0, rfl⟩
    case round =>
      obtain ⟨k, hk, rfl, hall, j, rfl⟩ := hrel
      by_cases hlt : k < n
      · have g1 : ((k : Int) < (n : Int)) = True := eq_true (by omega)
        have b1 : k < xs.length := by have := l1.out; omega
        have b2 : k < ys.length := by have := l2.out; omega
        have hx : xs[k]? = some xs[k] := List.getElem?_eq_getElem b1
        have hy : ys[k]? = some ys[k] := List.getElem?_eq_getElem b2
        generalize xs[k] = x at *
        generalize ys[k] = y at *
        clear b1 b2
        obtain ⟨b1, o1, rfl, _, r1⟩ := HX.out.at_ k x hx
        obtain ⟨b2, o2, rfl, _, r2⟩ := HY.out.at_ k y hy
        have r1' : w.rangeAt b1 (o1 + k * 38) x.cs := r1
        have r2' : w.rangeAt b2 (o2 + k * 38) y.cs := r2
        have H0 := Lib.hid (show (w.drewN j).drew.rangeAt b1 (o1 + k * 38) x.cs ∧ (w.drewN j).drew.rangeAt b2 (o2 + k * 38) y.cs from ⟨r1', r2'⟩)
        replace hall := Lib.hid hall
        replace hx := Lib.hid hx
        replace hy := Lib.hid hy
        clear r1 r2 r1' r2'
        by_cases hxy : x = y
        · have NQ : ∀ W, (binOp .neq 31 (.agg x.arr) (.agg y.arr)).run Try.prog W = .ok (.bool false) W := fun W => by rw [neq_msg, decide_eq_true hxy]; rfl
          replace hxy := Lib.hid hxy
          go_wp2
          refine wp_region_held_drew (S := fun W => W.rangeAt b1 (o1 + k * 38) x.cs ∧ W.rangeAt b2 (o2 + k * 38) y.cs) (by kernel_rfl) H0.out (fun _ => ?_)
          refine wpAnyH_take (i := 0) (v := .slice (some ⟨b1, o1, none⟩) n c1) rfl (by kernel_rfl) (by kernel_rfl) (by kernel_rfl) (fun _ _ _ h => h) (Or.inl ⟨by rfl, fun W hW => by clear hW; go_simp⟩) H0.out ?_
          try simp only [Act.put, List.getElem_toArray, List.getElem_cons_succ, List.getElem_cons_zero, List.setIfInBounds_toArray, List.set_cons_zero, List.set_cons_succ]
          refine wpAnyH_take (i := 1) (v := .int .i64 (k : Int)) rfl (by kernel_rfl) (by kernel_rfl) (by kernel_rfl) (fun _ _ _ h => h) (Or.inl ⟨by rfl, fun W hW => by clear hW; go_simp⟩) H0.out ?_
          try simp only [Act.put, List.getElem_toArray, List.getElem_cons_succ, List.getElem_cons_zero, List.setIfInBounds_toArray, List.set_cons_zero, List.set_cons_succ]
          refine wpAnyH_take (i := 2) (v := .pointer (some ⟨b1, o1 + k * 38, none⟩)) rfl (by kernel_rfl) (by kernel_rfl) (by kernel_rfl) (fun _ _ _ h => h) (Or.inl ⟨by rfl, fun W hW => by clear hW; go_simp⟩) H0.out ?_
          try simp only [Act.put, List.getElem_toArray, List.getElem_cons_succ, List.getElem_cons_zero, List.setIfInBounds_toArray, List.set_cons_zero, List.set_cons_succ]
          refine wpAnyH_take (i := 3) (v := .agg x.arr) rfl (by kernel_rfl) (by kernel_rfl) (by kernel_rfl) (fun _ _ _ h => h) (yields_loadM _ rfl (by rfl) rfl (fun W hW => hW.1)) H0.out ?_
          try simp only [Act.put, List.getElem_toArray, List.getElem_cons_succ, List.getElem_cons_zero, List.setIfInBounds_toArray, List.set_cons_zero, List.set_cons_succ]
          refine wpAnyH_take (i := 4) (v := .slice (some ⟨b2, o2, none⟩) n c2) rfl (by kernel_rfl) (by kernel_rfl) (by kernel_rfl) (fun _ _ _ h => h) (Or.inl ⟨by rfl, fun W hW => by clear hW; go_simp⟩) H0.out ?_
          try simp only [Act.put, List.getElem_toArray, List.getElem_cons_succ, List.getElem_cons_zero, List.setIfInBounds_toArray, List.set_cons_zero, List.set_cons_succ]
          refine wpAnyH_take (i := 5) (v := .int .i64 (k : Int)) rfl (by kernel_rfl) (by kernel_rfl) (by kernel_rfl) (fun _ _ _ h => h) (Or.inl ⟨by rfl, fun W hW => by clear hW; go_simp⟩) H0.out ?_
          try simp only [Act.put, List.getElem_toArray, List.getElem_cons_succ, List.getElem_cons_zero, List.setIfInBounds_toArray, List.set_cons_zero, List.set_cons_succ]
          refine wpAnyH_take (i := 6) (v := .pointer (some ⟨b2, o2 + k * 38, none⟩)) rfl (by kernel_rfl) (by kernel_rfl) (by kernel_rfl) (fun _ _ _ h => h) (Or.inl ⟨by rfl, fun W hW => by clear hW; go_simp⟩) H0.out ?_
          try simp only [Act.put, List.getElem_toArray, List.getElem_cons_succ, List.getElem_cons_zero, List.setIfInBounds_toArray, List.set_cons_zero, List.set_cons_succ]
          refine wpAnyH_take (i := 7) (v := .agg y.arr) rfl (by kernel_rfl) (by kernel_rfl) (by kernel_rfl) (fun _ _ _ h => h) (yields_loadM _ rfl (by rfl) rfl (fun W hW => hW.2)) H0.out ?_
          try simp only [Act.put, List.getElem_toArray, List.getElem_cons_succ, List.getElem_cons_zero, List.setIfInBounds_toArray, List.set_cons_zero, List.set_cons_succ]
          refine wpAnyH_take (i := 8) (v := .bool false) rfl (by kernel_rfl) (by kernel_rfl) (by kernel_rfl) (fun _ _ _ h => h) (Or.inl ⟨by rfl, fun W hW => by clear hW; go_simp⟩) H0.out ?_
          try simp only [Act.put, List.getElem_toArray, List.getElem_cons_succ, List.getElem_cons_zero, List.setIfInBounds_toArray, List.set_cons_zero, List.set_cons_succ]
          refine wpAnyH_done (by kernel_rfl) ?_ _
          go_wp2
          go_roundw
          case rel => exact ⟨k + 1, by omega, by go_num, fun i hi => by
            rcases Nat.lt_or_ge i k with q | q
            · exact hall.out i q
            · obtain rfl : i = k := by omega
              rw [hx.out, hy.out, hxy.out], j + 1, rfl⟩
          case measure => simp [intOf]; omega
        · have NQ : ∀ W, (binOp .neq 31 (.agg x.arr) (.agg y.arr)).run Try.prog W = .ok (.bool true) W := fun W => by rw [neq_msg, decide_eq_false hxy]; rfl
          have hD2 : Hid (D = false) := by
            have : D = false := by
              rw [← hD.out]
              refine decide_eq_false fun e => hxy ?_
              have e1 := hx.out; have e2 := hy.out
              rw [e, e2] at e1
              injection e1 with e1
              exact e1.symm
            exact this
          replace hxy := Lib.hid hxy
          go_wp2
          refine wp_region_held_drew (S := fun W => W.rangeAt b1 (o1 + k * 38) x.cs ∧ W.rangeAt b2 (o2 + k * 38) y.cs) (by kernel_rfl) H0.out (fun _ => ?_)
          refine wpAnyH_take (i := 0) (v := .slice (some ⟨b1, o1, none⟩) n c1) rfl (by kernel_rfl) (by kernel_rfl) (by kernel_rfl) (fun _ _ _ h => h) (Or.inl ⟨by rfl, fun W hW => by clear hW; go_simp⟩) H0.out ?_
          try simp only [Act.put, List.getElem_toArray, List.getElem_cons_succ, List.getElem_cons_zero, List.setIfInBounds_toArray, List.set_cons_zero, List.set_cons_succ]
          refine wpAnyH_take (i := 1) (v := .int .i64 (k : Int)) rfl (by kernel_rfl) (by kernel_rfl) (by kernel_rfl) (fun _ _ _ h => h) (Or.inl ⟨by rfl, fun W hW => by clear hW; go_simp⟩) H0.out ?_
          try simp only [Act.put, List.getElem_toArray, List.getElem_cons_succ, List.getElem_cons_zero, List.setIfInBounds_toArray, List.set_cons_zero, List.set_cons_succ]
          refine wpAnyH_take (i := 2) (v := .pointer (some ⟨b1, o1 + k * 38, none⟩)) rfl (by kernel_rfl) (by kernel_rfl) (by kernel_rfl) (fun _ _ _ h => h) (Or.inl ⟨by rfl, fun W hW => by clear hW; go_simp⟩) H0.out ?_
          try simp only [Act.put, List.getElem_toArray, List.getElem_cons_succ, List.getElem_cons_zero, List.setIfInBounds_toArray, List.set_cons_zero, List.set_cons_succ]
          refine wpAnyH_take (i := 3) (v := .agg x.arr) rfl (by kernel_rfl) (by kernel_rfl) (by kernel_rfl) (fun _ _ _ h => h) (yields_loadM _ rfl (by rfl) rfl (fun W hW => hW.1)) H0.out ?_
          try simp only [Act.put, List.getElem_toArray, List.getElem_cons_succ, List.getElem_cons_zero, List.setIfInBounds_toArray, List.set_cons_zero, List.set_cons_succ]
          refine wpAnyH_take (i := 4) (v := .slice (some ⟨b2, o2, none⟩) n c2) rfl (by kernel_rfl) (by kernel_rfl) (by kernel_rfl) (fun _ _ _ h => h) (Or.inl ⟨by rfl, fun W hW => by clear hW; go_simp⟩) H0.out ?_
          try simp only [Act.put, List.getElem_toArray, List.getElem_cons_succ, List.getElem_cons_zero, List.setIfInBounds_toArray, List.set_cons_zero, List.set_cons_succ]
          refine wpAnyH_take (i := 5) (v := .int .i64 (k : Int)) rfl (by kernel_rfl) (by kernel_rfl) (by kernel_rfl) (fun _ _ _ h => h) (Or.inl ⟨by rfl, fun W hW => by clear hW; go_simp⟩) H0.out ?_
          try simp only [Act.put, List.getElem_toArray, List.getElem_cons_succ, List.getElem_cons_zero, List.setIfInBounds_toArray, List.set_cons_zero, List.set_cons_succ]
          refine wpAnyH_take (i := 6) (v := .pointer (some ⟨b2, o2 + k * 38, none⟩)) rfl (by kernel_rfl) (by kernel_rfl) (by kernel_rfl) (fun _ _ _ h => h) (Or.inl ⟨by rfl, fun W hW => by clear hW; go_simp⟩) H0.out ?_
          try simp only [Act.put, List.getElem_toArray, List.getElem_cons_succ, List.getElem_cons_zero, List.setIfInBounds_toArray, List.set_cons_zero, List.set_cons_succ]
          refine wpAnyH_take (i := 7) (v := .agg y.arr) rfl (by kernel_rfl) (by kernel_rfl) (by kernel_rfl) (fun _ _ _ h => h) (yields_loadM _ rfl (by rfl) rfl (fun W hW => hW.2)) H0.out ?_
          try simp only [Act.put, List.getElem_toArray, List.getElem_cons_succ, List.getElem_cons_zero, List.setIfInBounds_toArray, List.set_cons_zero, List.set_cons_succ]
          refine wpAnyH_take (i := 8) (v := .bool true) rfl (by kernel_rfl) (by kernel_rfl) (by kernel_rfl) (fun _ _ _ h => h) (Or.inl ⟨by rfl, fun W hW => by clear hW; go_simp⟩) H0.out ?_
          try simp only [Act.put, List.getElem_toArray, List.getElem_cons_succ, List.getElem_cons_zero, List.setIfInBounds_toArray, List.set_cons_zero, List.set_cons_succ]
          refine wpAnyH_done (by kernel_rfl) ?_ _
          go_wp2
          go_ret
          exact ⟨by rw [hD2.out]; rfl, j + 1, rfl⟩
      · obtain rfl : k = n := by omega
        have g1 : ((k : Int) < (k : Int)) = False := eq_false (by omega)
        have hD2 : Hid (D = true) := by
          have : D = true := by
            rw [← hD.out]
            exact decide_eq_true (alike_all (by rw [l1.out, l2.out]) (by rw [l1.out]; exact hall))
          exact this
        go_wp2
        go_ret
        exact ⟨by rw [hD2.out]; rfl, j, rfl⟩
  · have hD : Hid (decide (xs = ys) = false) := by
      have : decide (xs = ys) = false := decide_eq_false fun e => hnm (by rw [← l1, ← l2, e])
      exact this
    generalize decide (xs = ys) = D at *
    have g0 : ((n : Int) != (m : Int)) = true := by simp; omega
    have g1 : ((n : Int) = (m : Int)) = False := eq_false (by omega)
    clear h1 h2 l1 l2
    go_enter Try.func19, Try.ntmps19
    go_wp2
    go_ret
    exact ⟨by rw [hD.out]; rfl, 0, rfl⟩
end Go.Proofs.Ytacjdeppigdbjaa
