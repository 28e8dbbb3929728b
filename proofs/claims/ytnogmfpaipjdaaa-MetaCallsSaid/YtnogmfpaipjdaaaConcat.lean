/- The rows of all banks, one behind the other; all that is cached, in the items' order. No statement is proved here. -/
import Derived.Test.YtnogmfpaipjdaaaSort2
import Derived.Lib.AppendZerosOnto
namespace Go.Proofs.Ytnogmfpaipjdaaa
open Go.RowKit
open P (Pl right hasI vals)
set_option maxRecDepth 20000
set_option linter.unusedVariables false
set_option linter.unusedSimpArgs false

section
variable {ops : Array Oper} {rest : List Oper} {o : Oper} {a : Act} {W : World} {Q : Exit → Act → World → Prop}
/-- An append of so many zero values, whose run is known. -/
theorem wpList_append_known (s x : Operand) (t u : TypeId) (ho : o.op = .call { callee := .builtin .append, args := #[s, x], argTypes := #[t, u] }) (hw : Region.wanted o (yielded ops a.tmps) = true)
    (vs vx v : Value) (W' : World) (hs : a.eval s = vs) (hx : a.eval x = vx) (hrun : ∀ ty, (Builtin.append_ #[t, u] ty #[vs, vx]).run Try.prog W = .ok v W')
    (k : wpList Try.prog ops Q rest (a.put o.dst v) W') : wpList Try.prog ops Q (o :: rest) a W := by
  unfold wpList
  rw [if_pos hw]
  refine .inl ?_
  unfold Oper.wp execOp
  simp only [ho, resolve, invoke, builtin, Sem.run_bind, Sem.run_pure, Result.andThen_ok, List.map_toArray, List.map_cons, List.map_nil, hs, hx, hrun]
  exact k
end
/-- Room for so many. -/
theorem grow_any (n : Nat) (hn : n ≤ 1000) (W : World) : Calls Try.prog 56 #[.slice none 0 0, .int .i64 (n : Int)] W fun e W' => ∃ v M, e = .returned v ∧ RL v ([] : List Cd) M ∧ St W W' M := by
  have q1 : ((n : Int) < 0) = False := eq_false (by omega)
  rcases Nat.eq_zero_or_pos n with rfl | hp
  · go_enter Try.func56, Try.ntmps56
    go_wp2
    go_ret
    exact ⟨_, [], rfl, RL.nil_, St.nil W⟩
  · obtain ⟨i, hi, hz, h1, h2⟩ := (inferInstance : Elt Cd).inf
    have hrz : ∀ ty, (Builtin.append_ #[38, 3] ty #[.slice none 0 0, .int .i64 (n : Int)]).run Try.prog W = .ok (.slice (some ⟨W.heap.size, 0, none⟩) n (grownCap W n 0 59))
        (W.drew.alloc (.cells (([] : List Value).toArray ++ Builtin.zeroCells (Elt.zv Cd).cells n ++ Builtin.zeroCells (Elt.zv Cd).cells (grownCap W n 0 59 - n)) 59)) := fun ty => by
      have h := Lib.run_append_grow_zeros (P := Try.prog) W 38 3 ty 59 i (Elt.zv Cd) .i64 .i64 Try.underlying38 Try.underlying3 hi hz none 0 0 [] (run_firstCells_none W.drew i.size 0 0 0) n hp (by rw [h1]; exact (inferInstance : Elt Cd).pos) (by omega) (by omega)
        (by rw [h2]; show n * 64 ≤ _; omega) (growslice_fits (by omega) (by rw [h2]; show (0 + n) * 64 ≤ _; omega))
      simpa using h
    have hge : n ≤ grownCap W n 0 59 := grownCap_ge W _ _ _
    have hle : grownCap W n 0 59 ≤ maxLen := grownCap_le_maxLen W n 0 59 (by unfold maxLen; omega)
    have S1 := ((St.nil W).drew.push 59 (([] : List Value).toArray ++ Builtin.zeroCells (Elt.zv Cd).cells n ++ Builtin.zeroCells (Elt.zv Cd).cells (grownCap W n 0 59 - n))).front
    have hsz : (([] : List Value).toArray ++ Builtin.zeroCells (Elt.zv Cd).cells n ++ Builtin.zeroCells (Elt.zv Cd).cells (grownCap W n 0 59 - n)).size = grownCap W n 0 59 * 36 := by
      have hzs : (Elt.zv Cd).cells.size = 36 := zcd.arr_size
      simp only [Array.size_append, Builtin.zeroCells, Array.size_map, Array.size_range, hzs]
      show 0 + n * 36 + (grownCap W n 0 59 - n) * 36 = _
      rw [Nat.zero_add, ← Nat.add_mul]
      congr 1
      omega
    have hd : W.drew.heap.size = W.heap.size := rfl
    rw [hd] at S1
    generalize (([] : List Value).toArray ++ Builtin.zeroCells (Elt.zv Cd).cells n ++ Builtin.zeroCells (Elt.zv Cd).cells (grownCap W n 0 59 - n)) = cur at *
    generalize grownCap W n 0 59 = G at *
    generalize W.drew.alloc (.cells cur 59) = W1 at *
    have R := Lib.hid (show RL (.slice (some ⟨W.heap.size, 0, none⟩) 0 G) ([] : List Cd) [(W.heap.size, C 59 cur)] from .inr ⟨W.heap.size, G, cur, rfl, rfl, by simp, hle, hsz, by simp [ecells]⟩)
    have hG : G ≤ 9223372036854775807 := by unfold maxLen at hle; omega
    have q2 : ((n : Int) > 0) = True := eq_true (by omega)
    have q3 : ((0 : Int) < (n : Int)) = True := eq_true (by omega)
    replace S1 := Lib.hid S1
    clear hsz hle hd h1 h2 hz hi
    go_enter Try.func56, Try.ntmps56
    go_wp2_with (refine wpList_append_known _ _ 38 3 rfl rfl _ _ _ W1 rfl rfl hrz ?_)
    go_ret
    exact ⟨_, _, rfl, R.out, S1.out⟩
/-- The first rows, one behind the other. -/
def catL (xs : Nat → List Cd) (k : Nat) : List Cd := (List.range k).flatMap xs
theorem catL_succ (xs : Nat → List Cd) (k : Nat) : catL xs (k + 1) = catL xs k ++ xs k := by
  unfold catL
  rw [List.range_succ, List.flatMap_append]
  simp
theorem catL_mono (xs : Nat → List Cd) {k n : Nat} (h : k ≤ n) : (catL xs k).length ≤ (catL xs n).length := by
  induction n with
  | zero => obtain rfl : k = 0 := by omega
            exact Nat.le_refl _
  | succ n ih =>
    rcases Nat.lt_or_ge k (n + 1) with q | q
    · have := ih (by omega)
      rw [catL_succ, List.length_append]; omega
    · obtain rfl : k = n + 1 := by omega
      exact Nat.le_refl _
def C1Rel (W : World) (xs : Nat → List Cd) (N : Nat) (s i : Value) (wr : World) : Prop :=
  ∃ k : Nat, k ≤ N ∧ i = .int .i64 (k : Nat) ∧ s = .int .i64 ((catL xs k).length : Nat) ∧ wr = W
def C2Rel (W : World) (xs : Nat → List Cd) (N : Nat) (v i : Value) (wr : World) : Prop :=
  ∃ (k : Nat) (M : Blks), k ≤ N ∧ i = .int .i64 (k : Nat) ∧ RL v (catL xs k) M ∧ St W wr M
set_option maxHeartbeats 2000000 in
theorem concat_any (b N : Nat) (xs : Nat → List Cd) (W : World) (hN : N ≤ 64) (hT : (catL xs N).length ≤ 1000)
    (BK : ∀ i, i < N → ∃ A q, W.cell? ⟨b, i, none⟩ = some (.slice A (xs i).length q) ∧ ERow W W.heap.size A (xs i).length q (xs i)) :
    Calls Try.prog 42 #[.slice (some ⟨b, 0, none⟩) N N] W fun e W' => ∃ v M, e = .returned v ∧ RL v (catL xs N) M ∧ St W W' M := by
  have GW := Lib.hid (fun n hn V => grow_any n hn V)
  have HB := Lib.hid BK
  have MO := Lib.hid (fun k (h : k ≤ N) => Nat.le_trans (catL_mono xs h) hT)
  clear BK
  go_enter Try.func42, Try.ntmps42
  go_wp2
  go_loopw [3, 11] (C1Rel W xs N) (fun _ i _ => N - (intOf i).toNat)
  case atStart => exact ⟨0, by omega, rfl, rfl, rfl⟩
  case round =>
    obtain ⟨k, hk, rfl, rfl, rfl⟩ := hrel
    by_cases hlt : k < N
    · have g1 : ((k : Int) < (N : Int)) = True := eq_true (by omega)
      obtain ⟨A, q, d0, hr⟩ := HB.out k hlt
      have m1 := MO.out (k + 1) (by omega)
      have e1 : (catL xs (k + 1)).length = (catL xs k).length + (xs k).length := by rw [catL_succ, List.length_append]
      have hr := Lib.hid hr
      rw [e1] at m1
      replace e1 := Lib.hid e1
      generalize (catL xs k).length = s at *
      generalize (xs k).length = m at *
      have hw : IntKind.i64.wrap ((s : Int) + (m : Int)) = ((s + m : Nat) : Int) := by rw [show (s : Int) + (m : Int) = ((s + m : Nat) : Int) by omega]; exact IntWalk.i64_in _ (by omega)
      have g2 : (((s + m : Nat) : Int) < 0) = False := eq_false (by omega)
      have g3 : ((s : Int) + (m : Int) < 0) = False := eq_false (by omega)
      go_wp2
      go_roundw
      case rel => exact ⟨k + 1, by omega, by go_num, by rw [e1.out]; go_num, rfl⟩
      case measure => simp [intOf]; omega
    · obtain rfl : k = N := by omega
      have g1 : ((k : Int) < (k : Int)) = False := eq_false (by omega)
      have GW1 := Lib.hid (GW.out (catL xs k).length hT wr)
      go_wp2_with (go_at_call 56; refine GW1.out.mono ?_; rintro e X1 ⟨v, M, rfl, hr0, hst⟩)
      clear g1 hlt
      go_loopw [6, 27] (C2Rel wr xs k) (fun _ i _ => k - (intOf i).toNat)
      case atStart => exact ⟨0, M, by omega, rfl, hr0, hst⟩
      case round =>
        obtain ⟨j, M1, hj, rfl, hr1, hst1⟩ := hrel
        clear hr0 hst
        by_cases hlt : j < k
        · have g1 : ((j : Int) < (k : Int)) = True := eq_true (by omega)
          obtain ⟨A, q, d0, hr⟩ := HB.out j hlt
          have d1 := (hst1.bel.cell (p := ⟨b, j, none⟩) (cell_lt d0)).trans d0
          have hr2 := Lib.hid (hr.below hst1.bel)
          have mx := hr.max
          have m1 := MO.out (j + 1) (by omega)
          rw [catL_succ, List.length_append] at m1
          have LE := Lib.hid (show (catL xs j).length + (xs j).length ≤ 100000 by omega)
          have e1 := Lib.hid (catL_succ xs j)
          generalize hln : (xs j).length = m at *
          clear hr d0
          go_wp2_with (refine wpList_append_rl (ys := xs j) (L := []) hr1 (by rw [List.append_nil]; exact hst1) hr2.out _ _ rfl rfl rfl rfl LE.out ?_; clear hr1 hst1 d1; intro v2 Y2 M2 hr3 h3; rw [List.append_nil] at h3)
          go_roundw
          case rel => exact ⟨j + 1, M2, by omega, by go_num, by rw [e1.out]; exact hr3, h3⟩
          case measure => simp [intOf]; omega
        · obtain rfl : j = k := by omega
          have g1 : ((j : Int) < (j : Int)) = False := eq_false (by omega)
          go_wp2
          go_ret
          exact ⟨_, M1, rfl, hr1, hst1⟩
/-- All that is cached, in the items' order. -/
def IsAll (l ys : List Cd) : Prop := ys.Perm l ∧ ys.Pairwise (fun a b => ltI a.it b.it)
theorem IsAll.uniq {l ys zs : List Cd} (h1 : IsAll l ys) (h2 : IsAll l zs) : ys = zs :=
  List.Perm.eq_of_pairwise (fun a b _ _ h3 h4 => by unfold ltI at h3 h4; omega) h1.2 h2.2 (h1.1.trans h2.1.symm)
theorem cat_filter (l : List Cd) (h : ∀ c ∈ l, 0 ≤ c.bk) (n : Nat) : (catL (bkL l) n).Perm (l.filter (fun c => decide (c.bk < (n : Int)))) := by
  induction n with
  | zero =>
    rw [List.filter_eq_nil_iff.2 (fun c hc => by have := h c hc; simp; omega)]
    exact .refl _
  | succ n ih =>
    rw [catL_succ]
    refine (ih.append_right _).trans ?_
    have e1 : l.filter (fun c => decide (c.bk < (n : Int))) = (l.filter (fun c => decide (c.bk < ((n + 1 : Nat) : Int)))).filter (fun c => decide (c.bk < (n : Int))) := by
      rw [List.filter_filter]
      congr 1
      funext c
      rw [Bool.eq_iff_iff]
      simp
      omega
    have e2 : bkL l n = (l.filter (fun c => decide (c.bk < ((n + 1 : Nat) : Int)))).filter (fun c => !decide (c.bk < (n : Int))) := by
      unfold bkL
      rw [List.filter_filter]
      congr 1
      funext c
      rw [Bool.eq_iff_iff]
      simp
      omega
    rw [e1, e2]
    exact List.filter_append_perm _ _
theorem cat_perm {p : Pl} {l : List Cd} (I : Inv p l) : (catL (bkL l) (nb p)).Perm l := by
  obtain ⟨_, _, f3⟩ := nb_facts I.rt
  have := cat_filter l (fun c hc => (I.bk c hc).1) (nb p)
  rwa [List.filter_eq_self.2 (fun c hc => by have := (I.bk c hc).2; simp; omega)] at this
theorem isAll_of {p : Pl} {l ys : List Cd} (I : Inv p l) (h1 : ys.Perm l) (h2 : ys.Pairwise (fun a b => ¬ ltI b.it a.it)) : IsAll l ys := by
  refine ⟨h1, ?_⟩
  have hn : (ys.map (·.it)).Nodup := (h1.map _).nodup_iff.2 I.nd
  rw [List.nodup_iff_pairwise_ne, List.pairwise_map] at hn
  refine (h2.and hn).imp fun {a b} ⟨h3, h4⟩ => ?_
  unfold ltI at h3 ⊢
  have : ¬ (a.it.l = b.it.l ∧ a.it.x = b.it.x) := fun e => h4 (by
    obtain ⟨⟨_, _⟩, _, _, _, _⟩ := a
    obtain ⟨⟨_, _⟩, _, _, _, _⟩ := b
    simp only at e
    rw [e.1, e.2])
  omega
section
variable {w W W' : World} {g b : Nat} {p : Pl} {l : List Cd} {L M : Blks}
theorem all_any (h : MC w W g b p l L) (I : Inv p l) (hl : l.length ≤ 1000) :
    Calls Try.prog 24 #[.pointer (some ⟨g, 0, none⟩)] W fun e W' => ∃ v M ys, e = .returned v ∧ RL v ys M ∧ IsAll l ys ∧ St W W' M := by
  have c46 := h.c46
  obtain ⟨f1, f2, _⟩ := nb_facts I.rt
  have hcl : (catL (bkL l) (nb p)).length = l.length := (cat_perm I).length_eq
  have CC := Lib.hid (concat_any b (nb p) (bkL l) W (by omega) (by omega) (fun i hi => h.bank i hi))
  have IA := Lib.hid (fun (ys : List Cd) (h1 : ys.Perm (catL (bkL l) (nb p))) h2 => isAll_of I (h1.trans (cat_perm I)) h2)
  have HL := Lib.hid (show (catL (bkL l) (nb p)).length ≤ 100000 by omega)
  clear h hcl
  generalize catL (bkL l) (nb p) = cs at *
  generalize nb p = N at *
  go_enter Try.func24, Try.ntmps24
  go_wp2_with (first
    | (have _ := c46; go_at_call 42; refine CC.out.mono ?_; rintro e W2 ⟨v, M, rfl, hr, hst⟩; clear c46 CC)
    | (have _ := hst; go_at_call 43; refine (sort_any (L := []) hr (by rw [List.append_nil]; exact hst) HL.out).mono ?_; clear hst; rintro e W3 ⟨rfl, M2, ys, hr2, hp, hs, hst2⟩; rw [List.append_nil] at hst2))
  go_ret
  exact ⟨v, M2, ys, rfl, hr2, IA.out ys hp hs, hst2⟩
end
end Go.Proofs.Ytnogmfpaipjdaaa
