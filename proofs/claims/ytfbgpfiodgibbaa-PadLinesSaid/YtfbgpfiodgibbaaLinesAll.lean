/- For every input the law PadLines returns true (its walk): the document's Same and Twice on rows of seeds, its key in memory beside the pads, and the law itself. No condition. -/
import Derived.Test.YtfbgpfiodgibbaaPTwice2
import Derived.Test.YtfbgpfiodgibbaaPRef2
import Derived.Test.YtfbgpfiodgibbaaBackWalk
import Derived.Test.YtfbgpfiodgibbaaPRef3
import Derived.Deep.CutRange
namespace Go.Proofs.Ytfbgpfiodgibbaa
open Go.RowKit
open A (arrV vals)
set_option linter.unusedVariables false
set_option linter.unusedSimpArgs false

theorem eq42 (d : Nat) (s t : Sd) (w : World) : (Op.equalIn (d + 2) 42 (.agg s.arr) (.agg t.arr)).run Try.prog w = .ok (decide (s = t)) w := by
  unfold Sd.arr
  rw [run_equalIn_struct w (d + 1) 42 _ _ (by kernel_rfl) (by kernel_rfl)]
  have hf : (Try.prog.fieldsOf 42).toList.map (fun f => (f.name, f.type, f.offset)) = [("Line", 3, 0), ("Major", 34, 1), ("Minor", 3, 2), ("Block", 3, 3)] := by kernel_rfl
  generalize (Try.prog.fieldsOf 42).toList = fs at hf
  have hl : fs.length = 4 := by simpa using congrArg List.length hf
  have hs : decide (s = t) = ((s.l == t.l) && (((s.M : Int) == (t.M : Int)) && ((s.m == t.m) && (s.b == t.b)))) := by
    obtain ⟨_, _, _, _⟩ := s
    obtain ⟨_, _, _, _⟩ := t
    rw [Bool.eq_iff_iff]
    simp only [decide_eq_true_eq, Sd.mk.injEq, Bool.and_eq_true, beq_iff_eq, Int.ofNat_inj]
  match fs, hl, hf with
  | [f1, f2, f3, f4], _, hf =>
    simp only [List.map_cons, List.map_nil, List.cons.injEq, Prod.mk.injEq, and_true] at hf
    obtain ⟨⟨n1, t1, o1⟩, ⟨n2, t2, o2⟩, ⟨n3, t3, o3⟩, n4, t4, o4⟩ := hf
    have p1 : ∀ x y z u : Int, (part 3 #[.int .i64 x, .int .u64 y, .int .i64 z, .int .i64 u] 0).run Try.prog w = .ok (.int .i64 x) w := fun x y z u => by simp [part, isAgg, run_underlying Try.underlying3]
    have p2 : ∀ x y z u : Int, (part 34 #[.int .i64 x, .int .u64 y, .int .i64 z, .int .i64 u] 1).run Try.prog w = .ok (.int .u64 y) w := fun x y z u => by simp [part, isAgg, run_underlying Try.underlying34]
    have p3 : ∀ x y z u : Int, (part 3 #[.int .i64 x, .int .u64 y, .int .i64 z, .int .i64 u] 2).run Try.prog w = .ok (.int .i64 z) w := fun x y z u => by simp [part, isAgg, run_underlying Try.underlying3]
    have p4 : ∀ x y z u : Int, (part 3 #[.int .i64 x, .int .u64 y, .int .i64 z, .int .i64 u] 3).run Try.prog w = .ok (.int .i64 u) w := fun x y z u => by simp [part, isAgg, run_underlying Try.underlying3]
    rw [hs]
    cases h1 : (s.l == t.l) <;> cases h2 : ((s.M : Int) == (t.M : Int)) <;> cases h3 : (s.m == t.m) <;> cases h4 : (s.b == t.b) <;> simp [Op.eqFields, n1, n2, n3, n4, t1, t2, t3, t4, o1, o2, o3, o4, Sem.run_bind, p1, p2, p3, p4, run_equalIn_int w d 3 .i64 .i64 _ _ Try.underlying3, run_equalIn_int w d 34 .u64 .u64 _ _ Try.underlying34, h1, h2, h3, h4]
theorem eql_sd (s t : Sd) (w : World) : (binOp .eql 42 (.agg s.arr) (.agg t.arr)).run Try.prog w = .ok (.bool (decide (s = t))) w := by
  rw [run_eql_struct, eq42 9998 s t]; rfl
theorem neq_sd (s t : Sd) (w : World) : (binOp .neq 42 (.agg s.arr) (.agg t.arr)).run Try.prog w = .ok (.bool (!decide (s = t))) w := by
  rw [run_neq_struct, eq42 9998 s t]; rfl

theorem sd_at {W : World} {B : Nat} {A : Option Addr} {n c : Nat} {xs : List Sd} (h : ERow W B A n c xs) (k : Nat) (hk : k < n) : ∃ b off, A = some ⟨b, off, none⟩ ∧ b < B ∧ W.rangeAt b (off + k * 4) (Elt.cs (xs.getD k default)) := by
  obtain ⟨b, off, h1, h2, h3⟩ := h.at_ k (xs.getD k default) (by rw [List.getD_eq_getElem?_getD, List.getElem?_eq_getElem (by rw [h.len]; exact hk)]; rfl)
  exact ⟨b, off, h1, h2, h3⟩
theorem load_sd {W : World} {b off : Nat} {s : Sd} (h : W.rangeAt b off (Elt.cs s)) : (loadVar 42 ⟨b, off, none⟩).run Try.prog W = .ok (.agg s.arr) W :=
  run_loadVar_mid (P := Try.prog) W b off 42 s.cs _ h Try.underlying42 rfl sz42
theorem yields_sd {ops : Array Oper} {S : World → Prop} {o : Oper} {a : Act} {b off : Nat} {s : Sd} (x : Operand) (ho : o.op = .load 42 x) (hw : Region.wanted o (yielded ops a.tmps) = true) (hx : a.eval x = .pointer (some ⟨b, off, none⟩)) (hS : ∀ W, S W → W.rangeAt b off (Elt.cs s)) : YieldsIf Try.prog ops S o (.agg s.arr) a :=
  .inl ⟨hw, fun W hW => by
    unfold execOp
    simp only [ho, hx, Instr.loadAt, Instr.sureAddr, Sem.run_bind, Sem.run_pure, Result.andThen_ok, load_sd (hS W hW)]⟩
theorem ERow.drewN {α : Type} [E : Elt α] {W : World} {B : Nat} {A : Option Addr} {n c : Nat} {xs : List α} (h : ERow W B A n c xs) (q : Nat) : ERow (W.drewN q) B A n c xs := h.keep fun b _ => rfl
def AlikeS (xs ys : List Sd) (k : Nat) : Prop := ∀ j, j < k → xs.getD j default = ys.getD j default
theorem alikeS_all {xs ys : List Sd} {n : Nat} (h1 : xs.length = n) (h2 : ys.length = n) (h : AlikeS xs ys n) : decide (xs = ys) = true := by
  rw [decide_eq_true_eq]
  refine List.ext_getElem (by rw [h1, h2]) fun i hi hj => ?_
  have := h i (by omega)
  simpa [List.getD_eq_getElem?_getD, List.getElem?_eq_getElem hi, List.getElem?_eq_getElem hj] using this
def SmRel (w : World) (xs ys : List Sd) (n : Nat) (i : Value) (wr : World) : Prop := ∃ k q : Nat, k ≤ n ∧ i = .int .i64 (k : Nat) ∧ wr = w.drewN q ∧ AlikeS xs ys k
set_option maxRecDepth 20000 in
set_option maxHeartbeats 2000000 in
theorem refSame_any (A1 A2 : Option Addr) (n m c1 c2 : Nat) (xs ys : List Sd) (B1 B2 : Nat) (w : World) (hx : ERow w B1 A1 n c1 xs) (hy : ERow w B2 A2 m c2 ys) (hn : n ≤ 3000) (hm : m ≤ 3000) :
    Calls Try.prog 13 #[.slice A1 n c1, .slice A2 m c2] w fun e w' => e = .returned (.bool (decide (xs = ys))) ∧ ∃ q, w' = w.drewN q := by
  by_cases hnm : n = m
  · subst hnm
    have hne : ((n : Int) != (n : Int)) = false := by simp
    go_enter Try.func13, Try.ntmps13
    go_wp2
    go_loopw [5] (SmRel w xs ys n) (fun i _ => n - (intOf i).toNat)
    case atStart => exact ⟨0, 0, by omega, rfl, rfl, fun j hj => by omega⟩
    case round =>
      obtain ⟨k, q, hk, rfl, rfl, hal⟩ := hrel
      by_cases hlt : k < n
      · obtain ⟨b1, o1, rfl, _, r1⟩ := sd_at (hx.drewN q) k hlt
        obtain ⟨b2, o2, rfl, _, r2⟩ := sd_at (hy.drewN q) k hlt
        have hal2 := Lib.hid (fun (e : xs.getD k default = ys.getD k default) => show AlikeS xs ys (k + 1) from fun j hj => by
          by_cases h : j = k
          · subst h; exact e
          · exact hal j (by omega))
        have hno := Lib.hid (fun (e : ¬ xs.getD k default = ys.getD k default) => show decide (xs = ys) = false by
          rw [decide_eq_false_iff_not]
          intro h
          exact e (by rw [h]))
        have hlt2 : (k : Int) < (n : Int) := by omega
        have NE := Lib.hid (fun W => neq_sd (xs.getD k default) (ys.getD k default) W)
        generalize xs.getD k default = s1 at *
        generalize ys.getD k default = s2 at *
        replace r1 := Lib.hid r1
        replace r2 := Lib.hid r2
        clear hal hx hy
        by_cases he : s1 = s2
        · have q1 : ∀ W, (binOp .neq 42 (.agg s1.arr) (.agg s2.arr)).run Try.prog W = .ok (.bool false) W := fun W => by rw [NE.out W, decide_eq_true he]; rfl
          have HA := Lib.hid (hal2.out he)
          clear NE hal2 hno he
          go_wp2
          refine wp_region_held_drew (S := fun W => W.rangeAt b1 (o1 + k * 4) (Elt.cs s1) ∧ W.rangeAt b2 (o2 + k * 4) (Elt.cs s2)) (by kernel_rfl) ⟨r1.out, r2.out⟩ (fun _ => ?_)
          have H0 := Lib.hid (show (w.drewN q).drew.rangeAt b1 (o1 + k * 4) (Elt.cs s1) ∧ (w.drewN q).drew.rangeAt b2 (o2 + k * 4) (Elt.cs s2) from ⟨r1.out, r2.out⟩)
          refine wpAnyH_take (i := 0) (v := .slice (some ⟨b1, o1, none⟩) n c1) rfl (by kernel_rfl) (by kernel_rfl) (by kernel_rfl) (fun _ _ _ h => h) (Or.inl ⟨by rfl, fun W hW => by clear hW; go_simp⟩) H0.out ?_
          try simp only [Act.put, List.getElem_toArray, List.getElem_cons_succ, List.getElem_cons_zero, List.setIfInBounds_toArray, List.set_cons_zero, List.set_cons_succ]
          refine wpAnyH_take (i := 1) (v := .int .i64 (k : Int)) rfl (by kernel_rfl) (by kernel_rfl) (by kernel_rfl) (fun _ _ _ h => h) (Or.inl ⟨by rfl, fun W hW => by clear hW; go_simp⟩) H0.out ?_
          try simp only [Act.put, List.getElem_toArray, List.getElem_cons_succ, List.getElem_cons_zero, List.setIfInBounds_toArray, List.set_cons_zero, List.set_cons_succ]
          refine wpAnyH_take (i := 2) (v := .pointer (some ⟨b1, o1 + k * 4, none⟩)) rfl (by kernel_rfl) (by kernel_rfl) (by kernel_rfl) (fun _ _ _ h => h) (Or.inl ⟨by rfl, fun W hW => by clear hW; go_simp⟩) H0.out ?_
          try simp only [Act.put, List.getElem_toArray, List.getElem_cons_succ, List.getElem_cons_zero, List.setIfInBounds_toArray, List.set_cons_zero, List.set_cons_succ]
          refine wpAnyH_take (i := 3) (v := .agg s1.arr) rfl (by kernel_rfl) (by kernel_rfl) (by kernel_rfl) (fun _ _ _ h => h) (yields_sd _ rfl (by rfl) rfl (fun W hW => hW.1)) H0.out ?_
          try simp only [Act.put, List.getElem_toArray, List.getElem_cons_succ, List.getElem_cons_zero, List.setIfInBounds_toArray, List.set_cons_zero, List.set_cons_succ]
          refine wpAnyH_take (i := 4) (v := .slice (some ⟨b2, o2, none⟩) n c2) rfl (by kernel_rfl) (by kernel_rfl) (by kernel_rfl) (fun _ _ _ h => h) (Or.inl ⟨by rfl, fun W hW => by clear hW; go_simp⟩) H0.out ?_
          try simp only [Act.put, List.getElem_toArray, List.getElem_cons_succ, List.getElem_cons_zero, List.setIfInBounds_toArray, List.set_cons_zero, List.set_cons_succ]
          refine wpAnyH_take (i := 5) (v := .int .i64 (k : Int)) rfl (by kernel_rfl) (by kernel_rfl) (by kernel_rfl) (fun _ _ _ h => h) (Or.inl ⟨by rfl, fun W hW => by clear hW; go_simp⟩) H0.out ?_
          try simp only [Act.put, List.getElem_toArray, List.getElem_cons_succ, List.getElem_cons_zero, List.setIfInBounds_toArray, List.set_cons_zero, List.set_cons_succ]
          refine wpAnyH_take (i := 6) (v := .pointer (some ⟨b2, o2 + k * 4, none⟩)) rfl (by kernel_rfl) (by kernel_rfl) (by kernel_rfl) (fun _ _ _ h => h) (Or.inl ⟨by rfl, fun W hW => by clear hW; go_simp⟩) H0.out ?_
          try simp only [Act.put, List.getElem_toArray, List.getElem_cons_succ, List.getElem_cons_zero, List.setIfInBounds_toArray, List.set_cons_zero, List.set_cons_succ]
          refine wpAnyH_take (i := 7) (v := .agg s2.arr) rfl (by kernel_rfl) (by kernel_rfl) (by kernel_rfl) (fun _ _ _ h => h) (yields_sd _ rfl (by rfl) rfl (fun W hW => hW.2)) H0.out ?_
          try simp only [Act.put, List.getElem_toArray, List.getElem_cons_succ, List.getElem_cons_zero, List.setIfInBounds_toArray, List.set_cons_zero, List.set_cons_succ]
          refine wpAnyH_take (i := 8) (v := .bool false) rfl (by kernel_rfl) (by kernel_rfl) (by kernel_rfl) (fun _ _ _ h => h) (Or.inl ⟨by rfl, fun W hW => by clear hW; go_simp⟩) H0.out ?_
          try simp only [Act.put, List.getElem_toArray, List.getElem_cons_succ, List.getElem_cons_zero, List.setIfInBounds_toArray, List.set_cons_zero, List.set_cons_succ]
          refine wpAnyH_done (by kernel_rfl) ?_ _
          go_wp2
          go_roundw
          case rel => exact ⟨k + 1, q + 1, by omega, by go_num, rfl, HA.out⟩
          case measure => simp [intOf]; omega
        · have q1 : ∀ W, (binOp .neq 42 (.agg s1.arr) (.agg s2.arr)).run Try.prog W = .ok (.bool true) W := fun W => by rw [NE.out W, decide_eq_false he]; rfl
          have HA := Lib.hid (hno.out he)
          clear NE hal2 hno he
          go_wp2
          refine wp_region_held_drew (S := fun W => W.rangeAt b1 (o1 + k * 4) (Elt.cs s1) ∧ W.rangeAt b2 (o2 + k * 4) (Elt.cs s2)) (by kernel_rfl) ⟨r1.out, r2.out⟩ (fun _ => ?_)
          have H0 := Lib.hid (show (w.drewN q).drew.rangeAt b1 (o1 + k * 4) (Elt.cs s1) ∧ (w.drewN q).drew.rangeAt b2 (o2 + k * 4) (Elt.cs s2) from ⟨r1.out, r2.out⟩)
          refine wpAnyH_take (i := 0) (v := .slice (some ⟨b1, o1, none⟩) n c1) rfl (by kernel_rfl) (by kernel_rfl) (by kernel_rfl) (fun _ _ _ h => h) (Or.inl ⟨by rfl, fun W hW => by clear hW; go_simp⟩) H0.out ?_
          try simp only [Act.put, List.getElem_toArray, List.getElem_cons_succ, List.getElem_cons_zero, List.setIfInBounds_toArray, List.set_cons_zero, List.set_cons_succ]
          refine wpAnyH_take (i := 1) (v := .int .i64 (k : Int)) rfl (by kernel_rfl) (by kernel_rfl) (by kernel_rfl) (fun _ _ _ h => h) (Or.inl ⟨by rfl, fun W hW => by clear hW; go_simp⟩) H0.out ?_
          try simp only [Act.put, List.getElem_toArray, List.getElem_cons_succ, List.getElem_cons_zero, List.setIfInBounds_toArray, List.set_cons_zero, List.set_cons_succ]
          refine wpAnyH_take (i := 2) (v := .pointer (some ⟨b1, o1 + k * 4, none⟩)) rfl (by kernel_rfl) (by kernel_rfl) (by kernel_rfl) (fun _ _ _ h => h) (Or.inl ⟨by rfl, fun W hW => by clear hW; go_simp⟩) H0.out ?_
          try simp only [Act.put, List.getElem_toArray, List.getElem_cons_succ, List.getElem_cons_zero, List.setIfInBounds_toArray, List.set_cons_zero, List.set_cons_succ]
          refine wpAnyH_take (i := 3) (v := .agg s1.arr) rfl (by kernel_rfl) (by kernel_rfl) (by kernel_rfl) (fun _ _ _ h => h) (yields_sd _ rfl (by rfl) rfl (fun W hW => hW.1)) H0.out ?_
          try simp only [Act.put, List.getElem_toArray, List.getElem_cons_succ, List.getElem_cons_zero, List.setIfInBounds_toArray, List.set_cons_zero, List.set_cons_succ]
          refine wpAnyH_take (i := 4) (v := .slice (some ⟨b2, o2, none⟩) n c2) rfl (by kernel_rfl) (by kernel_rfl) (by kernel_rfl) (fun _ _ _ h => h) (Or.inl ⟨by rfl, fun W hW => by clear hW; go_simp⟩) H0.out ?_
          try simp only [Act.put, List.getElem_toArray, List.getElem_cons_succ, List.getElem_cons_zero, List.setIfInBounds_toArray, List.set_cons_zero, List.set_cons_succ]
          refine wpAnyH_take (i := 5) (v := .int .i64 (k : Int)) rfl (by kernel_rfl) (by kernel_rfl) (by kernel_rfl) (fun _ _ _ h => h) (Or.inl ⟨by rfl, fun W hW => by clear hW; go_simp⟩) H0.out ?_
          try simp only [Act.put, List.getElem_toArray, List.getElem_cons_succ, List.getElem_cons_zero, List.setIfInBounds_toArray, List.set_cons_zero, List.set_cons_succ]
          refine wpAnyH_take (i := 6) (v := .pointer (some ⟨b2, o2 + k * 4, none⟩)) rfl (by kernel_rfl) (by kernel_rfl) (by kernel_rfl) (fun _ _ _ h => h) (Or.inl ⟨by rfl, fun W hW => by clear hW; go_simp⟩) H0.out ?_
          try simp only [Act.put, List.getElem_toArray, List.getElem_cons_succ, List.getElem_cons_zero, List.setIfInBounds_toArray, List.set_cons_zero, List.set_cons_succ]
          refine wpAnyH_take (i := 7) (v := .agg s2.arr) rfl (by kernel_rfl) (by kernel_rfl) (by kernel_rfl) (fun _ _ _ h => h) (yields_sd _ rfl (by rfl) rfl (fun W hW => hW.2)) H0.out ?_
          try simp only [Act.put, List.getElem_toArray, List.getElem_cons_succ, List.getElem_cons_zero, List.setIfInBounds_toArray, List.set_cons_zero, List.set_cons_succ]
          refine wpAnyH_take (i := 8) (v := .bool true) rfl (by kernel_rfl) (by kernel_rfl) (by kernel_rfl) (fun _ _ _ h => h) (Or.inl ⟨by rfl, fun W hW => by clear hW; go_simp⟩) H0.out ?_
          try simp only [Act.put, List.getElem_toArray, List.getElem_cons_succ, List.getElem_cons_zero, List.setIfInBounds_toArray, List.set_cons_zero, List.set_cons_succ]
          refine wpAnyH_done (by kernel_rfl) ?_ _
          go_wp2
          go_ret
          exact ⟨by rw [HA.out]; exact rfl, q + 1, rfl⟩
      · obtain rfl : k = n := by omega
        go_wp2
        go_ret
        exact ⟨by rw [alikeS_all hx.len hy.len hal]; exact rfl, q, rfl⟩
  · have hne : ((n : Int) != (m : Int)) = true := by simp; omega
    go_enter Try.func13, Try.ntmps13
    go_wp2
    go_ret
    refine ⟨?_, 0, rfl⟩
    rw [decide_eq_false (fun h => hnm (by rw [← hx.len, ← hy.len, h]))]
    exact rfl
end Go.Proofs.Ytfbgpfiodgibbaa
namespace Go.Proofs.Ytfbgpfiodgibbaa
open Go.RowKit
open A (arrV vals)
set_option linter.unusedVariables false
set_option linter.unusedSimpArgs false

theorem mem_take_succ (us : List Sd) (j : Nat) (hj : j < us.length) (s : Sd) : s ∈ us.take (j + 1) ↔ s ∈ us.take j ∨ s = us.getD j default := by
  rw [← take_snoc us j hj, List.mem_append, List.mem_singleton]
def ToRel (w : World) (us : List Sd) (n : Nat) (s i : Value) (wr : World) : Prop :=
  ∃ (k : Nat) (M : Blks), k ≤ n ∧ i = .int .i64 (k : Nat) ∧ RL s (tw us k) M ∧ St w wr M
def TiRel (wi : World) (us : List Sd) (i : Nat) (s0 : Sd) (ag jv : Value) (wr : World) : Prop :=
  ∃ j q : Nat, j ≤ i ∧ jv = .int .i64 (j : Nat) ∧ ag = .bool (decide (s0 ∈ us.take j)) ∧ wr = wi.drewN q
set_option maxRecDepth 20000 in
set_option maxHeartbeats 4000000 in
theorem refTwice_any (A1 : Option Addr) (n c : Nat) (us : List Sd) (w : World) (hx : ERow w w.heap.size A1 n c us) (hn : n ≤ 3000) :
    Calls Try.prog 16 #[.slice A1 n c] w fun e w' => ∃ v M, e = .returned v ∧ RL v (tw us n) M ∧ St w w' M := by
  have h0 := St.nil w
  go_enter Try.func16, Try.ntmps16
  go_wp2_with (first
    | (have _ := h0; refine wpList_build0_st (α := Sd) h0 rfl rfl ?_; clear h0; intro W1 v1 M1 hv1 hr1 h1 _; clear hv1))
  go_loopw [3, 4] (ToRel w us n) (fun _ i _ => n - (intOf i).toNat)
  case atStart => exact ⟨0, M1, by omega, rfl, hr1, by simpa using h1⟩
  case round =>
    clear h1 hr1
    obtain ⟨i, M, hi, rfl, hr, hS⟩ := hrel
    by_cases hlt : i < n
    · have hlt2 : (i : Int) < (n : Int) := by omega
      have hxw := hx.below hS.bel
      have hul := hx.len
      obtain ⟨b, o, rfl, _, r2⟩ := sd_at hxw i hlt
      have T1 : Hid (tw us (i + 1) = if us.getD i default ∈ us.take i then tw us i ++ [us.getD i default] else tw us i) := Lib.hid rfl
      have TL := Lib.hid (tw_len us i)
      generalize hs0 : us.getD i default = s0 at *
      replace r2 := Lib.hid r2
      generalize wr = wi at *
      go_wp2
      go_loopw [5, 6] (TiRel wi us i s0) (fun _ jv _ => i - (intOf jv).toNat)
      case atStart => exact ⟨0, 0, by omega, rfl, by simp, rfl⟩
      case round =>
        obtain ⟨j, q, hj, rfl, rfl, rfl⟩ := hrel
        by_cases hjt : j < i
        · have hjt2 : (j : Int) < (i : Int) := by omega
          have hjn : (j : Int) < (n : Int) := by omega
          obtain ⟨b', o', e', _, r1⟩ := sd_at hxw j (by omega)
          injection e' with e'
          injection e' with e1 e2
          subst e1; subst e2
          have MS := Lib.hid (mem_take_succ us j (by omega) s0)
          have NE := Lib.hid (fun W => eql_sd (us.getD j default) s0 W)
          generalize us.getD j default = s1 at *
          replace r1 := Lib.hid r1
          have hcs : (s0 ∈ us.take j) ∨ (¬ s0 ∈ us.take j ∧ s0 = s1) ∨ (¬ s0 ∈ us.take j ∧ ¬ s0 = s1) := by
            by_cases h1 : s0 ∈ us.take j
            · exact .inl h1
            · by_cases h2 : s0 = s1
              · exact .inr (.inl ⟨h1, h2⟩)
              · exact .inr (.inr ⟨h1, h2⟩)
          have DT := Lib.hid (fun h : s0 ∈ us.take j => decide_eq_true h)
          have DF := Lib.hid (fun h : ¬ s0 ∈ us.take j => decide_eq_false h)
          rcases hcs with hm | ⟨hm, he⟩ | ⟨hm, he⟩
          · rw [DT.out hm]
            clear DT DF
            have MB := Lib.hid (MS.out.2 (.inl hm))
            go_wp2
            refine wp_region_held_drew (S := fun W => W.rangeAt b (o + j * 4) (Elt.cs s1) ∧ W.rangeAt b (o + i * 4) (Elt.cs s0)) (by kernel_rfl) ⟨r1.out, r2.out⟩ (fun _ => ?_)
            have H0 := Lib.hid (show (wi.drewN q).drew.rangeAt b (o + j * 4) (Elt.cs s1) ∧ (wi.drewN q).drew.rangeAt b (o + i * 4) (Elt.cs s0) from ⟨r1.out, r2.out⟩)
            refine wpAnyH_take (i := 0) (v := .bool true) rfl (by kernel_rfl) (by kernel_rfl) (by kernel_rfl) (fun _ _ _ h => h) (Or.inl ⟨by rfl, fun W hW => by clear hW; go_simp⟩) H0.out ?_
            try simp only [Act.put, List.getElem_toArray, List.getElem_cons_succ, List.getElem_cons_zero, List.setIfInBounds_toArray, List.set_cons_zero, List.set_cons_succ]
            refine wpAnyH_take (i := 1) (v := .bool true) rfl (by kernel_rfl) (by kernel_rfl) (by kernel_rfl) (fun _ _ _ h => h) (Or.inl ⟨by rfl, fun W hW => by clear hW; go_simp⟩) H0.out ?_
            try simp only [Act.put, List.getElem_toArray, List.getElem_cons_succ, List.getElem_cons_zero, List.setIfInBounds_toArray, List.set_cons_zero, List.set_cons_succ]
            refine wpAnyH_take (i := 2) (v := undef) rfl (by kernel_rfl) (by kernel_rfl) (by kernel_rfl) (fun _ _ _ h => h) (Or.inr ⟨by rfl, rfl⟩) H0.out ?_
            try simp only [Act.put, List.getElem_toArray, List.getElem_cons_succ, List.getElem_cons_zero, List.setIfInBounds_toArray, List.set_cons_zero, List.set_cons_succ]
            refine wpAnyH_take (i := 3) (v := undef) rfl (by kernel_rfl) (by kernel_rfl) (by kernel_rfl) (fun _ _ _ h => h) (Or.inr ⟨by rfl, rfl⟩) H0.out ?_
            try simp only [Act.put, List.getElem_toArray, List.getElem_cons_succ, List.getElem_cons_zero, List.setIfInBounds_toArray, List.set_cons_zero, List.set_cons_succ]
            refine wpAnyH_take (i := 4) (v := undef) rfl (by kernel_rfl) (by kernel_rfl) (by kernel_rfl) (fun _ _ _ h => h) (Or.inr ⟨by rfl, rfl⟩) H0.out ?_
            try simp only [Act.put, List.getElem_toArray, List.getElem_cons_succ, List.getElem_cons_zero, List.setIfInBounds_toArray, List.set_cons_zero, List.set_cons_succ]
            refine wpAnyH_take (i := 5) (v := undef) rfl (by kernel_rfl) (by kernel_rfl) (by kernel_rfl) (fun _ _ _ h => h) (Or.inr ⟨by rfl, rfl⟩) H0.out ?_
            try simp only [Act.put, List.getElem_toArray, List.getElem_cons_succ, List.getElem_cons_zero, List.setIfInBounds_toArray, List.set_cons_zero, List.set_cons_succ]
            refine wpAnyH_take (i := 6) (v := undef) rfl (by kernel_rfl) (by kernel_rfl) (by kernel_rfl) (fun _ _ _ h => h) (Or.inr ⟨by rfl, rfl⟩) H0.out ?_
            try simp only [Act.put, List.getElem_toArray, List.getElem_cons_succ, List.getElem_cons_zero, List.setIfInBounds_toArray, List.set_cons_zero, List.set_cons_succ]
            refine wpAnyH_take (i := 7) (v := undef) rfl (by kernel_rfl) (by kernel_rfl) (by kernel_rfl) (fun _ _ _ h => h) (Or.inr ⟨by rfl, rfl⟩) H0.out ?_
            try simp only [Act.put, List.getElem_toArray, List.getElem_cons_succ, List.getElem_cons_zero, List.setIfInBounds_toArray, List.set_cons_zero, List.set_cons_succ]
            refine wpAnyH_take (i := 8) (v := undef) rfl (by kernel_rfl) (by kernel_rfl) (by kernel_rfl) (fun _ _ _ h => h) (Or.inr ⟨by rfl, rfl⟩) H0.out ?_
            try simp only [Act.put, List.getElem_toArray, List.getElem_cons_succ, List.getElem_cons_zero, List.setIfInBounds_toArray, List.set_cons_zero, List.set_cons_succ]
            refine wpAnyH_take (i := 9) (v := undef) rfl (by kernel_rfl) (by kernel_rfl) (by kernel_rfl) (fun _ _ _ h => h) (Or.inr ⟨by rfl, rfl⟩) H0.out ?_
            try simp only [Act.put, List.getElem_toArray, List.getElem_cons_succ, List.getElem_cons_zero, List.setIfInBounds_toArray, List.set_cons_zero, List.set_cons_succ]
            refine wpAnyH_take (i := 10) (v := undef) rfl (by kernel_rfl) (by kernel_rfl) (by kernel_rfl) (fun _ _ _ h => h) (Or.inr ⟨by rfl, rfl⟩) H0.out ?_
            try simp only [Act.put, List.getElem_toArray, List.getElem_cons_succ, List.getElem_cons_zero, List.setIfInBounds_toArray, List.set_cons_zero, List.set_cons_succ]
            refine wpAnyH_take (i := 11) (v := .bool true) rfl (by kernel_rfl) (by kernel_rfl) (by kernel_rfl) (fun _ _ _ h => h) (Or.inl ⟨by rfl, fun W hW => by clear hW; go_simp⟩) H0.out ?_
            try simp only [Act.put, List.getElem_toArray, List.getElem_cons_succ, List.getElem_cons_zero, List.setIfInBounds_toArray, List.set_cons_zero, List.set_cons_succ]
            refine wpAnyH_take (i := 12) (v := .bool true) rfl (by kernel_rfl) (by kernel_rfl) (by kernel_rfl) (fun _ _ _ h => h) (Or.inl ⟨by rfl, fun W hW => by clear hW; go_simp⟩) H0.out ?_
            try simp only [Act.put, List.getElem_toArray, List.getElem_cons_succ, List.getElem_cons_zero, List.setIfInBounds_toArray, List.set_cons_zero, List.set_cons_succ]
            refine wpAnyH_done (by kernel_rfl) ?_ _
            go_wp2
            go_roundw
            case rel => exact ⟨j + 1, q + 1, by omega, by go_num, congrArg Value.bool (decide_eq_true MB.out).symm, rfl⟩
            case measure => simp [intOf]; omega
          · rw [DF.out hm]
            clear DT DF
            have MB := Lib.hid (MS.out.2 (.inr he))
            have q1 : ∀ W, (binOp .eql 42 (.agg s1.arr) (.agg s0.arr)).run Try.prog W = .ok (.bool true) W := fun W => by rw [NE.out W, decide_eq_true he.symm]
            clear NE he hm
            go_wp2
            refine wp_region_held_drew (S := fun W => W.rangeAt b (o + j * 4) (Elt.cs s1) ∧ W.rangeAt b (o + i * 4) (Elt.cs s0)) (by kernel_rfl) ⟨r1.out, r2.out⟩ (fun _ => ?_)
            have H0 := Lib.hid (show (wi.drewN q).drew.rangeAt b (o + j * 4) (Elt.cs s1) ∧ (wi.drewN q).drew.rangeAt b (o + i * 4) (Elt.cs s0) from ⟨r1.out, r2.out⟩)
            refine wpAnyH_take (i := 0) (v := .bool false) rfl (by kernel_rfl) (by kernel_rfl) (by kernel_rfl) (fun _ _ _ h => h) (Or.inl ⟨by rfl, fun W hW => by clear hW; go_simp⟩) H0.out ?_
            try simp only [Act.put, List.getElem_toArray, List.getElem_cons_succ, List.getElem_cons_zero, List.setIfInBounds_toArray, List.set_cons_zero, List.set_cons_succ]
            refine wpAnyH_take (i := 1) (v := .bool false) rfl (by kernel_rfl) (by kernel_rfl) (by kernel_rfl) (fun _ _ _ h => h) (Or.inl ⟨by rfl, fun W hW => by clear hW; go_simp⟩) H0.out ?_
            try simp only [Act.put, List.getElem_toArray, List.getElem_cons_succ, List.getElem_cons_zero, List.setIfInBounds_toArray, List.set_cons_zero, List.set_cons_succ]
            refine wpAnyH_take (i := 2) (v := .slice (some ⟨b, o, none⟩) n c) rfl (by kernel_rfl) (by kernel_rfl) (by kernel_rfl) (fun _ _ _ h => h) (Or.inl ⟨by rfl, fun W hW => by clear hW; go_simp⟩) H0.out ?_
            try simp only [Act.put, List.getElem_toArray, List.getElem_cons_succ, List.getElem_cons_zero, List.setIfInBounds_toArray, List.set_cons_zero, List.set_cons_succ]
            refine wpAnyH_take (i := 3) (v := .int .i64 (j : Int)) rfl (by kernel_rfl) (by kernel_rfl) (by kernel_rfl) (fun _ _ _ h => h) (Or.inl ⟨by rfl, fun W hW => by clear hW; go_simp⟩) H0.out ?_
            try simp only [Act.put, List.getElem_toArray, List.getElem_cons_succ, List.getElem_cons_zero, List.setIfInBounds_toArray, List.set_cons_zero, List.set_cons_succ]
            refine wpAnyH_take (i := 4) (v := .pointer (some ⟨b, o + j * 4, none⟩)) rfl (by kernel_rfl) (by kernel_rfl) (by kernel_rfl) (fun _ _ _ h => h) (Or.inl ⟨by rfl, fun W hW => by clear hW; go_simp⟩) H0.out ?_
            try simp only [Act.put, List.getElem_toArray, List.getElem_cons_succ, List.getElem_cons_zero, List.setIfInBounds_toArray, List.set_cons_zero, List.set_cons_succ]
            refine wpAnyH_take (i := 5) (v := .agg s1.arr) rfl (by kernel_rfl) (by kernel_rfl) (by kernel_rfl) (fun _ _ _ h => h) (yields_sd _ rfl (by rfl) rfl (fun W hW => hW.1)) H0.out ?_
            try simp only [Act.put, List.getElem_toArray, List.getElem_cons_succ, List.getElem_cons_zero, List.setIfInBounds_toArray, List.set_cons_zero, List.set_cons_succ]
            refine wpAnyH_take (i := 6) (v := .slice (some ⟨b, o, none⟩) n c) rfl (by kernel_rfl) (by kernel_rfl) (by kernel_rfl) (fun _ _ _ h => h) (Or.inl ⟨by rfl, fun W hW => by clear hW; go_simp⟩) H0.out ?_
            try simp only [Act.put, List.getElem_toArray, List.getElem_cons_succ, List.getElem_cons_zero, List.setIfInBounds_toArray, List.set_cons_zero, List.set_cons_succ]
            refine wpAnyH_take (i := 7) (v := .int .i64 (i : Int)) rfl (by kernel_rfl) (by kernel_rfl) (by kernel_rfl) (fun _ _ _ h => h) (Or.inl ⟨by rfl, fun W hW => by clear hW; go_simp⟩) H0.out ?_
            try simp only [Act.put, List.getElem_toArray, List.getElem_cons_succ, List.getElem_cons_zero, List.setIfInBounds_toArray, List.set_cons_zero, List.set_cons_succ]
            refine wpAnyH_take (i := 8) (v := .pointer (some ⟨b, o + i * 4, none⟩)) rfl (by kernel_rfl) (by kernel_rfl) (by kernel_rfl) (fun _ _ _ h => h) (Or.inl ⟨by rfl, fun W hW => by clear hW; go_simp⟩) H0.out ?_
            try simp only [Act.put, List.getElem_toArray, List.getElem_cons_succ, List.getElem_cons_zero, List.setIfInBounds_toArray, List.set_cons_zero, List.set_cons_succ]
            refine wpAnyH_take (i := 9) (v := .agg s0.arr) rfl (by kernel_rfl) (by kernel_rfl) (by kernel_rfl) (fun _ _ _ h => h) (yields_sd _ rfl (by rfl) rfl (fun W hW => hW.2)) H0.out ?_
            try simp only [Act.put, List.getElem_toArray, List.getElem_cons_succ, List.getElem_cons_zero, List.setIfInBounds_toArray, List.set_cons_zero, List.set_cons_succ]
            refine wpAnyH_take (i := 10) (v := .bool true) rfl (by kernel_rfl) (by kernel_rfl) (by kernel_rfl) (fun _ _ _ h => h) (Or.inl ⟨by rfl, fun W hW => by clear hW; go_simp⟩) H0.out ?_
            try simp only [Act.put, List.getElem_toArray, List.getElem_cons_succ, List.getElem_cons_zero, List.setIfInBounds_toArray, List.set_cons_zero, List.set_cons_succ]
            refine wpAnyH_take (i := 11) (v := .bool true) rfl (by kernel_rfl) (by kernel_rfl) (by kernel_rfl) (fun _ _ _ h => h) (Or.inl ⟨by rfl, fun W hW => by clear hW; go_simp⟩) H0.out ?_
            try simp only [Act.put, List.getElem_toArray, List.getElem_cons_succ, List.getElem_cons_zero, List.setIfInBounds_toArray, List.set_cons_zero, List.set_cons_succ]
            refine wpAnyH_take (i := 12) (v := .bool true) rfl (by kernel_rfl) (by kernel_rfl) (by kernel_rfl) (fun _ _ _ h => h) (Or.inl ⟨by rfl, fun W hW => by clear hW; go_simp⟩) H0.out ?_
            try simp only [Act.put, List.getElem_toArray, List.getElem_cons_succ, List.getElem_cons_zero, List.setIfInBounds_toArray, List.set_cons_zero, List.set_cons_succ]
            refine wpAnyH_done (by kernel_rfl) ?_ _
            go_wp2
            go_roundw
            case rel => exact ⟨j + 1, q + 1, by omega, by go_num, congrArg Value.bool (decide_eq_true MB.out).symm, rfl⟩
            case measure => simp [intOf]; omega
          · rw [DF.out hm]
            clear DT DF
            have MB := Lib.hid (fun h => (MS.out.1 h).elim hm he)
            have q1 : ∀ W, (binOp .eql 42 (.agg s1.arr) (.agg s0.arr)).run Try.prog W = .ok (.bool false) W := fun W => by rw [NE.out W, decide_eq_false (fun h => he h.symm)]
            clear NE he hm
            go_wp2
            refine wp_region_held_drew (S := fun W => W.rangeAt b (o + j * 4) (Elt.cs s1) ∧ W.rangeAt b (o + i * 4) (Elt.cs s0)) (by kernel_rfl) ⟨r1.out, r2.out⟩ (fun _ => ?_)
            have H0 := Lib.hid (show (wi.drewN q).drew.rangeAt b (o + j * 4) (Elt.cs s1) ∧ (wi.drewN q).drew.rangeAt b (o + i * 4) (Elt.cs s0) from ⟨r1.out, r2.out⟩)
            refine wpAnyH_take (i := 0) (v := .bool false) rfl (by kernel_rfl) (by kernel_rfl) (by kernel_rfl) (fun _ _ _ h => h) (Or.inl ⟨by rfl, fun W hW => by clear hW; go_simp⟩) H0.out ?_
            try simp only [Act.put, List.getElem_toArray, List.getElem_cons_succ, List.getElem_cons_zero, List.setIfInBounds_toArray, List.set_cons_zero, List.set_cons_succ]
            refine wpAnyH_take (i := 1) (v := .bool false) rfl (by kernel_rfl) (by kernel_rfl) (by kernel_rfl) (fun _ _ _ h => h) (Or.inl ⟨by rfl, fun W hW => by clear hW; go_simp⟩) H0.out ?_
            try simp only [Act.put, List.getElem_toArray, List.getElem_cons_succ, List.getElem_cons_zero, List.setIfInBounds_toArray, List.set_cons_zero, List.set_cons_succ]
            refine wpAnyH_take (i := 2) (v := .slice (some ⟨b, o, none⟩) n c) rfl (by kernel_rfl) (by kernel_rfl) (by kernel_rfl) (fun _ _ _ h => h) (Or.inl ⟨by rfl, fun W hW => by clear hW; go_simp⟩) H0.out ?_
            try simp only [Act.put, List.getElem_toArray, List.getElem_cons_succ, List.getElem_cons_zero, List.setIfInBounds_toArray, List.set_cons_zero, List.set_cons_succ]
            refine wpAnyH_take (i := 3) (v := .int .i64 (j : Int)) rfl (by kernel_rfl) (by kernel_rfl) (by kernel_rfl) (fun _ _ _ h => h) (Or.inl ⟨by rfl, fun W hW => by clear hW; go_simp⟩) H0.out ?_
            try simp only [Act.put, List.getElem_toArray, List.getElem_cons_succ, List.getElem_cons_zero, List.setIfInBounds_toArray, List.set_cons_zero, List.set_cons_succ]
            refine wpAnyH_take (i := 4) (v := .pointer (some ⟨b, o + j * 4, none⟩)) rfl (by kernel_rfl) (by kernel_rfl) (by kernel_rfl) (fun _ _ _ h => h) (Or.inl ⟨by rfl, fun W hW => by clear hW; go_simp⟩) H0.out ?_
            try simp only [Act.put, List.getElem_toArray, List.getElem_cons_succ, List.getElem_cons_zero, List.setIfInBounds_toArray, List.set_cons_zero, List.set_cons_succ]
            refine wpAnyH_take (i := 5) (v := .agg s1.arr) rfl (by kernel_rfl) (by kernel_rfl) (by kernel_rfl) (fun _ _ _ h => h) (yields_sd _ rfl (by rfl) rfl (fun W hW => hW.1)) H0.out ?_
            try simp only [Act.put, List.getElem_toArray, List.getElem_cons_succ, List.getElem_cons_zero, List.setIfInBounds_toArray, List.set_cons_zero, List.set_cons_succ]
            refine wpAnyH_take (i := 6) (v := .slice (some ⟨b, o, none⟩) n c) rfl (by kernel_rfl) (by kernel_rfl) (by kernel_rfl) (fun _ _ _ h => h) (Or.inl ⟨by rfl, fun W hW => by clear hW; go_simp⟩) H0.out ?_
            try simp only [Act.put, List.getElem_toArray, List.getElem_cons_succ, List.getElem_cons_zero, List.setIfInBounds_toArray, List.set_cons_zero, List.set_cons_succ]
            refine wpAnyH_take (i := 7) (v := .int .i64 (i : Int)) rfl (by kernel_rfl) (by kernel_rfl) (by kernel_rfl) (fun _ _ _ h => h) (Or.inl ⟨by rfl, fun W hW => by clear hW; go_simp⟩) H0.out ?_
            try simp only [Act.put, List.getElem_toArray, List.getElem_cons_succ, List.getElem_cons_zero, List.setIfInBounds_toArray, List.set_cons_zero, List.set_cons_succ]
            refine wpAnyH_take (i := 8) (v := .pointer (some ⟨b, o + i * 4, none⟩)) rfl (by kernel_rfl) (by kernel_rfl) (by kernel_rfl) (fun _ _ _ h => h) (Or.inl ⟨by rfl, fun W hW => by clear hW; go_simp⟩) H0.out ?_
            try simp only [Act.put, List.getElem_toArray, List.getElem_cons_succ, List.getElem_cons_zero, List.setIfInBounds_toArray, List.set_cons_zero, List.set_cons_succ]
            refine wpAnyH_take (i := 9) (v := .agg s0.arr) rfl (by kernel_rfl) (by kernel_rfl) (by kernel_rfl) (fun _ _ _ h => h) (yields_sd _ rfl (by rfl) rfl (fun W hW => hW.2)) H0.out ?_
            try simp only [Act.put, List.getElem_toArray, List.getElem_cons_succ, List.getElem_cons_zero, List.setIfInBounds_toArray, List.set_cons_zero, List.set_cons_succ]
            refine wpAnyH_take (i := 10) (v := .bool false) rfl (by kernel_rfl) (by kernel_rfl) (by kernel_rfl) (fun _ _ _ h => h) (Or.inl ⟨by rfl, fun W hW => by clear hW; go_simp⟩) H0.out ?_
            try simp only [Act.put, List.getElem_toArray, List.getElem_cons_succ, List.getElem_cons_zero, List.setIfInBounds_toArray, List.set_cons_zero, List.set_cons_succ]
            refine wpAnyH_take (i := 11) (v := .bool false) rfl (by kernel_rfl) (by kernel_rfl) (by kernel_rfl) (fun _ _ _ h => h) (Or.inl ⟨by rfl, fun W hW => by clear hW; go_simp⟩) H0.out ?_
            try simp only [Act.put, List.getElem_toArray, List.getElem_cons_succ, List.getElem_cons_zero, List.setIfInBounds_toArray, List.set_cons_zero, List.set_cons_succ]
            refine wpAnyH_take (i := 12) (v := .bool false) rfl (by kernel_rfl) (by kernel_rfl) (by kernel_rfl) (fun _ _ _ h => h) (Or.inl ⟨by rfl, fun W hW => by clear hW; go_simp⟩) H0.out ?_
            try simp only [Act.put, List.getElem_toArray, List.getElem_cons_succ, List.getElem_cons_zero, List.setIfInBounds_toArray, List.set_cons_zero, List.set_cons_succ]
            refine wpAnyH_done (by kernel_rfl) ?_ _
            go_wp2
            go_roundw
            case rel => exact ⟨j + 1, q + 1, by omega, by go_num, congrArg Value.bool (decide_eq_false MB.out).symm, rfl⟩
            case measure => simp [intOf]; omega
        · obtain rfl : j = i := by omega
          have hjj : ((j : Int) < (j : Int)) = False := eq_false (by omega)
          by_cases hm : s0 ∈ us.take j
          · have DT := Lib.hid (decide_eq_true hm)
            rw [DT.out]
            have T2 := T1.out
            rw [if_pos hm] at T2
            replace T2 := Lib.hid T2
            clear T1 DT hm
            have hS2 := hS.drewN q
            have r3 : Hid ((wi.drewN q).rangeAt b (o + j * 4) (Elt.cs s0)) := Lib.hid r2.out
            go_wp2_with (first
              | (refine wpList_loadSd (e := s0) r3.out _ rfl rfl rfl ?_)
              | (have _ := hS2; refine wpList_build1_st (α := Sd) hS2 _ s0 rfl rfl rfl ?_; clear hS2; intro W8 h8; have rw4 := Lib.hid (new_row h8))
              | (have _ := h8; refine wpList_append_rl (ys := [s0]) hr (h8.perm (List.perm_append_comm (l₁ := [_]))) rw4.out _ _ rfl rfl rfl rfl (by have := TL.out; omega) ?_; clear h8 rw4; intro v9 W9 M9 hr9 h9))
            go_roundw
            case rel => exact ⟨j + 1, M9, by omega, by go_num, by rw [T2.out]; exact hr9, h9.pre⟩
            case measure => simp [intOf]; omega
          · have DF := Lib.hid (decide_eq_false hm)
            rw [DF.out]
            have T2 := T1.out
            rw [if_neg hm] at T2
            replace T2 := Lib.hid T2
            clear T1 DF hm
            go_wp2
            go_roundw
            case rel => exact ⟨j + 1, M, by omega, by go_num, by rw [T2.out]; exact hr, hS.drewN q⟩
            case measure => simp [intOf]; omega
    · obtain rfl : i = n := by omega
      go_wp2
      go_ret
      exact ⟨_, M, rfl, hr, hS⟩
end Go.Proofs.Ytfbgpfiodgibbaa
namespace Go.Proofs.Ytfbgpfiodgibbaa
open Go.RowKit
open A (arrV vals)
set_option linter.unusedVariables false
set_option linter.unusedSimpArgs false

def RKb (V : World) (B : Nat) (key : List Nat) (gt c gb cb : Nat) : Prop := ∃ vs, A.RKey V B key gt c gb cb vs
theorem RKb.rk {V : World} {B : Nat} {key : List Nat} {gt c gb cb : Nat} (h : RKb V B key gt c gb cb) : RK V key gt c gb cb := by
  obtain ⟨vs, h⟩ := h
  exact ⟨B, vs, h⟩
theorem refKeyB_any (key : List Nat) (hk : IsKey key) (w : World) :
    Calls Try.prog 8 #[.agg (arrV key)] w fun e w' => ∃ gt c gb cb, e = .returned (.agg #[.slice (some ⟨gt, 0, none⟩) 44 c, .slice (some ⟨gb, 0, none⟩) 256 cb]) ∧ RKb w' w.heap.size key gt c gb cb ∧ Below w.heap.size w w' := by
  refine (A.refOf_any key hk.len hk.lt w).mono ?_
  rintro e w' ⟨gt, c, gb, cb, vs, rfl, h, hb⟩
  exact ⟨gt, c, gb, cb, rfl, ⟨vs, h⟩, hb⟩
theorem RKb.put {W W' : World} {B b5 : Nat} {key : List Nat} {gt c gb cb : Nat} {v0 v1 : Value} (h : RKb W B key gt c gb cb) (hA : At W b5 29 #[v0, v1]) (hv : ∀ n : Int, v0 ≠ .int .u8 n) (hb : b5 < B) (hg : W.grownBy W' (some b5)) : RKb W' B key gt c gb cb := by
  obtain ⟨vs, h⟩ := h
  refine ⟨vs, h.hi.kept hg (fun g e => ?_), ?_⟩
  · injection e with e
    subst e
    refine ⟨fun e => ?_, fun j hj g' e => ?_⟩
    · have h1 := (h.hi.top.lt gt rfl).1
      injection e with e
      first
        | (have e2 : gt = b5 := e; omega)
        | (have e2 : b5 = gt := e; omega)
        | (subst e; have h2 : gt < B := hb; omega)
    · obtain ⟨g2, e2, hb2, _⟩ := h.hi.rows j hj
      rw [e] at e2
      injection e2 with e2
      injection e2 with e2
      injection e2 with e2
      injection e2 with e2
      omega
  · obtain ⟨h1, h2, h3, h4, h5, h6⟩ := h.hb
    obtain ⟨hs, hlt, hc⟩ := h6 _ rfl (by omega)
    have hne : gb ≠ b5 := by
      rintro rfl
      have c0 := hc 0 (by omega)
      simp only [Nat.zero_add] at c0
      rw [hA.cell 0] at c0
      injection c0 with c0
      exact hv _ c0
    refine ⟨h1, h2, h3, h4, (fun h => by cases h), fun a ha hn => ?_⟩
    injection ha with ha
    subst ha
    refine ⟨rfl, Nat.lt_of_lt_of_le hlt hg.size, fun j hj => ?_⟩
    exact (World.cell?_of_block (hg.block gb hlt (fun e => hne (by injection e)))).trans (hc j hj)
abbrev kv (gt c gb cb : Nat) : Array Value := #[.slice (some ⟨gt, 0, none⟩) 44 c, .slice (some ⟨gb, 0, none⟩) 256 cb]
/-- Wherever the pads stand, the document's key stands too. -/
def KB (w base : World) (g gc : Nat) (key : List Nat) (b5 gt c gb cb : Nat) (L0 : Blks) : Prop :=
  ∀ (V : World) (us : List Sd) (L : Blks), PP base V g gc key us (L ++ L0) → At V b5 29 (kv gt c gb cb) ∧ RK V key gt c gb cb ∧ Below w.heap.size w V
theorem kb_in {w Wk : World} {g gc : Nat} {key : List Nat} {b5 gt c gb cb : Nat} (h : RK Wk key gt c gb cb) (hb : Below w.heap.size w Wk) : KB w Wk g gc key b5 gt c gb cb [(b5, C 29 (kv gt c gb cb))] := fun V us L hP =>
  ⟨hP.rest.at_ (b5, _) (List.mem_append_right _ (List.mem_singleton.2 rfl)), h.call hP.rest.bel, hb.trans (hP.rest.bel.mono hb.size)⟩
theorem kb_out {w Wk : World} {g gc : Nat} {key : List Nat} {B b5 gt c gb cb : Nat} {v0 v1 : Value} (h : RKb Wk B key gt c gb cb) (hA : At Wk b5 29 #[v0, v1]) (hv : ∀ n : Int, v0 ≠ .int .u8 n) (hb5 : b5 < B) (hb : Below w.heap.size w Wk) (hlo : w.heap.size ≤ b5) : KB w (Wk.setRow b5 (kv gt c gb cb)) g gc key b5 gt c gb cb [] := fun V us L hP => by
  have h1 := (h.put hA hv hb5 (grown_setRow Wk b5 (kv gt c gb cb))).rk
  have h2 : At (Wk.setRow b5 (kv gt c gb cb)) b5 29 (kv gt c gb cb) := hA.putAll
  exact ⟨h2.call hP.rest.bel, h1.call hP.rest.bel, (below_setRow hb hlo).trans (hP.rest.bel.mono (below_setRow hb hlo).size)⟩
theorem pp_out {Wk W1 W2 : World} {g gc : Nat} {key : List Nat} {b5 : Nat} {kvv : Array Value} {v0 v1 : Value} (h : PP Wk W1 g gc key [] []) (hA : At Wk b5 29 #[v0, v1]) (hA2 : At W2 b5 29 kvv) (hg : W1.grownBy W2 (some b5)) : PP (Wk.setRow b5 kvv) W2 g gc key [] [] := by
  obtain ⟨v, M, hr, hs⟩ := h
  have hsz : (Wk.setRow b5 kvv).heap.size = Wk.heap.size := by simp [World.setRow]
  have hlt := hA.lt
  refine ⟨v, M, hr, ⟨fun x hx => ?_, fun x hx => by rw [hsz]; exact hs.lo x hx, hs.nd, ?_⟩⟩
  · have h1 := hs.at_ x hx
    have h2 := hs.lo x hx
    exact (hg.block x.1 (heap_lt h1) (fun e => by injection e with e; omega)).trans h1
  · have hB := hs.bel
    refine ⟨hg.os.trans hB.os, hg.tape.trans hB.tape, hg.output.trans hB.output, by rw [hsz]; exact Nat.le_trans hB.size hg.size, fun k hk => ?_⟩
    rw [hsz] at hk
    by_cases e : k = b5
    · subst e
      exact hA2.trans (show At (Wk.setRow k kvv) k 29 kvv from hA.putAll).symm
    · rw [heap_setRow_far Wk b5 k kvv e]
      exact (hg.block k (Nat.lt_of_lt_of_le hk hB.size) (fun h => e (by injection h))).trans (hB.block k hk)
/-! ### Calls, one after the other -/
/-- The seeds that the first k calls use. -/
def usd (cs : List Cl) : Nat → List Sd
  | 0 => []
  | k + 1 => let c := cs.getD k default; if c.op then usd cs k else usd cs k ++ [sdOf c.l c.M c.m 0, sdOf c.l c.M c.m 1]
theorem usd_len (cs : List Cl) (k : Nat) : (usd cs k).length ≤ 2 * k := by
  induction k with
  | zero => exact Nat.le_refl _
  | succ k ih =>
    unfold usd
    simp only
    split
    · omega
    · rw [List.length_append]; simp; omega
theorem usd_ok (cs : List Cl) (hc : ∀ c ∈ cs, c.Ok) (k : Nat) (hk : k ≤ cs.length) : ∀ s ∈ usd cs k, s.Ok := by
  induction k with
  | zero => intro s hs; cases hs
  | succ k ih =>
    have h1 : cs.getD k default ∈ cs := by
      rw [List.getD_eq_getElem?_getD, List.getElem?_eq_getElem (by omega)]
      exact List.getElem_mem _
    have h2 := hc _ h1
    intro s hs
    unfold usd at hs
    simp only at hs
    split at hs
    · exact ih (by omega) s hs
    · rcases List.mem_append.1 hs with hs | hs
      · exact ih (by omega) s hs
      · simp only [List.mem_cons, List.not_mem_nil, or_false] at hs
        rcases hs with rfl | rfl
        · exact sdOf_ok h2.l h2.M h2.m 0
        · exact sdOf_ok h2.l h2.M h2.m 1
theorem cl_at {W : World} {B : Nat} {A : Option Addr} {n c : Nat} {xs : List Cl} (h : ERow W B A n c xs) (k : Nat) (hk : k < n) : ∃ b off, A = some ⟨b, off, none⟩ ∧ b < B ∧ W.rangeAt b (off + k * 36) (Elt.cs (xs.getD k default)) := by
  obtain ⟨b, off, h1, h2, h3⟩ := h.at_ k (xs.getD k default) (by rw [List.getD_eq_getElem?_getD, List.getElem?_eq_getElem (by rw [h.len]; exact hk)]; rfl)
  exact ⟨b, off, h1, h2, h3⟩
section
variable {ops : Array Oper} {rest : List Oper} {o : Oper} {a : Act} {w W : World} {K : Act → World → Prop} {Q : Exit → Act → World → Prop} {L : Blks}
theorem wpList_loadCl {b off : Nat} {e : Cl} (hr : W.rangeAt b off (Elt.cs e)) (x : Operand) (ho : o.op = .load 38 x) (hw : Region.wanted o (yielded ops a.tmps) = true) (hx : a.eval x = .pointer (some ⟨b, off, none⟩))
    (k : wpList Try.prog ops Q rest (a.put o.dst (.agg e.arr)) W) : wpList Try.prog ops Q (o :: rest) a W := by
  have hrun : (loadVar 38 ⟨b, off, none⟩).run Try.prog W = .ok (.agg e.arr) W := run_loadVar_mid (P := Try.prog) W b off 38 e.cs _ hr Try.underlying38 rfl (by rw [e.cs_len]; exact sz38)
  unfold wpList
  rw [if_pos hw]
  refine .inl ?_
  unfold Oper.wp execOp
  simp only [ho, hx, Instr.loadAt, Instr.sureAddr, Sem.run_bind, Sem.run_pure, Result.andThen_ok, hrun]
  exact k
theorem fill2 (s t : Sd) (u v : Value) (hu : u.cells = s.arr) (hv : v.cells = t.arr) : Instr.fill (fun i => some (i * 4, 4)) #[.int .i64 0, .int .u64 0, .int .i64 0, .int .i64 0, .int .i64 0, .int .u64 0, .int .i64 0, .int .i64 0] [(0, u), (1, v)] = some (ecells [s, t]).toArray := by
  simp [Instr.fill, hu, hv, Sd.arr, ecells, Elt.cs, Sd.cs]
end
section
variable {w W W' : World} {g gc : Nat} {key : List Nat} {us : List Sd} {L : Blks}
theorem PP.adds {b : Nat} {o : Obj} (h : PP w W g gc key us L) (k : St W W' [(b, o)]) : PP w W' g gc key us (L ++ [(b, o)]) := h.lift fun X hs => by
  have := hs.adds k.bel (k.lo (b, o) (List.mem_singleton.2 rfl)) (k.get 0 rfl)
  rwa [List.append_assoc] at this
theorem St.into {V : World} {M : Blks} (h : St w V L) (k : St V W M) : St w W (L ++ M) :=
  (h.call k.bel).join ⟨k.at_, fun x hx => Nat.le_trans h.bel.size (k.lo x hx), k.nd, h.bel.trans (k.bel.mono h.bel.size)⟩ fun x hx y hy e => by
    have h1 := heap_lt (h.at_ x hx)
    have h2 := k.lo y hy
    omega
theorem ppswap {x y : Nat × Obj} (M M0 : Blks) : (M ++ (x :: y :: (M0 ++ L))).Perm (x :: y :: (M0 ++ (M ++ L))) :=
  (List.perm_append_comm_assoc M [x, y] (M0 ++ L)).trans ((List.perm_append_comm_assoc M M0 L).cons _ |>.cons _)
variable {ops : Array Oper} {rest : List Oper} {o : Oper} {a : Act} {K : Act → World → Prop} {Q : Exit → Act → World → Prop}
theorem wp_alloc_two (h : St w W L) (ty : TypeId) (ho : o.op = .alloc ty) (v : Value) (arr : Array Value) (hz : ∀ W, (zeroValue ty).run Try.prog W = .ok v W) (hx : v.cells = arr)
    (k : ∀ W' g, St w W' (L ++ [(g, C ty arr)]) → St W W' [(g, C ty arr)] → K (a.put o.dst (.pointer (some ⟨g, 0, none⟩))) W') : o.wp Try.prog a W K Q := by
  subst hx
  have h1 := k _ W.heap.size (h.push ty v.cells) ((St.nil W).push ty v.cells)
  unfold Oper.wp execOp
  simp only [ho, Instr.alloc, Sem.run_bind, hz, Result.andThen_ok]
  go_simp
  exact h1
theorem wpList_alloc_ppf (h : PP w W g gc key us L) (ty : TypeId) (ho : o.op = .alloc ty) (hw : Region.wanted o (yielded ops a.tmps) = true) (v : Value) (arr : Array Value) (hz : ∀ W, (zeroValue ty).run Try.prog W = .ok v W) (hx : v.cells = arr)
    (k : ∀ W' b, PP w W' g gc key us ((b, C ty arr) :: L) → wpList Try.prog ops Q rest (a.put o.dst (.pointer (some ⟨b, 0, none⟩))) W') : wpList Try.prog ops Q (o :: rest) a W :=
  wpList_alloc_pp h ty ho hw v arr hz hx fun W' h1 => k W' _ (h1.perm (List.perm_append_singleton _ _))
theorem wpList_build0_pp (h : PP w W g gc key us L) (ho : o.op = .buildSlice 33 0 #[]) (hw : Region.wanted o (yielded ops a.tmps) = true)
    (k : ∀ W' v M, RL v ([] : List Sd) M → PP w W' g gc key us (M ++ L) → wpList Try.prog ops Q rest (a.put o.dst v) W') : wpList Try.prog ops Q (o :: rest) a W := by
  obtain ⟨v0, M0, hr, hs⟩ := h
  exact wpList_build0_st (α := Sd) hs ho hw fun W' v M _ hrl h1 _ => k W' v M hrl ⟨v0, M0, hr, h1.perm (ppswap M M0)⟩
theorem wpList_append_pp {v : Value} {xs ys : List Sd} {M : Blks} (h : RL v xs M) (hP : PP w W g gc key us (M ++ L)) {B k c : Nat} {A : Option Addr} (hr : ERow W B A k c ys) (s x : Operand) (ho : o.op = .call { callee := .builtin .append, args := #[s, x], argTypes := #[33, 33] }) (hw : Region.wanted o (yielded ops a.tmps) = true)
    (hsv : a.eval s = v) (hx : a.eval x = .slice A k c) (hl : xs.length + k ≤ 100000)
    (kk : ∀ v' W' M', RL v' (xs ++ ys) M' → PP w W' g gc key us (M' ++ L) → wpList Try.prog ops Q rest (a.put o.dst v') W') : wpList Try.prog ops Q (o :: rest) a W := by
  obtain ⟨v0, M0, hr0, hs⟩ := hP
  exact wpList_append_rl (α := Sd) h (hs.perm (ppswap M M0).symm) hr s x ho hw hsv hx hl fun v' W' M' h1 h2 => kk v' W' M' h1 ⟨v0, M0, hr0, h2.perm (ppswap M' M0)⟩
theorem run_build2 (s t : Sd) (u v : Value) (hu : u.cells = s.arr) (hv : v.cells = t.arr) (W : World) : (Instr.buildSlice 33 2 #[(0, u), (1, v)]).run Try.prog W = .ok (.slice (some ⟨W.heap.size, 0, none⟩) 2 2) (W.alloc (.cells (ecells [s, t]).toArray 42)) := by
  obtain ⟨i, hi, hz, h1, h2⟩ := (inferInstance : Elt Sd).inf
  have h4 : i.size = 4 := h1
  refine run_buildSlice (P := Try.prog) W 33 42 2 _ _ i (.agg #[.int .i64 0, .int .u64 0, .int .i64 0, .int .i64 0]) Try.underlying33 hi hz (by omega) (by omega) ?_
  rw [h4]
  exact (congrArg (fun b => Instr.fill (fun i => some (i * 4, 4)) b [(0, u), (1, v)]) (by kernel_rfl)).trans (fill2 s t u v hu hv)
theorem wpList_build2_pp (h : PP w W g gc key us L) (x y : Operand) (s t : Sd) (ho : o.op = .buildSlice 33 2 #[(0, x), (1, y)]) (hw : Region.wanted o (yielded ops a.tmps) = true) (hx : (a.eval x).cells = s.arr) (hy : (a.eval y).cells = t.arr)
    (k : ∀ W' b, PP w W' g gc key us L → ERow W' W'.heap.size (some ⟨b, 0, none⟩) 2 2 [s, t] → wpList Try.prog ops Q rest (a.put o.dst (.slice (some ⟨b, 0, none⟩) 2 2)) W') : wpList Try.prog ops Q (o :: rest) a W := by
  unfold wpList
  rw [if_pos hw]
  refine .inl ?_
  have hrun := run_build2 s t (a.eval x) (a.eval y) hx hy W
  unfold Oper.wp execOp
  simp only [ho, Sem.run_bind, List.map_toArray, List.map_cons, List.map_nil, hrun, Result.andThen_ok]
  refine k _ _ (h.call ((Below.refl _ _).alloc (Nat.le_refl _) _)) ?_
  have hA : At (W.alloc (.cells (ecells [s, t]).toArray 42)) W.heap.size 42 (ecells [s, t]).toArray := heap_alloc_new W _
  refine ⟨rfl, Nat.le_refl _, by unfold maxLen; omega, (fun h => by cases h), fun a ha _ => ?_⟩
  injection ha with ha
  subst ha
  refine ⟨rfl, hA.lt, fun j u hj i v hi => ?_⟩
  have hlen := (List.getElem?_eq_some_iff.1 hi).1
  have e4 : (Elt.cs u).length = 4 := rfl
  rw [e4] at hlen
  rw [hA.cell]
  match j, hj with
  | 0, hj =>
    simp only [List.getElem?_cons_zero, Option.some.injEq] at hj
    subst hj
    rw [List.getElem?_toArray]
    have : (ecells [s, t]) = Elt.cs s ++ ecells [t] := rfl
    rw [this, List.getElem?_append_left (by show 0 + 0 * 4 + i < 4; omega)]
    simpa using hi
  | 1, hj =>
    simp only [List.getElem?_cons_succ, List.getElem?_cons_zero, Option.some.injEq] at hj
    subst hj
    rw [List.getElem?_toArray]
    have : (ecells [s, t]) = Elt.cs s ++ (Elt.cs t ++ []) := rfl
    rw [this, List.append_nil, List.getElem?_append_right (by show 4 ≤ _; show 4 ≤ 0 + 1 * 4 + i; omega), ← hi]
    congr 1
    show 0 + 1 * 4 + i - 4 = i
    omega
  | j + 2, hj => simp at hj
end
theorem same_any (A1 A2 : Option Addr) (n m c1 c2 : Nat) (xs : List Sd) (B1 B2 : Nat) (w : World) (hx : ERow w B1 A1 n c1 xs) (hy : ERow w B2 A2 m c2 xs) (hn : n ≤ 3000) (hm : m ≤ 3000) :
    Calls Try.prog 13 #[.slice A1 n c1, .slice A2 m c2] w fun e w' => e = .returned (.bool true) ∧ ∃ q, w' = w.drewN q := by
  refine (refSame_any A1 A2 n m c1 c2 xs xs B1 B2 w hx hy hn hm).mono ?_
  rintro e w' ⟨rfl, q, rfl⟩
  exact ⟨by simp, q, rfl⟩
theorem zero29 (W : World) : (zeroValue 29).run Try.prog W = .ok (.agg #[.slice none 0 0, .slice none 0 0]) W := by kernel_rfl
/-- The loop over the calls. -/
def LlRel (base : World) (g gc : Nat) (key : List Nat) (cs : List Cl) (n : Nat) (L0 : Blks) (u i : Value) (wr : World) : Prop :=
  ∃ (k : Nat) (MU : Blks), k ≤ n ∧ i = .int .i64 (k : Nat) ∧ RL u (usd cs k) MU ∧ PP base wr g gc key (usd cs k) (MU ++ L0)
/-- What a round works on. -/
structure LO (base : World) (g gc : Nat) (key : List Nat) (b9 b10 : Nat) (c : Cl) (Y : List Nat) (X : Blks) (W : World) : Prop where
  ex : ∃ us, PP base W g gc key us ((b10, C 36 (arrV Y)) :: (b9, C 38 c.arr) :: X)
structure LF (base : World) (g gc : Nat) (key : List Nat) (us : List Sd) (b9 b10 : Nat) (c : Cl) (Y : List Nat) (X : Blks) (W : World) : Prop where
  pp : PP base W g gc key us ((b10, C 36 (arrV Y)) :: (b9, C 38 c.arr) :: X)
section
variable {base W W' : World} {g gc b9 b10 : Nat} {key Y : List Nat} {us : List Sd} {c : Cl} {X : Blks}
theorem LO.st (h : LO base g gc key b9 b10 c Y X W) : St base W ((b10, C 36 (arrV Y)) :: (b9, C 38 c.arr) :: X) := by
  obtain ⟨us, h⟩ := h.ex
  exact h.rest
theorem LO.c1 (h : LO base g gc key b9 b10 c Y X W) : W.cell? ⟨b9, 1, none⟩ = some (.int .i64 c.l) := cl_1 (h.st.get 1 rfl)
theorem LO.c2 (h : LO base g gc key b9 b10 c Y X W) : W.cell? ⟨b9, 2, none⟩ = some (.int .u64 (c.M : Int)) := cl_2 (h.st.get 1 rfl)
theorem LO.c3 (h : LO base g gc key b9 b10 c Y X W) : W.cell? ⟨b9, 3, none⟩ = some (.int .i64 c.m) := cl_3 (h.st.get 1 rfl)
theorem LO.r4 (h : LO base g gc key b9 b10 c Y X W) : W.rangeAt b9 4 (vals c.xs) := cl_4 (h.st.get 1 rfl)
theorem LO.ay (h : LO base g gc key b9 b10 c Y X W) : At W b10 36 (arrV Y) := h.st.get 0 rfl
theorem LF.call (h : LF base g gc key us b9 b10 c Y X W) (hb : Below W.heap.size W W') : LF base g gc key us b9 b10 c Y X W' := ⟨h.pp.call hb⟩
theorem LF.c1 (h : LF base g gc key us b9 b10 c Y X W) : W.cell? ⟨b9, 1, none⟩ = some (.int .i64 c.l) := cl_1 (h.pp.rest.get 1 rfl)
theorem LF.c2 (h : LF base g gc key us b9 b10 c Y X W) : W.cell? ⟨b9, 2, none⟩ = some (.int .u64 (c.M : Int)) := cl_2 (h.pp.rest.get 1 rfl)
theorem LF.c3 (h : LF base g gc key us b9 b10 c Y X W) : W.cell? ⟨b9, 3, none⟩ = some (.int .i64 c.m) := cl_3 (h.pp.rest.get 1 rfl)
theorem LF.r4 (h : LF base g gc key us b9 b10 c Y X W) : W.rangeAt b9 4 (vals c.xs) := cl_4 (h.pp.rest.get 1 rfl)
theorem LF.ay (h : LF base g gc key us b9 b10 c Y X W) : At W b10 36 (arrV Y) := h.pp.rest.get 0 rfl
end
end Go.Proofs.Ytfbgpfiodgibbaa
namespace Go.Proofs.Ytfbgpfiodgibbaa
open Go.RowKit
open A (arrV vals)
set_option linter.unusedVariables false
set_option linter.unusedSimpArgs false
attribute [local irreducible] A.arrV crs cr1 Cl.arr

theorem PP.drewK {w W : World} {g gc : Nat} {key : List Nat} {us : List Sd} {L : Blks} (h : PP w W g gc key us L) (n : Nat) : PP w (W.drewN n) g gc key us L := by
  obtain ⟨v, M, hr, hs⟩ := h
  exact ⟨v, M, hr, hs.drewN n⟩
theorem hlit32 : lit32 = arrV zs32 := by unfold A.arrV; rfl
theorem neq_self (xs : List Nat) (hx : IsLine xs) (w : World) : (binOp .neq 36 (.agg (arrV xs)) (.agg (arrV xs))).run Try.prog w = .ok (.bool false) w := by rw [neq_line xs xs hx hx]; simp
set_option maxRecDepth 100000 in
set_option maxHeartbeats 8000000 in
theorem linesLaw_any (key : List Nat) (hk : IsKey key) (A1 : Option Addr) (n c1 : Nat) (cs : List Cl) (hcs : ∀ c ∈ cs, c.Ok) (w : World) (hx : ERow w w.heap.size A1 n c1 cs) : Calls Try.prog 3 #[.agg (arrV key), .slice A1 n c1] w fun e w' => e = .returned (.bool true) ∧ Below w.heap.size w w' := by
  have h0 := St.nil w
  have SP := Lib.hid (fun W => speaks_any W)
  have NW := Lib.hid (fun w W L (h : St w W L) => new_any h key hk)
  have OF := Lib.hid (fun W => refKeyB_any key hk W)
  have KL := Lib.hid hk.len
  by_cases h30 : n ≤ 30
  · have hgt : ((n : Int) > 30) = False := eq_false (by omega)
    have hgt2 : decide ((n : Int) > 30) = false := decide_eq_false (by omega)
    have hgt3 : ((30 : Int) < (n : Int)) = False := eq_false (by omega)
    go_enter Try.func3, Try.ntmps3
    go_wp2_with (first
      | (have _ := h0; refine wpList_box_st h0 23 _ rfl rfl (arrV key) rfl ?_; clear h0; intro W1 h1 _ _; generalize hb2 : w.heap.size = b2 at h1 ⊢; replace hb2 := Lib.hid hb2)
      | (go_at_call 7; refine (SP.out _).mono ?_; rintro e W3 ⟨rfl, hb⟩; have h3 : St w W3 [(b2, C 23 (arrV key))] := h1.call hb; clear hb h1 SP))
    go_cut [5, 6] from 16 to 19 (fun s5 s6 wx => ∃ (b5 g gc : Nat) (base : World) (L0 : Blks) (gt c8 gb cb : Nat), s5 = .pointer (some ⟨b5, 0, none⟩) ∧ s6 = .pointer (some ⟨g, 0, none⟩) ∧ PP base wx g gc key [] L0 ∧ KB w base g gc key b5 gt c8 gb cb L0)
    case first =>
      have F0 := Lib.hid h3.drew
      clear h3
      refine wp_region_held_drew (S := fun W => St w W [(b2, C 23 (arrV key))]) (by kernel_rfl) F0.out (fun _ => ?_)
      generalize W3.drew = V0 at *
      refine wpAnyH_take (i := 0) (v := .agg (arrV key)) rfl (by kernel_rfl) (by kernel_rfl) (by kernel_rfl) (fun _ _ _ h => h) (yields_at 23 _ _ rfl (by rfl) rfl Try.underlying23 rfl (by rw [A.arrV_size, KL.out]; exact sz23) (fun W hW => hW.get 0 rfl)) (F0.out) ?_
      try simp only [Act.put, List.getElem_toArray, List.getElem_cons_succ, List.getElem_cons_zero, List.setIfInBounds_toArray, List.set_cons_zero, List.set_cons_succ]
      refine wpAnyH_take (i := 2) (v := .agg (arrV key)) rfl (by kernel_rfl) (by kernel_rfl) (by kernel_rfl) (fun _ _ _ h => h) (yields_at 23 _ _ rfl (by rfl) rfl Try.underlying23 rfl (by rw [A.arrV_size, KL.out]; exact sz23) (fun W hW => hW.get 0 rfl)) (F0.out) ?_
      try simp only [Act.put, List.getElem_toArray, List.getElem_cons_succ, List.getElem_cons_zero, List.setIfInBounds_toArray, List.set_cons_zero, List.set_cons_succ]
      refine wpAnyH_ready (rs := [1, 4]) (by kernel_rfl) (by simp) ?_
      refine (AllReadyH.cons rfl (fun K hK => ?_) (AllReadyH.cons rfl (fun K hK => ?_) AllReadyH.nil))
      · go_simp
        go_at_call 8
        refine (OF.out _).mono ?_
        rintro e V1 ⟨gt, c8, gb, cb, rfl, RK1, B1⟩
        have F1 := Lib.hid (F0.out.call B1)
        refine hK.out _ _ (F1.out) (fun _ => ?_)
        clear hK K
        try simp only [Act.put, List.getElem_toArray, List.getElem_cons_succ, List.getElem_cons_zero, List.setIfInBounds_toArray, List.set_cons_zero, List.set_cons_succ]
        refine wpAnyH_ready (rs := [3, 4]) (by kernel_rfl) (by simp) ?_
        refine (AllReadyH.cons rfl (fun K hK => ?_) (AllReadyH.cons rfl (fun K hK => ?_) AllReadyH.nil))
        · go_simp
          go_at_call 9
          refine (NW.out _ _ _ (St.nil _)).mono ?_
          rintro e V2 ⟨g, gc, rfl, P2⟩
          have F2 := Lib.hid (F1.out.call P2.rest.bel)
          refine hK.out _ _ (F2.out) (fun _ => ?_)
          clear hK K
          try simp only [Act.put, List.getElem_toArray, List.getElem_cons_succ, List.getElem_cons_zero, List.setIfInBounds_toArray, List.set_cons_zero, List.set_cons_succ]
          refine wpAnyH_ready (rs := [4]) (by kernel_rfl) (by simp) ?_
          refine (AllReadyH.cons rfl (fun K hK => ?_) AllReadyH.nil)
          rw [if_pos (by rfl)]
          refine wp_alloc_two F2.out 29 rfl _ #[.slice none 0 0, .slice none 0 0] zero29 rfl ?_
          intro V3 g3 G3 N3
          have F3 := Lib.hid G3
          replace N3 := Lib.hid N3
          clear G3
          have P3 := P2.adds N3.out
          refine hK.out _ _ (St.pre F3.out) (fun _ => ?_)
          clear hK K
          try simp only [Act.put, List.getElem_toArray, List.getElem_cons_succ, List.getElem_cons_zero, List.setIfInBounds_toArray, List.set_cons_zero, List.set_cons_succ]
          refine wpAnyH_ready (rs := [5]) (by kernel_rfl) (by simp) ?_
          refine (AllReadyH.cons rfl (fun K hK => ?_) AllReadyH.nil)
          rw [if_pos (by rfl)]
          refine wp_store_st (arr' := kv gt c8 gb cb) F3.out 1 rfl 29 _ _ rfl rfl rfl sz29 rfl (by simp [Value.oneCell']) ?_
          intro V4 G4 X4
          have F4 := Lib.hid G4
          clear G4
          refine hK.out _ _ (F4.out.sub (by exact List.sublist_append_left [_] [_])) (fun _ => ?_)
          clear hK K
          try simp only [Act.put, List.getElem_toArray, List.getElem_cons_succ, List.getElem_cons_zero, List.setIfInBounds_toArray, List.set_cons_zero, List.set_cons_succ]
          refine wpAnyH_take (i := 6) (v := .pointer (some ⟨g, 0, none⟩)) rfl (by kernel_rfl) (by kernel_rfl) (by kernel_rfl) (fun _ _ _ h => h) (Or.inl ⟨by rfl, fun W hW => by clear hW; go_simp⟩) (F4.out.sub (by exact List.sublist_append_left [_] [_])) ?_
          try simp only [Act.put, List.getElem_toArray, List.getElem_cons_succ, List.getElem_cons_zero, List.setIfInBounds_toArray, List.set_cons_zero, List.set_cons_succ]
          refine wpAnyH_done (by kernel_rfl) ?_ _
          go_wp2_with fail
          go_meet
          exact ⟨_, g, gc, _, _, gt, c8, gb, cb, rfl, rfl, P3.put 0 rfl (F4.out.get 1 rfl) X4, kb_in RK1.rk F1.out.bel⟩
        · rw [if_pos (by rfl)]
          refine wp_alloc_two F1.out 29 rfl _ #[.slice none 0 0, .slice none 0 0] zero29 rfl ?_
          intro V5 g5 G5 N5
          have F5 := Lib.hid G5
          replace N5 := Lib.hid N5
          clear G5
          refine hK.out _ _ (St.pre F5.out) (fun _ => ?_)
          clear hK K
          try simp only [Act.put, List.getElem_toArray, List.getElem_cons_succ, List.getElem_cons_zero, List.setIfInBounds_toArray, List.set_cons_zero, List.set_cons_succ]
          refine wpAnyH_ready (rs := [3]) (by kernel_rfl) (by simp) ?_
          refine (AllReadyH.cons rfl (fun K hK => ?_) AllReadyH.nil)
          go_simp
          go_at_call 9
          refine (NW.out _ _ _ N5.out).mono ?_
          rintro e V6 ⟨g, gc, rfl, P6⟩
          have F6 := Lib.hid (F1.out.into P6.rest)
          refine hK.out _ _ (St.pre F6.out) (fun _ => ?_)
          clear hK K
          try simp only [Act.put, List.getElem_toArray, List.getElem_cons_succ, List.getElem_cons_zero, List.setIfInBounds_toArray, List.set_cons_zero, List.set_cons_succ]
          refine wpAnyH_ready (rs := [5]) (by kernel_rfl) (by simp) ?_
          refine (AllReadyH.cons rfl (fun K hK => ?_) AllReadyH.nil)
          rw [if_pos (by rfl)]
          refine wp_store_st (arr' := kv gt c8 gb cb) F6.out 1 rfl 29 _ _ rfl rfl rfl sz29 rfl (by simp [Value.oneCell']) ?_
          intro V7 G7 X7
          have F7 := Lib.hid G7
          clear G7
          refine hK.out _ _ (F7.out.sub (by exact List.sublist_append_left [_] [_])) (fun _ => ?_)
          clear hK K
          try simp only [Act.put, List.getElem_toArray, List.getElem_cons_succ, List.getElem_cons_zero, List.setIfInBounds_toArray, List.set_cons_zero, List.set_cons_succ]
          refine wpAnyH_take (i := 6) (v := .pointer (some ⟨g, 0, none⟩)) rfl (by kernel_rfl) (by kernel_rfl) (by kernel_rfl) (fun _ _ _ h => h) (Or.inl ⟨by rfl, fun W hW => by clear hW; go_simp⟩) (F7.out.sub (by exact List.sublist_append_left [_] [_])) ?_
          try simp only [Act.put, List.getElem_toArray, List.getElem_cons_succ, List.getElem_cons_zero, List.setIfInBounds_toArray, List.set_cons_zero, List.set_cons_succ]
          refine wpAnyH_done (by kernel_rfl) ?_ _
          go_wp2_with fail
          go_meet
          exact ⟨_, g, gc, _, _, gt, c8, gb, cb, rfl, rfl, P6.put 0 rfl (F7.out.get 1 rfl) X7, kb_in RK1.rk F1.out.bel⟩
      · rw [if_pos (by rfl)]
        refine wp_alloc_two F0.out 29 rfl _ #[.slice none 0 0, .slice none 0 0] zero29 rfl ?_
        intro V8 g8 G8 N8
        have F8 := Lib.hid G8
        replace N8 := Lib.hid N8
        clear G8
        refine hK.out _ _ (St.pre F8.out) (fun _ => ?_)
        clear hK K
        try simp only [Act.put, List.getElem_toArray, List.getElem_cons_succ, List.getElem_cons_zero, List.setIfInBounds_toArray, List.set_cons_zero, List.set_cons_succ]
        refine wpAnyH_ready (rs := [1]) (by kernel_rfl) (by simp) ?_
        refine (AllReadyH.cons rfl (fun K hK => ?_) AllReadyH.nil)
        go_simp
        go_at_call 8
        refine (OF.out _).mono ?_
        rintro e V9 ⟨gt, c8, gb, cb, rfl, RK9, B9⟩
        have F9 := Lib.hid (F8.out.call B9)
        refine hK.out _ _ (St.pre F9.out) (fun _ => ?_)
        clear hK K
        try simp only [Act.put, List.getElem_toArray, List.getElem_cons_succ, List.getElem_cons_zero, List.setIfInBounds_toArray, List.set_cons_zero, List.set_cons_succ]
        refine wpAnyH_ready (rs := [3]) (by kernel_rfl) (by simp) ?_
        refine (AllReadyH.cons rfl (fun K hK => ?_) AllReadyH.nil)
        go_simp
        go_at_call 9
        refine (NW.out _ _ _ (St.nil _)).mono ?_
        rintro e V10 ⟨g, gc, rfl, P10⟩
        have F10 := Lib.hid (F9.out.call P10.rest.bel)
        refine hK.out _ _ (St.pre F10.out) (fun _ => ?_)
        clear hK K
        try simp only [Act.put, List.getElem_toArray, List.getElem_cons_succ, List.getElem_cons_zero, List.setIfInBounds_toArray, List.set_cons_zero, List.set_cons_succ]
        refine wpAnyH_ready (rs := [5]) (by kernel_rfl) (by simp) ?_
        refine (AllReadyH.cons rfl (fun K hK => ?_) AllReadyH.nil)
        rw [if_pos (by rfl)]
        refine wp_store_st (arr' := kv gt c8 gb cb) F10.out 1 rfl 29 _ _ rfl rfl rfl sz29 rfl (by simp [Value.oneCell']) ?_
        intro V11 G11 X11
        have F11 := Lib.hid G11
        clear G11
        refine hK.out _ _ (F11.out.sub (by exact List.sublist_append_left [_] [_])) (fun _ => ?_)
        clear hK K
        try simp only [Act.put, List.getElem_toArray, List.getElem_cons_succ, List.getElem_cons_zero, List.setIfInBounds_toArray, List.set_cons_zero, List.set_cons_succ]
        refine wpAnyH_take (i := 6) (v := .pointer (some ⟨g, 0, none⟩)) rfl (by kernel_rfl) (by kernel_rfl) (by kernel_rfl) (fun _ _ _ h => h) (Or.inl ⟨by rfl, fun W hW => by clear hW; go_simp⟩) (F11.out.sub (by exact List.sublist_append_left [_] [_])) ?_
        try simp only [Act.put, List.getElem_toArray, List.getElem_cons_succ, List.getElem_cons_zero, List.setIfInBounds_toArray, List.set_cons_zero, List.set_cons_succ]
        refine wpAnyH_done (by kernel_rfl) ?_ _
        go_wp2_with fail
        go_meet
        exact ⟨_, g, gc, _, _, gt, c8, gb, cb, rfl, rfl, pp_out P10 (F9.out.get 1 rfl) (F11.out.get 1 rfl) X11, kb_out RK9 (F9.out.get 1 rfl) (fun n => by simp) (heap_lt (F8.out.get 1 rfl)) F9.out.bel (F9.out.lo _ (List.mem_cons_of_mem _ (List.mem_singleton.2 rfl)))⟩
    case rest =>
      obtain ⟨b5, g, gc, base, L0, gt, c8, gb, cb, rfl, rfl, hP0, hK⟩ := hcut
      have HK := Lib.hid hK
      clear h3 hK NW OF
      go_wp2_with (first
        | (have _ := hP0; refine wpList_build0_pp hP0 rfl rfl ?_; clear hP0; intro W4 v4 M4 hr4 h4))
      go_loopw [7, 23] (LlRel base g gc key cs n L0) (fun _ i _ => n - (intOf i).toNat)
      case atStart => exact ⟨0, M4, by omega, rfl, hr4, h4⟩
      case round =>
        clear h4 hr4
        obtain ⟨k, MU, hkn, rfl, hr, hP⟩ := hrel
        have US := Lib.hid (usd_ok cs hcs k (by have := hx.len; omega))
        have HL := Lib.hid (show (usd cs k).length ≤ 60 by have := usd_len cs k; omega)
        have US1 : Hid (usd cs (k + 1) = if (cs.getD k default).op then usd cs k else usd cs k ++ [sdOf (cs.getD k default).l (cs.getD k default).M (cs.getD k default).m 0, sdOf (cs.getD k default).l (cs.getD k default).M (cs.getD k default).m 1]) := Lib.hid rfl
        generalize usd cs k = us at *
        by_cases hlt : k < n
        · have hlt2 : (k : Int) < (n : Int) := by omega
          have bl := Lib.hid (HK.out _ _ MU hP).2.2
          obtain ⟨b, off, rfl, _, r⟩ := cl_at (hx.below bl.out) k hlt
          have hcok : (cs.getD k default).Ok := hcs _ (by
            rw [List.getD_eq_getElem?_getD, List.getElem?_eq_getElem (by rw [hx.len]; exact hlt)]
            exact List.getElem_mem _)
          generalize cs.getD k default = c at *
          have r9 := Lib.hid r
          have LN := Lib.hid (fun W gt c8 gb cb h => refLine_any key hk gt c8 gb cb c.l c.M c.m hcok.l hcok.M hcok.m c.xs hcok.line W h hlit32)
          have OP := Lib.hid (fun W g gc hp => open_any g gc key hk c.l c.M c.m hcok.l hcok.M hcok.m c.xs hcok.line W hp)
          have SE := Lib.hid (fun w W g gc us L (h : PP w W g gc key us L) hus => seal_any h hus hk c.l c.M c.m hcok.l hcok.M hcok.m c.xs hcok.line)
          have YL := Lib.hid (crL_ok hk c.l c.M c.m hcok.line).len
          have NQ := Lib.hid (fun W => neq_self _ (crL_ok hk c.l c.M c.m hcok.line) W)
          have q1 : ∀ W, (binOp .neq 36 (.agg (arrV (crL key c.l c.M c.m c.xs))) (.agg (arrV (crL key c.l c.M c.m c.xs)))).run Try.prog W = .ok (.bool false) W := NQ.out
          have CL := Lib.hid c.len
          generalize crL key c.l c.M c.m c.xs = Y at *
          clear r hcok bl NQ
          rcases Bool.eq_false_or_eq_true c.op with hop | hop
          · rw [hop, if_pos rfl] at US1
            go_wp2_with (first
              | (refine wpList_loadCl r9.out _ rfl rfl rfl ?_)
              | (have _ := hP; refine wpList_alloc_ppf hP 38 rfl rfl _ zcl.arr zero38 rfl ?_; clear hP; intro W1 b9 h1)
              | (have _ := h1; refine wpList_store_pp (arr' := c.arr) h1 0 rfl 38 _ _ rfl rfl rfl rfl (by rw [Cl.size]; exact sz38) (by rw [Cl.size, Cl.size]) (cl_all c) ?_; clear h1; intro W2 h2; replace h2 := Lib.hid (show PP base W2 g gc key us ((b9, C 38 c.arr) :: (MU ++ L0)) from h2); have k0 := cl_0 (h2.out.rest.get 0 rfl); rw [hop] at k0; have k1 := cl_1 (h2.out.rest.get 0 rfl); have k2 := cl_2 (h2.out.rest.get 0 rfl); have k3 := cl_3 (h2.out.rest.get 0 rfl); have k4 := Lib.hid (cl_4 (h2.out.rest.get 0 rfl)); have kk := Lib.hid (HK.out _ _ ((b9, C 38 c.arr) :: MU) h2.out))
              | (refine wpList_load_at kk.out.1 29 _ _ rfl rfl rfl Try.underlying29 rfl sz29 ?_)
              | (refine wpList_load_mid36 k4.out CL.out _ rfl rfl rfl ?_)
              | (go_at_call 10; refine (LN.out _ _ _ _ _ kk.out.2.1).mono ?_; clear k0 k1 k2 k3 k4 kk; rintro e W3 ⟨rfl, hb⟩; have h3 := h2.out.call hb; clear hb h2)
              | (have _ := h3; refine wpList_alloc_ppf h3 36 rfl rfl _ (arrV zs32) zero36 rfl ?_; clear h3; intro W4 b10 h4)
              | (have _ := h4; refine wpList_store_pp (arr' := arrV Y) h4 0 rfl 36 _ _ rfl rfl rfl rfl (by rw [A.arrV_size, YL.out]; exact sz36) (by rw [A.arrV_size, A.arrV_size, YL.out]; rfl) (A.arrV_all _) ?_; clear h4; intro W5 h5; replace h5 := Lib.hid (show PP base W5 g gc key us ((b10, C 36 (arrV Y)) :: (b9, C 38 c.arr) :: (MU ++ L0)) from h5); have k0 := cl_0 (h5.out.rest.get 1 rfl); rw [hop] at k0; have k1 := cl_1 (h5.out.rest.get 1 rfl); have k2 := cl_2 (h5.out.rest.get 1 rfl); have k3 := cl_3 (h5.out.rest.get 1 rfl)))
            have H0 := Lib.hid (show LF base g gc key us b9 b10 c Y (MU ++ L0) W5.drew from ⟨h5.out.drew⟩)
            clear k0 k1 k2 k3
            refine wp_region_held_drew (S := fun W => LF base g gc key us b9 b10 c Y (MU ++ L0) W) (by kernel_rfl) H0.out (fun _ => ?_)
            generalize W5.drew = V0 at *
            refine wpAnyH_take (i := 0) (v := .pointer (some ⟨g, 0, none⟩)) rfl (by kernel_rfl) (by kernel_rfl) (by kernel_rfl) (fun _ _ _ h => h) (Or.inl ⟨by rfl, fun W hW => by clear hW; go_simp⟩) H0.out ?_
            try simp only [Act.put, List.getElem_toArray, List.getElem_cons_succ, List.getElem_cons_zero, List.setIfInBounds_toArray, List.set_cons_zero, List.set_cons_succ]
            refine wpAnyH_take (i := 1) (v := .pointer (some ⟨b9, 1, none⟩)) rfl (by kernel_rfl) (by kernel_rfl) (by kernel_rfl) (fun _ _ _ h => h) (Or.inl ⟨by rfl, fun W hW => by clear hW; go_simp⟩) H0.out ?_
            try simp only [Act.put, List.getElem_toArray, List.getElem_cons_succ, List.getElem_cons_zero, List.setIfInBounds_toArray, List.set_cons_zero, List.set_cons_succ]
            refine wpAnyH_take (i := 2) (v := .int .i64 c.l) rfl (by kernel_rfl) (by kernel_rfl) (by kernel_rfl) (fun _ _ _ h => h) (Or.inl ⟨by rfl, fun W hW => by have hc := (hW.c1); clear hW; go_simp⟩) H0.out ?_
            try simp only [Act.put, List.getElem_toArray, List.getElem_cons_succ, List.getElem_cons_zero, List.setIfInBounds_toArray, List.set_cons_zero, List.set_cons_succ]
            refine wpAnyH_take (i := 3) (v := .pointer (some ⟨b9, 2, none⟩)) rfl (by kernel_rfl) (by kernel_rfl) (by kernel_rfl) (fun _ _ _ h => h) (Or.inl ⟨by rfl, fun W hW => by clear hW; go_simp⟩) H0.out ?_
            try simp only [Act.put, List.getElem_toArray, List.getElem_cons_succ, List.getElem_cons_zero, List.setIfInBounds_toArray, List.set_cons_zero, List.set_cons_succ]
            refine wpAnyH_take (i := 4) (v := .int .u64 (c.M : Int)) rfl (by kernel_rfl) (by kernel_rfl) (by kernel_rfl) (fun _ _ _ h => h) (Or.inl ⟨by rfl, fun W hW => by have hc := (hW.c2); clear hW; go_simp⟩) H0.out ?_
            try simp only [Act.put, List.getElem_toArray, List.getElem_cons_succ, List.getElem_cons_zero, List.setIfInBounds_toArray, List.set_cons_zero, List.set_cons_succ]
            refine wpAnyH_take (i := 5) (v := .pointer (some ⟨b9, 3, none⟩)) rfl (by kernel_rfl) (by kernel_rfl) (by kernel_rfl) (fun _ _ _ h => h) (Or.inl ⟨by rfl, fun W hW => by clear hW; go_simp⟩) H0.out ?_
            try simp only [Act.put, List.getElem_toArray, List.getElem_cons_succ, List.getElem_cons_zero, List.setIfInBounds_toArray, List.set_cons_zero, List.set_cons_succ]
            refine wpAnyH_take (i := 6) (v := .int .i64 c.m) rfl (by kernel_rfl) (by kernel_rfl) (by kernel_rfl) (fun _ _ _ h => h) (Or.inl ⟨by rfl, fun W hW => by have hc := (hW.c3); clear hW; go_simp⟩) H0.out ?_
            try simp only [Act.put, List.getElem_toArray, List.getElem_cons_succ, List.getElem_cons_zero, List.setIfInBounds_toArray, List.set_cons_zero, List.set_cons_succ]
            refine wpAnyH_take (i := 7) (v := .pointer (some ⟨b9, 4, none⟩)) rfl (by kernel_rfl) (by kernel_rfl) (by kernel_rfl) (fun _ _ _ h => h) (Or.inl ⟨by rfl, fun W hW => by clear hW; go_simp⟩) H0.out ?_
            try simp only [Act.put, List.getElem_toArray, List.getElem_cons_succ, List.getElem_cons_zero, List.setIfInBounds_toArray, List.set_cons_zero, List.set_cons_succ]
            refine wpAnyH_take (i := 8) (v := .agg (arrV c.xs)) rfl (by kernel_rfl) (by kernel_rfl) (by kernel_rfl) (fun _ _ _ h => h) (yields_mid36 _ rfl (by rfl) rfl CL.out (fun W hW => hW.r4)) H0.out ?_
            try simp only [Act.put, List.getElem_toArray, List.getElem_cons_succ, List.getElem_cons_zero, List.setIfInBounds_toArray, List.set_cons_zero, List.set_cons_succ]
            refine wpAnyH_take (i := 10) (v := .agg (arrV Y)) rfl (by kernel_rfl) (by kernel_rfl) (by kernel_rfl) (fun _ _ _ h => h) (yields_at 36 _ _ rfl (by rfl) rfl Try.underlying36 rfl (by rw [A.arrV_size, YL.out]; exact sz36) (fun W hW => hW.ay)) H0.out ?_
            try simp only [Act.put, List.getElem_toArray, List.getElem_cons_succ, List.getElem_cons_zero, List.setIfInBounds_toArray, List.set_cons_zero, List.set_cons_succ]
            refine wpAnyH_ready (rs := [9]) (by kernel_rfl) (by simp) ?_
            refine AllReadyH.cons rfl (fun K hK => ?_) AllReadyH.nil
            go_simp
            go_at_call 11
            refine (OP.out _ _ _ H0.out.pp.has).mono ?_
            rintro e V1_ ⟨rfl, hb1_⟩
            have H1_ := Lib.hid (H0.out.call hb1_)
            clear hb1_
            refine hK.out _ _ H1_.out (fun _ => ?_)
            clear hK K
            try simp only [Act.put, List.getElem_toArray, List.getElem_cons_succ, List.getElem_cons_zero, List.setIfInBounds_toArray, List.set_cons_zero, List.set_cons_succ]
            refine wpAnyH_take (i := 11) (v := .bool false) rfl (by kernel_rfl) (by kernel_rfl) (by kernel_rfl) (fun _ _ _ h => h) (Or.inl ⟨by rfl, fun W hW => by clear hW; go_simp⟩) H1_.out ?_
            try simp only [Act.put, List.getElem_toArray, List.getElem_cons_succ, List.getElem_cons_zero, List.setIfInBounds_toArray, List.set_cons_zero, List.set_cons_succ]
            refine wpAnyH_done (by kernel_rfl) ?_ _
            go_wp2
            go_roundw
            case rel => exact ⟨k + 1, MU, by omega, by go_num, by rw [US1.out]; exact hr, by rw [US1.out]; exact H1_.out.pp.sub ((List.sublist_cons_self _ _).trans (List.sublist_cons_self _ _))⟩
            case measure => simp [intOf]; omega
          · rw [hop, if_neg (by simp)] at US1
            go_wp2_with (first
              | (refine wpList_loadCl r9.out _ rfl rfl rfl ?_)
              | (have _ := hP; refine wpList_alloc_ppf hP 38 rfl rfl _ zcl.arr zero38 rfl ?_; clear hP; intro W1 b9 h1)
              | (have _ := h1; refine wpList_store_pp (arr' := c.arr) h1 0 rfl 38 _ _ rfl rfl rfl rfl (by rw [Cl.size]; exact sz38) (by rw [Cl.size, Cl.size]) (cl_all c) ?_; clear h1; intro W2 h2; replace h2 := Lib.hid (show PP base W2 g gc key us ((b9, C 38 c.arr) :: (MU ++ L0)) from h2); have k0 := cl_0 (h2.out.rest.get 0 rfl); rw [hop] at k0; have k1 := cl_1 (h2.out.rest.get 0 rfl); have k2 := cl_2 (h2.out.rest.get 0 rfl); have k3 := cl_3 (h2.out.rest.get 0 rfl); have k4 := Lib.hid (cl_4 (h2.out.rest.get 0 rfl)); have kk := Lib.hid (HK.out _ _ ((b9, C 38 c.arr) :: MU) h2.out))
              | (refine wpList_load_at kk.out.1 29 _ _ rfl rfl rfl Try.underlying29 rfl sz29 ?_)
              | (refine wpList_load_mid36 k4.out CL.out _ rfl rfl rfl ?_)
              | (go_at_call 10; refine (LN.out _ _ _ _ _ kk.out.2.1).mono ?_; clear k0 k1 k2 k3 k4 kk; rintro e W3 ⟨rfl, hb⟩; have h3 := h2.out.call hb; clear hb h2)
              | (have _ := h3; refine wpList_alloc_ppf h3 36 rfl rfl _ (arrV zs32) zero36 rfl ?_; clear h3; intro W4 b10 h4)
              | (have _ := h4; refine wpList_store_pp (arr' := arrV Y) h4 0 rfl 36 _ _ rfl rfl rfl rfl (by rw [A.arrV_size, YL.out]; exact sz36) (by rw [A.arrV_size, A.arrV_size, YL.out]; rfl) (A.arrV_all _) ?_; clear h4; intro W5 h5; replace h5 := Lib.hid (show PP base W5 g gc key us ((b10, C 36 (arrV Y)) :: (b9, C 38 c.arr) :: (MU ++ L0)) from h5); have k0 := cl_0 (h5.out.rest.get 1 rfl); rw [hop] at k0; have k1 := cl_1 (h5.out.rest.get 1 rfl); have k2 := cl_2 (h5.out.rest.get 1 rfl); have k3 := cl_3 (h5.out.rest.get 1 rfl))
              | (refine wpList_build_as 42 _ rfl rfl (sdOf c.l c.M c.m 0).arr (by rfl) ?_)
              | (refine wpList_build_as 42 _ rfl rfl (sdOf c.l c.M c.m 1).arr (by rfl) ?_)
              | (refine wpList_build2_pp h5.out _ _ (sdOf c.l c.M c.m 0) (sdOf c.l c.M c.m 1) rfl rfl rfl rfl ?_; clear h5 k0 k1 k2 k3; intro W6 b6 h6 rw6; replace h6 := Lib.hid h6; replace rw6 := Lib.hid rw6)
              | (refine wpList_append_pp hr (L := [(b10, C 36 (arrV Y)), (b9, C 38 c.arr)] ++ L0) (h6.out.perm (List.perm_append_comm_assoc [_, _] MU L0)) rw6.out _ _ rfl rfl rfl rfl (by have := HL.out; omega) ?_; clear h6 rw6; intro v7 W7 M7 hr7 h7))
            have HPP := Lib.hid ((h7.perm (List.perm_append_comm_assoc M7 [_, _] L0)).drew)
            have H0 := Lib.hid (show LO base g gc key b9 b10 c Y (M7 ++ L0) W7.drew from ⟨_, HPP.out⟩)
            clear h7
            refine wp_region_held_drew (S := fun W => LO base g gc key b9 b10 c Y (M7 ++ L0) W) (by kernel_rfl) H0.out (fun _ => ?_)
            generalize W7.drew = V0 at *
            refine wpAnyH_take (i := 0) (v := .pointer (some ⟨g, 0, none⟩)) rfl (by kernel_rfl) (by kernel_rfl) (by kernel_rfl) (fun _ _ _ h => h) (Or.inl ⟨by rfl, fun W hW => by clear hW; go_simp⟩) H0.out ?_
            try simp only [Act.put, List.getElem_toArray, List.getElem_cons_succ, List.getElem_cons_zero, List.setIfInBounds_toArray, List.set_cons_zero, List.set_cons_succ]
            refine wpAnyH_take (i := 1) (v := .pointer (some ⟨b9, 1, none⟩)) rfl (by kernel_rfl) (by kernel_rfl) (by kernel_rfl) (fun _ _ _ h => h) (Or.inl ⟨by rfl, fun W hW => by clear hW; go_simp⟩) H0.out ?_
            try simp only [Act.put, List.getElem_toArray, List.getElem_cons_succ, List.getElem_cons_zero, List.setIfInBounds_toArray, List.set_cons_zero, List.set_cons_succ]
            refine wpAnyH_take (i := 2) (v := .int .i64 c.l) rfl (by kernel_rfl) (by kernel_rfl) (by kernel_rfl) (fun _ _ _ h => h) (Or.inl ⟨by rfl, fun W hW => by have hc := (hW.c1); clear hW; go_simp⟩) H0.out ?_
            try simp only [Act.put, List.getElem_toArray, List.getElem_cons_succ, List.getElem_cons_zero, List.setIfInBounds_toArray, List.set_cons_zero, List.set_cons_succ]
            refine wpAnyH_take (i := 3) (v := .pointer (some ⟨b9, 2, none⟩)) rfl (by kernel_rfl) (by kernel_rfl) (by kernel_rfl) (fun _ _ _ h => h) (Or.inl ⟨by rfl, fun W hW => by clear hW; go_simp⟩) H0.out ?_
            try simp only [Act.put, List.getElem_toArray, List.getElem_cons_succ, List.getElem_cons_zero, List.setIfInBounds_toArray, List.set_cons_zero, List.set_cons_succ]
            refine wpAnyH_take (i := 4) (v := .int .u64 (c.M : Int)) rfl (by kernel_rfl) (by kernel_rfl) (by kernel_rfl) (fun _ _ _ h => h) (Or.inl ⟨by rfl, fun W hW => by have hc := (hW.c2); clear hW; go_simp⟩) H0.out ?_
            try simp only [Act.put, List.getElem_toArray, List.getElem_cons_succ, List.getElem_cons_zero, List.setIfInBounds_toArray, List.set_cons_zero, List.set_cons_succ]
            refine wpAnyH_take (i := 5) (v := .pointer (some ⟨b9, 3, none⟩)) rfl (by kernel_rfl) (by kernel_rfl) (by kernel_rfl) (fun _ _ _ h => h) (Or.inl ⟨by rfl, fun W hW => by clear hW; go_simp⟩) H0.out ?_
            try simp only [Act.put, List.getElem_toArray, List.getElem_cons_succ, List.getElem_cons_zero, List.setIfInBounds_toArray, List.set_cons_zero, List.set_cons_succ]
            refine wpAnyH_take (i := 6) (v := .int .i64 c.m) rfl (by kernel_rfl) (by kernel_rfl) (by kernel_rfl) (fun _ _ _ h => h) (Or.inl ⟨by rfl, fun W hW => by have hc := (hW.c3); clear hW; go_simp⟩) H0.out ?_
            try simp only [Act.put, List.getElem_toArray, List.getElem_cons_succ, List.getElem_cons_zero, List.setIfInBounds_toArray, List.set_cons_zero, List.set_cons_succ]
            refine wpAnyH_take (i := 7) (v := .pointer (some ⟨b9, 4, none⟩)) rfl (by kernel_rfl) (by kernel_rfl) (by kernel_rfl) (fun _ _ _ h => h) (Or.inl ⟨by rfl, fun W hW => by clear hW; go_simp⟩) H0.out ?_
            try simp only [Act.put, List.getElem_toArray, List.getElem_cons_succ, List.getElem_cons_zero, List.setIfInBounds_toArray, List.set_cons_zero, List.set_cons_succ]
            refine wpAnyH_take (i := 8) (v := .agg (arrV c.xs)) rfl (by kernel_rfl) (by kernel_rfl) (by kernel_rfl) (fun _ _ _ h => h) (yields_mid36 _ rfl (by rfl) rfl CL.out (fun W hW => hW.r4)) H0.out ?_
            try simp only [Act.put, List.getElem_toArray, List.getElem_cons_succ, List.getElem_cons_zero, List.setIfInBounds_toArray, List.set_cons_zero, List.set_cons_succ]
            refine wpAnyH_take (i := 10) (v := .agg (arrV Y)) rfl (by kernel_rfl) (by kernel_rfl) (by kernel_rfl) (fun _ _ _ h => h) (yields_at 36 _ _ rfl (by rfl) rfl Try.underlying36 rfl (by rw [A.arrV_size, YL.out]; exact sz36) (fun W hW => hW.ay)) H0.out ?_
            try simp only [Act.put, List.getElem_toArray, List.getElem_cons_succ, List.getElem_cons_zero, List.setIfInBounds_toArray, List.set_cons_zero, List.set_cons_succ]
            refine wpAnyH_ready (rs := [9]) (by kernel_rfl) (by simp) ?_
            refine AllReadyH.cons rfl (fun K hK => ?_) AllReadyH.nil
            go_simp
            go_at_call 12
            refine (SE.out _ _ _ _ _ _ HPP.out (by have := HL.out; omega)).mono ?_
            rintro e V1_ ⟨rfl, hp⟩
            have HP1 := Lib.hid hp
            have H1_ := Lib.hid (show LO base g gc key b9 b10 c Y _ V1_ from ⟨_, hp⟩)
            clear hp
            refine hK.out _ _ H1_.out (fun _ => ?_)
            clear hK K
            try simp only [Act.put, List.getElem_toArray, List.getElem_cons_succ, List.getElem_cons_zero, List.setIfInBounds_toArray, List.set_cons_zero, List.set_cons_succ]
            refine wpAnyH_take (i := 11) (v := .bool false) rfl (by kernel_rfl) (by kernel_rfl) (by kernel_rfl) (fun _ _ _ h => h) (Or.inl ⟨by rfl, fun W hW => by clear hW; go_simp⟩) H1_.out ?_
            try simp only [Act.put, List.getElem_toArray, List.getElem_cons_succ, List.getElem_cons_zero, List.setIfInBounds_toArray, List.set_cons_zero, List.set_cons_succ]
            refine wpAnyH_done (by kernel_rfl) ?_ _
            go_wp2
            go_roundw
            case rel => exact ⟨k + 1, M7, by omega, by go_num, by rw [US1.out]; exact hr7, by rw [US1.out]; exact HP1.out.sub ((List.sublist_cons_self _ _).trans (List.sublist_cons_self _ _))⟩
            case measure => simp [intOf]; omega
        · obtain rfl : k = n := by omega
          have hge : ((k : Int) < (k : Int)) = False := eq_false (by omega)
          have SM := Lib.hid (fun A1 A2 n m c1 c2 xs B1 B2 w hx hy hn hm => same_any A1 A2 n m c1 c2 xs B1 B2 w hx hy hn hm)
          obtain ⟨AU, cU, rfl, _⟩ := hr.form
          have TL := Lib.hid (show (tw us us.length).length ≤ 60 by have := tw_len us us.length; have := HL.out; omega)
          have RT := Lib.hid (fun W hx => refTwice_any AU us.length cU us W hx (by have := HL.out; omega))
          have UR := Lib.hid (fun (W : World) (X : Blks) (h : PP base W g gc key us (X ++ (MU ++ L0))) => show ERow W W.heap.size AU us.length cU us from hr.row (h.rest.perm (List.perm_append_comm_assoc X MU L0)) rfl)
          generalize hun : us.length = un at *
          go_wp2_with (first
            | (go_at_call 14; refine (used_any hP (by have := HL.out; omega)).mono ?_; rintro e W1 ⟨v1, M1, rfl, hr1, h1⟩; clear hP; obtain ⟨A2, c2, rfl, _⟩ := hr1.form; rw [hun]; have g1 := Lib.hid h1; clear h1)
            | (have _ := g1; go_at_call 13; have r1 := hr1.row g1.out.rest (show _ = Value.slice A2 un c2 by rw [hun]); refine (SM.out _ _ _ _ _ _ _ _ _ _ r1 (UR.out _ M1 g1.out) (by have := HL.out; omega) (by have := HL.out; omega)).mono ?_; clear r1; rintro e W2 ⟨rfl, q, rfl⟩; have g2 := Lib.hid (PP.drewK g1.out q); clear g1)
            | (have _ := g2; go_at_call 15; refine (twice_any g2.out (by have := HL.out; omega) US.out).mono ?_; rintro e W3 ⟨v3, M3, rfl, hr3, h3⟩; rw [hun] at hr3; obtain ⟨A4, c4, rfl, _⟩ := hr3.form; have g3 := Lib.hid h3; clear g2 h3)
            | (have _ := g3; go_at_call 16; have a4 := g3.out; rw [← List.append_assoc] at a4; have r4 := UR.out _ _ a4; clear a4; refine (RT.out _ r4).mono ?_; clear r4; rintro e W5 ⟨v5, M5, rfl, hr5, h5⟩; obtain ⟨A6, c6, rfl, _⟩ := hr5.form; have g5 := Lib.hid (g3.out.call h5.bel); replace h5 := Lib.hid h5; clear g3)
            | (have _ := g5; go_at_call 13; have a5 := h5.out; rw [← List.append_nil M5] at a5; have r5 := hr3.row g5.out.rest rfl; have r6 := hr5.row a5 rfl; clear a5; refine (SM.out _ _ _ _ _ _ _ _ _ _ r5 r6 (by have := TL.out; omega) (by have := TL.out; omega)).mono ?_; clear r5 r6; rintro e W7 ⟨rfl, q2, rfl⟩; have g7 := Lib.hid (PP.drewK g5.out q2); clear g5))
          go_ret
          have a9 := g7.out
          rw [show M3 ++ (M1 ++ (MU ++ L0)) = (M3 ++ (M1 ++ MU)) ++ L0 by simp] at a9
          exact ⟨rfl, (HK.out _ _ _ a9).2.2⟩
  · have hgt : ((n : Int) > 30) = True := eq_true (by omega)
    have hgt3 : ((30 : Int) < (n : Int)) = True := eq_true (by omega)
    go_enter Try.func3, Try.ntmps3
    go_wp2_with (first
      | (have _ := h0; refine wpList_box_st h0 23 _ rfl rfl (arrV key) rfl ?_; clear h0; intro W1 h1 _ _; generalize hb2 : w.heap.size = b2 at h1 ⊢; replace hb2 := Lib.hid hb2)
      | (go_at_call 7; refine (SP.out _).mono ?_; rintro e W3 ⟨rfl, hb⟩; have h3 : St w W3 [(b2, C 23 (arrV key))] := h1.call hb; clear hb h1 SP))
    go_ret
    exact ⟨rfl, h3.bel⟩
end Go.Proofs.Ytfbgpfiodgibbaa
