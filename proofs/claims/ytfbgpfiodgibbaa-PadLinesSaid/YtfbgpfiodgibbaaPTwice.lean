/- Which seeds were used, and which again: the program's Used and Twice. No statement is proved here. -/
import Derived.Test.YtfbgpfiodgibbaaPSeal
import Derived.WideKeyEntry
import Derived.DeepKeys5
namespace Go.Proofs.Ytfbgpfiodgibbaa
open Go.RowKit Go.ChangeShapes Go.MapKept Go.ChangeMaps Go.WideMaps
open A (arrV vals)
set_option linter.unusedVariables false
set_option linter.unusedSimpArgs false
attribute [local irreducible] A.arrV crs cr1

def skv (s : Sd) : Value := .agg s.arr
theorem skv_inj {s t : Sd} (h : skv s = skv t) : s = t := by
  unfold skv at h
  injection h with h
  have := congrArg Array.toList h
  exact Sd.cs_inj this
theorem laid6 : laidOutB Try.prog = true := by kernel_rfl
theorem law42 : KeyLaw Try.prog 42 := deep_law_laid laid6 (m := 2) (by omega) (of_decide_eq_true (by kernel_rfl)) (by kernel_rfl) (by kernel_rfl)
theorem key42 : Try.prog.keyType 42 = true := by kernel_rfl
theorem cellsK42 : Try.prog.cellsOf 42 = 4 := by kernel_rfl
theorem cellsK3 : Try.prog.cellsOf 3 = 1 := by kernel_rfl
theorem cellsK34 : Try.prog.cellsOf 34 = 1 := by kernel_rfl
theorem size_types : ∃ m, Try.prog.types.size = m + 1 := ⟨Try.prog.types.size - 1, by have : 0 < Try.prog.types.size := of_decide_eq_true (by kernel_rfl); omega⟩
theorem keyLits3 {d : Nat} {n : Int} (h : (Lit.int .i64 n).wf = true) : Try.prog.keyLits (d + 1) 3 [.int .i64 n] = some [.int .i64 n] := by
  simp [Program.keyLits, Try.underlying3, h]
theorem keyLits34 {d : Nat} {n : Int} (h : (Lit.int .u64 n).wf = true) : Try.prog.keyLits (d + 1) 34 [.int .u64 n] = some [.int .u64 n] := by
  simp [Program.keyLits, Try.underlying34, h]
theorem wfI {n : Int} (h : I64 n) : (Lit.int .i64 n).wf = true := by
  unfold I64 at h
  simp [Lit.wf, IntKind.min, IntKind.max, IntKind.bits, IntKind.signed]; omega
theorem wfU {n : Nat} (h : n < 18446744073709551616) : (Lit.int .u64 (n : Int)).wf = true := by
  simp [Lit.wf, IntKind.min, IntKind.max, IntKind.bits, IntKind.signed]; omega
theorem key_seed {s : Sd} (h : s.Ok) : ∃ q, keyOf Try.prog 42 (skv s) = some q := by
  have h1 := wfI h.l
  have h2 := wfU h.M
  have h3 := wfI h.m
  have h4 := wfI h.b
  obtain ⟨m, hm⟩ := size_types
  have hm2 : 0 < m := by have : 2 < Try.prog.types.size := of_decide_eq_true (by kernel_rfl); omega
  obtain ⟨m, rfl⟩ : ∃ k, m = k + 1 := ⟨m - 1, by omega⟩
  unfold keyOf
  simp only [Try.underlying42]
  rw [if_pos (by simp [key42, Value.formed, skv, Sd.arr, Try.underlying42, cellsK42]), hm]
  unfold Program.keyLits
  simp only [Try.underlying42, Value.cells, skv, Sd.arr]
  rw [if_pos (by rw [cellsK42]; exact ⟨rfl, by decide +kernel⟩)]
  simp [List.mapM_cons, cellsK3, cellsK34, keyLits3 h1, keyLits34 h2, keyLits3 h3, keyLits3 h4]
/-- The object is a map whose keys are the seeds of S. -/
def SM (o : Obj) (S : List Sd) : Prop :=
  ∃ es clock, o = .map es clock ∧ Stamped es clock ∧ (∀ x ∈ es.toList, ∃ q, keyOf Try.prog 42 x.key = some q) ∧ (∀ s ∈ S, ∃ x ∈ es.toList, x.key = skv s ∧ x.val = .agg #[]) ∧ ∀ x ∈ es.toList, ∃ s ∈ S, x.key = skv s ∧ x.val = .agg #[]
theorem SM.made : SM (.map #[] 0) [] := ⟨#[], 0, rfl, stamped_empty 0, by simp, by simp, by simp⟩
theorem zero66 (w : World) : (zeroValue 66).run Try.prog w = .ok (.agg #[]) w := by kernel_rfl
section
variable {W : World} {b : Nat} {o : Obj} {S : List Sd}
theorem SM.look (h : SM o S) (hb : W.heap[b]? = some o) {s : Sd} (hs : s.Ok) : (Instr.lookup 65 (.map (some b)) (skv s) true).run Try.prog W = .ok (.tuple #[.agg #[], .bool (decide (s ∈ S))]) W := by
  obtain ⟨es, clock, rfl, hst, hk, h1, h2⟩ := h
  obtain ⟨q, hkey⟩ := key_seed hs
  rcases law42.find W hkey es.toList hk with ⟨g1, g2⟩ | ⟨j, e0, g1, g2, g3⟩
  · have hn : ¬ s ∈ S := fun hS => by
      obtain ⟨x, hx, hxk, _⟩ := h1 s hS
      exact g2 x hx hxk
    rw [decide_eq_false hn]
    simp [Instr.lookup, run_underlying Try.underlying65, MapKept.run_getObj_map hb, law42.check W _ hkey, g1, zero66, Result.andThen]
  · obtain ⟨t, ht, hkt, hvt⟩ := h2 e0 (List.mem_of_getElem? g2)
    have e : t = s := skv_inj (hkt.symm.trans g3)
    subst e
    rw [decide_eq_true ht]
    simp [Instr.lookup, run_underlying Try.underlying65, MapKept.run_getObj_map hb, law42.check W _ hkey, g1, Result.andThen, hvt]
theorem SM.update (h : SM o S) (hb : W.heap[b]? = some o) {s : Sd} (hs : s.Ok) :
    ∃ o', (Instr.mapUpdate 65 (.map (some b)) (skv s) (.agg #[])).run Try.prog W = .ok () (setBlock W b o') ∧ SM o' (S ++ [s]) := by
  obtain ⟨es, clock, rfl, hst, hk, h1, h2⟩ := h
  obtain ⟨q, hkey⟩ := key_seed hs
  rcases law42.find W hkey es.toList hk with ⟨g1, g2⟩ | ⟨j, e0, g1, g2, g3⟩
  · refine ⟨.map (es.push ⟨skv s, .agg #[], clock⟩) (clock + 1), ?_, ⟨_, _, rfl, stamped_push hst g2, ?_, ?_, ?_⟩⟩
    · simp [Instr.mapUpdate, run_underlying Try.underlying65, MapKept.run_getObj_map hb, law42.check W false hkey, g1, MapKept.run_setObj_map _ hb, Result.andThen, setBlock]
    · intro x hx
      simp only [Array.toList_push, List.mem_append, List.mem_singleton] at hx
      rcases hx with hx | rfl
      · exact hk x hx
      · exact ⟨_, hkey⟩
    · intro t ht
      simp only [Array.toList_push, List.mem_append, List.mem_singleton] at ht ⊢
      rcases ht with ht | rfl
      · obtain ⟨x, hx, e1, e2⟩ := h1 t ht
        exact ⟨x, .inl hx, e1, e2⟩
      · exact ⟨_, .inr rfl, rfl, rfl⟩
    · intro x hx
      simp only [Array.toList_push, List.mem_append, List.mem_singleton] at hx ⊢
      rcases hx with hx | rfl
      · obtain ⟨t, ht, e1, e2⟩ := h2 x hx
        exact ⟨t, .inl ht, e1, e2⟩
      · exact ⟨s, .inr rfl, rfl, rfl⟩
  · have hj : es[j]? = some e0 := by simpa using g2
    have hkeyf : ∀ e' ∈ es.toList, es[j]? = some e' → ({ e' with key := skv s, val := .agg #[] } : MapEntry).key = e'.key := fun e' _ he' => by rw [hj] at he'; cases he'; exact g3.symm
    have hlist : (es.modify j (fun e' => { e' with key := skv s, val := .agg #[] })).toList = es.toList.set j { e0 with key := skv s, val := .agg #[] } := by rw [Array.toList_modify, modify_eq_set _ _ _ _ g2]
    have hjl : j < es.toList.length := (List.getElem?_eq_some_iff.1 g2).1
    obtain ⟨t0, ht0, hkt0, _⟩ := h2 e0 (List.mem_of_getElem? g2)
    have et : t0 = s := skv_inj (hkt0.symm.trans g3)
    subst et
    refine ⟨.map (es.modify j (fun e' => { e' with key := skv t0, val := .agg #[] })) clock, ?_, ⟨_, _, rfl, stamped_modify hst _ _ (fun _ _ => rfl) hkeyf, ?_, ?_, ?_⟩⟩
    · simp [Instr.mapUpdate, run_underlying Try.underlying65, MapKept.run_getObj_map hb, law42.check W false hkey, g1, hj, g3, law42.stays W hkey, MapKept.run_setObj_map _ hb, Result.andThen, setBlock]
    · intro x hx
      rw [hlist] at hx
      rcases (List.mem_or_eq_of_mem_set hx).symm with rfl | hx
      · exact ⟨_, hkey⟩
      · exact hk x hx
    · intro t ht
      rw [hlist]
      have ht2 : t ∈ S := by
        rcases List.mem_append.1 ht with ht | ht
        · exact ht
        · rw [List.mem_singleton] at ht; subst ht; exact ht0
      by_cases e : t = t0
      · subst e
        exact ⟨{ e0 with key := skv t, val := .agg #[] }, List.mem_iff_getElem.2 ⟨j, by simpa using hjl, by simp⟩, rfl, rfl⟩
      · obtain ⟨x, hx, e1, e2⟩ := h1 t ht2
        obtain ⟨i, hi, ex⟩ := List.getElem_of_mem hx
        refine ⟨x, ?_, e1, e2⟩
        have hne : j ≠ i := fun h => by
          subst h
          have : x = e0 := by rw [← ex]; exact (List.getElem?_eq_some_iff.1 g2).2
          rw [this, g3] at e1
          exact e (skv_inj e1).symm
        exact List.mem_iff_getElem.2 ⟨i, by simpa using hi, by rw [List.getElem_set_ne hne]; exact ex⟩
    · intro x hx
      rw [hlist] at hx
      rcases (List.mem_or_eq_of_mem_set hx).symm with rfl | hx
      · exact ⟨t0, by simp, rfl, rfl⟩
      · obtain ⟨t, ht, e1, e2⟩ := h2 x hx
        exact ⟨t, by simp [ht], e1, e2⟩
end
section
variable {ops : Array Oper} {rest : List Oper} {o : Oper} {a : Act} {w W : World} {Q : Exit → Act → World → Prop} {L : Blks} {S : List Sd}
theorem wpList_look_sm {b : Nat} {mo : Obj} (h : SM mo S) (hb : W.heap[b]? = some mo) {s : Sd} (hs : s.Ok) (x y : Operand) (ho : o.op = .lookup 65 x y true) (hw : Region.wanted o (yielded ops a.tmps) = true) (hx : a.eval x = .map (some b)) (hy : a.eval y = .agg s.arr) (B : Bool) (hB : decide (s ∈ S) = B)
    (k : wpList Try.prog ops Q rest (a.put o.dst (.tuple #[.agg #[], .bool B])) W) : wpList Try.prog ops Q (o :: rest) a W := by
  have hrun := h.look hb hs
  rw [hB] at hrun
  unfold wpList
  rw [if_pos hw]
  refine .inl ?_
  unfold Oper.wp execOp
  unfold skv at hrun
  simp only [ho, hx, hy, Sem.run_bind, hrun, Result.andThen_ok, Sem.run_pure]
  exact k
theorem wpList_update_sm (hst : St w W L) (i : Nat) {b : Nat} {mo : Obj} (hi : L[i]? = some (b, mo)) (h : SM mo S) {s : Sd} (hs : s.Ok) (x y z : Operand) (ho : o.op = .mapUpdate 65 x y z) (hw : Region.wanted o (yielded ops a.tmps) = true) (hx : a.eval x = .map (some b)) (hy : a.eval y = .agg s.arr) (hz : a.eval z = .agg #[])
    (k : ∀ W' mo', St w W' (L.set i (b, mo')) → SM mo' (S ++ [s]) → wpList Try.prog ops Q rest (a.put o.dst undef) W') : wpList Try.prog ops Q (o :: rest) a W := by
  have hb := hst.get i hi
  obtain ⟨o', hrun, hsm⟩ := h.update hb hs
  have h2 := hst.putO (W' := setBlock W b o') i hi (o' := o') (by simp [setBlock, heap_lt hb]) ⟨rfl, rfl, rfl, by simp [setBlock], fun k _ hk => by simp only [setBlock]; rw [Array.getElem?_setIfInBounds_ne (fun e => hk (by rw [e]))]⟩
  unfold wpList
  rw [if_pos hw]
  refine .inl ?_
  unfold Oper.wp execOp
  unfold skv at hrun
  simp only [ho, hx, hy, hz, Sem.run_bind, hrun, Result.andThen_ok, Sem.run_pure]
  exact k _ _ h2 hsm
theorem wpList_loadSd {b off : Nat} {e : Sd} (hr : W.rangeAt b off (Elt.cs e)) (x : Operand) (ho : o.op = .load 42 x) (hw : Region.wanted o (yielded ops a.tmps) = true) (hx : a.eval x = .pointer (some ⟨b, off, none⟩))
    (k : wpList Try.prog ops Q rest (a.put o.dst (.agg e.arr)) W) : wpList Try.prog ops Q (o :: rest) a W := by
  have hrun : (loadVar 42 ⟨b, off, none⟩).run Try.prog W = .ok (.agg e.arr) W := run_loadVar_mid (P := Try.prog) W b off 42 e.cs _ hr Try.underlying42 rfl sz42
  unfold wpList
  rw [if_pos hw]
  refine .inl ?_
  unfold Oper.wp execOp
  simp only [ho, hx, Instr.loadAt, Instr.sureAddr, Sem.run_bind, Sem.run_pure, Result.andThen_ok, hrun]
  exact k
end
/-! ### Used -/
set_option maxHeartbeats 1000000 in
theorem used_any {w W : World} {g gc : Nat} {key : List Nat} {us : List Sd} {L : Blks} (hP : PP w W g gc key us L) (hus : us.length ≤ 1000) :
    Calls Try.prog 14 #[.pointer (some ⟨g, 0, none⟩)] W fun e W' => ∃ v M, e = .returned v ∧ RL v us M ∧ PP w W' g gc key us (M ++ L) := by
  obtain ⟨v, M, hr, hs⟩ := hP
  have hr2 := hr
  obtain ⟨A9, c9, rfl, _⟩ := hr.form
  have c1 := hs.cell 0 rfl 1 _ rfl
  have row := Lib.hid (hr.row (hs.perm (List.perm_append_comm_assoc [_, _] M L)) rfl)
  generalize hn : us.length = n at *
  replace hn := Lib.hid hn
  have h0 := hs
  clear hs hr
  go_enter Try.func14, Try.ntmps14
  go_wp2_with (first
    | (have _ := h0; refine wpList_append_rl (M := []) (ys := us) (RL.nil_ (α := Sd)) h0 row.out _ _ rfl rfl rfl rfl (by simp; omega) ?_; clear h0; intro v5 W5 M5 hr5 h5))
  go_ret
  refine ⟨v5, M5, rfl, hr5, _, M, by rw [hn.out] at *; exact hr2, h5.perm ?_⟩
  exact (List.perm_append_comm_assoc M5 [_, _] (M ++ L)).trans ((List.perm_append_comm_assoc M5 M L).cons _ |>.cons _)
end Go.Proofs.Ytfbgpfiodgibbaa
