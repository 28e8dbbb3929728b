/- Caches without items. No statement is proved here. -/
import Derived.Test.YtnogmfpaipjdaaaVic
import Derived.Test.YtnogmfpaipjdaaaPCheck
import Derived.Laws.MakeOwn
namespace Go.Proofs.Ytnogmfpaipjdaaa
open Go.RowKit
open P (Pl right hasI vals)
set_option maxRecDepth 20000
set_option linter.unusedVariables false
set_option linter.unusedSimpArgs false

section
variable {α : Type} [E : Elt α]
theorem made_cells (z : α) (hz : E.zv.cells = (E.cs z).toArray) (n : Nat) : madeCells E.zv.cells (n * E.sz) = (ecells (List.replicate n z)).toArray := by
  have hp := E.pos
  apply Array.ext_getElem?
  intro i
  have e2 : (ecells (List.replicate n z)).toArray[i]? = (ecells (List.replicate n z))[i]? := List.getElem?_toArray
  rw [e2]
  by_cases hi : i < n * E.sz
  · have hd : i / E.sz < n := Nat.div_lt_of_lt_mul (by rw [Nat.mul_comm]; exact hi)
    have hm : i % E.sz < E.sz := Nat.mod_lt _ hp
    have hl : i % E.sz < (E.cs z).length := by rw [E.len]; exact hm
    have h1 := ecells_at (List.replicate n z) (i / E.sz) z (by simp [hd]) (i % E.sz) _ (List.getElem?_eq_getElem hl)
    rw [show i / E.sz * E.sz + i % E.sz = i by rw [Nat.mul_comm]; exact Nat.div_add_mod i E.sz] at h1
    rw [h1]
    unfold madeCells
    have h3 : i % E.zv.cells.size < E.zv.cells.size := by rw [E.zsz]; exact hm
    rw [Array.getElem?_map, Array.getElem?_range, if_pos hi, Option.map_some, getElem!_pos E.zv.cells _ h3]
    congr 1
    have : E.zv.cells[i % E.zv.cells.size]? = (E.cs z)[i % E.sz]? := by rw [hz, List.getElem?_toArray]; congr 1; rw [← hz, E.zsz]
    rw [Array.getElem?_eq_getElem h3, List.getElem?_eq_getElem hl] at this
    injection this
  · rw [Array.getElem?_eq_none (by rw [size_madeCells]; omega), List.getElem?_eq_none (by rw [ecells_length]; simp; omega)]
variable {ops : Array Oper} {rest : List Oper} {o : Oper} {a : Act} {w W : World} {K : Act → World → Prop} {Q : Exit → Act → World → Prop} {L : Blks}
theorem wp_makeE_st (h : St w W L) (z : α) (hz : E.zv.cells = (E.cs z).toArray) (l c : Operand) (ho : o.op = .makeSlice E.sl l c) (n : Nat) (hl : a.eval l = .int .i64 (n : Int)) (hc : a.eval c = .int .i64 (n : Int)) (hn : n ≤ 5000)
    (k : ∀ W', St w W' ((W.heap.size, C E.ty (ecells (List.replicate n z)).toArray) :: L) → Below W.heap.size W W' → K (a.put o.dst (.slice (some ⟨W.heap.size, 0, none⟩) n n)) W') : o.wp Try.prog a W K Q := by
  obtain ⟨i0, hi, hz0, hz1, hz2⟩ := E.inf
  have hf := E.few
  have hlow := E.low
  have b1 : n * E.sz ≤ 5000 * 1000 := Nat.mul_le_mul hn hlow
  have b2 : E.by_ * n ≤ 1000 * 5000 := Nat.mul_le_mul hf hn
  have hrun := run_makeSlice (P := Try.prog) (w := W) E.sl E.ty i0 E.zv E.und hi hz0 .i64 .i64 (n : Int) (n : Int) (by omega) (by omega) (by rw [hz1, Int.toNat_natCast]; omega) (by rw [hz2, ← Int.natCast_mul]; omega) (by omega)
  rw [hz1, Int.toNat_natCast, made_cells z hz] at hrun
  unfold Oper.wp
  simp only [execOp, ho, hl, hc, Sem.run_bind, hrun, Result.andThen_ok, Sem.run_pure, Int.toNat_natCast]
  exact k _ ((h.push E.ty _).front) ((Below.refl _ _).alloc (Nat.le_refl _) _)
theorem wpList_makeE_st (h : St w W L) (z : α) (hz : E.zv.cells = (E.cs z).toArray) (l c : Operand) (ho : o.op = .makeSlice E.sl l c) (hw : Region.wanted o (yielded ops a.tmps) = true) (n : Nat) (hl : a.eval l = .int .i64 (n : Int)) (hc : a.eval c = .int .i64 (n : Int)) (hn : n ≤ 5000)
    (k : ∀ W', St w W' ((W.heap.size, C E.ty (ecells (List.replicate n z)).toArray) :: L) → Below W.heap.size W W' → wpList Try.prog ops Q rest (a.put o.dst (.slice (some ⟨W.heap.size, 0, none⟩) n n)) W') : wpList Try.prog ops Q (o :: rest) a W := by
  unfold wpList
  rw [if_pos hw]
  exact .inl (wp_makeE_st h z hz l c ho n hl hc hn k)
end
section
variable {ops : Array Oper} {rest : List Oper} {o : Oper} {a : Act} {w W : World} {K : Act → World → Prop} {Q : Exit → Act → World → Prop} {L : Blks} {S : World → Prop}
theorem yields_build (t : TypeId) (parts : List (Nat × Operand)) (ho : o.op = .build t parts.toArray) (hw : Region.wanted o (yielded ops a.tmps) = true) (cells : Array Value)
    (hf : Try.prog.built t (parts.map fun p => (p.1, a.eval p.2)) = some cells) : YieldsIf Try.prog ops S o (.agg cells) a := by
  refine .inl ⟨hw, fun W hW => ?_⟩
  have hf' : Try.prog.built t (parts.toArray.map fun (i, x) => (i, a.eval x)).toList = some cells := by simpa using hf
  unfold execOp
  simp only [ho, Sem.run_bind, run_build W t _ cells hf', Result.andThen_ok, Sem.run_pure]
theorem wp_box_stO (h : St w W L) (ty : TypeId) (x : Operand) (ho : o.op = .box ty x) (arr : Array Value) (hx : a.eval x = .agg arr)
    (k : ∀ W' g, St w W' ((g, C ty arr) :: L) → K (a.put o.dst (.pointer (some ⟨g, 0, none⟩))) W') : o.wp Try.prog a W K Q := by
  have h1 := k _ W.heap.size (h.push ty arr).front
  unfold Oper.wp execOp
  simp only [ho, hx]
  have e : ∀ arr : Array Value, (Instr.box ty (.agg arr)).run Try.prog W = .ok (.pointer (some ⟨W.heap.size, 0, none⟩)) (W.alloc (.cells arr ty)) := fun arr => by
    simp only [Instr.box, newVar, Value.cells]
    go_simp
  simp only [Sem.run_bind, e, Result.andThen_ok, Sem.run_pure]
  exact h1
end
theorem nils (n : Nat) : ecells (List.replicate n (Nv.mk)) = List.replicate n (.slice none 0 0) := by
  induction n with
  | zero => rfl
  | succ n ih => rw [List.replicate_succ, List.replicate_succ, ← ih]; rfl
theorem mc_new {w W : World} {g b : Nat} {p : Pl} {L : Blks} (hp : right p = true) (h : St w W ((g, C 71 (carr p b (nb p))) :: (b, C 38 (ecells (List.replicate (nb p) (Nv.mk))).toArray) :: L)) : MC w W g b p [] L := by
  obtain ⟨f1, f2, _⟩ := nb_facts hp
  rw [nils] at h
  refine ⟨by rw [bankC_len]; exact f1, by rw [bankC_len]; omega, List.replicate (nb p) (.slice none 0 0), List.replicate (nb p) [], ⟨by rw [bankC_len]; simp, by rw [bankC_len]; simp, fun i xs hx => ?_⟩, ?_⟩
  · have hi : i < nb p := by have := (List.getElem?_eq_some_iff.1 hx).1; rwa [bankC_len] at this
    rw [bankC_at p [] i hi] at hx
    injection hx with hx
    subst hx
    exact ⟨.slice none 0 0, [], by simp [hi], by simp [hi], RL.nil_⟩
  · rw [bankC_len]
    have e : (List.replicate (nb p) ([] : Blks)).flatten = [] := by simp
    rw [e]
    exact h
theorem load_plA {W : World} {b : Nat} {p : Pl} (h : At W b 28 p.arr) : (loadVar 28 ⟨b, 0, none⟩).run Try.prog W = .ok (.agg p.arr) W := h.loadV 28 _ Try.underlying28 rfl (by rw [p.arr_size]; exact sz28)
attribute [local irreducible] It.arr Cd.arr
section
variable {w W W' : World} {p : Pl} {L M : Blks}
set_option maxHeartbeats 2000000 in
theorem new_no (h : St w W L) (hp : right p = false) : Calls Try.prog 6 #[.agg p.arr] W fun e W' => e = .returned (.tuple #[.pointer none, .int .i64 4]) ∧ St w W' L := by
  have CK := Lib.hid (show ∀ V, Calls Try.prog 27 #[.agg p.arr] V fun e W' => e = .returned (.int .i64 4) ∧ Below V.heap.size V W' from fun V => by have := P.check_any p V; rwa [hp] at this)
  go_enter Try.func6, Try.ntmps6
  go_wp2_with (first
    | (refine wpList_box_st h 28 _ rfl rfl p.arr rfl ?_; clear h; intro W1 h1 _ _; replace h1 := h1.front; have q1 := (P.Pl.arr_size p); have q2 := load_plA (h1.get 0 rfl); generalize W.heap.size = pb at *)
    | (have _ := q2; refine wpList_load_run q2 _ rfl rfl rfl ?_; clear q2)
    | (have _ := h1; go_at_call 27; refine (CK.out _).mono ?_; rintro e W2 ⟨rfl, hb⟩; have h2 := h1.call hb; clear h1 hb))
  go_ret2
  exact ⟨rfl, h2.tail⟩
set_option maxHeartbeats 2000000 in
theorem new_any (h : St w W L) (hp : right p = true) : Calls Try.prog 6 #[.agg p.arr] W fun e W' => ∃ g b, e = .returned (.tuple #[.pointer (some ⟨g, 0, none⟩), .int .i64 0]) ∧ MC w W' g b p [] L := by
  have CK := Lib.hid (show ∀ V, Calls Try.prog 27 #[.agg p.arr] V fun e W' => e = .returned (.int .i64 0) ∧ Below V.heap.size V W' from fun V => by have := P.check_any p V; rwa [hp] at this)
  obtain ⟨f1, f2, f3⟩ := nb_facts hp
  have MN := Lib.hid (fun V g b (h : St w V ((g, C 71 (carr p b (nb p))) :: (b, C 38 (ecells (List.replicate (nb p) (Nv.mk))).toArray) :: L)) => mc_new hp h)
  have HN := Lib.hid (show nb p ≤ 5000 by omega)
  go_enter Try.func6, Try.ntmps6
  go_wp2_with (first
    | (refine wpList_box_st h 28 _ rfl rfl p.arr rfl ?_; clear h; intro W1 h1 _ _; replace h1 := h1.front; have q2 := load_plA (h1.get 0 rfl); generalize W.heap.size = pb at *)
    | (have _ := q2; refine wpList_load_run q2 _ rfl rfl rfl ?_; clear q2)
    | (have _ := h1; go_at_call 27; refine (CK.out _).mono ?_; rintro e W2 ⟨rfl, hb⟩; have h2 := h1.call hb; clear h1 hb))
  have HS0 := Lib.hid (show St w W2.drew ((pb, C 28 p.arr) :: L) from h2.drew)
  generalize hN : nb p = N at *
  have CB := Lib.hid (fun (V : World) (X : Blks) (hs : St w V X) (m1 : (pb, C 28 p.arr) ∈ X) => show (loadVar 28 ⟨pb, 0, none⟩).run Try.prog V = .ok (.agg p.arr) V ∧ V.cell? ⟨pb, 1, none⟩ = some (.int .i64 (N : Int)) from
    ⟨load_plA (hs.at_ _ m1), ((show At V pb 28 p.arr from hs.at_ _ m1).cell 1).trans (by rw [p.at1, f3])⟩)
  have H0 := Lib.hid (CB.out _ _ HS0.out (by simp))
  clear h2
  refine wp_region_held_drew (S := fun W => (loadVar 28 ⟨pb, 0, none⟩).run Try.prog W = .ok (.agg p.arr) W ∧ W.cell? ⟨pb, 1, none⟩ = some (.int .i64 (N : Int))) (by kernel_rfl) H0.out (fun _ => ?_)
  generalize W2.drew = V0 at *
  refine wpAnyH_take (i := 0) (v := .agg p.arr) rfl (by kernel_rfl) (by kernel_rfl) (by kernel_rfl) (fun _ _ _ h => h) (yields_run _ rfl (by rfl) rfl (fun W hW => hW.1)) H0.out ?_
  try simp only [Act.put, List.getElem_toArray, List.getElem_cons_succ, List.getElem_cons_zero, List.setIfInBounds_toArray, List.set_cons_zero, List.set_cons_succ]
  refine wpAnyH_take (i := 1) (v := .pointer (some ⟨pb, 1, none⟩)) rfl (by kernel_rfl) (by kernel_rfl) (by kernel_rfl) (fun _ _ _ h => h) (Or.inl ⟨by rfl, fun W hW => by clear hW; go_simp⟩) H0.out ?_
  try simp only [Act.put, List.getElem_toArray, List.getElem_cons_succ, List.getElem_cons_zero, List.setIfInBounds_toArray, List.set_cons_zero, List.set_cons_succ]
  refine wpAnyH_take (i := 2) (v := .int .i64 (N : Int)) rfl (by kernel_rfl) (by kernel_rfl) (by kernel_rfl) (fun _ _ _ h => h) (Or.inl ⟨by rfl, fun W hW => by have hc := (show W.cell? ⟨pb, 1, none⟩ = some (.int .i64 (N : Int)) from hW.2); clear hW; go_simp⟩) H0.out ?_
  try simp only [Act.put, List.getElem_toArray, List.getElem_cons_succ, List.getElem_cons_zero, List.setIfInBounds_toArray, List.set_cons_zero, List.set_cons_succ]
  refine wpAnyH_ready (rs := [3]) (by kernel_rfl) (by simp) ?_
  refine AllReadyH.cons rfl (fun K hK => ?_) AllReadyH.nil
  rw [if_pos (by rfl)]
  refine wp_makeE_st HS0.out (Nv.mk) rfl (.tmp 12) (.tmp 12) rfl N rfl rfl HN.out ?_
  intro V1 h1 _
  have HS1 := Lib.hid h1
  clear h1
  have H1_ := Lib.hid (CB.out V1 _ HS1.out (by simp))
  generalize V0.heap.size = nw at *
  refine hK.out _ _ H1_.out (fun _ => ?_)
  clear hK K
  try simp only [Act.put, List.getElem_toArray, List.getElem_cons_succ, List.getElem_cons_zero, List.setIfInBounds_toArray, List.set_cons_zero, List.set_cons_succ]
  refine wpAnyH_take (i := 4) (v := .agg (carr p nw N)) rfl (by kernel_rfl) (by kernel_rfl) (by kernel_rfl) (fun _ _ _ h => h) (yields_build 71 [(0, .tmp 10), (1, .tmp 13)] rfl (by rfl) (carr p nw N) (by unfold carr; exact built71K p (.slice (some ⟨nw, 0, none⟩) N N) rfl)) H1_.out ?_
  try simp only [Act.put, List.getElem_toArray, List.getElem_cons_succ, List.getElem_cons_zero, List.setIfInBounds_toArray, List.set_cons_zero, List.set_cons_succ]
  refine wpAnyH_ready (rs := [5]) (by kernel_rfl) (by simp) ?_
  refine AllReadyH.cons rfl (fun K hK => ?_) AllReadyH.nil
  rw [if_pos (by rfl)]
  refine wp_box_stO HS1.out 71 (.tmp 14) rfl (carr p nw N) rfl ?_
  intro V2 g h2
  have HS2 := Lib.hid h2
  clear h2
  have H2_ := Lib.hid (CB.out V2 _ HS2.out (by simp))
  refine hK.out _ _ H2_.out (fun _ => ?_)
  clear hK K
  try simp only [Act.put, List.getElem_toArray, List.getElem_cons_succ, List.getElem_cons_zero, List.setIfInBounds_toArray, List.set_cons_zero, List.set_cons_succ]
  refine wpAnyH_take (i := 6) (v := .pointer (some ⟨g, 0, none⟩)) rfl (by kernel_rfl) (by kernel_rfl) (by kernel_rfl) (fun _ _ _ h => h) (Or.inl ⟨by rfl, fun W hW => by clear hW; go_simp⟩) H2_.out ?_
  try simp only [Act.put, List.getElem_toArray, List.getElem_cons_succ, List.getElem_cons_zero, List.setIfInBounds_toArray, List.set_cons_zero, List.set_cons_succ]
  refine wpAnyH_take (i := 7) (v := .int .i64 0) rfl (by kernel_rfl) (by kernel_rfl) (by kernel_rfl) (fun _ _ _ h => h) (Or.inl ⟨by rfl, fun W hW => by clear hW; go_simp⟩) H2_.out ?_
  try simp only [Act.put, List.getElem_toArray, List.getElem_cons_succ, List.getElem_cons_zero, List.setIfInBounds_toArray, List.set_cons_zero, List.set_cons_succ]
  refine wpAnyH_done (by kernel_rfl) ?_ _
  go_wp2
  go_ret2
  have hs2 := HS2.out
  refine ⟨_, _, rfl, MN.out _ _ _ (hs2.sub (List.Sublist.cons_cons _ (List.Sublist.cons_cons _ (List.sublist_cons_self _ _))))⟩
end
end Go.Proofs.Ytnogmfpaipjdaaa
