/- One entry is taken out of a row of the call's own. No statement is proved here. -/
import Derived.Test.YtnogmfpaipjdaaaGet
import Derived.Laws.AppendOwn
import Derived.Deep.RegionLaw
namespace Go.Proofs.Ytnogmfpaipjdaaa
open Go.RowKit
set_option maxRecDepth 20000
set_option linter.unusedVariables false
set_option linter.unusedSimpArgs false

/-- An append whose run is known. -/
theorem step_append_run {ops : Array Oper} {o : Oper} {a : Act} {w w' : World} {K : Act → World → Prop} {Q : Exit → Act → World → Prop} {E : Prop}
    (hg : o.guard = none) (s x : Operand) (t : TypeId) (hop : o.op = Op.call { callee := Callee.builtin Builtin.append, args := #[s, x], argTypes := #[t, t] })
    (vs vx v : Value) (hs : a.eval s = vs) (hx : a.eval x = vx) (hrun : ∀ ty, (Builtin.append_ #[t, t] ty #[vs, vx]).run Try.prog w = .ok v w')
    (hK : K (a.put o.dst v) w') : if Region.wanted o (yielded ops a.tmps) = true then Oper.wp Try.prog o a w K Q else E := by
  have hw : Region.wanted o (yielded ops a.tmps) = true := by simp [Region.wanted, hg]
  rw [if_pos hw]
  unfold Oper.wp
  simp only [execOp, hop, resolve, invoke, builtin, Sem.run_bind, Sem.run_pure, Result.andThen_ok, List.map_toArray, List.map_cons, List.map_nil, hs, hx, hrun]
  exact hK
variable {α : Type} [E : Elt α]
theorem ecells_split (xs : List α) (i : Nat) (hi : i ≤ xs.length) : ecells xs = ecells (xs.take i) ++ ecells (xs.drop i) := by
  rw [← ecells_append, List.take_append_drop]
section
variable {W : World} {b cap n i : Nat} {cur : Array Value} {xs : List α}
theorem cells_of_take (h4 : cur.toList.take (xs.length * E.sz) = ecells xs) (j : Nat) (u : Value) (hj : (ecells xs)[j]? = some u) : cur[j]? = some u := by
  rw [← h4, List.getElem?_take] at hj
  split at hj
  · simpa using hj
  · cases hj
/-- The cells behind an entry was overwritten by those behind it. -/
def del1 (cur : Array Value) (xs : List α) (i : Nat) : Array Value := (cur.toList.take (i * E.sz) ++ ecells (xs.drop (i + 1)) ++ cur.toList.drop (i * E.sz + (ecells (xs.drop (i + 1))).length)).toArray
theorem run_del_append (hA : W.heap[b]? = some (.cells cur E.ty (0, 0))) (hn : xs.length = n) (h1 : n ≤ cap) (hm : cap ≤ maxLen) (h3 : cur.size = cap * E.sz) (h4 : cur.toList.take (n * E.sz) = ecells xs) (hi : i < n) (ty : TypeId) :
    (Builtin.append_ #[E.sl, E.sl] ty #[.slice (some ⟨b, 0, none⟩) i cap, .slice (dropA (some ⟨b, 0, none⟩) cap (i + 1) E.sz) (n - (i + 1)) (cap - (i + 1))]).run Try.prog W =
      .ok (.slice (some ⟨b, 0, none⟩) (n - 1) cap) (W.setRow b (del1 cur xs i)) := by
  obtain ⟨inf, hinf, hz, hs1, hs2⟩ := E.inf
  subst hn
  have hle : xs.length * E.sz ≤ cap * E.sz := Nat.mul_le_mul_right _ h1
  have e2 : (xs.length - (i + 1)) * E.sz + (i + 1) * E.sz = xs.length * E.sz := by rw [← Nat.add_mul]; congr 1; omega
  have e3 : (i + 1) * E.sz = i * E.sz + E.sz := by rw [Nat.add_mul, Nat.one_mul]
  have hl : (ecells (xs.drop (i + 1))).length = (xs.length - (i + 1)) * inf.size := by rw [ecells_length, List.length_drop, hs1]
  obtain ⟨ad, had, hcell⟩ : ∃ ad, dropA (some ⟨b, 0, none⟩) cap (i + 1) E.sz = some ad ∧ ∀ j u, (ecells (xs.drop (i + 1)))[j]? = some u → W.cell? (ad.add j) = some u := by
    unfold dropA
    by_cases hc : cap = i + 1
    · refine ⟨_, if_pos hc, fun j u hu => ?_⟩
      have h0 : (ecells (xs.drop (i + 1))).length = 0 := by rw [hl]; have : xs.length - (i + 1) = 0 := by omega
                                                            rw [this, Nat.zero_mul]
      rw [List.length_eq_zero_iff.1 h0] at hu
      simp at hu
    · refine ⟨(⟨b, 0, none⟩ : Addr).add ((i + 1) * E.sz), by rw [if_neg hc]; rfl, fun j u hu => ?_⟩
      rw [Addr.add_lit, Addr.add_lit, Nat.zero_add, (show At W b E.ty cur from hA).cell]
      refine cells_of_take h4 _ u ?_
      rw [ecells_split xs (i + 1) (by omega), List.getElem?_append_right (by rw [ecells_length, List.length_take, Nat.min_eq_left (by omega)]; omega), ecells_length, List.length_take, Nat.min_eq_left (by omega)]
      rw [show (i + 1) * E.sz + j - (i + 1) * E.sz = j by omega]
      exact hu
  have := run_append_room (P := Try.prog) W E.sl ty E.ty inf E.und hinf b i cap cur hA ad (xs.length - (i + 1)) (cap - (i + 1)) (ecells (xs.drop (i + 1))) hl hcell (ecells_one _) (by omega) (by rw [hl, hs1, h3]; omega)
  rw [had, this, hs1, show i + (xs.length - (i + 1)) = xs.length - 1 by omega]
  rfl
theorem del1_size (hn : xs.length = n) (h1 : n ≤ cap) (h3 : cur.size = cap * E.sz) (hi : i < n) : (del1 cur xs i).size = cap * E.sz := by
  subst hn
  have hle : xs.length * E.sz ≤ cap * E.sz := Nat.mul_le_mul_right _ h1
  have e2 : (xs.length - (i + 1)) * E.sz + (i + 1) * E.sz = xs.length * E.sz := by rw [← Nat.add_mul]; congr 1; omega
  have e3 : (i + 1) * E.sz = i * E.sz + E.sz := by rw [Nat.add_mul, Nat.one_mul]
  unfold del1
  simp only [List.size_toArray, List.length_append, List.length_take, List.length_drop, Array.length_toList, ecells_length]
  omega
theorem del1_take (hn : xs.length = n) (h1 : n ≤ cap) (h3 : cur.size = cap * E.sz) (h4 : cur.toList.take (n * E.sz) = ecells xs) (hi : i < n) :
    (del1 cur xs i).toList.take ((n - 1) * E.sz) = ecells (xs.take i ++ xs.drop (i + 1)) := by
  subst hn
  have hle : xs.length * E.sz ≤ cap * E.sz := Nat.mul_le_mul_right _ h1
  have e2 : (xs.length - (i + 1)) * E.sz + (i + 1) * E.sz = xs.length * E.sz := by rw [← Nat.add_mul]; congr 1; omega
  have e3 : (i + 1) * E.sz = i * E.sz + E.sz := by rw [Nat.add_mul, Nat.one_mul]
  have e4 : (xs.length - 1) * E.sz = i * E.sz + (xs.length - (i + 1)) * E.sz := by rw [← Nat.add_mul]; congr 1; omega
  have h5 : cur.toList.take (i * E.sz) = ecells (xs.take i) := by
    have := congrArg (List.take (i * E.sz)) h4
    rw [List.take_take, Nat.min_eq_left (by omega), ecells_split xs i (by omega), List.take_left' (by rw [ecells_length, List.length_take, Nat.min_eq_left (by omega)])] at this
    exact this
  unfold del1
  rw [List.toList_toArray, h5, ← ecells_append]
  refine List.take_left' ?_
  rw [ecells_length, List.length_append, List.length_take, List.length_drop, Nat.min_eq_left (by omega), Nat.add_mul]
  omega
theorem zeroCells_one (z : Array Value) : Builtin.zeroCells z 1 = z := by
  apply Array.ext_getElem?
  intro j
  unfold Builtin.zeroCells
  rw [Nat.one_mul, Array.getElem?_map]
  by_cases hj : j < z.size
  · rw [Array.getElem?_range, if_pos hj, Option.map_some, Nat.mod_eq_of_lt hj, getElem!_pos z j hj, Array.getElem?_eq_getElem hj]
  · rw [Array.getElem?_range, if_neg hj, Array.getElem?_eq_none (by omega)]; rfl
/-- The last entry's cells are cleared. -/
theorem run_clear_last (cur : Array Value) (hA : W.heap[b]? = some (.cells cur E.ty (0, 0))) (k cap' : Nat) (hk : k * E.sz + E.sz ≤ cur.size) (hz1 : ∀ u ∈ E.zv.cells.toList, u.oneCell' = true) (hzv : ∀ W, (zeroValue E.ty).run Try.prog W = .ok E.zv W) (ty : TypeId) :
    (Builtin.clear_ #[E.sl] ty #[.slice (some ⟨b, k * E.sz, none⟩) 1 cap']).run Try.prog W =
      .ok (.tuple #[]) (W.setRow b (cur.toList.take (k * E.sz) ++ E.zv.cells.toList ++ cur.toList.drop (k * E.sz + E.sz)).toArray) := by
  have hst := run_storeCells_at (P := Try.prog) b (k * E.sz) E.ty E.zv.cells.toList 0 cur W hA (by simp [E.zsz]; omega) hz1
  simp only [Nat.add_zero, Array.length_toList, E.zsz] at hst
  have hzc : (Builtin.zeroCells E.zv.cells 1).toList = E.zv.cells.toList := by
    rw [zeroCells_one]
  simp [Builtin.clear_, run_underlying E.und, hzv, hzc, hst]
end
section
variable {w W : World} {L : Blks}
theorem zvE_one : ∀ u ∈ (Elt.zv Cd).cells.toList, u.oneCell' = true := by
  intro u hu
  exact zcd.cs_one u (by simpa [Elt.zv, Value.cells, Cd.arr] using hu)
set_option maxHeartbeats 1000000 in
theorem delete_any {v : Value} {xs : List Cd} {M : Blks} (h : RL v xs M) (hs : St w W (M ++ L)) (i m : Nat) (hi : i < xs.length) (him : m = i + 1) :
    Calls Try.prog 37 #[v, .int .i64 (i : Int), .int .i64 (m : Int)] W fun e W' => ∃ v' M', e = .returned v' ∧ RL v' (xs.take i ++ xs.drop (i + 1)) M' ∧ St w W' (M' ++ L) := by
  rcases h with ⟨rfl, rfl, rfl⟩ | ⟨b, cap, cur, rfl, rfl, h1, h2, h3, h4⟩
  · simp at hi
  have hA : W.heap[b]? = some (.cells cur 59 (0, 0)) := hs.get 0 rfl
  have hln : (xs.take i ++ xs.drop (i + 1)).length = xs.length - 1 := by simp; omega
  have z1 := del1_size (xs := xs) rfl h1 h3 hi
  have z2 := del1_take rfl h1 h3 h4 hi
  have hAd : W.drew.heap[b]? = some (.cells cur 59 (0, 0)) := hA
  have AP := Lib.hid (fun ty => run_del_append hAd rfl h1 h2 h3 h4 hi ty)
  have s2 : St w (W.drew.setRow b (del1 cur xs i)) ([(b, C 59 (del1 cur xs i))] ++ L) := hs.drew.putO 0 rfl (At.putAll hAd) (grown_setRow _ b _)
  generalize hW1 : W.drew.setRow b (del1 cur xs i) = W1 at *
  generalize del1 cur xs i = cur1 at *
  have hA1 : W1.heap[b]? = some (.cells cur1 59 (0, 0)) := s2.get 0 rfl
  have z1' : cur1.size = cap * 36 := z1
  have CL := fun ty => run_clear_last (E := inferInstance) (W := W1) (b := b) cur1 hA1 (xs.length - 1) (cap - (xs.length - 1)) (by rw [z1']; show (xs.length - 1) * 36 + 36 ≤ cap * 36; omega) zvE_one zero59 ty
  have s3 : St w (W1.setRow b (cur1.toList.take ((xs.length - 1) * 36) ++ (Elt.zv Cd).cells.toList ++ cur1.toList.drop ((xs.length - 1) * 36 + 36)).toArray) ([(b, C 59 (cur1.toList.take ((xs.length - 1) * 36) ++ (Elt.zv Cd).cells.toList ++ cur1.toList.drop ((xs.length - 1) * 36 + 36)).toArray)] ++ L) := s2.putO 0 rfl (At.putAll hA1) (grown_setRow _ b _)
  have F : ∀ W', St w W' ([(b, C 59 (cur1.toList.take ((xs.length - 1) * 36) ++ (Elt.zv Cd).cells.toList ++ cur1.toList.drop ((xs.length - 1) * 36 + 36)).toArray)] ++ L) → RL (.slice (some ⟨b, 0, none⟩) (xs.length - 1) cap) (xs.take i ++ xs.drop (i + 1)) [(b, C 59 (cur1.toList.take ((xs.length - 1) * 36) ++ (Elt.zv Cd).cells.toList ++ cur1.toList.drop ((xs.length - 1) * 36 + 36)).toArray)] := by
    intro W' _
    refine .inr ⟨b, cap, _, by rw [hln], rfl, by omega, h2, ?_, ?_⟩
    · have : (Elt.zv Cd).cells.toList.length = 36 := by rw [Array.length_toList]; exact zcd.arr_size
      simp only [List.size_toArray, List.length_append, List.length_take, List.length_drop, Array.length_toList, this, z1']
      show _ = cap * 36
      omega
    · rw [List.toList_toArray, hln, List.append_assoc]
      have z2' : cur1.toList.take ((xs.length - 1) * 36) = ecells (xs.take i ++ xs.drop (i + 1)) := z2
      rw [z2']
      refine List.take_left' ?_
      rw [ecells_length, hln]
  generalize W1.setRow b _ = W2 at *
  generalize (cur1.toList.take ((xs.length - 1) * 36) ++ (Elt.zv Cd).cells.toList ++ cur1.toList.drop ((xs.length - 1) * 36 + 36)).toArray = cur2 at *
  replace CL : ∀ ty : TypeId, (Builtin.clear_ #[38] ty #[.slice (some ⟨b, (xs.length - 1) * 36, none⟩) 1 (cap - (xs.length - 1))]).run Try.prog W1 = .ok (.tuple #[]) W2 := CL
  have FF := Lib.hid (show RL (.slice (some ⟨b, 0, none⟩) (xs.length - 1) cap) (xs.take i ++ xs.drop (i + 1)) [(b, C 59 cur2)] ∧ St w W2 ([(b, C 59 cur2)] ++ L) from ⟨F _ s3, s3⟩)
  rw [← him] at AP
  generalize (xs.take i ++ xs.drop (i + 1)) = ys at *
  clear F s3 s2 hA1 z1' z1 z2 hW1 h3 h4 hA hAd hs hln
  generalize xs.length = n at *
  have b1 : i ≤ n := by omega
  have b2 : m ≤ n := by omega
  have b3 : i ≤ m := by omega
  have b4 : i ≤ cap := by omega
  have b5 : m ≤ cap := by omega
  have b6 : n ≤ cap := h1
  have b7 : cap ≤ 9223372036854775807 := by unfold maxLen at h2; omega
  have q1 : ((i : Int) == (m : Int)) = false := by simp; omega
  have q2 : ((i : Int) = (m : Int)) = False := eq_false (by omega)
  obtain ⟨A, hA, hA2⟩ : ∃ A : Addr, (if cap = m then (some ⟨b, 0, none⟩ : Option Addr) else some ⟨b, m * 36, none⟩) = some A ∧ dropA (some ⟨b, 0, none⟩) cap m (Elt.sz Cd) = some A := by
    unfold dropA
    by_cases hc : cap = m
    · exact ⟨_, if_pos hc, if_pos hc⟩
    · refine ⟨⟨b, m * 36, none⟩, if_neg hc, ?_⟩
      rw [if_neg hc, Option.map_some, Addr.add_lit, Nat.zero_add]
      rfl
  rw [hA2] at AP
  have AP2 := Lib.hid (show ∀ ty : TypeId, (Builtin.append_ #[38, 38] ty #[.slice (some ⟨b, 0, none⟩) i cap, .slice (some A) (n - m) (cap - m)]).run Try.prog W.drew = .ok (.slice (some ⟨b, 0, none⟩) (n - 1) cap) W1 from AP.out)
  have b8 : n - 1 ≤ n := by omega
  have b0 : (n = i) = False := eq_false (by omega)
  have b12 : i < n := hi
  have b9 : (cap = n - 1) = False := eq_false (by omega)
  have b10 : n - (n - 1) = 1 := by omega
  have b11 : n - 1 ≤ cap := by omega
  generalize hn1 : n - 1 = n1 at *
  clear hA2 AP him hn1 h1 h2 hi
  go_enter Try.func37, Try.ntmps37
  go_wp2
  refine wp_region_last (fun _ => True) 7 (by kernel_rfl) ?_
  refine AnyT.take (i := 0) (v := .slice (some ⟨b, 0, none⟩) n cap) rfl (by kernel_rfl) (by kernel_rfl) (by kernel_rfl) (by kernel_rfl) (by decide) (fun _ _ _ h => h) (Or.inl ⟨by rfl, fun W hW => by clear hW; go_simp⟩) trivial ?_
  try simp only [Act.put, List.getElem_toArray, List.getElem_cons_succ, List.getElem_cons_zero, List.setIfInBounds_toArray, List.set_cons_zero, List.set_cons_succ]
  refine AnyT.take (i := 1) (v := .int .i64 (i : Int)) rfl (by kernel_rfl) (by kernel_rfl) (by kernel_rfl) (by kernel_rfl) (by decide) (fun _ _ _ h => h) (Or.inl ⟨by rfl, fun W hW => by clear hW; go_simp⟩) trivial ?_
  try simp only [Act.put, List.getElem_toArray, List.getElem_cons_succ, List.getElem_cons_zero, List.setIfInBounds_toArray, List.set_cons_zero, List.set_cons_succ]
  refine AnyT.take (i := 2) (v := .slice (some ⟨b, 0, none⟩) i cap) rfl (by kernel_rfl) (by kernel_rfl) (by kernel_rfl) (by kernel_rfl) (by decide) (fun _ _ _ h => h) (Or.inl ⟨by rfl, fun W hW => by clear hW; go_simp⟩) trivial ?_
  try simp only [Act.put, List.getElem_toArray, List.getElem_cons_succ, List.getElem_cons_zero, List.setIfInBounds_toArray, List.set_cons_zero, List.set_cons_succ]
  refine AnyT.take (i := 3) (v := .slice (some ⟨b, 0, none⟩) n cap) rfl (by kernel_rfl) (by kernel_rfl) (by kernel_rfl) (by kernel_rfl) (by decide) (fun _ _ _ h => h) (Or.inl ⟨by rfl, fun W hW => by clear hW; go_simp⟩) trivial ?_
  try simp only [Act.put, List.getElem_toArray, List.getElem_cons_succ, List.getElem_cons_zero, List.setIfInBounds_toArray, List.set_cons_zero, List.set_cons_succ]
  refine AnyT.take (i := 4) (v := .int .i64 (m : Int)) rfl (by kernel_rfl) (by kernel_rfl) (by kernel_rfl) (by kernel_rfl) (by decide) (fun _ _ _ h => h) (Or.inl ⟨by rfl, fun W hW => by clear hW; go_simp⟩) trivial ?_
  try simp only [Act.put, List.getElem_toArray, List.getElem_cons_succ, List.getElem_cons_zero, List.setIfInBounds_toArray, List.set_cons_zero, List.set_cons_succ]
  refine AnyT.take (i := 5) (v := .slice (some A) (n - m) (cap - m)) rfl (by kernel_rfl) (by kernel_rfl) (by kernel_rfl) (by kernel_rfl) (by decide) (fun _ _ _ h => h) (Or.inl ⟨by rfl, fun W hW => by clear hW; go_simp⟩) trivial ?_
  try simp only [Act.put, List.getElem_toArray, List.getElem_cons_succ, List.getElem_cons_zero, List.setIfInBounds_toArray, List.set_cons_zero, List.set_cons_succ]
  refine AnyT.one (i := 6) (by kernel_rfl) rfl (fun K hK => ?_)
  refine step_append_run rfl (.tmp 22) (.tmp 25) 38 rfl (.slice (some ⟨b, 0, none⟩) i cap) (.slice (some A) (n - m) (cap - m)) _ rfl rfl AP2.out ?_
  refine hK.out _ _ (fun _ => trivial) ?_
  clear hK K
  try simp only [Act.put, List.getElem_toArray, List.getElem_cons_succ, List.getElem_cons_zero, List.setIfInBounds_toArray, List.set_cons_zero, List.set_cons_succ]
  refine AnyT.one (i := 7) (by kernel_rfl) rfl (fun K hK => ?_)
  go_simp
  refine hK.out _ _ (fun h => absurd rfl h) ?_
  clear hK K
  try simp only [Act.put, List.getElem_toArray, List.getElem_cons_succ, List.getElem_cons_zero, List.setIfInBounds_toArray, List.set_cons_zero, List.set_cons_succ]
  refine AnyT.done (by kernel_rfl) ?_ _
  go_wp2
  go_ret
  exact ⟨_, _, rfl, FF.out.1, FF.out.2⟩
end
end Go.Proofs.Ytnogmfpaipjdaaa
