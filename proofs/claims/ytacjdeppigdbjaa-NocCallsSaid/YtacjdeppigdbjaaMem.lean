/- Rows of messages in memory of the call's own: made, stored into, read. No statement is proved here. -/
import Derived.Test.YtacjdeppigdbjaaQLen
namespace Go.Proofs.Ytacjdeppigdbjaa
open Go.RowKit
set_option linter.unusedVariables false
set_option linter.unusedSimpArgs false

/-- The cells of a row of messages. -/
def marr (xs : List Msg) : Array Value := (mcells xs).toArray
theorem marr_size (xs : List Msg) : (marr xs).size = xs.length * 38 := by simp [marr, mcells_length]
theorem mcells_get (xs : List Msg) (i : Nat) (hi : i < xs.length * 38) : ∃ m, xs[i / 38]? = some m ∧ (mcells xs)[i]? = m.cs[i % 38]? := by
  have hj : i / 38 < xs.length := by omega
  refine ⟨xs[i / 38], List.getElem?_eq_getElem hj, ?_⟩
  have hr : i % 38 < (xs[i / 38]).cs.length := by rw [Msg.cs_length]; omega
  have := mcells_at xs (i / 38) xs[i / 38] (List.getElem?_eq_getElem hj) (i % 38) _ (List.getElem?_eq_getElem hr)
  rw [show i / 38 * 38 + i % 38 = i by omega] at this
  rw [this, List.getElem?_eq_getElem hr]
theorem mcells_set (xs : List Msg) (i : Nat) (m : Msg) (hi : i < xs.length) : (mcells xs).take (i * 38) ++ m.cs ++ (mcells xs).drop (i * 38 + 38) = mcells (xs.set i m) := by
  have hs : mcells (xs.set i m) = mcells (xs.take i) ++ m.cs ++ mcells (xs.drop (i + 1)) := by
    rw [List.set_eq_take_append_cons_drop, if_pos hi, mcells_append]
    simp [mcells]
  have hx : mcells xs = mcells (xs.take (i + 1)) ++ mcells (xs.drop (i + 1)) := by rw [← mcells_append, List.take_append_drop]
  have hx2 : mcells xs = mcells (xs.take i) ++ mcells (xs.drop i) := by rw [← mcells_append, List.take_append_drop]
  rw [hs]
  congr 1
  · congr 1
    rw [hx2, List.take_append_of_le_length (by rw [mcells_length]; simp; omega)]
    exact List.take_of_length_le (by rw [mcells_length]; simp; omega)
  · rw [hx]
    have hl : (mcells (xs.take (i + 1))).length = i * 38 + 38 := by rw [mcells_length]; simp; omega
    rw [← hl, List.drop_left]
theorem z_cells : (Value.agg zmsg.arr).cells = zmsg.arr := rfl
theorem made_marr (n : Nat) : madeCells zmsg.arr (n * 38) = marr (List.replicate n zmsg) := by
  apply Array.ext_getElem?
  intro i
  have e2 : (marr (List.replicate n zmsg))[i]? = (mcells (List.replicate n zmsg))[i]? := by simp [marr]
  rw [e2]
  by_cases hi : i < n * 38
  · obtain ⟨m, h1, h2⟩ := mcells_get (List.replicate n zmsg) i (by simpa using hi)
    rw [List.getElem?_replicate] at h1
    split at h1
    · injection h1 with h1
      subst h1
      rw [h2]
      unfold madeCells
      have e : zmsg.arr.size = 38 := zmsg.arr_size
      rw [Array.getElem?_map, Array.getElem?_range, if_pos hi, Option.map_some, e]
      have h3 : i % 38 < zmsg.arr.size := by rw [e]; omega
      rw [getElem!_pos zmsg.arr (i % 38) h3]
      rw [← Array.getElem?_eq_getElem h3]
      simp [Msg.arr]
    · cases h1
  · rw [Array.getElem?_eq_none (by rw [size_madeCells]; omega), List.getElem?_eq_none (by rw [mcells_length]; simp; omega)]
section
variable {w W : World} {b : Nat} {xs : List Msg}
theorem At.range {m : Msg} (h : At W b 31 (marr xs)) (i : Nat) (hi : xs[i]? = some m) : W.rangeAt b (i * 38) m.cs := fun j v hv => by
  rw [h.cell]
  unfold marr
  rw [List.getElem?_toArray]
  exact mcells_at xs i m hi j v hv
theorem At.mrow (h : At W b 31 (marr xs)) (n c : Nat) (hn : n = xs.length) (hc : n ≤ c) (hm : c ≤ maxLen) : MRow W W.heap.size (some ⟨b, 0, none⟩) n c xs := by
  subst hn
  refine ⟨rfl, hc, hm, (fun h => by cases h), fun a ha _ => ?_⟩
  injection ha with ha
  subst ha
  refine ⟨rfl, h.lt, fun j m hj => ?_⟩
  simp only [Nat.zero_add]
  exact h.range j hj
end
section
variable {ops : Array Oper} {rest : List Oper} {o : Oper} {a : Act} {w W : World} {K : Act → World → Prop} {Q : Exit → Act → World → Prop} {L : Blks}
theorem info31z : ∃ i, Try.prog.info? 31 = some i ∧ i.zero = some (.agg zmsg.arr) ∧ i.size = 38 ∧ i.bytes = 72 := by
  have h : (Try.prog.info? 31).map (fun i => (i.zero, i.size, i.bytes)) = some (some (.agg zmsg.arr), 38, 72) := by kernel_rfl
  obtain ⟨i, hi, he⟩ := Option.map_eq_some_iff.1 h
  simp only [Prod.mk.injEq] at he
  exact ⟨i, hi, he.1, he.2.1, he.2.2⟩
theorem wp_makeM_st (h : St w W L) (l c : Operand) (ho : o.op = .makeSlice 41 l c) (n : Nat) (hl : a.eval l = .int .i64 (n : Int)) (hc : a.eval c = .int .i64 (n : Int)) (hn : n ≤ 5000)
    (k : ∀ W', St w W' (L ++ [(W.heap.size, C 31 (marr (List.replicate n zmsg)))]) → Below W.heap.size W W' → K (a.put o.dst (.slice (some ⟨W.heap.size, 0, none⟩) n n)) W') : o.wp Try.prog a W K Q := by
  obtain ⟨i0, hi, hz0, hz1, hz2⟩ := info31z
  have hrun := run_makeSlice (P := Try.prog) (w := W) 41 31 i0 (.agg zmsg.arr) Try.underlying41 hi hz0 .i64 .i64 (n : Int) (n : Int) (by omega) (by omega) (by simp [hz1]; omega) (by rw [hz2]; omega) (by omega)
  have e : (W.alloc (.cells (madeCells (Value.agg zmsg.arr).cells (((n : Int).toNat) * i0.size)) 31)) = W.alloc (.cells (marr (List.replicate n zmsg)) 31) := by
    rw [hz1, Int.toNat_natCast, z_cells, made_marr]
  rw [e] at hrun
  unfold Oper.wp
  simp only [execOp, ho, hl, hc, Sem.run_bind, hrun, Result.andThen_ok, Sem.run_pure, Int.toNat_natCast]
  exact k _ (h.push 31 _) ((Below.refl _ _).alloc (Nat.le_refl _) _)
theorem wpList_makeM_st (h : St w W L) (l c : Operand) (ho : o.op = .makeSlice 41 l c) (hw : Region.wanted o (yielded ops a.tmps) = true) (n : Nat) (hl : a.eval l = .int .i64 (n : Int)) (hc : a.eval c = .int .i64 (n : Int)) (hn : n ≤ 5000)
    (k : ∀ W', St w W' (L ++ [(W.heap.size, C 31 (marr (List.replicate n zmsg)))]) → Below W.heap.size W W' → wpList Try.prog ops Q rest (a.put o.dst (.slice (some ⟨W.heap.size, 0, none⟩) n n)) W') : wpList Try.prog ops Q (o :: rest) a W := by
  unfold wpList
  rw [if_pos hw]
  exact .inl (wp_makeM_st h l c ho n hl hc hn k)
/-- A message is stored at its place in a row. -/
theorem run_storeM {b i : Nat} {xs : List Msg} {m : Msg} (h : At W b 31 (marr xs)) (hi : i < xs.length) :
    (storeVar 31 ⟨b, i * 38, none⟩ (.agg m.arr)).run Try.prog W = .ok () (W.setRow b (marr (xs.set i m))) := by
  have hl : (marr xs).size = xs.length * 38 := marr_size xs
  have h1 := run_storeCells_at (P := Try.prog) b (i * 38) 31 m.cs 0 (marr xs) W h (by rw [m.cs_length, hl]; omega) m.cs_one
  have e : ((marr xs).toList.take (i * 38 + 0) ++ m.cs ++ (marr xs).toList.drop (i * 38 + 0 + m.cs.length)).toArray = marr (xs.set i m) := by
    unfold marr
    rw [m.cs_length, ← mcells_set xs i m hi]
    rfl
  rw [e] at h1
  obtain ⟨i0, hi0, hz0, hz1, hz2⟩ := info31z
  have hcs : m.arr.toList = m.cs := by simp [Msg.arr]
  have hsz := m.arr_size
  simp [storeVar, sizeOf, typeInfo, hi0, hz1, Value.cells, hsz, hcs, h1]
theorem wpList_storeM_st {b i : Nat} {xs : List Msg} {m : Msg} (h : St w W L) (j : Nat) (hj : L[j]? = some (b, C 31 (marr xs))) (x y : Operand) (ho : o.op = .store 31 x y) (hw : Region.wanted o (yielded ops a.tmps) = true)
    (hx : a.eval x = .pointer (some ⟨b, i * 38, none⟩)) (hy : a.eval y = .agg m.arr) (hi : i < xs.length)
    (k : ∀ W', St w W' (L.set j (b, C 31 (marr (xs.set i m)))) → W.grownBy W' (some b) → wpList Try.prog ops Q rest (a.put o.dst undef) W') : wpList Try.prog ops Q (o :: rest) a W := by
  unfold wpList
  rw [if_pos hw]
  refine .inl ?_
  have hA : At W b 31 (marr xs) := h.get j hj
  unfold Oper.wp execOp
  simp only [ho, hx, hy, Instr.storeAt, Instr.sureAddr, Sem.run_bind, Sem.run_pure, Result.andThen_ok, run_storeM hA hi]
  exact k _ (h.put j hj hA.putAll (grown_setRow W b _)) (grown_setRow W b _)
/-- A message is read at its place. -/
theorem load_range {b off : Nat} {m : Msg} (hr : W.rangeAt b off m.cs) : (loadVar 31 ⟨b, off, none⟩).run Try.prog W = .ok (.agg m.arr) W := by
  have := run_loadVar_mid (P := Try.prog) W b off 31 m.cs _ hr Try.underlying31 rfl (by rw [m.cs_length]; exact sz31)
  exact this
theorem wpList_loadM {b off : Nat} {m : Msg} (hr : W.rangeAt b off m.cs) (x : Operand) (ho : o.op = .load 31 x) (hw : Region.wanted o (yielded ops a.tmps) = true) (hx : a.eval x = .pointer (some ⟨b, off, none⟩))
    (k : wpList Try.prog ops Q rest (a.put o.dst (.agg m.arr)) W) : wpList Try.prog ops Q (o :: rest) a W := by
  unfold wpList
  rw [if_pos hw]
  refine .inl ?_
  unfold Oper.wp execOp
  simp only [ho, hx, Instr.loadAt, Instr.sureAddr, Sem.run_bind, Sem.run_pure, Result.andThen_ok, load_range hr]
  exact k
theorem yields_loadM {S : World → Prop} {b off : Nat} {m : Msg} (x : Operand) (ho : o.op = .load 31 x) (hw : Region.wanted o (yielded ops a.tmps) = true) (hx : a.eval x = .pointer (some ⟨b, off, none⟩)) (hS : ∀ W, S W → W.rangeAt b off m.cs) : YieldsIf Try.prog ops S o (.agg m.arr) a :=
  .inl ⟨hw, fun W hW => by
    unfold execOp
    simp only [ho, hx, Instr.loadAt, Instr.sureAddr, Sem.run_bind, Sem.run_pure, Result.andThen_ok, load_range (hS W hW)]⟩
end
end Go.Proofs.Ytacjdeppigdbjaa
