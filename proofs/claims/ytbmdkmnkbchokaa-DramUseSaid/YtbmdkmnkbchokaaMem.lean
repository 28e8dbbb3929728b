/- Memory's block and its bytes; the rows that are opened. No statement is proved here. -/
import Derived.Test.YtbmdkmnkbchokaaState
namespace Go.Proofs.Ytbmdkmnkbchokaa
open Go.RowKit
set_option linter.unusedVariables false
set_option linter.unusedSimpArgs false

/-- Ints as the values that cells hold. -/
def ivals (xs : List Int) : List Value := xs.map fun (x : Int) => Value.int .i64 x
theorem ivals_length (xs : List Int) : (ivals xs).length = xs.length := by simp [ivals]
theorem ivals_one (xs : List Int) : ∀ u ∈ ivals xs, u.oneCell' = true := by
  intro u hu
  simp only [ivals, List.mem_map] at hu
  obtain ⟨x, _, rfl⟩ := hu
  rfl
/-- What memory holds: its bytes, how many writes are to be dropped, reads, writes and opened rows, and for each bank its open row. -/
structure Mm where
  xs : List Nat
  dr : Int
  rd : Int
  wr : Int
  op : Int
  os : List Int
/-- The cells of memory's block, where its bytes lie in block b. -/
def Mm.arr (m : Mm) (b : Nat) : Array Value :=
  (([.slice (some ⟨b, 0, none⟩) m.xs.length m.xs.length, .slice none 0 0, .int .i64 m.dr, .int .i64 m.rd, .int .i64 m.wr, .int .i64 m.op] : List Value) ++ ivals m.os).toArray
section
variable (m : Mm) (b : Nat)
theorem Mm.at0 : (m.arr b)[0]? = some (.slice (some ⟨b, 0, none⟩) m.xs.length m.xs.length) := by simp [Mm.arr]
theorem Mm.at1 : (m.arr b)[1]? = some (.slice none 0 0) := by simp [Mm.arr]
theorem Mm.at2 : (m.arr b)[2]? = some (.int .i64 m.dr) := by simp [Mm.arr]
theorem Mm.at3 : (m.arr b)[3]? = some (.int .i64 m.rd) := by simp [Mm.arr]
theorem Mm.at4 : (m.arr b)[4]? = some (.int .i64 m.wr) := by simp [Mm.arr]
theorem Mm.at5 : (m.arr b)[5]? = some (.int .i64 m.op) := by simp [Mm.arr]
theorem Mm.atO (k : Nat) (hk : k < m.os.length) : (m.arr b)[6 + k]? = some (.int .i64 (m.os.getD k 0)) := by
  unfold Mm.arr
  rw [List.getElem?_toArray, List.getElem?_append_right (by simp)]
  simp [ivals, hk]
theorem Mm.size : (m.arr b).size = 6 + m.os.length := by simp [Mm.arr, ivals_length]; omega
theorem Mm.set2 (v : Int) : (m.arr b).setIfInBounds 2 (.int .i64 v) = ({ m with dr := v } : Mm).arr b := by simp [Mm.arr]
theorem Mm.set3 (v : Int) : (m.arr b).setIfInBounds 3 (.int .i64 v) = ({ m with rd := v } : Mm).arr b := by simp [Mm.arr]
theorem Mm.set4 (v : Int) : (m.arr b).setIfInBounds 4 (.int .i64 v) = ({ m with wr := v } : Mm).arr b := by simp [Mm.arr]
theorem Mm.set5 (v : Int) : (m.arr b).setIfInBounds 5 (.int .i64 v) = ({ m with op := v } : Mm).arr b := by simp [Mm.arr]
theorem Mm.setO (k : Nat) (v : Int) : (m.arr b).setIfInBounds (6 + k) (.int .i64 v) = ({ m with os := m.os.set k v } : Mm).arr b := by
  unfold Mm.arr
  rw [List.setIfInBounds_toArray, List.set_append_right _ _ (by simp)]
  simp [ivals, List.map_set]
end
theorem Mm.arr_len (m m' : Mm) (b : Nat) (h0 : m'.xs.length = m.xs.length) (h2 : m'.dr = m.dr) (h3 : m'.rd = m.rd) (h4 : m'.wr = m.wr) (h5 : m'.op = m.op) (h6 : m'.os = m.os) : m'.arr b = m.arr b := by
  unfold Mm.arr; rw [h0, h2, h3, h4, h5, h6]

/-- A row is opened, unless it is open. -/
def opn (r : Nat) (s : List Int × Int) : List Int × Int := if s.1.getD (r % 4) 0 = (r : Int) + 1 then s else (s.1.set (r % 4) ((r : Int) + 1), s.2 + 1)
/-- So many rows from one on are opened. -/
def opns (r0 : Nat) : Nat → List Int × Int → List Int × Int
  | 0, s => s
  | k + 1, s => opn (r0 + k) (opns r0 k s)
theorem opn_len (r : Nat) (s : List Int × Int) : (opn r s).1.length = s.1.length := by
  unfold opn; split <;> simp
theorem opns_len (r0 k : Nat) (s : List Int × Int) : (opns r0 k s).1.length = s.1.length := by
  induction k with
  | zero => rfl
  | succ k ih => rw [opns, opn_len, ih]
theorem opn_op (r : Nat) (s : List Int × Int) : s.2 ≤ (opn r s).2 ∧ (opn r s).2 ≤ s.2 + 1 := by
  unfold opn; split
  · omega
  · simp only; omega
theorem opns_op (r0 k : Nat) (s : List Int × Int) : s.2 ≤ (opns r0 k s).2 ∧ (opns r0 k s).2 ≤ s.2 + k := by
  induction k with
  | zero => simp [opns]
  | succ k ih => have := opn_op (r0 + k) (opns r0 k s); rw [opns]; push_cast; omega
/-- The rows that n bytes from a place on stand in. -/
def rowsOf (a n : Nat) : Nat := if n = 0 then 0 else (a + n - 1) / 64 - a / 64 + 1
/-- Memory, when n bytes from a place on have been come to. -/
def Mm.opened (m : Mm) (a n : Nat) : Mm := { m with os := (opns (a / 64) (rowsOf a n) (m.os, m.op)).1, op := (opns (a / 64) (rowsOf a n) (m.os, m.op)).2 }
/-- Memory, when k rows from r0 on have been come to. -/
def Mm.part (m : Mm) (r0 k : Nat) : Mm := { m with os := (opns r0 k (m.os, m.op)).1, op := (opns r0 k (m.os, m.op)).2 }
theorem Mm.part_same (m : Mm) (r0 k : Nat) (h : (m.part r0 k).os.getD ((r0 + k) % 4) 0 = ((r0 + k : Nat) : Int) + 1) : m.part r0 (k + 1) = m.part r0 k := by
  unfold Mm.part at h ⊢
  simp only at h
  rw [opns, opn, if_pos h]
theorem Mm.part_new (m : Mm) (r0 k : Nat) (h : ¬ (m.part r0 k).os.getD ((r0 + k) % 4) 0 = ((r0 + k : Nat) : Int) + 1) : m.part r0 (k + 1) = { m.part r0 k with os := (m.part r0 k).os.set ((r0 + k) % 4) (((r0 + k : Nat) : Int) + 1), op := (m.part r0 k).op + 1 } := by
  unfold Mm.part at h ⊢
  simp only at h
  rw [opns, opn, if_neg h]
theorem Mm.part_zero (m : Mm) (r0 : Nat) : m.part r0 0 = m := rfl
/-- Memory as it may be: four banks, bytes that are bytes, no number near its end. -/
structure Mm.Ok (m : Mm) : Prop where
  four : m.os.length = 4
  bytes : ∀ x ∈ m.xs, x < 256
  len : m.xs.length ≤ 5000
  dr0 : 0 ≤ m.dr
  dr1 : m.dr ≤ 9223372036854775807
  rd0 : 0 ≤ m.rd
  rd1 : m.rd ≤ 1000000000000
  wr0 : 0 ≤ m.wr
  wr1 : m.wr ≤ 1000000000000
  op0 : 0 ≤ m.op
  op1 : m.op ≤ 1000000000000
theorem sz45 : (Try.prog.info? 45).map (·.size) = some 10 := by kernel_rfl
theorem sz34 : (Try.prog.info? 34).map (·.size) = some 3 := by kernel_rfl
theorem sz29 : (Try.prog.info? 29).map (·.size) = some 5 := by kernel_rfl
theorem made_arrV (n : Nat) : madeCells (Value.int IntKind.u8 0).cells (n * 1) = arrV (List.replicate n 0) := by
  rw [← Array.toList_inj, show (Value.int IntKind.u8 0).cells = #[Value.int IntKind.u8 0] from rfl, toList_madeCells_one]
  simp [arrV, vals]
section
variable {ops : Array Oper} {rest : List Oper} {o : Oper} {a : Act} {w W : World} {K : Act → World → Prop} {Q : Exit → Act → World → Prop} {L : List (Nat × TypeId × Array Value)}
theorem wp_makeB_st (h : St w W L) (l c : Operand) (ho : o.op = .makeSlice 27 l c) (n : Nat) (hl : a.eval l = .int .i64 (n : Int)) (hc : a.eval c = .int .i64 (n : Int)) (hn : n ≤ 2000000)
    (k : ∀ W', St w W' (L ++ [(W.heap.size, 5, arrV (List.replicate n 0))]) → Below W.heap.size W W' → K (a.put o.dst (.slice (some ⟨W.heap.size, 0, none⟩) n n)) W') : o.wp Try.prog a W K Q := by
  obtain ⟨i0, hi, hz0, hz1, hz2⟩ := info_parts info5
  have hrun := run_makeSlice (P := Try.prog) (w := W) 27 5 i0 (.int .u8 0) Try.underlying27 hi hz0 .i64 .i64 (n : Int) (n : Int) (by omega) (by omega) (by simp [hz1]; omega) (by rw [hz2]; omega) (by omega)
  have e : (W.alloc (.cells (madeCells (Value.int IntKind.u8 0).cells (((n : Int).toNat) * i0.size)) 5)) = W.alloc (.cells (arrV (List.replicate n 0)) 5) := by
    rw [hz1, Int.toNat_natCast, made_arrV]
  rw [e] at hrun
  unfold Oper.wp
  simp only [execOp, ho, hl, hc, Sem.run_bind, hrun, Result.andThen_ok, Sem.run_pure, Int.toNat_natCast]
  exact k _ (h.push 5 _) ((Below.refl _ _).alloc (Nat.le_refl _) _)
theorem wpList_makeB_st (h : St w W L) (l c : Operand) (ho : o.op = .makeSlice 27 l c) (hw : Region.wanted o (yielded ops a.tmps) = true) (n : Nat) (hl : a.eval l = .int .i64 (n : Int)) (hc : a.eval c = .int .i64 (n : Int)) (hn : n ≤ 2000000)
    (k : ∀ W', St w W' (L ++ [(W.heap.size, 5, arrV (List.replicate n 0))]) → Below W.heap.size W W' → wpList Try.prog ops Q rest (a.put o.dst (.slice (some ⟨W.heap.size, 0, none⟩) n n)) W') : wpList Try.prog ops Q (o :: rest) a W := by
  unfold wpList
  rw [if_pos hw]
  exact .inl (wp_makeB_st h l c ho n hl hc hn k)
end
theorem St.sub {w W : World} {L M : List (Nat × TypeId × Array Value)} (h : St w W L) (hs : M.Sublist L) : St w W M :=
  ⟨fun x hx => h.at_ x (hs.subset hx), fun x hx => h.lo x (hs.subset hx), h.nd.sublist hs, h.bel⟩
theorem St.pre {w W : World} {L M : List (Nat × TypeId × Array Value)} (h : St w W (L ++ M)) : St w W L := h.sub (List.sublist_append_left _ _)
theorem St.perm {w W : World} {L M : List (Nat × TypeId × Array Value)} (h : St w W L) (hp : L.Perm M) : St w W M :=
  ⟨fun x hx => h.at_ x (hp.mem_iff.2 hx), fun x hx => h.lo x (hp.mem_iff.2 hx), h.nd.perm hp (fun h => Ne.symm h), h.bel⟩
end Go.Proofs.Ytbmdkmnkbchokaa
