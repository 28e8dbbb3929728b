/- A book gives its marks, in memory of their own. No statement is proved here. -/
import Derived.Test.YtpibmccofjpelaaGVerI
namespace Go.Proofs.Ytpibmccofjpelaa
open Go.RowKit Go.Maps
set_option linter.unusedVariables false
set_option linter.unusedSimpArgs false

/-- A mark in memory. -/
structure Mm where
  m : Mark
  A : Option Addr
  c : Nat
def Mm.cs (b : Mm) : List Value := [.slice b.A b.m.1.length b.c, .int .u64 (b.m.2 : Nat)]
def kvals : List Mm → List Value
  | [] => []
  | x :: r => x.cs ++ kvals r
theorem kvals_length (xs : List Mm) : (kvals xs).length = xs.length * 2 := by
  induction xs with
  | nil => rfl
  | cons x r ih => simp only [kvals, List.length_append, ih, List.length_cons, Mm.cs, List.length_nil]; omega
theorem kvals_append (xs ys : List Mm) : kvals (xs ++ ys) = kvals xs ++ kvals ys := by
  induction xs with
  | nil => rfl
  | cons x r ih => simp [kvals, ih]
theorem kvals_at (xs : List Mm) (i j : Nat) (x : Mm) (h : xs[i]? = some x) (hj : j < 2) : (kvals xs)[i * 2 + j]? = x.cs[j]? := by
  induction xs generalizing i with
  | nil => simp at h
  | cons y r ih =>
    have hl : y.cs.length = 2 := rfl
    cases i with
    | zero =>
      simp only [List.getElem?_cons_zero, Option.some.injEq] at h
      subst h
      simp only [kvals]
      rw [List.getElem?_append_left (by omega), show 0 * 2 + j = j by omega]
    | succ i =>
      simp only [List.getElem?_cons_succ] at h
      simp only [kvals]
      rw [List.getElem?_append_right (by omega), show (i + 1) * 2 + j - y.cs.length = i * 2 + j by omega]
      exact ih i h
/-- A mark's message lies in a block behind g. -/
def Mm.ok (W : World) (g : Nat) (r : Mm) : Prop := Row W W.heap.size r.A r.m.1.length r.c r.m.1 ∧ ∀ a, r.A = some a → g < a.block
structure WSt (w : World) (g L : Nat) (cs : List Mm) (W : World) : Prop where
  bel : Below w.heap.size w W
  lo : w.heap.size ≤ g
  lt : g < W.heap.size
  th : W.there g 0 (L * 2)
  rng : W.rangeAt g 0 (kvals cs)
  row : ∀ r ∈ cs, r.ok W g
section
variable {w W W' : World} {g L : Nat} {cs : List Mm}
theorem Mm.ok.call {r : Mm} (h : r.ok W g) (hb : Below W.heap.size W W') : r.ok W' g := ⟨(h.1.below hb).wider hb.size, h.2⟩
theorem WSt.call (h : WSt w g L cs W) (hb : Below W.heap.size W W') : WSt w g L cs W' :=
  ⟨h.bel.trans (hb.mono h.bel.size), h.lo, Nat.lt_of_lt_of_le h.lt hb.size, there_block h.th (hb.block g h.lt), rangeAt_block h.rng (hb.block g h.lt), fun r hr => (h.row r hr).call hb⟩
theorem Mm.ok.set {r : Mm} (h : r.ok W g) (o : Nat) (vs : List Value) : r.ok (W.setCells g o vs) g := by
  obtain ⟨⟨h1, h2, h3, h4, h5, h6⟩, hl⟩ := h
  refine ⟨⟨h1, h2, h3, h4, h5, fun a ha hn => ?_⟩, hl⟩
  obtain ⟨q1, q2, q3⟩ := h6 a ha hn
  refine ⟨q1, by rw [setCells_size]; exact q2, fun j hj => ?_⟩
  rw [← q3 j hj]
  have := hl a ha
  exact World.cell?_of_block (World.heap_setCells_other W g o vs q2 (by show a.block ≠ g; omega))
theorem WSt.put (h : WSt w g L cs W) (hk : cs.length < L) (r : Mm) (hr : r.ok W g) : WSt w g L (cs ++ [r]) (W.setCells g (cs.length * 2) r.cs) := by
  have far : ∀ i, i < W.heap.size → i ≠ g → (W.setCells g (cs.length * 2) r.cs).heap[i]? = W.heap[i]? := fun i h1 h2 => World.heap_setCells_other W g _ _ h1 h2
  obtain ⟨s1, s2, s3⟩ := setCells_rest W g r.cs (cs.length * 2)
  have lo := h.lo
  refine ⟨h.bel.trans ⟨s1, s2, s3, by rw [setCells_size]; exact Nat.le_refl _, fun i hi => far i (Nat.lt_of_lt_of_le hi h.bel.size) (by omega)⟩, h.lo, by rw [setCells_size]; exact h.lt, World.there_setCells h.th _ _ _, ?_, fun x hx => ?_⟩
  · rw [kvals_append]
    refine rangeAt_append (World.rangeAt_setCells_apart h.rng g _ _ (.inr (.inl (by rw [kvals_length]; omega)))) ?_
    have e : kvals [r] = r.cs := by simp [kvals]
    rw [e, kvals_length, Nat.zero_add]
    refine World.rangeAt_setCells_same W g _ _ fun j hj => ?_
    have hj2 : j < 2 := hj
    have := h.th (cs.length * 2 + j) (by omega)
    rwa [Nat.zero_add] at this
  · rcases List.mem_append.1 hx with hx | hx
    · exact (h.row x hx).set _ _
    · simp only [List.mem_singleton] at hx
      subst hx
      exact hr.set _ _
end
theorem info67 : (Try.prog.info? 67).map (fun i => (i.zero, i.size, i.bytes)) = some (some (.agg (mkV (.slice none 0 0) 0)), 2, 32) := by kernel_rfl
theorem make_marks (L : Nat) (hL : L ≤ 10000) (W : World) : ∃ C : Array Value, C.size = L * 2 ∧ (Instr.makeSlice 46 (.int .i64 (L : Nat)) (.int .i64 (L : Nat))).run Try.prog W = .ok (.slice (some ⟨W.heap.size, 0, none⟩) L L) (W.alloc (.cells C 67)) := by
  obtain ⟨i0, hi, hz0, hz1, hz2⟩ := info_parts info67
  refine ⟨madeCells (Value.agg (mkV (.slice none 0 0) 0)).cells (L * 2), size_madeCells _ _, ?_⟩
  have := run_makeSlice (P := Try.prog) W 46 67 i0 _ Try.underlying46 hi hz0 .i64 .i64 (L : Nat) (L : Nat) (by omega) (Int.le_refl _) (by rw [hz1]; omega) (by rw [hz2]; omega) (by omega)
  rw [hz1] at this
  simpa using this
theorem wpList_put_mark {W : World} {g o : Nat} {t : Int} {A1 : Option Addr} {n1 c1 : Nat} {ops : Array Oper} {rest : List Oper} {op : Oper} {a : Act} {Q : Exit → Act → World → Prop} (TH : W.there g o 2) (u y : Operand) (ho : op.op = .store 67 u y) (hgd : op.guard = none) (hx : a.eval u = .pointer (some ⟨g, o, none⟩)) (hy : a.eval y = .agg (mkV (.slice A1 n1 c1) t))
    (kk : wpList Try.prog ops Q rest (a.put op.dst undef) (W.setCells g o [.slice A1 n1 c1, .int .u64 t])) : wpList Try.prog ops Q (op :: rest) a W :=
  wpList_store_mid hgd 67 u y ho g o (mkV (.slice A1 n1 c1) t) hx hy TH sz67 (by simp [mkV, Value.oneCell']) kk
def MaRel (w : World) (g L : Nat) (ms : List Mark) (i : Value) (wr : World) : Prop :=
  ∃ (k : Nat) (cs : List Mm), k ≤ L ∧ i = .int .i64 (k : Nat) ∧ cs.length = k ∧ cs.map (·.m) = ms.take k ∧ WSt w g L cs wr
set_option maxRecDepth 20000 in
set_option maxHeartbeats 1000000 in
theorem marks_any (base gk : Nat) (K : Kd) (ms : List Mark) (rs : List Bm) (gl : Nat) (sv : Value) (m1 m2 : Nat) (bv : Value) (w : World) (h : Gk w base gk K ms rs gl sv m1 m2 bv) (hs : ∀ m ∈ ms, m.1.length ≤ 1000) :
    Calls Try.prog 30 #[.pointer (some ⟨gk, 0, none⟩)] w fun e w' => ∃ g, e = .returned (.slice (some ⟨g, 0, none⟩) ms.length ms.length) ∧ ∃ cs, cs.map (·.m) = ms ∧ WSt w g ms.length cs w' := by
  have hfew := h.ls.few
  obtain ⟨C, hC, mk⟩ := make_marks ms.length (by omega) w
  have hB := (Below.refl w.heap.size w).alloc (Nat.le_refl _) (.cells C 67)
  have c1 := h.c1
  have LE := Lib.hid (len_any base gl sv m1 m2 ms w h.ls)
  have Z0 : Hid (WSt w w.heap.size ms.length [] (w.alloc (.cells C 67))) := ⟨hB, Nat.le_refl _, by simp, fun j hj => by
    have hb := heap_alloc_new w (.cells C 67)
    refine ⟨?_, ?_⟩
    · rw [cell_of_row _ w.heap.size _ _ _ _ hb, Nat.zero_add, Array.getElem?_eq_getElem (by omega)]; rfl
    · simp only [World.frozen?, hb]; simp, fun j v hv => by simp [kvals] at hv, fun r hr => absurd hr (by simp)⟩
  have HH := Lib.hid h
  have HS := Lib.hid hs
  clear h hB hC hs
  generalize hLL : ms.length = L at *
  go_enter Try.func30, Try.ntmps30
  go_wp2_with (first
    | (go_at_call 42; refine LE.out.mono ?_; rintro e X1 ⟨rfl, rfl⟩)
    | fail)
  go_loopw [13] (MaRel X1 X1.heap.size L ms) (fun i _ => L - (intOf i).toNat)
  case atStart => exact ⟨0, [], by omega, rfl, rfl, by simp, Z0.out⟩
  case round =>
    obtain ⟨k, cs, hk, rfl, hcl, hce, hZ⟩ := hrel
    by_cases hlt : k < L
    · have g1 : ((k : Int) < (L : Int)) = True := eq_true (by omega)
      have hx : ms[k]? = some ms[k] := List.getElem?_eq_getElem (by omega)
      have TK : Hid (ms.take (k + 1) = ms.take k ++ [ms[k]]) := by rw [List.take_succ_eq_append_getElem (by omega)]; exact rfl
      have hml := HS.out ms[k] (List.getElem_mem _)
      generalize ms[k] = r at *
      obtain ⟨xs, t⟩ := r
      have HK := HH.out.below hZ.bel
      have d1 := HK.c1
      have AT := Lib.hid (at_any base gl sv m1 m2 ms k xs t wr HK.ls hx hml)
      have w1 : IntKind.i64.wrap ((k : Int) + 1) = (k : Int) + 1 := IntWalk.i64_in _ (by omega)
      have HZ := Lib.hid hZ
      have HCE := Lib.hid hce
      have lo1 := hZ.lt
      clear hZ hce HK hx
      go_wp2_with (first
        | (go_at_call 44; refine AT.out.mono ?_; rintro e X2 ⟨A1', c1', rfl, o1, o2, hb2⟩; have Z2 := Lib.hid (HZ.out.call hb2); have OO := Lib.hid (And.intro o1 o2); have TH : X2.there X1.heap.size (k * 2) 2 := fun j hj => (by have := Z2.out.th (k * 2 + j) (by omega); rwa [Nat.zero_add] at this); clear o1 o2 hb2)
        | (refine wpList_put_mark TH _ _ rfl rfl rfl rfl ?_; clear TH))
      go_roundw
      case rel =>
        have P := Z2.out.put (by omega) ⟨(xs, t), A1', c1'⟩ ⟨OO.out.1, fun a ha => by have := OO.out.2 a ha; omega⟩
        rw [hcl] at P
        exact ⟨k + 1, _, by omega, by go_num, by simp [hcl], by rw [List.map_append, HCE.out, TK.out]; rfl, P⟩
      case measure => simp [intOf]; omega
    · have hk2 : k = L := by omega
      have g1 : ((k : Int) < (L : Int)) = False := eq_false (by omega)
      go_wp2
      go_ret
      refine ⟨_, rfl, cs, ?_, hZ⟩
      rw [hce, hk2, ← hLL, List.take_length]
end Go.Proofs.Ytpibmccofjpelaa
