/- What a list of marks keeps; how it is looked into. No statement is proved here. -/
import Derived.Test.YtpibmccofjpelaaNumMap
import Derived.Laws.BytesArg
import Derived.StringKeys
namespace Go.Proofs.Ytpibmccofjpelaa
open Go.RowKit Go.Maps
set_option linter.unusedVariables false

/-- Bytes as a text. -/
def txt (xs : List Nat) : ByteArray := ⟨(xs.map UInt8.ofNat).toArray⟩
theorem txt_list (xs : List Nat) : (txt xs).data.toList = xs.map UInt8.ofNat := rfl
theorem txt_size (xs : List Nat) : (txt xs).size = xs.length := by simp [txt, ByteArray.size]
theorem row_string {w : World} {B n c : Nat} {A : Option Addr} {xs : List Nat} (h : Row w B A n c xs) : (convert 24 9 (.slice A n c)).run Try.prog w = .ok (.string (txt xs)) w := by
  by_cases hn : 0 < n
  · obtain ⟨b, off, rfl, _, hc⟩ := h.at_ hn
    have := run_convert_bytes_arg (P := Try.prog) w 24 5 Try.underlying24 Try.underlying5 b off n c (xs.map fun (x : Nat) => (x : Int)) (by simpa using h.len) (fun i hi => by
      rw [hc i hi]
      have hl := h.len
      simp [List.getD_eq_getElem?_getD, show i < xs.length by omega]) 9 Try.underlying9
    rw [this]
    congr 2
    simp [strOfNums, txt, List.map_map, Function.comp_def]
  · have h0 : n = 0 := by omega
    subst h0
    have hx : xs = [] := List.eq_nil_of_length_eq_zero h.len
    subst hx
    cases A with
    | none => exact run_convert_bytes_nil w 24 5 Try.underlying24 Try.underlying5 0 c 9 Try.underlying9
    | some a =>
      rw [run_convert_bytes_string w 24 9 5 _ 0 c Try.underlying24 Try.underlying5 Try.underlying9]
      exact run_bytesToString w a 0 c [] (by simp [loadCells, loadCellsFrom])
theorem key_string {n : Nat} {xs : List Nat} (hl : xs.length = n) (hn : n ≤ 9223372036854775807) : keyOf Try.prog 9 (.string (txt xs)) = some (.string (xs.map UInt8.ofNat)) := by
  rw [WideMaps.keyOf_string_mk Try.underlying9 (by rw [txt_size, hl]; unfold maxLen; omega)]; rfl
theorem key_u64 (t : Nat) (ht : t < 18446744073709551616) : keyOf Try.prog 25 (.int .u64 (t : Int)) = some (.int .u64 (t : Int)) :=
  keyOf_int_mk Try.underlying25 (by simp [Lit.wf, IntKind.min, IntKind.max, IntKind.bits, IntKind.signed]; omega)

/-- The number, from 1 on, of the first that p holds of; 0, if there is none. -/
def fN {α : Type} (p : α → Bool) : List α → Nat
  | [] => 0
  | x :: r => if p x then 1 else if fN p r = 0 then 0 else fN p r + 1
theorem fN_snoc {α : Type} (p : α → Bool) (l : List α) (x : α) : fN p (l ++ [x]) = if fN p l = 0 then (if p x then l.length + 1 else 0) else fN p l := by
  induction l with
  | nil => simp [fN]
  | cons y r ih =>
    simp only [List.cons_append, fN, ih, List.length_cons]
    by_cases hy : p y = true
    · simp [hy]
    · simp only [hy, Bool.false_eq_true, if_false]
      by_cases h0 : fN p r = 0
      · by_cases hx : p x = true <;> simp [h0, hx]
      · simp [h0]
theorem fN_le {α : Type} (p : α → Bool) (l : List α) : fN p l ≤ l.length := by
  induction l with
  | nil => simp [fN]
  | cons y r ih =>
    simp only [fN, List.length_cons]
    split
    · omega
    · split <;> omega
/-- A mark: its message's bytes, its tag. -/
abbrev Mark := List Nat × Nat
def findM (ms : List Mark) (xs : List Nat) : Nat := fN (fun m => m.1 == xs) ms
def firstM (ms : List Mark) (t : Nat) : Nat := fN (fun m => m.2 == t) ms
/-- What stands in the maps. -/
def strF (ms : List Mark) : Lit → Nat
  | .string bs => findM ms (bs.map UInt8.toNat)
  | _ => 0
def tagF (ms : List Mark) : Lit → Nat
  | .int .u64 t => if 0 ≤ t then firstM ms t.toNat else 0
  | _ => 0
theorem back_bytes (xs : List Nat) (h : ∀ x ∈ xs, x < 256) : (xs.map UInt8.ofNat).map UInt8.toNat = xs := by
  rw [List.map_map]
  refine (List.map_congr_left (g := id) fun x hx => ?_).trans (List.map_id _)
  have := h x hx
  simp [Nat.mod_eq_of_lt this]
theorem strF_txt (ms : List Mark) (xs : List Nat) (h : ∀ x ∈ xs, x < 256) : strF ms (.string (xs.map UInt8.ofNat)) = findM ms xs := by
  show findM ms ((xs.map UInt8.ofNat).map UInt8.toNat) = _
  rw [back_bytes xs h]
theorem tagF_nat (ms : List Mark) (t : Nat) : tagF ms (.int .u64 (t : Int)) = firstM ms t := by
  show (if 0 ≤ (t : Int) then firstM ms ((t : Int)).toNat else 0) = _
  rw [if_pos (by omega)]; rfl
def mvals : List Mark → List Value
  | [] => []
  | m :: r => .string (txt m.1) :: .int .u64 (m.2 : Int) :: mvals r
theorem mvals_length (ms : List Mark) : (mvals ms).length = ms.length * 2 := by
  induction ms with
  | nil => rfl
  | cons m r ih => simp only [mvals, List.length_cons, ih]; omega
theorem mvals_append (ms ns : List Mark) : mvals (ms ++ ns) = mvals ms ++ mvals ns := by
  induction ms with
  | nil => rfl
  | cons m r ih => simp [mvals, ih]

/-- Block gl is a list of the marks ms: a row of them in memory of its own, and two maps. -/
structure MSt (V : World) (base gl : Nat) (sv : Value) (m1 m2 : Nat) (ms : List Mark) : Prop where
  blk : V.heap[gl]? = some (.cells #[sv, .map (some m1), .map (some m2)] 97 (0, 0))
  n1 : NumMap V 9 m1 ms.length (strF ms)
  n2 : NumMap V 25 m2 ms.length (tagF ms)
  row : V.ownsRow base 99 2 sv ms.length (mvals ms)
  few : ms.length < 10000
  bytes : ∀ m ∈ ms, (∀ x ∈ m.1, x < 256) ∧ m.2 < 18446744073709551616
  ne : m1 ≠ m2
section
variable {V V2 : World} {base gl : Nat} {sv : Value} {m1 m2 : Nat} {ms : List Mark}
theorem MSt.lt (h : MSt V base gl sv m1 m2 ms) : gl < V.heap.size := by
  rcases Nat.lt_or_ge gl V.heap.size with hlt | hge
  · exact hlt
  · have := h.blk; rw [Array.getElem?_eq_none hge] at this; cases this
theorem MSt.c0 (h : MSt V base gl sv m1 m2 ms) : V.cell? ⟨gl, 0, none⟩ = some sv := by rw [cell_of_row V gl 0 _ _ _ h.blk]; rfl
theorem MSt.c1 (h : MSt V base gl sv m1 m2 ms) : V.cell? ⟨gl, 1, none⟩ = some (.map (some m1)) := by rw [cell_of_row V gl 1 _ _ _ h.blk]; rfl
theorem MSt.c2 (h : MSt V base gl sv m1 m2 ms) : V.cell? ⟨gl, 2, none⟩ = some (.map (some m2)) := by rw [cell_of_row V gl 2 _ _ _ h.blk]; rfl
theorem MSt.below (h : MSt V base gl sv m1 m2 ms) (hb : Below V.heap.size V V2) : MSt V2 base gl sv m1 m2 ms :=
  ⟨(hb.block gl h.lt).trans h.blk, h.n1.below hb, h.n2.below hb, h.row.kept (grown_of_below hb none) (by cases sv.ownBlock <;> simp), h.few, h.bytes, h.ne⟩
theorem MSt.drewN (h : MSt V base gl sv m1 m2 ms) (k : Nat) : MSt (V.drewN k) base gl sv m1 m2 ms := ⟨h.blk, h.n1.drewN k, h.n2.drewN k, h.row, h.few, h.bytes, h.ne⟩
end
attribute [local irreducible] findM firstM

set_option maxHeartbeats 1000000 in
theorem find_any (base gl : Nat) (sv : Value) (m1 m2 : Nat) (ms : List Mark) (A : Option Addr) (n c : Nat) (xs : List Nat) (B : Nat) (w : World) (h : MSt w base gl sv m1 m2 ms) (hx : Row w B A n c xs) :
    Calls Try.prog 40 #[.pointer (some ⟨gl, 0, none⟩), .slice A n c] w fun e w' => e = .returned (.int .i64 (findM ms xs : Nat)) ∧ ∃ k, w' = w.drewN k := by
  have c1 := h.c1
  have cv : ∀ k, (convert 24 9 (.slice A n c)).run Try.prog (w.drewN k) = .ok (.string (txt xs)) (w.drewN k) := fun k => row_string (hx.drewN k)
  have lk : ∀ k, (Instr.lookup 93 (.map (some m1)) (.string (txt xs)) false).run Try.prog (w.drewN k) = .ok (.int .i64 (findM ms xs : Nat)) (w.drewN k) := fun k => by
    have := (h.n1.drewN k).look (string_keyed Try.underlying9) Try.underlying93 (key_string hx.len hx.max)
    rw [strF_txt ms xs hx.bytes] at this
    exact this
  clear h hx
  generalize findM ms xs = N at *
  generalize txt xs = T at *
  go_enter Try.func40, Try.ntmps40
  go_wp2
  go_quiet (fail)
  go_wp2
  go_ret
  exact ⟨rfl, _, rfl⟩
set_option maxHeartbeats 1000000 in
theorem first_any (base gl : Nat) (sv : Value) (m1 m2 : Nat) (ms : List Mark) (t : Nat) (ht : t < 18446744073709551616) (w : World) (h : MSt w base gl sv m1 m2 ms) :
    Calls Try.prog 43 #[.pointer (some ⟨gl, 0, none⟩), .int .u64 t] w fun e w' => e = .returned (.int .i64 (firstM ms t : Nat)) ∧ w' = w := by
  have c2 := h.c2
  have lk : (Instr.lookup 94 (.map (some m2)) (.int .u64 (t : Int)) false).run Try.prog w = .ok (.int .i64 (firstM ms t : Nat)) w := by
    have := h.n2.look (int_keyed Try.underlying25) Try.underlying94 (key_u64 t ht)
    rw [tagF_nat] at this
    exact this
  clear h
  generalize firstM ms t = N at *
  go_enter Try.func43, Try.ntmps43
  go_wp2
  go_ret
  exact ⟨rfl, rfl⟩
end Go.Proofs.Ytpibmccofjpelaa
