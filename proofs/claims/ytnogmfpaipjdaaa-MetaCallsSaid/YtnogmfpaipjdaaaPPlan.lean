/- A plan's value, its block, and the small functions on numbers. No statement is proved here. -/
import Derived.Test.YtnogmfpaipjdaaaProg
import Derived.WalkKit
import Derived.WalkSpells
import Derived.WalkLawsBesides
import Derived.Below
import Derived.Lib.Hide
import Derived.Deep.MidRow
import Derived.Deep.QuietTactic
import Derived.BigQuiet
import Derived.Deep.Draws
import Derived.Laws.OwnMore
import Derived.Deep.RegionWith
import Derived.Deep.RegionHeld3
namespace Go.Proofs.Ytnogmfpaipjdaaa.P
open Go.RowKit
set_option linter.unusedVariables false

def vals (xs : List Nat) : List Value := xs.map fun x => .int .u8 ((x : Nat) : Int)
/-- What a plan holds: its numbers in their order, and the 32 bytes of its two keys. -/
structure Pl where
  co : Int
  ba : Int
  pa : Int
  li : Int
  ar : Int
  mi : Int
  ma : Int
  ns : Int
  nw : Int
  fs : Int
  fw : Int
  me : Int
  qu : Int
  ki : Int
  ks : List Nat
  hk : ks.length = 32

def Pl.nums (p : Pl) : List Value := [.int .i64 p.co, .int .i64 p.ba, .int .i64 p.pa, .int .i64 p.li, .int .i64 p.ar, .int .i64 p.mi, .int .u64 p.ma, .int .i64 p.ns, .int .i64 p.nw, .int .i64 p.fs, .int .i64 p.fw, .int .i64 p.me, .int .i64 p.qu, .int .i64 p.ki]
def Pl.cs (p : Pl) : List Value := p.nums ++ vals p.ks
def Pl.arr (p : Pl) : Array Value := p.cs.toArray
theorem Pl.cs_length (p : Pl) : p.cs.length = 46 := by simp [Pl.cs, Pl.nums, vals, p.hk]
theorem Pl.arr_size (p : Pl) : p.arr.size = 46 := by simp [Pl.arr, p.cs_length]
theorem Pl.cs_one (p : Pl) : ∀ v ∈ p.cs, v.oneCell' = true := by
  intro v hv
  simp only [Pl.cs, Pl.nums, vals, List.mem_append, List.mem_cons, List.mem_map, List.not_mem_nil, or_false] at hv
  rcases hv with (rfl | rfl | rfl | rfl | rfl | rfl | rfl | rfl | rfl | rfl | rfl | rfl | rfl | rfl) | ⟨x, _, rfl⟩ <;> rfl
theorem Pl.arr_all (p : Pl) : p.arr.all (·.oneCell') = true := all_oneCell_toArray p.cs_one

/-- Block g of the world is just the plan p. -/
def PBlk (w : World) (g : Nat) (p : Pl) : Prop := w.heap[g]? = some (.cells p.arr 28 (0, 0))

section
variable {w w' : World} {g : Nat} {p : Pl}
theorem PBlk.lt (h : PBlk w g p) : g < w.heap.size := by
  rcases Nat.lt_or_ge g w.heap.size with hlt | hge
  · exact hlt
  · unfold PBlk at h; rw [Array.getElem?_eq_none hge] at h; cases h
theorem PBlk.cell (h : PBlk w g p) (i : Nat) : w.cell? ⟨g, i, none⟩ = p.arr[i]? := cell_of_row w g i p.arr 28 (0, 0) h
theorem PBlk.frozen (h : PBlk w g p) (i : Nat) : w.frozen? ⟨g, i, none⟩ = false := by
  unfold PBlk at h
  simp [World.frozen?, h]
theorem PBlk.new (w : World) (p : Pl) : PBlk (w.alloc (.cells p.arr 28)) w.heap.size p := heap_alloc_new w _
theorem PBlk.drew (h : PBlk w g p) : PBlk w.drew g p := h
theorem PBlk.drewN (h : PBlk w g p) (n : Nat) : PBlk (w.drewN n) g p := h
theorem PBlk.alloc (h : PBlk w g p) (o : Obj) : PBlk (w.alloc o) g p := (Below.heap_alloc w o g h.lt).trans h
theorem PBlk.far (h : PBlk w g p) {a : Addr} (hp : g ≠ a.block) (u : Value) : PBlk (w.setCell a u) g p := (Below.heap_setCell w a u g hp).trans h
theorem PBlk.below {B : Nat} (h : PBlk w g p) (hb : Below B w w') (hg : g < B) : PBlk w' g p := (hb.block g hg).trans h
theorem PBlk.load (h : PBlk w g p) : (Instr.loadAt 28 (.pointer (some ⟨g, 0, none⟩))).run Try.prog w = .ok (.agg p.arr) w := by
  have := run_loadVar_row (P := Try.prog) w g 28 28 p.arr (0, 0) _ h Try.underlying28 rfl (by rw [p.arr_size]; kernel_rfl)
  simp only [Instr.loadAt, Instr.sureAddr, Sem.run_bind, Sem.run_pure, Result.andThen_ok, this]
theorem PBlk.range (h : PBlk w g p) : w.rangeAt g 0 p.cs := by
  intro j v hv
  rw [h.cell (0 + j), Nat.zero_add, ← hv]
  simp [Pl.arr]
theorem PBlk.there (h : PBlk w g p) : w.there g 0 46 := fun j hj => by
  refine ⟨?_, h.frozen _⟩
  rw [h.cell (0 + j), Nat.zero_add, Array.getElem?_eq_getElem (by rw [p.arr_size]; exact hj)]; rfl
end
theorem Pl.at0 (p : Pl) : p.arr[0]? = some (.int .i64 p.co) := rfl
theorem Pl.at1 (p : Pl) : p.arr[1]? = some (.int .i64 p.ba) := rfl
theorem Pl.at2 (p : Pl) : p.arr[2]? = some (.int .i64 p.pa) := rfl
theorem Pl.at3 (p : Pl) : p.arr[3]? = some (.int .i64 p.li) := rfl
theorem Pl.at4 (p : Pl) : p.arr[4]? = some (.int .i64 p.ar) := rfl
theorem Pl.at5 (p : Pl) : p.arr[5]? = some (.int .i64 p.mi) := rfl
theorem Pl.at6 (p : Pl) : p.arr[6]? = some (.int .u64 p.ma) := rfl
theorem Pl.at7 (p : Pl) : p.arr[7]? = some (.int .i64 p.ns) := rfl
theorem Pl.at8 (p : Pl) : p.arr[8]? = some (.int .i64 p.nw) := rfl
theorem Pl.at9 (p : Pl) : p.arr[9]? = some (.int .i64 p.fs) := rfl
theorem Pl.at10 (p : Pl) : p.arr[10]? = some (.int .i64 p.fw) := rfl
theorem Pl.at11 (p : Pl) : p.arr[11]? = some (.int .i64 p.me) := rfl
theorem Pl.at12 (p : Pl) : p.arr[12]? = some (.int .i64 p.qu) := rfl
theorem Pl.at13 (p : Pl) : p.arr[13]? = some (.int .i64 p.ki) := rfl
theorem PBlk.c0 {w : World} {g : Nat} {p : Pl} (h : PBlk w g p) : w.cell? ⟨g, 0, none⟩ = some (.int .i64 p.co) := (h.cell 0).trans p.at0
theorem PBlk.c1 {w : World} {g : Nat} {p : Pl} (h : PBlk w g p) : w.cell? ⟨g, 1, none⟩ = some (.int .i64 p.ba) := (h.cell 1).trans p.at1
theorem PBlk.c2 {w : World} {g : Nat} {p : Pl} (h : PBlk w g p) : w.cell? ⟨g, 2, none⟩ = some (.int .i64 p.pa) := (h.cell 2).trans p.at2
theorem PBlk.c3 {w : World} {g : Nat} {p : Pl} (h : PBlk w g p) : w.cell? ⟨g, 3, none⟩ = some (.int .i64 p.li) := (h.cell 3).trans p.at3
theorem PBlk.c4 {w : World} {g : Nat} {p : Pl} (h : PBlk w g p) : w.cell? ⟨g, 4, none⟩ = some (.int .i64 p.ar) := (h.cell 4).trans p.at4
theorem PBlk.c5 {w : World} {g : Nat} {p : Pl} (h : PBlk w g p) : w.cell? ⟨g, 5, none⟩ = some (.int .i64 p.mi) := (h.cell 5).trans p.at5
theorem PBlk.c6 {w : World} {g : Nat} {p : Pl} (h : PBlk w g p) : w.cell? ⟨g, 6, none⟩ = some (.int .u64 p.ma) := (h.cell 6).trans p.at6
theorem PBlk.c7 {w : World} {g : Nat} {p : Pl} (h : PBlk w g p) : w.cell? ⟨g, 7, none⟩ = some (.int .i64 p.ns) := (h.cell 7).trans p.at7
theorem PBlk.c8 {w : World} {g : Nat} {p : Pl} (h : PBlk w g p) : w.cell? ⟨g, 8, none⟩ = some (.int .i64 p.nw) := (h.cell 8).trans p.at8
theorem PBlk.c9 {w : World} {g : Nat} {p : Pl} (h : PBlk w g p) : w.cell? ⟨g, 9, none⟩ = some (.int .i64 p.fs) := (h.cell 9).trans p.at9
theorem PBlk.c10 {w : World} {g : Nat} {p : Pl} (h : PBlk w g p) : w.cell? ⟨g, 10, none⟩ = some (.int .i64 p.fw) := (h.cell 10).trans p.at10
theorem PBlk.c11 {w : World} {g : Nat} {p : Pl} (h : PBlk w g p) : w.cell? ⟨g, 11, none⟩ = some (.int .i64 p.me) := (h.cell 11).trans p.at11
theorem PBlk.c12 {w : World} {g : Nat} {p : Pl} (h : PBlk w g p) : w.cell? ⟨g, 12, none⟩ = some (.int .i64 p.qu) := (h.cell 12).trans p.at12
theorem PBlk.c13 {w : World} {g : Nat} {p : Pl} (h : PBlk w g p) : w.cell? ⟨g, 13, none⟩ = some (.int .i64 p.ki) := (h.cell 13).trans p.at13
attribute [irreducible] Pl.arr Pl.cs

def win (v l m : Int) : Bool := decide (l ≤ v) && decide (v ≤ m)
theorem win_iff (v l m : Int) : win v l m = true ↔ l ≤ v ∧ v ≤ m := by simp [win]
theorem within_any (v l m : Int) (w : World) : Calls Try.prog 79 #[.int .i64 v, .int .i64 l, .int .i64 m] w fun e w' => e = .returned (.bool (win v l m)) ∧ w' = w := by
  have E := Lib.hid (show win v l m = (decide (l ≤ v) && decide (v ≤ m)) from rfl)
  generalize win v l m = b at *
  go_enter Try.func79, Try.ntmps79
  go_wp2
  all_goals (go_ret; refine ⟨?_, rfl⟩; rw [E.out])
  · have h1 : decide (l ≤ v) = true := decide_eq_true (by omega)
    rw [h1, Bool.true_and]; rfl
  · have h1 : decide (l ≤ v) = false := decide_eq_false (by omega)
    rw [h1, Bool.false_and]; rfl
theorem above_any (n a : Nat) (h1 : n ≤ 16) (h2 : 2 ≤ a) (h3 : a ≤ 4) (w : World) : Calls Try.prog 81 #[.int .i64 (n : Int), .int .i64 (a : Int)] w fun e w' => e = .returned (.int .i64 (((n + a - 1) / a : Nat) : Int)) ∧ w' = w := by
  have d0 : (a : Int) ≠ 0 := by omega
  have E := Lib.hid (show ((n : Int) + a - 1) / a = (((n + a - 1) / a : Nat) : Int) by
    rw [show (n : Int) + a - 1 = ((n + a - 1 : Nat) : Int) by omega]; exact Int.ofNat_ediv_ofNat)
  go_enter Try.func81, Try.ntmps81
  go_wp2
  go_ret
  refine ⟨?_, rfl⟩
  rw [← E.out]; rfl
theorem tmod_facts (v : Int) (n : Nat) (h : 0 < n) : (v.tmod n < 0 → v.tmod n + n = v % n) ∧ (0 ≤ v.tmod n → v.tmod n = v % n) ∧ - (n : Int) < v.tmod n ∧ v.tmod n < n := by
  have h1 := Int.tmod_eq_emod (a := v) (b := n)
  have h2 := Int.emod_nonneg v (b := n) (by omega)
  have h3 := Int.emod_lt_of_pos v (b := n) (by omega)
  have h4 : (0 ≤ v ∨ (n : Int) ∣ v) ∨ ¬ (0 ≤ v ∨ (n : Int) ∣ v) := Classical.em _
  rcases h4 with h4 | h4
  · rw [if_pos h4] at h1; omega
  · rw [if_neg h4] at h1
    have h5 : ¬ (v % n = 0) := fun e => h4 (.inr (Int.dvd_of_emod_eq_zero e))
    simp only [Int.natAbs_natCast] at h1
    omega
theorem rest_any (v : Int) (n : Nat) (h1 : 2 ≤ n) (h2 : n ≤ 64) (w : World) : Calls Try.prog 80 #[.int .i64 v, .int .i64 (n : Int)] w fun e w' => e = .returned (.int .i64 (v % (n : Int))) ∧ w' = w := by
  have d0 : (n : Int) ≠ 0 := by omega
  obtain ⟨f1, f2, f3, f4⟩ := tmod_facts v n (by omega)
  have F1 := Lib.hid f1
  have F2 := Lib.hid f2
  clear f1 f2
  generalize v % (n : Int) = r at *
  go_enter Try.func80, Try.ntmps80
  go_wp2
  · rename_i hneg
    go_ret
    refine ⟨?_, rfl⟩
    rw [← F1.out hneg]; rfl
  · rename_i hneg
    go_ret
    refine ⟨?_, rfl⟩
    rw [← F2.out hneg]; rfl
theorem rest_any' (v n' : Int) (n : Nat) (hn : n' = (n : Int)) (h1 : 2 ≤ n) (h2 : n ≤ 64) (w : World) : Calls Try.prog 80 #[.int .i64 v, .int .i64 n'] w fun e w' => e = .returned (.int .i64 (v % (n : Int))) ∧ w' = w := by
  subst hn; exact rest_any v n h1 h2 w
/-- v, if it is from l to m, else a number of these. -/
def fitI (v l m : Int) : Int := if win v l m then v else l + v % (m - l + 1)
theorem fitI_win (v l m : Int) (h : l ≤ m) : win (fitI v l m) l m = true := by
  unfold fitI
  split
  · assumption
  · rw [win_iff]
    have h2 := Int.emod_nonneg v (b := m - l + 1) (by omega)
    have h3 := Int.emod_lt_of_pos v (b := m - l + 1) (by omega)
    omega
theorem fitI_same (v l m : Int) (h : win v l m = true) : fitI v l m = v := by unfold fitI; rw [if_pos h]
theorem fitI_iff (v l m : Int) (h : l ≤ m) : fitI v l m = v ↔ win v l m = true := ⟨fun e => by rw [← e]; exact fitI_win v l m h, fitI_same v l m⟩
theorem fitted_any (v : Int) (l m : Nat) (h1 : l + 1 ≤ m) (h2 : m ≤ 16) (w : World) : Calls Try.prog 60 #[.int .i64 v, .int .i64 (l : Int), .int .i64 (m : Int)] w fun e w' => e = .returned (.int .i64 (fitI v l m)) ∧ w' = w := by
  have W := Lib.hid (fun W => within_any v l m W)
  have R := Lib.hid (fun n' hn W => rest_any' v n' (m - l + 1) hn (by omega) (by omega) W)
  have E := Lib.hid (show fitI v l m = if win v l m then v else (l : Int) + v % ((m - l + 1 : Nat) : Int) by unfold fitI; rw [show ((m - l + 1 : Nat) : Int) = (m : Int) - l + 1 by omega])
  have r1 := Int.emod_nonneg v (b := ((m - l + 1 : Nat) : Int)) (by omega)
  have r2 := Int.emod_lt_of_pos v (b := ((m - l + 1 : Nat) : Int)) (by omega)
  generalize v % ((m - l + 1 : Nat) : Int) = r at *
  generalize fitI v l m = f at *
  cases hw : win v l m
  · rw [hw] at W E
    clear hw
    go_enter Try.func60, Try.ntmps60
    go_wp2_with (first
      | (go_at_call 79; refine (W.out _).mono ?_; rintro e W1 ⟨rfl, rfl⟩)
      | (go_at_call 80; refine (R.out _ (by omega) _).mono ?_; rintro e W1 ⟨rfl, rfl⟩))
    go_ret
    refine ⟨?_, rfl⟩
    rw [E.out]; rfl
  · rw [hw] at W E
    clear hw
    go_enter Try.func60, Try.ntmps60
    go_wp2_with (first
      | (go_at_call 79; refine (W.out _).mono ?_; rintro e W1 ⟨rfl, rfl⟩))
    go_ret
    refine ⟨?_, rfl⟩
    rw [E.out]; rfl
/-- A kind that there is. -/
def kindI (v : Int) : Int := if v % 2 = 1 then 1 else 0
theorem kindOf_any (v : Int) (w : World) : Calls Try.prog 62 #[.int .i64 v] w fun e w' => e = .returned (.int .i64 (kindI v)) ∧ w' = w := by
  have R := Lib.hid (fun W => rest_any v 2 (by omega) (by omega) W)
  have E := Lib.hid (show kindI v = if v % 2 = 1 then 1 else 0 from rfl)
  have r1 := Int.emod_nonneg v (b := ((2 : Nat) : Int)) (by omega)
  have r2 := Int.emod_lt_of_pos v (b := ((2 : Nat) : Int)) (by omega)
  generalize hr : v % ((2 : Nat) : Int) = r at *
  generalize kindI v = f at *
  by_cases h : r = 1
  · go_enter Try.func62, Try.ntmps62
    go_wp2_with (first
      | (go_at_call 80; refine (R.out _).mono ?_; rintro e W1 ⟨rfl, rfl⟩))
    go_ret
    exact ⟨by rw [E.out, if_pos h]; rfl, rfl⟩
  · go_enter Try.func62, Try.ntmps62
    go_wp2_with (first
      | (go_at_call 80; refine (R.out _).mono ?_; rintro e W1 ⟨rfl, rfl⟩))
    go_ret
    exact ⟨by rw [E.out, if_neg h]; rfl, rfl⟩
def shaped (p : Pl) : Bool := win p.pa 1 16 && win p.li 1 8 && win p.ar 2 4 && win p.ba 1 4
attribute [irreducible] win fitI kindI
set_option maxHeartbeats 1000000 in
theorem hasTree_any (p : Pl) (w : World) : Calls Try.prog 63 #[.agg p.arr] w fun e w' => e = .returned (.bool (shaped p)) ∧ Below w.heap.size w w' := by
  have B := PBlk.new w p
  have c1 := B.c1
  have c2 := B.c2
  have c3 := B.c3
  have c4 := B.c4
  have E := Lib.hid (show shaped p = (win p.pa 1 16 && win p.li 1 8 && win p.ar 2 4 && win p.ba 1 4) from rfl)
  have BB := Lib.hid (show Below w.heap.size w (w.alloc (.cells p.arr 28)) from (Below.refl _ _).alloc (Nat.le_refl _) _)
  have W1 := Lib.hid (fun W => within_any p.pa 1 16 W)
  have W2 := Lib.hid (fun W => within_any p.li 1 8 W)
  have W3 := Lib.hid (fun W => within_any p.ar 2 4 W)
  have W4 := Lib.hid (fun W => within_any p.ba 1 4 W)
  clear B
  generalize shaped p = f at *
  generalize p.pa = pa at *
  generalize p.li = li at *
  generalize p.ar = ar at *
  generalize p.ba = ba at *
  generalize win pa 1 16 = b1 at *
  generalize win li 1 8 = b2 at *
  generalize win ar 2 4 = b3 at *
  generalize win ba 1 4 = b4 at *
  go_enter Try.func63, Try.ntmps63
  go_wp2_with (first
    | (go_at_call_of 79 (Value.int IntKind.i64 pa); refine (W1.out _).mono ?_; rintro e W1 ⟨rfl, rfl⟩)
    | (go_at_call_of 79 (Value.int IntKind.i64 li); refine (W2.out _).mono ?_; rintro e W1 ⟨rfl, rfl⟩)
    | (go_at_call_of 79 (Value.int IntKind.i64 ar); refine (W3.out _).mono ?_; rintro e W1 ⟨rfl, rfl⟩)
    | (go_at_call_of 79 (Value.int IntKind.i64 ba); refine (W4.out _).mono ?_; rintro e W1 ⟨rfl, rfl⟩))
  all_goals (go_ret; refine ⟨?_, BB.out⟩; rw [E.out]; simp [*])
end Go.Proofs.Ytnogmfpaipjdaaa.P
