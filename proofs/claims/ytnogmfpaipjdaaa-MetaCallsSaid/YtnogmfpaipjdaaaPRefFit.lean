/- The document's right plan out of any. No statement is proved here. -/
import Derived.Test.YtnogmfpaipjdaaaPRoomWalk
namespace Go.Proofs.Ytnogmfpaipjdaaa.P
open Go.RowKit
set_option maxRecDepth 20000
set_option linter.unusedVariables false
set_option linter.unusedSimpArgs false

theorem rem_twice (v : Int) (n : Nat) (h : 0 < n) : (v.tmod n + n).tmod n = v % n := by
  obtain ⟨f1, f2, f3, f4⟩ := tmod_facts v n h
  have h2 := Int.emod_nonneg v (b := n) (by omega)
  have h3 := Int.emod_lt_of_pos v (b := n) (by omega)
  by_cases hn : v.tmod n < 0
  · rw [f1 hn, Int.tmod_eq_emod_of_nonneg h2, Int.emod_eq_of_lt h2 h3]
  · have e := f2 (by omega)
    rw [e, Int.tmod_eq_emod_of_nonneg (by omega), Int.add_emod_right, Int.emod_eq_of_lt h2 h3]
set_option maxHeartbeats 1000000 in
theorem refFit1_any (v : Int) (l m : Nat) (h1 : l + 1 ≤ m) (h2 : m ≤ 16) (w : World) : Calls Try.prog 48 #[.int .i64 v, .int .i64 (l : Int), .int .i64 (m : Int)] w fun e w' => e = .returned (.int .i64 (fitI v l m)) ∧ w' = w := by
  have E : Hid (fitI v l m = if win v l m then v else (l : Int) + v % ((m - l + 1 : Nat) : Int)) := by unfold fitI; rw [show ((m - l + 1 : Nat) : Int) = (m : Int) - l + 1 by omega]; exact rfl
  have WI := Lib.hid (win_iff v l m)
  obtain ⟨c, hc⟩ : ∃ c : Nat, c = m - l + 1 := ⟨_, rfl⟩
  have ec : (m : Int) - (l : Int) + 1 = (c : Int) := by omega
  rw [← hc] at E
  obtain ⟨f1, f2, f3, f4⟩ := tmod_facts v c (by omega)
  have RT := Lib.hid (rem_twice v c (by omega))
  have r1 := Int.emod_nonneg v (b := (c : Int)) (by omega)
  have r2 := Int.emod_lt_of_pos v (b := (c : Int)) (by omega)
  have d0 : (c : Int) ≠ 0 := by omega
  have b2 : - (c : Int) < (v.tmod c + c).tmod c ∧ (v.tmod c + c).tmod c < c := by rw [RT.out]; omega
  clear f1 f2
  generalize v % (c : Int) = r at *
  generalize fitI v l m = f at *
  by_cases g1 : (l : Int) ≤ v
  · by_cases g2 : v ≤ (m : Int)
    · rw [if_pos (WI.out.2 ⟨g1, g2⟩)] at E
      go_enter Try.func48, Try.ntmps48
      go_wp2
      go_ret
      exact ⟨by rw [E.out]; rfl, rfl⟩
    · rw [if_neg (fun h => g2 (WI.out.1 h).2)] at E
      have q1 : IntKind.i64.wrap ((m : Int) - (l : Int)) = (m : Int) - (l : Int) := IntWalk.i64_in _ (by omega)
      go_enter Try.func48, Try.ntmps48
      go_wp2
      go_ret
      refine ⟨congrArg (fun z => Ending.returned (Value.int .i64 z)) ?_, rfl⟩
      rw [E.out]
      have e : ((m - l : Nat) : Int) + 1 = (c : Int) := by omega
      rw [e]
      rw [← Int.tmod_eq_emod_of_nonneg (show 0 ≤ v by omega)]
      rw [IntWalk.wrap64_in (v.tmod (c : Int) + (c : Int)) (by omega), RT.out, IntWalk.wrap64_in _ (by omega)]
  · rw [if_neg (fun h => g1 (WI.out.1 h).1)] at E
    go_enter Try.func48, Try.ntmps48
    go_wp2
    go_ret
    refine ⟨congrArg (fun z => Ending.returned (Value.int .i64 z)) ?_, rfl⟩
    rw [E.out]
    have e : ((m - l : Nat) : Int) + 1 = (c : Int) := by omega
    rw [e]
    rw [IntWalk.wrap64_in (v.tmod (c : Int) + (c : Int)) (by omega), RT.out, IntWalk.wrap64_in _ (by omega)]

/-- The plan that came in, the plan that is made, and the result's, in three blocks of the call's own. -/
structure P3 (w : World) (p q : Pl) (W : World) : Prop where
  a : P2 w (w.heap.size + 2) q w.heap.size p W
  z : PBlk W (w.heap.size + 1) Pl.zero
theorem P3.call {w W W' : World} {p q : Pl} (h : P3 w p q W) (hb : Below W.heap.size W W') : P3 w p q W' := ⟨h.a.call hb, h.z.below hb h.z.lt⟩
theorem P3.drew {w W : World} {p q : Pl} (h : P3 w p q W) : P3 w p q W.drew := ⟨h.a.drew, h.z.drew⟩
theorem P3.put {w W : World} {p q q' : Pl} {i : Nat} {v : Value} (h : P3 w p q W) (e : q'.arr = q.arr.setIfInBounds i v) : P3 w p q' (W.setCell ⟨w.heap.size + 2, i, none⟩ v) :=
  ⟨h.a.put e, h.z.far (by simp) v⟩
theorem P3.new (w : World) (p : Pl) : P3 w p Pl.zero (((w.alloc (.cells p.arr 28)).alloc (.cells Pl.zero.arr 28)).alloc (.cells Pl.zero.arr 28)) := by
  have h := P2.new w p
  have h2 := PBlk.new ((w.alloc (.cells p.arr 28)).alloc (.cells Pl.zero.arr 28)) Pl.zero
  have e : ((w.alloc (.cells p.arr 28)).alloc (.cells Pl.zero.arr 28)).heap.size = w.heap.size + 2 := by simp
  rw [e] at h2
  exact ⟨⟨h2, h.b1.alloc _, h.bel.alloc (by rw [e]; omega) _, by omega, Nat.le_refl _, by omega⟩, h.b2.alloc _⟩
theorem wpList_put3 {ops : Array Oper} {rest : List Oper} {o : Oper} {a : Act} {w W : World} {Q : Exit → Act → World → Prop} {i : Nat} {p q q' : Pl} {n : Int} (h : P3 w p q W) (hi : i < 46) (e : q'.arr = q.arr.setIfInBounds i (.int .i64 n)) (x y : Operand) (ho : o.op = .store 3 x y) (hx : a.eval x = .pointer (some ⟨w.heap.size + 2, i, none⟩)) (hw : Region.wanted o (yielded ops a.tmps) = true)
    (hy : a.eval y = .int .i64 n) (k : ∀ W', P3 w p q' W' → wpList Try.prog ops Q rest (a.put o.dst undef) W') : wpList Try.prog ops Q (o :: rest) a W :=
  wpList_store_at _ x y ho hw hx hy rfl rfl sz3 (h.a.b1.some i hi) (h.a.b1.frozen i) (h.put e) k
theorem wpList_put3U {ops : Array Oper} {rest : List Oper} {o : Oper} {a : Act} {w W : World} {Q : Exit → Act → World → Prop} {i : Nat} {p q q' : Pl} {n : Int} (h : P3 w p q W) (hi : i < 46) (e : q'.arr = q.arr.setIfInBounds i (.int .u64 n)) (x y : Operand) (ho : o.op = .store 22 x y) (hx : a.eval x = .pointer (some ⟨w.heap.size + 2, i, none⟩)) (hw : Region.wanted o (yielded ops a.tmps) = true)
    (hy : a.eval y = .int .u64 n) (k : ∀ W', P3 w p q' W' → wpList Try.prog ops Q rest (a.put o.dst undef) W') : wpList Try.prog ops Q (o :: rest) a W :=
  wpList_store_at _ x y ho hw hx hy rfl rfl sz22 (h.a.b1.some i hi) (h.a.b1.frozen i) (h.put e) k
/-- The plan that is made is, at first, the one that came in. -/
theorem wpList_new3 {ops : Array Oper} {rest : List Oper} {o : Oper} {a : Act} {w W : World} {Q : Exit → Act → World → Prop} {p q q' : Pl} (h : P3 w p q W) (x y : Operand) (ho : o.op = .store 28 x y) (hx : a.eval x = .pointer (some ⟨w.heap.size + 2, 0, none⟩)) (hw : Region.wanted o (yielded ops a.tmps) = true)
    (hy : a.eval y = .agg q'.arr) (k : ∀ W', P3 w p q' W' → wpList Try.prog ops Q rest (a.put o.dst undef) W') : wpList Try.prog ops Q (o :: rest) a W := by
  unfold wpList
  rw [if_pos hw]
  refine .inl (wp_store_row 28 x y ho (w.heap.size + 2) q'.arr hx hy 28 q.arr h.a.b1 (by rw [q'.arr_size]; exact sz28) (by rw [q'.arr_size, q.arr_size]) q'.arr_all (k _ ?_))
  exact ⟨⟨h.a.b1.putAll, (heap_setRow_far W _ _ _ (by omega)).trans h.a.b2, h.a.bel.trans ⟨rfl, rfl, rfl, by simp [World.setRow], fun k hk => heap_setRow_far W _ k _ (by omega)⟩, h.a.lo1, h.a.lo2, h.a.ne⟩, (heap_setRow_far W _ _ _ (by omega)).trans h.z⟩
/-- The result is stored. -/
theorem wpList_end3 {ops : Array Oper} {rest : List Oper} {o : Oper} {a : Act} {w W : World} {Q : Exit → Act → World → Prop} {p q : Pl} (h : P3 w p q W) (x y : Operand) (ho : o.op = .store 28 x y) (hx : a.eval x = .pointer (some ⟨w.heap.size + 1, 0, none⟩)) (hw : Region.wanted o (yielded ops a.tmps) = true)
    (hy : a.eval y = .agg q.arr) (k : ∀ W', PSt w (w.heap.size + 1) q W' → wpList Try.prog ops Q rest (a.put o.dst undef) W') : wpList Try.prog ops Q (o :: rest) a W := by
  unfold wpList
  rw [if_pos hw]
  refine .inl (wp_store_row 28 x y ho (w.heap.size + 1) q.arr hx hy 28 Pl.zero.arr h.z (by rw [q.arr_size]; exact sz28) (by rw [q.arr_size, Pl.zero.arr_size]) q.arr_all (k _ ?_))
  exact ⟨h.z.putAll, h.a.bel.trans ⟨rfl, rfl, rfl, by simp [World.setRow], fun k hk => heap_setRow_far W _ k _ (by omega)⟩⟩
theorem wp_two3 {o : Oper} {a : Act} {w W : World} {K : Act → World → Prop} {Q : Exit → Act → World → Prop} {i : Nat} {p q q' : Pl} {n m : Int} (h : P3 w p q W) (hi : i + 2 ≤ 46) (e : q'.arr = (q.arr.setIfInBounds i (.int .i64 n)).setIfInBounds (i + 1) (.int .i64 m)) (x y : Operand) (ho : o.op = .store 24 x y) (hx : a.eval x = .pointer (some ⟨w.heap.size + 2, i, none⟩))
    (hy : a.eval y = .agg #[.int .i64 n, .int .i64 m]) (k : ∀ W', P3 w p q' W' → K (a.put o.dst undef) W') : o.wp Try.prog a W K Q := by
  refine wp_store_mid 24 x y ho _ i #[.int .i64 n, .int .i64 m] hx hy (there_two h.a.b1 hi) sz24 (by simp [Value.oneCell']) (k _ ?_)
  show P3 w p q' ((W.setCell ⟨w.heap.size + 2, i, none⟩ (.int .i64 n)).setCell ⟨w.heap.size + 2, i + 1, none⟩ (.int .i64 m))
  refine ⟨⟨?_, (h.a.b2.far (by simp) _).far (by simp) _, (h.a.bel.setCell h.a.lo1 _).setCell h.a.lo1 _, h.a.lo1, h.a.lo2, h.a.ne⟩, (h.z.far (by simp) _).far (by simp) _⟩
  have hb := h.a.b1
  unfold PBlk at hb ⊢
  rw [e]
  simp [World.setCell, Array.getElem?_modify, hb]
theorem tmod2 (v : Int) : v.tmod 2 = 0 ↔ ¬ v % 2 = 1 := by
  obtain ⟨f1, f2, f3, f4⟩ := tmod_facts v 2 (by omega)
  have h2 := Int.emod_nonneg v (b := (2 : Int)) (by omega)
  have h3 := Int.emod_lt_of_pos v (b := (2 : Int)) (by omega)
  have e : ((2 : Nat) : Int) = 2 := rfl
  rw [e] at f1 f2 f3 f4
  constructor
  · intro h
    have := f2 (by omega)
    omega
  · intro h
    by_cases hn : v.tmod 2 < 0
    · have := f1 hn; omega
    · have := f2 (by omega); omega
end Go.Proofs.Ytnogmfpaipjdaaa.P
