/- The methods of memory. No statement is proved here. -/
import Derived.Test.YtbmdkmnkbchokaaMem2
namespace Go.Proofs.Ytbmdkmnkbchokaa
open Go.RowKit
set_option linter.unusedVariables false
set_option linter.unusedSimpArgs false
attribute [local irreducible] arrV Mm.arr

/-- Are n bytes from a place on all there? -/
def hasB (N : Nat) (a n : Int) : Bool := decide (0 ≤ a ∧ 0 ≤ n ∧ a ≤ (N : Int) - n)
section
variable {w W : World} {L : List (Nat × TypeId × Array Value)} {g b : Nat} {m : Mm}
theorem has_any (a n : Int) (h : St w W ((g, 45, m.arr b) :: L)) (hm : m.Ok) (a0 : -9223372036854775808 ≤ a) (a1 : a ≤ 9223372036854775807) (n0 : -9223372036854775808 ≤ n) (n1 : n ≤ 9223372036854775807) :
    Calls Try.prog 21 #[.pointer (some ⟨g, 0, none⟩), .int .i64 a, .int .i64 n] W fun e W' => e = .returned (.bool (hasB m.xs.length a n)) ∧ W = W' := by
  have c0 := h.cell 0 rfl 0 _ (m.at0 b)
  have hl := hm.len
  generalize m.xs.length = N at *
  clear h hm
  by_cases ha : a < 0
  · have hd : decide (0 ≤ a) = false := by simpa using ha
    go_enter Try.func21, Try.ntmps21
    go_wp2
    go_ret
    exact ⟨ret_bool (by simp [hasB]; omega), rfl⟩
  · have hd : decide (0 ≤ a) = true := by simpa using ha
    by_cases hb : n < 0
    · have hd2 : decide (0 ≤ n) = false := by simpa using hb
      go_enter Try.func21, Try.ntmps21
      go_wp2
      go_ret
      exact ⟨ret_bool (by simp [hasB]; omega), rfl⟩
    · have hd2 : decide (0 ≤ n) = true := by simpa using hb
      go_enter Try.func21, Try.ntmps21
      go_wp2
      go_ret
      exact ⟨ret_bool (by unfold hasB; exact decide_eq_decide.2 (by omega)), rfl⟩
theorem drops_any (h : St w W ((g, 45, m.arr b) :: L)) : Calls Try.prog 9 #[.pointer (some ⟨g, 0, none⟩)] W fun e W' => e = .returned (.int .i64 m.dr) ∧ W = W' := by
  have c := h.cell 0 rfl 2 _ (m.at2 b)
  clear h
  go_enter Try.func9, Try.ntmps9
  go_wp2
  go_ret
  exact ⟨rfl, rfl⟩
theorem drop_any (n : Int) (hn : 0 ≤ n) (h : St w W ((g, 45, m.arr b) :: L)) (hm : m.Ok) : Calls Try.prog 20 #[.pointer (some ⟨g, 0, none⟩), .int .i64 n] W fun e W' => e = .returned (.int .i64 0) ∧ St w W' ((g, 45, ({ m with dr := n } : Mm).arr b) :: L) := by
  have hd : decide (n < 0) = false := by simpa using hn
  have hs := Lib.hid (show 2 < (m.arr b).size by rw [m.size, hm.four]; omega)
  have E := Lib.hid (m.set2 b n)
  clear hm
  go_enter Try.func20, Try.ntmps20
  go_wp2_with (refine wpList_cell_st h 0 rfl 3 (.tmp 10) (.tmp 8) rfl rfl 2 (.int .i64 n) rfl rfl hs.out rfl rfl sz3 ?_; clear h; intro W1 h1 _)
  go_ret
  rw [E.out] at h1
  exact ⟨rfl, h1⟩
theorem bytes_any (h : St w W ((g, 45, m.arr b) :: (b, 5, arrV m.xs) :: L)) (hm : m.Ok) : Calls Try.prog 11 #[.pointer (some ⟨g, 0, none⟩)] W fun e W' => e = .returned (.slice (some ⟨W.heap.size, 0, none⟩) m.xs.length m.xs.length) ∧ St w W' ((g, 45, m.arr b) :: (b, 5, arrV m.xs) :: (L ++ [(W.heap.size, 5, arrV m.xs)])) := by
  have c0 := h.cell 0 rfl 0 _ (m.at0 b)
  have T := Lib.hid (twin_any _ _ _ _ w W _ h ((h.get 1 rfl).brow0 hm.bytes (by have := hm.len; omega)) (by have := hm.len; omega))
  clear h
  go_enter Try.func11, Try.ntmps11
  go_wp2_with (go_at_call 23; refine T.out.mono ?_; rintro e W1 ⟨rfl, h1⟩)
  go_ret
  exact ⟨rfl, h1⟩
theorem results_arr {P : Program} {fn : Func} {p : Tmp} {ty : TypeId} (h : fn.results = #[.cell p ty]) (tmps : Array Value) (w : World) (g : Nat) (hp : tmps.getD p undef = .pointer (some ⟨g, 0, none⟩)) (v : Value)
    (hl : (loadVar ty ⟨g, 0, none⟩).run P w = .ok v w) : (results fn tmps).run P w = .ok v w := by
  have hp' : tmps[p]?.getD undef = .pointer (some ⟨g, 0, none⟩) := by simpa using hp
  simp [results, h, hp', asAddr, hl]
theorem zv34 (W : World) : (zeroValue 34).run Try.prog W = .ok (.agg #[.int .i64 0, .int .i64 0, .int .i64 0]) W := by kernel_rfl
theorem St.use (h : St w W ((g, 45, m.arr b) :: L)) : (loadVar 34 ⟨g, 3, none⟩).run Try.prog W = .ok (.agg #[.int .i64 m.rd, .int .i64 m.wr, .int .i64 m.op]) W := by
  have := run_loadVar_mid (P := Try.prog) W g 3 34 [.int .i64 m.rd, .int .i64 m.wr, .int .i64 m.op] _ (fun j v hv => by
    rcases (show j = 0 ∨ j = 1 ∨ j = 2 ∨ 3 ≤ j by omega) with rfl | rfl | rfl | hj
    · simp at hv; subst hv; exact h.cell 0 rfl 3 _ (m.at3 b)
    · simp at hv; subst hv; exact h.cell 0 rfl 4 _ (m.at4 b)
    · simp at hv; subst hv; exact h.cell 0 rfl 5 _ (m.at5 b)
    · rw [List.getElem?_eq_none (by simpa using hj)] at hv; cases hv) Try.underlying34 rfl (by rw [sz34]; rfl)
  exact this
theorem wpList_load_run {ops : Array Oper} {rest : List Oper} {o : Oper} {a : Act} {Q : Exit → Act → World → Prop} {W : World} (ty : TypeId) (x : Operand) (ho : o.op = .load ty x) (hw : Region.wanted o (yielded ops a.tmps) = true) (p : Addr) (v : Value)
    (hx : a.eval x = .pointer (some p)) (hl : (loadVar ty p).run Try.prog W = .ok v W) (k : wpList Try.prog ops Q rest (a.put o.dst v) W) : wpList Try.prog ops Q (o :: rest) a W := by
  unfold wpList
  rw [if_pos hw]
  refine .inl ?_
  unfold Oper.wp execOp
  simp only [ho, hx, Instr.loadAt, Instr.sureAddr, Sem.run_bind, Sem.run_pure, Result.andThen_ok, hl]
  exact k
theorem cell3 (x y z : Int) : (#[.int .i64 x, .int .i64 y, .int .i64 z] : Array Value).all (·.oneCell') = true := by simp [Value.oneCell']
theorem use_any (h : St w W ((g, 45, m.arr b) :: L)) : Calls Try.prog 12 #[.pointer (some ⟨g, 0, none⟩)] W fun e W' => e = .returned (.agg #[.int .i64 m.rd, .int .i64 m.wr, .int .i64 m.op]) ∧ St w W' ((g, 45, m.arr b) :: L) := by
  go_enter Try.func12, Try.ntmps12
  go_wp2_with (first
    | (refine wpList_alloc_st h 34 rfl rfl _ #[.int .i64 0, .int .i64 0, .int .i64 0] zv34 rfl ?_; clear h; intro W1 h1 _ _)
    | (refine wpList_load_run 34 (.tmp 5) rfl rfl ⟨g, 3, none⟩ _ rfl (St.use h1) ?_)
    | (refine wpList_store_st h1 (L.length + 1) (g := W.heap.size) (t := 34) (arr' := #[.int .i64 m.rd, .int .i64 m.wr, .int .i64 m.op]) (arr := #[.int .i64 0, .int .i64 0, .int .i64 0]) (by simp) 34 (.tmp 2) (.tmp 6) rfl rfl rfl rfl sz34 rfl (cell3 _ _ _) ?_; clear h1; intro W2 h2 _))
  have h3 : St w W2 ((g, 45, m.arr b) :: (L ++ [(W.heap.size, 34, #[.int .i64 m.rd, .int .i64 m.wr, .int .i64 m.op])])) := by simpa using h2
  refine bodyPost_ret (results_arr Try.results12 _ _ _ rfl _ ((h3.get (L.length + 1) (g := W.heap.size) (t := 34) (arr := #[.int .i64 m.rd, .int .i64 m.wr, .int .i64 m.op]) (by simp)).loadV 34 _ Try.underlying34 rfl sz34)) rfl ?_
  exact ⟨rfl, h3.sub (by simp)⟩
end
end Go.Proofs.Ytbmdkmnkbchokaa
