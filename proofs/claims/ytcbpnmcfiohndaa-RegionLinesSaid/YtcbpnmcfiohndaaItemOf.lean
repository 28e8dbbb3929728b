/- What stands at an address. No statement is proved here. -/
import Derived.Test.YtcbpnmcfiohndaaRTreeWalk
namespace Go.Proofs.Ytcbpnmcfiohndaa
open Go.RowKit
set_option linter.unusedVariables false
set_option linter.unusedSimpArgs false

theorem itAt_ex (n a L c : Nat) (h : c < sw n a L) : ∃ k j, k < L ∧ j < wid n a k ∧ sw n a k + j = c := by
  induction L with
  | zero => rw [sw_zero] at h; omega
  | succ L ih =>
    rcases Nat.lt_or_ge c (sw n a L) with h2 | h2
    · obtain ⟨k, j, h3, h4, h5⟩ := ih h2
      exact ⟨k, j, by omega, h4, h5⟩
    · rw [sw_succ] at h
      exact ⟨L, c - sw n a L, by omega, by omega, by omega⟩
open Classical in
/-- The item that has so many ahead of it. -/
noncomputable def itAt (n a L c : Nat) : Nat × Nat := if h : ∃ x : Nat × Nat, x.1 < L ∧ x.2 < wid n a x.1 ∧ sw n a x.1 + x.2 = c then Classical.choose h else (0, 0)
theorem itAt_spec {n a L c : Nat} (h : c < sw n a L) : (itAt n a L c).1 < L ∧ (itAt n a L c).2 < wid n a (itAt n a L c).1 ∧ sw n a (itAt n a L c).1 + (itAt n a L c).2 = c := by
  have hx : ∃ x : Nat × Nat, x.1 < L ∧ x.2 < wid n a x.1 ∧ sw n a x.1 + x.2 = c := by
    obtain ⟨k, j, h1, h2, h3⟩ := itAt_ex n a L c h
    exact ⟨(k, j), h1, h2, h3⟩
  unfold itAt
  rw [dif_pos hx]
  exact Classical.choose_spec hx
theorem itAt_eq {n a L c k j : Nat} (h1 : k < L) (h2 : j < wid n a k) (h3 : sw n a k + j = c) : itAt n a L c = (k, j) := by
  have hc : c < sw n a L := by
    have h4 := sw_mono n a (show k + 1 ≤ L from h1)
    rw [sw_succ] at h4; omega
  obtain ⟨s1, s2, s3⟩ := itAt_spec hc
  obtain ⟨e1, e2⟩ := sw_inj n a s2 h2 (by omega)
  exact Prod.ext e1 e2
section
variable {w W W' : World} {p : Pl} {lv ix : Int}
theorem ISt.put (h : ISt w p lv ix W) (c d : Int) : ISt w p c d (W.setRow (w.heap.size + 1) #[.int .i64 c, .int .i64 d]) := by
  have hb := h.it
  exact ⟨⟨(heap_setRow_far W _ _ _ (by omega)).trans h.st.blk, h.st.bel.trans ⟨rfl, rfl, rfl, by simp [World.setRow], fun k hk => heap_setRow_far W _ k _ (by omega)⟩⟩, by simp [World.setRow, Array.getElem?_modify, hb]⟩
theorem wpList_store_I {ops : Array Oper} {rest : List Oper} {o : Oper} {a : Act} {Q : Exit → Act → World → Prop} {c d : Int} (h : ISt w p lv ix W) (x y : Operand) (ho : o.op = .store 39 x y) (hx : a.eval x = .pointer (some ⟨w.heap.size + 1, 0, none⟩)) (hw : Region.wanted o (yielded ops a.tmps) = true) (hy : a.eval y = .agg #[.int .i64 c, .int .i64 d])
    (k : ∀ W', ISt w p c d W' → wpList Try.prog ops Q rest (a.put o.dst undef) W') : wpList Try.prog ops Q (o :: rest) a W := by
  unfold wpList
  rw [if_pos hw]
  exact .inl (wp_store_row 39 x y ho (w.heap.size + 1) #[.int .i64 c, .int .i64 d] hx hy 39 #[.int .i64 lv, .int .i64 ix] h.it sz39 rfl (by simp [Value.oneCell']) (k _ (h.put c d)))
end
theorem item_loadV {W : World} {g : Nat} {c d : Int} (h : W.heap[g]? = some (.cells #[.int .i64 c, .int .i64 d] 39 (0, 0))) : (loadVar 39 ⟨g, 0, none⟩).run Try.prog W = .ok (.agg #[.int .i64 c, .int .i64 d]) W :=
  run_loadVar_row (P := Try.prog) W g 39 39 #[.int .i64 c, .int .i64 d] (0, 0) _ h Try.underlying39 rfl sz39
def OfRel (w : World) (p : Pl) (n a L m : Nat) (s i : Value) (wr : World) : Prop :=
  ∃ k, k ≤ L ∧ sw n a k ≤ m ∧ s = .int .i64 (m - sw n a k : Nat) ∧ i = .int .i64 (k : Nat) ∧ ISt w p 0 0 wr
attribute [local irreducible] shaped Ls Lv Wd Al right bounded fitP sw hasI hasL itAt
set_option maxHeartbeats 2000000 in
set_option maxRecDepth 20000 in
theorem itemOf_any (p : Pl) (m : Nat) (hs : shaped p = true) (hm : m < sw p.pa.toNat p.ar.toNat (Lv p)) (w : World) : Calls Try.prog 52 #[.agg p.arr, .int .i64 (m : Nat)] w fun e w' => e = .returned (.agg #[.int .i64 ((itAt p.pa.toNat p.ar.toNat (Lv p) m).1 : Nat), .int .i64 ((itAt p.pa.toNat p.ar.toNat (Lv p) m).2 : Nat)]) ∧ Below w.heap.size w w' := by
  have N := Lib.hid (ISt.new w p 0 0)
  have sh := sh_of hs
  have WA : Hid (∀ k : Nat, k < Lv p → ∀ W, Calls Try.prog 17 #[.agg p.arr, .int .i64 (k : Nat)] W fun e w' => e = .returned (.int .i64 (wid p.pa.toNat p.ar.toNat k : Nat)) ∧ Below W.heap.size W w') := fun k hk W => by rw [← Wd_at p k hk]; exact width_any p k W
  have LV := Lib.hid (fun W => levels_any p W)
  have TF := tree_facts sh.n1 sh.n2 sh.a1 sh.a2
  have SW := Lib.hid (fun k hk => sw_le sh.n1 sh.n2 sh.a1 sh.a2 k hk)
  rw [← sh.lv hs] at TF SW
  generalize p.pa.toNat = n at *
  generalize p.ar.toNat = a at *
  generalize Lv p = L at *
  have t1 := TF.1
  have T3 := Lib.hid TF.2.2
  have sL := SW.out L (Nat.le_refl _)
  have HM := Lib.hid hm
  have hm' : m < 100 := by omega
  clear TF sh hs hm
  go_enter Try.func52, Try.ntmps52
  go_wp2_with (first
    | (refine wpList_load_plan N.out.st.blk _ rfl rfl rfl ?_)
    | (go_at_call 15; refine (LV.out _).mono ?_; rintro e X1 ⟨rfl, hb⟩; have N1 := N.out.call hb; clear N hb))
  go_loopw [1, 9] (OfRel w p n a L m) (fun s i _ => L - (intOf i).toNat)
  case atStart => exact ⟨0, by omega, by rw [sw_zero]; omega, by rw [sw_zero]; rfl, rfl, N1⟩
  case round =>
    clear N1
    obtain ⟨k, hk, hkm, rfl, rfl, hst⟩ := hrel
    by_cases hlt : k < L
    · have WK := Lib.hid (WA.out k hlt)
      obtain ⟨y1, y2, -⟩ := T3.out k hlt
      have s1 := SW.out k (by omega)
      have ES := Lib.hid (sw_succ n a k)
      by_cases hin : m - sw n a k < wid n a k
      · have E := Lib.hid (itAt_eq (n := n) (a := a) (c := m) hlt hin (by omega))
        clear ES
        generalize hr : m - sw n a k = r at *
        generalize wid n a k = y at *
        generalize sw n a k = z at *
        go_wp2_with (first
          | (refine wpList_load_plan hst.st.blk _ rfl rfl rfl ?_)
          | (go_at_call 17; refine (WK.out _).mono ?_; rintro e X3 ⟨rfl, hb⟩; have hs3 := hst.call hb; clear hst hb)
          | (refine wpList_store_I (c := (k : Nat)) (d := (r : Nat)) hs3 _ _ rfl rfl rfl rfl ?_; intro X hX; clear hs3))
        exact bodyPost_ret (results_arr Try.results52 _ _ (w.heap.size + 1) rfl _ (item_loadV hX.it)) rfl ⟨by rw [E.out], hX.st.bel⟩
      · have hz2 : Hid (m - sw n a (k + 1) = m - sw n a k - wid n a k ∧ sw n a (k + 1) ≤ m) := by rw [ES.out]; exact ⟨by omega, by omega⟩
        clear ES
        generalize hr : m - sw n a k = r at *
        generalize hz' : sw n a (k + 1) = z' at *
        generalize wid n a k = y at *
        generalize sw n a k = z at *
        go_wp2_with (first
          | (refine wpList_load_plan hst.st.blk _ rfl rfl rfl ?_)
          | (go_at_call 17; refine (WK.out _).mono ?_; rintro e X3 ⟨rfl, hb⟩; have hs3 := hst.call hb; clear hst hb))
        go_roundw
        case rel => exact ⟨k + 1, by omega, by rw [hz']; exact hz2.out.2, by rw [hz', hz2.out.1]; go_num, by go_num, hs3⟩
        case measure => simp [intOf]; omega
    · exfalso
      have hk2 : k = L := by omega
      subst hk2
      have := HM.out
      omega
end Go.Proofs.Ytcbpnmcfiohndaa
