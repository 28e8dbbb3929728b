/- The document's list of all that stands in memory, the function. No statement is proved here. -/
import Derived.Test.YtcbpnmcfiohndaaParts1
import Derived.Test.YtcbpnmcfiohndaaRightWalk
import Derived.OwnWalk
namespace Go.Proofs.Ytcbpnmcfiohndaa
open Go.RowKit
set_option linter.unusedVariables false
set_option linter.unusedSimpArgs false

theorem grown_of_below {w w' : World} (h : Below w.heap.size w w') (row : Option Nat) : w.grownBy w' row := ⟨h.os, h.tape, h.output, h.size, fun i hi _ => h.block i hi⟩
theorem info66 : (Try.prog.info? 66).map (fun i => (i.zero, i.size, i.bytes)) = some (some (.agg #[.int .i64 0, .int .i64 0, .int .i64 0, .int .i64 0, .int .i64 0, .int .i64 0, .int .i64 0]), 7, 56) := by kernel_rfl
/-- A plan, and a row of parts in memory of its own. -/
structure QSt (w : World) (q : Pl) (A : Option Addr) (k c : Nat) (xs : List Pt) (W : World) : Prop where
  st : PSt w w.heap.size q W
  own : W.ownsRow (w.heap.size + 1) 66 7 (.slice A k c) k (pvs xs)
section
variable {w W W' : World} {q : Pl} {A : Option Addr} {k c : Nat} {xs : List Pt}
theorem QSt.call (h : QSt w q A k c xs W) (hb : Below W.heap.size W W') : QSt w q A k c xs W' :=
  ⟨h.st.call hb, h.own.kept (grown_of_below hb none) (by cases (Value.slice A k c).ownBlock <;> simp)⟩
theorem QSt.new (h : PSt w w.heap.size q W) : QSt w q (some ⟨W.heap.size, 0, none⟩) 0 0 [] (W.alloc (.cells #[] 66)) :=
  ⟨h.allocd _, World.ownsRow_lit W #[] 0 (by have := blk_lt h.blk; omega) (by unfold maxLen; omega) rfl⟩
theorem QSt.first (w : World) (q : Pl) : QSt w q (some ⟨w.heap.size + 1, 0, none⟩) 0 0 [] ((w.alloc (.cells q.arr 28)).alloc (.cells #[] 66)) := by
  have := QSt.new (PSt.new w q)
  simpa using this
theorem wpList_app {ops : Array Oper} {rest : List Oper} {o : Oper} {a : Act} {Q : Exit → Act → World → Prop} (h : QSt w q A k c xs W) (hgd : o.guard = none) (s x : Operand)
    (ho : o.op = .call { callee := .builtin .append, args := #[s, x], argTypes := #[63, 63] }) (hs : a.eval s = .slice A k c) {i0 i1 i2 i3 i4 i5 i6 : Int} (hx : a.eval x = .slice (some ⟨W.heap.size, 0, none⟩) 1 1) (hk : k < 1000)
    (kk : ∀ A' c' W', QSt w q A' (k + 1) c' (xs ++ [⟨⟨i0, i1, i2, i3, i4⟩, i5, i6⟩]) W' → wpList Try.prog ops Q rest (a.put o.dst (.slice A' (k + 1) c')) W') :
    wpList Try.prog ops Q (o :: rest) a (W.alloc (.cells #[.int .i64 i0, .int .i64 i1, .int .i64 i2, .int .i64 i3, .int .i64 i4, .int .i64 i5, .int .i64 i6] 66)) := by
  obtain ⟨j0, hi, hz0, hz1, hz2⟩ := info_parts info66
  have hlt := blk_lt h.st.blk
  have h2 : (W.alloc (.cells #[.int .i64 i0, .int .i64 i1, .int .i64 i2, .int .i64 i3, .int .i64 i4, .int .i64 i5, .int .i64 i6] 66)).ownsRow (w.heap.size + 1) 66 7 (.slice A k c) k (pvs xs) := h.own.kept (World.grownBy_alloc W _ none) (by cases (Value.slice A k c).ownBlock <;> simp)
  have hB := heap_alloc_new W (.cells #[.int .i64 i0, .int .i64 i1, .int .i64 i2, .int .i64 i3, .int .i64 i4, .int .i64 i5, .int .i64 i6] 66)
  have h3 := h.st.allocd (.cells #[.int .i64 i0, .int .i64 i1, .int .i64 i2, .int .i64 i3, .int .i64 i4, .int .i64 i5, .int .i64 i6] 66)
  generalize hg : W.heap.size = g at *
  generalize W.alloc (.cells #[.int .i64 i0, .int .i64 i1, .int .i64 i2, .int .i64 i3, .int .i64 i4, .int .i64 i5, .int .i64 i6] 66) = V at *
  have hb3 := h3.bel.size
  refine wpList_append_own_at V hgd s x 63 ho (w.heap.size + 1) 66 j0 _ 7 56 Try.underlying63 hi hz0 hz1 hz2 rfl (by decide) _ k (pvs xs) hs h2 ⟨g, 0, none⟩ 1 1 (Pt.cs ⟨⟨i0, i1, i2, i3, i4⟩, i5, i6⟩) hx rfl ?_ ?_ ?_ ?_ ?_ ?_
  · intro j u hu
    match j, hu with
    | 0, hu => injection hu with hu; subst hu; rw [Addr.add_lit, cell_of_row V g _ _ _ _ hB]; rfl
    | 1, hu => injection hu with hu; subst hu; rw [Addr.add_lit, cell_of_row V g _ _ _ _ hB]; rfl
    | 2, hu => injection hu with hu; subst hu; rw [Addr.add_lit, cell_of_row V g _ _ _ _ hB]; rfl
    | 3, hu => injection hu with hu; subst hu; rw [Addr.add_lit, cell_of_row V g _ _ _ _ hB]; rfl
    | 4, hu => injection hu with hu; subst hu; rw [Addr.add_lit, cell_of_row V g _ _ _ _ hB]; rfl
    | 5, hu => injection hu with hu; subst hu; rw [Addr.add_lit, cell_of_row V g _ _ _ _ hB]; rfl
    | 6, hu => injection hu with hu; subst hu; rw [Addr.add_lit, cell_of_row V g _ _ _ _ hB]; rfl
    | n + 7, hu => simp [Pt.cs] at hu
  · intro u hu
    simp only [Pt.cs, List.mem_cons, List.not_mem_nil, or_false] at hu
    rcases hu with rfl | rfl | rfl | rfl | rfl | rfl | rfl <;> rfl
  · unfold maxLen; omega
  · omega
  · have := blk_lt h3.blk; omega
  · intro v' W' ho' hg' _ hat
    have hlow : ∀ b, (Value.slice A k c).ownBlock = some b → w.heap.size + 1 ≤ b := fun b hb => by
      rcases h2.2 with ⟨hv, _⟩ | ⟨g2, cap, cur, hv, hg2, _⟩
      · rw [hv] at hb; cases hb
      · rw [hv] at hb; injection hb with hb; have : g2 = b := hb; omega
    have hst : PSt w w.heap.size q W' := by
      refine ⟨(hg'.block _ (blk_lt h3.blk) (fun e => ?_)).trans h3.blk, h3.bel.trans ⟨hg'.os, hg'.tape, hg'.output, hg'.size, fun i hi => hg'.block i (by omega) (fun e => ?_)⟩⟩
      · have := hlow _ e.symm; omega
      · have := hlow _ e.symm; omega
    rcases ho'.2 with ⟨hv, hn⟩ | ⟨g2, cap, cur, hv, _⟩
    · omega
    · subst hv
      refine kk _ _ _ ⟨hst, ?_⟩
      rw [pvs_append]
      have e : pvs [⟨⟨i0, i1, i2, i3, i4⟩, i5, i6⟩] = Pt.cs ⟨⟨i0, i1, i2, i3, i4⟩, i5, i6⟩ := by simp [pvs]
      rw [e]; exact ho'
end
def R1 (w : World) (q : Pl) (N : Nat) (s b i : Value) (wr : World) : Prop :=
  ∃ k A c, k ≤ N ∧ s = .slice A k c ∧ b = .int .i64 (32 * k : Nat) ∧ i = .int .i64 (k : Nat) ∧ QSt w q A k c (dP k) wr
def R2 (w : World) (q : Pl) (N : Nat) (s b i : Value) (wr : World) : Prop :=
  ∃ k A c, k ≤ N ∧ s = .slice A (N + k) c ∧ b = .int .i64 (32 * N + 8 * k : Nat) ∧ i = .int .i64 (k : Nat) ∧ QSt w q A (N + k) c (dP N ++ tP N k) wr
def R3 (w : World) (q : Pl) (N n a L : Nat) (s b i : Value) (wr : World) : Prop :=
  ∃ l A c, l ≤ L ∧ s = .slice A (N + N + sw n a l) c ∧ b = .int .i64 (40 * N + 32 * sw n a l : Nat) ∧ i = .int .i64 (l : Nat) ∧ QSt w q A (N + N + sw n a l) c (dP N ++ tP N N ++ iP N n a l) wr
def R4 (w : World) (q : Pl) (N z y l : Nat) (ys : List Pt) (s b i : Value) (wr : World) : Prop :=
  ∃ j A c, j ≤ y ∧ s = .slice A (N + N + z + j) c ∧ b = .int .i64 (40 * N + 32 * (z + j) : Nat) ∧ i = .int .i64 (j : Nat) ∧ QSt w q A (N + N + z + j) c (ys ++ lP N z l j) wr
attribute [local irreducible] shaped Ls Lv Wd Al right bounded fitP sw wid hasI hasL itAt dP tP lP iP pts pvs
theorem R4.mk' {w : World} {q : Pl} {N z y l : Nat} {ys : List Pt} {s b i : Value} {wr : World} (j : Nat) (A : Option Addr) (c : Nat) (h1 : j ≤ y) (h2 : s = .slice A (N + N + z + j) c) (h3 : b = .int .i64 (40 * N + 32 * (z + j) : Nat)) (h4 : i = .int .i64 (j : Nat)) (h5 : QSt w q A (N + N + z + j) c (ys ++ lP N z l j) wr) : R4 w q N z y l ys s b i wr := ⟨j, A, c, h1, h2, h3, h4, h5⟩
set_option maxHeartbeats 4000000 in
set_option maxRecDepth 20000 in
theorem parts_any (q : Pl) (w : World) : Calls Try.prog 48 #[.agg q.arr] w fun e w' => ∃ A n c, n = (pts q).length ∧ e = .returned (.slice A n c) ∧ w'.ownsRow (w.heap.size + 1) 66 7 (.slice A n c) n (pvs (pts q)) ∧ Below w.heap.size w w' := by
  have N := Lib.hid (PSt.new w q)
  have RT := Lib.hid (fun W => refRight_any q W)
  cases hq : right q
  · have E : Hid (pts q = []) := by unfold pts; rw [hq]; exact rfl
    rw [E.out]
    rw [hq] at RT
    clear E hq
    have N := Lib.hid (QSt.first w q)
    go_enter Try.func48, Try.ntmps48
    go_wp2_with (first
      | (refine wpList_load_plan N.out.st.blk _ rfl rfl rfl ?_)
      | (go_at_call 14; refine (RT.out _).mono ?_; rintro e X1 ⟨rfl, hb⟩; have h1 := N.out.call hb; clear N hb))
    go_ret
    exact ⟨_, 0, _, rfl, rfl, h1.own, h1.st.bel⟩
  · have E : Hid (pts q = dP (Al q).toNat ++ tP (Al q).toNat (Al q).toNat ++ iP (Al q).toNat q.pa.toNat q.ar.toNat (Lv q)) := by unfold pts; rw [hq]; exact rfl
    have EL := Lib.hid (pts_length hq)
    rw [hq] at RT
    have hs := (right_facts hq).2.1
    have sh := sh_of hs
    obtain ⟨a0, a1⟩ := Al_bounds q
    have hAl : Hid (IntKind.i64.wrap (q.pa * q.li) = Al q) := by
      have e : Al q = q.pa * q.li := by unfold Al; rw [if_pos hs]
      rw [← e]; exact IntWalk.i64_in _ (by omega)
    have WA : Hid (∀ k : Nat, k < Lv q → ∀ W, Calls Try.prog 18 #[.agg q.arr, .int .i64 (k : Nat)] W fun e w' => e = .returned (.int .i64 (wid q.pa.toNat q.ar.toNat k : Nat)) ∧ Below W.heap.size W w') := fun k hk W => by rw [← Wd_at q k hk]; exact refWidth_any q k W
    have LV := Lib.hid (fun W => refLevels_any q W)
    have SW := Lib.hid (fun k (hk : k ≤ Lv q) => sw_le sh.n1 sh.n2 sh.a1 sh.a2 k (by rw [← sh.lv hs]; exact hk))
    have TF := tree_facts sh.n1 sh.n2 sh.a1 sh.a2
    rw [← sh.lv hs] at TF
    generalize hpt : pts q = ps at *
    generalize q.pa.toNat = n at *
    generalize q.ar.toNat = a at *
    generalize Lv q = L at *
    obtain ⟨M, hM⟩ : ∃ M : Nat, Al q = (M : Int) := ⟨(Al q).toNat, by omega⟩
    rw [hM] at hAl a1 E EL
    rw [show ((M : Nat) : Int).toNat = M by omega] at E EL
    have m128 : M ≤ 128 := by omega
    have t1 := TF.1
    have T3 := Lib.hid TF.2.2
    clear TF sh hs hM a0 a1 hq N hpt
    have N := Lib.hid (QSt.first w q)
    have w1 := hAl.out
    generalize hpa : q.pa = pa at *
    generalize hli : q.li = li at *
    have C2 : Hid (∀ (V : World), PBlk V w.heap.size q → V.cell? ⟨w.heap.size, 2, none⟩ = some (.int .i64 pa)) := fun V h => by rw [← hpa]; exact h.c2
    have C3 : Hid (∀ (V : World), PBlk V w.heap.size q → V.cell? ⟨w.heap.size, 3, none⟩ = some (.int .i64 li)) := fun V h => by rw [← hli]; exact h.c3
    clear hpa hli hAl
    go_enter Try.func48, Try.ntmps48
    go_wp2_with (first
      | (refine wpList_load_plan N.out.st.blk _ rfl rfl rfl ?_)
      | (go_at_call 14; refine (RT.out _).mono ?_; rintro e X1 ⟨rfl, hb⟩; have h1 := N.out.call hb; clear N hb))
    go_loopw [3, 4, 5] (R1 w q M) (fun s b i _ => M - (intOf i).toNat)
    case atStart => exact ⟨0, _, _, by omega, rfl, rfl, rfl, by rw [dP_zero]; exact h1⟩
    case round =>
      clear h1
      obtain ⟨k, A, c, hk, rfl, rfl, rfl, hst⟩ := hrel
      have c2 := C2.out _ hst.st.blk
      have c3 := C3.out _ hst.st.blk
      by_cases hlt : k < M
      · have g1 : ((k : Int) < (M : Int)) = True := eq_true (by omega)
        have ES := Lib.hid (dP_succ k)
        go_wp2_with (first
          | (refine wpList_app hst rfl _ _ rfl rfl rfl (by omega) ?_; clear hst c2 c3; intro A2 k2 X2 h2))
        go_roundw
        case rel => exact ⟨k + 1, A2, k2, by omega, rfl, by go_num, by go_num, by rw [ES.out]; exact h2⟩
        case measure => simp [intOf]; omega
      · have hk2 : k = M := by omega
        have g1 : ((k : Int) < (M : Int)) = False := eq_false (by omega)
        go_wp2
        go_loopw [3, 4, 6] (R2 w q M) (fun s b i _ => M - (intOf i).toNat)
        case atStart => exact ⟨0, _, _, by omega, by rw [hk2]; rfl, by rw [hk2]; rfl, rfl, by rw [tP_zero, List.append_nil, ← hk2]; exact hst⟩
        case round =>
          clear hst hk2 hk hlt c2 c3
          obtain ⟨k, A, c, hk, rfl, rfl, rfl, hst⟩ := hrel
          have c2 := C2.out _ hst.st.blk
          have c3 := C3.out _ hst.st.blk
          by_cases hlt : k < M
          · have g1 : ((k : Int) < (M : Int)) = True := eq_true (by omega)
            have ES := Lib.hid (tP_succ M k)
            go_wp2_with (first
              | (refine wpList_app hst rfl _ _ rfl rfl rfl (by omega) ?_; clear hst c2 c3; intro A2 k2 X2 h2))
            go_roundw
            case rel => exact ⟨k + 1, A2, k2, by omega, rfl, by go_num, by go_num, by rw [ES.out, ← List.append_assoc]; exact h2⟩
            case measure => simp [intOf]; omega
          · have hk2 : k = M := by omega
            have g1 : ((k : Int) < (M : Int)) = False := eq_false (by omega)
            go_wp2
            go_loopw [3, 4, 7] (R3 w q M n a L) (fun s b i _ => L - (intOf i).toNat)
            case atStart => exact ⟨0, _, _, by omega, by rw [hk2, sw_zero]; rfl, by rw [hk2, sw_zero]; go_num, rfl, by rw [sw_zero, iP_zero, List.append_nil, Nat.add_zero]; rw [hk2] at hst; exact hst⟩
            case round =>
              clear hst hk2 hk hlt c2 c3
              obtain ⟨l, A, c, hl, rfl, rfl, rfl, hst⟩ := hrel
              by_cases hlt : l < L
              · have g1 : ((l : Int) < (L : Int)) = True := eq_true (by omega)
                have WK := Lib.hid (WA.out l hlt)
                have s0 := SW.out l (by omega)
                obtain ⟨y1, y2, -⟩ := T3.out l hlt
                have EI := Lib.hid (iP_succ M n a l)
                have ES := Lib.hid (sw_succ n a l)
                generalize iP M n a l = ip0 at *
                generalize hdt : dP M ++ tP M M = dt at *
                replace hdt := Lib.hid hdt
                generalize sw n a l = z at *
                generalize wid n a l = y at *
                go_wp2_with (first
                  | (refine wpList_load_plan hst.st.blk _ rfl rfl rfl ?_)
                  | (go_at_call 16; refine (LV.out _).mono ?_; rintro e X2 ⟨rfl, hb⟩; have h2 := hst.call hb; clear hst hb))
                go_loopw [3, 4, 8] (R4 w q M z y l (dt ++ ip0)) (fun s b i _ => y - (intOf i).toNat)
                case atStart => exact R4.mk' 0 _ _ (by omega) rfl (by go_num) rfl (by rw [lP_zero, List.append_nil]; exact h2)
                case round =>
                  clear h2
                  obtain ⟨j, A, c, hj, rfl, rfl, rfl, hst⟩ := hrel
                  by_cases hjy : j < y
                  · have g2 : ((j : Int) < (y : Int)) = True := eq_true (by omega)
                    have EJ := Lib.hid (lP_succ M z l j)
                    go_wp2_with (first
                      | (refine wpList_load_plan hst.st.blk _ rfl rfl rfl ?_)
                      | (go_at_call 18; refine (WK.out _).mono ?_; rintro e X3 ⟨rfl, hb⟩; have h3 := hst.call hb; clear hst hb)
                      | (refine wpList_app h3 rfl _ _ rfl rfl rfl (by omega) ?_; clear h3; intro A2 k2 X4 h4))
                    go_roundw
                    case rel => exact R4.mk' (j + 1) A2 k2 (by omega) rfl (by go_num) (by go_num) (by rw [EJ.out, ← List.append_assoc]; exact h4)
                    case measure => simp [intOf]; omega
                  · have hj2 : j = y := by omega
                    have g2 : ((j : Int) < (y : Int)) = False := eq_false (by omega)
                    go_wp2_with (first
                      | (refine wpList_load_plan hst.st.blk _ rfl rfl rfl ?_)
                      | (go_at_call 18; refine (WK.out _).mono ?_; rintro e X3 ⟨rfl, hb⟩; have h3 := hst.call hb; clear hst hb))
                    go_roundw
                    case rel => exact ⟨l + 1, A, c, by omega, by rw [ES.out, ← Nat.add_assoc], by rw [ES.out]; go_num, by go_num, by rw [hdt.out, EI.out, ES.out, ← List.append_assoc, ← Nat.add_assoc]; rw [hj2] at h3; exact h3⟩
                    case measure => simp [intOf]; omega
              · have hl2 : l = L := by omega
                have g1 : ((l : Int) < (L : Int)) = False := eq_false (by omega)
                go_wp2_with (first
                  | (refine wpList_load_plan hst.st.blk _ rfl rfl rfl ?_)
                  | (go_at_call 16; refine (LV.out _).mono ?_; rintro e X2 ⟨rfl, hb⟩; have h2 := hst.call hb; clear hst hb))
                go_ret
                rw [hl2] at h2
                exact ⟨_, _, _, EL.out.symm, rfl, by rw [E.out]; exact h2.own, h2.st.bel⟩
end Go.Proofs.Ytcbpnmcfiohndaa
