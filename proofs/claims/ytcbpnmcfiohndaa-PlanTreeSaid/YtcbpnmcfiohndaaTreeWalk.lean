/- The law of a plan's tree. No statement is proved here. -/
import Derived.Test.YtcbpnmcfiohndaaRoomWalk
import Derived.Maps.OwnSet
import Derived.Maps.Views
namespace Go.Proofs.Ytcbpnmcfiohndaa
open Go.RowKit Go.Maps
set_option linter.unusedVariables false
set_option linter.unusedSimpArgs false

/-- Block b is a map with just the keys below c, at most n of them ever put. -/
def TMap (V : World) (b n c : Nat) : Prop :=
  ∃ D : DataW Unit, V.ownsMap Try.prog 3 (plainElem Try.prog 3) b n D ∧ Tidy D ∧ Maps.size D = c ∧ ∀ j : Nat, Maps.has D (.int .i64 (j : Int)) = decide (j < c)
section
variable {V V2 : World} {b n c : Nat}
theorem TMap.lt (h : TMap V b n c) : b < V.heap.size := by obtain ⟨D, h1, _⟩ := h; exact h1.lt
theorem TMap.below (h : TMap V b n c) (hb : Below V.heap.size V V2) : TMap V2 b n c := by
  obtain ⟨D, h1, h2⟩ := h
  exact ⟨D, h1.kept (row := none) ⟨hb.os, hb.tape, hb.output, hb.size, fun i hi _ => hb.block i hi⟩ (by simp), h2⟩
theorem TMap.made (V : World) : TMap (V.alloc (.map #[] 0)) V.heap.size 0 0 := ⟨.map [], World.ownsMap_made V Try.prog 3 _, tidy_empty, rfl, fun j => by simp [Maps.has_eq]⟩
theorem TMap.len (h : TMap V b n c) (ty : TypeId) : (Builtin.len_ #[37] ty #[.map (some b)]).run Try.prog V = .ok (.int .i64 (c : Nat)) V := by
  obtain ⟨D, h1, _, h3, _⟩ := h
  rw [h1.len Try.underlying37 ty, h3]
theorem key_int (q : Nat) (hq : q < 1000) : keyOf Try.prog 3 (.int .i64 (q : Int)) = some (.int .i64 (q : Int)) :=
  keyOf_int_mk Try.underlying3 (by simp [Lit.wf, IntKind.min, IntKind.max, IntKind.bits, IntKind.signed]; omega)
theorem TMap.put (h : TMap V b n c) {q : Nat} (hq : q < 1000) (hqc : q ≤ c) (D : DataW Unit) (hD : V.ownsMap Try.prog 3 (plainElem Try.prog 3) b n D) (h2 : Tidy D) (h3 : Maps.size D = c) (h4 : ∀ j : Nat, Maps.has D (.int .i64 (j : Int)) = decide (j < c))
    (W : World) (hW : W.ownsMap Try.prog 3 (plainElem Try.prog 3) b (n + 1) (D.put (.int .i64 (q : Int)) (.lit (.int .i64 1)))) : TMap W b (n + 1) (if q < c then c else c + 1) := by
  refine ⟨_, hW, h2.put (show WideAt.IsKeyLit (.int .i64 (q : Int)) from trivial) _, ?_, fun j => ?_⟩
  · rw [size_put h2, h4 q, h3]
    by_cases hc : q < c
    · simp [hc]
    · simp [hc]
  · by_cases e : j = q
    · subst e
      rw [has_put_same h2.isMap (show WideAt.IsKeyLit (.int .i64 (j : Int)) from trivial)]
      by_cases hc : j < c
      · simp [hc]
      · simp [hc]; omega
    · rw [has_put_other (fun h => e (by injection h with _ h; exact_mod_cast h)), h4 j]
      by_cases hc : q < c
      · simp [hc]
      · simp [hc]; omega
end
theorem wpList_mark {ops : Array Oper} {rest : List Oper} {o : Oper} {a : Act} {Q : Exit → Act → World → Prop} {V : World} {b n c q : Nat} (h : TMap V b n c) (hn : n < 1000) (hq : q < 1000) (hqc : q ≤ c) (hg : o.guard = none) (m x v : Operand) (hop : o.op = Op.mapUpdate 37 m x v)
    (hm : a.eval m = .map (some b)) (hx : a.eval x = .int .i64 (q : Nat)) (hv : a.eval v = .int .i64 1)
    (k : ∀ W, TMap W b (n + 1) (if q < c then c else c + 1) → V.grownBy W (some b) → wpList Try.prog ops Q rest (a.put o.dst undef) W) : wpList Try.prog ops Q (o :: rest) a V := by
  obtain ⟨D, h1, h2, h3, h4⟩ := h
  refine wpList_mapUpdate_own (H := Unit) V hg m x v 37 hop 3 3 (int_keyed Try.underlying3) Try.underlying37 (plainElem Try.prog 3) b n D hm h1 (by unfold maxLen; omega) _ _ _ hx hv (key_int q hq) (.lit (.int .i64 1)) [] (plainElem_int Try.underlying3 (by decide)) (fun W hW hgr => ?_)
  exact k W (TMap.put ⟨D, h1, h2, h3, h4⟩ hq hqc D h1 h2 h3 h4 W hW) hgr
theorem step_fin : ∀ j : Fin 16, ∀ a : Fin 3, (j : Nat) / (a + 2) ≤ up (a + 2) j ∧ (if (j : Nat) / (a + 2) < up (a + 2) j then up (a + 2) j else up (a + 2) j + 1) = up (a + 2) (j + 1) := by decide +kernel
theorem step_up {j a : Nat} (h : j < 16) (h3 : 2 ≤ a) (h4 : a ≤ 4) : j / a ≤ up a j ∧ (if j / a < up a j then up a j else up a j + 1) = up a (j + 1) := by
  have := step_fin ⟨j, h⟩ ⟨a - 2, by omega⟩
  simp only [show a - 2 + 2 = a by omega] at this
  exact this
theorem up_zero {a : Nat} (h3 : 2 ≤ a) (h4 : a ≤ 4) : up a 0 = 0 := by
  unfold up; exact Nat.div_eq_of_lt (by omega)
structure MSt (w : World) (q : Pl) (m n c : Nat) (W : World) : Prop where
  st : PSt w w.heap.size q W
  mp : TMap W m n c
  lo : w.heap.size < m
theorem MSt.call {w W W' : World} {q : Pl} {m n c : Nat} (h : MSt w q m n c W) (hb : Below W.heap.size W W') : MSt w q m n c W' := ⟨h.st.call hb, h.mp.below hb, h.lo⟩
theorem MSt.put {w W W' : World} {q : Pl} {m n c n' c' : Nat} (h : MSt w q m n c W) (hT : TMap W' m n' c') (hg : W.grownBy W' (some m)) : MSt w q m n' c' W' := by
  have lo := h.lo
  refine ⟨⟨(hg.block _ h.st.blk.lt (by simp; omega)).trans h.st.blk, ?_⟩, hT, h.lo⟩
  exact h.st.bel.trans ⟨hg.os, hg.tape, hg.output, hg.size, fun k hk => hg.block k (Nat.lt_of_lt_of_le hk h.st.bel.size) (by simp; omega)⟩
def OutRel (w : World) (q : Pl) (L : Nat) (s : Value) (wr : World) : Prop :=
  ∃ k, 1 ≤ k ∧ k ≤ L ∧ s = .int .i64 (k : Nat) ∧ PSt w w.heap.size q wr
def InRel (w : World) (q : Pl) (m a wk : Nat) (s : Value) (wr : World) : Prop :=
  ∃ j, j ≤ wk ∧ s = .int .i64 (j : Nat) ∧ MSt w q m j (up a j) wr
attribute [local irreducible] shaped Ls Lv Wd Al right bounded fitP up
set_option maxHeartbeats 4000000 in
set_option maxRecDepth 20000 in
theorem tree_any (p : Pl) (w : World) : Calls Try.prog 5 #[.agg p.arr] w fun e w' => e = .returned (.bool true) ∧ Below w.heap.size w w' := by
  have SP := Lib.hid (fun W => speaks5_true W)
  have FT := Lib.hid (fun W => fit_any p W)
  have N := Lib.hid (PSt.new w p)
  obtain ⟨-, hs, -, -⟩ := right_facts (fit_right p)
  generalize fitP p = q at *
  have LV := Lib.hid (fun W => levels_any q W)
  have sh := sh_of hs
  have c2 := sh.pa
  have c4 := sh.ar
  have n1 := sh.n1
  have n2 := sh.n2
  have a1 := sh.a1
  have a2 := sh.a2
  have WA : Hid (∀ k : Nat, k < Lv q → ∀ W, Calls Try.prog 17 #[.agg q.arr, .int .i64 (k : Nat)] W fun e w' => e = .returned (.int .i64 (wid q.pa.toNat q.ar.toNat k : Nat)) ∧ Below W.heap.size W w') := fun k hk W => by rw [← Wd_at q k hk]; exact width_any q k W
  have TF := tree_facts sh.n1 sh.n2 sh.a1 sh.a2
  rw [← sh.lv hs] at TF
  generalize q.pa.toNat = n at *
  generalize q.ar.toNat = a at *
  generalize Lv q = L at *
  have t1 := TF.1
  have t2 := TF.2.1
  have T3 := Lib.hid TF.2.2
  clear TF sh hs
  have W0 : Hid (∀ W, Calls Try.prog 17 #[.agg q.arr, .int .i64 0] W fun e w' => e = .returned (.int .i64 (n : Nat)) ∧ Below W.heap.size W w') := fun W => WA.out 0 (by omega) W
  have WL : Hid (∀ W, Calls Try.prog 17 #[.agg q.arr, .int .i64 ((L : Int) - 1)] W fun e w' => e = .returned (.int .i64 1) ∧ Below W.heap.size W w') := fun W => by
    have h := WA.out (L - 1) (by omega) W
    obtain ⟨y1, y2, y3⟩ := T3.out (L - 1) (by omega)
    have e : wid n a (L - 1) = 1 := by
      have : ¬ (L - 1 + 1 < L) := by omega
      have := fun x => this (y3.1 x)
      omega
    rw [e, show ((L - 1 : Nat) : Int) = (L : Int) - 1 by omega] at h
    exact h
  have da : (a : Int) ≠ 0 := by omega
  have hmm := @run_makeMap Try.prog
  go_enter Try.func5, Try.ntmps5
  go_wp2_with (first
    | (go_at_call 12; refine (SP.out _).mono ?_; rintro e X0 ⟨rfl, hb⟩; have h1 := N.out.call hb; clear N hb)
    | (refine wpList_load_plan h1.blk _ rfl rfl rfl ?_)
    | (go_at_call 23; refine (FT.out _).mono ?_; rintro e X1 ⟨rfl, hb⟩; have h2 := h1.call hb; clear h1 hb)
    | (refine wpList_newP h2 (Nat.le_refl _) _ _ rfl rfl rfl _ rfl rfl ?_; clear h2; intro X2 h3)
    | (refine wpList_load_plan h3.blk _ rfl rfl rfl ?_)
    | (go_at_call 15; refine (LV.out _).mono ?_; rintro e X3 ⟨rfl, hb⟩; have h4 := h3.call hb; clear h3 hb))
  go_loopw [4] (OutRel w q L) (fun s _ => L - (intOf s).toNat)
  case atStart => exact ⟨1, by omega, t2, rfl, h4⟩
  case round =>
    clear h4
    obtain ⟨k, hk1, hkL, rfl, hst⟩ := hrel
    by_cases hlt : k < L
    · have WB := Lib.hid (WA.out (k - 1) (by omega))
      have WK := Lib.hid (WA.out k hlt)
      obtain ⟨y1, y2, -⟩ := T3.out (k - 1) (by omega)
      have EW : Hid (wid n a k = up a (wid n a (k - 1))) := by obtain ⟨j, rfl⟩ : ∃ j, k = j + 1 := ⟨k - 1, by omega⟩; exact rfl
      generalize wid n a (k - 1) = wk at *
      generalize wid n a k = wk2 at *
      have ek : (k : Int) - 1 = ((k - 1 : Nat) : Int) := by omega
      generalize k - 1 = km at *
      have HM0 := Lib.hid (show MSt w q wr.heap.size 0 0 (wr.alloc (.map #[] 0)) from ⟨⟨hst.blk.alloc _, hst.bel.alloc hst.bel.size _⟩, TMap.made wr, hst.blk.lt⟩)
      clear hst
      go_wp2
      go_loopw [6] (InRel w q wr.heap.size a wk) (fun s _ => wk - (intOf s).toNat)
      case atStart => exact ⟨0, by omega, rfl, by rw [up_zero a1 a2]; exact HM0.out⟩
      case round =>
        clear HM0
        obtain ⟨j, hj, rfl, hms⟩ := hrel
        by_cases hjl : j < wk
        · obtain ⟨s1, s2⟩ := step_up (show j < 16 by omega) a1 a2
          have S2 := Lib.hid s2
          have qd : (j : Int) / (a : Int) = ((j / a : Nat) : Int) := Int.ofNat_ediv_ofNat
          have qle : j / a ≤ j := Nat.div_le_self _ _
          clear s2
          generalize hup : up a (j + 1) = u2' at *
          generalize up a j = u1 at *
          generalize j / a = jq at *
          go_wp2_with (first
            | (refine wpList_load_plan hms.st.blk _ rfl rfl rfl ?_)
            | (go_at_call 17; refine (WB.out _).mono ?_; rintro e Y1 ⟨rfl, hb⟩; have hm2 := hms.call hb; have d4 := hm2.st.blk.c4; rw [c4] at d4; clear hms hb)
            | (refine wpList_mark hm2.mp (by omega) (by omega) s1 rfl _ _ _ rfl rfl rfl rfl ?_; intro Y2 hT hg; have hm3 := hm2.put hT hg; clear hT hg hm2 d4))
          go_roundw
          case rel => exact ⟨j + 1, by omega, by go_num, by rw [hup, ← S2.out]; exact hm3⟩
          case measure => simp [intOf]; omega
        · have ej : j = wk := by omega
          rw [ej] at hms
          rw [← EW.out] at hms
          have g1 : ((j : Int) < (wk : Int)) = False := eq_false (by omega)
          have g2 : (j < wk) = False := eq_false (by omega)
          clear ej
          go_wp2_with (first
            | (refine wpList_load_plan hms.st.blk _ rfl rfl rfl ?_)
            | (refine wpList_load_plan hm2.st.blk _ rfl rfl rfl ?_)
            | (go_at_call 17; have _ := hms; refine (WB.out _).mono ?_; rintro e Y1 ⟨rfl, hb⟩; have hm2 := hms.call hb; have lm := hm2.mp.len 3; clear hms hb)
            | (go_at_call 17; have _ := hm2; refine (WK.out _).mono ?_; rintro e Y2 ⟨rfl, hb⟩; have hm3 := hm2.call hb; clear hm2 lm hb))
          go_roundw
          case rel => exact ⟨k + 1, by omega, by omega, by go_num, hm3.st⟩
          case measure => simp [intOf]; omega
    · have g1 : ((k : Int) < (L : Int)) = False := eq_false (by omega)
      have g2 : (k < L) = False := eq_false hlt
      have g3 : ((1 : Int) ≤ (L : Int)) = True := eq_true (by omega)
      have g4 : ((L : Int) ≤ 5) = True := eq_true (by omega)
      have g5 : (1 ≤ L) = True := eq_true t2
      have g6 : (L ≤ 5) = True := eq_true t1
      have w1 : IntKind.i64.wrap ((L : Int) - 1) = (L : Int) - 1 := IntWalk.i64_in _ (by omega)
      go_wp2
      have H0 := Lib.hid hst.drew
      clear hst
      refine wp_region_held_drew (S := fun W => PSt w w.heap.size q W) (by kernel_rfl) H0.out (fun _ => ?_)
      generalize wr.drew = V0 at *
      refine wpAnyH_take (i := 0) (v := .int .i64 (L : Nat)) rfl (by kernel_rfl) (by kernel_rfl) (by kernel_rfl) (fun _ _ _ h => h) (Or.inl ⟨by rfl, fun W hW => by clear hW; go_simp⟩) H0.out ?_
      try simp only [Act.put, List.getElem_toArray, List.getElem_cons_succ, List.getElem_cons_zero, List.setIfInBounds_toArray, List.set_cons_zero, List.set_cons_succ]
      refine wpAnyH_take (i := 1) (v := .bool true) rfl (by kernel_rfl) (by kernel_rfl) (by kernel_rfl) (fun _ _ _ h => h) (Or.inl ⟨by rfl, fun W hW => by clear hW; go_simp⟩) H0.out ?_
      try simp only [Act.put, List.getElem_toArray, List.getElem_cons_succ, List.getElem_cons_zero, List.setIfInBounds_toArray, List.set_cons_zero, List.set_cons_succ]
      refine wpAnyH_take (i := 2) (v := .bool true) rfl (by kernel_rfl) (by kernel_rfl) (by kernel_rfl) (fun _ _ _ h => h) (Or.inl ⟨by rfl, fun W hW => by clear hW; go_simp⟩) H0.out ?_
      try simp only [Act.put, List.getElem_toArray, List.getElem_cons_succ, List.getElem_cons_zero, List.setIfInBounds_toArray, List.set_cons_zero, List.set_cons_succ]
      refine wpAnyH_take (i := 3) (v := .int .i64 (L : Nat)) rfl (by kernel_rfl) (by kernel_rfl) (by kernel_rfl) (fun _ _ _ h => h) (Or.inl ⟨by rfl, fun W hW => by clear hW; go_simp⟩) H0.out ?_
      try simp only [Act.put, List.getElem_toArray, List.getElem_cons_succ, List.getElem_cons_zero, List.setIfInBounds_toArray, List.set_cons_zero, List.set_cons_succ]
      refine wpAnyH_take (i := 4) (v := .bool true) rfl (by kernel_rfl) (by kernel_rfl) (by kernel_rfl) (fun _ _ _ h => h) (Or.inl ⟨by rfl, fun W hW => by clear hW; go_simp⟩) H0.out ?_
      try simp only [Act.put, List.getElem_toArray, List.getElem_cons_succ, List.getElem_cons_zero, List.setIfInBounds_toArray, List.set_cons_zero, List.set_cons_succ]
      refine wpAnyH_take (i := 5) (v := .bool true) rfl (by kernel_rfl) (by kernel_rfl) (by kernel_rfl) (fun _ _ _ h => h) (Or.inl ⟨by rfl, fun W hW => by clear hW; go_simp⟩) H0.out ?_
      try simp only [Act.put, List.getElem_toArray, List.getElem_cons_succ, List.getElem_cons_zero, List.setIfInBounds_toArray, List.set_cons_zero, List.set_cons_succ]
      refine wpAnyH_take (i := 6) (v := .bool true) rfl (by kernel_rfl) (by kernel_rfl) (by kernel_rfl) (fun _ _ _ h => h) (Or.inl ⟨by rfl, fun W hW => by clear hW; go_simp⟩) H0.out ?_
      try simp only [Act.put, List.getElem_toArray, List.getElem_cons_succ, List.getElem_cons_zero, List.setIfInBounds_toArray, List.set_cons_zero, List.set_cons_succ]
      refine wpAnyH_take (i := 7) (v := .agg q.arr) rfl (by kernel_rfl) (by kernel_rfl) (by kernel_rfl) (fun _ _ _ h => h) (yields_plan _ rfl (by rfl) rfl (fun W hW => hW.blk)) H0.out ?_
      try simp only [Act.put, List.getElem_toArray, List.getElem_cons_succ, List.getElem_cons_zero, List.setIfInBounds_toArray, List.set_cons_zero, List.set_cons_succ]
      refine wpAnyH_take (i := 8) (v := .int .i64 (L : Nat)) rfl (by kernel_rfl) (by kernel_rfl) (by kernel_rfl) (fun _ _ _ h => h) (Or.inl ⟨by rfl, fun W hW => by clear hW; go_simp⟩) H0.out ?_
      try simp only [Act.put, List.getElem_toArray, List.getElem_cons_succ, List.getElem_cons_zero, List.setIfInBounds_toArray, List.set_cons_zero, List.set_cons_succ]
      refine wpAnyH_take (i := 9) (v := .int .i64 ((L : Int) - 1)) rfl (by kernel_rfl) (by kernel_rfl) (by kernel_rfl) (fun _ _ _ h => h) (Or.inl ⟨by rfl, fun W hW => by clear hW; go_simp⟩) H0.out ?_
      try simp only [Act.put, List.getElem_toArray, List.getElem_cons_succ, List.getElem_cons_zero, List.setIfInBounds_toArray, List.set_cons_zero, List.set_cons_succ]
      refine wpAnyH_ready (rs := [10]) (by kernel_rfl) (by simp) ?_
      refine AllReadyH.cons rfl (fun K hK => ?_) AllReadyH.nil
      go_simp
      go_at_call 17
      refine (WL.out _).mono ?_
      rintro e V1_ ⟨rfl, hb1_⟩
      have H1_ := Lib.hid (H0.out.call hb1_)
      clear hb1_
      refine hK.out _ _ H1_.out (fun _ => ?_)
      clear hK K
      try simp only [Act.put, List.getElem_toArray, List.getElem_cons_succ, List.getElem_cons_zero, List.setIfInBounds_toArray, List.set_cons_zero, List.set_cons_succ]
      refine wpAnyH_take (i := 11) (v := .bool true) rfl (by kernel_rfl) (by kernel_rfl) (by kernel_rfl) (fun _ _ _ h => h) (Or.inl ⟨by rfl, fun W hW => by clear hW; go_simp⟩) H1_.out ?_
      try simp only [Act.put, List.getElem_toArray, List.getElem_cons_succ, List.getElem_cons_zero, List.setIfInBounds_toArray, List.set_cons_zero, List.set_cons_succ]
      refine wpAnyH_take (i := 12) (v := .bool true) rfl (by kernel_rfl) (by kernel_rfl) (by kernel_rfl) (fun _ _ _ h => h) (Or.inl ⟨by rfl, fun W hW => by clear hW; go_simp⟩) H1_.out ?_
      try simp only [Act.put, List.getElem_toArray, List.getElem_cons_succ, List.getElem_cons_zero, List.setIfInBounds_toArray, List.set_cons_zero, List.set_cons_succ]
      refine wpAnyH_take (i := 13) (v := .bool true) rfl (by kernel_rfl) (by kernel_rfl) (by kernel_rfl) (fun _ _ _ h => h) (Or.inl ⟨by rfl, fun W hW => by clear hW; go_simp⟩) H1_.out ?_
      try simp only [Act.put, List.getElem_toArray, List.getElem_cons_succ, List.getElem_cons_zero, List.setIfInBounds_toArray, List.set_cons_zero, List.set_cons_succ]
      refine wpAnyH_take (i := 14) (v := .agg q.arr) rfl (by kernel_rfl) (by kernel_rfl) (by kernel_rfl) (fun _ _ _ h => h) (yields_plan _ rfl (by rfl) rfl (fun W hW => hW.blk)) H1_.out ?_
      try simp only [Act.put, List.getElem_toArray, List.getElem_cons_succ, List.getElem_cons_zero, List.setIfInBounds_toArray, List.set_cons_zero, List.set_cons_succ]
      refine wpAnyH_take (i := 16) (v := .pointer (some ⟨w.heap.size, 2, none⟩)) rfl (by kernel_rfl) (by kernel_rfl) (by kernel_rfl) (fun _ _ _ h => h) (Or.inl ⟨by rfl, fun W hW => by clear hW; go_simp⟩) H1_.out ?_
      try simp only [Act.put, List.getElem_toArray, List.getElem_cons_succ, List.getElem_cons_zero, List.setIfInBounds_toArray, List.set_cons_zero, List.set_cons_succ]
      refine wpAnyH_take (i := 17) (v := .int .i64 (n : Nat)) rfl (by kernel_rfl) (by kernel_rfl) (by kernel_rfl) (fun _ _ _ h => h) (Or.inl ⟨by rfl, fun W hW => by have hc := hW.blk.c2.trans (congrArg (fun z => some (Value.int .i64 z)) c2); clear hW; go_simp⟩) H1_.out ?_
      try simp only [Act.put, List.getElem_toArray, List.getElem_cons_succ, List.getElem_cons_zero, List.setIfInBounds_toArray, List.set_cons_zero, List.set_cons_succ]
      refine wpAnyH_ready (rs := [15]) (by kernel_rfl) (by simp) ?_
      refine AllReadyH.cons rfl (fun K hK => ?_) AllReadyH.nil
      go_simp
      go_at_call 17
      refine (W0.out _).mono ?_
      rintro e V2_ ⟨rfl, hb2_⟩
      have H2_ := Lib.hid (H1_.out.call hb2_)
      clear hb2_
      refine hK.out _ _ H2_.out (fun _ => ?_)
      clear hK K
      try simp only [Act.put, List.getElem_toArray, List.getElem_cons_succ, List.getElem_cons_zero, List.setIfInBounds_toArray, List.set_cons_zero, List.set_cons_succ]
      refine wpAnyH_take (i := 18) (v := .bool true) rfl (by kernel_rfl) (by kernel_rfl) (by kernel_rfl) (fun _ _ _ h => h) (Or.inl ⟨by rfl, fun W hW => by clear hW; go_simp⟩) H2_.out ?_
      try simp only [Act.put, List.getElem_toArray, List.getElem_cons_succ, List.getElem_cons_zero, List.setIfInBounds_toArray, List.set_cons_zero, List.set_cons_succ]
      refine wpAnyH_take (i := 19) (v := .bool true) rfl (by kernel_rfl) (by kernel_rfl) (by kernel_rfl) (fun _ _ _ h => h) (Or.inl ⟨by rfl, fun W hW => by clear hW; go_simp⟩) H2_.out ?_
      try simp only [Act.put, List.getElem_toArray, List.getElem_cons_succ, List.getElem_cons_zero, List.setIfInBounds_toArray, List.set_cons_zero, List.set_cons_succ]
      refine wpAnyH_take (i := 20) (v := .bool true) rfl (by kernel_rfl) (by kernel_rfl) (by kernel_rfl) (fun _ _ _ h => h) (Or.inl ⟨by rfl, fun W hW => by clear hW; go_simp⟩) H2_.out ?_
      try simp only [Act.put, List.getElem_toArray, List.getElem_cons_succ, List.getElem_cons_zero, List.setIfInBounds_toArray, List.set_cons_zero, List.set_cons_succ]
      refine wpAnyH_done (by kernel_rfl) ?_ _
      go_wp2
      go_ret
      exact ⟨rfl, H2_.out.bel⟩
end Go.Proofs.Ytcbpnmcfiohndaa
