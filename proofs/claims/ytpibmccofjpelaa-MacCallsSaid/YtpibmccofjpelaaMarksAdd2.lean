/- A list of marks gets one more. No statement is proved here. -/
import Derived.Test.YtpibmccofjpelaaMarksAdd
namespace Go.Proofs.Ytpibmccofjpelaa
open Go.RowKit Go.Maps
set_option linter.unusedVariables false

set_option maxHeartbeats 1000000 in
theorem first_raw (gl m2 k : Nat) (ms : List Mark) (t : Nat) (ht : t < 18446744073709551616) (w : World) (c2 : w.cell? ⟨gl, 2, none⟩ = some (.map (some m2))) (n2 : NumMap w 25 m2 k (tagF ms)) :
    Calls Try.prog 43 #[.pointer (some ⟨gl, 0, none⟩), .int .u64 t] w fun e w' => e = .returned (.int .i64 (firstM ms t : Nat)) ∧ w' = w := by
  have lk : (Instr.lookup 94 (.map (some m2)) (.int .u64 (t : Int)) false).run Try.prog w = .ok (.int .i64 (firstM ms t : Nat)) w := by
    have := n2.look (int_keyed Try.underlying25) Try.underlying94 (key_u64 t ht)
    rw [tagF_nat] at this
    exact this
  clear n2
  generalize firstM ms t = N at *
  go_enter Try.func43, Try.ntmps43
  go_wp2
  go_ret
  exact ⟨rfl, rfl⟩
theorem MSt.apart {V : World} {base gl : Nat} {sv : Value} {m1 m2 : Nat} {ms : List Mark} (h : MSt V base gl sv m1 m2 ms) : sv.ownBlock ≠ some gl ∧ sv.ownBlock ≠ some m1 ∧ sv.ownBlock ≠ some m2 ∧ gl ≠ m1 ∧ gl ≠ m2 := by
  have hm : ∀ kt b n f, NumMap V kt b n f → ∀ cs t q, V.heap[b]? ≠ some (.cells cs t q) := fun kt b n f hN cs t q e => by
    obtain ⟨D, ⟨es, clock, hb, _⟩, _⟩ := hN
    rw [hb] at e; cases e
  have hs : ∀ g, sv.ownBlock = some g → ∃ cur, V.heap[g]? = some (.cells cur 99 (0, 0)) := fun g hg => by
    rcases h.row.2 with ⟨hv, _⟩ | ⟨g2, cap, cur, hv, _, hg2, _⟩
    · rw [hv] at hg; cases hg
    · rw [hv] at hg; injection hg with hg
      have : g2 = g := hg
      subst this
      exact ⟨cur, hg2⟩
  refine ⟨fun e => ?_, fun e => ?_, fun e => ?_, fun e => ?_, fun e => ?_⟩
  · obtain ⟨cur, hc⟩ := hs _ e
    rw [h.blk] at hc
    simp at hc
  · obtain ⟨cur, hc⟩ := hs _ e
    exact hm _ _ _ _ h.n1 _ _ _ hc
  · obtain ⟨cur, hc⟩ := hs _ e
    exact hm _ _ _ _ h.n2 _ _ _ hc
  · have := h.blk; rw [e] at this; exact hm _ _ _ _ h.n1 _ _ _ this
  · have := h.blk; rw [e] at this; exact hm _ _ _ _ h.n2 _ _ _ this
theorem blk_set {V : World} {gl : Nat} {a b c : Value} (h : V.heap[gl]? = some (.cells #[a, b, c] 97 (0, 0))) (x : Value) : (V.setCell ⟨gl, 0, none⟩ x).heap[gl]? = some (.cells #[x, b, c] 97 (0, 0)) := by
  simp [World.setCell, Array.getElem?_modify, h]
theorem wpList_append_mark {ops : Array Oper} {rest : List Oper} {o : Oper} {a : Act} {Q : Exit → Act → World → Prop} (w : World) (hgd : o.guard = none) (s x : Operand)
    (ho : o.op = .call { callee := .builtin .append, args := #[s, x], argTypes := #[95, 95] })
    (base : Nat) (v : Value) (ms : List Mark) (hs : a.eval s = v) (hown : w.ownsRow base 99 2 v ms.length (mvals ms))
    (g : Nat) (T : ByteArray) (t : Int) (hx : a.eval x = .slice (some ⟨g, 0, none⟩) 1 1) (hB : w.heap[g]? = some (.cells #[.string T, .int .u64 t] 99 (0, 0)))
    (hlen : ms.length + 1 ≤ 1000000) (hbase : base ≤ w.heap.size)
    (h : ∀ A' c' w', w'.ownsRow base 99 2 (.slice A' (ms.length + 1) c') (ms.length + 1) (mvals ms ++ [.string T, .int .u64 t]) → w.grownBy w' v.ownBlock → ((Value.slice A' (ms.length + 1) c').ownBlock = v.ownBlock ∨ (Value.slice A' (ms.length + 1) c').ownBlock = some w.heap.size) → wpList Try.prog ops Q rest (a.put o.dst (.slice A' (ms.length + 1) c')) w') : wpList Try.prog ops Q (o :: rest) a w := by
  obtain ⟨i0, hi, hz0, hz1, hz2⟩ := info_parts info99
  refine wpList_append_own_at w hgd s x 95 ho base 99 i0 _ 2 24 Try.underlying95 hi hz0 hz1 hz2 rfl (by decide) v ms.length (mvals ms) hs hown ⟨g, 0, none⟩ 1 1 [.string T, .int .u64 t] hx rfl ?_ ?_ ?_ ?_ hbase ?_
  · intro j u hu
    match j, hu with
    | 0, hu => injection hu with hu; subst hu; rw [Addr.add_lit, cell_of_row w g _ _ _ _ hB]; rfl
    | 1, hu => injection hu with hu; subst hu; rw [Addr.add_lit, cell_of_row w g _ _ _ _ hB]; rfl
    | n + 2, hu => cases hu
  · intro u hu
    simp only [List.mem_cons, List.not_mem_nil, or_false] at hu
    rcases hu with rfl | rfl <;> rfl
  · unfold maxLen; omega
  · omega
  · intro v' w' hO hg _ hbl
    have hv : ∃ A' c', v' = .slice A' (ms.length + 1) c' := by
      rcases hO.2 with ⟨_, h0⟩ | ⟨g', cap, cur, hv, _⟩
      · omega
      · exact ⟨_, cap, hv⟩
    obtain ⟨A', c', rfl⟩ := hv
    exact h A' c' w' hO hg hbl
theorem run_len (ms : List Mark) (h : ms.length < 10000) : ms.length + 1 < 1000000 := by omega

set_option maxRecDepth 10000 in
set_option maxHeartbeats 2000000 in
theorem add_any2 (base gl : Nat) (sv : Value) (m1 m2 : Nat) (ms : List Mark) (A : Option Addr) (n c : Nat) (xs : List Nat) (t : Nat) (w : World) (h : MSt w base gl sv m1 m2 ms) (hx : Row w w.heap.size A n c xs) (ht : t < 18446744073709551616) (h0 : findM ms xs = 0) (hb : base ≤ w.heap.size) (hfew : ms.length + 1 < 10000) :
    Calls Try.prog 45 #[.pointer (some ⟨gl, 0, none⟩), .slice A n c, .int .u64 t] w fun e w' => e = .returned (.tuple #[]) ∧ ∃ sv', MSt w' base gl sv' m1 m2 (ms ++ [(xs, t)]) ∧ Only w w' (fun i => i = gl ∨ i = m1 ∨ i = m2 ∨ sv.ownBlock = some i) ∧ (sv'.ownBlock = sv.ownBlock ∨ ∃ i, w.heap.size ≤ i ∧ sv'.ownBlock = some i) := by
  have H := Lib.hid h
  have HX := Lib.hid hx
  have AP := Lib.hid h.apart
  have FI := Lib.hid (find_any base gl sv m1 m2 ms A n c xs _ w h hx)
  rw [h0] at FI
  have HF := Lib.hid h0
  obtain ⟨A0, c0, rfl⟩ := h.form
  have cv : ∀ k, (convert 24 9 (.slice A n c)).run Try.prog (w.drewN k) = .ok (.string (txt xs)) (w.drewN k) := fun k => row_string (hx.drewN k)
  have d0 := h.c0
  obtain ⟨i0, hi, hz0, hz1, hz2⟩ := info_parts info99
  clear h hx h0
  have KS := Lib.hid (key_string HX.out.len HX.out.max)
  have BX := Lib.hid HX.out.bytes
  generalize hT : txt xs = T at *
  have HT := Lib.hid hT
  clear hT
  have fz : w.frozen? ⟨gl, 0, none⟩ = false := by have := H.out.blk; simp [World.frozen?, this]
  go_enter Try.func45, Try.ntmps45
  go_wp2_with (first
    | (go_at_call 40; refine FI.out.mono ?_; rintro e X1 ⟨rfl, k1, rfl⟩)
    | (at_builtin; refine wpList_append_mark _ rfl _ _ rfl base _ ms rfl (H.out.row.alloc _) w.heap.size T (t : Int) rfl (heap_alloc_new (w.drewN k1) _) (by omega) (by simp; omega) ?_; intro A3 c3 w3 hO3 hg3 hbl3; have e3 : w3.heap[gl]? = some (.cells #[.slice A0 ms.length c0, .map (some m1), .map (some m2)] 97 (0, 0)) := (hg3.block gl (by have := H.out.lt; simp; omega) (fun e => AP.out.1 e.symm)).trans ((Below.heap_alloc (w.drewN k1) _ gl H.out.lt).trans H.out.blk); have E3 := Lib.hid e3; have q0 : w3.cell? ⟨gl, 0, none⟩ = some (.slice A0 ms.length c0) := (cell_of_row w3 gl 0 _ _ _ e3).trans rfl; have f0 : w3.frozen? ⟨gl, 0, none⟩ = false := (by simp [World.frozen?, e3]); have HO3 := Lib.hid hO3; have HG3 := Lib.hid hg3; have HL3 := Lib.hid hbl3; clear hO3 hg3 hbl3 e3)
    | fail)
  have hgs : w3.grownBy (w3.setCell ⟨gl, 0, none⟩ (.slice A3 (ms.length + 1) c3)) (some gl) := grown_set (World.grownBy.refl w3 _) rfl _
  have hlt := H.out.lt
  have B4 := Lib.hid (blk_set E3.out (.slice A3 (ms.length + 1) c3))
  have N14 := Lib.hid ((((H.out.n1.drewN k1).alloc (.cells #[.string T, .int .u64 (t : Int)] 99)).kept HG3.out (fun e => AP.out.2.1 e.symm)).kept hgs (fun e => by injection e with e; exact AP.out.2.2.2.1 e.symm))
  have N24 := Lib.hid ((((H.out.n2.drewN k1).alloc (.cells #[.string T, .int .u64 (t : Int)] 99)).kept HG3.out (fun e => AP.out.2.2.1 e.symm)).kept hgs (fun e => by injection e with e; exact AP.out.2.2.2.2 e.symm))
  have hngl : (Value.slice A3 (ms.length + 1) c3).ownBlock ≠ some gl := fun e => by
    rcases HL3.out with h | h
    · exact AP.out.1 (h.symm.trans e)
    · rw [h] at e; injection e with e; simp at e; omega
  have hnm1 : (Value.slice A3 (ms.length + 1) c3).ownBlock ≠ some m1 := fun e => by
    rcases HL3.out with h | h
    · exact AP.out.2.1 (h.symm.trans e)
    · have := H.out.n1.lt; rw [h] at e; injection e with e; simp at e; omega
  have hnm2 : (Value.slice A3 (ms.length + 1) c3).ownBlock ≠ some m2 := fun e => by
    rcases HL3.out with h | h
    · exact AP.out.2.2.1 (h.symm.trans e)
    · have := H.out.n2.lt; rw [h] at e; injection e with e; simp at e; omega
  have NM := Lib.hid (And.intro hnm1 hnm2)
  have R4 := Lib.hid (HO3.out.kept hgs (.inr hngl))
  have O4 : Hid (Only w (w3.setCell ⟨gl, 0, none⟩ (.slice A3 (ms.length + 1) c3)) (fun i => i = gl ∨ i = m1 ∨ i = m2 ∨ (Value.slice A0 ms.length c0).ownBlock = some i)) :=
    ((((Only.refl w _).drewN k1).alloc _).grown HG3.out (fun g hg => .inl (.inr (.inr (.inr hg))))).grown hgs (fun g hg => by injection hg with hg; exact .inl (.inl hg.symm))
  have NB : Hid ((Value.slice A3 (ms.length + 1) c3).ownBlock = (Value.slice A0 ms.length c0).ownBlock ∨ ∃ i, w.heap.size ≤ i ∧ (Value.slice A3 (ms.length + 1) c3).ownBlock = some i) := by
    rcases HL3.out with h | h
    · exact .inl h
    · exact .inr ⟨_, by simp, h⟩
  clear hgs hngl hnm1 hnm2 q0 f0 d0 fz HO3 HG3 HL3 E3 FI cv
  generalize (w3.setCell ⟨gl, 0, none⟩ (.slice A3 (ms.length + 1) c3)) = W4 at *
  have g0 : W4.cell? ⟨gl, 0, none⟩ = some (.slice A3 (ms.length + 1) c3) := (cell_of_row W4 gl 0 _ _ _ B4.out).trans rfl
  have g1 : W4.cell? ⟨gl, 1, none⟩ = some (.map (some m1)) := (cell_of_row W4 gl 1 _ _ _ B4.out).trans rfl
  obtain ⟨W5, hrun, hN5, hg5⟩ := (N14.out.drewN 1).put (string_keyed Try.underlying9) Try.underlying93 (by omega) KS.out trivial (ms.length + 1) (by omega) (strF (ms ++ [(xs, t)])) (by rw [strF_txt _ _ BX.out, findM_snoc ms xs t HF.out, if_pos rfl]) (fun x hx => by
    cases x with
    | string bs =>
      show findM (ms ++ [(xs, t)]) (bs.map UInt8.toNat) = findM ms (bs.map UInt8.toNat)
      rw [findM_snoc ms xs t HF.out, if_neg (fun e => hx (by rw [← e, List.map_map]; congr 1; refine ((List.map_congr_left (g := id) fun b _ => by simp).trans (List.map_id _)).symm))]
    | _ => rfl)
  have hrun' : (Instr.mapUpdate 93 (.map (some m1)) (.string T) (.int .i64 ((ms.length : Int) + 1))).run Try.prog W4.drew = .ok () W5 := by
    have e : ((ms.length + 1 : Nat) : Int) = (ms.length : Int) + 1 := by simp
    rw [e] at hrun
    exact hrun
  have N5 := Lib.hid hN5
  have G5 := Lib.hid hg5
  clear hrun hN5 hg5
  refine wp_region_still_tail 10 (by kernel_rfl) (by kernel_rfl) ?_
  simp only [List.take_succ_cons, List.take_zero, List.drop_succ_cons, List.drop_zero]
  repeat still_step
  try refine wpStill_nil ?_
  change wpList _ _ _ _ _ W4.drew
  have N25 := Lib.hid ((N24.out.drewN 1).kept G5.out (fun e => by injection e with e; exact H.out.ne e.symm))
  have B5 : Hid (W5.heap[gl]? = some (.cells #[.slice A3 (ms.length + 1) c3, .map (some m1), .map (some m2)] 97 (0, 0))) := (G5.out.block gl (by
    rcases Nat.lt_or_ge gl W4.heap.size with hl | hl
    · exact hl
    · have := B4.out; rw [Array.getElem?_eq_none hl] at this; cases this) (fun e => by injection e with e; exact AP.out.2.2.2.1 e)).trans B4.out
  have R5 : Hid (W5.ownsRow base 99 2 (.slice A3 (ms.length + 1) c3) (ms.length + 1) (mvals ms ++ [.string T, .int .u64 (t : Int)])) := World.ownsRow.kept (w := W4.drew) R4.out G5.out (.inr NM.out.1)
  have O5 : Hid (Only w W5 (fun i => i = gl ∨ i = m1 ∨ i = m2 ∨ (Value.slice A0 ms.length c0).ownBlock = some i)) := (O4.out.drewN 1).grown G5.out (fun g hg => by injection hg with hg; exact .inl (.inr (.inl hg.symm)))
  have c2 : W5.cell? ⟨gl, 2, none⟩ = some (.map (some m2)) := (cell_of_row W5 gl 2 _ _ _ B5.out).trans rfl
  have g05 : W5.cell? ⟨gl, 0, none⟩ = some (.slice A3 (ms.length + 1) c3) := (cell_of_row W5 gl 0 _ _ _ B5.out).trans rfl
  have FR := Lib.hid (first_raw gl m2 _ ms t ht W5 c2 N25.out)
  have MB : Hid (∀ m ∈ ms ++ [(xs, t)], (∀ x ∈ m.1, x < 256) ∧ m.2 < 18446744073709551616) := fun m hm => by
    rcases List.mem_append.1 hm with hm | hm
    · exact H.out.bytes m hm
    · simp only [List.mem_singleton] at hm
      subst hm
      exact ⟨BX.out, ht⟩
  have LL : Hid ((ms ++ [(xs, t)]).length = ms.length + 1) := by rw [List.length_append]; exact rfl
  have MV : Hid (mvals (ms ++ [(xs, t)]) = mvals ms ++ [.string T, .int .u64 (t : Int)]) := by rw [mvals_append, ← HT.out]; exact rfl
  have FS := Lib.hid (firstM_snoc ms xs t)
  clear N14 N24 G5 R4 O4 B4 g0 g1
  by_cases hf : firstM ms t = 0
  · obtain ⟨W7, hrun, hN7, hg7⟩ := (N25.out.drewN 1).put (int_keyed Try.underlying25) Try.underlying94 (by omega) (key_u64 t ht) trivial (ms.length + 1) (by omega) (tagF (ms ++ [(xs, t)])) (by rw [tagF_nat, FS.out, if_pos hf, if_pos rfl]) (fun x hx => by
      cases x with
      | int k z =>
        cases k with
        | u64 =>
          show (if 0 ≤ z then firstM (ms ++ [(xs, t)]) z.toNat else 0) = (if 0 ≤ z then firstM ms z.toNat else 0)
          by_cases hz : 0 ≤ z
          · rw [if_pos hz, if_pos hz, FS.out]
            by_cases h2 : firstM ms z.toNat = 0
            · rw [if_pos h2, if_neg (fun e => hx (by rw [e, Int.toNat_of_nonneg hz])), h2]
            · rw [if_neg h2]
          · rw [if_neg hz, if_neg hz]
        | _ => rfl
      | _ => rfl)
    have hrun2 : (Instr.mapUpdate 94 (.map (some m2)) (.int .u64 (t : Int)) (.int .i64 ((ms.length : Int) + 1))).run Try.prog W5.drew = .ok () W7 := by
      have e : ((ms.length + 1 : Nat) : Int) = (ms.length : Int) + 1 := by simp
      rw [e] at hrun
      exact hrun
    have N7 := Lib.hid hN7
    have G7 := Lib.hid hg7
    clear hrun hN7 hg7
    rw [hf] at FR
    clear hf
    go_wp2_with (first
      | (go_at_call 43; refine FR.out.mono ?_; rintro e X6 ⟨rfl, rfl⟩)
      | fail)
    refine wp_region_still_tail 10 (by kernel_rfl) (by kernel_rfl) ?_
    simp only [List.take_succ_cons, List.take_zero, List.drop_succ_cons, List.drop_zero]
    repeat still_step
    try refine wpStill_nil ?_
    change wpList _ _ _ _ _ X6.drew
    go_wp2
    refine bodyPost_end (results_none Try.results45 _ _ _) rfl ⟨rfl, .slice A3 (ms.length + 1) c3, ⟨?_, ?_, ?_, ?_, ?_, MB.out, H.out.ne⟩, ?_, NB.out⟩
    · exact (G7.out.block gl (by
        rcases Nat.lt_or_ge gl X6.heap.size with hl | hl
        · exact hl
        · have := B5.out; rw [Array.getElem?_eq_none hl] at this; cases this) (fun e => by injection e with e; exact AP.out.2.2.2.2 e)).trans B5.out
    · rw [LL.out]; exact NumMap.kept (V := X6.drew) N5.out G7.out (fun e => by injection e with e; exact H.out.ne e)
    · rw [LL.out]; exact N7.out
    · rw [LL.out, MV.out]; exact World.ownsRow.kept (w := X6.drew) R5.out G7.out (.inr NM.out.2)
    · rw [LL.out]; omega
    · exact (O5.out.drewN 1).grown G7.out (fun g hg => by injection hg with hg; exact .inl (.inr (.inr (.inl hg.symm))))
  · have hfb : (((firstM ms t : Nat) : Int) == 0) = false := by simp only [beq_eq_false_iff_ne, ne_eq]; omega
    have ET : Hid (tagF (ms ++ [(xs, t)]) = tagF ms) := by
      funext x
      cases x with
      | int k z =>
        cases k with
        | u64 =>
          show (if 0 ≤ z then firstM (ms ++ [(xs, t)]) z.toNat else 0) = (if 0 ≤ z then firstM ms z.toNat else 0)
          by_cases hz : 0 ≤ z
          · rw [if_pos hz, if_pos hz, FS.out]
            by_cases h2 : firstM ms z.toNat = 0
            · rw [if_pos h2, if_neg (fun e => hf (by rw [e]; exact h2)), h2]
            · rw [if_neg h2]
          · rw [if_neg hz, if_neg hz]
        | _ => rfl
      | _ => rfl
    clear hf
    go_wp2_with (first
      | (go_at_call 43; refine FR.out.mono ?_; rintro e X6 ⟨rfl, rfl⟩)
      | fail)
    refine bodyPost_end (results_none Try.results45 _ _ _) rfl ⟨rfl, .slice A3 (ms.length + 1) c3, ⟨B5.out, ?_, ?_, ?_, ?_, MB.out, H.out.ne⟩, O5.out, NB.out⟩
    · rw [LL.out]; exact N5.out
    · rw [LL.out, ET.out]
      obtain ⟨D, h1, h2, h3⟩ := N25.out
      exact ⟨D, h1.mono (Nat.le_succ _), h2, h3⟩
    · rw [LL.out, MV.out]; exact R5.out
    · rw [LL.out]; omega
theorem add_any (base gl : Nat) (sv : Value) (m1 m2 : Nat) (ms : List Mark) (A : Option Addr) (n c : Nat) (xs : List Nat) (t : Nat) (w : World) (h : MSt w base gl sv m1 m2 ms) (hx : Row w w.heap.size A n c xs) (ht : t < 18446744073709551616) (h0 : findM ms xs = 0) (hb : base ≤ w.heap.size) (hfew : ms.length + 1 < 10000) :
    Calls Try.prog 45 #[.pointer (some ⟨gl, 0, none⟩), .slice A n c, .int .u64 t] w fun e w' => e = .returned (.tuple #[]) ∧ ∃ sv', MSt w' base gl sv' m1 m2 (ms ++ [(xs, t)]) ∧ Only w w' (fun i => i = gl ∨ i = m1 ∨ i = m2 ∨ sv.ownBlock = some i) := by
  refine (add_any2 base gl sv m1 m2 ms A n c xs t w h hx ht h0 hb hfew).mono ?_
  rintro e w' ⟨rfl, sv', h1, h2, _⟩
  exact ⟨rfl, sv', h1, h2⟩
end Go.Proofs.Ytpibmccofjpelaa
