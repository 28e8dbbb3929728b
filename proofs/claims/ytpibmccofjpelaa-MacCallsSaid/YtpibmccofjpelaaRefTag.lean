/- The document's book tags a message. No statement is proved here. -/
import Derived.Test.YtpibmccofjpelaaRefVer
namespace Go.Proofs.Ytpibmccofjpelaa
open Go.RowKit Go.Maps
set_option linter.unusedVariables false
set_option linter.unusedSimpArgs false

theorem info67r : (Try.prog.info? 67).map (fun i => (i.zero, i.size, i.bytes)) = some (some (.agg #[.slice none 0 0, .int .u64 0]), 2, 32) := by kernel_rfl
/-- A mark is put behind others. -/
theorem wpList_append_rmark {ops : Array Oper} {rest : List Oper} {o : Oper} {a : Act} {Q : Exit → Act → World → Prop} (w : World) (hgd : o.guard = none) (s x : Operand)
    (ho : o.op = .call { callee := .builtin .append, args := #[s, x], argTypes := #[46, 46] }) (base : Nat) (v : Value) (cs : List Mm) (hs : a.eval s = v) (hown : w.ownsRow base 67 2 v cs.length (kvals cs))
    (r : Mm) (g : Nat) (hx : a.eval x = .slice (some ⟨g, 0, none⟩) 1 1) (hB : w.heap[g]? = some (.cells #[.slice r.A r.m.1.length r.c, .int .u64 (r.m.2 : Nat)] 67 (0, 0)))
    (hlen : cs.length + 1 ≤ 1000000) (hbase : base ≤ w.heap.size)
    (h : ∀ g2 cap w', w'.ownsRow base 67 2 (.slice (some ⟨g2, 0, none⟩) (cs.length + 1) cap) (cs.length + 1) (kvals (cs ++ [r])) → w.grownBy w' v.ownBlock → (v.ownBlock = some g2 ∨ g2 = w.heap.size) → wpList Try.prog ops Q rest (a.put o.dst (.slice (some ⟨g2, 0, none⟩) (cs.length + 1) cap)) w') :
    wpList Try.prog ops Q (o :: rest) a w := by
  obtain ⟨i0, hi, hz0, hz1, hz2⟩ := info_parts info67r
  refine wpList_append_lies w hgd s x 46 ho base 67 i0 _ 2 32 Try.underlying46 hi hz0 hz1 hz2 rfl (by decide) v cs.length (kvals cs) hs hown ⟨g, 0, none⟩ 1 1 r.cs hx rfl ?_ ?_ (by omega) (by unfold maxLen; omega) (by omega) hbase _ rfl ?_
  · intro j u hu
    match j, hu with
    | 0, hu => injection hu with hu; subst hu; rw [Addr.add_lit, cell_of_row w g _ _ _ _ hB]; rfl
    | 1, hu => injection hu with hu; subst hu; rw [Addr.add_lit, cell_of_row w g _ _ _ _ hB]; rfl
    | n + 2, hu => simp [Mm.cs] at hu
  · intro u hu
    simp only [Mm.cs, List.mem_cons, List.not_mem_nil, or_false] at hu
    rcases hu with rfl | rfl <;> rfl
  · intro g2 cap w' h1 h2 h3 _
    refine h g2 cap w' ?_ h2 h3
    rw [kvals_append]
    have e : kvals [r] = r.cs := by simp [kvals]
    rw [e]; exact h1
/-- None of the first j marks has the tag. -/
def NoTag (cs : List Mm) (t j : Nat) : Prop := ∀ i y, i < j → cs[i]? = some y → y.m.2 ≠ t
theorem NoTag.found {cs : List Mm} {t j : Nat} {y : Mm} (h : NoTag cs t j) (hy : cs[j]? = some y) (e : y.m.2 = t) : firstM (cs.map (·.m)) t = j + 1 := by
  unfold firstM
  refine fN_of _ _ j y.m (fun i z hi hz => ?_) (by rw [List.getElem?_map, hy]; rfl) (by simp [e])
  rw [List.getElem?_map] at hz
  cases hc : cs[i]? with
  | none => rw [hc] at hz; cases hz
  | some u =>
    rw [hc] at hz
    simp only [Option.map_some, Option.some.injEq] at hz
    subst hz
    simpa using h i u hi hc
theorem NoTag.none {cs : List Mm} {t : Nat} (h : NoTag cs t cs.length) : firstM (cs.map (·.m)) t = 0 := by
  unfold firstM
  refine fN_none _ _ (fun i z hz => ?_)
  rw [List.getElem?_map] at hz
  cases hc : cs[i]? with
  | none => rw [hc] at hz; cases hz
  | some u =>
    rw [hc] at hz
    simp only [Option.map_some, Option.some.injEq] at hz
    subst hz
    have hi : i < cs.length := by
      rcases Nat.lt_or_ge i cs.length with q | q
      · exact q
      · rw [List.getElem?_eq_none q] at hc; cases hc
    simpa using h i u hi hc
theorem NoTag.step {cs : List Mm} {t j : Nat} {y : Mm} (h : NoTag cs t j) (hy : cs[j]? = some y) (e : ¬ y.m.2 = t) : NoTag cs t (j + 1) := fun i z hi hz => by
  rcases Nat.lt_or_ge i j with q | q
  · exact h i z q hz
  · have : i = j := by omega
    subst this
    rw [hy] at hz; injection hz with hz; subst hz; exact e
attribute [local irreducible] findM firstM ssum rkA arrV
section
variable {base gr : Nat} {key : List Nat} {cs : List Mm} {bs : List Bm} {mv bv : Value} {A : Option Addr} {n c : Nat} {xs : List Nat} {w : World}
/-- A mark has been put behind the others. -/
theorem rmark_end {kind : Int} {Y W2 : World} {r : Mm} {o : Obj} {g2 cap : Nat} (hY : Rk Y base gr kind key cs bs mv bv) (hr : Own Y base r.A r.m.1.length r.c r.m.1)
    (e2 : W2.heap[gr]? = some (.cells (rkA kind key mv bv) 49 (0, 0))) (ho2 : W2.ownsRow base 67 2 (.slice (some ⟨g2, 0, none⟩) (cs.length + 1) cap) (cs.length + 1) (kvals (cs ++ [r])))
    (hg2 : (Y.alloc o).grownBy W2 mv.ownBlock) (hat2 : mv.ownBlock = some g2 ∨ g2 = (Y.alloc o).heap.size) :
    Rk (W2.setCell ⟨gr, 17, none⟩ (.slice (some ⟨g2, 0, none⟩) (cs.length + 1) cap)) base gr kind key (cs ++ [r]) bs (.slice (some ⟨g2, 0, none⟩) (cs.length + 1) cap) bv ∧ Only Y (W2.setCell ⟨gr, 17, none⟩ (.slice (some ⟨g2, 0, none⟩) (cs.length + 1) cap)) (fun i => i = gr ∨ mv.ownBlock = some i) ∧ Near Y mv (.slice (some ⟨g2, 0, none⟩) (cs.length + 1) cap) ∧ ∀ i, Byt Y i → (W2.setCell ⟨gr, 17, none⟩ (.slice (some ⟨g2, 0, none⟩) (cs.length + 1) cap)).heap[i]? = Y.heap[i]? := by
  have hlt := hY.lt
  have hgs : W2.grownBy (W2.setCell ⟨gr, 17, none⟩ (.slice (some ⟨g2, 0, none⟩) (cs.length + 1) cap)) (some gr) := grown_set (World.grownBy.refl W2 _) rfl _
  have hne : g2 ≠ gr := fun e => by
    subst e
    rcases hat2 with h | h
    · exact hY.mark_ne h
    · simp at h; omega
  have far : ∀ i, i ≠ gr → mv.ownBlock ≠ some i → i < Y.heap.size → (W2.setCell ⟨gr, 17, none⟩ (.slice (some ⟨g2, 0, none⟩) (cs.length + 1) cap)).heap[i]? = Y.heap[i]? := fun i h1 h2 h3 =>
    (Below.heap_setCell W2 _ _ i h1).trans ((hg2.block i (by simp; omega) (fun e => h2 e.symm)).trans (Below.heap_alloc Y o i h3))
  have byt : ∀ i, Byt Y i → (W2.setCell ⟨gr, 17, none⟩ (.slice (some ⟨g2, 0, none⟩) (cs.length + 1) cap)).heap[i]? = Y.heap[i]? := fun i hi =>
    far i (fun e => hY.not_byt (.inl e) hi) (fun e => hY.not_byt (.inr (.inl e)) hi) hi.lt
  refine ⟨⟨rset17 e2 hY.k16 _, ?_, ?_, ?_, fun x hx => (hY.ob x hx).staysB byt, hY.lo, hY.k16⟩, ⟨hg2.os, hg2.tape, hg2.output, ?_, ?_⟩, ?_, byt⟩
  · have e : (cs ++ [r]).length = cs.length + 1 := by simp
    rw [e]
    exact ho2.kept hgs (.inr (fun e => by injection e with e; exact hne e))
  · exact owns_stays hY.bd (fun g hg => far g (fun e => hY.bad_ne (e ▸ hg)) (fun e => hY.rows_ne g e hg) (hY.in_ (.inr (.inr hg))))
  · intro x hx
    rcases List.mem_append.1 hx with hx | hx
    · exact (hY.om x hx).staysB byt
    · simp only [List.mem_singleton] at hx
      subst hx
      exact hr.staysB byt
  · have h1 := hg2.size
    simp [World.setCell] at h1 ⊢
    omega
  · intro i hi hn
    exact far i (fun e => hn (.inl e)) (fun e => hn (.inr e)) hi
  · rcases hat2 with h | h
    · exact .inl h.symm
    · exact .inr ⟨g2, by rw [h]; simp, rfl⟩
set_option maxRecDepth 20000 in
set_option maxHeartbeats 1000000 in
theorem rtag_old {kind : Int} {K : Kd} (h : Rk w base gr kind key cs bs mv bv) (ht : Tgs K cs) (hx : Row w w.heap.size A n c xs) (hl : cs.length ≤ 10000) (N : Nat) (hf : findM (cs.map (·.m)) xs = N + 1) :
    Calls Try.prog 26 #[.pointer (some ⟨gr, 0, none⟩), .slice A n c] w fun e w' => e = .returned (.int .u64 (tagK K xs (N + 1) : Nat)) ∧ ∃ k, w' = w.drewN k := by
  obtain ⟨B, cp, rfl, hr⟩ := h.krow
  have c17 := h.c17
  have FI := Lib.hid (rfind_any gr B cs.length cp cs A n c xs w c17 hr hx hl)
  have hle := findM_le (cs.map (·.m)) xs
  rw [List.length_map] at hle
  obtain ⟨y, hy, he⟩ := find_at hf
  obtain ⟨g, rfl, e0, e1, _⟩ := hr.at_ N y hy
  have hN : N < cs.length := by omega
  have hy2 : y.m.2 = tagK K xs (N + 1) := by rw [ht N y hy, he]
  rw [hy2] at e1
  rw [hf] at FI
  clear h hr hx hf ht hy he e0 hy2 hle
  generalize tagK K xs (N + 1) = t at *
  go_enter Try.func26, Try.ntmps26
  go_wp2_with (go_at_call 28; refine FI.out.mono ?_; rintro e X1 ⟨rfl, k, rfl⟩)
  go_ret
  exact ⟨rfl, k, rfl⟩
theorem Near.low {w Y : World} {v v' : Value} (h : Near Y v v') (hs : w.heap.size ≤ Y.heap.size) : Near w v v' := by
  rcases h with e | ⟨i, e1, e2⟩
  · exact .inl e
  · exact .inr ⟨i, Nat.le_trans hs e1, e2⟩
theorem clone_frame' {X Y : World} {kind : Int} {A' : Option Addr} {c' : Nat} (h : Rk X base gr kind key cs bs mv bv) (hO : Own Y X.heap.size A' (0 + n) c' ([] ++ xs)) (hg : (X.alloc (.cells #[] 5)).grownBy Y (Value.slice (some ⟨X.heap.size, 0, none⟩) 0 0).ownBlock) : Below X.heap.size X Y ∧ Rk Y base gr kind key cs bs mv bv ∧ Own Y X.heap.size A' n c' xs := by
  have hb : Below X.heap.size X Y := ⟨hg.os, hg.tape, hg.output, by have := hg.size; simp at this; omega, fun i hi => (hg.block i (by simp; omega) (by intro e; injection e with e; have : i = X.heap.size := e; omega)).trans (Below.heap_alloc X _ i hi)⟩
  exact ⟨hb, h.below hb, by simpa using hO⟩
/-- The document's book has a new mark, and a bad event, if another mark has that tag. -/
def RNew (w : World) (base gr : Nat) (kind : Int) (key : List Nat) (cs : List Mm) (bs : List Bm) (mv bv : Value) (xs : List Nat) (t : Nat) (e : Ending) (w' : World) : Prop :=
  e = .returned (.int .u64 (t : Nat)) ∧ ∃ mv' bv' x rs', x.m = (xs, t) ∧ Own w' w.heap.size x.A xs.length x.c xs ∧
    ((firstM (cs.map (·.m)) t = 0 ∧ rs' = []) ∨ ∃ N y r, firstM (cs.map (·.m)) t = N + 1 ∧ cs[N]? = some y ∧ rs' = [r] ∧ r.e = ⟨2, xs, y.m.1, t⟩ ∧ r.A1 = x.A ∧ r.A2 = y.A) ∧
    Rk w' base gr kind key (cs ++ [x]) (bs ++ rs') mv' bv' ∧ Only w w' (rkS gr mv bv) ∧ Near w mv mv' ∧ Near w bv bv'
set_option maxRecDepth 20000 in
set_option maxHeartbeats 8000000 in
theorem rtag_new_ideal (h : Rk w base gr 0 key cs bs mv bv) (hx : Row w w.heap.size A n c xs) (hn : n ≤ 1000) (hl : cs.length < 9000) (hb : base ≤ w.heap.size) (hbs : bs.length < 1000) (hm : ∀ x ∈ cs, x.m.1.length ≤ 1000) (hf : findM (cs.map (·.m)) xs = 0) :
    Calls Try.prog 26 #[.pointer (some ⟨gr, 0, none⟩), .slice A n c] w (RNew w base gr 0 key cs bs mv bv xs (cs.length + 1)) := by
  obtain ⟨B, cp, rfl, hr⟩ := h.krow
  have FI := Lib.hid (rfind_any gr B cs.length cp cs A n c xs w h.c17 hr hx (by omega))
  have HX := Lib.hid hx
  have C0 := Lib.hid (fun k => (h.drewN k).c0)
  have C17 := Lib.hid (fun k => (h.drewN k).c17)
  have H := Lib.hid h
  have HM := Lib.hid hm
  rw [hf] at FI
  clear h hr hx hf hm
  go_enter Try.func26, Try.ntmps26
  go_upto_region 7 with (first
    | (go_at_call 28; refine FI.out.mono ?_; rintro e X1 ⟨rfl, k, rfl⟩; have c0 := C0.out k; have c17 := C17.out k)
    )
  have H2 := Lib.hid (H.out.drewN k)
  have BW := Lib.hid (show Below w.heap.size w (w.drewN k) from below_drewN (Below.refl _ _))
  have RX := Lib.hid (show Row (w.drewN k) (w.drewN k).heap.size A n c xs from HX.out.drewN k)
  generalize w.drewN k = X2 at *
  clear c0 c17 C0 C17 FI HX
  have hbx : base ≤ X2.heap.size := Nat.le_trans hb BW.out.size
  have NL : Hid (n = xs.length) := RX.out.len.symm
  go_upto_region 9 with (
    (have _ := RX; refine wpList_append_row (X2.alloc (.cells #[] 5)) rfl _ _ rfl X2.heap.size (some ⟨X2.heap.size, 0, none⟩) 0 0 [] rfl (Own.empty (Nat.le_refl _)) X2.heap.size A n c xs rfl (RX.out.alloc (Nat.le_refl _) _) (by omega) (by simp) ?_; intro A' c' Y hO hg _; have HY := Lib.hid (clone_frame' H2.out hO hg); clear hO hg))
  obtain ⟨tg, htg⟩ : ∃ tg : Nat, cs.length + 1 = tg := ⟨_, rfl⟩
  have htI : (cs.length : Int) + 1 = (tg : Int) := by omega
  rw [htI]
  have HT := Lib.hid htg
  clear htI htg
  have hkr := HY.out.2.1.krow
  obtain ⟨B', cp', eB, KR⟩ := hkr
  injection eB with eB1 eB2 eB3
  subst eB1 eB3
  clear eB2
  have KR' := Lib.hid KR
  have c17 := HY.out.2.1.c17
  have hY1 := Lib.hid (show Below w.heap.size w Y from BW.out.trans (HY.out.1.mono BW.out.size))
  clear KR
  go_loop [8] (fun i => ∃ j : Nat, j ≤ cs.length ∧ i = .int .i64 (j : Nat) ∧ NoTag cs tg j) (fun i => cs.length - (intOf i).toNat)
  case atStart => exact ⟨0, by omega, rfl, fun i y hi => absurd hi (by omega)⟩
  case round =>
    obtain ⟨j, hj, rfl, hNT⟩ := hrel
    by_cases hlt : j < cs.length
    · have g1 : ((j : Int) < (cs.length : Int)) = True := eq_true (by omega)
      have hy : cs[j]? = some cs[j] := List.getElem?_eq_getElem hlt
      have hmem : cs[j] ∈ cs := List.getElem_mem hlt
      generalize cs[j] = y at *
      obtain ⟨g, rfl, e0, e1, r1⟩ := KR'.out.at_ j y hy
      obtain ⟨⟨ys, ty⟩, yA, yc⟩ := y
      simp only at e0 e1 r1
      have HN := Lib.hid hNT
      have HYm := Lib.hid hy
      have hml := HM.out _ hmem
      have HMEM := Lib.hid hmem
      clear hNT hy r1 hmem
      by_cases ht : ty = tg
      · subst ht
        have q : ((ty : Int) == (ty : Int)) = true := by simp
        go_upto_region 12 with (fail)
        have c18 := HY.out.2.1.c18
        have dB : ∀ o, (Y.alloc o).cell? ⟨gr, 18, none⟩ = some bv := fun o => (HY.out.2.1.below ((Below.refl _ _).alloc (Nat.le_refl _) _)).c18
        have d17 : ∀ o, (Y.alloc o).cell? ⟨gr, 17, none⟩ = some (.slice (some ⟨g, 0, none⟩) cs.length cp) := fun o => (HY.out.2.1.below ((Below.refl _ _).alloc (Nat.le_refl _) _)).c17
        have hylt : Y.cell? ⟨g, j * 2, none⟩ = some (.slice yA ys.length yc) := e0
        have dY : ∀ o, (Y.alloc o).cell? ⟨g, j * 2, none⟩ = some (.slice yA ys.length yc) := fun o => (World.cell?_alloc_lt Y o ⟨g, j * 2, none⟩ (cell_lt e0)).trans e0
        go_region_law (first
          | (refine step_append_bad (Y.drew.alloc (.cells (badV 2 (.slice A' n c') (.slice yA ys.length yc) (ty : Nat)) 62)) rfl _ _ rfl base bv bs rfl (HY.out.2.1.bd.alloc _) ⟨⟨2, xs, ys, ty⟩, A', c', yA, yc⟩ Y.heap.size rfl (by rw [NL.out]; exact heap_alloc_new Y _) (by omega) (by have := HY.out.1.size; have := BW.out.size; simp; omega) ?_; intro g2 cap W2 ho2 hg2 hat2; have e2 : W2.heap[gr]? = some (.cells (rkA 0 key (.slice (some ⟨g, 0, none⟩) cs.length cp) bv) 49 (0, 0)) := (hg2.block gr (by have := HY.out.2.1.lt; simp; omega) (fun e => HY.out.2.1.bad_ne e.symm)).trans ((Below.heap_alloc Y _ gr HY.out.2.1.lt).trans HY.out.2.1.blk); have v2 : W2.cell? ⟨gr, 18, none⟩ = some bv := by rw [cell_of_row W2 gr 18 _ _ _ e2, rkA_18 _ _ _ _ HY.out.2.1.k16]
             have f2 : W2.frozen? ⟨gr, 18, none⟩ = false := by simp [World.frozen?, e2]
             have E2 := Lib.hid e2; have HO2 := Lib.hid ho2; have HG2 := Lib.hid hg2; have HA2 := Lib.hid hat2; clear e2 ho2 hg2 hat2))
        all_goals
          (have hY := HY.out
           have hO : Own Y X2.heap.size A' xs.length c' xs := by rw [← NL.out]; exact hY.2.2
           have hr : Bm.ok Y base ⟨⟨2, xs, ys, ty⟩, A', c', yA, yc⟩ := ⟨hO.lower hbx, hY.2.1.om _ HMEM.out, by rw [← NL.out]; exact hn, hml⟩
           have hend := rbad_end (Y := Y.drew) (r := ⟨⟨2, xs, ys, ty⟩, A', c', yA, yc⟩) (show Below w.heap.size w Y.drew from hY1.out.drew) (show Rk Y.drew base gr 0 key cs bs (.slice (some ⟨g, 0, none⟩) cs.length cp) bv from hY.2.1.drewN 1) (show Bm.ok Y.drew base ⟨⟨2, xs, ys, ty⟩, A', c', yA, yc⟩ from hr) E2.out HO2.out HG2.out HA2.out
           clear hr hO hY v2 f2 c18 dB d17 dY c17 e0 e1 hylt
           generalize W2.setCell ⟨gr, 18, none⟩ (.slice (some ⟨g2, 0, none⟩) (bs.length + 1) cap) = Z at *
           have HRK := Lib.hid hend.1
           have HON := Lib.hid hend.2
           have SZ := Lib.hid (show base ≤ Z.heap.size from Nat.le_trans hb hend.2.1.size)
           have c17 := hend.1.c17
           clear hend
           go_wp2_with (first
             | (have _ := HRK; refine wpList_append_rmark (Z.alloc (.cells #[.slice A' n c', .int .u64 (ty : Nat)] 67)) rfl (.tmp 86) (.tmp 90) rfl base _ cs rfl (HRK.out.mr.alloc _) ⟨(xs, ty), A', c'⟩ Z.heap.size rfl (by rw [NL.out]; exact heap_alloc_new Z _) (by omega) (by have := SZ.out; simp; omega) ?_; intro g3 cap3 W3 ho3 hg3 hat3; have e3 : W3.heap[gr]? = some (.cells (rkA 0 key (.slice (some ⟨g, 0, none⟩) cs.length cp) (.slice (some ⟨g2, 0, none⟩) (bs.length + 1) cap)) 49 (0, 0)) := (hg3.block gr (by have := HRK.out.lt; simp; omega) (fun e => HRK.out.mark_ne e.symm)).trans ((Below.heap_alloc Z _ gr HRK.out.lt).trans HRK.out.blk); have v3 : W3.cell? ⟨gr, 17, none⟩ = some (.slice (some ⟨g, 0, none⟩) cs.length cp) := (by rw [cell_of_row W3 gr 17 _ _ _ e3, rkA_17 _ _ _ _ HRK.out.k16]); have f3 : W3.frozen? ⟨gr, 17, none⟩ = false := (by simp [World.frozen?, e3]); have E3 := Lib.hid e3; have HO3 := Lib.hid ho3; have HG3 := Lib.hid hg3; have HA3 := Lib.hid hat3; clear e3 ho3 hg3 hat3))
           have hend := rmark_end (r := ⟨(xs, ty), A', c'⟩) HRK.out (((HY.out.2.2.lower hbx).staysB (fun i hi => HON.out.2.2 i hi)) |> fun q => by rw [NL.out] at q; exact q) E3.out HO3.out HG3.out HA3.out
           go_ret
           refine ⟨by rw [HT.out]; rfl, _, _, ⟨(xs, ty), A', c'⟩, [⟨⟨2, xs, ys, ty⟩, A', c', yA, yc⟩], by rw [HT.out], ?_, .inr ⟨j, ⟨(ys, ty), yA, yc⟩, ⟨⟨2, xs, ys, ty⟩, A', c', yA, yc⟩, by rw [HT.out]; exact HN.out.found HYm.out rfl, HYm.out, rfl, by rw [HT.out], rfl, rfl⟩, hend.1, ?_, hend.2.2.1.low (HON.out.1.size), HON.out.2.1⟩
           · have := ((HY.out.2.2.staysB (fun i hi => HON.out.2.2 i hi)).staysB hend.2.2.2).lower BW.out.size
             rw [NL.out] at this
             exact this
           · exact (HON.out.1.mono (fun i hi => by rcases hi with e | e; exact .inl e; exact .inr (.inr e))).trans hend.2.1 (fun i hi => .inl (by rcases hi with e | e; exact .inl e; exact .inr (.inl e))))
      · have q : ((ty : Int) == (tg : Int)) = false := by simp; omega
        replace ht := Lib.hid ht
        go_wp2
        go_round
        case rel => exact ⟨j + 1, by omega, by go_num, HN.out.step HYm.out ht.out⟩
        case measure => simp [intOf]; omega
    · obtain rfl : j = cs.length := by omega
      have g1 : ((cs.length : Int) < (cs.length : Int)) = False := eq_false (by omega)
      have HRK := Lib.hid HY.out.2.1
      have SZ := Lib.hid (show base ≤ Y.heap.size from Nat.le_trans hbx HY.out.1.size)
      go_wp2_with (first
        | (have _ := HRK; refine wpList_append_rmark (Y.alloc (.cells #[.slice A' n c', .int .u64 (tg : Nat)] 67)) rfl (.tmp 86) (.tmp 90) rfl base _ cs rfl (HRK.out.mr.alloc _) ⟨(xs, tg), A', c'⟩ Y.heap.size rfl (by rw [NL.out]; exact heap_alloc_new Y _) (by omega) (by have := SZ.out; simp; omega) ?_; intro g3 cap3 W3 ho3 hg3 hat3; have e3 : W3.heap[gr]? = some (.cells (rkA 0 key (.slice B cs.length cp) bv) 49 (0, 0)) := (hg3.block gr (by have := HRK.out.lt; simp; omega) (fun e => HRK.out.mark_ne e.symm)).trans ((Below.heap_alloc Y _ gr HRK.out.lt).trans HRK.out.blk); have v3 : W3.cell? ⟨gr, 17, none⟩ = some (.slice B cs.length cp) := (by rw [cell_of_row W3 gr 17 _ _ _ e3, rkA_17 _ _ _ _ HRK.out.k16]); have f3 : W3.frozen? ⟨gr, 17, none⟩ = false := (by simp [World.frozen?, e3]); have E3 := Lib.hid e3; have HO3 := Lib.hid ho3; have HG3 := Lib.hid hg3; have HA3 := Lib.hid hat3; clear e3 ho3 hg3 hat3))
      have hend := rmark_end (r := ⟨(xs, tg), A', c'⟩) HY.out.2.1 (by have := HY.out.2.2.lower hbx; rw [NL.out] at this; exact this) E3.out HO3.out HG3.out HA3.out
      go_ret
      refine ⟨by rw [HT.out]; rfl, _, bv, ⟨(xs, tg), A', c'⟩, [], by rw [HT.out], ?_, .inl ⟨by rw [HT.out]; exact hNT.none, rfl⟩, by rw [List.append_nil]; exact hend.1, Only.below hY1.out (hend.2.1.mono (fun i hi => by rcases hi with e | e; exact .inl e; exact .inr (.inl e))), hend.2.2.1.low hY1.out.size, Near.refl _ _⟩
      have := (HY.out.2.2.staysB hend.2.2.2).lower BW.out.size
      rw [NL.out] at this
      exact this
end
end Go.Proofs.Ytpibmccofjpelaa
