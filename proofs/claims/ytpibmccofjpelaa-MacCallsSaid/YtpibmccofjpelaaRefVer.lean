/- The document's book is asked whether a tag is a message's. No statement is proved here. -/
import Derived.Test.YtpibmccofjpelaaRBook
import Derived.Test.YtpibmccofjpelaaSumEq
namespace Go.Proofs.Ytpibmccofjpelaa
open Go.RowKit Go.Maps
set_option linter.unusedVariables false
set_option linter.unusedSimpArgs false

theorem find_at {cs : List Mm} {xs : List Nat} {N : Nat} (h : findM (cs.map (·.m)) xs = N + 1) : ∃ y, cs[N]? = some y ∧ y.m.1 = xs := by
  unfold findM at h
  obtain ⟨x, hx, hp⟩ := fN_at _ _ N h
  rw [List.getElem?_map] at hx
  cases hc : cs[N]? with
  | none => rw [hc] at hx; cases hx
  | some y =>
    rw [hc] at hx
    simp only [Option.map_some, Option.some.injEq] at hx
    subst hx
    exact ⟨y, rfl, by simpa using hp⟩
theorem wpList_load_run {ops : Array Oper} {rest : List Oper} {o : Oper} {a : Act} {Q : Exit → Act → World → Prop} {W : World} (ty : TypeId) (x : Operand) (ho : o.op = .load ty x) (hw : Region.wanted o (yielded ops a.tmps) = true) (p : Addr) (v : Value)
    (hx : a.eval x = .pointer (some p)) (hl : (loadVar ty p).run Try.prog W = .ok v W) (k : wpList Try.prog ops Q rest (a.put o.dst v) W) : wpList Try.prog ops Q (o :: rest) a W := by
  unfold wpList
  rw [if_pos hw]
  refine .inl ?_
  unfold Oper.wp execOp
  simp only [ho, hx, Instr.loadAt, Instr.sureAddr, Sem.run_bind, Sem.run_pure, Result.andThen_ok, hl]
  exact k
/-- Bytes, nil too, are put behind bytes that the call owns. -/
theorem step_append_any {ops : Array Oper} {o : Oper} {a : Act} {K : Act → World → Prop} {Q : Exit → Act → World → Prop} {E : Prop} (w : World) (hgd : o.guard = none) (s x : Operand)
    (ho : o.op = .call { callee := .builtin .append, args := #[s, x], argTypes := #[24, 24] })
    (base : Nat) (A : Option Addr) (n c : Nat) (xs : List Nat) (hs : a.eval s = .slice A n c) (hown : Own w base A n c xs)
    (B : Nat) (A2 : Option Addr) (m c2 : Nat) (ys : List Nat) (hx : a.eval x = .slice A2 m c2) (hr : Row w B A2 m c2 ys)
    (hlen : n + m ≤ 1000000) (hbase : base ≤ w.heap.size)
    (h : ∀ A' c' w', Own w' base A' (n + m) c' (xs ++ ys) → w.grownBy w' (Value.slice A n c).ownBlock → K (a.put o.dst (.slice A' (n + m) c')) w') :
    if Region.wanted o (yielded ops a.tmps) = true then Oper.wp Try.prog o a w K Q else E := by
  cases A2 with
  | some ad => exact step_append_row w hgd s x ho base A n c xs hs hown B ad m c2 ys hx hr hlen hbase h
  | none =>
    have hw : Region.wanted o (yielded ops a.tmps) = true := by simp [Region.wanted, hgd]
    rw [if_pos hw]
    obtain ⟨i0, hi, hz0, hz1, hz2⟩ := info_parts info5
    obtain ⟨h1, h2, h3, h4, h5, h6⟩ := hr
    have hc := h5 rfl
    subst hc
    have hm : m = 0 := by omega
    subst hm
    have hy : ys = [] := List.eq_nil_of_length_eq_zero h1
    subst hy
    have hrun := run_append_owned_none (P := Try.prog) (w := w) base 24 o.type 5 i0 1 Try.underlying24 hi _ n (vals xs) hown.2.2
    unfold Oper.wp
    simp [execOp, ho, resolve, invoke, builtin, hs, hx, hrun, Result.andThen]
    exact h A c w (by simpa using hown) (World.grownBy.refl w _)
attribute [local irreducible] findM firstM ssum rkA
section
variable {base gr : Nat} {key : List Nat} {cs : List Mm} {bs : List Bm} {mv bv : Value} {A : Option Addr} {n c : Nat} {xs : List Nat} {w : World}
set_option maxRecDepth 20000 in
set_option maxHeartbeats 1000000 in
theorem rver_ideal (h : Rk w base gr 0 key cs bs mv bv) (ht : Tgs .ideal cs) (hx : Row w w.heap.size A n c xs) (t : Nat) (hl : cs.length ≤ 10000) :
    Calls Try.prog 24 #[.pointer (some ⟨gr, 0, none⟩), .slice A n c, .int .u64 (t : Nat)] w fun e w' => e = .returned (.bool (vrB .ideal (cs.map (·.m)) xs t)) ∧ ∃ k, w' = w.drewN k := by
  obtain ⟨B, cp, rfl, hr⟩ := h.krow
  have c0 := h.c0
  have c17 := h.c17
  have FI := Lib.hid (rfind_any gr B cs.length cp cs A n c xs w c17 hr hx hl)
  have hle := findM_le (cs.map (·.m)) xs
  rw [List.length_map] at hle
  cases hf : findM (cs.map (·.m)) xs with
  | zero =>
    have E : Hid (vrB .ideal (cs.map (·.m)) xs t = false) := by unfold vrB; rw [hf]; exact rfl
    rw [hf] at FI
    clear h hr hx hf ht
    go_enter Try.func24, Try.ntmps24
    go_wp2_with (go_at_call 28; refine FI.out.mono ?_; rintro e X1 ⟨rfl, k, rfl⟩)
    go_ret
    exact ⟨by rw [E.out]; rfl, k, rfl⟩
  | succ N =>
    obtain ⟨y, hy, he⟩ := find_at hf
    obtain ⟨g, rfl, e0, e1, _⟩ := hr.at_ N y hy
    have hN : N < cs.length := by omega
    have hy2 : y.m.2 = N + 1 := ht N y hy
    rw [hy2] at e1
    have E0 : vrB .ideal (cs.map (·.m)) xs t = decide (t = N + 1) := by unfold vrB; rw [hf]; show (decide (0 < N + 1) && decide (t = N + 1)) = _; rw [decide_eq_true (by omega), Bool.true_and]
    have E := Lib.hid E0
    clear E0
    rw [hf] at FI
    clear h hr hx hf ht hy he e0 hy2
    by_cases htn : t = N + 1
    · have q : (((N + 1 : Nat) : Int) == (t : Int)) = true := by simp [htn]
      have q2 : ((N : Int) + 1 == (t : Int)) = true := by simp; omega
      rw [decide_eq_true htn] at E
      replace htn := Lib.hid htn
      go_enter Try.func24, Try.ntmps24
      go_wp2_with (go_at_call 28; refine FI.out.mono ?_; rintro e X1 ⟨rfl, k, rfl⟩)
      all_goals (go_ret; exact ⟨by rw [E.out]; first | rfl | (congr 2; simpa using q), k, rfl⟩)
    · have q : (((N + 1 : Nat) : Int) == (t : Int)) = false := by simp; omega
      have q2 : ((N : Int) + 1 == (t : Int)) = false := by simp; omega
      rw [decide_eq_false htn] at E
      replace htn := Lib.hid htn
      go_enter Try.func24, Try.ntmps24
      go_wp2_with (go_at_call 28; refine FI.out.mono ?_; rintro e X1 ⟨rfl, k, rfl⟩)
      all_goals (go_ret; exact ⟨by rw [E.out]; first | rfl | (congr 2; simpa using q), k, rfl⟩)
theorem Rk.bad_ne {V : World} {kind : Int} (h : Rk V base gr kind key cs bs mv bv) : bv.ownBlock ≠ some gr := fun e => by
  obtain ⟨_, cur, hc⟩ := own_at h.bd e; rw [h.blk] at hc; injection hc with hc; injection hc with _ hc; cases hc
theorem Rk.mark_ne {V : World} {kind : Int} (h : Rk V base gr kind key cs bs mv bv) : mv.ownBlock ≠ some gr := fun e => by
  obtain ⟨_, cur, hc⟩ := own_at h.mr e; rw [h.blk] at hc; injection hc with hc; injection hc with _ hc; cases hc
/-- Bytes were put into a new row. -/
theorem clone_frame {X Y : World} {kind : Int} {A' : Option Addr} {c' : Nat} (h : Rk X base gr kind key cs bs mv bv) (hO : Own Y X.heap.size A' (0 + n) c' ([] ++ xs)) (hg : (X.drew.alloc (.cells #[] 5)).grownBy Y (Value.slice (some ⟨X.heap.size, 0, none⟩) 0 0).ownBlock) : Below X.heap.size X Y ∧ Rk Y base gr kind key cs bs mv bv ∧ Own Y X.heap.size A' n c' xs := by
  have hb : Below X.heap.size X Y := ⟨hg.os, hg.tape, hg.output, by have := hg.size; simp at this; omega, fun i hi => (hg.block i (by simp; omega) (by intro e; injection e with e; have : i = X.heap.size := e; omega)).trans (Below.heap_alloc X.drew _ i hi)⟩
  exact ⟨hb, h.below hb, by simpa using hO⟩
theorem rset18 {W : World} {kind : Int} (h : W.heap[gr]? = some (.cells (rkA kind key mv bv) 49 (0, 0))) (hk : key.length = 16) (v : Value) : (W.setCell ⟨gr, 18, none⟩ v).heap[gr]? = some (.cells (rkA kind key mv v) 49 (0, 0)) := by
  rw [← rkA_set18 kind key mv bv hk v]
  simp [World.setCell, Array.getElem?_modify, h]
theorem rset17 {W : World} {kind : Int} (h : W.heap[gr]? = some (.cells (rkA kind key mv bv) 49 (0, 0))) (hk : key.length = 16) (v : Value) : (W.setCell ⟨gr, 17, none⟩ v).heap[gr]? = some (.cells (rkA kind key v bv) 49 (0, 0)) := by
  rw [← rkA_set17 kind key mv bv hk v]
  simp [World.setCell, Array.getElem?_modify, h]
theorem Rk.rows_ne {V : World} {kind : Int} (h : Rk V base gr kind key cs bs mv bv) (g : Nat) : mv.ownBlock = some g → bv.ownBlock ≠ some g := fun e1 e2 => by
  obtain ⟨_, c1, h1⟩ := own_at h.mr e1
  obtain ⟨_, c2, h2⟩ := own_at h.bd e2
  rw [h1] at h2; injection h2 with h2; injection h2 with _ h2; cases h2
/-- A bad event has been put behind the others. -/
theorem rbad_end {kind : Int} {Y W2 : World} {r : Bm} {o : Obj} {g2 cap : Nat} (hbw : Below w.heap.size w Y) (hY : Rk Y base gr kind key cs bs mv bv) (hr : r.ok Y base)
    (e2 : W2.heap[gr]? = some (.cells (rkA kind key mv bv) 49 (0, 0))) (ho2 : W2.ownsRow base 62 4 (.slice (some ⟨g2, 0, none⟩) (bs.length + 1) cap) (bs.length + 1) (bvals (bs ++ [r])))
    (hg2 : (Y.alloc o).grownBy W2 bv.ownBlock) (hat2 : bv.ownBlock = some g2 ∨ g2 = (Y.alloc o).heap.size) :
    Rk (W2.setCell ⟨gr, 18, none⟩ (.slice (some ⟨g2, 0, none⟩) (bs.length + 1) cap)) base gr kind key cs (bs ++ [r]) mv (.slice (some ⟨g2, 0, none⟩) (bs.length + 1) cap) ∧ Only w (W2.setCell ⟨gr, 18, none⟩ (.slice (some ⟨g2, 0, none⟩) (bs.length + 1) cap)) (fun i => i = gr ∨ bv.ownBlock = some i) ∧ Near w bv (.slice (some ⟨g2, 0, none⟩) (bs.length + 1) cap) ∧ ∀ i, Byt Y i → (W2.setCell ⟨gr, 18, none⟩ (.slice (some ⟨g2, 0, none⟩) (bs.length + 1) cap)).heap[i]? = Y.heap[i]? := by
  have hs1 := hbw.size
  have hlt := hY.lt
  have hgs : W2.grownBy (W2.setCell ⟨gr, 18, none⟩ (.slice (some ⟨g2, 0, none⟩) (bs.length + 1) cap)) (some gr) := grown_set (World.grownBy.refl W2 _) rfl _
  have hne : g2 ≠ gr := fun e => by
    subst e
    rcases hat2 with h | h
    · exact hY.bad_ne h
    · simp at h; omega
  have far : ∀ i, i ≠ gr → bv.ownBlock ≠ some i → i < Y.heap.size → (W2.setCell ⟨gr, 18, none⟩ (.slice (some ⟨g2, 0, none⟩) (bs.length + 1) cap)).heap[i]? = Y.heap[i]? := fun i h1 h2 h3 =>
    (Below.heap_setCell W2 _ _ i h1).trans ((hg2.block i (by simp; omega) (fun e => h2 e.symm)).trans (Below.heap_alloc Y o i h3))
  have byt : ∀ i, Byt Y i → (W2.setCell ⟨gr, 18, none⟩ (.slice (some ⟨g2, 0, none⟩) (bs.length + 1) cap)).heap[i]? = Y.heap[i]? := fun i hi =>
    far i (fun e => hY.not_byt (.inl e) hi) (fun e => hY.not_byt (.inr (.inr e)) hi) hi.lt
  refine ⟨⟨rset18 e2 hY.k16 _, ?_, ?_, fun x hx => (hY.om x hx).staysB byt, ?_, hY.lo, hY.k16⟩, ⟨hg2.os.trans hbw.os, hg2.tape.trans hbw.tape, hg2.output.trans hbw.output, ?_, ?_⟩, ?_, byt⟩
  · exact owns_stays hY.mr (fun g hg => far g (fun e => hY.mark_ne (e ▸ hg)) (hY.rows_ne g hg) (hY.in_ (.inr (.inl hg))))
  · have e : (bs ++ [r]).length = bs.length + 1 := by simp
    rw [e]
    exact ho2.kept hgs (.inr (fun e => by injection e with e; exact hne e))
  · intro x hx
    rcases List.mem_append.1 hx with hx | hx
    · exact (hY.ob x hx).staysB byt
    · simp only [List.mem_singleton] at hx
      subst hx
      exact hr.staysB byt
  · have h1 := hg2.size
    simp [World.setCell] at h1 ⊢
    omega
  · intro i hi hn
    exact (far i (fun e => hn (.inl e)) (fun e => hn (.inr e)) (by omega)).trans (hbw.block i hi)
  · rcases hat2 with h | h
    · exact .inl h.symm
    · exact .inr ⟨g2, by rw [h]; simp; omega, rfl⟩
theorem rsumK (hk : key.length = 16) (bk : ∀ x ∈ key, x < 256) (hn : n ≤ 1000) : ∀ W, Row W W.heap.size A n c xs → Calls Try.prog 14 #[.agg (arrV key), .slice A n c] W fun e w' => e = .returned (.int .u64 (ssum key xs : Nat)) ∧ Below W.heap.size W w' := fun W hW => by
  have := refSum_any key A n c xs W hk bk hW (by omega)
  rw [← ssum_eq key xs hk bk hW.bytes] at this
  exact this
attribute [local irreducible] arrV
set_option maxRecDepth 20000 in
set_option maxHeartbeats 1000000 in
theorem rver_no (h : Rk w base gr 1 key cs bs mv bv) (bk : ∀ x ∈ key, x < 256) (hx : Row w w.heap.size A n c xs) (hn : n ≤ 1000) (t : Nat) (hl : cs.length ≤ 10000) (htn : ¬ t = ssum key xs) :
    Calls Try.prog 24 #[.pointer (some ⟨gr, 0, none⟩), .slice A n c, .int .u64 (t : Nat)] w fun e w' => e = .returned (.bool false) ∧ Below w.heap.size w w' := by
  obtain ⟨B, cp, rfl, hr⟩ := h.krow
  have FI := Lib.hid (rfind_any gr B cs.length cp cs A n c xs w h.c17 hr hx hl)
  have SU := Lib.hid (rsumK (A := A) (c := c) (xs := xs) h.k16 bk hn)
  have q : (((ssum key xs : Nat) : Int) != (t : Int)) = true := by simp; omega
  have HX := Lib.hid hx
  have LK := Lib.hid (fun k => (h.drewN k).loadKey)
  have C0 := Lib.hid (fun k => (h.drewN k).c0)
  generalize ssum key xs = s at *
  generalize findM (cs.map (·.m)) xs = N at *
  clear h hr hx htn
  go_enter Try.func24, Try.ntmps24
  go_wp2_with (first
    | (go_at_call 28; refine FI.out.mono ?_; rintro e X1 ⟨rfl, k, rfl⟩; have c0 := C0.out k)
    | (have _ := c0; refine wpList_load_run 23 (.tmp 32) rfl rfl ⟨gr, 1, none⟩ _ rfl (LK.out k) ?_)
    | (go_at_call 14; refine (SU.out _ (HX.out.drewN k)).mono ?_; rintro e X2 ⟨rfl, hb2⟩))
  go_ret
  exact ⟨rfl, (below_drewN (Below.refl _ _)).trans hb2⟩
set_option maxRecDepth 20000 in
set_option maxHeartbeats 1000000 in
theorem rver_has (h : Rk w base gr 1 key cs bs mv bv) (bk : ∀ x ∈ key, x < 256) (hx : Row w w.heap.size A n c xs) (hn : n ≤ 1000) (hl : cs.length ≤ 10000) (h0 : 0 < findM (cs.map (·.m)) xs) :
    Calls Try.prog 24 #[.pointer (some ⟨gr, 0, none⟩), .slice A n c, .int .u64 (ssum key xs : Nat)] w fun e w' => e = .returned (.bool true) ∧ Below w.heap.size w w' := by
  obtain ⟨B, cp, rfl, hr⟩ := h.krow
  have FI := Lib.hid (rfind_any gr B cs.length cp cs A n c xs w h.c17 hr hx hl)
  have SU := Lib.hid (rsumK (A := A) (c := c) (xs := xs) h.k16 bk hn)
  have HX := Lib.hid hx
  have LK := Lib.hid (fun k => (h.drewN k).loadKey)
  have C0 := Lib.hid (fun k => (h.drewN k).c0)
  generalize ssum key xs = s at *
  generalize findM (cs.map (·.m)) xs = N at *
  have q : ((s : Int) != (s : Int)) = false := by simp
  have q2 : ((N : Int) - 1 < 0) = False := eq_false (by omega)
  clear h hr hx
  go_enter Try.func24, Try.ntmps24
  go_wp2_with (first
    | (go_at_call 28; refine FI.out.mono ?_; rintro e X1 ⟨rfl, k, rfl⟩; have c0 := C0.out k)
    | (have _ := c0; refine wpList_load_run 23 (.tmp 32) rfl rfl ⟨gr, 1, none⟩ _ rfl (LK.out k) ?_)
    | (go_at_call 14; refine (SU.out _ (HX.out.drewN k)).mono ?_; rintro e X2 ⟨rfl, hb2⟩))
  go_ret
  exact ⟨rfl, (below_drewN (Below.refl _ _)).trans hb2⟩
set_option maxRecDepth 20000 in
set_option maxHeartbeats 1000000 in
theorem rver_forged (h : Rk w base gr 1 key cs bs mv bv) (bk : ∀ x ∈ key, x < 256) (hx : Row w w.heap.size A n c xs) (hn : n ≤ 1000) (hl : cs.length ≤ 10000) (h0 : findM (cs.map (·.m)) xs = 0) (hb : base ≤ w.heap.size) (hbs : bs.length < 1000) :
    Calls Try.prog 24 #[.pointer (some ⟨gr, 0, none⟩), .slice A n c, .int .u64 (ssum key xs : Nat)] w fun e w' => e = .returned (.bool true) ∧ ∃ bv' r, r.e = ⟨1, xs, [], ssum key xs⟩ ∧ Rk w' base gr 1 key cs (bs ++ [r]) mv bv' ∧ Only w w' (fun i => i = gr ∨ bv.ownBlock = some i) ∧ Near w bv bv' ∧ r.ok w' w.heap.size := by
  obtain ⟨B, cp, rfl, hr⟩ := h.krow
  have FI := Lib.hid (rfind_any gr B cs.length cp cs A n c xs w h.c17 hr hx hl)
  have SU := Lib.hid (rsumK (A := A) (c := c) (xs := xs) h.k16 bk hn)
  have HX := Lib.hid hx
  have LK := Lib.hid (fun k => (h.drewN k).loadKey)
  have C0 := Lib.hid (fun k => (h.drewN k).c0)
  have H := Lib.hid h
  rw [h0] at FI
  generalize ssum key xs = s at *
  have q : ((s : Int) != (s : Int)) = false := by simp
  clear h hr hx h0
  go_enter Try.func24, Try.ntmps24
  go_wp2_with (first
    | (go_at_call 28; refine FI.out.mono ?_; rintro e X1 ⟨rfl, k, rfl⟩; have c0 := C0.out k)
    | (have _ := c0; refine wpList_load_run 23 (.tmp 32) rfl rfl ⟨gr, 1, none⟩ _ rfl (LK.out k) ?_)
    | (go_at_call 14; refine (SU.out _ (HX.out.drewN k)).mono ?_; rintro e X2 ⟨rfl, hb2⟩))
  have H2 := Lib.hid ((H.out.drewN k).below hb2)
  have BW := Lib.hid (show Below w.heap.size w X2 from (below_drewN (Below.refl _ _)).trans hb2)
  have RX := Lib.hid ((HX.out.below BW.out).wider BW.out.size)
  clear hb2 FI SU LK C0 c0
  have c18 := H2.out.c18
  have dA : (X2.alloc (.cells #[] 5)).cell? ⟨gr, 18, none⟩ = some bv := (H2.out.below ((Below.refl _ _).alloc (Nat.le_refl _) _)).c18
  have NL : Hid (n = xs.length) := RX.out.len.symm
  go_region_law (first
    | (have := HY; refine step_append_bad (Y.alloc (.cells (badV 1 (.slice A' n c') (.slice none 0 0) (s : Nat)) 62)) rfl _ _ rfl base bv bs rfl (HY.out.2.1.bd.alloc _) ⟨⟨1, xs, [], s⟩, A', c', none, 0⟩ Y.heap.size rfl (by rw [NL.out]; exact heap_alloc_new Y _) (by omega) (by have := HY.out.1.size; have := BW.out.size; simp; omega) ?_; intro g2 cap W2 ho2 hg2 hat2; have e2 : W2.heap[gr]? = some (.cells (rkA 1 key (.slice B cs.length cp) bv) 49 (0, 0)) := (hg2.block gr (by have := HY.out.2.1.lt; simp; omega) (fun e => HY.out.2.1.bad_ne e.symm)).trans ((Below.heap_alloc Y _ gr HY.out.2.1.lt).trans HY.out.2.1.blk); have v2 : W2.cell? ⟨gr, 18, none⟩ = some bv := by rw [cell_of_row W2 gr 18 _ _ _ e2, rkA_18 _ _ _ _ HY.out.2.1.k16]
       have f2 : W2.frozen? ⟨gr, 18, none⟩ = false := by simp [World.frozen?, e2]
       have E2 := Lib.hid e2; have HO2 := Lib.hid ho2; have HG2 := Lib.hid hg2; have HA2 := Lib.hid hat2; clear e2 ho2 hg2 hat2)
    | (refine step_append_any (X2.drew.alloc (.cells #[] 5)) rfl _ _ rfl X2.heap.size (some ⟨X2.heap.size, 0, none⟩) 0 0 [] rfl (Own.empty (w := X2.drew) (Nat.le_refl _)) X2.heap.size A n c xs rfl (RX.out.alloc (Nat.le_refl _) _) (by omega) (by simp) ?_; intro A' c' Y hO hg; have HY := Lib.hid (clone_frame H2.out hO hg); have d18 := HY.out.2.1.c18; have dB : ∀ o, (Y.alloc o).cell? ⟨gr, 18, none⟩ = some bv := fun o => (HY.out.2.1.below ((Below.refl _ _).alloc (Nat.le_refl _) _)).c18
       clear hO hg))
  all_goals
    (have hY := HY.out
     have hO : Own Y X2.heap.size A' xs.length c' xs := by rw [← NL.out]; exact hY.2.2
     have hbY : Below w.heap.size w Y := BW.out.trans (hY.1.mono BW.out.size)
     have hr : Bm.ok Y X2.heap.size ⟨⟨1, xs, [], s⟩, A', c', none, 0⟩ := ⟨hO, Own.nil_ _ _, by rw [← NL.out]; exact hn, by simp⟩
     have hend := rbad_end (r := ⟨⟨1, xs, [], s⟩, A', c', none, 0⟩) hbY hY.2.1 (hr.low (Nat.le_trans hb BW.out.size)) E2.out HO2.out HG2.out HA2.out
     go_wp2_with fail
     go_ret
     exact ⟨rfl, _, _, rfl, hend.1, hend.2.1, hend.2.2.1, (hr.staysB hend.2.2.2).low BW.out.size⟩)
end
end Go.Proofs.Ytpibmccofjpelaa
