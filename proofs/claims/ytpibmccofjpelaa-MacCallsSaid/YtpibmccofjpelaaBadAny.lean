/- A book tells its bad events, in memory of their own. No statement is proved here. -/
import Derived.Test.YtpibmccofjpelaaGVer
import Derived.Deep.MidRow
import Derived.Deep.Upon
namespace Go.Proofs.Ytpibmccofjpelaa
open Go.RowKit Go.Maps
set_option linter.unusedVariables false
set_option linter.unusedSimpArgs false

theorem rangeAt_append {W : World} {b o : Nat} {xs ys : List Value} (h1 : W.rangeAt b o xs) (h2 : W.rangeAt b (o + xs.length) ys) : W.rangeAt b o (xs ++ ys) := fun j v hv => by
  rcases Nat.lt_or_ge j xs.length with hj | hj
  · rw [List.getElem?_append_left hj] at hv
    exact h1 j v hv
  · rw [List.getElem?_append_right hj] at hv
    have := h2 _ v hv
    rwa [show o + xs.length + (j - xs.length) = o + j by omega] at this
/-- Told bad events: a row of them in block g, made by the call. -/
structure ZSt (w : World) (g L : Nat) (cs : List Bm) (W : World) : Prop where
  bel : Below w.heap.size w W
  lo : w.heap.size ≤ g
  lt : g < W.heap.size
  th : W.there g 0 (L * 4)
  rng : W.rangeAt g 0 (bvals cs)
  own : ∀ r ∈ cs, r.ok W (g + 1)
theorem Bm.ok.below {V V2 : World} {base : Nat} {r : Bm} (h : r.ok V base) (hb : Below V.heap.size V V2) : r.ok V2 base := ⟨h.1.below hb, h.2.1.below hb, h.2.2⟩
theorem rangeAt_block {W W' : World} {g o : Nat} {xs : List Value} (h : W.rangeAt g o xs) (hb : W'.heap[g]? = W.heap[g]?) : W'.rangeAt g o xs := fun j v hv => (World.cell?_of_block (a := ⟨g, o + j, none⟩) hb).trans (h j v hv)
theorem there_block {W W' : World} {g o n : Nat} (h : W.there g o n) (hb : W'.heap[g]? = W.heap[g]?) : W'.there g o n := fun j hj => by
  rw [World.cell?_of_block (a := ⟨g, o + j, none⟩) hb, World.frozen?_of_block (a := ⟨g, o + j, none⟩) hb]
  exact h j hj
section
variable {w W W' : World} {g L : Nat} {cs : List Bm}
theorem ZSt.call (h : ZSt w g L cs W) (hb : Below W.heap.size W W') : ZSt w g L cs W' :=
  ⟨h.bel.trans (hb.mono h.bel.size), h.lo, Nat.lt_of_lt_of_le h.lt hb.size, there_block h.th (hb.block g h.lt), rangeAt_block h.rng (hb.block g h.lt), fun r hr => (h.own r hr).below hb⟩
theorem setCells_size (W : World) (b : Nat) : ∀ (vs : List Value) (o : Nat), (W.setCells b o vs).heap.size = W.heap.size := by
  intro vs
  induction vs generalizing W with
  | nil => intro o; rfl
  | cons v r ih =>
    intro o
    show ((W.setCell ⟨b, o, none⟩ v).setCells b (o + 1) r).heap.size = _
    rw [ih]
    simp [World.setCell]
theorem setCells_rest (W : World) (b : Nat) : ∀ (vs : List Value) (o : Nat), (W.setCells b o vs).os = W.os ∧ (W.setCells b o vs).tape = W.tape ∧ (W.setCells b o vs).output = W.output := by
  intro vs
  induction vs generalizing W with
  | nil => intro o; exact ⟨rfl, rfl, rfl⟩
  | cons v r ih => intro o; exact ih (W.setCell ⟨b, o, none⟩ v) (o + 1)
theorem ZSt.put (h : ZSt w g L cs W) (hk : cs.length < L) (r : Bm) (hr : r.ok W (g + 1)) : ZSt w g L (cs ++ [r]) (W.setCells g (cs.length * 4) r.cs) := by
  have far : ∀ i, i < W.heap.size → i ≠ g → (W.setCells g (cs.length * 4) r.cs).heap[i]? = W.heap[i]? := fun i h1 h2 => World.heap_setCells_other W g _ _ h1 h2
  have keep : ∀ {A : Option Addr} {n c : Nat} {xs : List Nat}, Own W (g + 1) A n c xs → Own (W.setCells g (cs.length * 4) r.cs) (g + 1) A n c xs := fun {A n c xs} ho => by
    refine ⟨ho.1, ho.2.1, ho.2.2.1, ?_⟩
    rcases ho.2.2.2 with h0 | ⟨b, cap, cur, hv, hg, hb, q⟩
    · exact .inl h0
    · exact .inr ⟨b, cap, cur, hv, hg, (far b (heap_lt hb) (by omega)).trans hb, q⟩
  obtain ⟨s1, s2, s3⟩ := setCells_rest W g r.cs (cs.length * 4)
  have lo := h.lo
  refine ⟨h.bel.trans ⟨s1, s2, s3, by rw [setCells_size]; exact Nat.le_refl _, fun i hi => far i (Nat.lt_of_lt_of_le hi h.bel.size) (by omega)⟩, h.lo, by rw [setCells_size]; exact h.lt, World.there_setCells h.th _ _ _, ?_, fun x hx => ?_⟩
  · rw [bvals_append]
    refine rangeAt_append (World.rangeAt_setCells_apart h.rng g _ _ (.inr (.inl (by rw [bvals_length]; omega)))) ?_
    have e : bvals [r] = r.cs := by simp [bvals]
    rw [e, bvals_length, Nat.zero_add]
    refine World.rangeAt_setCells_same W g _ _ fun j hj => ?_
    have hj4 : j < 4 := hj
    have := h.th (cs.length * 4 + j) (by omega)
    rwa [Nat.zero_add] at this
  · rcases List.mem_append.1 hx with hx | hx
    · exact ⟨keep (h.own x hx).1, keep (h.own x hx).2.1, (h.own x hx).2.2⟩
    · simp only [List.mem_singleton] at hx
      subst hx
      exact ⟨keep hr.1, keep hr.2.1, hr.2.2⟩
end
theorem make_bads (L : Nat) (hL : L ≤ 1000) (W : World) : ∃ C : Array Value, C.size = L * 4 ∧ (Instr.makeSlice 47 (.int .i64 (L : Nat)) (.int .i64 (L : Nat))).run Try.prog W = .ok (.slice (some ⟨W.heap.size, 0, none⟩) L L) (W.alloc (.cells C 62)) := by
  obtain ⟨i0, hi, hz0, hz1, hz2⟩ := info_parts info62
  refine ⟨madeCells (Value.agg (badV 0 (.slice none 0 0) (.slice none 0 0) 0)).cells (L * 4), size_madeCells _ _, ?_⟩
  have := run_makeSlice (P := Try.prog) W 47 62 i0 _ Try.underlying47 hi hz0 .i64 .i64 (L : Nat) (L : Nat) (by omega) (Int.le_refl _) (by rw [hz1]; omega) (by rw [hz2]; omega) (by omega)
  rw [hz1] at this
  simpa using this
theorem badV_all (k t : Int) (A1 A2 : Option Addr) (n1 c1 n2 c2 : Nat) : (badV k (.slice A1 n1 c1) (.slice A2 n2 c2) t).all (·.oneCell') = true := by simp [badV, Value.oneCell']
theorem wpList_put_bad {W : World} {g o : Nat} {k t : Int} {A1 A2 : Option Addr} {n1 c1 n2 c2 : Nat} {ops : Array Oper} {rest : List Oper} {op : Oper} {a : Act} {Q : Exit → Act → World → Prop} (TH : W.there g o 4) (u y : Operand) (ho : op.op = .store 62 u y) (hgd : op.guard = none) (hx : a.eval u = .pointer (some ⟨g, o, none⟩)) (hy : a.eval y = .agg (badV k (.slice A1 n1 c1) (.slice A2 n2 c2) t))
    (kk : wpList Try.prog ops Q rest (a.put op.dst undef) (W.setCells g o [.int .i64 k, .slice A1 n1 c1, .slice A2 n2 c2, .int .u64 t])) : wpList Try.prog ops Q (op :: rest) a W :=
  wpList_store_mid hgd 62 u y ho g o (badV k (.slice A1 n1 c1) (.slice A2 n2 c2) t) hx hy TH sz62 (badV_all _ _ _ _ _ _ _ _) kk
def BaRel (w : World) (g L : Nat) (rs : List Bm) (i : Value) (wr : World) : Prop :=
  ∃ (k : Nat) (cs : List Bm), k ≤ L ∧ i = .int .i64 (k : Nat) ∧ cs.length = k ∧ cs.map (·.e) = (rs.take k).map (·.e) ∧ ZSt w g L cs wr
set_option maxRecDepth 20000 in
set_option maxHeartbeats 600000 in
theorem bad_any (base gk : Nat) (K : Kd) (ms : List Mark) (rs : List Bm) (gl : Nat) (sv : Value) (m1 m2 : Nat) (bv : Value) (w : World) (h : Gk w base gk K ms rs gl sv m1 m2 bv) (hL : rs.length ≤ 1000) :
    Calls Try.prog 32 #[.pointer (some ⟨gk, 0, none⟩)] w fun e w' => ∃ g cs, e = .returned (.slice (some ⟨g, 0, none⟩) rs.length rs.length) ∧ cs.map (·.e) = rs.map (·.e) ∧ ZSt w g rs.length cs w' := by
  obtain ⟨C, hC, mk⟩ := make_bads rs.length hL w
  have hB := (Below.refl w.heap.size w).alloc (Nat.le_refl _) (.cells C 62)
  have c2 := h.c2
  have c3 := (h.below hB).c2
  have Z0 : Hid (ZSt w w.heap.size rs.length [] (w.alloc (.cells C 62))) := ⟨hB, Nat.le_refl _, by simp, fun j hj => by
    have hb := heap_alloc_new w (.cells C 62)
    refine ⟨?_, ?_⟩
    · rw [cell_of_row _ w.heap.size _ _ _ _ hb, Nat.zero_add, Array.getElem?_eq_getElem (by omega)]; rfl
    · simp only [World.frozen?, hb]; simp, fun j v hv => by simp [bvals] at hv, fun r hr => absurd hr (by simp)⟩
  have HH := Lib.hid h
  obtain ⟨A0, cap0, rfl⟩ : ∃ A0 cap0, bv = .slice A0 rs.length cap0 := by
    rcases h.bad.2 with ⟨hv, hn⟩ | ⟨g, cap, cur, hv, _⟩
    · exact ⟨none, 0, by rw [hv, hn]⟩
    · exact ⟨_, cap, hv⟩
  clear h hB hC
  generalize hLL : rs.length = L at *
  go_enter Try.func32, Try.ntmps32
  go_wp2
  go_loopw [17] (BaRel w w.heap.size L rs) (fun i _ => L - (intOf i).toNat)
  case atStart => exact ⟨0, [], by omega, rfl, rfl, by simp, Z0.out⟩
  case round =>
    obtain ⟨k, cs, hk, rfl, hcl, hce, hZ⟩ := hrel
    by_cases hlt : k < L
    · have g1 : ((k : Int) < (L : Int)) = True := eq_true (by omega)
      have hx : rs[k]? = some rs[k] := List.getElem?_eq_getElem (by omega)
      have TK : Hid ((rs.take (k + 1)).map (·.e) = (rs.take k).map (·.e) ++ [rs[k].e]) := by rw [List.take_succ_eq_append_getElem (by omega), List.map_append]; exact rfl
      have hmem : rs[k] ∈ rs := List.getElem_mem _
      generalize rs[k] = r at *
      have HK := HH.out.below hZ.bel
      have hok := HK.own r hmem
      obtain ⟨⟨ek, exs, eys, et⟩, A1, c1, A2, cz⟩ := r
      have V0 : Hid (∀ V, Below wr.heap.size wr V → Calls Try.prog 47 #[.agg (badV (ek : Nat) (.slice A1 exs.length c1) (.slice A2 eys.length cz) (et : Nat))] V _) := fun V hV => copied_any (ek : Nat) (et : Nat) A1 A2 exs.length c1 eys.length cz exs eys V.heap.size V (hok.1.below hV).row (hok.2.1.below hV).row (Nat.le_refl _) hok.2.2.1 hok.2.2.2
      have hcell := fun j (hj : j < 4) => bvals_at rs k j _ hx hj
      obtain ⟨g0, rfl, e0, e1, e2, e3⟩ : ∃ g0, A0 = some ⟨g0, 0, none⟩ ∧ wr.cell? ⟨g0, k * 4, none⟩ = some (.int .i64 (ek : Nat)) ∧ wr.cell? ⟨g0, k * 4 + 1, none⟩ = some (.slice A1 exs.length c1) ∧ wr.cell? ⟨g0, k * 4 + 2, none⟩ = some (.slice A2 eys.length cz) ∧ wr.cell? ⟨g0, k * 4 + 3, none⟩ = some (.int .u64 (et : Nat)) := by
        have hbad := HK.bad
        rw [hLL] at hbad
        rcases hbad.2 with ⟨_, h0⟩ | ⟨g, cap, cur, hv, _⟩
        · omega
        · injection hv with h1 h2 h3
          subst h1
          have ca := fun j (hj : j < 4) => (hbad.cellAt (k * 4 + j) (by omega)).trans (hcell j hj)
          exact ⟨g, rfl, ca 0 (by omega), ca 1 (by omega), ca 2 (by omega), ca 3 (by omega)⟩
      have B1 := Lib.hid ((Below.refl wr.heap.size wr).alloc (Nat.le_refl _) (.cells (badV (ek : Nat) (.slice A1 exs.length c1) (.slice A2 eys.length cz) (et : Nat)) 62))
      have Z1 := Lib.hid (hZ.call B1.out)
      have CP := Lib.hid (V0.out _ B1.out)
      have HZ := Lib.hid hZ
      have HLn := Lib.hid hok.2.2
      have HCE := Lib.hid hce
      clear hZ hce hok HK V0 hcell hx hmem
      go_wp2_with (first
        | (go_at_call 47; refine CP.out.mono ?_; rintro e X2 ⟨A1', c1', A2', c2', rfl, o1, o2, hb2⟩; have Z2 := Lib.hid (Z1.out.call hb2); have OO := Lib.hid (And.intro o1 o2); have TH : X2.there w.heap.size (k * 4) 4 := fun j hj => (by have := Z2.out.th (k * 4 + j) (by omega); rwa [Nat.zero_add] at this); clear o1 o2 hb2)
        | (refine wpList_put_bad TH _ _ rfl rfl rfl rfl ?_; clear TH))
      go_roundw
      case rel =>
        have lo1 := Z1.out.lt
        have P := Z2.out.put (by omega) ⟨⟨ek, exs, eys, et⟩, A1', c1', A2', c2'⟩ ⟨OO.out.1.lower (by omega), OO.out.2.lower (by omega), HLn.out.1, HLn.out.2⟩
        rw [hcl] at P
        exact ⟨k + 1, _, by omega, by go_num, by simp [hcl], by rw [List.map_append, HCE.out, TK.out]; rfl, P⟩
      case measure => simp [intOf]; omega
    · have hk2 : k = L := by omega
      have g1 : ((k : Int) < (L : Int)) = False := eq_false (by omega)
      go_wp2
      go_ret
      refine ⟨_, rfl, cs, ?_, hZ⟩
      rw [hce, hk2, ← hLL, List.take_length]
end Go.Proofs.Ytpibmccofjpelaa
