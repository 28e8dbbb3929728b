/- A book of any kind: a new event's messages lie in blocks that are new at that call. No statement is proved here. -/
import Derived.Test.YtpibmccofjpelaaAnyBook
namespace Go.Proofs.Ytpibmccofjpelaa
open Go.RowKit Go.Maps
set_option linter.unusedVariables false
set_option linter.unusedSimpArgs false

theorem note_endF {base gk : Nat} {K : Kd} {ms : List Mark} {rs : List Bm} {gl : Nat} {sv : Value} {m1 m2 : Nat} {bv : Value} {w X1 W2 : World} {r : Bm} {o : Obj} {g2 cap : Nat} (hb1 : Below w.heap.size w X1) (H1 : Gk X1 base gk K ms rs gl sv m1 m2 bv) (hb : base ≤ w.heap.size)
    (o1 : Own X1 w.heap.size r.A1 r.e.xs.length r.c1 r.e.xs) (o2 : Own X1 w.heap.size r.A2 r.e.ys.length r.c2 r.e.ys) (hn1 : r.e.xs.length ≤ 1000) (hn2 : r.e.ys.length ≤ 1000)
    (e2 : W2.heap[gk]? = some (.cells #[K.face, .pointer (some ⟨gl, 0, none⟩), bv] 80 (0, 0))) (ho2 : W2.ownsRow base 62 4 (.slice (some ⟨g2, 0, none⟩) (rs.length + 1) cap) (rs.length + 1) (bvals (rs ++ [r])))
    (hg2 : (X1.alloc o).grownBy W2 bv.ownBlock) (hat2 : bv.ownBlock = some g2 ∨ g2 = (X1.alloc o).heap.size) :
    Gk (W2.setCell ⟨gk, 2, none⟩ (.slice (some ⟨g2, 0, none⟩) (rs.length + 1) cap)) base gk K ms (rs ++ [r]) gl sv m1 m2 (.slice (some ⟨g2, 0, none⟩) (rs.length + 1) cap) ∧ Only w (W2.setCell ⟨gk, 2, none⟩ (.slice (some ⟨g2, 0, none⟩) (rs.length + 1) cap)) (fun i => i = gk ∨ bv.ownBlock = some i) ∧ ((Value.slice (some ⟨g2, 0, none⟩) (rs.length + 1) cap).ownBlock = bv.ownBlock ∨ ∃ i, w.heap.size ≤ i ∧ (Value.slice (some ⟨g2, 0, none⟩) (rs.length + 1) cap).ownBlock = some i) ∧ r.ok (W2.setCell ⟨gk, 2, none⟩ (.slice (some ⟨g2, 0, none⟩) (rs.length + 1) cap)) w.heap.size := by
  have hs1 := hb1.size
  have hlt := H1.lt
  obtain ⟨a1, a2, a3, a4, a5, a6, a7, a8, a9⟩ := H1.apart
  have hgs : W2.grownBy (W2.setCell ⟨gk, 2, none⟩ (.slice (some ⟨g2, 0, none⟩) (rs.length + 1) cap)) (some gk) := grown_set (World.grownBy.refl W2 _) rfl _
  have hne : g2 ≠ gk := fun e => by
    subst e
    rcases hat2 with h | h
    · exact a5 h
    · simp at h; omega
  have far : ∀ i, i ≠ gk → bv.ownBlock ≠ some i → i < X1.heap.size → (W2.setCell ⟨gk, 2, none⟩ (.slice (some ⟨g2, 0, none⟩) (rs.length + 1) cap)).heap[i]? = X1.heap[i]? := fun i h1 h2 h3 =>
    (Below.heap_setCell W2 _ _ i h1).trans ((hg2.block i (by simp; omega) (fun e => h2 e.symm)).trans (Below.heap_alloc X1 o i h3))
  have oth : ∀ i, Other X1 i → (W2.setCell ⟨gk, 2, none⟩ (.slice (some ⟨g2, 0, none⟩) (rs.length + 1) cap)).heap[i]? = X1.heap[i]? := fun i hi =>
    far i (fun e => H1.not_other (.inl e) hi) (fun e => H1.not_other (.inr (.inr e)) hi) (other_lt hi)
  refine ⟨⟨blk_set2 e2 _, ?_, ?_, ?_, H1.lo⟩, ⟨hg2.os.trans hb1.os, hg2.tape.trans hb1.tape, hg2.output.trans hb1.output, ?_, ?_⟩, ?_, Bm.ok.stays (r := r) ⟨o1, o2, hn1, hn2⟩ oth⟩
  · refine MSt.keep (MSt.keep (H1.ls.below ((Below.refl _ _).alloc (Nat.le_refl _) o)) hg2 (fun e => a6 e.symm) (fun e => a7 e.symm) (fun e => a8 e.symm) ?_) hgs (fun e => ?_) (fun e => ?_) (fun e => ?_) ?_
    · rcases a9 with a9 | a9
      · rw [a9]; cases sv.ownBlock <;> simp
      · right; exact fun e => a9 e.symm
    · injection e with e; exact a1 e.symm
    · injection e with e; exact a2 e.symm
    · injection e with e; exact a3 e.symm
    · right; exact a4
  · have e : (rs ++ [r]).length = rs.length + 1 := by simp
    rw [e]
    exact ho2.kept hgs (.inr (fun e => by injection e with e; exact hne e))
  · intro x hx
    rcases List.mem_append.1 hx with hx | hx
    · exact (H1.own x hx).stays oth
    · simp only [List.mem_singleton] at hx
      subst hx
      exact Bm.ok.stays (r := x) ⟨o1.lower hb, o2.lower hb, hn1, hn2⟩ oth
  · have h1 := hg2.size
    simp [World.setCell] at h1 ⊢
    omega
  · intro i hi hn
    exact (far i (fun e => hn (.inl e)) (fun e => hn (.inr e)) (by omega)).trans (hb1.block i hi)
  · rcases hat2 with h | h
    · exact .inl h.symm
    · exact .inr ⟨g2, by rw [h]; simp; omega, rfl⟩
set_option maxRecDepth 20000 in
set_option maxHeartbeats 2000000 in
theorem note_anyF (base gk : Nat) (K : Kd) (ms : List Mark) (rs : List Bm) (gl : Nat) (sv : Value) (m1 m2 : Nat) (bv : Value) (k t : Nat) (A1 A2 : Option Addr) (n1 c1 n2 c2 : Nat) (xs ys : List Nat) (B : Nat) (w : World) (h : Gk w base gk K ms rs gl sv m1 m2 bv) (hx : Row w B A1 n1 c1 xs) (hy : Row w B A2 n2 c2 ys) (hB : B ≤ w.heap.size) (hn1 : n1 ≤ 1000) (hn2 : n2 ≤ 1000) (hb : base ≤ w.heap.size) (hl : rs.length < 1000) :
    Calls Try.prog 41 #[.pointer (some ⟨gk, 0, none⟩), .int .i64 (k : Nat), .slice A1 n1 c1, .slice A2 n2 c2, .int .u64 (t : Nat)] w fun e w' => e = .returned (.tuple #[]) ∧ ∃ bv' r, r.e = ⟨k, xs, ys, t⟩ ∧ Gk w' base gk K ms (rs ++ [r]) gl sv m1 m2 bv' ∧ Only w w' (fun i => i = gk ∨ bv.ownBlock = some i) ∧ (bv'.ownBlock = bv.ownBlock ∨ ∃ i, w.heap.size ≤ i ∧ bv'.ownBlock = some i) ∧ r.ok w' w.heap.size := by
  obtain rfl : n1 = xs.length := hx.len.symm
  obtain rfl : n2 = ys.length := hy.len.symm
  have CP := Lib.hid (copied_any (k : Nat) (t : Nat) A1 A2 xs.length c1 ys.length c2 xs ys B w.drew hx.drew hy.drew hB hn1 hn2)
  have H := Lib.hid h
  have d0 := h.c2
  clear h hx hy
  go_enter Try.func41, Try.ntmps41
  go_wp2
  go_region_law (first
    | (refine step_append_bad (X1.alloc (.cells (badV (k : Nat) (.slice A1' xs.length c1') (.slice A2' ys.length c2') (t : Nat)) 62)) rfl _ _ rfl base bv rs rfl (H1.out.bad.alloc _) ⟨⟨k, xs, ys, t⟩, A1', c1', A2', c2'⟩ X1.heap.size rfl (heap_alloc_new X1 _) (by omega) (by have := HB1.out.size; simp at this ⊢; omega) ?_; intro g2 cap W2 ho2 hg2 hat2; have e2 : W2.heap[gk]? = some (.cells #[K.face, .pointer (some ⟨gl, 0, none⟩), bv] 80 (0, 0)) := (hg2.block gk (by have := H1.out.lt; simp; omega) (fun e => H1.out.apart.2.2.2.2.1 e.symm)).trans ((Below.heap_alloc X1 _ gk H1.out.lt).trans H1.out.blk); have v2 : W2.cell? ⟨gk, 2, none⟩ = some bv := by rw [cell_of_row W2 gk 2 _ _ _ e2]; rfl
       have f2 : W2.frozen? ⟨gk, 2, none⟩ = false := by simp [World.frozen?, e2]
       have E2 := Lib.hid e2; have HO2 := Lib.hid ho2; have HG2 := Lib.hid hg2; have HA2 := Lib.hid hat2; clear e2 ho2 hg2 hat2)
    | (go_simp; go_at_call 47; refine CP.out.mono ?_; rintro e X1 ⟨A1', c1', A2', c2', rfl, o1, o2, hb1⟩; have H1 := Lib.hid ((H.out.drewN 1).below hb1); have d1 := H1.out.c2; have dA : (X1.alloc (.cells (badV (k : Nat) (.slice A1' xs.length c1') (.slice A2' ys.length c2') (t : Nat)) 62)).cell? ⟨gk, 2, none⟩ = some bv := (H1.out.below ((Below.refl _ _).alloc (Nat.le_refl _) _)).c2
       have OO := Lib.hid (And.intro o1 o2); have HB1 := Lib.hid hb1; clear o1 o2 hb1))
  all_goals
    (have hend := note_endF (r := ⟨⟨k, xs, ys, t⟩, A1', c1', A2', c2'⟩) (show Below w.heap.size w X1 from ⟨HB1.out.os, HB1.out.tape, HB1.out.output, HB1.out.size, HB1.out.block⟩) H1.out hb OO.out.1 OO.out.2 hn1 hn2 E2.out HO2.out HG2.out HA2.out
     exact bodyPost_end (results_none Try.results41 _ _ _) rfl ⟨rfl, _, _, rfl, hend.1, hend.2.1, hend.2.2.1, hend.2.2.2⟩)
theorem Bm.ok.low {V : World} {base base' : Nat} {r : Bm} (h : r.ok V base) (hb : base' ≤ base) : r.ok V base' := ⟨h.1.lower hb, h.2.1.lower hb, h.2.2⟩
attribute [local irreducible] findM firstM ssum
set_option maxRecDepth 20000 in
set_option maxHeartbeats 2000000 in
theorem gtag_twin_idealF (base gk : Nat) (ms : List Mark) (rs : List Bm) (gl : Nat) (sv : Value) (m1 m2 : Nat) (bv : Value) (A : Option Addr) (n c : Nat) (xs : List Nat) (w : World) (h : Gk w base gk .ideal ms rs gl sv m1 m2 bv) (hx : Row w w.heap.size A n c xs) (h0 : findM ms xs = 0) (N : Nat) (ys : List Nat) (ty : Nat) (h1 : firstM ms ((ms.length + 1)) = N + 1) (hN : ms[N]? = some (ys, ty)) (hn : n ≤ 1000) (hys : ys.length ≤ 1000) (hb : base ≤ w.heap.size) (hfew : ms.length + 1 < 10000) (hrs : rs.length < 1000) (hd : ∀ a, A = some a → 0 < n → ¬ bkS gk gl sv m1 m2 bv a.block) :
    Calls Try.prog 25 #[.pointer (some ⟨gk, 0, none⟩), .slice A n c] w fun e w' => e = .returned (.int .u64 ((ms.length + 1) : Nat)) ∧ ∃ sv' bv' r, r.e = ⟨2, xs, ys, (ms.length + 1)⟩ ∧ Gk w' base gk .ideal (ms ++ [(xs, (ms.length + 1))]) (rs ++ [r]) gl sv' m1 m2 bv' ∧ Only w w' (bkS gk gl sv m1 m2 bv) ∧ (sv'.ownBlock = sv.ownBlock ∨ ∃ i, w.heap.size ≤ i ∧ sv'.ownBlock = some i) ∧ (bv'.ownBlock = bv.ownBlock ∨ ∃ i, w.heap.size ≤ i ∧ bv'.ownBlock = some i) ∧ r.ok w' w.heap.size := by
  have NN : Hid (ms[N]? = some (ys, ty)) := hN
  have NL : N < ms.length := by
    rcases Nat.lt_or_ge N ms.length with h1 | h1
    · exact h1
    · rw [List.getElem?_eq_none h1] at hN; cases hN
  have HD := Lib.hid hd
  clear hN hd
  have FI := Lib.hid (find_any base gl sv m1 m2 ms A n c xs _ w h.ls hx)
  rw [h0] at FI
  have TL := Lib.hid (show (ms.length + 1) < 18446744073709551616 from (by omega))
  have HH := Lib.hid h
  have HX := Lib.hid hx
  have H0 := Lib.hid h0
  have H1 := Lib.hid h1
  have c0 : w.cell? ⟨gk, 0, none⟩ = some (.iface 82 (.agg #[])) := h.c0
  have c1 := h.c1
  have md := method_ideal
  have LE : Hid (∀ W, MSt W base gl sv m1 m2 ms → Calls Try.prog 42 #[.pointer (some ⟨gl, 0, none⟩)] W fun e w' => e = .returned (.int .i64 (ms.length : Nat)) ∧ w' = W) := fun W hW => len_any base gl sv m1 m2 ms W hW
  have TG : Hid (∀ W, Row W W.heap.size A n c xs → Calls Try.prog 65 #[.agg #[], .slice A n c, .int .i64 ((ms.length : Int) + 1)] W fun e w' => e = .returned (.tuple #[.int .u64 ((ms.length : Int) + 1), .bool true]) ∧ Below W.heap.size W w') := fun W hW => by
    have := tagOf_ideal A n c (ms.length + 1) (by omega) W
    rw [decide_eq_true (by omega), show ((ms.length + 1 : Nat) : Int) = (ms.length : Int) + 1 by simp] at this
    exact this
  clear h hx h0 h1
  go_enter Try.func25, Try.ntmps25
  go_wp2_with (first
    | (go_at_call 40; refine FI.out.mono ?_; rintro e X1 ⟨rfl, k, rfl⟩)
    | fail)
  have H2 := Lib.hid ((HH.out.drewN k).drewN 1)
  have t0 : (w.drewN k).drew.cell? ⟨gk, 0, none⟩ = some (.iface 82 (.agg #[])) := c0
  have t1 : (w.drewN k).drew.cell? ⟨gk, 1, none⟩ = some (.pointer (some ⟨gl, 0, none⟩)) := c1
  have wl : IntKind.i64.wrap ((ms.length : Int) + 1) = (ms.length : Int) + 1 := IntWalk.i64_in _ (by omega)
  have C0 : Hid (∀ V, Gk V base gk .ideal ms rs gl sv m1 m2 bv → V.cell? ⟨gk, 0, none⟩ = some (.iface 82 (.agg #[]))) := fun V hV => hV.c0
  go_region_held3 (fun V => V.cell? ⟨gk, 0, none⟩ = some (.iface 82 (.agg #[])) ∧ V.cell? ⟨gk, 1, none⟩ = some (.pointer (some ⟨gl, 0, none⟩)))
    (first | exact ⟨t0, t1⟩ | exact ⟨C0.out _ H3.out, H3.out.c1⟩)
    (first
    | (go_at_call 42; refine (LE.out _ H2.out.ls).mono ?_; rintro e X2 ⟨rfl, rfl⟩)
    | (go_at_call 65; refine (TG.out _ (HX.out.drewN _)).mono ?_; rintro e X3 ⟨rfl, hb3⟩; have H3 := Lib.hid (H2.out.below hb3); have HB3 := Lib.hid hb3; clear hb3))
  rename_i hheld
  clear hheld t0 t1 c0 c1 FI TG LE
  have hc : ((ms.length + 1 : Nat) : Int) = (ms.length : Int) + 1 := by simp
  have HC := Lib.hid hc
  have hbw : Below w.heap.size w X3 := ⟨HB3.out.os, HB3.out.tape, HB3.out.output, HB3.out.size, HB3.out.block⟩
  have HBW := Lib.hid hbw
  have FR : Hid (Calls Try.prog 43 #[.pointer (some ⟨gl, 0, none⟩), .int .u64 ((ms.length : Int) + 1)] X3 fun e w' => e = .returned (.int .i64 ((N + 1 : Nat))) ∧ w' = X3) := by
    have := first_any base gl sv m1 m2 ms ((ms.length + 1)) TL.out X3 H3.out.ls
    rw [H1.out] at this
    rw [hc] at this
    exact this
  have AT : Hid (Calls Try.prog 44 #[.pointer (some ⟨gl, 0, none⟩), .int .i64 ((N : Int) + 1)] X3 _) := at_any base gl sv m1 m2 ms N ys ty X3 H3.out.ls NN.out hys
  have RX := Lib.hid ((HX.out.below hbw).wider hbw.size)
  have u1 := H3.out.c1
  have fm := fun A n c => field_mark A n c (ty : Nat)
  have gN : (0 < (N : Int) + 1) = True := eq_true (by omega)
  clear hbw md wl HB3 H2 C0
  go_wp2_with (first
    | (go_at_call 43; refine FR.out.mono ?_; rintro e X4 ⟨rfl, rfl⟩)
    | (go_at_call 44; refine AT.out.mono ?_; rintro e X5 ⟨A', c', rfl, r5, _, hb5⟩; have H5 := Lib.hid (H3.out.below hb5); have u5 := H5.out.c1; have R5 := Lib.hid r5; have B5 := Lib.hid hb5; have RX5 := Lib.hid ((RX.out.below hb5).wider hb5.size); clear hb5 r5)
    | (have := H5; go_at_call 41; refine (note_anyF base gk .ideal ms rs gl sv m1 m2 bv 2 ((ms.length + 1)) A A' n c ys.length c' xs ys X5.heap.size X5 H5.out RX5.out R5.out (Nat.le_refl _) hn hys (Nat.le_trans hb (Nat.le_trans HBW.out.size B5.out.size)) hrs).mono ?_; rintro e X6 ⟨rfl, bv', r, er, h6, o6, s6, f6⟩; have H6 := Lib.hid h6; have O6 := Lib.hid (And.intro er (And.intro o6 s6)); have F6 := Lib.hid f6; have u6 := h6.c1; clear h6 er o6 s6 f6)
    | (have := H6; go_at_call 45; refine (add_any2 base gl sv m1 m2 ms A n c xs ((ms.length + 1)) X6 H6.out.ls ((RX5.out.only (Nat.le_refl _) O6.out.2.1 (fun a ha h0 e => HD.out a ha h0 (by rcases e with e | e; exact .inl e; exact .inr (.inr e)))).wider O6.out.2.1.size) TL.out H0.out (Nat.le_trans hb (Nat.le_trans HBW.out.size (Nat.le_trans B5.out.size O6.out.2.1.size))) hfew).mono ?_; rintro e X7 ⟨rfl, sv', hM, hO, hS⟩)
    | fail)
  go_ret
  have O1 : Only w X5 (bkS gk gl sv m1 m2 bv) := Only.below HBW.out (Only.below B5.out (Only.refl _ _))
  have O2 := O1.trans O6.out.2.1 (fun i hi => .inl (by rcases hi with e | e; exact .inl e; exact .inr (.inr e)))
  refine ⟨ret_int HC.out.symm, sv', bv', r, O6.out.1, H6.out.added hM hO, O2.trans hO (fun i hi => .inl (.inr (.inl hi))), ?_, ?_, (Bm.ok.low (F6.out.stays (fun i hi => hO.block i (other_lt hi) (fun e => H6.out.not_other (.inr (.inl e)) hi))) O1.size)⟩
  · rcases hS with e | ⟨i, e1, e2⟩
    · exact .inl e
    · exact .inr ⟨i, Nat.le_trans O2.size e1, e2⟩
  · rcases O6.out.2.2 with e | ⟨i, e1, e2⟩
    · exact .inl e
    · exact .inr ⟨i, Nat.le_trans O1.size e1, e2⟩
set_option maxRecDepth 20000 in
set_option maxHeartbeats 2000000 in
theorem gtag_twin_sipF (base gk : Nat) (key : List Nat) (hkk : Kd.ok (.sip key)) (ms : List Mark) (rs : List Bm) (gl : Nat) (sv : Value) (m1 m2 : Nat) (bv : Value) (A : Option Addr) (n c : Nat) (xs : List Nat) (w : World) (h : Gk w base gk (.sip key) ms rs gl sv m1 m2 bv) (hx : Row w w.heap.size A n c xs) (h0 : findM ms xs = 0) (N : Nat) (ys : List Nat) (ty : Nat) (h1 : firstM ms (ssum key xs) = N + 1) (hN : ms[N]? = some (ys, ty)) (hn : n ≤ 1000) (hys : ys.length ≤ 1000) (hb : base ≤ w.heap.size) (hfew : ms.length + 1 < 10000) (hrs : rs.length < 1000) (hd : ∀ a, A = some a → 0 < n → ¬ bkS gk gl sv m1 m2 bv a.block) :
    Calls Try.prog 25 #[.pointer (some ⟨gk, 0, none⟩), .slice A n c] w fun e w' => e = .returned (.int .u64 (ssum key xs : Nat)) ∧ ∃ sv' bv' r, r.e = ⟨2, xs, ys, ssum key xs⟩ ∧ Gk w' base gk (.sip key) (ms ++ [(xs, ssum key xs)]) (rs ++ [r]) gl sv' m1 m2 bv' ∧ Only w w' (bkS gk gl sv m1 m2 bv) ∧ (sv'.ownBlock = sv.ownBlock ∨ ∃ i, w.heap.size ≤ i ∧ sv'.ownBlock = some i) ∧ (bv'.ownBlock = bv.ownBlock ∨ ∃ i, w.heap.size ≤ i ∧ bv'.ownBlock = some i) ∧ r.ok w' w.heap.size := by
  have NN : Hid (ms[N]? = some (ys, ty)) := hN
  have NL : N < ms.length := by
    rcases Nat.lt_or_ge N ms.length with h1 | h1
    · exact h1
    · rw [List.getElem?_eq_none h1] at hN; cases hN
  have HD := Lib.hid hd
  clear hN hd
  have FI := Lib.hid (find_any base gl sv m1 m2 ms A n c xs _ w h.ls hx)
  rw [h0] at FI
  have TL := Lib.hid (show ssum key xs < 18446744073709551616 from (ssum_lt key xs hkk.1 hkk.2 hx.bytes))
  have HH := Lib.hid h
  have HX := Lib.hid hx
  have H0 := Lib.hid h0
  have H1 := Lib.hid h1
  have c0 : w.cell? ⟨gk, 0, none⟩ = some (.iface 84 (.agg (arrV key))) := h.c0
  have c1 := h.c1
  have md := method_sum key
  have LE : Hid (∀ W, MSt W base gl sv m1 m2 ms → Calls Try.prog 42 #[.pointer (some ⟨gl, 0, none⟩)] W fun e w' => e = .returned (.int .i64 (ms.length : Nat)) ∧ w' = W) := fun W hW => len_any base gl sv m1 m2 ms W hW
  have TG : Hid (∀ W, Row W W.heap.size A n c xs → Calls Try.prog 66 #[.agg (arrV key), .slice A n c, .int .i64 ((ms.length : Int) + 1)] W fun e w' => e = .returned (.tuple #[.int .u64 (ssum key xs : Nat), .bool true]) ∧ Below W.heap.size W w') := fun W hW => by
    exact tagOf_sum key A n c xs ((ms.length : Int) + 1) W hkk.1 hkk.2 hW
  clear h hx h0 h1
  go_enter Try.func25, Try.ntmps25
  go_wp2_with (first
    | (go_at_call 40; refine FI.out.mono ?_; rintro e X1 ⟨rfl, k, rfl⟩)
    | fail)
  have H2 := Lib.hid ((HH.out.drewN k).drewN 1)
  have t0 : (w.drewN k).drew.cell? ⟨gk, 0, none⟩ = some (.iface 84 (.agg (arrV key))) := c0
  have t1 : (w.drewN k).drew.cell? ⟨gk, 1, none⟩ = some (.pointer (some ⟨gl, 0, none⟩)) := c1
  have wl : IntKind.i64.wrap ((ms.length : Int) + 1) = (ms.length : Int) + 1 := IntWalk.i64_in _ (by omega)
  have C0 : Hid (∀ V, Gk V base gk (.sip key) ms rs gl sv m1 m2 bv → V.cell? ⟨gk, 0, none⟩ = some (.iface 84 (.agg (arrV key)))) := fun V hV => hV.c0
  go_region_held3 (fun V => V.cell? ⟨gk, 0, none⟩ = some (.iface 84 (.agg (arrV key))) ∧ V.cell? ⟨gk, 1, none⟩ = some (.pointer (some ⟨gl, 0, none⟩)))
    (first | exact ⟨t0, t1⟩ | exact ⟨C0.out _ H3.out, H3.out.c1⟩)
    (first
    | (go_at_call 42; refine (LE.out _ H2.out.ls).mono ?_; rintro e X2 ⟨rfl, rfl⟩)
    | (go_at_call 66; refine (TG.out _ (HX.out.drewN _)).mono ?_; rintro e X3 ⟨rfl, hb3⟩; have H3 := Lib.hid (H2.out.below hb3); have HB3 := Lib.hid hb3; clear hb3))
  rename_i hheld
  clear hheld t0 t1 c0 c1 FI TG LE
  have hc : True := trivial
  have HC := Lib.hid hc
  have hbw : Below w.heap.size w X3 := ⟨HB3.out.os, HB3.out.tape, HB3.out.output, HB3.out.size, HB3.out.block⟩
  have HBW := Lib.hid hbw
  have FR : Hid (Calls Try.prog 43 #[.pointer (some ⟨gl, 0, none⟩), .int .u64 (ssum key xs : Nat)] X3 fun e w' => e = .returned (.int .i64 ((N + 1 : Nat))) ∧ w' = X3) := by
    have := first_any base gl sv m1 m2 ms (ssum key xs) TL.out X3 H3.out.ls
    rw [H1.out] at this
    skip
    exact this
  have AT : Hid (Calls Try.prog 44 #[.pointer (some ⟨gl, 0, none⟩), .int .i64 ((N : Int) + 1)] X3 _) := at_any base gl sv m1 m2 ms N ys ty X3 H3.out.ls NN.out hys
  have RX := Lib.hid ((HX.out.below hbw).wider hbw.size)
  have u1 := H3.out.c1
  have fm := fun A n c => field_mark A n c (ty : Nat)
  have gN : (0 < (N : Int) + 1) = True := eq_true (by omega)
  clear hbw md wl HB3 H2 C0
  go_wp2_with (first
    | (go_at_call 43; refine FR.out.mono ?_; rintro e X4 ⟨rfl, rfl⟩)
    | (go_at_call 44; refine AT.out.mono ?_; rintro e X5 ⟨A', c', rfl, r5, _, hb5⟩; have H5 := Lib.hid (H3.out.below hb5); have u5 := H5.out.c1; have R5 := Lib.hid r5; have B5 := Lib.hid hb5; have RX5 := Lib.hid ((RX.out.below hb5).wider hb5.size); clear hb5 r5)
    | (have := H5; go_at_call 41; refine (note_anyF base gk (.sip key) ms rs gl sv m1 m2 bv 2 (ssum key xs) A A' n c ys.length c' xs ys X5.heap.size X5 H5.out RX5.out R5.out (Nat.le_refl _) hn hys (Nat.le_trans hb (Nat.le_trans HBW.out.size B5.out.size)) hrs).mono ?_; rintro e X6 ⟨rfl, bv', r, er, h6, o6, s6, f6⟩; have H6 := Lib.hid h6; have O6 := Lib.hid (And.intro er (And.intro o6 s6)); have F6 := Lib.hid f6; have u6 := h6.c1; clear h6 er o6 s6 f6)
    | (have := H6; go_at_call 45; refine (add_any2 base gl sv m1 m2 ms A n c xs (ssum key xs) X6 H6.out.ls ((RX5.out.only (Nat.le_refl _) O6.out.2.1 (fun a ha h0 e => HD.out a ha h0 (by rcases e with e | e; exact .inl e; exact .inr (.inr e)))).wider O6.out.2.1.size) TL.out H0.out (Nat.le_trans hb (Nat.le_trans HBW.out.size (Nat.le_trans B5.out.size O6.out.2.1.size))) hfew).mono ?_; rintro e X7 ⟨rfl, sv', hM, hO, hS⟩)
    | fail)
  go_ret
  have O1 : Only w X5 (bkS gk gl sv m1 m2 bv) := Only.below HBW.out (Only.below B5.out (Only.refl _ _))
  have O2 := O1.trans O6.out.2.1 (fun i hi => .inl (by rcases hi with e | e; exact .inl e; exact .inr (.inr e)))
  refine ⟨rfl, sv', bv', r, O6.out.1, H6.out.added hM hO, O2.trans hO (fun i hi => .inl (.inr (.inl hi))), ?_, ?_, (Bm.ok.low (F6.out.stays (fun i hi => hO.block i (other_lt hi) (fun e => H6.out.not_other (.inr (.inl e)) hi))) O1.size)⟩
  · rcases hS with e | ⟨i, e1, e2⟩
    · exact .inl e
    · exact .inr ⟨i, Nat.le_trans O2.size e1, e2⟩
  · rcases O6.out.2.2 with e | ⟨i, e1, e2⟩
    · exact .inl e
    · exact .inr ⟨i, Nat.le_trans O1.size e1, e2⟩
set_option maxRecDepth 20000 in
set_option maxHeartbeats 1000000 in
theorem gver_forgedF (base gk : Nat) (key : List Nat) (hkk : Kd.ok (.sip key)) (ms : List Mark) (rs : List Bm) (gl : Nat) (sv : Value) (m1 m2 : Nat) (bv : Value) (A : Option Addr) (n c : Nat) (xs : List Nat) (w : World) (h : Gk w base gk (.sip key) ms rs gl sv m1 m2 bv) (hx : Row w w.heap.size A n c xs) (h0 : findM ms xs = 0) (hn : n ≤ 1000) (hb : base ≤ w.heap.size) (hrs : rs.length < 1000) :
    Calls Try.prog 23 #[.pointer (some ⟨gk, 0, none⟩), .slice A n c, .int .u64 (ssum key xs : Nat)] w fun e w' => e = .returned (.bool true) ∧ ∃ bv' r, r.e = ⟨1, xs, [], ssum key xs⟩ ∧ Gk w' base gk (.sip key) ms (rs ++ [r]) gl sv m1 m2 bv' ∧ Only w w' (bkS gk gl sv m1 m2 bv) ∧ (bv'.ownBlock = bv.ownBlock ∨ ∃ i, w.heap.size ≤ i ∧ bv'.ownBlock = some i) ∧ r.ok w' w.heap.size := by
  have FI := Lib.hid (find_any base gl sv m1 m2 ms A n c xs _ w h.ls hx)
  have TG := Lib.hid (fun N W (hW : Row W W.heap.size A n c xs) => tagOf_sum key A n c xs N W hkk.1 hkk.2 hW)
  have md := method_sum key
  have c0 : w.cell? ⟨gk, 0, none⟩ = some (.iface 84 (.agg (arrV key))) := h.c0
  have c1 := h.c1
  have HH := Lib.hid h
  have HX := Lib.hid hx
  clear h hx
  rw [h0] at FI
  clear h0
  generalize hs : ssum key xs = s at *
  go_enter Try.func23, Try.ntmps23
  go_wp2_with (first
    | (go_at_call 40; refine FI.out.mono ?_; rintro e X1 ⟨rfl, k, rfl⟩)
    | (go_at_call 66; refine (TG.out _ _ (HX.out.drewN k)).mono ?_; rintro e X2 ⟨rfl, hb2⟩; have hb3 : Below w.heap.size w X2 := (below_drewN (Below.refl _ _)).trans hb2; have H3 := Lib.hid (HH.out.below hb3); have R3 := Lib.hid ((HX.out.below hb3).wider hb3.size); have B3 := Lib.hid hb3; clear hb2 hb3)
    | (go_at_call 41; refine (note_anyF base gk (.sip key) ms rs gl sv m1 m2 bv 1 s A none n c 0 0 xs [] X2.heap.size X2 H3.out R3.out (Row.nil_ _ _) (Nat.le_refl _) hn (by omega) (Nat.le_trans hb B3.out.size) hrs).mono ?_; rintro e X3 ⟨rfl, bv', r, er, h6, o6, s6, f6⟩)
    | fail)
  go_ret
  refine ⟨rfl, bv', r, er, h6, (Only.below B3.out o6).mono (fun i hi => by rcases hi with e | e; exact .inl e; exact .inr (.inr e)), ?_, Bm.ok.low f6 B3.out.size⟩
  rcases s6 with e | ⟨i, e1, e2⟩
  · exact .inl e
  · exact .inr ⟨i, Nat.le_trans B3.out.size e1, e2⟩
section
variable {base gk : Nat} {K : Kd} {ms : List Mark} {rs : List Bm} {gl : Nat} {sv : Value} {m1 m2 : Nat} {bv : Value} {A : Option Addr} {n c : Nat} {xs : List Nat} {w : World}
theorem Gk.tagF (h : Gk w base gk K ms rs gl sv m1 m2 bv) (hK : K.ok) (hx : Row w w.heap.size A n c xs) (hn : n ≤ 1000) (hm : ∀ m ∈ ms, m.1.length ≤ 1000) (hb : base ≤ w.heap.size) (hl : ms.length < 900) (hrs : rs.length < 900) (hd : ∀ a, A = some a → 0 < n → ¬ bkS gk gl sv m1 m2 bv a.block) :
    Calls Try.prog 25 #[.pointer (some ⟨gk, 0, none⟩), .slice A n c] w fun e w' => e = .returned (.int .u64 (tgT K ms xs : Nat)) ∧ ∃ sv' bv' rs', rs'.map (·.e) = tgE K ms xs ∧ (∀ r ∈ rs', r.ok w' w.heap.size) ∧ Gk w' base gk K (tgM K ms xs) (rs ++ rs') gl sv' m1 m2 bv' ∧ Only w w' (bkS gk gl sv m1 m2 bv) ∧ Near w sv sv' ∧ Near w bv bv' := by
  have hle := findM_le ms xs
  by_cases h0 : findM ms xs = 0
  · have e1 : tgT K ms xs = tagK K xs (ms.length + 1) := by unfold tgT; rw [if_neg (by omega)]
    have e2 : tgM K ms xs = ms ++ [(xs, tagK K xs (ms.length + 1))] := by unfold tgM; rw [if_neg (by omega)]
    rw [e1, e2]
    cases hf : firstM ms (tagK K xs (ms.length + 1)) with
    | zero =>
      have e3 : tgE K ms xs = [] := by unfold tgE; rw [if_neg (by omega), hf]
      rw [e3]
      cases K with
      | ideal =>
        refine (gtag_new_ideal base gk ms rs gl sv m1 m2 bv A n c xs w h hx h0 hf hb (by omega)).mono ?_
        rintro e w' ⟨rfl, sv', hg, ho, hs⟩
        exact ⟨rfl, sv', bv, [], rfl, (fun r hr => by cases hr), by rw [List.append_nil]; exact hg, ho, hs, Near.refl _ _⟩
      | sip key =>
        refine (gtag_new_sip base gk key hK ms rs gl sv m1 m2 bv A n c xs w h hx h0 hf hb (by omega)).mono ?_
        rintro e w' ⟨rfl, sv', hg, ho, hs⟩
        exact ⟨rfl, sv', bv, [], rfl, (fun r hr => by cases hr), by rw [List.append_nil]; exact hg, ho, hs, Near.refl _ _⟩
    | succ N =>
      obtain ⟨ys, hy⟩ := firstM_at hf
      have e3 : tgE K ms xs = [⟨2, xs, ys, tagK K xs (ms.length + 1)⟩] := by
        unfold tgE; rw [if_neg (by omega), hf]
        simp [List.getD_eq_getElem?_getD, hy]
      rw [e3]
      have hym := hm _ (List.mem_of_getElem? hy)
      cases K with
      | ideal =>
        refine (gtag_twin_idealF base gk ms rs gl sv m1 m2 bv A n c xs w h hx h0 N ys _ hf hy hn hym hb (by omega) (by omega) hd).mono ?_
        rintro e w' ⟨rfl, sv', bv', r, er, hg, ho, hs, hv, hf⟩
        exact ⟨rfl, sv', bv', [r], by rw [List.map_cons, List.map_nil, er]; rfl, (fun q hq => by rw [List.mem_singleton] at hq; subst hq; exact hf), hg, ho, hs, hv⟩
      | sip key =>
        refine (gtag_twin_sipF base gk key hK ms rs gl sv m1 m2 bv A n c xs w h hx h0 N ys _ hf hy hn hym hb (by omega) (by omega) hd).mono ?_
        rintro e w' ⟨rfl, sv', bv', r, er, hg, ho, hs, hv, hf⟩
        exact ⟨rfl, sv', bv', [r], by rw [List.map_cons, List.map_nil, er]; rfl, (fun q hq => by rw [List.mem_singleton] at hq; subst hq; exact hf), hg, ho, hs, hv⟩
  · have e1 : tgT K ms xs = tagK K xs (findM ms xs) := by unfold tgT; rw [if_pos (by omega)]
    have e2 : tgM K ms xs = ms := by unfold tgM; rw [if_pos (by omega)]
    have e3 : tgE K ms xs = [] := by unfold tgE; rw [if_pos (by omega)]
    rw [e1, e2, e3]
    have key : ∀ e w', e = Ending.returned (.int .u64 (tagK K xs (findM ms xs) : Nat)) ∧ Below w.heap.size w w' → e = Ending.returned (.int .u64 (tagK K xs (findM ms xs) : Nat)) ∧ ∃ sv' bv' rs', rs'.map (·.e) = [] ∧ (∀ r ∈ rs', r.ok w' w.heap.size) ∧ Gk w' base gk K ms (rs ++ rs') gl sv' m1 m2 bv' ∧ Only w w' (bkS gk gl sv m1 m2 bv) ∧ Near w sv sv' ∧ Near w bv bv' := fun e w' ⟨he, hB⟩ =>
      ⟨he, sv, bv, [], rfl, (fun r hr => by cases hr), by rw [List.append_nil]; exact h.below hB, ⟨hB.os, hB.tape, hB.output, hB.size, fun i hi _ => hB.block i hi⟩, Near.refl _ _, Near.refl _ _⟩
    cases K with
    | ideal => exact (gtag_old_ideal base gk ms rs gl sv m1 m2 bv A n c xs w h hx (by omega) (by omega)).mono key
    | sip ky => exact (gtag_old_sip base gk ky hK ms rs gl sv m1 m2 bv A n c xs w h hx (by omega) (by omega)).mono key
theorem Gk.verifyF (h : Gk w base gk K ms rs gl sv m1 m2 bv) (hK : K.ok) (hx : Row w w.heap.size A n c xs) (hn : n ≤ 1000) (hb : base ≤ w.heap.size) (hl : ms.length < 900) (hrs : rs.length < 900) (t : Nat) :
    Calls Try.prog 23 #[.pointer (some ⟨gk, 0, none⟩), .slice A n c, .int .u64 (t : Nat)] w fun e w' => e = .returned (.bool (vrB K ms xs t)) ∧ ∃ bv' rs', rs'.map (·.e) = vrE K ms xs t ∧ (∀ r ∈ rs', r.ok w' w.heap.size) ∧ Gk w' base gk K ms (rs ++ rs') gl sv m1 m2 bv' ∧ Only w w' (bkS gk gl sv m1 m2 bv) ∧ Near w bv bv' := by
  have hle := findM_le ms xs
  have key : ∀ (b : Bool), vrB K ms xs t = b → vrE K ms xs t = [] → ∀ e w', e = Ending.returned (.bool b) ∧ Below w.heap.size w w' → e = Ending.returned (.bool (vrB K ms xs t)) ∧ ∃ bv' rs', rs'.map (·.e) = vrE K ms xs t ∧ (∀ r ∈ rs', r.ok w' w.heap.size) ∧ Gk w' base gk K ms (rs ++ rs') gl sv m1 m2 bv' ∧ Only w w' (bkS gk gl sv m1 m2 bv) ∧ Near w bv bv' := fun b e1 e2 e w' ⟨he, hB⟩ => by
    rw [e1, e2]
    exact ⟨he, bv, [], rfl, (fun r hr => by cases hr), by rw [List.append_nil]; exact h.below hB, ⟨hB.os, hB.tape, hB.output, hB.size, fun i hi _ => hB.block i hi⟩, Near.refl _ _⟩
  cases K with
  | ideal =>
    have e1 : vrB .ideal ms xs t = decide (0 < findM ms xs ∧ (t : Int) = (findM ms xs : Nat)) := by
      show (decide (0 < findM ms xs) && decide (t = findM ms xs)) = _
      generalize findM ms xs = N
      rw [Bool.eq_iff_iff]
      simp only [Bool.and_eq_true, decide_eq_true_eq]
      omega
    refine (gver_ideal base gk ms rs gl sv m1 m2 bv A n c xs w h hx (t : Nat) (by omega)).mono (key _ e1 ?_)
    unfold vrE
    rw [if_neg]
    rintro ⟨a1, a2⟩
    rw [e1] at a1
    have := of_decide_eq_true a1
    omega
  | sip ky =>
    by_cases ht : t = ssum ky xs
    · have e1 : vrB (.sip ky) ms xs t = true := by simp [vrB, okK, tagK, ht]
      by_cases h0 : findM ms xs = 0
      · have e2 : vrE (.sip ky) ms xs t = [⟨1, xs, [], t⟩] := by unfold vrE; rw [if_pos ⟨e1, h0⟩]
        rw [e1, e2]
        subst ht
        refine (gver_forgedF base gk ky hK ms rs gl sv m1 m2 bv A n c xs w h hx h0 hn hb (by omega)).mono ?_
        rintro e w' ⟨rfl, bv', r, er, hg, ho, hv, hf⟩
        exact ⟨rfl, bv', [r], by rw [List.map_cons, List.map_nil, er], (fun q hq => by rw [List.mem_singleton] at hq; subst hq; exact hf), hg, ho, hv⟩
      · have e2 : vrE (.sip ky) ms xs t = [] := by unfold vrE; rw [if_neg (fun hh => h0 hh.2)]
        have := (gver_has base gk ky hK ms rs gl sv m1 m2 bv A n c xs w h hx (by omega)).mono (key true e1 e2)
        rw [← ht] at this
        exact this
    · have e1 : vrB (.sip ky) ms xs t = false := by simp [vrB, okK, tagK, ht]
      have e2 : vrE (.sip ky) ms xs t = [] := by unfold vrE; rw [if_neg (fun hh => by rw [e1] at hh; cases hh.1)]
      exact (gver_no base gk ky hK ms rs gl sv m1 m2 bv A n c xs w h hx (t : Nat) (by omega)).mono (key false e1 e2)
end
end Go.Proofs.Ytpibmccofjpelaa
