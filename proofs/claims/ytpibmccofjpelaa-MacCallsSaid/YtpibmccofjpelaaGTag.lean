/- A book of any kind gives a message its tag. No statement is proved here. -/
import Derived.Test.YtpibmccofjpelaaAt
namespace Go.Proofs.Ytpibmccofjpelaa
open Go.RowKit Go.Maps
set_option linter.unusedVariables false
set_option linter.unusedSimpArgs false

/-- A row stays where its block does. -/
theorem Row.only {w w' : World} {B n c : Nat} {A : Option Addr} {xs : List Nat} {S : Nat → Prop} (h : Row w B A n c xs) (hB : B ≤ w.heap.size) (ho : Only w w' S) (hd : ∀ a, A = some a → 0 < n → ¬ S a.block) : Row w' B A n c xs := by
  obtain ⟨h1, h2, h3, h4, h5, h6⟩ := h
  refine ⟨h1, h2, h3, h4, h5, fun a ha hn => ?_⟩
  obtain ⟨q1, q2, q3⟩ := h6 a ha hn
  refine ⟨q1, q2, fun j hj => ?_⟩
  rw [← q3 j hj]
  exact World.cell?_of_block (ho.block _ (by show a.block < _; omega) (hd a ha hn))
theorem Only.trans {w w1 w2 : World} {S T : Nat → Prop} (h : Only w w1 S) (k : Only w1 w2 T) (hT : ∀ i, T i → S i ∨ w.heap.size ≤ i) : Only w w2 S :=
  ⟨k.os.trans h.os, k.tape.trans h.tape, k.output.trans h.output, Nat.le_trans h.size k.size, fun i hi hn => (k.block i (Nat.lt_of_lt_of_le hi h.size) (fun ht => by rcases hT i ht with e | e; exact hn e; omega)).trans (h.block i hi hn)⟩
theorem Only.mono {w w1 : World} {S T : Nat → Prop} (h : Only w w1 S) (hT : ∀ i, S i → T i) : Only w w1 T := ⟨h.os, h.tape, h.output, h.size, fun i hi hn => h.block i hi (fun e => hn (hT i e))⟩
/-- What of a list of marks changes, changes a book so. -/
theorem Gk.added {base gk : Nat} {K : Kd} {ms ms' : List Mark} {rs : List Bm} {gl : Nat} {sv sv' : Value} {m1 m2 : Nat} {bv : Value} {w w' : World} (h : Gk w base gk K ms rs gl sv m1 m2 bv) (hm : MSt w' base gl sv' m1 m2 ms') (ho : Only w w' (fun i => i = gl ∨ i = m1 ∨ i = m2 ∨ sv.ownBlock = some i)) : Gk w' base gk K ms' rs gl sv' m1 m2 bv := by
  obtain ⟨a1, a2, a3, a4, a5, a6, a7, a8, a9⟩ := h.apart
  have oth : ∀ i, Other w i → w'.heap[i]? = w.heap[i]? := fun i hi => ho.block i (other_lt hi) (fun e => h.not_other (.inr (.inl e)) hi)
  refine ⟨(ho.block gk h.lt ?_).trans h.blk, hm, ?_, fun r hr => (h.own r hr).stays oth, h.lo⟩
  · rintro (e | e | e | e)
    · exact a1 e
    · exact a2 e
    · exact a3 e
    · exact a4 e
  · refine ⟨h.bad.1, ?_⟩
    rcases h.bad.2 with h0 | ⟨g, cap, cur, hv, hg, hb, r⟩
    · exact .inl h0
    · have hw : bv.ownBlock = some g := by rw [hv]; rfl
      refine .inr ⟨g, cap, cur, hv, hg, (ho.block g (heap_lt hb) ?_).trans hb, r⟩
      rintro (e | e | e | e)
      · exact a6 (by rw [hw, e])
      · exact a7 (by rw [hw, e])
      · exact a8 (by rw [hw, e])
      · rcases a9 with a9 | a9
        · rw [a9] at hw; cases hw
        · exact a9 (by rw [hw, e])
theorem field_mark (A : Option Addr) (n c : Nat) (t : Int) (W : World) : (Instr.field 67 (.agg (mkV (.slice A n c) t)) 0).run Try.prog W = .ok (.slice A n c) W := by kernel_rfl
attribute [local irreducible] findM firstM ssum
set_option maxRecDepth 20000 in
set_option maxHeartbeats 1000000 in
theorem gtag_old_ideal (base gk : Nat) (ms : List Mark) (rs : List Bm) (gl : Nat) (sv : Value) (m1 m2 : Nat) (bv : Value) (A : Option Addr) (n c : Nat) (xs : List Nat) (w : World) (h : Gk w base gk .ideal ms rs gl sv m1 m2 bv) (hx : Row w w.heap.size A n c xs) (h0 : 0 < findM ms xs) (hN : findM ms xs < 1000000) :
    Calls Try.prog 25 #[.pointer (some ⟨gk, 0, none⟩), .slice A n c] w fun e w' => e = .returned (.int .u64 (tagK .ideal xs (findM ms xs) : Nat)) ∧ Below w.heap.size w w' := by
  have FI := Lib.hid (find_any base gl sv m1 m2 ms A n c xs _ w h.ls hx)
  have TG : Hid (∀ W, Row W W.heap.size A n c xs → Calls Try.prog 65 #[.agg #[], .slice A n c, .int .i64 (findM ms xs : Nat)] W fun e w' => e = .returned (.tuple #[.int .u64 (tagK .ideal xs (findM ms xs) : Nat), .bool true]) ∧ Below W.heap.size W w') := fun W hW => by
    have := tagOf_ideal A n c (findM ms xs) hN W
    rw [decide_eq_true h0] at this
    exact this
  have md := method_ideal
  have c0 : w.cell? ⟨gk, 0, none⟩ = some (.iface 82 (.agg #[])) := h.c0
  have c1 := h.c1
  have HX := Lib.hid hx
  clear h hx
  generalize tagK .ideal xs (findM ms xs) = tt at *
  generalize findM ms xs = N at *
  go_enter Try.func25, Try.ntmps25
  go_wp2_with (first
    | (go_at_call 40; refine FI.out.mono ?_; rintro e X1 ⟨rfl, k, rfl⟩)
    | (go_at_call 65; refine (TG.out _ (HX.out.drewN k)).mono ?_; rintro e X2 ⟨rfl, hb⟩)
    | fail)
  go_ret
  exact ⟨rfl, (below_drewN (Below.refl _ _)).trans hb⟩
set_option maxRecDepth 20000 in
set_option maxHeartbeats 2000000 in
theorem gtag_new_ideal (base gk : Nat) (ms : List Mark) (rs : List Bm) (gl : Nat) (sv : Value) (m1 m2 : Nat) (bv : Value) (A : Option Addr) (n c : Nat) (xs : List Nat) (w : World) (h : Gk w base gk .ideal ms rs gl sv m1 m2 bv) (hx : Row w w.heap.size A n c xs) (h0 : findM ms xs = 0) (h1 : firstM ms ((ms.length + 1)) = 0) (hb : base ≤ w.heap.size) (hfew : ms.length + 1 < 10000) :
    Calls Try.prog 25 #[.pointer (some ⟨gk, 0, none⟩), .slice A n c] w fun e w' => e = .returned (.int .u64 ((ms.length + 1) : Nat)) ∧ ∃ sv', Gk w' base gk .ideal (ms ++ [(xs, (ms.length + 1))]) rs gl sv' m1 m2 bv ∧ Only w w' (bkS gk gl sv m1 m2 bv) ∧ (sv'.ownBlock = sv.ownBlock ∨ ∃ i, w.heap.size ≤ i ∧ sv'.ownBlock = some i) := by
  have FI := Lib.hid (find_any base gl sv m1 m2 ms A n c xs _ w h.ls hx)
  rw [h0] at FI
  have TL := Lib.hid (show (ms.length + 1) < 18446744073709551616 from (by omega))
  have HH := Lib.hid h
  have HX := Lib.hid hx
  have H0 := Lib.hid h0
  have H1 := Lib.hid h1
  have c0 : w.cell? ⟨gk, 0, none⟩ = some (.iface 82 (.agg #[])) := h.c0
  have c1 := h.c1
  have md := method_ideal
  have LE : Hid (∀ W, MSt W base gl sv m1 m2 ms → Calls Try.prog 42 #[.pointer (some ⟨gl, 0, none⟩)] W fun e w' => e = .returned (.int .i64 (ms.length : Nat)) ∧ w' = W) := fun W hW => len_any base gl sv m1 m2 ms W hW
  have TG : Hid (∀ W, Row W W.heap.size A n c xs → Calls Try.prog 65 #[.agg #[], .slice A n c, .int .i64 ((ms.length : Int) + 1)] W fun e w' => e = .returned (.tuple #[.int .u64 ((ms.length : Int) + 1), .bool true]) ∧ Below W.heap.size W w') := fun W hW => by
    have := tagOf_ideal A n c (ms.length + 1) (by omega) W
    rw [decide_eq_true (by omega), show ((ms.length + 1 : Nat) : Int) = (ms.length : Int) + 1 by simp] at this
    exact this
  clear h hx h0 h1
  go_enter Try.func25, Try.ntmps25
  go_wp2_with (first
    | (go_at_call 40; refine FI.out.mono ?_; rintro e X1 ⟨rfl, k, rfl⟩)
    | fail)
  have H2 := Lib.hid ((HH.out.drewN k).drewN 1)
  have t0 : (w.drewN k).drew.cell? ⟨gk, 0, none⟩ = some (.iface 82 (.agg #[])) := c0
  have t1 : (w.drewN k).drew.cell? ⟨gk, 1, none⟩ = some (.pointer (some ⟨gl, 0, none⟩)) := c1
  have wl : IntKind.i64.wrap ((ms.length : Int) + 1) = (ms.length : Int) + 1 := IntWalk.i64_in _ (by omega)
  have C0 : Hid (∀ V, Gk V base gk .ideal ms rs gl sv m1 m2 bv → V.cell? ⟨gk, 0, none⟩ = some (.iface 82 (.agg #[]))) := fun V hV => hV.c0
  go_region_held3 (fun V => V.cell? ⟨gk, 0, none⟩ = some (.iface 82 (.agg #[])) ∧ V.cell? ⟨gk, 1, none⟩ = some (.pointer (some ⟨gl, 0, none⟩)))
    (first | exact ⟨t0, t1⟩ | exact ⟨C0.out _ H3.out, H3.out.c1⟩)
    (first
    | (go_at_call 42; refine (LE.out _ H2.out.ls).mono ?_; rintro e X2 ⟨rfl, rfl⟩)
    | (go_at_call 65; refine (TG.out _ (HX.out.drewN _)).mono ?_; rintro e X3 ⟨rfl, hb3⟩; have H3 := Lib.hid (H2.out.below hb3); have HB3 := Lib.hid hb3; clear hb3))
  rename_i hheld
  clear hheld t0 t1 c0 c1 FI TG LE
  have hc : ((ms.length + 1 : Nat) : Int) = (ms.length : Int) + 1 := by simp
  have HC := Lib.hid hc
  have hbw : Below w.heap.size w X3 := ⟨HB3.out.os, HB3.out.tape, HB3.out.output, HB3.out.size, HB3.out.block⟩
  have HBW := Lib.hid hbw
  have FR : Hid (Calls Try.prog 43 #[.pointer (some ⟨gl, 0, none⟩), .int .u64 ((ms.length : Int) + 1)] X3 fun e w' => e = .returned (.int .i64 (0)) ∧ w' = X3) := by
    have := first_any base gl sv m1 m2 ms ((ms.length + 1)) TL.out X3 H3.out.ls
    rw [H1.out] at this
    rw [hc] at this
    exact this
  have AD : Hid (Calls Try.prog 45 #[.pointer (some ⟨gl, 0, none⟩), .slice A n c, .int .u64 ((ms.length : Int) + 1)] X3 fun e w' => e = .returned (.tuple #[]) ∧ ∃ sv', MSt w' base gl sv' m1 m2 (ms ++ [(xs, (ms.length + 1))]) ∧ Only X3 w' (fun i => i = gl ∨ i = m1 ∨ i = m2 ∨ sv.ownBlock = some i) ∧ (sv'.ownBlock = sv.ownBlock ∨ ∃ i, X3.heap.size ≤ i ∧ sv'.ownBlock = some i)) := by
    have := add_any2 base gl sv m1 m2 ms A n c xs ((ms.length + 1)) X3 H3.out.ls ((HX.out.below hbw).wider hbw.size) TL.out H0.out (Nat.le_trans hb hbw.size) hfew
    rw [hc] at this
    exact this
  have u1 := H3.out.c1
  clear hc hbw md wl HB3 H2 C0
  go_wp2_with (first
    | (go_at_call 43; refine FR.out.mono ?_; rintro e X4 ⟨rfl, rfl⟩)
    | (go_at_call 45; refine AD.out.mono ?_; rintro e X5 ⟨rfl, sv', hM, hO, hS⟩)
    | fail)
  go_ret
  refine ⟨ret_int HC.out.symm, sv', H3.out.added hM hO, Only.below HBW.out (hO.mono fun i hi => .inr (.inl hi)), ?_⟩
  rcases hS with e | ⟨i, e1, e2⟩
  · exact .inl e
  · exact .inr ⟨i, Nat.le_trans HBW.out.size e1, e2⟩
set_option maxRecDepth 20000 in
set_option maxHeartbeats 2000000 in
theorem gtag_twin_ideal (base gk : Nat) (ms : List Mark) (rs : List Bm) (gl : Nat) (sv : Value) (m1 m2 : Nat) (bv : Value) (A : Option Addr) (n c : Nat) (xs : List Nat) (w : World) (h : Gk w base gk .ideal ms rs gl sv m1 m2 bv) (hx : Row w w.heap.size A n c xs) (h0 : findM ms xs = 0) (N : Nat) (ys : List Nat) (ty : Nat) (h1 : firstM ms ((ms.length + 1)) = N + 1) (hN : ms[N]? = some (ys, ty)) (hn : n ≤ 1000) (hys : ys.length ≤ 1000) (hb : base ≤ w.heap.size) (hfew : ms.length + 1 < 10000) (hrs : rs.length < 1000) (hd : ∀ a, A = some a → 0 < n → ¬ bkS gk gl sv m1 m2 bv a.block) :
    Calls Try.prog 25 #[.pointer (some ⟨gk, 0, none⟩), .slice A n c] w fun e w' => e = .returned (.int .u64 ((ms.length + 1) : Nat)) ∧ ∃ sv' bv' r, r.e = ⟨2, xs, ys, (ms.length + 1)⟩ ∧ Gk w' base gk .ideal (ms ++ [(xs, (ms.length + 1))]) (rs ++ [r]) gl sv' m1 m2 bv' ∧ Only w w' (bkS gk gl sv m1 m2 bv) ∧ (sv'.ownBlock = sv.ownBlock ∨ ∃ i, w.heap.size ≤ i ∧ sv'.ownBlock = some i) ∧ (bv'.ownBlock = bv.ownBlock ∨ ∃ i, w.heap.size ≤ i ∧ bv'.ownBlock = some i) := by
  have NN : Hid (ms[N]? = some (ys, ty)) := hN
  have NL : N < ms.length := by
    rcases Nat.lt_or_ge N ms.length with h1 | h1
    · exact h1
    · rw [List.getElem?_eq_none h1] at hN; cases hN
  have HD := Lib.hid hd
  clear hN hd
  have FI := Lib.hid (find_any base gl sv m1 m2 ms A n c xs _ w h.ls hx)
  rw [h0] at FI
  have TL := Lib.hid (show (ms.length + 1) < 18446744073709551616 from (by omega))
  have HH := Lib.hid h
  have HX := Lib.hid hx
  have H0 := Lib.hid h0
  have H1 := Lib.hid h1
  have c0 : w.cell? ⟨gk, 0, none⟩ = some (.iface 82 (.agg #[])) := h.c0
  have c1 := h.c1
  have md := method_ideal
  have LE : Hid (∀ W, MSt W base gl sv m1 m2 ms → Calls Try.prog 42 #[.pointer (some ⟨gl, 0, none⟩)] W fun e w' => e = .returned (.int .i64 (ms.length : Nat)) ∧ w' = W) := fun W hW => len_any base gl sv m1 m2 ms W hW
  have TG : Hid (∀ W, Row W W.heap.size A n c xs → Calls Try.prog 65 #[.agg #[], .slice A n c, .int .i64 ((ms.length : Int) + 1)] W fun e w' => e = .returned (.tuple #[.int .u64 ((ms.length : Int) + 1), .bool true]) ∧ Below W.heap.size W w') := fun W hW => by
    have := tagOf_ideal A n c (ms.length + 1) (by omega) W
    rw [decide_eq_true (by omega), show ((ms.length + 1 : Nat) : Int) = (ms.length : Int) + 1 by simp] at this
    exact this
  clear h hx h0 h1
  go_enter Try.func25, Try.ntmps25
  go_wp2_with (first
    | (go_at_call 40; refine FI.out.mono ?_; rintro e X1 ⟨rfl, k, rfl⟩)
    | fail)
  have H2 := Lib.hid ((HH.out.drewN k).drewN 1)
  have t0 : (w.drewN k).drew.cell? ⟨gk, 0, none⟩ = some (.iface 82 (.agg #[])) := c0
  have t1 : (w.drewN k).drew.cell? ⟨gk, 1, none⟩ = some (.pointer (some ⟨gl, 0, none⟩)) := c1
  have wl : IntKind.i64.wrap ((ms.length : Int) + 1) = (ms.length : Int) + 1 := IntWalk.i64_in _ (by omega)
  have C0 : Hid (∀ V, Gk V base gk .ideal ms rs gl sv m1 m2 bv → V.cell? ⟨gk, 0, none⟩ = some (.iface 82 (.agg #[]))) := fun V hV => hV.c0
  go_region_held3 (fun V => V.cell? ⟨gk, 0, none⟩ = some (.iface 82 (.agg #[])) ∧ V.cell? ⟨gk, 1, none⟩ = some (.pointer (some ⟨gl, 0, none⟩)))
    (first | exact ⟨t0, t1⟩ | exact ⟨C0.out _ H3.out, H3.out.c1⟩)
    (first
    | (go_at_call 42; refine (LE.out _ H2.out.ls).mono ?_; rintro e X2 ⟨rfl, rfl⟩)
    | (go_at_call 65; refine (TG.out _ (HX.out.drewN _)).mono ?_; rintro e X3 ⟨rfl, hb3⟩; have H3 := Lib.hid (H2.out.below hb3); have HB3 := Lib.hid hb3; clear hb3))
  rename_i hheld
  clear hheld t0 t1 c0 c1 FI TG LE
  have hc : ((ms.length + 1 : Nat) : Int) = (ms.length : Int) + 1 := by simp
  have HC := Lib.hid hc
  have hbw : Below w.heap.size w X3 := ⟨HB3.out.os, HB3.out.tape, HB3.out.output, HB3.out.size, HB3.out.block⟩
  have HBW := Lib.hid hbw
  have FR : Hid (Calls Try.prog 43 #[.pointer (some ⟨gl, 0, none⟩), .int .u64 ((ms.length : Int) + 1)] X3 fun e w' => e = .returned (.int .i64 ((N + 1 : Nat))) ∧ w' = X3) := by
    have := first_any base gl sv m1 m2 ms ((ms.length + 1)) TL.out X3 H3.out.ls
    rw [H1.out] at this
    rw [hc] at this
    exact this
  have AT : Hid (Calls Try.prog 44 #[.pointer (some ⟨gl, 0, none⟩), .int .i64 ((N : Int) + 1)] X3 _) := at_any base gl sv m1 m2 ms N ys ty X3 H3.out.ls NN.out hys
  have RX := Lib.hid ((HX.out.below hbw).wider hbw.size)
  have u1 := H3.out.c1
  have fm := fun A n c => field_mark A n c (ty : Nat)
  have gN : (0 < (N : Int) + 1) = True := eq_true (by omega)
  clear hbw md wl HB3 H2 C0
  go_wp2_with (first
    | (go_at_call 43; refine FR.out.mono ?_; rintro e X4 ⟨rfl, rfl⟩)
    | (go_at_call 44; refine AT.out.mono ?_; rintro e X5 ⟨A', c', rfl, r5, _, hb5⟩; have H5 := Lib.hid (H3.out.below hb5); have u5 := H5.out.c1; have R5 := Lib.hid r5; have B5 := Lib.hid hb5; have RX5 := Lib.hid ((RX.out.below hb5).wider hb5.size); clear hb5 r5)
    | (have := H5; go_at_call 41; refine (note_any base gk .ideal ms rs gl sv m1 m2 bv 2 ((ms.length + 1)) A A' n c ys.length c' xs ys X5.heap.size X5 H5.out RX5.out R5.out (Nat.le_refl _) hn hys (Nat.le_trans hb (Nat.le_trans HBW.out.size B5.out.size)) hrs).mono ?_; rintro e X6 ⟨rfl, bv', r, er, h6, o6, s6⟩; have H6 := Lib.hid h6; have O6 := Lib.hid (And.intro er (And.intro o6 s6)); have u6 := h6.c1; clear h6 er o6 s6)
    | (have := H6; go_at_call 45; refine (add_any2 base gl sv m1 m2 ms A n c xs ((ms.length + 1)) X6 H6.out.ls ((RX5.out.only (Nat.le_refl _) O6.out.2.1 (fun a ha h0 e => HD.out a ha h0 (by rcases e with e | e; exact .inl e; exact .inr (.inr e)))).wider O6.out.2.1.size) TL.out H0.out (Nat.le_trans hb (Nat.le_trans HBW.out.size (Nat.le_trans B5.out.size O6.out.2.1.size))) hfew).mono ?_; rintro e X7 ⟨rfl, sv', hM, hO, hS⟩)
    | fail)
  go_ret
  have O1 : Only w X5 (bkS gk gl sv m1 m2 bv) := Only.below HBW.out (Only.below B5.out (Only.refl _ _))
  have O2 := O1.trans O6.out.2.1 (fun i hi => .inl (by rcases hi with e | e; exact .inl e; exact .inr (.inr e)))
  refine ⟨ret_int HC.out.symm, sv', bv', r, O6.out.1, H6.out.added hM hO, O2.trans hO (fun i hi => .inl (.inr (.inl hi))), ?_, ?_⟩
  · rcases hS with e | ⟨i, e1, e2⟩
    · exact .inl e
    · exact .inr ⟨i, Nat.le_trans O2.size e1, e2⟩
  · rcases O6.out.2.2 with e | ⟨i, e1, e2⟩
    · exact .inl e
    · exact .inr ⟨i, Nat.le_trans O1.size e1, e2⟩
set_option maxRecDepth 20000 in
set_option maxHeartbeats 1000000 in
theorem gtag_old_sip (base gk : Nat) (key : List Nat) (hkk : Kd.ok (.sip key)) (ms : List Mark) (rs : List Bm) (gl : Nat) (sv : Value) (m1 m2 : Nat) (bv : Value) (A : Option Addr) (n c : Nat) (xs : List Nat) (w : World) (h : Gk w base gk (.sip key) ms rs gl sv m1 m2 bv) (hx : Row w w.heap.size A n c xs) (h0 : 0 < findM ms xs) (hN : findM ms xs < 1000000) :
    Calls Try.prog 25 #[.pointer (some ⟨gk, 0, none⟩), .slice A n c] w fun e w' => e = .returned (.int .u64 (tagK (.sip key) xs (findM ms xs) : Nat)) ∧ Below w.heap.size w w' := by
  have FI := Lib.hid (find_any base gl sv m1 m2 ms A n c xs _ w h.ls hx)
  have TG : Hid (∀ W, Row W W.heap.size A n c xs → Calls Try.prog 66 #[.agg (arrV key), .slice A n c, .int .i64 (findM ms xs : Nat)] W fun e w' => e = .returned (.tuple #[.int .u64 (tagK (.sip key) xs (findM ms xs) : Nat), .bool true]) ∧ Below W.heap.size W w') := fun W hW => by
    have := tagOf_sum key A n c xs (findM ms xs : Nat) W hkk.1 hkk.2 hW
    skip
    exact this
  have md := method_sum key
  have c0 : w.cell? ⟨gk, 0, none⟩ = some (.iface 84 (.agg (arrV key))) := h.c0
  have c1 := h.c1
  have HX := Lib.hid hx
  clear h hx
  generalize tagK (.sip key) xs (findM ms xs) = tt at *
  generalize findM ms xs = N at *
  go_enter Try.func25, Try.ntmps25
  go_wp2_with (first
    | (go_at_call 40; refine FI.out.mono ?_; rintro e X1 ⟨rfl, k, rfl⟩)
    | (go_at_call 66; refine (TG.out _ (HX.out.drewN k)).mono ?_; rintro e X2 ⟨rfl, hb⟩)
    | fail)
  go_ret
  exact ⟨rfl, (below_drewN (Below.refl _ _)).trans hb⟩
set_option maxRecDepth 20000 in
set_option maxHeartbeats 2000000 in
theorem gtag_new_sip (base gk : Nat) (key : List Nat) (hkk : Kd.ok (.sip key)) (ms : List Mark) (rs : List Bm) (gl : Nat) (sv : Value) (m1 m2 : Nat) (bv : Value) (A : Option Addr) (n c : Nat) (xs : List Nat) (w : World) (h : Gk w base gk (.sip key) ms rs gl sv m1 m2 bv) (hx : Row w w.heap.size A n c xs) (h0 : findM ms xs = 0) (h1 : firstM ms (ssum key xs) = 0) (hb : base ≤ w.heap.size) (hfew : ms.length + 1 < 10000) :
    Calls Try.prog 25 #[.pointer (some ⟨gk, 0, none⟩), .slice A n c] w fun e w' => e = .returned (.int .u64 (ssum key xs : Nat)) ∧ ∃ sv', Gk w' base gk (.sip key) (ms ++ [(xs, ssum key xs)]) rs gl sv' m1 m2 bv ∧ Only w w' (bkS gk gl sv m1 m2 bv) ∧ (sv'.ownBlock = sv.ownBlock ∨ ∃ i, w.heap.size ≤ i ∧ sv'.ownBlock = some i) := by
  have FI := Lib.hid (find_any base gl sv m1 m2 ms A n c xs _ w h.ls hx)
  rw [h0] at FI
  have TL := Lib.hid (show ssum key xs < 18446744073709551616 from (ssum_lt key xs hkk.1 hkk.2 hx.bytes))
  have HH := Lib.hid h
  have HX := Lib.hid hx
  have H0 := Lib.hid h0
  have H1 := Lib.hid h1
  have c0 : w.cell? ⟨gk, 0, none⟩ = some (.iface 84 (.agg (arrV key))) := h.c0
  have c1 := h.c1
  have md := method_sum key
  have LE : Hid (∀ W, MSt W base gl sv m1 m2 ms → Calls Try.prog 42 #[.pointer (some ⟨gl, 0, none⟩)] W fun e w' => e = .returned (.int .i64 (ms.length : Nat)) ∧ w' = W) := fun W hW => len_any base gl sv m1 m2 ms W hW
  have TG : Hid (∀ W, Row W W.heap.size A n c xs → Calls Try.prog 66 #[.agg (arrV key), .slice A n c, .int .i64 ((ms.length : Int) + 1)] W fun e w' => e = .returned (.tuple #[.int .u64 (ssum key xs : Nat), .bool true]) ∧ Below W.heap.size W w') := fun W hW => by
    exact tagOf_sum key A n c xs ((ms.length : Int) + 1) W hkk.1 hkk.2 hW
  clear h hx h0 h1
  go_enter Try.func25, Try.ntmps25
  go_wp2_with (first
    | (go_at_call 40; refine FI.out.mono ?_; rintro e X1 ⟨rfl, k, rfl⟩)
    | fail)
  have H2 := Lib.hid ((HH.out.drewN k).drewN 1)
  have t0 : (w.drewN k).drew.cell? ⟨gk, 0, none⟩ = some (.iface 84 (.agg (arrV key))) := c0
  have t1 : (w.drewN k).drew.cell? ⟨gk, 1, none⟩ = some (.pointer (some ⟨gl, 0, none⟩)) := c1
  have wl : IntKind.i64.wrap ((ms.length : Int) + 1) = (ms.length : Int) + 1 := IntWalk.i64_in _ (by omega)
  have C0 : Hid (∀ V, Gk V base gk (.sip key) ms rs gl sv m1 m2 bv → V.cell? ⟨gk, 0, none⟩ = some (.iface 84 (.agg (arrV key)))) := fun V hV => hV.c0
  go_region_held3 (fun V => V.cell? ⟨gk, 0, none⟩ = some (.iface 84 (.agg (arrV key))) ∧ V.cell? ⟨gk, 1, none⟩ = some (.pointer (some ⟨gl, 0, none⟩)))
    (first | exact ⟨t0, t1⟩ | exact ⟨C0.out _ H3.out, H3.out.c1⟩)
    (first
    | (go_at_call 42; refine (LE.out _ H2.out.ls).mono ?_; rintro e X2 ⟨rfl, rfl⟩)
    | (go_at_call 66; refine (TG.out _ (HX.out.drewN _)).mono ?_; rintro e X3 ⟨rfl, hb3⟩; have H3 := Lib.hid (H2.out.below hb3); have HB3 := Lib.hid hb3; clear hb3))
  rename_i hheld
  clear hheld t0 t1 c0 c1 FI TG LE
  have hc : True := trivial
  have HC := Lib.hid hc
  have hbw : Below w.heap.size w X3 := ⟨HB3.out.os, HB3.out.tape, HB3.out.output, HB3.out.size, HB3.out.block⟩
  have HBW := Lib.hid hbw
  have FR : Hid (Calls Try.prog 43 #[.pointer (some ⟨gl, 0, none⟩), .int .u64 (ssum key xs : Nat)] X3 fun e w' => e = .returned (.int .i64 (0)) ∧ w' = X3) := by
    have := first_any base gl sv m1 m2 ms (ssum key xs) TL.out X3 H3.out.ls
    rw [H1.out] at this
    skip
    exact this
  have AD : Hid (Calls Try.prog 45 #[.pointer (some ⟨gl, 0, none⟩), .slice A n c, .int .u64 (ssum key xs : Nat)] X3 fun e w' => e = .returned (.tuple #[]) ∧ ∃ sv', MSt w' base gl sv' m1 m2 (ms ++ [(xs, ssum key xs)]) ∧ Only X3 w' (fun i => i = gl ∨ i = m1 ∨ i = m2 ∨ sv.ownBlock = some i) ∧ (sv'.ownBlock = sv.ownBlock ∨ ∃ i, X3.heap.size ≤ i ∧ sv'.ownBlock = some i)) := by
    have := add_any2 base gl sv m1 m2 ms A n c xs (ssum key xs) X3 H3.out.ls ((HX.out.below hbw).wider hbw.size) TL.out H0.out (Nat.le_trans hb hbw.size) hfew
    skip
    exact this
  have u1 := H3.out.c1
  clear hc hbw md wl HB3 H2 C0
  go_wp2_with (first
    | (go_at_call 43; refine FR.out.mono ?_; rintro e X4 ⟨rfl, rfl⟩)
    | (go_at_call 45; refine AD.out.mono ?_; rintro e X5 ⟨rfl, sv', hM, hO, hS⟩)
    | fail)
  go_ret
  refine ⟨rfl, sv', H3.out.added hM hO, Only.below HBW.out (hO.mono fun i hi => .inr (.inl hi)), ?_⟩
  rcases hS with e | ⟨i, e1, e2⟩
  · exact .inl e
  · exact .inr ⟨i, Nat.le_trans HBW.out.size e1, e2⟩
set_option maxRecDepth 20000 in
set_option maxHeartbeats 2000000 in
theorem gtag_twin_sip (base gk : Nat) (key : List Nat) (hkk : Kd.ok (.sip key)) (ms : List Mark) (rs : List Bm) (gl : Nat) (sv : Value) (m1 m2 : Nat) (bv : Value) (A : Option Addr) (n c : Nat) (xs : List Nat) (w : World) (h : Gk w base gk (.sip key) ms rs gl sv m1 m2 bv) (hx : Row w w.heap.size A n c xs) (h0 : findM ms xs = 0) (N : Nat) (ys : List Nat) (ty : Nat) (h1 : firstM ms (ssum key xs) = N + 1) (hN : ms[N]? = some (ys, ty)) (hn : n ≤ 1000) (hys : ys.length ≤ 1000) (hb : base ≤ w.heap.size) (hfew : ms.length + 1 < 10000) (hrs : rs.length < 1000) (hd : ∀ a, A = some a → 0 < n → ¬ bkS gk gl sv m1 m2 bv a.block) :
    Calls Try.prog 25 #[.pointer (some ⟨gk, 0, none⟩), .slice A n c] w fun e w' => e = .returned (.int .u64 (ssum key xs : Nat)) ∧ ∃ sv' bv' r, r.e = ⟨2, xs, ys, ssum key xs⟩ ∧ Gk w' base gk (.sip key) (ms ++ [(xs, ssum key xs)]) (rs ++ [r]) gl sv' m1 m2 bv' ∧ Only w w' (bkS gk gl sv m1 m2 bv) ∧ (sv'.ownBlock = sv.ownBlock ∨ ∃ i, w.heap.size ≤ i ∧ sv'.ownBlock = some i) ∧ (bv'.ownBlock = bv.ownBlock ∨ ∃ i, w.heap.size ≤ i ∧ bv'.ownBlock = some i) := by
  have NN : Hid (ms[N]? = some (ys, ty)) := hN
  have NL : N < ms.length := by
    rcases Nat.lt_or_ge N ms.length with h1 | h1
    · exact h1
    · rw [List.getElem?_eq_none h1] at hN; cases hN
  have HD := Lib.hid hd
  clear hN hd
  have FI := Lib.hid (find_any base gl sv m1 m2 ms A n c xs _ w h.ls hx)
  rw [h0] at FI
  have TL := Lib.hid (show ssum key xs < 18446744073709551616 from (ssum_lt key xs hkk.1 hkk.2 hx.bytes))
  have HH := Lib.hid h
  have HX := Lib.hid hx
  have H0 := Lib.hid h0
  have H1 := Lib.hid h1
  have c0 : w.cell? ⟨gk, 0, none⟩ = some (.iface 84 (.agg (arrV key))) := h.c0
  have c1 := h.c1
  have md := method_sum key
  have LE : Hid (∀ W, MSt W base gl sv m1 m2 ms → Calls Try.prog 42 #[.pointer (some ⟨gl, 0, none⟩)] W fun e w' => e = .returned (.int .i64 (ms.length : Nat)) ∧ w' = W) := fun W hW => len_any base gl sv m1 m2 ms W hW
  have TG : Hid (∀ W, Row W W.heap.size A n c xs → Calls Try.prog 66 #[.agg (arrV key), .slice A n c, .int .i64 ((ms.length : Int) + 1)] W fun e w' => e = .returned (.tuple #[.int .u64 (ssum key xs : Nat), .bool true]) ∧ Below W.heap.size W w') := fun W hW => by
    exact tagOf_sum key A n c xs ((ms.length : Int) + 1) W hkk.1 hkk.2 hW
  clear h hx h0 h1
  go_enter Try.func25, Try.ntmps25
  go_wp2_with (first
    | (go_at_call 40; refine FI.out.mono ?_; rintro e X1 ⟨rfl, k, rfl⟩)
    | fail)
  have H2 := Lib.hid ((HH.out.drewN k).drewN 1)
  have t0 : (w.drewN k).drew.cell? ⟨gk, 0, none⟩ = some (.iface 84 (.agg (arrV key))) := c0
  have t1 : (w.drewN k).drew.cell? ⟨gk, 1, none⟩ = some (.pointer (some ⟨gl, 0, none⟩)) := c1
  have wl : IntKind.i64.wrap ((ms.length : Int) + 1) = (ms.length : Int) + 1 := IntWalk.i64_in _ (by omega)
  have C0 : Hid (∀ V, Gk V base gk (.sip key) ms rs gl sv m1 m2 bv → V.cell? ⟨gk, 0, none⟩ = some (.iface 84 (.agg (arrV key)))) := fun V hV => hV.c0
  go_region_held3 (fun V => V.cell? ⟨gk, 0, none⟩ = some (.iface 84 (.agg (arrV key))) ∧ V.cell? ⟨gk, 1, none⟩ = some (.pointer (some ⟨gl, 0, none⟩)))
    (first | exact ⟨t0, t1⟩ | exact ⟨C0.out _ H3.out, H3.out.c1⟩)
    (first
    | (go_at_call 42; refine (LE.out _ H2.out.ls).mono ?_; rintro e X2 ⟨rfl, rfl⟩)
    | (go_at_call 66; refine (TG.out _ (HX.out.drewN _)).mono ?_; rintro e X3 ⟨rfl, hb3⟩; have H3 := Lib.hid (H2.out.below hb3); have HB3 := Lib.hid hb3; clear hb3))
  rename_i hheld
  clear hheld t0 t1 c0 c1 FI TG LE
  have hc : True := trivial
  have HC := Lib.hid hc
  have hbw : Below w.heap.size w X3 := ⟨HB3.out.os, HB3.out.tape, HB3.out.output, HB3.out.size, HB3.out.block⟩
  have HBW := Lib.hid hbw
  have FR : Hid (Calls Try.prog 43 #[.pointer (some ⟨gl, 0, none⟩), .int .u64 (ssum key xs : Nat)] X3 fun e w' => e = .returned (.int .i64 ((N + 1 : Nat))) ∧ w' = X3) := by
    have := first_any base gl sv m1 m2 ms (ssum key xs) TL.out X3 H3.out.ls
    rw [H1.out] at this
    skip
    exact this
  have AT : Hid (Calls Try.prog 44 #[.pointer (some ⟨gl, 0, none⟩), .int .i64 ((N : Int) + 1)] X3 _) := at_any base gl sv m1 m2 ms N ys ty X3 H3.out.ls NN.out hys
  have RX := Lib.hid ((HX.out.below hbw).wider hbw.size)
  have u1 := H3.out.c1
  have fm := fun A n c => field_mark A n c (ty : Nat)
  have gN : (0 < (N : Int) + 1) = True := eq_true (by omega)
  clear hbw md wl HB3 H2 C0
  go_wp2_with (first
    | (go_at_call 43; refine FR.out.mono ?_; rintro e X4 ⟨rfl, rfl⟩)
    | (go_at_call 44; refine AT.out.mono ?_; rintro e X5 ⟨A', c', rfl, r5, _, hb5⟩; have H5 := Lib.hid (H3.out.below hb5); have u5 := H5.out.c1; have R5 := Lib.hid r5; have B5 := Lib.hid hb5; have RX5 := Lib.hid ((RX.out.below hb5).wider hb5.size); clear hb5 r5)
    | (have := H5; go_at_call 41; refine (note_any base gk (.sip key) ms rs gl sv m1 m2 bv 2 (ssum key xs) A A' n c ys.length c' xs ys X5.heap.size X5 H5.out RX5.out R5.out (Nat.le_refl _) hn hys (Nat.le_trans hb (Nat.le_trans HBW.out.size B5.out.size)) hrs).mono ?_; rintro e X6 ⟨rfl, bv', r, er, h6, o6, s6⟩; have H6 := Lib.hid h6; have O6 := Lib.hid (And.intro er (And.intro o6 s6)); have u6 := h6.c1; clear h6 er o6 s6)
    | (have := H6; go_at_call 45; refine (add_any2 base gl sv m1 m2 ms A n c xs (ssum key xs) X6 H6.out.ls ((RX5.out.only (Nat.le_refl _) O6.out.2.1 (fun a ha h0 e => HD.out a ha h0 (by rcases e with e | e; exact .inl e; exact .inr (.inr e)))).wider O6.out.2.1.size) TL.out H0.out (Nat.le_trans hb (Nat.le_trans HBW.out.size (Nat.le_trans B5.out.size O6.out.2.1.size))) hfew).mono ?_; rintro e X7 ⟨rfl, sv', hM, hO, hS⟩)
    | fail)
  go_ret
  have O1 : Only w X5 (bkS gk gl sv m1 m2 bv) := Only.below HBW.out (Only.below B5.out (Only.refl _ _))
  have O2 := O1.trans O6.out.2.1 (fun i hi => .inl (by rcases hi with e | e; exact .inl e; exact .inr (.inr e)))
  refine ⟨rfl, sv', bv', r, O6.out.1, H6.out.added hM hO, O2.trans hO (fun i hi => .inl (.inr (.inl hi))), ?_, ?_⟩
  · rcases hS with e | ⟨i, e1, e2⟩
    · exact .inl e
    · exact .inr ⟨i, Nat.le_trans O2.size e1, e2⟩
  · rcases O6.out.2.2 with e | ⟨i, e1, e2⟩
    · exact .inl e
    · exact .inr ⟨i, Nat.le_trans O1.size e1, e2⟩
end Go.Proofs.Ytpibmccofjpelaa
