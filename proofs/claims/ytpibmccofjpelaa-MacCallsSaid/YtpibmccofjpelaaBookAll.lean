/- A book with ideal tags: made; what its tags are. No statement is proved here. A book with ideal tags gives a message its tag. No statement is proved here. A book with ideal tags verifies a tag, and tells that no bad event was. No statement is proved here. A book in which no bad event was tells so. No statement is proved here. What a book with ideal tags keeps: its tags are the numbers of its marks. No statement is proved here. -/
import Derived.Test.YtpibmccofjpelaaMarksAdd2
import Derived.Deep.RegionHeld3
namespace Go.Proofs.Ytpibmccofjpelaa
open Go.RowKit Go.Maps
set_option linter.unusedVariables false

/-- Block gk is a book with ideal tags and no bad event, whose list of marks is ms. -/
structure BSt (V : World) (base gk gl : Nat) (sv : Value) (m1 m2 : Nat) (ms : List Mark) : Prop where
  blk : V.heap[gk]? = some (.cells #[.iface 82 (.agg #[]), .pointer (some ⟨gl, 0, none⟩), .slice none 0 0] 80 (0, 0))
  ls : MSt V base gl sv m1 m2 ms
section
variable {V V2 : World} {base gk gl : Nat} {sv : Value} {m1 m2 : Nat} {ms : List Mark}
theorem BSt.lt (h : BSt V base gk gl sv m1 m2 ms) : gk < V.heap.size := by
  rcases Nat.lt_or_ge gk V.heap.size with hlt | hge
  · exact hlt
  · have := h.blk; rw [Array.getElem?_eq_none hge] at this; cases this
theorem BSt.c0 (h : BSt V base gk gl sv m1 m2 ms) : V.cell? ⟨gk, 0, none⟩ = some (.iface 82 (.agg #[])) := by rw [cell_of_row V gk 0 _ _ _ h.blk]; rfl
theorem BSt.c1 (h : BSt V base gk gl sv m1 m2 ms) : V.cell? ⟨gk, 1, none⟩ = some (.pointer (some ⟨gl, 0, none⟩)) := by rw [cell_of_row V gk 1 _ _ _ h.blk]; rfl
theorem BSt.c2 (h : BSt V base gk gl sv m1 m2 ms) : V.cell? ⟨gk, 2, none⟩ = some (.slice none 0 0) := by rw [cell_of_row V gk 2 _ _ _ h.blk]; rfl
theorem BSt.below (h : BSt V base gk gl sv m1 m2 ms) (hb : Below V.heap.size V V2) : BSt V2 base gk gl sv m1 m2 ms := ⟨(hb.block gk h.lt).trans h.blk, h.ls.below hb⟩
theorem BSt.drewN (h : BSt V base gk gl sv m1 m2 ms) (k : Nat) : BSt (V.drewN k) base gk gl sv m1 m2 ms := ⟨h.blk, h.ls.drewN k⟩
end
set_option maxHeartbeats 1000000 in
theorem macNew_ideal (key : List Nat) (base : Nat) (w : World) (hb : base ≤ w.heap.size) :
    Calls Try.prog 21 #[.int .i64 0, .agg (arrV key)] w fun e w' => ∃ gk gl m1 m2, e = .returned (.tuple #[.pointer (some ⟨gk, 0, none⟩), .int .i64 0]) ∧ BSt w' base gk gl (.slice none 0 0) m1 m2 [] ∧ w.heap.size ≤ gk ∧ w.heap.size ≤ gl ∧ w.heap.size ≤ m1 ∧ w.heap.size ≤ m2 ∧ Below w.heap.size w w' := by
  have NW := Lib.hid (fun W (h : base ≤ W.heap.size) => marksNew_any base W h)
  have B0 := Lib.hid ((Below.refl w.heap.size w).alloc (Nat.le_refl _) (Obj.cells (arrV key) 23))
  have Z0 : Hid ((w.alloc (Obj.cells (arrV key) 23)).heap.size = w.heap.size + 1) := by simp [Hid]
  go_enter Try.func21, Try.ntmps21
  go_wp2_with (first
    | (go_at_call 39; refine (NW.out _ (by simp; omega)).mono ?_; rintro e X1 ⟨gl, m1, m2, rfl, hM, l0, l1, l2, hb1⟩; have HM := Lib.hid hM; have HB1 := Lib.hid hb1; have LL := Lib.hid (And.intro l0 (And.intro l1 l2)); clear hM hb1 l0 l1 l2)
    | fail)
  have hb2 := B0.out.trans (HB1.out.mono B0.out.size)
  have hz := Z0.out
  have hs := hb2.size
  obtain ⟨l0, l1, l2⟩ := LL.out
  refine bodyPost_ret (results_tmp2 Try.results21 _ _ _) rfl ⟨X1.heap.size, gl, m1, m2, rfl, ⟨heap_alloc_new X1 _, ?_⟩, hs, by omega, by omega, by omega, hb2.alloc hs _⟩
  exact HM.out.below ((Below.refl _ _).alloc (Nat.le_refl _) _)
set_option maxHeartbeats 1000000 in
theorem tagOf_ideal (A : Option Addr) (n c : Nat) (N : Nat) (hN : N < 1000000) (w : World) :
    Calls Try.prog 65 #[.agg #[], .slice A n c, .int .i64 N] w fun e w' => e = .returned (.tuple #[.int .u64 (N : Nat), .bool (decide (0 < N))]) ∧ Below w.heap.size w w' := by
  go_enter Try.func65, Try.ntmps65
  go_wp2
  exact bodyPost_ret (results_tmp2 Try.results65 _ _ _) rfl ⟨rfl, (Below.refl _ _).alloc (Nat.le_refl _) _⟩
set_option maxHeartbeats 1000000 in
theorem has_any (base gk gl : Nat) (sv : Value) (m1 m2 : Nat) (ms : List Mark) (A : Option Addr) (n c : Nat) (xs : List Nat) (w : World) (h : BSt w base gk gl sv m1 m2 ms) (hx : Row w w.heap.size A n c xs) :
    Calls Try.prog 27 #[.pointer (some ⟨gk, 0, none⟩), .slice A n c] w fun e w' => e = .returned (.bool (decide (0 < findM ms xs))) ∧ ∃ k, w' = w.drewN k := by
  have FI := Lib.hid (find_any base gl sv m1 m2 ms A n c xs _ w h.ls hx)
  have c1 := h.c1
  clear h hx
  generalize findM ms xs = N at *
  go_enter Try.func27, Try.ntmps27
  go_wp2_with (first
    | (go_at_call 40; refine FI.out.mono ?_; rintro e X1 ⟨rfl, k, rfl⟩)
    | fail)
  go_ret
  exact ⟨ret_bool (by simp), _, rfl⟩
end Go.Proofs.Ytpibmccofjpelaa
namespace Go.Proofs.Ytpibmccofjpelaa
open Go.RowKit Go.Maps
set_option linter.unusedVariables false

theorem method_ideal (W : World) : (method 217 82 (.agg #[]) "bastion/mac.tagOf").run Try.prog W = .ok (65, .agg #[]) W := by kernel_rfl
set_option maxRecDepth 20000 in
set_option maxHeartbeats 1000000 in
theorem tag_old (base gk gl : Nat) (sv : Value) (m1 m2 : Nat) (ms : List Mark) (A : Option Addr) (n c : Nat) (xs : List Nat) (w : World) (h : BSt w base gk gl sv m1 m2 ms) (hx : Row w w.heap.size A n c xs) (h0 : 0 < findM ms xs) (hN : findM ms xs < 1000000) :
    Calls Try.prog 25 #[.pointer (some ⟨gk, 0, none⟩), .slice A n c] w fun e w' => e = .returned (.int .u64 (findM ms xs : Nat)) ∧ Below w.heap.size w w' := by
  have FI := Lib.hid (find_any base gl sv m1 m2 ms A n c xs _ w h.ls hx)
  have TG := Lib.hid (fun W => tagOf_ideal A n c (findM ms xs) hN W)
  have md := method_ideal
  have c0 := h.c0
  have c1 := h.c1
  clear h hx
  generalize findM ms xs = N at *
  go_enter Try.func25, Try.ntmps25
  go_wp2_with (first
    | (go_at_call 40; refine FI.out.mono ?_; rintro e X1 ⟨rfl, k, rfl⟩)
    | (go_at_call 65; refine (TG.out _).mono ?_; rintro e X2 ⟨rfl, hb⟩)
    | fail)
  go_ret
  exact ⟨rfl, (below_drewN (Below.refl _ _)).trans hb⟩
theorem BSt.apart {V : World} {base gk gl : Nat} {sv : Value} {m1 m2 : Nat} {ms : List Mark} (h : BSt V base gk gl sv m1 m2 ms) : ¬ (gk = gl ∨ gk = m1 ∨ gk = m2 ∨ sv.ownBlock = some gk) := by
  have hm : ∀ kt b n f, NumMap V kt b n f → ∀ cs t q, V.heap[b]? ≠ some (.cells cs t q) := fun kt b n f hN cs t q e => by
    obtain ⟨D, ⟨es, clock, hb, _⟩, _⟩ := hN
    rw [hb] at e; cases e
  rintro (e | e | e | e)
  · have h1 := h.blk
    rw [e, h.ls.blk] at h1
    simp at h1
  · have h1 := h.blk; rw [e] at h1; exact hm _ _ _ _ h.ls.n1 _ _ _ h1
  · have h1 := h.blk; rw [e] at h1; exact hm _ _ _ _ h.ls.n2 _ _ _ h1
  · rcases h.ls.row.2 with ⟨hv, _⟩ | ⟨g2, cap, cur, hv, _, hg2, _⟩
    · rw [hv] at e; cases e
    · rw [hv] at e
      injection e with e
      have e' : g2 = gk := e
      subst e'
      rw [h.blk] at hg2
      simp at hg2
theorem Only.below {w w1 w2 : World} {S : Nat → Prop} (hb : Below w.heap.size w w1) (h : Only w1 w2 S) : Only w w2 S :=
  ⟨h.os.trans hb.os, h.tape.trans hb.tape, h.output.trans hb.output, Nat.le_trans hb.size h.size, fun i hi hn => (h.block i (Nat.lt_of_lt_of_le hi hb.size) hn).trans (hb.block i hi)⟩
set_option maxRecDepth 20000 in
set_option maxHeartbeats 2000000 in
theorem tag_new (base gk gl : Nat) (sv : Value) (m1 m2 : Nat) (ms : List Mark) (A : Option Addr) (n c : Nat) (xs : List Nat) (w : World) (h : BSt w base gk gl sv m1 m2 ms) (hx : Row w w.heap.size A n c xs) (h0 : findM ms xs = 0) (h1 : firstM ms (ms.length + 1) = 0) (hb : base ≤ w.heap.size) (hfew : ms.length + 1 < 10000) :
    Calls Try.prog 25 #[.pointer (some ⟨gk, 0, none⟩), .slice A n c] w fun e w' => e = .returned (.int .u64 ((ms.length + 1 : Nat) : Int)) ∧ ∃ sv', BSt w' base gk gl sv' m1 m2 (ms ++ [(xs, ms.length + 1)]) ∧ Only w w' (fun i => i = gl ∨ i = m1 ∨ i = m2 ∨ sv.ownBlock = some i) := by
  have FI := Lib.hid (find_any base gl sv m1 m2 ms A n c xs _ w h.ls hx)
  rw [h0] at FI
  have HH := Lib.hid h
  have HX := Lib.hid hx
  have H0 := Lib.hid h0
  have H1 := Lib.hid h1
  have c0 := h.c0
  have c1 := h.c1
  have md := method_ideal
  have LE : Hid (∀ W, MSt W base gl sv m1 m2 ms → Calls Try.prog 42 #[.pointer (some ⟨gl, 0, none⟩)] W fun e w' => e = .returned (.int .i64 (ms.length : Nat)) ∧ w' = W) := fun W hW => len_any base gl sv m1 m2 ms W hW
  have TG : Hid (∀ W, Calls Try.prog 65 #[.agg #[], .slice A n c, .int .i64 ((ms.length : Int) + 1)] W fun e w' => e = .returned (.tuple #[.int .u64 ((ms.length : Int) + 1), .bool true]) ∧ Below W.heap.size W w') := fun W => by
    have := tagOf_ideal A n c (ms.length + 1) (by omega) W
    rw [decide_eq_true (by omega), show ((ms.length + 1 : Nat) : Int) = (ms.length : Int) + 1 by simp] at this
    exact this
  clear h hx h0 h1
  go_enter Try.func25, Try.ntmps25
  go_wp2_with (first
    | (go_at_call 40; refine FI.out.mono ?_; rintro e X1 ⟨rfl, k, rfl⟩)
    | fail)
  have H2 := Lib.hid ((HH.out.drewN k).drewN 1)
  have t0 : (w.drewN k).drew.cell? ⟨gk, 0, none⟩ = some (.iface 82 (.agg #[])) := c0
  have t1 : (w.drewN k).drew.cell? ⟨gk, 1, none⟩ = some (.pointer (some ⟨gl, 0, none⟩)) := c1
  have wl : IntKind.i64.wrap ((ms.length : Int) + 1) = (ms.length : Int) + 1 := IntWalk.i64_in _ (by omega)
  go_region_held3 (fun V => V.cell? ⟨gk, 0, none⟩ = some (.iface 82 (.agg #[])) ∧ V.cell? ⟨gk, 1, none⟩ = some (.pointer (some ⟨gl, 0, none⟩)))
    (first | exact ⟨t0, t1⟩ | exact ⟨H3.out.c0, H3.out.c1⟩)
    (first
    | (go_at_call 42; refine (LE.out _ H2.out.ls).mono ?_; rintro e X2 ⟨rfl, rfl⟩)
    | (go_at_call 65; refine (TG.out _).mono ?_; rintro e X3 ⟨rfl, hb3⟩; have H3 := Lib.hid (H2.out.below hb3); have HB3 := Lib.hid hb3; clear hb3))
  rename_i hheld
  clear hheld t0 t1 c0 c1 FI TG LE
  have hc : ((ms.length + 1 : Nat) : Int) = (ms.length : Int) + 1 := by simp
  have HC := Lib.hid hc
  have hbw : Below w.heap.size w X3 := ⟨HB3.out.os, HB3.out.tape, HB3.out.output, HB3.out.size, HB3.out.block⟩
  have HBW := Lib.hid hbw
  have FR : Hid (Calls Try.prog 43 #[.pointer (some ⟨gl, 0, none⟩), .int .u64 ((ms.length : Int) + 1)] X3 fun e w' => e = .returned (.int .i64 0) ∧ w' = X3) := by
    have := first_any base gl sv m1 m2 ms (ms.length + 1) (by omega) X3 H3.out.ls
    rw [H1.out, hc] at this
    exact this
  have AD : Hid (Calls Try.prog 45 #[.pointer (some ⟨gl, 0, none⟩), .slice A n c, .int .u64 ((ms.length : Int) + 1)] X3 fun e w' => e = .returned (.tuple #[]) ∧ ∃ sv', MSt w' base gl sv' m1 m2 (ms ++ [(xs, ms.length + 1)]) ∧ Only X3 w' (fun i => i = gl ∨ i = m1 ∨ i = m2 ∨ sv.ownBlock = some i)) := by
    have := add_any base gl sv m1 m2 ms A n c xs (ms.length + 1) X3 H3.out.ls ((HX.out.below hbw).wider hbw.size) (by omega) H0.out (Nat.le_trans hb hbw.size) hfew
    rw [hc] at this
    exact this
  have u1 := H3.out.c1
  clear hc hbw md wl HB3 H2
  go_wp2_with (first
    | (go_at_call 43; refine FR.out.mono ?_; rintro e X4 ⟨rfl, rfl⟩)
    | (go_at_call 45; refine AD.out.mono ?_; rintro e X5 ⟨rfl, sv', hM, hO⟩)
    | fail)
  go_ret
  refine ⟨ret_int HC.out.symm, sv', ⟨(hO.block gk H3.out.lt H3.out.apart).trans H3.out.blk, hM⟩, Only.below HBW.out hO⟩
end Go.Proofs.Ytpibmccofjpelaa
namespace Go.Proofs.Ytpibmccofjpelaa
open Go.RowKit Go.Maps
set_option linter.unusedVariables false

set_option maxRecDepth 20000 in
set_option maxHeartbeats 1000000 in
theorem verify_none (base gk gl : Nat) (sv : Value) (m1 m2 : Nat) (ms : List Mark) (A : Option Addr) (n c : Nat) (xs : List Nat) (t : Int) (w : World) (h : BSt w base gk gl sv m1 m2 ms) (hx : Row w w.heap.size A n c xs) (h0 : findM ms xs = 0) :
    Calls Try.prog 23 #[.pointer (some ⟨gk, 0, none⟩), .slice A n c, .int .u64 t] w fun e w' => e = .returned (.bool false) ∧ Below w.heap.size w w' := by
  have FI := Lib.hid (find_any base gl sv m1 m2 ms A n c xs _ w h.ls hx)
  rw [h0] at FI
  have TG : Hid (∀ W, Calls Try.prog 65 #[.agg #[], .slice A n c, .int .i64 0] W fun e w' => e = .returned (.tuple #[.int .u64 0, .bool false]) ∧ Below W.heap.size W w') := fun W => tagOf_ideal A n c 0 (by omega) W
  have md := method_ideal
  have c0 := h.c0
  have c1 := h.c1
  clear h hx h0
  go_enter Try.func23, Try.ntmps23
  go_wp2_with (first
    | (go_at_call 40; refine FI.out.mono ?_; rintro e X1 ⟨rfl, k, rfl⟩)
    | (go_at_call 65; refine (TG.out _).mono ?_; rintro e X2 ⟨rfl, hb⟩)
    | fail)
  go_ret
  exact ⟨rfl, (below_drewN (Below.refl _ _)).trans hb⟩
set_option maxRecDepth 20000 in
set_option maxHeartbeats 1000000 in
theorem verify_some (base gk gl : Nat) (sv : Value) (m1 m2 : Nat) (ms : List Mark) (A : Option Addr) (n c : Nat) (xs : List Nat) (t : Int) (w : World) (h : BSt w base gk gl sv m1 m2 ms) (hx : Row w w.heap.size A n c xs) (h0 : 0 < findM ms xs) (hN : findM ms xs < 1000000) :
    Calls Try.prog 23 #[.pointer (some ⟨gk, 0, none⟩), .slice A n c, .int .u64 t] w fun e w' => e = .returned (.bool (decide (t = (findM ms xs : Nat)))) ∧ Below w.heap.size w w' := by
  have FI := Lib.hid (find_any base gl sv m1 m2 ms A n c xs _ w h.ls hx)
  have TG : Hid (∀ W, Calls Try.prog 65 #[.agg #[], .slice A n c, .int .i64 (findM ms xs : Nat)] W fun e w' => e = .returned (.tuple #[.int .u64 (findM ms xs : Nat), .bool true]) ∧ Below W.heap.size W w') := fun W => by
    have := tagOf_ideal A n c (findM ms xs) hN W
    rw [decide_eq_true h0] at this
    exact this
  have md := method_ideal
  have c0 := h.c0
  have c1 := h.c1
  clear h hx
  generalize findM ms xs = N at *
  by_cases ht : t = (N : Int)
  · subst ht
    rw [decide_eq_true rfl]
    go_enter Try.func23, Try.ntmps23
    go_wp2_with (first
      | (go_at_call 40; refine FI.out.mono ?_; rintro e X1 ⟨rfl, k, rfl⟩)
      | (go_at_call 65; refine (TG.out _).mono ?_; rintro e X2 ⟨rfl, hb⟩)
      | fail)
    go_ret
    exact ⟨rfl, (below_drewN (Below.refl _ _)).trans hb⟩
  · rw [decide_eq_false ht]
    go_enter Try.func23, Try.ntmps23
    go_wp2_with (first
      | (go_at_call 40; refine FI.out.mono ?_; rintro e X1 ⟨rfl, k, rfl⟩)
      | (go_at_call 65; refine (TG.out _).mono ?_; rintro e X2 ⟨rfl, hb⟩)
      | fail)
    go_ret
    exact ⟨rfl, (below_drewN (Below.refl _ _)).trans hb⟩
end Go.Proofs.Ytpibmccofjpelaa
namespace Go.Proofs.Ytpibmccofjpelaa
open Go.RowKit Go.Maps
set_option linter.unusedVariables false

theorem make_bad (W : World) : (Instr.makeSlice 47 (.int .i64 0) (.int .i64 0)).run Try.prog W = .ok (.slice (some ⟨W.heap.size, 0, none⟩) 0 0) (W.alloc (.cells #[] 62)) := by kernel_rfl
set_option maxRecDepth 20000 in
set_option maxHeartbeats 1000000 in
theorem bad_none (base gk gl : Nat) (sv : Value) (m1 m2 : Nat) (ms : List Mark) (w : World) (h : BSt w base gk gl sv m1 m2 ms) :
    Calls Try.prog 32 #[.pointer (some ⟨gk, 0, none⟩)] w fun e w' => (∃ g, e = .returned (.slice (some ⟨g, 0, none⟩) 0 0)) ∧ Below w.heap.size w w' := by
  have c2 := h.c2
  have hmk := make_bad
  have c3 := (h.below ((Below.refl _ _).alloc (Nat.le_refl _) (.cells #[] 62))).c2
  clear h
  go_enter Try.func32, Try.ntmps32
  go_wp2
  go_loopw [17] (fun i wr => i = .int .i64 0 ∧ wr = w.alloc (.cells #[] 62)) (fun _ _ => 0)
  case atStart => exact ⟨rfl, rfl⟩
  case round =>
    obtain ⟨rfl, rfl⟩ := hrel
    go_wp2
    go_ret
    exact ⟨⟨_, rfl⟩, (Below.refl _ _).alloc (Nat.le_refl _) _⟩
end Go.Proofs.Ytpibmccofjpelaa
namespace Go.Proofs.Ytpibmccofjpelaa
open Go.RowKit Go.Maps
set_option linter.unusedVariables false

/-- No tag is past the last mark's number. -/
def Few (ms : List Mark) : Prop := ∀ u, ms.length < u → firstM ms u = 0
theorem Few.nil_ : Few [] := fun u _ => rfl
theorem Few.snoc {ms : List Mark} (h : Few ms) (xs : List Nat) : Few (ms ++ [(xs, ms.length + 1)]) := fun u hu => by
  simp only [List.length_append, List.length_singleton] at hu
  rw [firstM_snoc, h u (by omega), if_pos rfl, if_neg (by omega)]
theorem findM_le (ms : List Mark) (xs : List Nat) : findM ms xs ≤ ms.length := fN_le _ _
theorem findM_new {ms : List Mark} {xs : List Nat} (h0 : findM ms xs = 0) : findM (ms ++ [(xs, ms.length + 1)]) xs = ms.length + 1 := by
  rw [findM_snoc ms xs _ h0, if_pos rfl]
/-- What changes just blocks from B on keeps what is below B. -/
theorem Only.low {w w' : World} {S : Nat → Prop} {B : Nat} (h : Only w w' S) (hB : B ≤ w.heap.size) (hS : ∀ i, S i → B ≤ i) : ∀ i, i < B → w'.heap[i]? = w.heap[i]? :=
  fun i hi => h.block i (by omega) fun hs => by have := hS i hs; omega
/-- A book with ideal tags, all of it from base on. -/
structure Ib (V : World) (base gk : Nat) (ms : List Mark) (few : Nat) : Prop where
  ex : ∃ gl sv m1 m2, BSt V base gk gl sv m1 m2 ms ∧ base ≤ gl ∧ base ≤ m1 ∧ base ≤ m2
  num : Few ms
  len : ms.length ≤ few
theorem own_low {V : World} {base gl : Nat} {sv : Value} {m1 m2 : Nat} {ms : List Mark} (h : MSt V base gl sv m1 m2 ms) (i : Nat) (hi : sv.ownBlock = some i) : base ≤ i := by
  rcases h.row.2 with ⟨hv, _⟩ | ⟨g2, cap, cur, hv, hl, hr⟩
  · rw [hv] at hi; cases hi
  · rw [hv] at hi
    injection hi with e
    have e' : g2 = i := e
    omega
set_option maxHeartbeats 400000 in
theorem tag_ideal (base gk : Nat) (ms : List Mark) (few : Nat) (A : Option Addr) (n c : Nat) (xs : List Nat) (w : World) (h : Ib w base gk ms few) (hx : Row w w.heap.size A n c xs) (hb : base ≤ w.heap.size) (hf : few < 5000) :
    Calls Try.prog 25 #[.pointer (some ⟨gk, 0, none⟩), .slice A n c] w fun e w' => ∃ t : Nat, ∃ ms', e = .returned (.int .u64 t) ∧ 0 < t ∧ t ≤ few + 1 ∧ findM ms' xs = t ∧ Ib w' base gk ms' (few + 1) ∧ Below base w w' := by
  obtain ⟨⟨gl, sv, m1, m2, hS, b0, b1, b2⟩, hN, hL⟩ := h
  have hle := findM_le ms xs
  by_cases h0 : findM ms xs = 0
  · refine (tag_new base gk gl sv m1 m2 ms A n c xs w hS hx h0 (hN _ (by omega)) hb (by omega)).mono ?_
    rintro e w' ⟨rfl, sv', hS', hO⟩
    refine ⟨ms.length + 1, _, rfl, by omega, by omega, findM_new h0, ⟨⟨gl, sv', m1, m2, hS', b0, b1, b2⟩, hN.snoc xs, by simp; omega⟩, ?_⟩
    refine ⟨hO.os, hO.tape, hO.output, hO.size, hO.low hb ?_⟩
    rintro i (rfl | rfl | rfl | e)
    · exact b0
    · exact b1
    · exact b2
    · exact own_low hS.ls i e
  · refine (tag_old base gk gl sv m1 m2 ms A n c xs w hS hx (by omega) (by omega)).mono ?_
    rintro e w' ⟨rfl, hB⟩
    exact ⟨findM ms xs, ms, rfl, by omega, by omega, rfl, ⟨⟨gl, sv, m1, m2, hS.below hB, b0, b1, b2⟩, hN, by omega⟩, ⟨hB.os, hB.tape, hB.output, hB.size, fun i hi => hB.block i (by omega)⟩⟩
theorem Ib.below {V V2 : World} {base gk : Nat} {ms : List Mark} {few : Nat} (h : Ib V base gk ms few) (hb : Below V.heap.size V V2) : Ib V2 base gk ms few := by
  obtain ⟨⟨gl, sv, m1, m2, hS, b⟩, hN, hL⟩ := h
  exact ⟨⟨gl, sv, m1, m2, hS.below hb, b⟩, hN, hL⟩
theorem Ib.drewN {V : World} {base gk : Nat} {ms : List Mark} {few : Nat} (h : Ib V base gk ms few) (k : Nat) : Ib (V.drewN k) base gk ms few := by
  obtain ⟨⟨gl, sv, m1, m2, hS, b⟩, hN, hL⟩ := h
  exact ⟨⟨gl, sv, m1, m2, hS.drewN k, b⟩, hN, hL⟩
theorem Ib.more {V : World} {base gk : Nat} {ms : List Mark} {few f2 : Nat} (h : Ib V base gk ms few) (hf : few ≤ f2) : Ib V base gk ms f2 := ⟨h.ex, h.num, Nat.le_trans h.len hf⟩
theorem verify_ideal (base gk : Nat) (ms : List Mark) (few : Nat) (A : Option Addr) (n c : Nat) (xs : List Nat) (t : Int) (w : World) (h : Ib w base gk ms few) (hx : Row w w.heap.size A n c xs) (hf : few < 5000) :
    Calls Try.prog 23 #[.pointer (some ⟨gk, 0, none⟩), .slice A n c, .int .u64 t] w fun e w' => e = .returned (.bool (decide (0 < findM ms xs ∧ t = (findM ms xs : Nat)))) ∧ Below w.heap.size w w' := by
  obtain ⟨⟨gl, sv, m1, m2, hS, b⟩, hN, hL⟩ := h
  have hle := findM_le ms xs
  by_cases h0 : findM ms xs = 0
  · rw [decide_eq_false (by omega)]
    exact verify_none base gk gl sv m1 m2 ms A n c xs t w hS hx h0
  · rw [show decide (0 < findM ms xs ∧ t = (findM ms xs : Nat)) = decide (t = (findM ms xs : Nat)) by simp [Nat.pos_of_ne_zero h0]]
    exact verify_some base gk gl sv m1 m2 ms A n c xs t w hS hx (by omega) (by omega)
theorem has_ideal (base gk : Nat) (ms : List Mark) (few : Nat) (A : Option Addr) (n c : Nat) (xs : List Nat) (w : World) (h : Ib w base gk ms few) (hx : Row w w.heap.size A n c xs) :
    Calls Try.prog 27 #[.pointer (some ⟨gk, 0, none⟩), .slice A n c] w fun e w' => e = .returned (.bool (decide (0 < findM ms xs))) ∧ ∃ k, w' = w.drewN k := by
  obtain ⟨⟨gl, sv, m1, m2, hS, b⟩, hN, hL⟩ := h
  exact has_any base gk gl sv m1 m2 ms A n c xs w hS hx
theorem bad_ideal (base gk : Nat) (ms : List Mark) (few : Nat) (w : World) (h : Ib w base gk ms few) :
    Calls Try.prog 32 #[.pointer (some ⟨gk, 0, none⟩)] w fun e w' => (∃ g, e = .returned (.slice (some ⟨g, 0, none⟩) 0 0)) ∧ Below w.heap.size w w' := by
  obtain ⟨⟨gl, sv, m1, m2, hS, b⟩, hN, hL⟩ := h
  exact bad_none base gk gl sv m1 m2 ms w hS
theorem new_ideal (key : List Nat) (base : Nat) (w : World) (hb : base ≤ w.heap.size) :
    Calls Try.prog 21 #[.int .i64 0, .agg (arrV key)] w fun e w' => ∃ gk, e = .returned (.tuple #[.pointer (some ⟨gk, 0, none⟩), .int .i64 0]) ∧ Ib w' base gk [] 0 ∧ w.heap.size ≤ gk ∧ Below w.heap.size w w' := by
  refine (macNew_ideal key base w hb).mono ?_
  rintro e w' ⟨gk, gl, m1, m2, rfl, hS, l0, l1, l2, l3, hB⟩
  exact ⟨gk, rfl, ⟨⟨gl, _, m1, m2, hS, by omega, by omega, by omega⟩, Few.nil_, Nat.le_refl _⟩, l0, hB⟩
end Go.Proofs.Ytpibmccofjpelaa
