/- A book with tags by a key verifies a tag; what it has. No statement is proved here. -/
import Derived.Test.YtpibmccofjpelaaGTag
namespace Go.Proofs.Ytpibmccofjpelaa
open Go.RowKit Go.Maps
set_option linter.unusedVariables false
set_option linter.unusedSimpArgs false
attribute [local irreducible] findM firstM ssum

set_option maxRecDepth 20000 in
set_option maxHeartbeats 1000000 in
theorem gver_no (base gk : Nat) (key : List Nat) (hkk : Kd.ok (.sip key)) (ms : List Mark) (rs : List Bm) (gl : Nat) (sv : Value) (m1 m2 : Nat) (bv : Value) (A : Option Addr) (n c : Nat) (xs : List Nat) (w : World) (h : Gk w base gk (.sip key) ms rs gl sv m1 m2 bv) (hx : Row w w.heap.size A n c xs) (t : Int) (ht : ¬ t = (ssum key xs : Nat)) :
    Calls Try.prog 23 #[.pointer (some ⟨gk, 0, none⟩), .slice A n c, .int .u64 t] w fun e w' => e = .returned (.bool false) ∧ Below w.heap.size w w' := by
  have FI := Lib.hid (find_any base gl sv m1 m2 ms A n c xs _ w h.ls hx)
  have TG := Lib.hid (fun N W (hW : Row W W.heap.size A n c xs) => tagOf_sum key A n c xs N W hkk.1 hkk.2 hW)
  have md := method_sum key
  have c0 : w.cell? ⟨gk, 0, none⟩ = some (.iface 84 (.agg (arrV key))) := h.c0
  have c1 := h.c1
  have HH := Lib.hid h
  have HX := Lib.hid hx
  clear h hx
  generalize findM ms xs = N at *
  generalize ssum key xs = s at *
  go_enter Try.func23, Try.ntmps23
  go_wp2_with (first
    | (go_at_call 40; refine FI.out.mono ?_; rintro e X1 ⟨rfl, k, rfl⟩)
    | (go_at_call 66; refine (TG.out _ _ (HX.out.drewN k)).mono ?_; rintro e X2 ⟨rfl, hb2⟩)
    | fail)
  go_ret
  exact ⟨rfl, (below_drewN (Below.refl _ _)).trans hb2⟩
set_option maxRecDepth 20000 in
set_option maxHeartbeats 1000000 in
theorem gver_has (base gk : Nat) (key : List Nat) (hkk : Kd.ok (.sip key)) (ms : List Mark) (rs : List Bm) (gl : Nat) (sv : Value) (m1 m2 : Nat) (bv : Value) (A : Option Addr) (n c : Nat) (xs : List Nat) (w : World) (h : Gk w base gk (.sip key) ms rs gl sv m1 m2 bv) (hx : Row w w.heap.size A n c xs) (h0 : 0 < findM ms xs) :
    Calls Try.prog 23 #[.pointer (some ⟨gk, 0, none⟩), .slice A n c, .int .u64 (ssum key xs : Nat)] w fun e w' => e = .returned (.bool true) ∧ Below w.heap.size w w' := by
  have FI := Lib.hid (find_any base gl sv m1 m2 ms A n c xs _ w h.ls hx)
  have TG := Lib.hid (fun N W (hW : Row W W.heap.size A n c xs) => tagOf_sum key A n c xs N W hkk.1 hkk.2 hW)
  have md := method_sum key
  have c0 : w.cell? ⟨gk, 0, none⟩ = some (.iface 84 (.agg (arrV key))) := h.c0
  have c1 := h.c1
  have HH := Lib.hid h
  have HX := Lib.hid hx
  clear h hx
  generalize findM ms xs = N at *
  generalize ssum key xs = s at *
  go_enter Try.func23, Try.ntmps23
  go_wp2_with (first
    | (go_at_call 40; refine FI.out.mono ?_; rintro e X1 ⟨rfl, k, rfl⟩)
    | (go_at_call 66; refine (TG.out _ _ (HX.out.drewN k)).mono ?_; rintro e X2 ⟨rfl, hb2⟩)
    | fail)
  go_ret
  exact ⟨rfl, (below_drewN (Below.refl _ _)).trans hb2⟩
set_option maxRecDepth 20000 in
set_option maxHeartbeats 1000000 in
theorem gver_forged (base gk : Nat) (key : List Nat) (hkk : Kd.ok (.sip key)) (ms : List Mark) (rs : List Bm) (gl : Nat) (sv : Value) (m1 m2 : Nat) (bv : Value) (A : Option Addr) (n c : Nat) (xs : List Nat) (w : World) (h : Gk w base gk (.sip key) ms rs gl sv m1 m2 bv) (hx : Row w w.heap.size A n c xs) (h0 : findM ms xs = 0) (hn : n ≤ 1000) (hb : base ≤ w.heap.size) (hrs : rs.length < 1000) :
    Calls Try.prog 23 #[.pointer (some ⟨gk, 0, none⟩), .slice A n c, .int .u64 (ssum key xs : Nat)] w fun e w' => e = .returned (.bool true) ∧ ∃ bv' r, r.e = ⟨1, xs, [], ssum key xs⟩ ∧ Gk w' base gk (.sip key) ms (rs ++ [r]) gl sv m1 m2 bv' ∧ Only w w' (bkS gk gl sv m1 m2 bv) ∧ (bv'.ownBlock = bv.ownBlock ∨ ∃ i, w.heap.size ≤ i ∧ bv'.ownBlock = some i) := by
  have FI := Lib.hid (find_any base gl sv m1 m2 ms A n c xs _ w h.ls hx)
  have TG := Lib.hid (fun N W (hW : Row W W.heap.size A n c xs) => tagOf_sum key A n c xs N W hkk.1 hkk.2 hW)
  have md := method_sum key
  have c0 : w.cell? ⟨gk, 0, none⟩ = some (.iface 84 (.agg (arrV key))) := h.c0
  have c1 := h.c1
  have HH := Lib.hid h
  have HX := Lib.hid hx
  clear h hx
  rw [h0] at FI
  clear h0
  generalize hs : ssum key xs = s at *
  go_enter Try.func23, Try.ntmps23
  go_wp2_with (first
    | (go_at_call 40; refine FI.out.mono ?_; rintro e X1 ⟨rfl, k, rfl⟩)
    | (go_at_call 66; refine (TG.out _ _ (HX.out.drewN k)).mono ?_; rintro e X2 ⟨rfl, hb2⟩; have hb3 : Below w.heap.size w X2 := (below_drewN (Below.refl _ _)).trans hb2; have H3 := Lib.hid (HH.out.below hb3); have R3 := Lib.hid ((HX.out.below hb3).wider hb3.size); have B3 := Lib.hid hb3; clear hb2 hb3)
    | (go_at_call 41; refine (note_any base gk (.sip key) ms rs gl sv m1 m2 bv 1 s A none n c 0 0 xs [] X2.heap.size X2 H3.out R3.out (Row.nil_ _ _) (Nat.le_refl _) hn (by omega) (Nat.le_trans hb B3.out.size) hrs).mono ?_; rintro e X3 ⟨rfl, bv', r, er, h6, o6, s6⟩)
    | fail)
  go_ret
  refine ⟨rfl, bv', r, er, h6, (Only.below B3.out o6).mono (fun i hi => by rcases hi with e | e; exact .inl e; exact .inr (.inr e)), ?_⟩
  rcases s6 with e | ⟨i, e1, e2⟩
  · exact .inl e
  · exact .inr ⟨i, Nat.le_trans B3.out.size e1, e2⟩
set_option maxHeartbeats 1000000 in
theorem ghas_any (base gk : Nat) (K : Kd) (ms : List Mark) (rs : List Bm) (gl : Nat) (sv : Value) (m1 m2 : Nat) (bv : Value) (A : Option Addr) (n c : Nat) (xs : List Nat) (w : World) (h : Gk w base gk K ms rs gl sv m1 m2 bv) (hx : Row w w.heap.size A n c xs) :
    Calls Try.prog 27 #[.pointer (some ⟨gk, 0, none⟩), .slice A n c] w fun e w' => e = .returned (.bool (decide (0 < findM ms xs))) ∧ ∃ k, w' = w.drewN k := by
  have FI := Lib.hid (find_any base gl sv m1 m2 ms A n c xs _ w h.ls hx)
  have c1 := h.c1
  clear h hx
  generalize findM ms xs = N at *
  go_enter Try.func27, Try.ntmps27
  go_wp2_with (first
    | (go_at_call 40; refine FI.out.mono ?_; rintro e X1 ⟨rfl, k, rfl⟩)
    | fail)
  go_ret
  exact ⟨ret_bool (by simp), _, rfl⟩
end Go.Proofs.Ytpibmccofjpelaa
