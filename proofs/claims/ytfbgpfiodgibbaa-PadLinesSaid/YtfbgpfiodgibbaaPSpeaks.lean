/- The document's example, as the laws ask for it. No statement is proved here. -/
import Derived.Test.YtfbgpfiodgibbaaPLaw
namespace Go.Proofs.Ytfbgpfiodgibbaa
open Go.RowKit
open A (arrV vals)
set_option linter.unusedVariables false
set_option linter.unusedSimpArgs false

theorem nwz {w W : World} {L : Blks} (h : St w W L) : Calls Try.prog 9 #[.agg #[.int .u8 0, .int .u8 0, .int .u8 0, .int .u8 0, .int .u8 0, .int .u8 0, .int .u8 0, .int .u8 0, .int .u8 0, .int .u8 0, .int .u8 0, .int .u8 0, .int .u8 0, .int .u8 0, .int .u8 0, .int .u8 0]] W fun e W' => ∃ g gc, e = .returned (.pointer (some ⟨g, 0, none⟩)) ∧ PP w W' g gc zs16 [] L := new_any h zs16 zkey
theorem sez {w W : World} {g gc : Nat} {us : List Sd} {L : Blks} (h : PP w W g gc zs16 us L) (hus : us.length ≤ 1000) : Calls Try.prog 12 #[.pointer (some ⟨g, 0, none⟩), .int .i64 1, .int .u64 2, .int .i64 3, .agg #[.int .u8 0, .int .u8 0, .int .u8 0, .int .u8 0, .int .u8 0, .int .u8 0, .int .u8 0, .int .u8 0, .int .u8 0, .int .u8 0, .int .u8 0, .int .u8 0, .int .u8 0, .int .u8 0, .int .u8 0, .int .u8 0, .int .u8 0, .int .u8 0, .int .u8 0, .int .u8 0, .int .u8 0, .int .u8 0, .int .u8 0, .int .u8 0, .int .u8 0, .int .u8 0, .int .u8 0, .int .u8 0, .int .u8 0, .int .u8 0, .int .u8 0, .int .u8 0]] W fun e W' => e = .returned (.agg (arrV ZL)) ∧ PP w W' g gc zs16 (us ++ [S0, S1]) L :=
  seal_any h hus zkey 1 2 3 (by simp [I64]) (by omega) (by simp [I64]) zs32 zline
theorem usz {w W : World} {g gc : Nat} {L : Blks} (h : PP w W g gc zs16 [S0, S1, S0, S1] L) : Calls Try.prog 14 #[.pointer (some ⟨g, 0, none⟩)] W fun e W' => ∃ A c M, e = .returned (.slice A 4 c) ∧ PP w W' g gc zs16 [S0, S1, S0, S1] (M ++ L) := by
  refine (used_any h (by decide)).mono ?_
  rintro e W' ⟨v, M, rfl, hr, hp⟩
  obtain ⟨A, c, rfl, _⟩ := hr.form
  exact ⟨A, c, M, rfl, hp⟩
theorem tw_len4 : (tw [S0, S1, S0, S1] 4).length = 2 := by decide +kernel
theorem twz {w W : World} {g gc : Nat} {L : Blks} (h : PP w W g gc zs16 [S0, S1, S0, S1] L) : Calls Try.prog 15 #[.pointer (some ⟨g, 0, none⟩)] W fun e W' => ∃ A c M, e = .returned (.slice A 2 c) ∧ PP w W' g gc zs16 [S0, S1, S0, S1] (M ++ L) := by
  refine (twice_any h (by decide) S_ok).mono ?_
  rintro e W' ⟨v, M, rfl, hr, hp⟩
  obtain ⟨A, c, rfl, _⟩ := hr.form
  refine ⟨A, c, M, ?_, hp⟩
  have e : (tw [S0, S1, S0, S1] ([S0, S1, S0, S1] : List Sd).length).length = 2 := tw_len4
  rw [e]
theorem eqz (W : World) : (binOp .eql 36 (.agg (arrV ZL)) (.agg (arrV ZL))).run Try.prog W = .ok (.bool true) W := by
  have h := crL_ok zkey 1 2 3 zline
  rw [eql_line ZL ZL h h]; simp
theorem nez (W : World) : (binOp .neq 36 (.agg (arrV ZL)) (.agg #[.int .u8 0, .int .u8 0, .int .u8 0, .int .u8 0, .int .u8 0, .int .u8 0, .int .u8 0, .int .u8 0, .int .u8 0, .int .u8 0, .int .u8 0, .int .u8 0, .int .u8 0, .int .u8 0, .int .u8 0, .int .u8 0, .int .u8 0, .int .u8 0, .int .u8 0, .int .u8 0, .int .u8 0, .int .u8 0, .int .u8 0, .int .u8 0, .int .u8 0, .int .u8 0, .int .u8 0, .int .u8 0, .int .u8 0, .int .u8 0, .int .u8 0, .int .u8 0])).run Try.prog W = .ok (.bool true) W := by
  have h := crL_ok zkey 1 2 3 zline
  have := neq_line ZL zs32 h zline W
  rw [decide_eq_false ZL_ne] at this
  exact this
theorem ZL_len : ZL.length = 32 := (crL_ok zkey 1 2 3 zline).len
attribute [local irreducible] A.arrV crs cr1 ZL
set_option maxRecDepth 100000 in
set_option maxHeartbeats 2000000 in
theorem speaks_any (w : World) : Calls Try.prog 7 #[] w fun e w' => e = .returned (.bool true) ∧ Below w.heap.size w w' := by
  have h0 := St.nil w
  have NW := Lib.hid (fun W (h : St w W []) => nwz h)
  have SE := Lib.hid (fun W g gc us L (h : PP w W g gc zs16 us L) hus => sez h hus)
  have US := Lib.hid (fun W g gc L (h : PP w W g gc zs16 [S0, S1, S0, S1] L) => usz h)
  have TW := Lib.hid (fun W g gc L (h : PP w W g gc zs16 [S0, S1, S0, S1] L) => twz h)
  have q1 := eqz
  have q2 := nez
  have ZN := Lib.hid ZL_len
  generalize ZL = Z at *
  generalize hK : zs16 = K at *
  clear hK
  go_enter Try.func7, Try.ntmps7
  go_wp2_with (first
    | (go_at_call 9; refine (NW.out _ h0).mono ?_; clear h0; rintro e W1 ⟨g, gc, rfl, h1⟩)
    | (have _ := h1; go_at_call 12; refine (SE.out _ _ _ _ _ h1 (by decide)).mono ?_; clear h1; rintro e W2 ⟨rfl, h2⟩)
    | (have _ := h2; refine wpList_alloc_pp h2 36 rfl rfl _ (arrV zs32) zero36 rfl ?_; clear h2; intro W3 h3; generalize W2.heap.size = b2 at *)
    | (have _ := h3; refine wpList_store_pp (arr' := arrV Z) h3 0 rfl 36 _ _ rfl rfl rfl rfl (by rw [A.arrV_size, ZN.out]; exact sz36) (by rw [A.arrV_size, A.arrV_size, ZN.out]; rfl) (A.arrV_all _) ?_; clear h3; intro W4 h4)
    | (have _ := h4; go_at_call 12; refine (SE.out _ _ _ _ _ h4 (by decide)).mono ?_; clear h4; rintro e W5 ⟨rfl, h5⟩)
    | (have _ := h5; refine wpList_alloc_pp h5 36 rfl rfl _ (arrV zs32) zero36 rfl ?_; clear h5; intro W6 h6; generalize W5.heap.size = b3 at *)
    | (have _ := h6; refine wpList_store_pp (arr' := arrV Z) h6 1 rfl 36 _ _ rfl rfl rfl rfl (by rw [A.arrV_size, ZN.out]; exact sz36) (by rw [A.arrV_size, A.arrV_size, ZN.out]; rfl) (A.arrV_all _) ?_; clear h6; intro W7 h7; have a2 : At W7 b2 36 (arrV Z) := h7.rest.get 0 rfl; have a3 : At W7 b3 36 (arrV Z) := h7.rest.get 1 rfl)
    | (have _ := a2; refine wpList_load_at a2 36 _ _ rfl rfl rfl Try.underlying36 rfl (by rw [A.arrV_size, ZN.out]; exact sz36) ?_)
    | (have _ := a3; refine wpList_load_at a3 36 _ _ rfl rfl rfl Try.underlying36 rfl (by rw [A.arrV_size, ZN.out]; exact sz36) ?_)
    | (go_at_call 14; refine (US.out _ _ _ _ h7).mono ?_; clear h7 a2 a3; rintro e W8 ⟨A1, c1, M1, rfl, h8⟩)
    | (go_at_call 15; refine (TW.out _ _ _ _ h8).mono ?_; clear h8; rintro e W9 ⟨A2, c2, M2, rfl, h9⟩))
  go_ret
  exact ⟨rfl, h9.rest.bel⟩
end Go.Proofs.Ytfbgpfiodgibbaa
