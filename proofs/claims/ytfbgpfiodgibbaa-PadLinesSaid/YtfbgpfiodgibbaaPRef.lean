/- The block of a seed, the document's. No statement is proved here. -/
import Derived.Test.YtfbgpfiodgibbaaPBytes
namespace Go.Proofs.Ytfbgpfiodgibbaa
open Go.RowKit
open A (arrV vals)
set_option linter.unusedVariables false
set_option linter.unusedSimpArgs false

abbrev lit16 : Array Value := #[.int .u8 0, .int .u8 0, .int .u8 0, .int .u8 0, .int .u8 0, .int .u8 0, .int .u8 0, .int .u8 0, .int .u8 0, .int .u8 0, .int .u8 0, .int .u8 0, .int .u8 0, .int .u8 0, .int .u8 0, .int .u8 0]
theorem lit16_eq : lit16 = arrV zs16 := rfl
theorem zs16_len : zs16.length = 16 := rfl
theorem lit16_all : lit16.all (·.oneCell') = true := by simp [Value.oneCell']
theorem arrV_set (xs : List Nat) (i d : Nat) : (arrV xs).setIfInBounds i (.int .u8 (d : Int)) = arrV (xs.set i d) := by
  unfold A.arrV A.vals; simp [List.map_set]
theorem empty_row (W : World) (B g : Nat) : U.Row W B (some ⟨g, 0, none⟩) 0 0 [] := ⟨rfl, by simp, Nat.le_refl _, by unfold maxLen; omega, (fun h => by cases h), fun a ha hn => absurd hn (by omega)⟩
theorem take_set (D : List Nat) (k : Nat) (hk : k < 15) (hD : D.length = 15) : (D.take k ++ zs16.drop k).set k (D.getD k 0) = D.take (k + 1) ++ zs16.drop (k + 1) := by
  rw [List.set_append_right _ _ (by rw [List.length_take]; omega), List.length_take, hD, Nat.min_eq_left (by omega), Nat.sub_self, List.drop_eq_getElem_cons (by simp [zs16]; omega), List.set_cons_zero, List.take_succ_eq_append_getElem (by omega), List.append_assoc, List.getD_eq_getElem?_getD, List.getElem?_eq_getElem (by omega)]
  rfl
theorem take_end (s : Sd) : (nums s).take 15 ++ zs16.drop 15 = sb s := by
  rw [List.take_of_length_le (by rw [nums_length]; omega)]; rfl
attribute [local irreducible] A.arrV zs16
def RbRel (w : World) (B b b0 b1 b4 c : Nat) (ar : Array Value) (D : List Nat) (i : Value) (wr : World) : Prop :=
  ∃ k : Nat, k ≤ 15 ∧ i = .int .i64 (k : Nat) ∧ U.Row wr B (some ⟨b, 0, none⟩) 15 c D ∧ St w wr [(b0, C 42 ar), (b1, C 23 (arrV zs16)), (b4, C 23 (arrV (D.take k ++ zs16.drop k)))]
set_option maxRecDepth 20000 in
set_option maxHeartbeats 2000000 in
theorem refBytes_any (s : Sd) (hs : s.Ok) (w : World) :
    Calls Try.prog 18 #[.agg s.arr] w fun e w' => e = .returned (.agg (arrV (sb s))) ∧ Below w.heap.size w w' := by
  have N1 := Lib.hid (fun W g => U.refNumber_any (some ⟨g, 0, none⟩) 0 0 [] (uN s.l) 4 W (empty_row _ _ _) (by omega) (uN_lt _) (by omega) (by omega))
  have N2 := Lib.hid (fun W A n c xs h1 h2 => U.refNumber_any A n c xs s.M 8 W h1 h2 hs.M (by omega) (by omega))
  have N3 := Lib.hid (fun W A n c xs h1 h2 => U.refNumber_any A n c xs (uN s.m) 2 W h1 h2 (uN_lt _) (by omega) (by omega))
  have N4 := Lib.hid (fun W A n c xs h1 h2 => U.refNumber_any A n c xs (uN s.b) 1 W h1 h2 (uN_lt _) (by omega) (by omega))
  have e1 := uN_of s.l
  have e2 := uN_of s.m
  have e3 := uN_of s.b
  have h0 := St.nil w
  have LS := Lib.hid (take_end s)
  have NL := Lib.hid (nums_length s)
  have NB := Lib.hid (nums_lt s)
  have SL := Lib.hid (sb_length s)
  have HN := Lib.hid (show [] ++ U.nb (uN s.l) (U.many 4) ++ U.nb s.M (U.many 8) ++ U.nb (uN s.m) (U.many 2) ++ U.nb (uN s.b) (U.many 1) = nums s from rfl)
  have sa : s.arr = #[.int .i64 s.l, .int .u64 (s.M : Int), .int .i64 s.m, .int .i64 s.b] := rfl
  generalize nums s = D at *
  generalize sb s = S at *
  generalize s.arr = ar at *
  clear hs
  go_enter Try.func18, Try.ntmps18
  go_wp2_with (first
    | (refine wpList_box_st h0 42 _ rfl rfl ar rfl ?_; clear h0; intro W1 h1 _ _; generalize hb0 : w.heap.size = b0 at h1 ⊢; replace hb0 := Lib.hid hb0)
    | (refine wpList_alloc_st h1 23 rfl rfl _ (arrV zs16) zero23 rfl ?_; clear h1; intro W2 h2 _ _; subst sa; generalize W1.heap.size = b1 at *; have c0 := (h2.push 5 #[]).cell 0 rfl 0 _ rfl)
    | (go_at_call 28; refine (N1.out _ _).mono ?_; intro e W3 hN; obtain ⟨A9, c, rfl, hO, hb1⟩ := U.GivesRow.out (N := 4) hN rfl; have h3 := h2.call (((Below.refl _ _).alloc (Nat.le_refl _) _).trans (hb1.mono (by simp))); have c1 := h3.cell 0 rfl 1 _ rfl; clear h2 hN hb1 N1 c0)
    | (go_at_call 28; refine (N2.out _ _ _ _ _ hO.row (by omega)).mono ?_; intro e W4 hN; clear hO; obtain ⟨A9, c, rfl, hO, hb1⟩ := U.GivesRow.out (N := 12) hN rfl; have h4 := h3.call hb1; have c2 := h4.cell 0 rfl 2 _ rfl; clear h3 hN hb1 N2 c1)
    | (go_at_call 28; refine (N3.out _ _ _ _ _ hO.row (by omega)).mono ?_; intro e W5 hN; clear hO; obtain ⟨A9, c, rfl, hO, hb1⟩ := U.GivesRow.out (N := 14) hN rfl; have h5 := h4.call hb1; have c3 := h5.cell 0 rfl 3 _ rfl; clear h4 hN hb1 N3 c2)
    | (go_at_call 28; refine (N4.out _ _ _ _ _ hO.row (by omega)).mono ?_; intro e W6 hN; clear hO; obtain ⟨A9, c, rfl, hO, hb1⟩ := U.GivesRow.out (N := 15) hN rfl; rw [HN.out] at hO; have h6 := h5.call hb1; clear h5 hN hb1 N4 c3)
    | (refine wpList_alloc_st h6 23 rfl rfl _ (arrV zs16) zero23 rfl ?_; clear h6; intro W7 h7 _ hb7; have hR := hO.row.below hb7; have hBlo := h7; obtain ⟨b, rfl, hr, hlo⟩ := own_range hO (by omega); clear hO hb7; generalize W6.heap.size = b4 at h7 hR ⊢; have l7 := heap_lt (h7.get 2 rfl))
    | (have _ := h7; refine wpList_store_st (arr' := lit16) h7 2 rfl 23 _ _ rfl rfl rfl rfl sz23 (by rw [A.arrV_size, zs16_len]; rfl) lit16_all ?_; clear h7; intro W8 h8 hg8; rw [lit16_eq] at h8; have hR2 := hR.keep (fun p hp => World.cell?_of_block (hg8.block p.block (by omega) (fun e => by injection e with e; omega))); clear hR hg8))
  have h9 : St w W8 [(b0, C 42 #[.int .i64 s.l, .int .u64 (s.M : Int), .int .i64 s.m, .int .i64 s.b]), (b1, C 23 (arrV zs16)), (b4, C 23 (arrV (D.take 0 ++ zs16.drop 0)))] := h8
  clear h8
  go_loopw [5] (RbRel w b4 b b0 b1 b4 c #[.int .i64 s.l, .int .u64 (s.M : Int), .int .i64 s.m, .int .i64 s.b] D) (fun i _ => 15 - (intOf i).toNat)
  case atStart => exact ⟨0, by omega, rfl, hR2, h9⟩
  case round =>
    clear hR2 h9
    obtain ⟨k, hk, rfl, hR, hS⟩ := hrel
    have HR := Lib.hid hR
    by_cases hlt : k < 15
    · obtain ⟨_, hbb, hcx⟩ := hR.2.2.2.2.2 ⟨b, 0, none⟩ rfl (by omega)
      have cx := hcx k hlt
      simp only [Nat.zero_add] at cx
      have lk : (D.take k ++ zs16.drop k).length = 16 := by rw [List.length_append, List.length_take, List.length_drop, NL.out, zs16_len]; omega
      have TS := Lib.hid (take_set D k hlt NL.out)
      generalize D.getD k 0 = x at *
      clear hcx hR
      have hlt2 : (k : Int) < 15 := by omega
      have hk16 : (k : Int) < 16 := by omega
      replace lk := Lib.hid lk
      go_wp2_with (first
        | (have _ := hS; refine wpList_cell_st hS 2 rfl 5 _ _ rfl rfl k (.int .u8 (x : Int)) rfl rfl (by rw [A.arrV_size, lk.out]; omega) rfl rfl A.size5 ?_; intro W9 h9 hg9; rw [arrV_set, TS.out] at h9; have HR2 := Lib.hid (HR.out.keep (fun p hp => World.cell?_of_block (hg9.block p.block (by have := heap_lt (hS.get 2 rfl); omega) (fun e => by injection e with e; omega)))); clear hS hg9))
      go_roundw
      case rel => exact ⟨k + 1, by omega, by go_num, HR2.out, h9⟩
      case measure => simp [intOf]; omega
    · obtain rfl : k = 15 := by omega
      rw [LS.out] at hS
      go_wp2_with (first
        | (have _ := hS; refine wpList_load_st hS 2 rfl 23 _ _ rfl rfl rfl Try.underlying23 rfl (by rw [A.arrV_size, SL.out]; exact sz23) ?_)
        | (have _ := hS; refine wpList_store_st (arr' := arrV S) hS 1 rfl 23 _ _ rfl rfl rfl rfl (by rw [A.arrV_size, SL.out]; exact sz23) (by rw [A.arrV_size, A.arrV_size, SL.out, zs16_len]) (A.arrV_all _) ?_; clear hS; intro W9 h9 _))
      exact bodyPost_ret (A.results_arr Try.results18 _ _ _ rfl _ ((show A.Blk W9 _ 23 S from h9.get 1 rfl).loadAll 23 _ SL.out Try.underlying23 rfl sz23)) rfl ⟨rfl, h9.bel⟩
end Go.Proofs.Ytfbgpfiodgibbaa
