/- The law of a queue's order. No statement is proved here. -/
import Derived.Test.YtacjdeppigdbjaaQKit
namespace Go.Proofs.Ytacjdeppigdbjaa
open Go.RowKit
set_option linter.unusedVariables false
set_option linter.unusedSimpArgs false
attribute [local irreducible] Msg.arr bufM marr

def R1 (w : World) (g R : Nat) (list : List Msg) (i : Value) (wr : World) : Prop :=
  ∃ k : Nat, k ≤ list.length ∧ i = .int .i64 (k : Nat) ∧ QQ w wr g R (list.take k) []
def R2 (w : World) (g R : Nat) (xs : List Msg) (i : Value) (wr : World) : Prop :=
  ∃ k : Nat, k ≤ xs.length ∧ i = .int .i64 (k : Nat) ∧ QQ w wr g R (xs.drop k) []
theorem take_at (list : List Msg) (k i : Nat) (h : i < k) (hk : i < (list.take k).length) : ∃ x, list[i]? = some x ∧ (list.take k).drop i = x :: (list.take k).drop (i + 1) := by
  refine ⟨(list.take k)[i], ?_, List.drop_eq_getElem_cons hk⟩
  rw [← List.getElem?_eq_getElem hk, List.getElem?_take_of_lt h]
theorem QQ.two {w W W' : World} {g R : Nat} {xs : List Msg} {L : Blks} (h : QQ w W g R xs L) (hw : W.drew = W') : QQ w W' g R xs L := hw ▸ h.drewN 1
set_option maxRecDepth 20000 in
set_option maxHeartbeats 8000000 in
theorem order_walk (room : Int) (A : Option Addr) (n c : Nat) (list : List Msg) (w : World) (hr : ERow w w.heap.size A n c list) :
    Calls Try.prog 4 #[.int .i64 room, .slice A n c] w fun e w' => e = .returned (.bool true) ∧ Below w.heap.size w w' := by
  have SK := Lib.hid (fun W => speaks_any W)
  have hl := hr.len
  obtain ⟨b1, o1, hA⟩ := hr.addr
  replace hA := Lib.hid hA
  have mx := hr.max
  by_cases h100 : 100 < n
  · have q : ((100 : Int) < (n : Int)) = True := eq_true (by omega)
    clear hr
    go_enter Try.func4, Try.ntmps4
    go_wp2_with (go_at_call 9; refine (SK.out _).mono ?_; rintro e W1 ⟨rfl, hb⟩)
    go_ret
    exact ⟨rfl, hb⟩
  have q : ((100 : Int) < (n : Int)) = False := eq_false (by omega)
  have NW := Lib.hid (fun W (h : St w W []) => qnew_any room h)
  have hR : clampR room = if room < 0 then 0 else if 4096 < room then 4096 else room.toNat := by
    unfold clampR
    split
    · omega
    · split <;> omega
  generalize clampR room = R at *
  replace hR := Lib.hid hR
  have HR := Lib.hid hr
  replace hl := Lib.hid hl
  have S0 := Lib.hid (St.nil w)
  clear hr
  go_enter Try.func4, Try.ntmps4
  go_wp2_with (first
    | (go_at_call 9; refine (SK.out _).mono ?_; rintro e W1 ⟨rfl, hb⟩; have h0 := S0.out.call hb; clear hb SK)
    | (have _ := h0; go_at_call 10; refine (NW.out _ h0).mono ?_; clear h0; rintro e W2 ⟨g, rfl, h1⟩; clear NW))
  go_loopw [6] (R1 w g R list) (fun i _ => n - (intOf i).toNat)
  case atStart => exact ⟨0, by omega, rfl, h1⟩
  case round =>
    obtain ⟨k, hk, rfl, h2⟩ := hrel
    rw [hl.out] at hk
    clear h1
    by_cases hlt : k < n
    · have g1 : ((k : Int) < (n : Int)) = True := eq_true (by omega)
      have hk2 : k < list.length := by have := hl.out; omega
      have hx : list[k]? = some list[k] := List.getElem?_eq_getElem hk2
      generalize list[k] = x at *
      have hA2 := hA.out (by omega)
      subst hA2
      obtain ⟨hb1, r1⟩ := HR.out.at2 k x hx
      have r1' : w.rangeAt b1 (o1 + k * 38) x.cs := r1
      have tk := Lib.hid (show (list.take k).length = k by simp; omega)
      have tk1 := Lib.hid (show list.take k ++ [x] = list.take (k + 1) by rw [List.take_add_one, hx]; rfl)
      have hle := Lib.hid h2.1
      replace r1' := Lib.hid r1'
      replace hb1 := Lib.hid hb1
      clear r1 hk2 hx
      by_cases hput : k < R
      · go_wp2_with (first
          | (have _ := h2; refine wpList_loadM (m := x) (b := b1) (off := o1 + k * 38) (rangeAt_keep r1'.out (h2.bel.block _ hb1.out)) (.tmp 27) rfl rfl rfl ?_)
          | (have _ := h2; go_at_call 14; refine (put_ok h2 (by rw [tk.out]; exact hput)).mono ?_; clear h2; rintro e X1 ⟨rfl, h⟩))
        rw [tk1.out] at h
        go_roundw
        case rel => exact ⟨k + 1, by have := hl.out; omega, by go_num, h⟩
        case measure => simp [intOf]; omega
      · have hkR : k = R := by have := hle.out; rw [tk.out] at this; omega
        clear hle
        by_cases hneg : room < 0
        · have e0 : k = 0 := by have := hR.out; rw [if_pos hneg] at this; omega
          have qm : (room < 0) = True := eq_true hneg
          have qk : ((k : Int) != 0) = false := by simp [e0]
          have qk2 : ((k : Int) = 0) = True := eq_true (by omega)
          clear hkR hR e0
          go_wp2_with (first
            | (have _ := h2; refine wpList_loadM (m := x) (b := b1) (off := o1 + k * 38) (rangeAt_keep r1'.out (h2.bel.block _ hb1.out)) (.tmp 27) rfl rfl rfl ?_)
            | (have _ := h2; go_at_call 14; refine (put_full h2 (by rw [tk.out]; exact hput)).mono ?_; clear h2; rintro e X1 ⟨rfl, h⟩)
            | (have _ := h; go_at_call 17; refine (len_any h).mono ?_; rintro e X9 ⟨rfl, j9, rfl⟩; replace h := h.drewN j9; rw [tk.out]))
          go_loopw [7] (R2 w g R (list.take k)) (fun i _ => k - (intOf i).toNat)
          case atStart => exact ⟨0, by omega, rfl, h⟩
          case round =>
            obtain ⟨i, hi, rfl, h3⟩ := hrel
            have tl := tk.out
            rw [tl] at hi
            clear h
            by_cases hlt : i < k
            · have q1 : ((i : Int) < (k : Int)) = True := eq_true (by omega)
              obtain ⟨x, hx, hd⟩ := take_at list k i hlt (by rw [tl]; exact hlt)
              have hin : i < n := by first | omega | (have := hkn.out; omega)
              have hA2 := hA.out (by omega)
              (first | subst hA2 | skip)
              obtain ⟨hb1, r1⟩ := HR.out.at2 i x hx
              have r1' : w.rangeAt b1 (o1 + i * 38) x.cs := r1
              rw [hd] at h3
              replace hd := Lib.hid hd
              replace hx := Lib.hid hx
              replace hb1 := Lib.hid hb1
              replace r1' := Lib.hid r1'
              have NQ : ∀ W, (binOp .neq 31 (.agg x.arr) (.agg x.arr)).run Try.prog W = .ok (.bool false) W := fun W => by rw [neq_msg, decide_eq_true rfl]; rfl
              clear r1 tl
              go_wp2_with (first
                | (have _ := h3; go_at_call 12; refine (take_cons h3).mono ?_; clear h3; rintro e X1 ⟨rfl, h4⟩)
                | (have _ := h4; refine wpList_alloc_q h4 31 rfl rfl _ zmsg.arr zero31 rfl ?_; clear h4; intro X2 h5; generalize X1.heap.size = b at *)
                | (have _ := h5; refine wpList_store_q (arr' := x.arr) h5 0 rfl 31 (.tmp 8) (.tmp 58) rfl rfl rfl rfl (by rw [Msg.arr_size]; exact sz31) (by simp only [Msg.arr_size]) (Msg.arr_one _) ?_; clear h5; intro X3 h6))
              have h7 : QQ w X3.drew g R _ _ := h6.drewN 1
              have H0 := Lib.hid (show At X3.drew b 31 x.arr ∧ X3.drew.rangeAt b1 (o1 + i * 38) x.cs from ⟨h7.at2 0 rfl, rangeAt_keep r1'.out (h7.bel.block _ hb1.out)⟩)
              refine wp_region_held_drew (S := fun W => At W b 31 x.arr ∧ W.rangeAt b1 (o1 + i * 38) x.cs) (by kernel_rfl) H0.out (fun _ => ?_)
              clear h6
              generalize X3.drew = V0 at *
              refine wpAnyH_take (i := 0) (v := .int .i64 0) rfl (by kernel_rfl) (by kernel_rfl) (by kernel_rfl) (fun _ _ _ h => h) (Or.inl ⟨by rfl, fun W hW => by clear hW; go_simp⟩) H0.out ?_
              try simp only [Act.put, List.getElem_toArray, List.getElem_cons_succ, List.getElem_cons_zero, List.setIfInBounds_toArray, List.set_cons_zero, List.set_cons_succ]
              refine wpAnyH_take (i := 1) (v := .bool false) rfl (by kernel_rfl) (by kernel_rfl) (by kernel_rfl) (fun _ _ _ h => h) (Or.inl ⟨by rfl, fun W hW => by clear hW; go_simp⟩) H0.out ?_
              try simp only [Act.put, List.getElem_toArray, List.getElem_cons_succ, List.getElem_cons_zero, List.setIfInBounds_toArray, List.set_cons_zero, List.set_cons_succ]
              refine wpAnyH_take (i := 2) (v := .bool false) rfl (by kernel_rfl) (by kernel_rfl) (by kernel_rfl) (fun _ _ _ h => h) (Or.inl ⟨by rfl, fun W hW => by clear hW; go_simp⟩) H0.out ?_
              try simp only [Act.put, List.getElem_toArray, List.getElem_cons_succ, List.getElem_cons_zero, List.setIfInBounds_toArray, List.set_cons_zero, List.set_cons_succ]
              refine wpAnyH_take (i := 3) (v := .agg x.arr) rfl (by kernel_rfl) (by kernel_rfl) (by kernel_rfl) (fun _ _ _ h => h) (yields_at 31 _ _ rfl (by rfl) rfl Try.underlying31 rfl (by rw [Msg.arr_size]; exact sz31) (fun W hW => hW.1)) H0.out ?_
              try simp only [Act.put, List.getElem_toArray, List.getElem_cons_succ, List.getElem_cons_zero, List.setIfInBounds_toArray, List.set_cons_zero, List.set_cons_succ]
              refine wpAnyH_take (i := 4) (v := .slice (some ⟨b1, o1, none⟩) n c) rfl (by kernel_rfl) (by kernel_rfl) (by kernel_rfl) (fun _ _ _ h => h) (Or.inl ⟨by rfl, fun W hW => by clear hW; go_simp⟩) H0.out ?_
              try simp only [Act.put, List.getElem_toArray, List.getElem_cons_succ, List.getElem_cons_zero, List.setIfInBounds_toArray, List.set_cons_zero, List.set_cons_succ]
              refine wpAnyH_take (i := 5) (v := .int .i64 (i : Int)) rfl (by kernel_rfl) (by kernel_rfl) (by kernel_rfl) (fun _ _ _ h => h) (Or.inl ⟨by rfl, fun W hW => by clear hW; go_simp⟩) H0.out ?_
              try simp only [Act.put, List.getElem_toArray, List.getElem_cons_succ, List.getElem_cons_zero, List.setIfInBounds_toArray, List.set_cons_zero, List.set_cons_succ]
              refine wpAnyH_take (i := 6) (v := .pointer (some ⟨b1, o1 + i * 38, none⟩)) rfl (by kernel_rfl) (by kernel_rfl) (by kernel_rfl) (fun _ _ _ h => h) (Or.inl ⟨by rfl, fun W hW => by clear hW; go_simp⟩) H0.out ?_
              try simp only [Act.put, List.getElem_toArray, List.getElem_cons_succ, List.getElem_cons_zero, List.setIfInBounds_toArray, List.set_cons_zero, List.set_cons_succ]
              refine wpAnyH_take (i := 7) (v := .agg x.arr) rfl (by kernel_rfl) (by kernel_rfl) (by kernel_rfl) (fun _ _ _ h => h) (yields_loadM _ rfl (by rfl) rfl (fun W hW => hW.2)) H0.out ?_
              try simp only [Act.put, List.getElem_toArray, List.getElem_cons_succ, List.getElem_cons_zero, List.setIfInBounds_toArray, List.set_cons_zero, List.set_cons_succ]
              refine wpAnyH_take (i := 8) (v := .bool false) rfl (by kernel_rfl) (by kernel_rfl) (by kernel_rfl) (fun _ _ _ h => h) (Or.inl ⟨by rfl, fun W hW => by clear hW; go_simp⟩) H0.out ?_
              try simp only [Act.put, List.getElem_toArray, List.getElem_cons_succ, List.getElem_cons_zero, List.setIfInBounds_toArray, List.set_cons_zero, List.set_cons_succ]
              refine wpAnyH_take (i := 9) (v := .bool false) rfl (by kernel_rfl) (by kernel_rfl) (by kernel_rfl) (fun _ _ _ h => h) (Or.inl ⟨by rfl, fun W hW => by clear hW; go_simp⟩) H0.out ?_
              try simp only [Act.put, List.getElem_toArray, List.getElem_cons_succ, List.getElem_cons_zero, List.setIfInBounds_toArray, List.set_cons_zero, List.set_cons_succ]
              refine wpAnyH_done (by kernel_rfl) ?_ _
              go_wp2
              go_roundw
              case rel => exact ⟨i + 1, by rw [tk.out]; omega, by go_num, h7.tail⟩
              case measure => simp [intOf]; omega
            · obtain rfl : i = k := by omega
              have q1 : ((i : Int) < (i : Int)) = False := eq_false (by omega)
              rw [List.drop_eq_nil_of_le (by rw [tl]; exact Nat.le_refl _)] at h3
              clear tl
              go_wp2_with (first
                | (have _ := h3; go_at_call 12; refine (take_nil h3).mono ?_; clear h3; rintro e X1 ⟨rfl, h4⟩)
                | (have _ := h4; refine wpList_alloc_q h4 31 rfl rfl _ zmsg.arr zero31 rfl ?_; clear h4; intro X2 h5)
                | (have _ := h5; refine wpList_store_q (arr' := zmsg.arr) h5 0 rfl 31 (.tmp 10) (.tmp 73) rfl rfl rfl rfl (by rw [Msg.arr_size]; exact sz31) (by simp only [Msg.arr_size]) (Msg.arr_one _) ?_; clear h5; intro X3 h6)
                | (have _ := h6; go_at_call 17; refine (len_any h6).mono ?_; rintro e X4 ⟨rfl, j, rfl⟩))
              go_ret
              exact ⟨rfl, (h6.drewN j).bel⟩
        · have e0 : room = (k : Int) := by
            have := hR.out
            rw [if_neg hneg] at this
            split at this <;> omega
          have qm : (room < 0) = False := eq_false hneg
          subst e0
          clear hkR hR hneg
          go_wp2_with (first
            | (have _ := h2; refine wpList_loadM (m := x) (b := b1) (off := o1 + k * 38) (rangeAt_keep r1'.out (h2.bel.block _ hb1.out)) (.tmp 27) rfl rfl rfl ?_)
            | (have _ := h2; go_at_call 14; refine (put_full h2 (by rw [tk.out]; exact hput)).mono ?_; clear h2; rintro e X1 ⟨rfl, h⟩)
            | (have _ := h; go_at_call 17; refine (len_any h).mono ?_; rintro e X9 ⟨rfl, j9, rfl⟩; replace h := h.drewN j9; rw [tk.out]))
          go_loopw [7] (R2 w g R (list.take k)) (fun i _ => k - (intOf i).toNat)
          case atStart => exact ⟨0, by omega, rfl, h⟩
          case round =>
            obtain ⟨i, hi, rfl, h3⟩ := hrel
            have tl := tk.out
            rw [tl] at hi
            clear h
            by_cases hlt : i < k
            · have q1 : ((i : Int) < (k : Int)) = True := eq_true (by omega)
              obtain ⟨x, hx, hd⟩ := take_at list k i hlt (by rw [tl]; exact hlt)
              have hin : i < n := by first | omega | (have := hkn.out; omega)
              have hA2 := hA.out (by omega)
              (first | subst hA2 | skip)
              obtain ⟨hb1, r1⟩ := HR.out.at2 i x hx
              have r1' : w.rangeAt b1 (o1 + i * 38) x.cs := r1
              rw [hd] at h3
              replace hd := Lib.hid hd
              replace hx := Lib.hid hx
              replace hb1 := Lib.hid hb1
              replace r1' := Lib.hid r1'
              have NQ : ∀ W, (binOp .neq 31 (.agg x.arr) (.agg x.arr)).run Try.prog W = .ok (.bool false) W := fun W => by rw [neq_msg, decide_eq_true rfl]; rfl
              clear r1 tl
              go_wp2_with (first
                | (have _ := h3; go_at_call 12; refine (take_cons h3).mono ?_; clear h3; rintro e X1 ⟨rfl, h4⟩)
                | (have _ := h4; refine wpList_alloc_q h4 31 rfl rfl _ zmsg.arr zero31 rfl ?_; clear h4; intro X2 h5; generalize X1.heap.size = b at *)
                | (have _ := h5; refine wpList_store_q (arr' := x.arr) h5 0 rfl 31 (.tmp 8) (.tmp 58) rfl rfl rfl rfl (by rw [Msg.arr_size]; exact sz31) (by simp only [Msg.arr_size]) (Msg.arr_one _) ?_; clear h5; intro X3 h6))
              have h7 : QQ w X3.drew g R _ _ := h6.drewN 1
              have H0 := Lib.hid (show At X3.drew b 31 x.arr ∧ X3.drew.rangeAt b1 (o1 + i * 38) x.cs from ⟨h7.at2 0 rfl, rangeAt_keep r1'.out (h7.bel.block _ hb1.out)⟩)
              refine wp_region_held_drew (S := fun W => At W b 31 x.arr ∧ W.rangeAt b1 (o1 + i * 38) x.cs) (by kernel_rfl) H0.out (fun _ => ?_)
              clear h6
              generalize X3.drew = V0 at *
              refine wpAnyH_take (i := 0) (v := .int .i64 0) rfl (by kernel_rfl) (by kernel_rfl) (by kernel_rfl) (fun _ _ _ h => h) (Or.inl ⟨by rfl, fun W hW => by clear hW; go_simp⟩) H0.out ?_
              try simp only [Act.put, List.getElem_toArray, List.getElem_cons_succ, List.getElem_cons_zero, List.setIfInBounds_toArray, List.set_cons_zero, List.set_cons_succ]
              refine wpAnyH_take (i := 1) (v := .bool false) rfl (by kernel_rfl) (by kernel_rfl) (by kernel_rfl) (fun _ _ _ h => h) (Or.inl ⟨by rfl, fun W hW => by clear hW; go_simp⟩) H0.out ?_
              try simp only [Act.put, List.getElem_toArray, List.getElem_cons_succ, List.getElem_cons_zero, List.setIfInBounds_toArray, List.set_cons_zero, List.set_cons_succ]
              refine wpAnyH_take (i := 2) (v := .bool false) rfl (by kernel_rfl) (by kernel_rfl) (by kernel_rfl) (fun _ _ _ h => h) (Or.inl ⟨by rfl, fun W hW => by clear hW; go_simp⟩) H0.out ?_
              try simp only [Act.put, List.getElem_toArray, List.getElem_cons_succ, List.getElem_cons_zero, List.setIfInBounds_toArray, List.set_cons_zero, List.set_cons_succ]
              refine wpAnyH_take (i := 3) (v := .agg x.arr) rfl (by kernel_rfl) (by kernel_rfl) (by kernel_rfl) (fun _ _ _ h => h) (yields_at 31 _ _ rfl (by rfl) rfl Try.underlying31 rfl (by rw [Msg.arr_size]; exact sz31) (fun W hW => hW.1)) H0.out ?_
              try simp only [Act.put, List.getElem_toArray, List.getElem_cons_succ, List.getElem_cons_zero, List.setIfInBounds_toArray, List.set_cons_zero, List.set_cons_succ]
              refine wpAnyH_take (i := 4) (v := .slice (some ⟨b1, o1, none⟩) n c) rfl (by kernel_rfl) (by kernel_rfl) (by kernel_rfl) (fun _ _ _ h => h) (Or.inl ⟨by rfl, fun W hW => by clear hW; go_simp⟩) H0.out ?_
              try simp only [Act.put, List.getElem_toArray, List.getElem_cons_succ, List.getElem_cons_zero, List.setIfInBounds_toArray, List.set_cons_zero, List.set_cons_succ]
              refine wpAnyH_take (i := 5) (v := .int .i64 (i : Int)) rfl (by kernel_rfl) (by kernel_rfl) (by kernel_rfl) (fun _ _ _ h => h) (Or.inl ⟨by rfl, fun W hW => by clear hW; go_simp⟩) H0.out ?_
              try simp only [Act.put, List.getElem_toArray, List.getElem_cons_succ, List.getElem_cons_zero, List.setIfInBounds_toArray, List.set_cons_zero, List.set_cons_succ]
              refine wpAnyH_take (i := 6) (v := .pointer (some ⟨b1, o1 + i * 38, none⟩)) rfl (by kernel_rfl) (by kernel_rfl) (by kernel_rfl) (fun _ _ _ h => h) (Or.inl ⟨by rfl, fun W hW => by clear hW; go_simp⟩) H0.out ?_
              try simp only [Act.put, List.getElem_toArray, List.getElem_cons_succ, List.getElem_cons_zero, List.setIfInBounds_toArray, List.set_cons_zero, List.set_cons_succ]
              refine wpAnyH_take (i := 7) (v := .agg x.arr) rfl (by kernel_rfl) (by kernel_rfl) (by kernel_rfl) (fun _ _ _ h => h) (yields_loadM _ rfl (by rfl) rfl (fun W hW => hW.2)) H0.out ?_
              try simp only [Act.put, List.getElem_toArray, List.getElem_cons_succ, List.getElem_cons_zero, List.setIfInBounds_toArray, List.set_cons_zero, List.set_cons_succ]
              refine wpAnyH_take (i := 8) (v := .bool false) rfl (by kernel_rfl) (by kernel_rfl) (by kernel_rfl) (fun _ _ _ h => h) (Or.inl ⟨by rfl, fun W hW => by clear hW; go_simp⟩) H0.out ?_
              try simp only [Act.put, List.getElem_toArray, List.getElem_cons_succ, List.getElem_cons_zero, List.setIfInBounds_toArray, List.set_cons_zero, List.set_cons_succ]
              refine wpAnyH_take (i := 9) (v := .bool false) rfl (by kernel_rfl) (by kernel_rfl) (by kernel_rfl) (fun _ _ _ h => h) (Or.inl ⟨by rfl, fun W hW => by clear hW; go_simp⟩) H0.out ?_
              try simp only [Act.put, List.getElem_toArray, List.getElem_cons_succ, List.getElem_cons_zero, List.setIfInBounds_toArray, List.set_cons_zero, List.set_cons_succ]
              refine wpAnyH_done (by kernel_rfl) ?_ _
              go_wp2
              go_roundw
              case rel => exact ⟨i + 1, by rw [tk.out]; omega, by go_num, h7.tail⟩
              case measure => simp [intOf]; omega
            · obtain rfl : i = k := by omega
              have q1 : ((i : Int) < (i : Int)) = False := eq_false (by omega)
              rw [List.drop_eq_nil_of_le (by rw [tl]; exact Nat.le_refl _)] at h3
              clear tl
              go_wp2_with (first
                | (have _ := h3; go_at_call 12; refine (take_nil h3).mono ?_; clear h3; rintro e X1 ⟨rfl, h4⟩)
                | (have _ := h4; refine wpList_alloc_q h4 31 rfl rfl _ zmsg.arr zero31 rfl ?_; clear h4; intro X2 h5)
                | (have _ := h5; refine wpList_store_q (arr' := zmsg.arr) h5 0 rfl 31 (.tmp 10) (.tmp 73) rfl rfl rfl rfl (by rw [Msg.arr_size]; exact sz31) (by simp only [Msg.arr_size]) (Msg.arr_one _) ?_; clear h5; intro X3 h6)
                | (have _ := h6; go_at_call 17; refine (len_any h6).mono ?_; rintro e X4 ⟨rfl, j, rfl⟩))
              go_ret
              exact ⟨rfl, (h6.drewN j).bel⟩
    · have hkn : k = n := by omega
      have g1 : ((k : Int) < (n : Int)) = False := eq_false (by omega)
      replace hkn := Lib.hid hkn
      have h := h2
      have tk := Lib.hid (show (list.take k).length = k by have := hl.out; have := hkn.out; simp; omega)
      clear h2
      go_wp2_with (first
        | fail
        | (have _ := h; go_at_call 17; refine (len_any h).mono ?_; rintro e X9 ⟨rfl, j9, rfl⟩; replace h := h.drewN j9; rw [tk.out]))
      go_loopw [7] (R2 w g R (list.take k)) (fun i _ => k - (intOf i).toNat)
      case atStart => exact ⟨0, by omega, rfl, h⟩
      case round =>
        obtain ⟨i, hi, rfl, h3⟩ := hrel
        have tl := tk.out
        rw [tl] at hi
        clear h
        by_cases hlt : i < k
        · have q1 : ((i : Int) < (k : Int)) = True := eq_true (by omega)
          obtain ⟨x, hx, hd⟩ := take_at list k i hlt (by rw [tl]; exact hlt)
          have hin : i < n := by first | omega | (have := hkn.out; omega)
          have hA2 := hA.out (by omega)
          (first | subst hA2 | skip)
          obtain ⟨hb1, r1⟩ := HR.out.at2 i x hx
          have r1' : w.rangeAt b1 (o1 + i * 38) x.cs := r1
          rw [hd] at h3
          replace hd := Lib.hid hd
          replace hx := Lib.hid hx
          replace hb1 := Lib.hid hb1
          replace r1' := Lib.hid r1'
          have NQ : ∀ W, (binOp .neq 31 (.agg x.arr) (.agg x.arr)).run Try.prog W = .ok (.bool false) W := fun W => by rw [neq_msg, decide_eq_true rfl]; rfl
          clear r1 tl
          go_wp2_with (first
            | (have _ := h3; go_at_call 12; refine (take_cons h3).mono ?_; clear h3; rintro e X1 ⟨rfl, h4⟩)
            | (have _ := h4; refine wpList_alloc_q h4 31 rfl rfl _ zmsg.arr zero31 rfl ?_; clear h4; intro X2 h5; generalize X1.heap.size = b at *)
            | (have _ := h5; refine wpList_store_q (arr' := x.arr) h5 0 rfl 31 (.tmp 8) (.tmp 58) rfl rfl rfl rfl (by rw [Msg.arr_size]; exact sz31) (by simp only [Msg.arr_size]) (Msg.arr_one _) ?_; clear h5; intro X3 h6))
          have h7 : QQ w X3.drew g R _ _ := h6.drewN 1
          have H0 := Lib.hid (show At X3.drew b 31 x.arr ∧ X3.drew.rangeAt b1 (o1 + i * 38) x.cs from ⟨h7.at2 0 rfl, rangeAt_keep r1'.out (h7.bel.block _ hb1.out)⟩)
          refine wp_region_held_drew (S := fun W => At W b 31 x.arr ∧ W.rangeAt b1 (o1 + i * 38) x.cs) (by kernel_rfl) H0.out (fun _ => ?_)
          clear h6
          generalize X3.drew = V0 at *
          refine wpAnyH_take (i := 0) (v := .int .i64 0) rfl (by kernel_rfl) (by kernel_rfl) (by kernel_rfl) (fun _ _ _ h => h) (Or.inl ⟨by rfl, fun W hW => by clear hW; go_simp⟩) H0.out ?_
          try simp only [Act.put, List.getElem_toArray, List.getElem_cons_succ, List.getElem_cons_zero, List.setIfInBounds_toArray, List.set_cons_zero, List.set_cons_succ]
          refine wpAnyH_take (i := 1) (v := .bool false) rfl (by kernel_rfl) (by kernel_rfl) (by kernel_rfl) (fun _ _ _ h => h) (Or.inl ⟨by rfl, fun W hW => by clear hW; go_simp⟩) H0.out ?_
          try simp only [Act.put, List.getElem_toArray, List.getElem_cons_succ, List.getElem_cons_zero, List.setIfInBounds_toArray, List.set_cons_zero, List.set_cons_succ]
          refine wpAnyH_take (i := 2) (v := .bool false) rfl (by kernel_rfl) (by kernel_rfl) (by kernel_rfl) (fun _ _ _ h => h) (Or.inl ⟨by rfl, fun W hW => by clear hW; go_simp⟩) H0.out ?_
          try simp only [Act.put, List.getElem_toArray, List.getElem_cons_succ, List.getElem_cons_zero, List.setIfInBounds_toArray, List.set_cons_zero, List.set_cons_succ]
          refine wpAnyH_take (i := 3) (v := .agg x.arr) rfl (by kernel_rfl) (by kernel_rfl) (by kernel_rfl) (fun _ _ _ h => h) (yields_at 31 _ _ rfl (by rfl) rfl Try.underlying31 rfl (by rw [Msg.arr_size]; exact sz31) (fun W hW => hW.1)) H0.out ?_
          try simp only [Act.put, List.getElem_toArray, List.getElem_cons_succ, List.getElem_cons_zero, List.setIfInBounds_toArray, List.set_cons_zero, List.set_cons_succ]
          refine wpAnyH_take (i := 4) (v := .slice (some ⟨b1, o1, none⟩) n c) rfl (by kernel_rfl) (by kernel_rfl) (by kernel_rfl) (fun _ _ _ h => h) (Or.inl ⟨by rfl, fun W hW => by clear hW; go_simp⟩) H0.out ?_
          try simp only [Act.put, List.getElem_toArray, List.getElem_cons_succ, List.getElem_cons_zero, List.setIfInBounds_toArray, List.set_cons_zero, List.set_cons_succ]
          refine wpAnyH_take (i := 5) (v := .int .i64 (i : Int)) rfl (by kernel_rfl) (by kernel_rfl) (by kernel_rfl) (fun _ _ _ h => h) (Or.inl ⟨by rfl, fun W hW => by clear hW; go_simp⟩) H0.out ?_
          try simp only [Act.put, List.getElem_toArray, List.getElem_cons_succ, List.getElem_cons_zero, List.setIfInBounds_toArray, List.set_cons_zero, List.set_cons_succ]
          refine wpAnyH_take (i := 6) (v := .pointer (some ⟨b1, o1 + i * 38, none⟩)) rfl (by kernel_rfl) (by kernel_rfl) (by kernel_rfl) (fun _ _ _ h => h) (Or.inl ⟨by rfl, fun W hW => by clear hW; go_simp⟩) H0.out ?_
          try simp only [Act.put, List.getElem_toArray, List.getElem_cons_succ, List.getElem_cons_zero, List.setIfInBounds_toArray, List.set_cons_zero, List.set_cons_succ]
          refine wpAnyH_take (i := 7) (v := .agg x.arr) rfl (by kernel_rfl) (by kernel_rfl) (by kernel_rfl) (fun _ _ _ h => h) (yields_loadM _ rfl (by rfl) rfl (fun W hW => hW.2)) H0.out ?_
          try simp only [Act.put, List.getElem_toArray, List.getElem_cons_succ, List.getElem_cons_zero, List.setIfInBounds_toArray, List.set_cons_zero, List.set_cons_succ]
          refine wpAnyH_take (i := 8) (v := .bool false) rfl (by kernel_rfl) (by kernel_rfl) (by kernel_rfl) (fun _ _ _ h => h) (Or.inl ⟨by rfl, fun W hW => by clear hW; go_simp⟩) H0.out ?_
          try simp only [Act.put, List.getElem_toArray, List.getElem_cons_succ, List.getElem_cons_zero, List.setIfInBounds_toArray, List.set_cons_zero, List.set_cons_succ]
          refine wpAnyH_take (i := 9) (v := .bool false) rfl (by kernel_rfl) (by kernel_rfl) (by kernel_rfl) (fun _ _ _ h => h) (Or.inl ⟨by rfl, fun W hW => by clear hW; go_simp⟩) H0.out ?_
          try simp only [Act.put, List.getElem_toArray, List.getElem_cons_succ, List.getElem_cons_zero, List.setIfInBounds_toArray, List.set_cons_zero, List.set_cons_succ]
          refine wpAnyH_done (by kernel_rfl) ?_ _
          go_wp2
          go_roundw
          case rel => exact ⟨i + 1, by rw [tk.out]; omega, by go_num, h7.tail⟩
          case measure => simp [intOf]; omega
        · obtain rfl : i = k := by omega
          have q1 : ((i : Int) < (i : Int)) = False := eq_false (by omega)
          rw [List.drop_eq_nil_of_le (by rw [tl]; exact Nat.le_refl _)] at h3
          clear tl
          go_wp2_with (first
            | (have _ := h3; go_at_call 12; refine (take_nil h3).mono ?_; clear h3; rintro e X1 ⟨rfl, h4⟩)
            | (have _ := h4; refine wpList_alloc_q h4 31 rfl rfl _ zmsg.arr zero31 rfl ?_; clear h4; intro X2 h5)
            | (have _ := h5; refine wpList_store_q (arr' := zmsg.arr) h5 0 rfl 31 (.tmp 10) (.tmp 73) rfl rfl rfl rfl (by rw [Msg.arr_size]; exact sz31) (by simp only [Msg.arr_size]) (Msg.arr_one _) ?_; clear h5; intro X3 h6)
            | (have _ := h6; go_at_call 17; refine (len_any h6).mono ?_; rintro e X4 ⟨rfl, j, rfl⟩))
          go_ret
          exact ⟨rfl, (h6.drewN j).bel⟩
end Go.Proofs.Ytacjdeppigdbjaa
