/- A line, enciphered as the document says. No statement is proved here. -/
import Derived.Test.YtfbgpfiodgibbaaPRef2
import Derived.Test.YtfbgpfiodgibbaaPPlain
import Derived.Test.YtfbgpfiodgibbaaURefXor
import Derived.Deep.CutRange
namespace Go.Proofs.Ytfbgpfiodgibbaa
open Go.RowKit
open A (arrV vals)
set_option linter.unusedVariables false
set_option linter.unusedSimpArgs false

theorem sz29 : (Try.prog.info? 29).map (·.size) = some 2 := by kernel_rfl

theorem zs32_len : zs32.length = 32 := rfl
/-- The document's line behind its round r. -/
def rl (key : List Nat) (l : Int) (M : Nat) (m : Int) (xs : List Nat) : Nat → List Nat
  | 0 => zs32
  | 1 => lay zs32 (U.xorL ((xs.drop 0).take 16) (padN key (sdOf l M m 0))) 0
  | _ => lay (lay zs32 (U.xorL ((xs.drop 0).take 16) (padN key (sdOf l M m 0))) 0) (U.xorL ((xs.drop 16).take 16) (padN key (sdOf l M m 1))) 16
theorem xx_len {key : List Nat} (hk : IsKey key) (s : Sd) {xs : List Nat} (hx : IsLine xs) (o : Nat) (ho : o ≤ 16) : (U.xorL ((xs.drop o).take 16) (padN key s)).length = 16 := by
  have := hx.len
  rw [U.xorL_length, (padN_ok hk _).1, List.length_take, List.length_drop]
  omega
theorem lay_len (xs ys : List Nat) (o : Nat) (h : o + ys.length ≤ xs.length) : (lay xs ys o).length = xs.length := by
  unfold lay
  rw [List.length_append, List.length_append, List.length_take, List.length_drop]
  omega
theorem rl_0 (key : List Nat) (l : Int) (M : Nat) (m : Int) (xs : List Nat) : rl key l M m xs 0 = zs32 := rfl
theorem rl_1 (key : List Nat) (l : Int) (M : Nat) (m : Int) (xs : List Nat) : rl key l M m xs 1 = lay (rl key l M m xs 0) (U.xorL ((xs.drop 0).take 16) (padN key (sdOf l M m 0))) 0 := rfl
theorem rl_2 (key : List Nat) (l : Int) (M : Nat) (m : Int) (xs : List Nat) : rl key l M m xs 2 = lay (rl key l M m xs 1) (U.xorL ((xs.drop 16).take 16) (padN key (sdOf l M m 1))) 16 := rfl
theorem rl_len1 {key : List Nat} (hk : IsKey key) (l : Int) (M : Nat) (m : Int) {xs : List Nat} (hx : IsLine xs) : (rl key l M m xs 1).length = 32 := by
  have a0 := xx_len hk (sdOf l M m 0) hx 0 (by omega)
  rw [rl_1, lay_len _ _ _ (by rw [a0, rl_0, zs32_len]; omega), rl_0, zs32_len]
theorem rl_len2 {key : List Nat} (hk : IsKey key) (l : Int) (M : Nat) (m : Int) {xs : List Nat} (hx : IsLine xs) : (rl key l M m xs 2).length = 32 := by
  have a1 := xx_len hk (sdOf l M m 1) hx 16 (by omega)
  rw [rl_2, lay_len _ _ _ (by rw [a1, rl_len1 hk l M m hx]; omega), rl_len1 hk l M m hx]
theorem rl_end {key : List Nat} (hk : IsKey key) (l : Int) (M : Nat) (m : Int) {xs : List Nat} (hx : IsLine xs) : rl key l M m xs 2 = crL key l M m xs := by
  have a0 := xx_len hk (sdOf l M m 0) hx 0 (by omega)
  have a1 := xx_len hk (sdOf l M m 1) hx 16 (by omega)
  have h := crL_ok hk l M m hx
  have hx3 := hx.len
  refine List.ext_getElem (by rw [rl_len2 hk l M m hx, h.len]) fun i h1 h2 => ?_
  have hi : i < 32 := by rw [h.len] at h2; exact h2
  have e : (rl key l M m xs 2).getD i 0 = (crL key l M m xs).getD i 0 := by
    rw [crL_getD hk l M m hx i hi]
    unfold pdB
    rw [rl_2, lay_getD _ _ _ _ (by rw [a1, rl_len1 hk l M m hx]; omega), rl_1, lay_getD _ _ _ _ (by rw [a0, rl_0, zs32_len]; omega), a0, a1]
    by_cases h16 : i < 16
    · rw [if_neg (by omega), if_pos (by omega), if_pos h16, U.xorL_getD _ _ _ (by rw [List.length_take, List.length_drop, hx3]; omega) (by rw [(padN_ok hk _).1]; omega), part_getD _ _ _ _ (by omega), Nat.sub_zero, Nat.zero_add]
    · rw [if_pos (by omega), if_neg h16, U.xorL_getD _ _ _ (by rw [List.length_take, List.length_drop, hx3]; omega) (by rw [(padN_ok hk _).1]; omega), part_getD _ _ _ _ (by omega), show 16 + (i - 16) = i by omega]
  simpa [List.getD_eq_getElem?_getD, List.getElem?_eq_getElem h1, List.getElem?_eq_getElem h2] using e
theorem heap_lt_cell {W : World} {b o : Nat} {v : Value} (h : W.cell? ⟨b, o, none⟩ = some v) : b < W.heap.size := World.block_lt_of_cell? W ⟨b, o, none⟩ h
theorem lay_nil (X : List Nat) (o : Nat) (h : o ≤ X.length) : lay X [] o = X := by unfold lay; simp
theorem lay_step (X ys : List Nat) (o k : Nat) (hk : k < ys.length) (h : o + ys.length ≤ X.length) : (lay X (ys.take k) o).set (o + k) (ys.getD k 0) = lay X (ys.take (k + 1)) o := by
  generalize hd : ys.getD k 0 = d
  have l1 : (ys.take k).length = k := by rw [List.length_take]; omega
  have l2 : (ys.take (k + 1)).length = k + 1 := by rw [List.length_take]; omega
  refine List.ext_getElem (by rw [List.length_set, lay_len _ _ _ (by omega), lay_len _ _ _ (by omega)]) fun i h1 h2 => ?_
  have e : ((lay X (ys.take k) o).set (o + k) d).getD i 0 = (lay X (ys.take (k + 1)) o).getD i 0 := by
    have hX : i < X.length := by rw [lay_len _ _ _ (by omega)] at h2; exact h2
    rw [lay_getD _ _ _ _ (by omega), l2]
    by_cases hi : i = o + k
    · subst hi
      rw [if_pos (by omega), List.getD_eq_getElem?_getD, List.getElem?_set_self (by rw [lay_len _ _ _ (by omega)]; omega), Nat.add_sub_cancel_left]
      rw [← hd]
      simp only [Option.getD_some, List.getD_eq_getElem?_getD, List.getElem?_take_of_lt (Nat.lt_succ_self k)]
    · rw [List.getD_eq_getElem?_getD, List.getElem?_set_ne (by omega), ← List.getD_eq_getElem?_getD, lay_getD _ _ _ _ (by omega), l1]
      by_cases hj : o ≤ i ∧ i < o + k
      · rw [if_pos hj, if_pos (by omega)]
        simp only [List.getD_eq_getElem?_getD]
        rw [List.getElem?_take_of_lt (by omega), List.getElem?_take_of_lt (by omega)]
      · rw [if_neg hj, if_neg (by omega)]
  rw [List.getD_eq_getElem?_getD, List.getD_eq_getElem?_getD, List.getElem?_eq_getElem h1, List.getElem?_eq_getElem h2] at e
  exact e
attribute [local irreducible] A.arrV zs16 zs32 rl
section
variable {w W W' : World} {L : Blks}
variable {o : Oper} {a : Act} {K : Act → World → Prop} {Q : Exit → Act → World → Prop}
theorem wp_alloc_sg (h : St w W L) (ty : TypeId) (ho : o.op = .alloc ty) (v : Value) (arr : Array Value) (hz : ∀ W, (zeroValue ty).run Try.prog W = .ok v W) (hx : v.cells = arr)
    (k : ∀ W' g, St w W' (L ++ [(g, C ty arr)]) → K (a.put o.dst (.pointer (some ⟨g, 0, none⟩))) W') : o.wp Try.prog a W K Q := by
  subst hx
  have h1 := k _ W.heap.size (h.push ty v.cells)
  unfold Oper.wp execOp
  simp only [ho, Instr.alloc, Sem.run_bind, hz, Result.andThen_ok]
  go_simp
  exact h1
end

def RlRel (w : World) (X0 X1 X2 xs : List Nat) (b5 b9 b10 b11 : Nat) (K5 : Array Value) (i : Value) (wr : World) : Prop :=
  ∃ (iv : Int) (X : List Nat), ((iv = 0 ∧ X = X0) ∨ (iv = 16 ∧ X = X1) ∨ (iv = 32 ∧ X = X2)) ∧ i = .int .i64 iv ∧ St w wr [(b5, C 29 K5), (b9, C 36 (arrV xs)), (b10, C 36 (arrV zs32)), (b11, C 36 (arrV X))]
def RnRel (w : World) (b5 b9 b10 b11 b13 bz : Nat) (K5 : Array Value) (xs P X zs : List Nat) (o : Nat) (i : Value) (wr : World) : Prop :=
  ∃ k : Nat, k ≤ 16 ∧ i = .int .i64 (k : Int) ∧ wr.rangeAt bz 0 (vals zs) ∧ St w wr [(b5, C 29 K5), (b9, C 36 (arrV xs)), (b10, C 36 (arrV zs32)), (b11, C 36 (arrV (lay X (zs.take k) o))), (b13, C 23 (arrV P))]
abbrev lit32 : Array Value := #[.int .u8 0, .int .u8 0, .int .u8 0, .int .u8 0, .int .u8 0, .int .u8 0, .int .u8 0, .int .u8 0, .int .u8 0, .int .u8 0, .int .u8 0, .int .u8 0, .int .u8 0, .int .u8 0, .int .u8 0, .int .u8 0, .int .u8 0, .int .u8 0, .int .u8 0, .int .u8 0, .int .u8 0, .int .u8 0, .int .u8 0, .int .u8 0, .int .u8 0, .int .u8 0, .int .u8 0, .int .u8 0, .int .u8 0, .int .u8 0, .int .u8 0, .int .u8 0]
theorem lit32_all : lit32.all (·.oneCell') = true := by simp [Value.oneCell']
set_option maxRecDepth 100000 in
set_option maxHeartbeats 8000000 in
theorem refLine_any (key : List Nat) (hk : IsKey key) (gt c gb cb : Nat) (l : Int) (M : Nat) (m : Int) (hl : I64 l) (hM : M < 18446744073709551616) (hm : I64 m) (xs : List Nat) (hx : IsLine xs) (w : World) (hRK : RK w key gt c gb cb) (hlit : lit32 = arrV zs32) :
    Calls Try.prog 10 #[.agg #[.slice (some ⟨gt, 0, none⟩) 44 c, .slice (some ⟨gb, 0, none⟩) 256 cb], .int .i64 l, .int .u64 (M : Int), .int .i64 m, .agg (arrV xs)] w fun e w' => e = .returned (.agg (arrV (crL key l M m xs))) ∧ Below w.heap.size w w' := by
  have RKW := Lib.hid (fun W (hb : Below w.heap.size w W) => hRK.call hb)
  have RB0 : Hid (∀ W, Calls Try.prog 18 #[.agg #[.int .i64 l, .int .u64 (M : Int), .int .i64 m, .int .i64 0]] W fun e w' => e = .returned (.agg (arrV (sb (sdOf l M m 0)))) ∧ Below W.heap.size W w') := Lib.hid (fun W => refBytes_any (sdOf l M m 0) (sdOf_ok hl hM hm 0) W)
  have RB1 : Hid (∀ W, Calls Try.prog 18 #[.agg #[.int .i64 l, .int .u64 (M : Int), .int .i64 m, .int .i64 1]] W fun e w' => e = .returned (.agg (arrV (sb (sdOf l M m 1)))) ∧ Below W.heap.size W w') := Lib.hid (fun W => refBytes_any (sdOf l M m 1) (sdOf_ok hl hM hm 1) W)
  have RE0 := Lib.hid (fun W gt c gb cb h => refEnc_any key hk (sdOf l M m 0) gt c gb cb W h)
  have RE1 := Lib.hid (fun W gt c gb cb h => refEnc_any key hk (sdOf l M m 1) gt c gb cb W h)
  have PL0 := Lib.hid (padN_ok hk (sdOf l M m 0)).1
  have PL1 := Lib.hid (padN_ok hk (sdOf l M m 1)).1
  have PB0 := Lib.hid (padN_ok hk (sdOf l M m 0)).2
  have PB1 := Lib.hid (padN_ok hk (sdOf l M m 1)).2
  have XL := Lib.hid hx.len
  have XB := Lib.hid hx.lt
  have XX0 := Lib.hid (xx_len hk (sdOf l M m 0) hx 0 (by omega))
  have XX1 := Lib.hid (xx_len hk (sdOf l M m 1) hx 16 (by omega))
  have R0 := Lib.hid (rl_0 key l M m xs)
  have R1 := Lib.hid (rl_1 key l M m xs)
  have R2 := Lib.hid (rl_2 key l M m xs)
  have R3 := Lib.hid (rl_end hk l M m hx)
  have RL0 := Lib.hid (show (rl key l M m xs 0).length = 32 by rw [rl_0, zs32_len])
  have RL1 := Lib.hid (rl_len1 hk l M m hx)
  have YL := Lib.hid (crL_ok hk l M m hx).len
  have hPr0 := Lib.hid (show (((padN key (sdOf l M m 0)).drop 0).take 16) = padN key (sdOf l M m 0) by rw [List.drop_zero, List.take_of_length_le (by rw [PL0.out]; omega)])
  have hPr1 := Lib.hid (show (((padN key (sdOf l M m 1)).drop 0).take 16) = padN key (sdOf l M m 1) by rw [List.drop_zero, List.take_of_length_le (by rw [PL1.out]; omega)])
  generalize hBs0 : sb (sdOf l M m 0) = Bs0 at *
  generalize hBs1 : sb (sdOf l M m 1) = Bs1 at *
  generalize hP0 : padN key (sdOf l M m 0) = P0 at *
  generalize hP1 : padN key (sdOf l M m 1) = P1 at *
  generalize crL key l M m xs = Y at *
  have h0 := St.nil w
  replace hlit := Lib.hid hlit
  clear hk hl hM hm hx hRK hBs0 hBs1 hP0 hP1
  go_enter Try.func10, Try.ntmps10
  go_wp2_with (first
    | (have _ := h0; refine wpList_box_st h0 29 _ rfl rfl #[.slice (some ⟨gt, 0, none⟩) 44 c, .slice (some ⟨gb, 0, none⟩) 256 cb] rfl ?_; clear h0; intro W1 h1 _ _; generalize hb5 : w.heap.size = b5 at h1 ⊢; replace hb5 := Lib.hid hb5)
    | (have _ := h1; refine wpList_box_st h1 36 _ rfl rfl (arrV xs) rfl ?_; clear h1; intro W2 h2 _ _; generalize W1.heap.size = b9 at *)
    | (have _ := h2; refine wpList_alloc_st h2 36 rfl rfl _ (arrV zs32) zero36 rfl ?_; clear h2; intro W3 h3 _ _; generalize W2.heap.size = b10 at *)
    | (have _ := h3; refine wpList_alloc_st h3 36 rfl rfl _ (arrV zs32) zero36 rfl ?_; clear h3; intro W4 h4 _ _; generalize W3.heap.size = b11 at *)
    | (have _ := h4; refine wpList_store_st (arr' := lit32) h4 3 rfl 36 _ _ rfl rfl rfl rfl sz36 (by rw [A.arrV_size, zs32_len]; rfl) lit32_all ?_; clear h4; intro W5 h5 _; rw [hlit.out, ← R0.out] at h5))
  have h6 : St w W5 [(b5, C 29 #[.slice (some ⟨gt, 0, none⟩) 44 c, .slice (some ⟨gb, 0, none⟩) 256 cb]), (b9, C 36 (arrV xs)), (b10, C 36 (arrV zs32)), (b11, C 36 (arrV (rl key l M m xs 0)))] := by
    have := h5
    rw [R0.out] at this ⊢
    exact this
  clear h5 R0
  generalize rl key l M m xs 0 = X0 at *
  generalize rl key l M m xs 1 = X1 at *
  generalize rl key l M m xs 2 = X2 at *
  generalize hZ0 : U.xorL ((xs.drop 0).take 16) P0 = Z0 at *
  generalize hZ1 : U.xorL ((xs.drop 16).take 16) P1 = Z1 at *
  replace hZ0 := Lib.hid hZ0
  replace hZ1 := Lib.hid hZ1
  go_loopw [12] (RlRel w X0 X1 X2 xs b5 b9 b10 b11 #[.slice (some ⟨gt, 0, none⟩) 44 c, .slice (some ⟨gb, 0, none⟩) 256 cb]) (fun i _ => 48 - (intOf i).toNat)
  case atStart => exact ⟨0, X0, .inl ⟨rfl, rfl⟩, rfl, h6⟩
  case round =>
    clear h6
    obtain ⟨iv, X, hiv, rfl, hS⟩ := hrel
    rcases hiv with ⟨rfl, e⟩ | ⟨rfl, e⟩ | ⟨rfl, e⟩ <;> rw [e] at hS <;> clear e X
    · go_wp2
      go_cut [13] from 21 to 29 (fun s13 wx => ∃ b13 : Nat, s13 = .pointer (some ⟨b13, 0, none⟩) ∧ St w wx ([(b5, C 29 #[.slice (some ⟨gt, 0, none⟩) 44 c, .slice (some ⟨gb, 0, none⟩) 256 cb]), (b9, C 36 (arrV xs)), (b10, C 36 (arrV zs32)), (b11, C 36 (arrV X0))] ++ [(b13, C 23 (arrV P0))]))
      case first =>
        have q0 : IntKind.i64.wrap 0 = 0 := by decide
        have H0 := Lib.hid hS.drew
        refine wp_region_held_drew (S := fun W => St w W [(b5, C 29 #[.slice (some ⟨gt, 0, none⟩) 44 c, .slice (some ⟨gb, 0, none⟩) 256 cb]), (b9, C 36 (arrV xs)), (b10, C 36 (arrV zs32)), (b11, C 36 (arrV X0))]) (by kernel_rfl) H0.out (fun _ => ?_)
        generalize wr.drew = V0 at *
        clear hS
        refine wpAnyH_take (i := 0) (v := .agg #[.slice (some ⟨gt, 0, none⟩) 44 c, .slice (some ⟨gb, 0, none⟩) 256 cb]) rfl (by kernel_rfl) (by kernel_rfl) (by kernel_rfl) (fun _ _ _ h => h) (yields_at 29 _ _ rfl (by rfl) rfl Try.underlying29 rfl sz29 (fun W hW => hW.get 0 rfl)) (H0.out) ?_
        try simp only [Act.put, List.getElem_toArray, List.getElem_cons_succ, List.getElem_cons_zero, List.setIfInBounds_toArray, List.set_cons_zero, List.set_cons_succ]
        refine wpAnyH_take (i := 1) (v := .int .i64 l) rfl (by kernel_rfl) (by kernel_rfl) (by kernel_rfl) (fun _ _ _ h => h) (Or.inl ⟨by rfl, fun W hW => by clear hW; go_simp⟩) (H0.out) ?_
        try simp only [Act.put, List.getElem_toArray, List.getElem_cons_succ, List.getElem_cons_zero, List.setIfInBounds_toArray, List.set_cons_zero, List.set_cons_succ]
        refine wpAnyH_take (i := 2) (v := .int .u64 (M : Int)) rfl (by kernel_rfl) (by kernel_rfl) (by kernel_rfl) (fun _ _ _ h => h) (Or.inl ⟨by rfl, fun W hW => by clear hW; go_simp⟩) (H0.out) ?_
        try simp only [Act.put, List.getElem_toArray, List.getElem_cons_succ, List.getElem_cons_zero, List.setIfInBounds_toArray, List.set_cons_zero, List.set_cons_succ]
        refine wpAnyH_take (i := 3) (v := .int .i64 m) rfl (by kernel_rfl) (by kernel_rfl) (by kernel_rfl) (fun _ _ _ h => h) (Or.inl ⟨by rfl, fun W hW => by clear hW; go_simp⟩) (H0.out) ?_
        try simp only [Act.put, List.getElem_toArray, List.getElem_cons_succ, List.getElem_cons_zero, List.setIfInBounds_toArray, List.set_cons_zero, List.set_cons_succ]
        refine wpAnyH_take (i := 4) (v := .int .i64 0) rfl (by kernel_rfl) (by kernel_rfl) (by kernel_rfl) (fun _ _ _ h => h) (Or.inl ⟨by rfl, fun W hW => by clear hW; go_simp⟩) (H0.out) ?_
        try simp only [Act.put, List.getElem_toArray, List.getElem_cons_succ, List.getElem_cons_zero, List.setIfInBounds_toArray, List.set_cons_zero, List.set_cons_succ]
        refine wpAnyH_take (i := 5) (v := .int .i64 0) rfl (by kernel_rfl) (by kernel_rfl) (by kernel_rfl) (fun _ _ _ h => h) (Or.inl ⟨by rfl, fun W hW => by clear hW; go_simp⟩) (H0.out) ?_
        try simp only [Act.put, List.getElem_toArray, List.getElem_cons_succ, List.getElem_cons_zero, List.setIfInBounds_toArray, List.set_cons_zero, List.set_cons_succ]
        refine wpAnyH_take (i := 6) (v := .agg #[.int .i64 l, .int .u64 (M : Int), .int .i64 m, .int .i64 0]) rfl (by kernel_rfl) (by kernel_rfl) (by kernel_rfl) (fun _ _ _ h => h) (Or.inl ⟨by rfl, fun W hW => by clear hW; go_simp⟩) (H0.out) ?_
        try simp only [Act.put, List.getElem_toArray, List.getElem_cons_succ, List.getElem_cons_zero, List.setIfInBounds_toArray, List.set_cons_zero, List.set_cons_succ]
        refine wpAnyH_ready (rs := [7, 9]) (by kernel_rfl) (by simp) ?_
        refine (AllReadyH.cons rfl (fun K hK => ?_) (AllReadyH.cons rfl (fun K hK => ?_) AllReadyH.nil))
        · go_simp
          go_at_call 18
          refine (RB0.out _).mono ?_
          rintro e V1 ⟨rfl, B1⟩
          have F1 := Lib.hid (H0.out.call B1)
          refine hK.out _ _ (F1.out) (fun _ => ?_)
          clear hK K
          try simp only [Act.put, List.getElem_toArray, List.getElem_cons_succ, List.getElem_cons_zero, List.setIfInBounds_toArray, List.set_cons_zero, List.set_cons_succ]
          refine wpAnyH_ready (rs := [8, 9]) (by kernel_rfl) (by simp) ?_
          refine (AllReadyH.cons rfl (fun K hK => ?_) (AllReadyH.cons rfl (fun K hK => ?_) AllReadyH.nil))
          · go_simp
            go_at_call 20
            refine (RE0.out _ _ _ _ _ (RKW.out _ F1.out.bel)).mono ?_
            rintro e V2 ⟨rfl, B2⟩
            have F2 := Lib.hid (F1.out.call B2)
            refine hK.out _ _ (F2.out) (fun _ => ?_)
            clear hK K
            try simp only [Act.put, List.getElem_toArray, List.getElem_cons_succ, List.getElem_cons_zero, List.setIfInBounds_toArray, List.set_cons_zero, List.set_cons_succ]
            refine wpAnyH_ready (rs := [9]) (by kernel_rfl) (by simp) ?_
            refine (AllReadyH.cons rfl (fun K hK => ?_) AllReadyH.nil)
            rw [if_pos (by rfl)]
            refine wp_alloc_sg F2.out 23 rfl _ (arrV zs16) zero23 rfl ?_
            intro V3 g3 G3
            have F3 := Lib.hid G3
            clear G3
            refine hK.out _ _ (St.pre F3.out) (fun _ => ?_)
            clear hK K
            try simp only [Act.put, List.getElem_toArray, List.getElem_cons_succ, List.getElem_cons_zero, List.setIfInBounds_toArray, List.set_cons_zero, List.set_cons_succ]
            refine wpAnyH_ready (rs := [10]) (by kernel_rfl) (by simp) ?_
            refine (AllReadyH.cons rfl (fun K hK => ?_) AllReadyH.nil)
            rw [if_pos (by rfl)]
            refine wp_store_st (arr' := arrV P0) F3.out 4 rfl 23 _ _ rfl rfl rfl (by rw [A.arrV_size, PL0.out]; exact sz23) (by rw [A.arrV_size, A.arrV_size, PL0.out, zs16_len]) (A.arrV_all _) ?_
            intro V4 G4 _
            have F4 := Lib.hid G4
            clear G4
            refine hK.out _ _ (F4.out.sub (by exact List.sublist_append_left _ _)) (fun _ => ?_)
            clear hK K
            try simp only [Act.put, List.getElem_toArray, List.getElem_cons_succ, List.getElem_cons_zero, List.setIfInBounds_toArray, List.set_cons_zero, List.set_cons_succ]
            refine wpAnyH_done (by kernel_rfl) ?_ _
            go_wp2_with fail
            go_meet
            exact ⟨g3, rfl, F4.out⟩
          · rw [if_pos (by rfl)]
            refine wp_alloc_sg F1.out 23 rfl _ (arrV zs16) zero23 rfl ?_
            intro V5 g5 G5
            have F5 := Lib.hid G5
            clear G5
            refine hK.out _ _ (St.pre F5.out) (fun _ => ?_)
            clear hK K
            try simp only [Act.put, List.getElem_toArray, List.getElem_cons_succ, List.getElem_cons_zero, List.setIfInBounds_toArray, List.set_cons_zero, List.set_cons_succ]
            refine wpAnyH_ready (rs := [8]) (by kernel_rfl) (by simp) ?_
            refine (AllReadyH.cons rfl (fun K hK => ?_) AllReadyH.nil)
            go_simp
            go_at_call 20
            refine (RE0.out _ _ _ _ _ (RKW.out _ F5.out.bel)).mono ?_
            rintro e V6 ⟨rfl, B6⟩
            have F6 := Lib.hid (F5.out.call B6)
            refine hK.out _ _ (St.pre F6.out) (fun _ => ?_)
            clear hK K
            try simp only [Act.put, List.getElem_toArray, List.getElem_cons_succ, List.getElem_cons_zero, List.setIfInBounds_toArray, List.set_cons_zero, List.set_cons_succ]
            refine wpAnyH_ready (rs := [10]) (by kernel_rfl) (by simp) ?_
            refine (AllReadyH.cons rfl (fun K hK => ?_) AllReadyH.nil)
            rw [if_pos (by rfl)]
            refine wp_store_st (arr' := arrV P0) F6.out 4 rfl 23 _ _ rfl rfl rfl (by rw [A.arrV_size, PL0.out]; exact sz23) (by rw [A.arrV_size, A.arrV_size, PL0.out, zs16_len]) (A.arrV_all _) ?_
            intro V7 G7 _
            have F7 := Lib.hid G7
            clear G7
            refine hK.out _ _ (F7.out.sub (by exact List.sublist_append_left _ _)) (fun _ => ?_)
            clear hK K
            try simp only [Act.put, List.getElem_toArray, List.getElem_cons_succ, List.getElem_cons_zero, List.setIfInBounds_toArray, List.set_cons_zero, List.set_cons_succ]
            refine wpAnyH_done (by kernel_rfl) ?_ _
            go_wp2_with fail
            go_meet
            exact ⟨g5, rfl, F7.out⟩
        · rw [if_pos (by rfl)]
          refine wp_alloc_sg H0.out 23 rfl _ (arrV zs16) zero23 rfl ?_
          intro V8 g8 G8
          have F8 := Lib.hid G8
          clear G8
          refine hK.out _ _ (St.pre F8.out) (fun _ => ?_)
          clear hK K
          try simp only [Act.put, List.getElem_toArray, List.getElem_cons_succ, List.getElem_cons_zero, List.setIfInBounds_toArray, List.set_cons_zero, List.set_cons_succ]
          refine wpAnyH_ready (rs := [7]) (by kernel_rfl) (by simp) ?_
          refine (AllReadyH.cons rfl (fun K hK => ?_) AllReadyH.nil)
          go_simp
          go_at_call 18
          refine (RB0.out _).mono ?_
          rintro e V9 ⟨rfl, B9⟩
          have F9 := Lib.hid (F8.out.call B9)
          refine hK.out _ _ (St.pre F9.out) (fun _ => ?_)
          clear hK K
          try simp only [Act.put, List.getElem_toArray, List.getElem_cons_succ, List.getElem_cons_zero, List.setIfInBounds_toArray, List.set_cons_zero, List.set_cons_succ]
          refine wpAnyH_ready (rs := [8]) (by kernel_rfl) (by simp) ?_
          refine (AllReadyH.cons rfl (fun K hK => ?_) AllReadyH.nil)
          go_simp
          go_at_call 20
          refine (RE0.out _ _ _ _ _ (RKW.out _ F9.out.bel)).mono ?_
          rintro e V10 ⟨rfl, B10⟩
          have F10 := Lib.hid (F9.out.call B10)
          refine hK.out _ _ (St.pre F10.out) (fun _ => ?_)
          clear hK K
          try simp only [Act.put, List.getElem_toArray, List.getElem_cons_succ, List.getElem_cons_zero, List.setIfInBounds_toArray, List.set_cons_zero, List.set_cons_succ]
          refine wpAnyH_ready (rs := [10]) (by kernel_rfl) (by simp) ?_
          refine (AllReadyH.cons rfl (fun K hK => ?_) AllReadyH.nil)
          rw [if_pos (by rfl)]
          refine wp_store_st (arr' := arrV P0) F10.out 4 rfl 23 _ _ rfl rfl rfl (by rw [A.arrV_size, PL0.out]; exact sz23) (by rw [A.arrV_size, A.arrV_size, PL0.out, zs16_len]) (A.arrV_all _) ?_
          intro V11 G11 _
          have F11 := Lib.hid G11
          clear G11
          refine hK.out _ _ (F11.out.sub (by exact List.sublist_append_left _ _)) (fun _ => ?_)
          clear hK K
          try simp only [Act.put, List.getElem_toArray, List.getElem_cons_succ, List.getElem_cons_zero, List.setIfInBounds_toArray, List.set_cons_zero, List.set_cons_succ]
          refine wpAnyH_done (by kernel_rfl) ?_ _
          go_wp2_with fail
          go_meet
          exact ⟨g8, rfl, F11.out⟩
      case rest =>
        obtain ⟨b13, rfl, hT⟩ := hcut
        clear hS
        have q1 : ∀ V, (Instr.sliceAt 36 (.pointer (some ⟨b9, 0, none⟩)) (some (.int .i64 0)) (some (.int .i64 16)) none).run Try.prog V = .ok (.slice (some ⟨b9, 0, none⟩) 16 32) V := fun V => by kernel_rfl
        have q3 : IntKind.i64.wrap 16 = 16 := by decide
        go_wp2
        refine wp_region_held_drew (S := fun _ => True) (by kernel_rfl) trivial (fun _ => ?_)
        have k5 := Lib.hid hT.drew
        clear hT
        generalize wc.drew = V4 at *
        refine wpAnyH_take (i := 0) (v := .int .i64 0) rfl (by kernel_rfl) (by kernel_rfl) (by kernel_rfl) (fun _ _ _ h => h) (Or.inl ⟨by rfl, fun W hW => by clear hW; go_simp⟩) trivial ?_
        try simp only [Act.put, List.getElem_toArray, List.getElem_cons_succ, List.getElem_cons_zero, List.setIfInBounds_toArray, List.set_cons_zero, List.set_cons_succ]
        refine wpAnyH_take (i := 1) (v := .int .i64 0) rfl (by kernel_rfl) (by kernel_rfl) (by kernel_rfl) (fun _ _ _ h => h) (Or.inl ⟨by rfl, fun W hW => by clear hW; go_simp⟩) trivial ?_
        try simp only [Act.put, List.getElem_toArray, List.getElem_cons_succ, List.getElem_cons_zero, List.setIfInBounds_toArray, List.set_cons_zero, List.set_cons_succ]
        refine wpAnyH_take (i := 2) (v := .int .i64 16) rfl (by kernel_rfl) (by kernel_rfl) (by kernel_rfl) (fun _ _ _ h => h) (Or.inl ⟨by rfl, fun W hW => by clear hW; go_simp⟩) trivial ?_
        try simp only [Act.put, List.getElem_toArray, List.getElem_cons_succ, List.getElem_cons_zero, List.setIfInBounds_toArray, List.set_cons_zero, List.set_cons_succ]
        refine wpAnyH_take (i := 3) (v := .slice (some ⟨b9, 0, none⟩) 16 32) rfl (by kernel_rfl) (by kernel_rfl) (by kernel_rfl) (fun _ _ _ h => h) (Or.inl ⟨by rfl, fun W hW => by clear hW; go_simp⟩) trivial ?_
        try simp only [Act.put, List.getElem_toArray, List.getElem_cons_succ, List.getElem_cons_zero, List.setIfInBounds_toArray, List.set_cons_zero, List.set_cons_succ]
        refine wpAnyH_take (i := 4) (v := .slice (some ⟨b13, 0, none⟩) 16 16) rfl (by kernel_rfl) (by kernel_rfl) (by kernel_rfl) (fun _ _ _ h => h) (Or.inl ⟨by rfl, fun W hW => by clear hW; go_simp⟩) trivial ?_
        try simp only [Act.put, List.getElem_toArray, List.getElem_cons_succ, List.getElem_cons_zero, List.setIfInBounds_toArray, List.set_cons_zero, List.set_cons_succ]
        refine wpAnyH_ready (rs := [5]) (by kernel_rfl) (by simp) ?_
        refine AllReadyH.cons rfl (fun K hK => ?_) AllReadyH.nil
        go_simp
        go_at_call 24
        refine (U.refXor_any _ _ 16 16 32 16 ((xs.drop 0).take 16) P0 _ (blk_row (k5.out.get 1 rfl) XB.out 0 16 32 (by rw [XL.out]; omega) (by omega) (by omega)) (by have h := blk_row (show A.Blk V4 b13 23 P0 from k5.out.get 4 rfl) PB0.out 0 16 16 (by rw [PL0.out]; omega) (by omega) (by omega); rwa [hPr0.out] at h) (by omega) (by omega)).mono ?_
        intro e V5 hN
        rw [hZ0.out] at hN
        obtain ⟨A9, c9, rfl, hO, hb5⟩ := U.GivesRow.out (N := 16) hN XX0.out
        obtain ⟨bz, rfl, hrz, hzlo⟩ := own_range hO (by omega)
        have k6 := Lib.hid (k5.out.call hb5)
        have hrow := Lib.hid hO.row
        clear hN hO hb5
        have H1_ := Lib.hid trivial
        refine hK.out _ _ trivial (fun _ => ?_)
        clear hK K
        try simp only [Act.put, List.getElem_toArray, List.getElem_cons_succ, List.getElem_cons_zero, List.setIfInBounds_toArray, List.set_cons_zero, List.set_cons_succ]
        refine wpAnyH_take (i := 6) (v := .slice (some ⟨bz, 0, none⟩) 16 c9) rfl (by kernel_rfl) (by kernel_rfl) (by kernel_rfl) (fun _ _ _ h => h) (Or.inl ⟨by rfl, fun W hW => by clear hW; go_simp⟩) H1_.out ?_
        try simp only [Act.put, List.getElem_toArray, List.getElem_cons_succ, List.getElem_cons_zero, List.setIfInBounds_toArray, List.set_cons_zero, List.set_cons_succ]
        refine wpAnyH_done (by kernel_rfl) ?_ _
        have hne : bz ≠ b11 := by have := heap_lt (k5.out.get 3 rfl); omega
        have k7 : St w V5 [(b5, C 29 #[.slice (some ⟨gt, 0, none⟩) 44 c, .slice (some ⟨gb, 0, none⟩) 256 cb]), (b9, C 36 (arrV xs)), (b10, C 36 (arrV zs32)), (b11, C 36 (arrV (lay X0 (Z0.take 0) 0))), (b13, C 23 (arrV P0))] := by
          rw [List.take_zero, lay_nil _ _ (by rw [RL0.out]; omega)]; exact k6.out
        clear k5 k6 hrow
        go_wp2
        go_loopw [15] (RnRel w b5 b9 b10 b11 b13 bz #[.slice (some ⟨gt, 0, none⟩) 44 c, .slice (some ⟨gb, 0, none⟩) 256 cb] xs P0 X0 Z0 0) (fun i _ => 16 - (intOf i).toNat)
        case atStart => exact ⟨0, by omega, rfl, hrz, k7⟩
        case round =>
          clear k7 hrz
          obtain ⟨k, hk, rfl, hz, hT⟩ := hrel
          by_cases hlt : k < 16
          · have cx : wr.cell? ⟨bz, k, none⟩ = some (.int .u8 ((Z0.getD k 0 : Nat) : Int)) := by
              have := hz k _ (A.vals_getElem? Z0 k (by rw [XX0.out]; exact hlt))
              rwa [Nat.zero_add] at this
            have TS := Lib.hid (lay_step X0 Z0 0 k (by rw [XX0.out]; exact hlt) (by rw [XX0.out, RL0.out]; omega))
            have lk := Lib.hid (show (lay X0 (Z0.take k) 0).length = 32 by rw [lay_len _ _ _ (by rw [List.length_take, XX0.out, RL0.out]; omega), RL0.out])
            generalize Z0.getD k 0 = x at *
            have g1 : (k : Int) < 16 := by omega
            have g2 : (0 : Int) ≤ 0 + (k : Int) := by omega
            have g3 : 0 + (k : Int) < 32 := by omega
            have g4 : IntKind.i64.wrap (0 + (k : Int)) = 0 + (k : Int) := IntWalk.i64_in _ (by omega)
            have g5 : (0 + (k : Int)).toNat = 0 + k := by omega
            have g6 : (k : Int) < 32 := by omega
            replace hz := Lib.hid hz
            go_wp2_with (first
              | (have _ := hT; refine wpList_cell_st hT 3 rfl 5 _ _ rfl rfl (k) (.int .u8 (x : Int)) rfl rfl (by rw [A.arrV_size, lk.out]; omega) rfl rfl A.size5 ?_; intro W9 h9 hg9; rw [arrV_set] at h9; have hz2 := Lib.hid (rangeAt_keep hz.out (hg9.block bz (by have := heap_lt_cell cx; omega) (fun e => by injection e with e; omega))); clear hT hg9))
            go_roundw
            case rel => exact ⟨k + 1, by omega, by go_num, hz2.out, by rw [← TS.out]; simpa using h9⟩
            case measure => simp [intOf]; omega
          · obtain rfl : k = 16 := by omega
            rw [List.take_of_length_le (by rw [XX0.out]; omega), ← R1.out] at hT
            go_wp2
            go_roundw
            case rel => exact ⟨16, X1, .inr (.inl ⟨rfl, rfl⟩), rfl, St.pre (M := [(b13, C 23 (arrV P0))]) hT⟩
            case measure => simp [intOf]
    · go_wp2
      go_cut [13] from 21 to 29 (fun s13 wx => ∃ b13 : Nat, s13 = .pointer (some ⟨b13, 0, none⟩) ∧ St w wx ([(b5, C 29 #[.slice (some ⟨gt, 0, none⟩) 44 c, .slice (some ⟨gb, 0, none⟩) 256 cb]), (b9, C 36 (arrV xs)), (b10, C 36 (arrV zs32)), (b11, C 36 (arrV X1))] ++ [(b13, C 23 (arrV P1))]))
      case first =>
        have q0 : IntKind.i64.wrap 1 = 1 := by decide
        have H0 := Lib.hid hS.drew
        refine wp_region_held_drew (S := fun W => St w W [(b5, C 29 #[.slice (some ⟨gt, 0, none⟩) 44 c, .slice (some ⟨gb, 0, none⟩) 256 cb]), (b9, C 36 (arrV xs)), (b10, C 36 (arrV zs32)), (b11, C 36 (arrV X1))]) (by kernel_rfl) H0.out (fun _ => ?_)
        generalize wr.drew = V0 at *
        clear hS
        refine wpAnyH_take (i := 0) (v := .agg #[.slice (some ⟨gt, 0, none⟩) 44 c, .slice (some ⟨gb, 0, none⟩) 256 cb]) rfl (by kernel_rfl) (by kernel_rfl) (by kernel_rfl) (fun _ _ _ h => h) (yields_at 29 _ _ rfl (by rfl) rfl Try.underlying29 rfl sz29 (fun W hW => hW.get 0 rfl)) (H0.out) ?_
        try simp only [Act.put, List.getElem_toArray, List.getElem_cons_succ, List.getElem_cons_zero, List.setIfInBounds_toArray, List.set_cons_zero, List.set_cons_succ]
        refine wpAnyH_take (i := 1) (v := .int .i64 l) rfl (by kernel_rfl) (by kernel_rfl) (by kernel_rfl) (fun _ _ _ h => h) (Or.inl ⟨by rfl, fun W hW => by clear hW; go_simp⟩) (H0.out) ?_
        try simp only [Act.put, List.getElem_toArray, List.getElem_cons_succ, List.getElem_cons_zero, List.setIfInBounds_toArray, List.set_cons_zero, List.set_cons_succ]
        refine wpAnyH_take (i := 2) (v := .int .u64 (M : Int)) rfl (by kernel_rfl) (by kernel_rfl) (by kernel_rfl) (fun _ _ _ h => h) (Or.inl ⟨by rfl, fun W hW => by clear hW; go_simp⟩) (H0.out) ?_
        try simp only [Act.put, List.getElem_toArray, List.getElem_cons_succ, List.getElem_cons_zero, List.setIfInBounds_toArray, List.set_cons_zero, List.set_cons_succ]
        refine wpAnyH_take (i := 3) (v := .int .i64 m) rfl (by kernel_rfl) (by kernel_rfl) (by kernel_rfl) (fun _ _ _ h => h) (Or.inl ⟨by rfl, fun W hW => by clear hW; go_simp⟩) (H0.out) ?_
        try simp only [Act.put, List.getElem_toArray, List.getElem_cons_succ, List.getElem_cons_zero, List.setIfInBounds_toArray, List.set_cons_zero, List.set_cons_succ]
        refine wpAnyH_take (i := 4) (v := .int .i64 16) rfl (by kernel_rfl) (by kernel_rfl) (by kernel_rfl) (fun _ _ _ h => h) (Or.inl ⟨by rfl, fun W hW => by clear hW; go_simp⟩) (H0.out) ?_
        try simp only [Act.put, List.getElem_toArray, List.getElem_cons_succ, List.getElem_cons_zero, List.setIfInBounds_toArray, List.set_cons_zero, List.set_cons_succ]
        refine wpAnyH_take (i := 5) (v := .int .i64 1) rfl (by kernel_rfl) (by kernel_rfl) (by kernel_rfl) (fun _ _ _ h => h) (Or.inl ⟨by rfl, fun W hW => by clear hW; go_simp⟩) (H0.out) ?_
        try simp only [Act.put, List.getElem_toArray, List.getElem_cons_succ, List.getElem_cons_zero, List.setIfInBounds_toArray, List.set_cons_zero, List.set_cons_succ]
        refine wpAnyH_take (i := 6) (v := .agg #[.int .i64 l, .int .u64 (M : Int), .int .i64 m, .int .i64 1]) rfl (by kernel_rfl) (by kernel_rfl) (by kernel_rfl) (fun _ _ _ h => h) (Or.inl ⟨by rfl, fun W hW => by clear hW; go_simp⟩) (H0.out) ?_
        try simp only [Act.put, List.getElem_toArray, List.getElem_cons_succ, List.getElem_cons_zero, List.setIfInBounds_toArray, List.set_cons_zero, List.set_cons_succ]
        refine wpAnyH_ready (rs := [7, 9]) (by kernel_rfl) (by simp) ?_
        refine (AllReadyH.cons rfl (fun K hK => ?_) (AllReadyH.cons rfl (fun K hK => ?_) AllReadyH.nil))
        · go_simp
          go_at_call 18
          refine (RB1.out _).mono ?_
          rintro e V1 ⟨rfl, B1⟩
          have F1 := Lib.hid (H0.out.call B1)
          refine hK.out _ _ (F1.out) (fun _ => ?_)
          clear hK K
          try simp only [Act.put, List.getElem_toArray, List.getElem_cons_succ, List.getElem_cons_zero, List.setIfInBounds_toArray, List.set_cons_zero, List.set_cons_succ]
          refine wpAnyH_ready (rs := [8, 9]) (by kernel_rfl) (by simp) ?_
          refine (AllReadyH.cons rfl (fun K hK => ?_) (AllReadyH.cons rfl (fun K hK => ?_) AllReadyH.nil))
          · go_simp
            go_at_call 20
            refine (RE1.out _ _ _ _ _ (RKW.out _ F1.out.bel)).mono ?_
            rintro e V2 ⟨rfl, B2⟩
            have F2 := Lib.hid (F1.out.call B2)
            refine hK.out _ _ (F2.out) (fun _ => ?_)
            clear hK K
            try simp only [Act.put, List.getElem_toArray, List.getElem_cons_succ, List.getElem_cons_zero, List.setIfInBounds_toArray, List.set_cons_zero, List.set_cons_succ]
            refine wpAnyH_ready (rs := [9]) (by kernel_rfl) (by simp) ?_
            refine (AllReadyH.cons rfl (fun K hK => ?_) AllReadyH.nil)
            rw [if_pos (by rfl)]
            refine wp_alloc_sg F2.out 23 rfl _ (arrV zs16) zero23 rfl ?_
            intro V3 g3 G3
            have F3 := Lib.hid G3
            clear G3
            refine hK.out _ _ (St.pre F3.out) (fun _ => ?_)
            clear hK K
            try simp only [Act.put, List.getElem_toArray, List.getElem_cons_succ, List.getElem_cons_zero, List.setIfInBounds_toArray, List.set_cons_zero, List.set_cons_succ]
            refine wpAnyH_ready (rs := [10]) (by kernel_rfl) (by simp) ?_
            refine (AllReadyH.cons rfl (fun K hK => ?_) AllReadyH.nil)
            rw [if_pos (by rfl)]
            refine wp_store_st (arr' := arrV P1) F3.out 4 rfl 23 _ _ rfl rfl rfl (by rw [A.arrV_size, PL1.out]; exact sz23) (by rw [A.arrV_size, A.arrV_size, PL1.out, zs16_len]) (A.arrV_all _) ?_
            intro V4 G4 _
            have F4 := Lib.hid G4
            clear G4
            refine hK.out _ _ (F4.out.sub (by exact List.sublist_append_left _ _)) (fun _ => ?_)
            clear hK K
            try simp only [Act.put, List.getElem_toArray, List.getElem_cons_succ, List.getElem_cons_zero, List.setIfInBounds_toArray, List.set_cons_zero, List.set_cons_succ]
            refine wpAnyH_done (by kernel_rfl) ?_ _
            go_wp2_with fail
            go_meet
            exact ⟨g3, rfl, F4.out⟩
          · rw [if_pos (by rfl)]
            refine wp_alloc_sg F1.out 23 rfl _ (arrV zs16) zero23 rfl ?_
            intro V5 g5 G5
            have F5 := Lib.hid G5
            clear G5
            refine hK.out _ _ (St.pre F5.out) (fun _ => ?_)
            clear hK K
            try simp only [Act.put, List.getElem_toArray, List.getElem_cons_succ, List.getElem_cons_zero, List.setIfInBounds_toArray, List.set_cons_zero, List.set_cons_succ]
            refine wpAnyH_ready (rs := [8]) (by kernel_rfl) (by simp) ?_
            refine (AllReadyH.cons rfl (fun K hK => ?_) AllReadyH.nil)
            go_simp
            go_at_call 20
            refine (RE1.out _ _ _ _ _ (RKW.out _ F5.out.bel)).mono ?_
            rintro e V6 ⟨rfl, B6⟩
            have F6 := Lib.hid (F5.out.call B6)
            refine hK.out _ _ (St.pre F6.out) (fun _ => ?_)
            clear hK K
            try simp only [Act.put, List.getElem_toArray, List.getElem_cons_succ, List.getElem_cons_zero, List.setIfInBounds_toArray, List.set_cons_zero, List.set_cons_succ]
            refine wpAnyH_ready (rs := [10]) (by kernel_rfl) (by simp) ?_
            refine (AllReadyH.cons rfl (fun K hK => ?_) AllReadyH.nil)
            rw [if_pos (by rfl)]
            refine wp_store_st (arr' := arrV P1) F6.out 4 rfl 23 _ _ rfl rfl rfl (by rw [A.arrV_size, PL1.out]; exact sz23) (by rw [A.arrV_size, A.arrV_size, PL1.out, zs16_len]) (A.arrV_all _) ?_
            intro V7 G7 _
            have F7 := Lib.hid G7
            clear G7
            refine hK.out _ _ (F7.out.sub (by exact List.sublist_append_left _ _)) (fun _ => ?_)
            clear hK K
            try simp only [Act.put, List.getElem_toArray, List.getElem_cons_succ, List.getElem_cons_zero, List.setIfInBounds_toArray, List.set_cons_zero, List.set_cons_succ]
            refine wpAnyH_done (by kernel_rfl) ?_ _
            go_wp2_with fail
            go_meet
            exact ⟨g5, rfl, F7.out⟩
        · rw [if_pos (by rfl)]
          refine wp_alloc_sg H0.out 23 rfl _ (arrV zs16) zero23 rfl ?_
          intro V8 g8 G8
          have F8 := Lib.hid G8
          clear G8
          refine hK.out _ _ (St.pre F8.out) (fun _ => ?_)
          clear hK K
          try simp only [Act.put, List.getElem_toArray, List.getElem_cons_succ, List.getElem_cons_zero, List.setIfInBounds_toArray, List.set_cons_zero, List.set_cons_succ]
          refine wpAnyH_ready (rs := [7]) (by kernel_rfl) (by simp) ?_
          refine (AllReadyH.cons rfl (fun K hK => ?_) AllReadyH.nil)
          go_simp
          go_at_call 18
          refine (RB1.out _).mono ?_
          rintro e V9 ⟨rfl, B9⟩
          have F9 := Lib.hid (F8.out.call B9)
          refine hK.out _ _ (St.pre F9.out) (fun _ => ?_)
          clear hK K
          try simp only [Act.put, List.getElem_toArray, List.getElem_cons_succ, List.getElem_cons_zero, List.setIfInBounds_toArray, List.set_cons_zero, List.set_cons_succ]
          refine wpAnyH_ready (rs := [8]) (by kernel_rfl) (by simp) ?_
          refine (AllReadyH.cons rfl (fun K hK => ?_) AllReadyH.nil)
          go_simp
          go_at_call 20
          refine (RE1.out _ _ _ _ _ (RKW.out _ F9.out.bel)).mono ?_
          rintro e V10 ⟨rfl, B10⟩
          have F10 := Lib.hid (F9.out.call B10)
          refine hK.out _ _ (St.pre F10.out) (fun _ => ?_)
          clear hK K
          try simp only [Act.put, List.getElem_toArray, List.getElem_cons_succ, List.getElem_cons_zero, List.setIfInBounds_toArray, List.set_cons_zero, List.set_cons_succ]
          refine wpAnyH_ready (rs := [10]) (by kernel_rfl) (by simp) ?_
          refine (AllReadyH.cons rfl (fun K hK => ?_) AllReadyH.nil)
          rw [if_pos (by rfl)]
          refine wp_store_st (arr' := arrV P1) F10.out 4 rfl 23 _ _ rfl rfl rfl (by rw [A.arrV_size, PL1.out]; exact sz23) (by rw [A.arrV_size, A.arrV_size, PL1.out, zs16_len]) (A.arrV_all _) ?_
          intro V11 G11 _
          have F11 := Lib.hid G11
          clear G11
          refine hK.out _ _ (F11.out.sub (by exact List.sublist_append_left _ _)) (fun _ => ?_)
          clear hK K
          try simp only [Act.put, List.getElem_toArray, List.getElem_cons_succ, List.getElem_cons_zero, List.setIfInBounds_toArray, List.set_cons_zero, List.set_cons_succ]
          refine wpAnyH_done (by kernel_rfl) ?_ _
          go_wp2_with fail
          go_meet
          exact ⟨g8, rfl, F11.out⟩
      case rest =>
        obtain ⟨b13, rfl, hT⟩ := hcut
        clear hS
        have q1 : ∀ V, (Instr.sliceAt 36 (.pointer (some ⟨b9, 0, none⟩)) (some (.int .i64 16)) (some (.int .i64 32)) none).run Try.prog V = .ok (.slice (some ⟨b9, 16, none⟩) 16 16) V := fun V => by kernel_rfl
        have q3 : IntKind.i64.wrap 32 = 32 := by decide
        go_wp2
        refine wp_region_held_drew (S := fun _ => True) (by kernel_rfl) trivial (fun _ => ?_)
        have k5 := Lib.hid hT.drew
        clear hT
        generalize wc.drew = V4 at *
        refine wpAnyH_take (i := 0) (v := .int .i64 16) rfl (by kernel_rfl) (by kernel_rfl) (by kernel_rfl) (fun _ _ _ h => h) (Or.inl ⟨by rfl, fun W hW => by clear hW; go_simp⟩) trivial ?_
        try simp only [Act.put, List.getElem_toArray, List.getElem_cons_succ, List.getElem_cons_zero, List.setIfInBounds_toArray, List.set_cons_zero, List.set_cons_succ]
        refine wpAnyH_take (i := 1) (v := .int .i64 16) rfl (by kernel_rfl) (by kernel_rfl) (by kernel_rfl) (fun _ _ _ h => h) (Or.inl ⟨by rfl, fun W hW => by clear hW; go_simp⟩) trivial ?_
        try simp only [Act.put, List.getElem_toArray, List.getElem_cons_succ, List.getElem_cons_zero, List.setIfInBounds_toArray, List.set_cons_zero, List.set_cons_succ]
        refine wpAnyH_take (i := 2) (v := .int .i64 32) rfl (by kernel_rfl) (by kernel_rfl) (by kernel_rfl) (fun _ _ _ h => h) (Or.inl ⟨by rfl, fun W hW => by clear hW; go_simp⟩) trivial ?_
        try simp only [Act.put, List.getElem_toArray, List.getElem_cons_succ, List.getElem_cons_zero, List.setIfInBounds_toArray, List.set_cons_zero, List.set_cons_succ]
        refine wpAnyH_take (i := 3) (v := .slice (some ⟨b9, 16, none⟩) 16 16) rfl (by kernel_rfl) (by kernel_rfl) (by kernel_rfl) (fun _ _ _ h => h) (Or.inl ⟨by rfl, fun W hW => by clear hW; go_simp⟩) trivial ?_
        try simp only [Act.put, List.getElem_toArray, List.getElem_cons_succ, List.getElem_cons_zero, List.setIfInBounds_toArray, List.set_cons_zero, List.set_cons_succ]
        refine wpAnyH_take (i := 4) (v := .slice (some ⟨b13, 0, none⟩) 16 16) rfl (by kernel_rfl) (by kernel_rfl) (by kernel_rfl) (fun _ _ _ h => h) (Or.inl ⟨by rfl, fun W hW => by clear hW; go_simp⟩) trivial ?_
        try simp only [Act.put, List.getElem_toArray, List.getElem_cons_succ, List.getElem_cons_zero, List.setIfInBounds_toArray, List.set_cons_zero, List.set_cons_succ]
        refine wpAnyH_ready (rs := [5]) (by kernel_rfl) (by simp) ?_
        refine AllReadyH.cons rfl (fun K hK => ?_) AllReadyH.nil
        go_simp
        go_at_call 24
        refine (U.refXor_any _ _ 16 16 16 16 ((xs.drop 16).take 16) P1 _ (blk_row (k5.out.get 1 rfl) XB.out 16 16 16 (by rw [XL.out]; omega) (by omega) (by omega)) (by have h := blk_row (show A.Blk V4 b13 23 P1 from k5.out.get 4 rfl) PB1.out 0 16 16 (by rw [PL1.out]; omega) (by omega) (by omega); rwa [hPr1.out] at h) (by omega) (by omega)).mono ?_
        intro e V5 hN
        rw [hZ1.out] at hN
        obtain ⟨A9, c9, rfl, hO, hb5⟩ := U.GivesRow.out (N := 16) hN XX1.out
        obtain ⟨bz, rfl, hrz, hzlo⟩ := own_range hO (by omega)
        have k6 := Lib.hid (k5.out.call hb5)
        have hrow := Lib.hid hO.row
        clear hN hO hb5
        have H1_ := Lib.hid trivial
        refine hK.out _ _ trivial (fun _ => ?_)
        clear hK K
        try simp only [Act.put, List.getElem_toArray, List.getElem_cons_succ, List.getElem_cons_zero, List.setIfInBounds_toArray, List.set_cons_zero, List.set_cons_succ]
        refine wpAnyH_take (i := 6) (v := .slice (some ⟨bz, 0, none⟩) 16 c9) rfl (by kernel_rfl) (by kernel_rfl) (by kernel_rfl) (fun _ _ _ h => h) (Or.inl ⟨by rfl, fun W hW => by clear hW; go_simp⟩) H1_.out ?_
        try simp only [Act.put, List.getElem_toArray, List.getElem_cons_succ, List.getElem_cons_zero, List.setIfInBounds_toArray, List.set_cons_zero, List.set_cons_succ]
        refine wpAnyH_done (by kernel_rfl) ?_ _
        have hne : bz ≠ b11 := by have := heap_lt (k5.out.get 3 rfl); omega
        have k7 : St w V5 [(b5, C 29 #[.slice (some ⟨gt, 0, none⟩) 44 c, .slice (some ⟨gb, 0, none⟩) 256 cb]), (b9, C 36 (arrV xs)), (b10, C 36 (arrV zs32)), (b11, C 36 (arrV (lay X1 (Z1.take 0) 16))), (b13, C 23 (arrV P1))] := by
          rw [List.take_zero, lay_nil _ _ (by rw [RL1.out]; omega)]; exact k6.out
        clear k5 k6 hrow
        go_wp2
        go_loopw [15] (RnRel w b5 b9 b10 b11 b13 bz #[.slice (some ⟨gt, 0, none⟩) 44 c, .slice (some ⟨gb, 0, none⟩) 256 cb] xs P1 X1 Z1 16) (fun i _ => 16 - (intOf i).toNat)
        case atStart => exact ⟨0, by omega, rfl, hrz, k7⟩
        case round =>
          clear k7 hrz
          obtain ⟨k, hk, rfl, hz, hT⟩ := hrel
          by_cases hlt : k < 16
          · have cx : wr.cell? ⟨bz, k, none⟩ = some (.int .u8 ((Z1.getD k 0 : Nat) : Int)) := by
              have := hz k _ (A.vals_getElem? Z1 k (by rw [XX1.out]; exact hlt))
              rwa [Nat.zero_add] at this
            have TS := Lib.hid (lay_step X1 Z1 16 k (by rw [XX1.out]; exact hlt) (by rw [XX1.out, RL1.out]; omega))
            have lk := Lib.hid (show (lay X1 (Z1.take k) 16).length = 32 by rw [lay_len _ _ _ (by rw [List.length_take, XX1.out, RL1.out]; omega), RL1.out])
            generalize Z1.getD k 0 = x at *
            have g1 : (k : Int) < 16 := by omega
            have g2 : (0 : Int) ≤ 16 + (k : Int) := by omega
            have g3 : 16 + (k : Int) < 32 := by omega
            have g4 : IntKind.i64.wrap (16 + (k : Int)) = 16 + (k : Int) := IntWalk.i64_in _ (by omega)
            have g5 : (16 + (k : Int)).toNat = 16 + k := by omega
            have g6 : (k : Int) < 32 := by omega
            replace hz := Lib.hid hz
            go_wp2_with (first
              | (have _ := hT; refine wpList_cell_st hT 3 rfl 5 _ _ rfl rfl (16 + k) (.int .u8 (x : Int)) rfl rfl (by rw [A.arrV_size, lk.out]; omega) rfl rfl A.size5 ?_; intro W9 h9 hg9; rw [arrV_set] at h9; have hz2 := Lib.hid (rangeAt_keep hz.out (hg9.block bz (by have := heap_lt_cell cx; omega) (fun e => by injection e with e; omega))); clear hT hg9))
            go_roundw
            case rel => exact ⟨k + 1, by omega, by go_num, hz2.out, by rw [← TS.out]; exact h9⟩
            case measure => simp [intOf]; omega
          · obtain rfl : k = 16 := by omega
            rw [List.take_of_length_le (by rw [XX1.out]; omega), ← R2.out] at hT
            go_wp2
            go_roundw
            case rel => exact ⟨32, X2, .inr (.inr ⟨rfl, rfl⟩), rfl, St.pre (M := [(b13, C 23 (arrV P1))]) hT⟩
            case measure => simp [intOf]
    · rw [R3.out] at hS
      go_wp2_with (first
        | (have _ := hS; refine wpList_load_st hS 3 rfl 36 _ _ rfl rfl rfl Try.underlying36 rfl (by rw [A.arrV_size, YL.out]; exact sz36) ?_)
        | (have _ := hS; refine wpList_store_st (arr' := arrV Y) hS 2 rfl 36 _ _ rfl rfl rfl rfl (by rw [A.arrV_size, YL.out]; exact sz36) (by rw [A.arrV_size, A.arrV_size, YL.out, zs32_len]) (A.arrV_all _) ?_; clear hS; intro W9 h9 _))
      exact bodyPost_ret (A.results_arr Try.results10 _ _ _ rfl _ ((show A.Blk W9 _ 36 Y from h9.get 2 rfl).loadAll 36 _ YL.out Try.underlying36 rfl sz36)) rfl ⟨rfl, h9.bel⟩
end Go.Proofs.Ytfbgpfiodgibbaa
