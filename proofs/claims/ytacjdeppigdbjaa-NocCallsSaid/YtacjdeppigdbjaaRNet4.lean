/- The document's net: what is sent, as it is built. No statement is proved here. -/
import Derived.Test.YtacjdeppigdbjaaRNet3
namespace Go.Proofs.Ytacjdeppigdbjaa
open Go.RowKit
theorem sn_built (a : Int) (m : Msg) : Try.prog.built 89 [(0, .int .i64 a), (1, .agg m.arr)] = some (Sn.mk a m).arr := by
  obtain ⟨k0, k1, k2, k3, k4, k5, da, hd⟩ := m
  obtain ⟨x0, x1, x2, x3, x4, x5, x6, x7, x8, x9, x10, x11, x12, x13, x14, x15, x16, x17, x18, x19, x20, x21, x22, x23, x24, x25, x26, x27, x28, x29, x30, x31, rfl⟩ : ∃ x0 x1 x2 x3 x4 x5 x6 x7 x8 x9 x10 x11 x12 x13 x14 x15 x16 x17 x18 x19 x20 x21 x22 x23 x24 x25 x26 x27 x28 x29 x30 x31, da = [x0, x1, x2, x3, x4, x5, x6, x7, x8, x9, x10, x11, x12, x13, x14, x15, x16, x17, x18, x19, x20, x21, x22, x23, x24, x25, x26, x27, x28, x29, x30, x31] := by
    match da, hd with
    | [y0, y1, y2, y3, y4, y5, y6, y7, y8, y9, y10, y11, y12, y13, y14, y15, y16, y17, y18, y19, y20, y21, y22, y23, y24, y25, y26, y27, y28, y29, y30, y31], _ => exact ⟨y0, y1, y2, y3, y4, y5, y6, y7, y8, y9, y10, y11, y12, y13, y14, y15, y16, y17, y18, y19, y20, y21, y22, y23, y24, y25, y26, y27, y28, y29, y30, y31, rfl⟩
  kernel_rfl
set_option linter.unusedVariables false
set_option linter.unusedSimpArgs false
section
variable {w W W' : World} {g n R b : Nat} {xs : List Sn} {L M : Blks}
theorem RN.lift (h : RN w W g n R xs L) : ∃ Y : Blks, St w W (Y ++ L) ∧ ∀ W' M, St w W' (Y ++ M) → RN w W' g n R xs M := by
  obtain ⟨h1, h2, v, M, hr, hs⟩ := h
  exact ⟨(g, C 68 #[.int .i64 (n : Int), .int .i64 (R : Int), v]) :: M, hs, fun W' N h' => ⟨h1, h2, v, M, hr, h'⟩⟩
theorem RN.st (h : RN w W g n R xs L) : St w W L := by
  obtain ⟨Y, hs, _⟩ := h.lift
  exact hs.sub (List.sublist_append_right Y L)
theorem RN.sub (h : RN w W g n R xs L) (hs : M.Sublist L) : RN w W g n R xs M := by
  obtain ⟨Y, hs', up⟩ := h.lift
  exact up _ _ (hs'.sub (hs.append_left Y))
theorem RN.drewN (h : RN w W g n R xs L) (j : Nat) : RN w (W.drewN j) g n R xs L := by
  obtain ⟨Y, hs', up⟩ := h.lift
  exact up _ _ (hs'.drewN j)
theorem RN.c1 (h : RN w W g n R xs L) : W.cell? ⟨g, 1, none⟩ = some (.int .i64 (R : Int)) := by
  obtain ⟨h1, h2, v, M, hr, hs⟩ := h
  exact (show At W g 68 #[.int .i64 (n : Int), .int .i64 (R : Int), v] from hs.get 0 rfl).cell 1
variable {ops : Array Oper} {rest : List Oper} {o : Oper} {a : Act} {Q : Exit → Act → World → Prop}
theorem wpList_box_rn (h : RN w W g n R xs L) (ty : TypeId) (x : Operand) (ho : o.op = .box ty x) (hw : Region.wanted o (yielded ops a.tmps) = true) (arr : Array Value) (hx : (a.eval x).cells = arr)
    (k : ∀ W', RN w W' g n R xs ((W.heap.size, C ty arr) :: L) → wpList Try.prog ops Q rest (a.put o.dst (.pointer (some ⟨W.heap.size, 0, none⟩))) W') : wpList Try.prog ops Q (o :: rest) a W := by
  obtain ⟨Y, hs', up⟩ := h.lift
  refine wpList_box_st hs' ty x ho hw arr hx fun W' h' _ _ => k W' (up W' _ (h'.perm ?_))
  rw [List.append_assoc]
  exact (List.perm_append_singleton _ L).append_left Y
theorem wpList_alloc_rn (h : RN w W g n R xs L) (ty : TypeId) (ho : o.op = .alloc ty) (hw : Region.wanted o (yielded ops a.tmps) = true) (v : Value) (arr : Array Value) (hz : ∀ W, (zeroValue ty).run Try.prog W = .ok v W) (hx : v.cells = arr)
    (k : ∀ W', RN w W' g n R xs ((W.heap.size, C ty arr) :: L) → wpList Try.prog ops Q rest (a.put o.dst (.pointer (some ⟨W.heap.size, 0, none⟩))) W') : wpList Try.prog ops Q (o :: rest) a W := by
  obtain ⟨Y, hs', up⟩ := h.lift
  refine wpList_alloc_st hs' ty ho hw v arr hz hx fun W' h' _ _ => k W' (up W' _ (h'.perm ?_))
  rw [List.append_assoc]
  exact (List.perm_append_singleton _ L).append_left Y
theorem wpList_store_rn (h : RN w W g n R xs L) (i : Nat) {t : TypeId} {arr arr' : Array Value} (hi : L[i]? = some (b, C t arr)) (ty : TypeId) (x y : Operand) (ho : o.op = .store ty x y) (hw : Region.wanted o (yielded ops a.tmps) = true)
    (hx : a.eval x = .pointer (some ⟨b, 0, none⟩)) (hy : a.eval y = .agg arr') (hs : (Try.prog.info? ty).map (·.size) = some arr'.size) (hl : arr'.size = arr.size) (h1 : arr'.all (·.oneCell') = true)
    (k : ∀ W', RN w W' g n R xs (L.set i (b, C t arr')) → wpList Try.prog ops Q rest (a.put o.dst undef) W') : wpList Try.prog ops Q (o :: rest) a W := by
  obtain ⟨Y, hs', up⟩ := h.lift
  refine wpList_store_st (t := t) hs' (Y.length + i) (by rw [List.getElem?_append_right (by omega), Nat.add_sub_cancel_left]; exact hi) ty x y ho hw hx hy hs hl h1 fun W' h' _ => k W' (up W' _ ?_)
  rwa [List.set_append_right _ _ (by omega), Nat.add_sub_cancel_left] at h'
end
attribute [local irreducible] Msg.arr bufM marr Sn.arr isS msgsTo numsTo hasO
section
variable {w W : World} {g n R : Nat} {xs : List Sn} {L : Blks}
set_option maxHeartbeats 2000000 in
theorem rsend_no (h : RN w W g n R xs L) (a : Int) (m : Msg) (ho : hasO n (lkOf a m) = false) :
    Calls Try.prog 28 #[.pointer (some ⟨g, 0, none⟩), .int .i64 a, .agg m.arr] W fun e W' => e = .returned (.int .i64 2) ∧ RN w W' g n R xs L := by
  have TH := Lib.hid (fun W L (h : RN w W g n R xs L) => rthere_rn h (lkOf a m))
  rw [ho] at TH
  have lkd : lkOf a m = ⟨a, m.fr, m.to⟩ := rfl
  rw [lkd] at TH
  clear ho lkd
  go_enter Try.func28, Try.ntmps28
  go_wp2_with (first
    | (refine wpList_box_rn h 31 _ rfl rfl m.arr rfl ?_; clear h; intro W1 h1; generalize W.heap.size = b5 at *; have e1 := h1.st.cell 0 rfl 1 (.int .i64 m.fr) (arr_fr m); have e2 := h1.st.cell 0 rfl 2 (.int .i64 m.to) (arr_to m))
    | (have _ := h1; refine wpList_alloc_rn h1 51 rfl rfl _ #[.int .i64 0, .int .i64 0, .int .i64 0] zero51 rfl ?_; clear h1 e1 e2; intro W2 h2; generalize W1.heap.size = b7 at *)
    | (have _ := h2; refine wpList_store_rn (arr' := #[.int .i64 a, .int .i64 m.fr, .int .i64 m.to]) h2 0 rfl 51 (.tmp 7) (.tmp 15) rfl rfl rfl rfl sz51 rfl (by simp [Value.oneCell']) ?_; clear h2; intro W3 h3; replace h3 : RN w W3 g n R xs ((b7, C 51 #[.int .i64 a, .int .i64 m.fr, .int .i64 m.to]) :: (b5, C 31 m.arr) :: L) := h3)
    | (have _ := h3; refine wpList_loadL (l := ⟨a, m.fr, m.to⟩) (b := b7) (off := 0) (box_rangeL (h3.st.get 0 rfl)) (.tmp 7) rfl rfl rfl ?_)
    | (have _ := h3; go_at_call 30; refine (TH.out _ _ h3).mono ?_; clear h3; rintro e W4 ⟨rfl, h4⟩))
  go_ret
  exact ⟨rfl, h4.sub ((List.sublist_cons_self _ _).trans (List.sublist_cons_self _ _))⟩
end
end Go.Proofs.Ytacjdeppigdbjaa
