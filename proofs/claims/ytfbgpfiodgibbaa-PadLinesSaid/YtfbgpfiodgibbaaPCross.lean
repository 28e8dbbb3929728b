/- A line crossed with the pads of its seeds: the program's. No statement is proved here. -/
import Derived.Test.YtfbgpfiodgibbaaPSeeds
namespace Go.Proofs.Ytfbgpfiodgibbaa
open Go.RowKit Go.Shelf
open A (arrV vals)
set_option linter.unusedVariables false
set_option linter.unusedSimpArgs false
attribute [local irreducible] A.arrV

/-- One block of a line, crossed. -/
def cr1 (key : List Nat) (l : Int) (M : Nat) (m : Int) (xs : List Nat) (k : Fin 2) : List Nat := lay xs (U.xorL ((xs.drop (16 * k.val)).take 16) (padN key (sdOf l M m k))) (16 * k.val)
def crs (key : List Nat) (l : Int) (M : Nat) (m : Int) (xs : List Nat) (pre : List (Fin 2)) : List Nat := pre.foldl (cr1 key l M m) xs
/-- A line, enciphered. -/
def crL (key : List Nat) (l : Int) (M : Nat) (m : Int) (xs : List Nat) : List Nat := crs key l M m xs (two 2)
structure IsLine (xs : List Nat) : Prop where
  len : xs.length = 32
  lt : ∀ x ∈ xs, x < 256
theorem xorL_lt (xs ys : List Nat) (hx : ∀ x ∈ xs, x < 256) (hy : ∀ x ∈ ys, x < 256) : ∀ x ∈ U.xorL xs ys, x < 256 := by
  intro x h
  unfold U.xorL at h
  obtain ⟨i, hi, rfl⟩ := List.getElem_of_mem h
  rw [List.getElem_zipWith]
  exact Nat.xor_lt_two_pow (n := 8) (hx _ (List.getElem_mem _)) (hy _ (List.getElem_mem _))
theorem cr1_len {key : List Nat} (hk : IsKey key) (l : Int) (M : Nat) (m : Int) {xs : List Nat} (h : IsLine xs) (k : Fin 2) : (U.xorL ((xs.drop (16 * k.val)).take 16) (padN key (sdOf l M m k))).length = 16 := by
  have := h.len
  have := k.isLt
  rw [U.xorL_length, (padN_ok hk _).1, List.length_take, List.length_drop]
  omega
theorem cr1_ok {key : List Nat} (hk : IsKey key) (l : Int) (M : Nat) (m : Int) {xs : List Nat} (h : IsLine xs) (k : Fin 2) : IsLine (cr1 key l M m xs k) := by
  have h1 := h.len
  have h2 := k.isLt
  have h3 := cr1_len hk l M m h k
  refine ⟨?_, fun x hx => ?_⟩
  · unfold cr1 lay
    rw [List.length_append, List.length_append, h3, List.length_take, List.length_drop]
    omega
  · unfold cr1 lay at hx
    rcases List.mem_append.1 hx with hx | hx
    · rcases List.mem_append.1 hx with hx | hx
      · exact h.lt x (List.mem_of_mem_take hx)
      · exact xorL_lt _ _ (fun x hx => h.lt x (List.mem_of_mem_drop (List.mem_of_mem_take hx))) (padN_ok hk _).2 x hx
    · exact h.lt x (List.mem_of_mem_drop hx)
theorem crs_ok {key : List Nat} (hk : IsKey key) (l : Int) (M : Nat) (m : Int) {xs : List Nat} (h : IsLine xs) (pre : List (Fin 2)) : IsLine (crs key l M m xs pre) := by
  unfold crs
  induction pre generalizing xs with
  | nil => exact h
  | cons k pre ih => exact ih (cr1_ok hk l M m h k)
theorem crs_snoc (key : List Nat) (l : Int) (M : Nat) (m : Int) (xs : List Nat) (pre : List (Fin 2)) (k : Fin 2) : crs key l M m xs (pre ++ [k]) = cr1 key l M m (crs key l M m xs pre) k := by
  unfold crs; rw [List.foldl_append]; rfl
theorem sdOf_ok {l m : Int} {M : Nat} (hl : I64 l) (hM : M < 18446744073709551616) (hm : I64 m) (k : Fin 2) : (sdOf l M m k).Ok := ⟨hl, hM, hm, by have := k.isLt; unfold sdOf I64; simp only; omega⟩
theorem crL_ok {key : List Nat} (hk : IsKey key) (l : Int) (M : Nat) (m : Int) {xs : List Nat} (h : IsLine xs) : IsLine (crL key l M m xs) := crs_ok hk l M m h _
attribute [local irreducible] crs cr1

/-- The blocks of the call ahead of a round. -/
abbrev CL (g : Nat) (bp bl br : Nat) (xs : List Nat) : Blks := [(bp, C 31 #[.pointer (some ⟨g, 0, none⟩)]), (bl, C 36 (arrV xs)), (br, C 36 (arrV zs32))]
theorem CL.low {w W : World} {g bp bl br : Nat} {xs : List Nat} (h : St w W (CL g bp bl br xs)) : ∀ ys, ∀ x ∈ CL g bp bl br ys, x.1 < W.heap.size := by
  intro ys x hx
  simp only [CL, List.mem_cons, List.not_mem_nil, or_false] at hx
  rcases hx with rfl | rfl | rfl
  · exact heap_lt (h.get 0 rfl)
  · exact heap_lt (h.get 1 rfl)
  · exact heap_lt (h.get 2 rfl)
set_option maxRecDepth 100000 in
set_option maxHeartbeats 4000000 in
theorem crossed_any (g gc : Nat) (key : List Nat) (hk : IsKey key) (b0 b1 b2 : Nat) (l : Int) (M : Nat) (m : Int) (hl : I64 l) (hM : M < 18446744073709551616) (hm : I64 m) (xs : List Nat) (hx : IsLine xs) (w : World) (hp : HasPads w g gc key) (hB : Bx3 w b0 b1 b2 l M m) :
    Calls Try.prog 25 #[.pointer (some ⟨g, 0, none⟩), .func (.func 39) #[] #[.pointer (some ⟨b0, 0, none⟩), .pointer (some ⟨b1, 0, none⟩), .pointer (some ⟨b2, 0, none⟩)], .agg (arrV xs)] w fun e w' => e = .returned (.agg (arrV (crL key l M m xs))) ∧ Below w.heap.size w w' := by
  have h0 := St.nil w
  have LL := Lib.hid hx.len
  refine callsIn_wide.1 (callsIn_of_wp_marks (n := 8) Try.func25 rfl trivial ?_ rfl)
  simp only [Try.ntmps25, List.size_toArray, List.length_cons, List.length_nil, Nat.reduceAdd, Nat.reduceSub, Array.replicate_succ, Array.replicate_zero, List.push_toArray, List.append_toArray, List.nil_append, List.cons_append]
  refine wpIn_wide.2 ?_
  go_wp2_with (first
    | (have _ := h0; refine wpList_box_st h0 31 _ rfl rfl #[.pointer (some ⟨g, 0, none⟩)] rfl ?_; clear h0; intro W1 h1 _ _)
    | (have _ := h1; refine wpList_box_st h1 36 _ rfl rfl (arrV xs) rfl ?_; clear h1; intro W2 h2 _ _; generalize W1.heap.size = bl at *)
    | (have _ := h2; refine wpList_alloc_st h2 36 rfl rfl _ (arrV zs32) zero36 rfl ?_; clear h2; intro W3 h3 _ _; generalize W2.heap.size = br at *))
  have hs3 : St w W3 (CL g w.heap.size bl br xs) := h3
  have hlow := CL.low hs3
  have hBW : Bx3 W3 b0 b1 b2 l M m := hB.call hs3.bel
  have hsz := hs3.bel.size
  clear h3
  refine (wpIn_wide (n := 8)).1 ?_
  refine wpIn_rangeFunc_ownH (F := Fence.wide) rfl (by omega) (gf := 39) (lb := #[.pointer (some ⟨b0, 0, none⟩), .pointer (some ⟨b1, 0, none⟩), .pointer (some ⟨b2, 0, none⟩)]) rfl trivial (enters_of Try.func39 (by kernel_rfl) rfl)
    (seeds_stops 7 (by omega) b0 b1 b2 l M m W3 hBW) (fun h k => kp3_t h k) (kp3_b hBW) (Below.refl _ _) (fun _ => rfl)
    (fun pre W => St w W (CL g w.heap.size bl br (crs key l M m xs pre)))
    (fun _ _ _ => False)
    (fun pre X Y row hs hg hr => hs.own hg hr hsz (fun x hx => .inl (hlow _ x hx)))
    (fun _ _ _ _ _ hs _ _ => hs)
    (by unfold crs; exact hs3)
    (fun x a' W => ∃ bx, (w.heap.size ≠ bx ∧ bl ≠ bx ∧ br ≠ bx) ∧ St w W [(bx, C 42 (sdOf l M m x).arr)] ∧ a' = { tmps := #[.pointer (some ⟨g, 0, none⟩), .func (.func 39) #[] #[.pointer (some ⟨b0, 0, none⟩), .pointer (some ⟨b1, 0, none⟩), .pointer (some ⟨b2, 0, none⟩)], .agg (arrV xs), .pointer (some ⟨w.heap.size, 0, none⟩), undef, .pointer (some ⟨bl, 0, none⟩), .pointer (some ⟨br, 0, none⟩), .pointer (some ⟨bx, 0, none⟩), undef, undef, .func (.func 39) #[] #[.pointer (some ⟨b0, 0, none⟩), .pointer (some ⟨b1, 0, none⟩), .pointer (some ⟨b2, 0, none⟩)], .agg (sdOf l M m x).arr, undef, undef, undef, undef, undef, undef, undef, undef, undef, undef, undef, undef, undef, undef, undef, undef], defers := [] })
    (fun x a' u X Y row hs hg hr => by
      obtain ⟨bx, h1, h2, h3⟩ := hs
      exact ⟨bx, h1, h2.own hg hr hsz (fun y hy => .inr (by rw [List.mem_singleton] at hy; subst hy; rfl)), h3⟩)
    ?assign ?body ?done ?stop
  case assign =>
    intro lp pre x W K hI hK
    replace hI : St w W (CL g w.heap.size bl br (crs key l M m xs pre)) := hI
    have hf : ∀ (v : Value), Array.foldl (fun (t : Array Value) (x : Nat × Value) => t.setIfInBounds x.1 x.2) #[.pointer (some ⟨g, 0, none⟩), .func (.func 39) #[] #[.pointer (some ⟨b0, 0, none⟩), .pointer (some ⟨b1, 0, none⟩), .pointer (some ⟨b2, 0, none⟩)], .agg (arrV xs), .pointer (some ⟨w.heap.size, 0, none⟩), undef, .pointer (some ⟨bl, 0, none⟩), .pointer (some ⟨br, 0, none⟩), undef, undef, undef, .func (.func 39) #[] #[.pointer (some ⟨b0, 0, none⟩), .pointer (some ⟨b1, 0, none⟩), .pointer (some ⟨b2, 0, none⟩)], undef, undef, undef, undef, undef, undef, undef, undef, undef, undef, undef, undef, undef, undef, undef, undef, undef] (#[11].zip #[v]) = #[.pointer (some ⟨g, 0, none⟩), .func (.func 39) #[] #[.pointer (some ⟨b0, 0, none⟩), .pointer (some ⟨b1, 0, none⟩), .pointer (some ⟨b2, 0, none⟩)], .agg (arrV xs), .pointer (some ⟨w.heap.size, 0, none⟩), undef, .pointer (some ⟨bl, 0, none⟩), .pointer (some ⟨br, 0, none⟩), undef, undef, undef, .func (.func 39) #[] #[.pointer (some ⟨b0, 0, none⟩), .pointer (some ⟨b1, 0, none⟩), .pointer (some ⟨b2, 0, none⟩)], v, undef, undef, undef, undef, undef, undef, undef, undef, undef, undef, undef, undef, undef, undef, undef, undef] := fun v => by simp
    unfold sdE
    rw [hf]
    refine regionIn_of letsOut_no rfl ?_
    go_wp2_with (first
      | (have _ := hI; refine wpList_alloc_st hI 42 rfl rfl _ #[.int .i64 0, .int .u64 0, .int .i64 0, .int .i64 0] zero42 rfl ?_; intro V1 k1 _ kb1)
      | (have _ := k1; refine wpList_store_st (arr' := (sdOf l M m x).arr) k1 3 rfl 42 _ _ rfl rfl rfl rfl sz42 rfl (by simp [Sd.arr, Value.oneCell']) ?_; intro V2 k2 kg2))
    have q0 := heap_lt (hI.get 0 rfl)
    have q1 := heap_lt (hI.get 1 rfl)
    have q2 := heap_lt (hI.get 2 rfl)
    have k3 : St w V2 (CL g w.heap.size bl br (crs key l M m xs pre) ++ [(W.heap.size, C 42 (sdOf l M m x).arr)]) := k2
    refine hK _ _ (((keeps_call kb1).trans (keeps_at kg2 (k1.get 3 rfl))).from _) ?_ k3.pre ⟨W.heap.size, ?_, k3.sub (List.sublist_append_right _ _), rfl⟩
    · have hb := hB.call k3.bel
      have hb0 := hB.call hI.bel
      exact ⟨hb.h0.trans hb0.h0.symm, hb.h1.trans hb0.h1.symm, hb.h2.trans hb0.h2.symm⟩
    · exact ⟨by omega, by omega, by omega⟩
  case body =>
    rintro lp pre x a' W hlp ⟨rr, hrr⟩ hI ⟨bx, hbx, hX, rfl⟩ hlen
    replace hI : St w W (CL g w.heap.size bl br (crs key l M m xs pre)) := hI
    have hJ := hI.join hX (fun x hx y hy e => by
      rw [List.mem_singleton] at hy
      subst hy
      simp only [CL, List.mem_cons, List.not_mem_nil, or_false] at hx
      rcases hx with rfl | rfl | rfl
      · exact hbx.1 e
      · exact hbx.2.1 e
      · exact hbx.2.2 e)
    have HP := hp.call hI.bel
    have XK := crs_ok hk l M m hx pre
    have XL := Lib.hid XK.len
    have XB := Lib.hid XK.lt
    have HKp : ∀ V, Below w.heap.size w V → Kp3 b0 b1 b2 W V := fun V hb => by
      have hb := hB.call hb
      have hb0 := hB.call hI.bel
      exact ⟨hb.h0.trans hb0.h0.symm, hb.h1.trans hb0.h1.symm, hb.h2.trans hb0.h2.symm⟩
    replace HKp := Lib.hid HKp
    obtain ⟨xk, hxk⟩ := x
    have PO := Lib.hid (padN_ok hk (sdOf l M m ⟨xk, hxk⟩))
    have PA := Lib.hid (fun V h => pad_any g gc key hk (sdOf l M m ⟨xk, hxk⟩) (sdOf_ok hl hM hm _) V h)
    have HCR := Lib.hid (show lay (crs key l M m xs pre) (U.xorL (((crs key l M m xs pre).drop (16 * xk)).take 16) (padN key (sdOf l M m ⟨xk, hxk⟩))) (16 * xk) = crs key l M m xs (pre ++ [⟨xk, hxk⟩]) by rw [crs_snoc]; unfold cr1; exact rfl)
    have HXL := Lib.hid (show (U.xorL (((crs key l M m xs pre).drop (16 * xk)).take 16) (padN key (sdOf l M m ⟨xk, hxk⟩))).length = 16 from cr1_len hk l M m XK ⟨xk, hxk⟩)
    generalize hZ : crs key l M m xs (pre ++ [⟨xk, hxk⟩]) = Z at HCR
    replace hZ := Lib.hid hZ
    generalize crs key l M m xs pre = X at *
    generalize padN key (sdOf l M m ⟨xk, hxk⟩) = P at *
    clear XK hp hB hk hx hrr hX hlen hlow
    have hPr := Lib.hid (show (P.drop 0).take 16 = P by rw [List.drop_zero, List.take_of_length_le (by rw [PO.out.1]; omega)])
    have hcase : xk = 0 ∨ xk = 1 := by omega
    rcases hcase with rfl | rfl
    · have cp := hJ.cell 0 rfl 0 _ rfl
      refine wpIn_block ?_
      refine wpIn_seq ?_
      refine regionIn_of (letsOut_then (letsOut_block letsOut_ownG)) rfl ?_
      go_wp2_with (first
        | (have _ := hJ; refine wpList_load_st hJ 3 rfl 42 _ _ rfl rfl rfl Try.underlying42 rfl sz42 ?_)
        | (go_at_call 19; refine (PA.out _ HP).mono ?_; rintro e V1 ⟨rfl, hb1⟩; have k1 := hJ.call hb1; have K1 := Lib.hid (keeps_call hb1); clear hb1 cp PA HP hJ)
        | (have _ := k1; refine wpList_alloc_st k1 23 rfl rfl _ (arrV zs16) zero23 rfl ?_; clear k1; intro V2 k2 _ kb2; have K2 := Lib.hid (K1.out.trans (keeps_call kb2)); clear K1 kb2; generalize V1.heap.size = b8 at *)
        | (have _ := k2; refine wpList_store_st (arr' := arrV P) k2 4 rfl 23 _ _ rfl rfl rfl rfl (by rw [A.arrV_size, PO.out.1]; exact sz23) (by rw [A.arrV_size, A.arrV_size, PO.out.1]; rfl) (A.arrV_all _) ?_; intro V3 k3 kg3))
      have K3 := Lib.hid (K2.out.trans (keeps_at kg3 (k2.get 4 rfl)))
      have k4 : St w V3 (CL g w.heap.size bl br X ++ [(bx, C 42 (sdOf l M m ⟨0, hxk⟩).arr), (b8, C 23 (arrV P))]) := k3
      have cx : V3.cell? ⟨bx, 3, none⟩ = some (.int .i64 0) := k4.cell 3 rfl 3 _ rfl
      clear k2 k3 kg3 K2
      refine wpIn_seq ?_
      refine regionIn_of (letsOut_then (letsOut_block letsOut_ownG)) rfl ?_
      go_wp2
      have q1 : ∀ V, (Instr.sliceAt 36 (.pointer (some ⟨bl, 0, none⟩)) (some (.int .i64 0)) none none).run Try.prog V = .ok (.slice (some ⟨bl, 0, none⟩) 32 32) V := fun V => by kernel_rfl
      have q2 : ∀ V, (Instr.sliceAt 36 (.pointer (some ⟨bl, 0, none⟩)) (some (.int .i64 0)) (some (.int .i64 16)) none).run Try.prog V = .ok (.slice (some ⟨bl, 0, none⟩) 16 32) V := fun V => by kernel_rfl
      have q3 : IntKind.i64.wrap 16 = 16 := by decide
      refine regionIn_drew (S := fun _ => True) (by kernel_rfl) (letsOut_block letsOut_ownG) rfl trivial (fun _ => ?_)
      have k5 := Lib.hid k4.drew
      have K5 := Lib.hid (K3.out.trans (KeepsOthers.drew V3))
      clear cx k4 K3
      generalize V3.drew = V4 at *
      refine wpAnyH_take (i := 0) (v := .int .i64 0) rfl (by kernel_rfl) (by kernel_rfl) (by kernel_rfl) (fun _ _ _ h => h) (Or.inl ⟨by rfl, fun W hW => by clear hW; go_simp⟩) trivial ?_
      try simp only [Act.put, List.getElem_toArray, List.getElem_cons_succ, List.getElem_cons_zero, List.setIfInBounds_toArray, List.set_cons_zero, List.set_cons_succ]
      refine wpAnyH_take (i := 1) (v := .slice (some ⟨bl, 0, none⟩) 32 32) rfl (by kernel_rfl) (by kernel_rfl) (by kernel_rfl) (fun _ _ _ h => h) (Or.inl ⟨by rfl, fun W hW => by clear hW; go_simp⟩) trivial ?_
      try simp only [Act.put, List.getElem_toArray, List.getElem_cons_succ, List.getElem_cons_zero, List.setIfInBounds_toArray, List.set_cons_zero, List.set_cons_succ]
      refine wpAnyH_take (i := 2) (v := .int .i64 0) rfl (by kernel_rfl) (by kernel_rfl) (by kernel_rfl) (fun _ _ _ h => h) (Or.inl ⟨by rfl, fun W hW => by clear hW; go_simp⟩) trivial ?_
      try simp only [Act.put, List.getElem_toArray, List.getElem_cons_succ, List.getElem_cons_zero, List.setIfInBounds_toArray, List.set_cons_zero, List.set_cons_succ]
      refine wpAnyH_take (i := 3) (v := .int .i64 0) rfl (by kernel_rfl) (by kernel_rfl) (by kernel_rfl) (fun _ _ _ h => h) (Or.inl ⟨by rfl, fun W hW => by clear hW; go_simp⟩) trivial ?_
      try simp only [Act.put, List.getElem_toArray, List.getElem_cons_succ, List.getElem_cons_zero, List.setIfInBounds_toArray, List.set_cons_zero, List.set_cons_succ]
      refine wpAnyH_take (i := 4) (v := .int .i64 16) rfl (by kernel_rfl) (by kernel_rfl) (by kernel_rfl) (fun _ _ _ h => h) (Or.inl ⟨by rfl, fun W hW => by clear hW; go_simp⟩) trivial ?_
      try simp only [Act.put, List.getElem_toArray, List.getElem_cons_succ, List.getElem_cons_zero, List.setIfInBounds_toArray, List.set_cons_zero, List.set_cons_succ]
      refine wpAnyH_take (i := 5) (v := .slice (some ⟨bl, 0, none⟩) 16 32) rfl (by kernel_rfl) (by kernel_rfl) (by kernel_rfl) (fun _ _ _ h => h) (Or.inl ⟨by rfl, fun W hW => by clear hW; go_simp⟩) trivial ?_
      try simp only [Act.put, List.getElem_toArray, List.getElem_cons_succ, List.getElem_cons_zero, List.setIfInBounds_toArray, List.set_cons_zero, List.set_cons_succ]
      refine wpAnyH_take (i := 6) (v := .slice (some ⟨b8, 0, none⟩) 16 16) rfl (by kernel_rfl) (by kernel_rfl) (by kernel_rfl) (fun _ _ _ h => h) (Or.inl ⟨by rfl, fun W hW => by clear hW; go_simp⟩) trivial ?_
      try simp only [Act.put, List.getElem_toArray, List.getElem_cons_succ, List.getElem_cons_zero, List.setIfInBounds_toArray, List.set_cons_zero, List.set_cons_succ]
      refine wpAnyH_ready (rs := [7]) (by kernel_rfl) (by simp) ?_
      refine AllReadyH.cons rfl (fun K hK => ?_) AllReadyH.nil
      go_simp
      go_at_call 38
      refine (U.xor_any _ _ 16 16 32 16 ((X.drop 0).take 16) P _ (blk_row (k5.out.get 1 rfl) XB.out 0 16 32 (by rw [XL.out]; omega) (by omega) (by omega)) (by have h := blk_row (show A.Blk V4 b8 23 P from k5.out.get 4 rfl) PO.out.2 0 16 16 (by rw [PO.out.1]; omega) (by omega) (by omega); rwa [hPr.out] at h) (by omega) (by omega)).mono ?_
      intro e V5 hN
      obtain ⟨A9, c9, rfl, hO, hb5⟩ := U.GivesRow.out (N := 16) hN HXL.out
      obtain ⟨bz, rfl, hrz, _⟩ := own_range hO (by omega)
      have k6 := Lib.hid (k5.out.call hb5)
      have K6a := Lib.hid (K5.out.trans (keeps_call hb5))
      clear hN hO hb5
      have H1_ := Lib.hid trivial
      refine hK.out _ _ trivial (fun _ => ?_)
      clear hK K
      try simp only [Act.put, List.getElem_toArray, List.getElem_cons_succ, List.getElem_cons_zero, List.setIfInBounds_toArray, List.set_cons_zero, List.set_cons_succ]
      refine wpAnyH_ready (rs := [8]) (by kernel_rfl) (by simp) ?_
      refine AllReadyH.cons rfl (fun K hK => ?_) AllReadyH.nil
      rw [if_pos (by rfl)]
      refine wp_copyB k6.out 1 rfl _ _ rfl 0 32 32 bz 0 16 c9 rfl rfl _ (by rw [HXL.out]; rfl) hrz (by rw [HXL.out, XL.out]; decide) ?_
      intro V6 k7 kg7
      have K6 := Lib.hid (K6a.out.trans (keeps_at kg7 (k6.out.get 1 rfl)))
      refine hK.out _ _ trivial (fun _ => ?_)
      clear hK K
      try simp only [Act.put, List.getElem_toArray, List.getElem_cons_succ, List.getElem_cons_zero, List.setIfInBounds_toArray, List.set_cons_zero, List.set_cons_succ]
      refine wpAnyH_done (by kernel_rfl) ?_ _
      refine ⟨K6.out.from _, HKp.out _ k7.bel, ?_⟩
      show St w V6 (CL g w.heap.size bl br (crs key l M m xs (pre ++ [⟨0, hxk⟩])))
      rw [hZ.out, ← HCR.out]
      exact St.pre (M := [(bx, C 42 (sdOf l M m ⟨0, hxk⟩).arr), (b8, C 23 (arrV P))]) k7
    · have cp := hJ.cell 0 rfl 0 _ rfl
      refine wpIn_block ?_
      refine wpIn_seq ?_
      refine regionIn_of (letsOut_then (letsOut_block letsOut_ownG)) rfl ?_
      go_wp2_with (first
        | (have _ := hJ; refine wpList_load_st hJ 3 rfl 42 _ _ rfl rfl rfl Try.underlying42 rfl sz42 ?_)
        | (go_at_call 19; refine (PA.out _ HP).mono ?_; rintro e V1 ⟨rfl, hb1⟩; have k1 := hJ.call hb1; have K1 := Lib.hid (keeps_call hb1); clear hb1 cp PA HP hJ)
        | (have _ := k1; refine wpList_alloc_st k1 23 rfl rfl _ (arrV zs16) zero23 rfl ?_; clear k1; intro V2 k2 _ kb2; have K2 := Lib.hid (K1.out.trans (keeps_call kb2)); clear K1 kb2; generalize V1.heap.size = b8 at *)
        | (have _ := k2; refine wpList_store_st (arr' := arrV P) k2 4 rfl 23 _ _ rfl rfl rfl rfl (by rw [A.arrV_size, PO.out.1]; exact sz23) (by rw [A.arrV_size, A.arrV_size, PO.out.1]; rfl) (A.arrV_all _) ?_; intro V3 k3 kg3))
      have K3 := Lib.hid (K2.out.trans (keeps_at kg3 (k2.get 4 rfl)))
      have k4 : St w V3 (CL g w.heap.size bl br X ++ [(bx, C 42 (sdOf l M m ⟨1, hxk⟩).arr), (b8, C 23 (arrV P))]) := k3
      have cx : V3.cell? ⟨bx, 3, none⟩ = some (.int .i64 1) := k4.cell 3 rfl 3 _ rfl
      clear k2 k3 kg3 K2
      refine wpIn_seq ?_
      refine regionIn_of (letsOut_then (letsOut_block letsOut_ownG)) rfl ?_
      go_wp2
      have q1 : ∀ V, (Instr.sliceAt 36 (.pointer (some ⟨bl, 0, none⟩)) (some (.int .i64 16)) none none).run Try.prog V = .ok (.slice (some ⟨bl, 16, none⟩) 16 16) V := fun V => by kernel_rfl
      have q2 : ∀ V, (Instr.sliceAt 36 (.pointer (some ⟨bl, 0, none⟩)) (some (.int .i64 16)) (some (.int .i64 32)) none).run Try.prog V = .ok (.slice (some ⟨bl, 16, none⟩) 16 16) V := fun V => by kernel_rfl
      have q3 : IntKind.i64.wrap 32 = 32 := by decide
      refine regionIn_drew (S := fun _ => True) (by kernel_rfl) (letsOut_block letsOut_ownG) rfl trivial (fun _ => ?_)
      have k5 := Lib.hid k4.drew
      have K5 := Lib.hid (K3.out.trans (KeepsOthers.drew V3))
      clear cx k4 K3
      generalize V3.drew = V4 at *
      refine wpAnyH_take (i := 0) (v := .int .i64 16) rfl (by kernel_rfl) (by kernel_rfl) (by kernel_rfl) (fun _ _ _ h => h) (Or.inl ⟨by rfl, fun W hW => by clear hW; go_simp⟩) trivial ?_
      try simp only [Act.put, List.getElem_toArray, List.getElem_cons_succ, List.getElem_cons_zero, List.setIfInBounds_toArray, List.set_cons_zero, List.set_cons_succ]
      refine wpAnyH_take (i := 1) (v := .slice (some ⟨bl, 16, none⟩) 16 16) rfl (by kernel_rfl) (by kernel_rfl) (by kernel_rfl) (fun _ _ _ h => h) (Or.inl ⟨by rfl, fun W hW => by clear hW; go_simp⟩) trivial ?_
      try simp only [Act.put, List.getElem_toArray, List.getElem_cons_succ, List.getElem_cons_zero, List.setIfInBounds_toArray, List.set_cons_zero, List.set_cons_succ]
      refine wpAnyH_take (i := 2) (v := .int .i64 16) rfl (by kernel_rfl) (by kernel_rfl) (by kernel_rfl) (fun _ _ _ h => h) (Or.inl ⟨by rfl, fun W hW => by clear hW; go_simp⟩) trivial ?_
      try simp only [Act.put, List.getElem_toArray, List.getElem_cons_succ, List.getElem_cons_zero, List.setIfInBounds_toArray, List.set_cons_zero, List.set_cons_succ]
      refine wpAnyH_take (i := 3) (v := .int .i64 16) rfl (by kernel_rfl) (by kernel_rfl) (by kernel_rfl) (fun _ _ _ h => h) (Or.inl ⟨by rfl, fun W hW => by clear hW; go_simp⟩) trivial ?_
      try simp only [Act.put, List.getElem_toArray, List.getElem_cons_succ, List.getElem_cons_zero, List.setIfInBounds_toArray, List.set_cons_zero, List.set_cons_succ]
      refine wpAnyH_take (i := 4) (v := .int .i64 32) rfl (by kernel_rfl) (by kernel_rfl) (by kernel_rfl) (fun _ _ _ h => h) (Or.inl ⟨by rfl, fun W hW => by clear hW; go_simp⟩) trivial ?_
      try simp only [Act.put, List.getElem_toArray, List.getElem_cons_succ, List.getElem_cons_zero, List.setIfInBounds_toArray, List.set_cons_zero, List.set_cons_succ]
      refine wpAnyH_take (i := 5) (v := .slice (some ⟨bl, 16, none⟩) 16 16) rfl (by kernel_rfl) (by kernel_rfl) (by kernel_rfl) (fun _ _ _ h => h) (Or.inl ⟨by rfl, fun W hW => by clear hW; go_simp⟩) trivial ?_
      try simp only [Act.put, List.getElem_toArray, List.getElem_cons_succ, List.getElem_cons_zero, List.setIfInBounds_toArray, List.set_cons_zero, List.set_cons_succ]
      refine wpAnyH_take (i := 6) (v := .slice (some ⟨b8, 0, none⟩) 16 16) rfl (by kernel_rfl) (by kernel_rfl) (by kernel_rfl) (fun _ _ _ h => h) (Or.inl ⟨by rfl, fun W hW => by clear hW; go_simp⟩) trivial ?_
      try simp only [Act.put, List.getElem_toArray, List.getElem_cons_succ, List.getElem_cons_zero, List.setIfInBounds_toArray, List.set_cons_zero, List.set_cons_succ]
      refine wpAnyH_ready (rs := [7]) (by kernel_rfl) (by simp) ?_
      refine AllReadyH.cons rfl (fun K hK => ?_) AllReadyH.nil
      go_simp
      go_at_call 38
      refine (U.xor_any _ _ 16 16 16 16 ((X.drop 16).take 16) P _ (blk_row (k5.out.get 1 rfl) XB.out 16 16 16 (by rw [XL.out]; omega) (by omega) (by omega)) (by have h := blk_row (show A.Blk V4 b8 23 P from k5.out.get 4 rfl) PO.out.2 0 16 16 (by rw [PO.out.1]; omega) (by omega) (by omega); rwa [hPr.out] at h) (by omega) (by omega)).mono ?_
      intro e V5 hN
      obtain ⟨A9, c9, rfl, hO, hb5⟩ := U.GivesRow.out (N := 16) hN HXL.out
      obtain ⟨bz, rfl, hrz, _⟩ := own_range hO (by omega)
      have k6 := Lib.hid (k5.out.call hb5)
      have K6a := Lib.hid (K5.out.trans (keeps_call hb5))
      clear hN hO hb5
      have H1_ := Lib.hid trivial
      refine hK.out _ _ trivial (fun _ => ?_)
      clear hK K
      try simp only [Act.put, List.getElem_toArray, List.getElem_cons_succ, List.getElem_cons_zero, List.setIfInBounds_toArray, List.set_cons_zero, List.set_cons_succ]
      refine wpAnyH_ready (rs := [8]) (by kernel_rfl) (by simp) ?_
      refine AllReadyH.cons rfl (fun K hK => ?_) AllReadyH.nil
      rw [if_pos (by rfl)]
      refine wp_copyB k6.out 1 rfl _ _ rfl 16 16 16 bz 0 16 c9 rfl rfl _ (by rw [HXL.out]; rfl) hrz (by rw [HXL.out, XL.out]; decide) ?_
      intro V6 k7 kg7
      have K6 := Lib.hid (K6a.out.trans (keeps_at kg7 (k6.out.get 1 rfl)))
      refine hK.out _ _ trivial (fun _ => ?_)
      clear hK K
      try simp only [Act.put, List.getElem_toArray, List.getElem_cons_succ, List.getElem_cons_zero, List.setIfInBounds_toArray, List.set_cons_zero, List.set_cons_succ]
      refine wpAnyH_done (by kernel_rfl) ?_ _
      refine ⟨K6.out.from _, HKp.out _ k7.bel, ?_⟩
      show St w V6 (CL g w.heap.size bl br (crs key l M m xs (pre ++ [⟨1, hxk⟩])))
      rw [hZ.out, ← HCR.out]
      exact St.pre (M := [(bx, C 42 (sdOf l M m ⟨1, hxk⟩).arr), (b8, C 23 (arrV P))]) k7
  case done =>
    rintro D ys W hD rfl hI hK
    replace hI : St w W (CL g w.heap.size bl br (crL key l M m xs)) := hI
    have hY := (crL_ok hk l M m hx).len
    generalize hYe : crL key l M m xs = Y at hI hY
    replace hYe := Lib.hid hYe
    have hbD : br ≠ D := by have := hlow xs (br, _) (List.mem_of_getElem? (i := 2) rfl); simp only at this; omega
    have hbelD := hI.bel
    go_wp2_with (first
      | (have _ := hI; refine wpList_load_st hI 1 rfl 36 _ _ rfl rfl rfl Try.underlying36 rfl (by rw [A.arrV_size, hY]; exact sz36) ?_)
      | (have _ := hI; refine wpList_store_st (arr' := arrV Y) hI 2 rfl 36 _ _ rfl rfl rfl rfl (by rw [A.arrV_size, hY]; exact sz36) (by rw [A.arrV_size, A.arrV_size, hY]; rfl) (A.arrV_all _) ?_; intro V1 k1 kg1))
    have hK' := (keeps_at kg1 (hI.get 2 rfl)).same D _ hK rfl
    refine ⟨by simp, .inl ⟨_, _, rfl, run_takeDeferred hK', ?_⟩⟩
    have hb : A.Blk (V1.putObj D (.deferred none)) br 36 Y := (World.putObj_heap_other hbD).trans (k1.get 2 rfl)
    refine ⟨_, A.results_arr Try.results25 _ _ br rfl _ (hb.loadAll 36 _ hY Try.underlying36 rfl sz36), by rw [hYe.out], ?_⟩
    exact k1.bel.trans ((Below.refl _ _).grown (grownBy_putObj' V1 D (.deferred none)) k1.bel.size (fun k e => by injection e with e; subst e; omega))
  case stop =>
    rintro D c pre W _ _ h _
    exact h.elim
end Go.Proofs.Ytfbgpfiodgibbaa
