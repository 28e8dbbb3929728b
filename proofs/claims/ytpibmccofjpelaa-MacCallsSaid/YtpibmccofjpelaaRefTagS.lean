/- The document's book tags a message, by a key. No statement is proved here. -/
import Derived.Test.YtpibmccofjpelaaRefTag
namespace Go.Proofs.Ytpibmccofjpelaa
open Go.RowKit Go.Maps
set_option linter.unusedVariables false
set_option linter.unusedSimpArgs false

attribute [local irreducible] findM firstM ssum rkA arrV
section
variable {base gr : Nat} {key : List Nat} {cs : List Mm} {bs : List Bm} {mv bv : Value} {A : Option Addr} {n c : Nat} {xs : List Nat} {w : World}
set_option maxRecDepth 20000 in
set_option maxHeartbeats 8000000 in
theorem rtag_new_sip (h : Rk w base gr 1 key cs bs mv bv) (bk : ∀ x ∈ key, x < 256) (hx : Row w w.heap.size A n c xs) (hn : n ≤ 1000) (hl : cs.length < 9000) (hb : base ≤ w.heap.size) (hbs : bs.length < 1000) (hm : ∀ x ∈ cs, x.m.1.length ≤ 1000) (hf : findM (cs.map (·.m)) xs = 0) :
    Calls Try.prog 26 #[.pointer (some ⟨gr, 0, none⟩), .slice A n c] w (RNew w base gr 1 key cs bs mv bv xs (ssum key xs)) := by
  obtain ⟨B, cp, rfl, hr⟩ := h.krow
  have FI := Lib.hid (rfind_any gr B cs.length cp cs A n c xs w h.c17 hr hx (by omega))
  have SU := Lib.hid (rsumK (A := A) (c := c) (xs := xs) h.k16 bk hn)
  have LK := Lib.hid (fun k => (h.drewN k).loadKey)
  have HX := Lib.hid hx
  have C0 := Lib.hid (fun k => (h.drewN k).c0)
  have C17 := Lib.hid (fun k => (h.drewN k).c17)
  have H := Lib.hid h
  have HM := Lib.hid hm
  rw [hf] at FI
  clear h hr hx hf hm
  generalize hs : ssum key xs = s at *
  have HS := Lib.hid hs
  clear hs
  go_enter Try.func26, Try.ntmps26
  go_upto_region 7 with (first
    | (go_at_call 28; refine FI.out.mono ?_; rintro e X1 ⟨rfl, k, rfl⟩; have c0 := C0.out k; have c17 := C17.out k)
    | (have _ := c0; refine wpList_load_run 23 (.tmp 36) rfl rfl ⟨gr, 1, none⟩ _ rfl (LK.out k) ?_)
    | (go_at_call 14; refine (SU.out _ (HX.out.drewN k)).mono ?_; rintro e X2 ⟨rfl, hb2⟩; have H2 := Lib.hid ((H.out.drewN k).below hb2); have BW := Lib.hid (show Below w.heap.size w X2 from (below_drewN (Below.refl _ _)).trans hb2); have RX := Lib.hid ((HX.out.below BW.out).wider BW.out.size); clear hb2))
  clear c0 c17 C0 C17 FI HX
  have hbx : base ≤ X2.heap.size := Nat.le_trans hb BW.out.size
  have NL : Hid (n = xs.length) := RX.out.len.symm
  go_upto_region 9 with (
    (have _ := RX; refine wpList_append_row (X2.alloc (.cells #[] 5)) rfl _ _ rfl X2.heap.size (some ⟨X2.heap.size, 0, none⟩) 0 0 [] rfl (Own.empty (Nat.le_refl _)) X2.heap.size A n c xs rfl (RX.out.alloc (Nat.le_refl _) _) (by omega) (by simp) ?_; intro A' c' Y hO hg _; have HY := Lib.hid (clone_frame' H2.out hO hg); clear hO hg))
  generalize s = tg at *
  have hkr := HY.out.2.1.krow
  obtain ⟨B', cp', eB, KR⟩ := hkr
  injection eB with eB1 eB2 eB3
  subst eB1 eB3
  clear eB2
  have KR' := Lib.hid KR
  have c17 := HY.out.2.1.c17
  have hY1 := Lib.hid (show Below w.heap.size w Y from BW.out.trans (HY.out.1.mono BW.out.size))
  clear KR
  go_loop [8] (fun i => ∃ j : Nat, j ≤ cs.length ∧ i = .int .i64 (j : Nat) ∧ NoTag cs tg j) (fun i => cs.length - (intOf i).toNat)
  case atStart => exact ⟨0, by omega, rfl, fun i y hi => absurd hi (by omega)⟩
  case round =>
    obtain ⟨j, hj, rfl, hNT⟩ := hrel
    by_cases hlt : j < cs.length
    · have g1 : ((j : Int) < (cs.length : Int)) = True := eq_true (by omega)
      have hy : cs[j]? = some cs[j] := List.getElem?_eq_getElem hlt
      have hmem : cs[j] ∈ cs := List.getElem_mem hlt
      generalize cs[j] = y at *
      obtain ⟨g, rfl, e0, e1, r1⟩ := KR'.out.at_ j y hy
      obtain ⟨⟨ys, ty⟩, yA, yc⟩ := y
      simp only at e0 e1 r1
      have HN := Lib.hid hNT
      have HYm := Lib.hid hy
      have hml := HM.out _ hmem
      have HMEM := Lib.hid hmem
      clear hNT hy r1 hmem
      by_cases ht : ty = tg
      · subst ht
        have q : ((ty : Int) == (ty : Int)) = true := by simp
        go_upto_region 12 with (fail)
        have c18 := HY.out.2.1.c18
        have dB : ∀ o, (Y.alloc o).cell? ⟨gr, 18, none⟩ = some bv := fun o => (HY.out.2.1.below ((Below.refl _ _).alloc (Nat.le_refl _) _)).c18
        have d17 : ∀ o, (Y.alloc o).cell? ⟨gr, 17, none⟩ = some (.slice (some ⟨g, 0, none⟩) cs.length cp) := fun o => (HY.out.2.1.below ((Below.refl _ _).alloc (Nat.le_refl _) _)).c17
        have hylt : Y.cell? ⟨g, j * 2, none⟩ = some (.slice yA ys.length yc) := e0
        have dY : ∀ o, (Y.alloc o).cell? ⟨g, j * 2, none⟩ = some (.slice yA ys.length yc) := fun o => (World.cell?_alloc_lt Y o ⟨g, j * 2, none⟩ (cell_lt e0)).trans e0
        go_region_law (first
          | (refine step_append_bad (Y.drew.alloc (.cells (badV 2 (.slice A' n c') (.slice yA ys.length yc) (ty : Nat)) 62)) rfl _ _ rfl base bv bs rfl (HY.out.2.1.bd.alloc _) ⟨⟨2, xs, ys, ty⟩, A', c', yA, yc⟩ Y.heap.size rfl (by rw [NL.out]; exact heap_alloc_new Y _) (by omega) (by have := HY.out.1.size; have := BW.out.size; simp; omega) ?_; intro g2 cap W2 ho2 hg2 hat2; have e2 : W2.heap[gr]? = some (.cells (rkA 1 key (.slice (some ⟨g, 0, none⟩) cs.length cp) bv) 49 (0, 0)) := (hg2.block gr (by have := HY.out.2.1.lt; simp; omega) (fun e => HY.out.2.1.bad_ne e.symm)).trans ((Below.heap_alloc Y _ gr HY.out.2.1.lt).trans HY.out.2.1.blk); have v2 : W2.cell? ⟨gr, 18, none⟩ = some bv := by rw [cell_of_row W2 gr 18 _ _ _ e2, rkA_18 _ _ _ _ HY.out.2.1.k16]
             have f2 : W2.frozen? ⟨gr, 18, none⟩ = false := by simp [World.frozen?, e2]
             have E2 := Lib.hid e2; have HO2 := Lib.hid ho2; have HG2 := Lib.hid hg2; have HA2 := Lib.hid hat2; clear e2 ho2 hg2 hat2))
        all_goals
          (have hY := HY.out
           have hO : Own Y X2.heap.size A' xs.length c' xs := by rw [← NL.out]; exact hY.2.2
           have hr : Bm.ok Y base ⟨⟨2, xs, ys, ty⟩, A', c', yA, yc⟩ := ⟨hO.lower hbx, hY.2.1.om _ HMEM.out, by rw [← NL.out]; exact hn, hml⟩
           have hend := rbad_end (Y := Y.drew) (r := ⟨⟨2, xs, ys, ty⟩, A', c', yA, yc⟩) (show Below w.heap.size w Y.drew from hY1.out.drew) (show Rk Y.drew base gr 1 key cs bs (.slice (some ⟨g, 0, none⟩) cs.length cp) bv from hY.2.1.drewN 1) (show Bm.ok Y.drew base ⟨⟨2, xs, ys, ty⟩, A', c', yA, yc⟩ from hr) E2.out HO2.out HG2.out HA2.out
           clear hr hO hY v2 f2 c18 dB d17 dY c17 e0 e1 hylt
           generalize W2.setCell ⟨gr, 18, none⟩ (.slice (some ⟨g2, 0, none⟩) (bs.length + 1) cap) = Z at *
           have HRK := Lib.hid hend.1
           have HON := Lib.hid hend.2
           have SZ := Lib.hid (show base ≤ Z.heap.size from Nat.le_trans hb hend.2.1.size)
           have c17 := hend.1.c17
           clear hend
           go_wp2_with (first
             | (have _ := HRK; refine wpList_append_rmark (Z.alloc (.cells #[.slice A' n c', .int .u64 (ty : Nat)] 67)) rfl (.tmp 86) (.tmp 90) rfl base _ cs rfl (HRK.out.mr.alloc _) ⟨(xs, ty), A', c'⟩ Z.heap.size rfl (by rw [NL.out]; exact heap_alloc_new Z _) (by omega) (by have := SZ.out; simp; omega) ?_; intro g3 cap3 W3 ho3 hg3 hat3; have e3 : W3.heap[gr]? = some (.cells (rkA 1 key (.slice (some ⟨g, 0, none⟩) cs.length cp) (.slice (some ⟨g2, 0, none⟩) (bs.length + 1) cap)) 49 (0, 0)) := (hg3.block gr (by have := HRK.out.lt; simp; omega) (fun e => HRK.out.mark_ne e.symm)).trans ((Below.heap_alloc Z _ gr HRK.out.lt).trans HRK.out.blk); have v3 : W3.cell? ⟨gr, 17, none⟩ = some (.slice (some ⟨g, 0, none⟩) cs.length cp) := (by rw [cell_of_row W3 gr 17 _ _ _ e3, rkA_17 _ _ _ _ HRK.out.k16]); have f3 : W3.frozen? ⟨gr, 17, none⟩ = false := (by simp [World.frozen?, e3]); have E3 := Lib.hid e3; have HO3 := Lib.hid ho3; have HG3 := Lib.hid hg3; have HA3 := Lib.hid hat3; clear e3 ho3 hg3 hat3))
           have hend := rmark_end (r := ⟨(xs, ty), A', c'⟩) HRK.out (((HY.out.2.2.lower hbx).staysB (fun i hi => HON.out.2.2 i hi)) |> fun q => by rw [NL.out] at q; exact q) E3.out HO3.out HG3.out HA3.out
           go_ret
           refine ⟨rfl, _, _, ⟨(xs, ty), A', c'⟩, [⟨⟨2, xs, ys, ty⟩, A', c', yA, yc⟩], rfl, ?_, .inr ⟨j, ⟨(ys, ty), yA, yc⟩, ⟨⟨2, xs, ys, ty⟩, A', c', yA, yc⟩, HN.out.found HYm.out rfl, HYm.out, rfl, rfl, rfl, rfl⟩, hend.1, ?_, hend.2.2.1.low (HON.out.1.size), HON.out.2.1⟩
           · have := ((HY.out.2.2.staysB (fun i hi => HON.out.2.2 i hi)).staysB hend.2.2.2).lower BW.out.size
             rw [NL.out] at this
             exact this
           · exact (HON.out.1.mono (fun i hi => by rcases hi with e | e; exact .inl e; exact .inr (.inr e))).trans hend.2.1 (fun i hi => .inl (by rcases hi with e | e; exact .inl e; exact .inr (.inl e))))
      · have q : ((ty : Int) == (tg : Int)) = false := by simp; omega
        replace ht := Lib.hid ht
        go_wp2
        go_round
        case rel => exact ⟨j + 1, by omega, by go_num, HN.out.step HYm.out ht.out⟩
        case measure => simp [intOf]; omega
    · obtain rfl : j = cs.length := by omega
      have g1 : ((cs.length : Int) < (cs.length : Int)) = False := eq_false (by omega)
      have HRK := Lib.hid HY.out.2.1
      have SZ := Lib.hid (show base ≤ Y.heap.size from Nat.le_trans hbx HY.out.1.size)
      go_wp2_with (first
        | (have _ := HRK; refine wpList_append_rmark (Y.alloc (.cells #[.slice A' n c', .int .u64 (tg : Nat)] 67)) rfl (.tmp 86) (.tmp 90) rfl base _ cs rfl (HRK.out.mr.alloc _) ⟨(xs, tg), A', c'⟩ Y.heap.size rfl (by rw [NL.out]; exact heap_alloc_new Y _) (by omega) (by have := SZ.out; simp; omega) ?_; intro g3 cap3 W3 ho3 hg3 hat3; have e3 : W3.heap[gr]? = some (.cells (rkA 1 key (.slice B cs.length cp) bv) 49 (0, 0)) := (hg3.block gr (by have := HRK.out.lt; simp; omega) (fun e => HRK.out.mark_ne e.symm)).trans ((Below.heap_alloc Y _ gr HRK.out.lt).trans HRK.out.blk); have v3 : W3.cell? ⟨gr, 17, none⟩ = some (.slice B cs.length cp) := (by rw [cell_of_row W3 gr 17 _ _ _ e3, rkA_17 _ _ _ _ HRK.out.k16]); have f3 : W3.frozen? ⟨gr, 17, none⟩ = false := (by simp [World.frozen?, e3]); have E3 := Lib.hid e3; have HO3 := Lib.hid ho3; have HG3 := Lib.hid hg3; have HA3 := Lib.hid hat3; clear e3 ho3 hg3 hat3))
      have hend := rmark_end (r := ⟨(xs, tg), A', c'⟩) HY.out.2.1 (by have := HY.out.2.2.lower hbx; rw [NL.out] at this; exact this) E3.out HO3.out HG3.out HA3.out
      go_ret
      refine ⟨rfl, _, bv, ⟨(xs, tg), A', c'⟩, [], rfl, ?_, .inl ⟨hNT.none, rfl⟩, by rw [List.append_nil]; exact hend.1, Only.below hY1.out (hend.2.1.mono (fun i hi => by rcases hi with e | e; exact .inl e; exact .inr (.inl e))), hend.2.2.1.low hY1.out.size, Near.refl _ _⟩
      have := (HY.out.2.2.staysB hend.2.2.2).lower BW.out.size
      rw [NL.out] at this
      exact this
end
end Go.Proofs.Ytpibmccofjpelaa
