/- The block of a seed, the program's. No statement is proved here. -/
import Derived.Test.YtfbgpfiodgibbaaPKit
namespace Go.Proofs.Ytfbgpfiodgibbaa
open Go.RowKit
open A (arrV vals)
set_option linter.unusedVariables false
set_option linter.unusedSimpArgs false
attribute [local irreducible] A.arrV

theorem own_range {W : World} {base n c : Nat} {A : Option Addr} {xs : List Nat} (h : U.Own W base A n c xs) (hn : 0 < n) : ∃ b, A = some ⟨b, 0, none⟩ ∧ W.rangeAt b 0 (vals xs) ∧ base ≤ b := by
  rcases h.2.2.2 with ⟨e, h0⟩ | ⟨g, cap, cur, e, hb, _⟩
  · omega
  · injection e with e1 e2 e3
    subst e1
    exact ⟨g, rfl, row_range h.row hn, hb⟩
set_option maxRecDepth 20000 in
set_option maxHeartbeats 1000000 in
theorem bytes_any (s : Sd) (hs : s.Ok) (w : World) :
    Calls Try.prog 17 #[.agg s.arr] w fun e w' => e = .returned (.agg (arrV (sb s))) ∧ Below w.heap.size w w' := by
  have N1 := Lib.hid (fun W => U.number_any none 0 0 [] (uN s.l) 4 W (U.Row.nil_ _ _) (by omega) (uN_lt _) (by omega) (by omega))
  have N2 := Lib.hid (fun W A n c xs h1 h2 => U.number_any A n c xs s.M 8 W h1 h2 hs.M (by omega) (by omega))
  have N3 := Lib.hid (fun W A n c xs h1 h2 => U.number_any A n c xs (uN s.m) 2 W h1 h2 (uN_lt _) (by omega) (by omega))
  have N4 := Lib.hid (fun W A n c xs h1 h2 => U.number_any A n c xs (uN s.b) 1 W h1 h2 (uN_lt _) (by omega) (by omega))
  have e1 := uN_of s.l
  have e2 := uN_of s.m
  have e3 := uN_of s.b
  have h0 := St.nil w
  have LS := Lib.hid (lay_sb s)
  have NL := Lib.hid (nums_length s)
  have SL := Lib.hid (sb_length s)
  have HN := Lib.hid (show [] ++ U.nb (uN s.l) (U.many 4) ++ U.nb s.M (U.many 8) ++ U.nb (uN s.m) (U.many 2) ++ U.nb (uN s.b) (U.many 1) = nums s from rfl)
  have SA : Hid (s.arr = #[.int .i64 s.l, .int .u64 (s.M : Int), .int .i64 s.m, .int .i64 s.b]) := Lib.hid rfl
  generalize nums s = D at *
  generalize sb s = S at *
  have sa := SA.out
  generalize s.arr = ar at *
  clear hs SA
  go_enter Try.func17, Try.ntmps17
  go_wp2_with (first
    | (refine wpList_box_st h0 42 _ rfl rfl ar rfl ?_; clear h0; intro W1 h1 _ _)
    | (refine wpList_alloc_st h1 23 rfl rfl _ (arrV zs16) zero23 rfl ?_; clear h1; intro W2 h2 _ _; subst sa; have c0 := h2.cell 0 rfl 0 _ rfl)
    | (go_at_call 27; refine (N1.out _).mono ?_; intro e W3 hN; obtain ⟨A9, c, rfl, hO, hb1⟩ := U.GivesRow.out (N := 4) hN rfl; have h3 := h2.call hb1; have c1 := h3.cell 0 rfl 1 _ rfl; clear h2 hN hb1 N1 c0)
    | (go_at_call 27; refine (N2.out _ _ _ _ _ hO.row (by omega)).mono ?_; intro e W4 hN; clear hO; obtain ⟨A9, c, rfl, hO, hb1⟩ := U.GivesRow.out (N := 12) hN rfl; have h4 := h3.call hb1; have c2 := h4.cell 0 rfl 2 _ rfl; clear h3 hN hb1 N2 c1)
    | (go_at_call 27; refine (N3.out _ _ _ _ _ hO.row (by omega)).mono ?_; intro e W5 hN; clear hO; obtain ⟨A9, c, rfl, hO, hb1⟩ := U.GivesRow.out (N := 14) hN rfl; have h5 := h4.call hb1; have c3 := h5.cell 0 rfl 3 _ rfl; clear h4 hN hb1 N3 c2)
    | (go_at_call 27; refine (N4.out _ _ _ _ _ hO.row (by omega)).mono ?_; intro e W6 hN; clear hO; obtain ⟨A9, c, rfl, hO, hb1⟩ := U.GivesRow.out (N := 15) hN rfl; rw [HN.out] at hO; have h6 := h5.call hb1; clear h5 hN hb1 N4 c3)
    | (refine wpList_alloc_st h6 23 rfl rfl _ (arrV zs16) zero23 rfl ?_; clear h6; intro W7 h7 _ hb7; replace hO := hO.below hb7; obtain ⟨b, rfl, hr, hlo⟩ := own_range hO (by omega); clear hO hb7)
    | (have _ := h7; refine wpList_copyB h7 2 rfl _ _ rfl rfl 0 16 16 b 0 15 c rfl rfl D (by rw [NL.out]; rfl) hr (by rw [NL.out]; decide) ?_; clear h7; intro W8 h8 _; rw [LS.out] at h8)
    | (have _ := h8; refine wpList_load_st h8 2 rfl 23 _ _ rfl rfl rfl Try.underlying23 rfl (by rw [A.arrV_size, SL.out]; exact sz23) ?_)
    | (have _ := h8; refine wpList_store_st (arr' := arrV S) h8 1 rfl 23 _ _ rfl rfl rfl rfl (by rw [A.arrV_size, SL.out]; exact sz23) (by rw [A.arrV_size, A.arrV_size, SL.out]; rfl) (A.arrV_all _) ?_; clear h8; intro W9 h9 _))
  exact bodyPost_ret (A.results_arr Try.results17 _ _ _ rfl _ ((show A.Blk W9 _ 23 S from h9.get 1 rfl).loadAll 23 _ SL.out Try.underlying23 rfl sz23)) rfl ⟨rfl, h9.bel⟩
/-- The pads' object and its cipher. -/
structure HasPads (W : World) (g gc : Nat) (key : List Nat) : Prop where
  obj : ∃ v, At W g 59 #[.pointer (some ⟨gc, 0, none⟩), v]
  ci : A.Blk W gc 78 (A.cells key)
structure IsKey (key : List Nat) : Prop where
  len : key.length = 16
  lt : ∀ x ∈ key, x < 256
theorem HasPads.call {W W' : World} {g gc : Nat} {key : List Nat} (h : HasPads W g gc key) (hb : Below W.heap.size W W') : HasPads W' g gc key := by
  obtain ⟨⟨v, h1⟩, h2⟩ := h
  exact ⟨⟨v, h1.call hb⟩, h2.below hb h2.lt⟩
theorem HasPads.drew {W : World} {g gc : Nat} {key : List Nat} (h : HasPads W g gc key) : HasPads W.drew g gc key := ⟨h.obj, h.ci⟩
/-- A seed's pad. -/
def padN (key : List Nat) (s : Sd) : List Nat := A.enc (A.cells key) (sb s)
theorem padN_ok {key : List Nat} (hk : IsKey key) (s : Sd) : (padN key s).length = 16 ∧ ∀ x ∈ padN key s, x < 256 := by
  have cl := A.cells_length key hk.len hk.lt
  have cb := A.cells_lt key hk.len hk.lt
  obtain ⟨l1, b1⟩ := A.enTo_ok (A.cells key) (sb s) cl cb (sb_length s) (sb_lt s) 9 (by omega)
  unfold padN A.enc
  refine ⟨?_, ?_⟩
  · rw [A.addTo_length, A.shTo_length]
  · refine A.addTo_lt _ _ ?_ (A.rk_lt _ _ cb) 16
    exact A.shTo_lt _ (A.stTo_lt (A.cells key) _ cb b1 16) 16
theorem wp_store_st {o : Oper} {a : Act} {w W : World} {K : Act → World → Prop} {Q : Exit → Act → World → Prop} {L : Blks} (h : St w W L) (i : Nat) {g : Nat} {t : TypeId} {arr arr' : Array Value} (hi : L[i]? = some (g, C t arr)) (ty : TypeId) (x y : Operand) (ho : o.op = .store ty x y)
    (hx : a.eval x = .pointer (some ⟨g, 0, none⟩)) (hy : a.eval y = .agg arr') (hs : (Try.prog.info? ty).map (·.size) = some arr'.size) (hl : arr'.size = arr.size) (h1 : arr'.all (·.oneCell') = true)
    (k : ∀ W', St w W' (L.set i (g, C t arr')) → W.grownBy W' (some g) → K (a.put o.dst undef) W') : o.wp Try.prog a W K Q := by
  have hA : At W g t arr := h.get i hi
  exact wp_store_row ty x y ho g arr' hx hy t arr hA hs hl.symm h1 (k _ (h.put i hi hA.putAll (grown_setRow W g arr')) (grown_setRow W g arr'))
theorem HasPads.cell0 {W : World} {g gc : Nat} {key : List Nat} (h : HasPads W g gc key) : W.cell? ⟨g, 0, none⟩ = some (.pointer (some ⟨gc, 0, none⟩)) := by
  obtain ⟨⟨v, h1⟩, _⟩ := h
  exact (h1.cell 0).trans rfl
structure P19 (w : World) (g gc : Nat) (key : List Nat) (L : Blks) (W : World) : Prop where
  hp : HasPads W g gc key
  st : St w W L
theorem P19.call {w W W' : World} {g gc : Nat} {key : List Nat} {L : Blks} (h : P19 w g gc key L W) (hb : Below W.heap.size W W') : P19 w g gc key L W' := ⟨h.hp.call hb, h.st.call hb⟩
theorem P19.drew {w W : World} {g gc : Nat} {key : List Nat} {L : Blks} (h : P19 w g gc key L W) : P19 w g gc key L W.drew := ⟨h.hp.drew, h.st.drew⟩
set_option maxRecDepth 20000 in
set_option maxHeartbeats 1000000 in
theorem pad_any (g gc : Nat) (key : List Nat) (hk : IsKey key) (s : Sd) (hs : s.Ok) (w : World) (hp : HasPads w g gc key) :
    Calls Try.prog 19 #[.pointer (some ⟨g, 0, none⟩), .agg s.arr] w fun e w' => e = .returned (.agg (arrV (padN key s))) ∧ Below w.heap.size w w' := by
  have BY := Lib.hid (fun W => bytes_any s hs W)
  have EN : Hid (∀ W, A.Blk W gc 78 (A.cells key) → Calls Try.prog 29 #[.pointer (some ⟨gc, 0, none⟩), .agg (arrV (sb s))] W (A.GivesArr W (padN key s))) := Lib.hid (fun W h => A.encrypt_any gc (A.cells key) W h (A.cells_length key hk.len hk.lt) (A.cells_lt key hk.len hk.lt) (sb s) (sb_length s) (sb_lt s))
  have OK := Lib.hid (padN_ok hk s)
  have h0 := St.nil w
  have sa : s.arr = #[.int .i64 s.l, .int .u64 (s.M : Int), .int .i64 s.m, .int .i64 s.b] := rfl
  have s4 := Lib.hid (show s.arr.size = 4 from rfl)
  replace sa := Lib.hid sa
  generalize sb s = S at *
  generalize padN key s = P at *
  generalize s.arr = ar at *
  clear hs
  go_enter Try.func19, Try.ntmps19
  go_wp2_with (first
    | (refine wpList_box_st h0 42 _ rfl rfl ar rfl ?_; clear h0; intro W1 h1 _ hb1; generalize w.heap.size = b0 at *)
    | (refine wpList_alloc_st h1 23 rfl rfl _ (arrV zs16) zero23 rfl ?_; clear h1; intro W2 h2 _ hb2; generalize W1.heap.size = b1 at *))
  have H0 := Lib.hid (show P19 w g gc key [(b0, C 42 ar), (b1, C 23 (arrV zs16))] W2.drew from P19.drew ⟨hp.call h2.bel, h2⟩)
  clear h2 hb1 hb2 hp
  refine wp_region_last (fun W => P19 w g gc key [(b0, C 42 ar), (b1, C 23 (arrV zs16))] W) 7 (by kernel_rfl) ?_
  generalize W2.drew = V0 at *
  refine AnyT.take (i := 0) (v := .pointer (some ⟨g, 0, none⟩)) rfl (by kernel_rfl) (by kernel_rfl) (by kernel_rfl) (by kernel_rfl) (by decide) (fun _ _ _ h => h) (Or.inl ⟨by rfl, fun W hW => by clear hW; go_simp⟩) H0.out ?_
  try simp only [Act.put, List.getElem_toArray, List.getElem_cons_succ, List.getElem_cons_zero, List.setIfInBounds_toArray, List.set_cons_zero, List.set_cons_succ]
  refine AnyT.take (i := 1) (v := .pointer (some ⟨g, 0, none⟩)) rfl (by kernel_rfl) (by kernel_rfl) (by kernel_rfl) (by kernel_rfl) (by decide) (fun _ _ _ h => h) (Or.inl ⟨by rfl, fun W hW => by clear hW; go_simp⟩) H0.out ?_
  try simp only [Act.put, List.getElem_toArray, List.getElem_cons_succ, List.getElem_cons_zero, List.setIfInBounds_toArray, List.set_cons_zero, List.set_cons_succ]
  refine AnyT.take (i := 2) (v := .pointer (some ⟨g, 0, none⟩)) rfl (by kernel_rfl) (by kernel_rfl) (by kernel_rfl) (by kernel_rfl) (by decide) (fun _ _ _ h => h) (Or.inl ⟨by rfl, fun W hW => by clear hW; go_simp⟩) H0.out ?_
  try simp only [Act.put, List.getElem_toArray, List.getElem_cons_succ, List.getElem_cons_zero, List.setIfInBounds_toArray, List.set_cons_zero, List.set_cons_succ]
  refine AnyT.take (i := 3) (v := .pointer (some ⟨gc, 0, none⟩)) rfl (by kernel_rfl) (by kernel_rfl) (by kernel_rfl) (by kernel_rfl) (by decide) (fun _ _ _ h => h) (Or.inl ⟨by rfl, fun W hW => by have hc := hW.hp.cell0; clear hW; go_simp⟩) H0.out ?_
  try simp only [Act.put, List.getElem_toArray, List.getElem_cons_succ, List.getElem_cons_zero, List.setIfInBounds_toArray, List.set_cons_zero, List.set_cons_succ]
  refine AnyT.take (i := 4) (v := .agg ar) rfl (by kernel_rfl) (by kernel_rfl) (by kernel_rfl) (by kernel_rfl) (by decide) (fun _ _ _ h => h) (yields_at 42 _ _ rfl (by rfl) rfl Try.underlying42 rfl (by rw [s4.out]; exact sz42) (fun W hW => hW.st.get 0 rfl)) H0.out ?_
  try simp only [Act.put, List.getElem_toArray, List.getElem_cons_succ, List.getElem_cons_zero, List.setIfInBounds_toArray, List.set_cons_zero, List.set_cons_succ]
  refine AnyT.one (i := 5) (by kernel_rfl) rfl (fun K hK => ?_)
  go_simp
  go_at_call 17
  refine (BY.out _).mono ?_
  rintro e V1_ ⟨rfl, hb1_⟩
  have H1_ := Lib.hid (H0.out.call hb1_)
  clear hb1_
  refine hK.out _ _ (fun _ => H1_.out) ?_
  clear hK K
  try simp only [Act.put, List.getElem_toArray, List.getElem_cons_succ, List.getElem_cons_zero, List.setIfInBounds_toArray, List.set_cons_zero, List.set_cons_succ]
  refine AnyT.one (i := 6) (by kernel_rfl) rfl (fun K hK => ?_)
  go_simp
  go_at_call 29
  refine (EN.out _ H1_.out.hp.ci).mono ?_
  rintro e V2_ ⟨rfl, hb2_⟩
  have H2_ := Lib.hid (H1_.out.call hb2_)
  clear hb2_
  refine hK.out _ _ (fun _ => H2_.out) ?_
  clear hK K
  try simp only [Act.put, List.getElem_toArray, List.getElem_cons_succ, List.getElem_cons_zero, List.setIfInBounds_toArray, List.set_cons_zero, List.set_cons_succ]
  refine AnyT.one (i := 7) (by kernel_rfl) rfl (fun K hK => ?_)
  rw [if_pos (by rfl)]
  refine wp_store_st (arr' := arrV P) H2_.out.st 1 rfl 23 _ _ rfl rfl rfl (by rw [A.arrV_size, OK.out.1]; exact sz23) (by rw [A.arrV_size, A.arrV_size, OK.out.1]; rfl) (A.arrV_all _) ?_
  intro W9 h9 _
  refine hK.out _ _ (fun h => absurd rfl h) ?_
  clear hK K
  try simp only [Act.put, List.getElem_toArray, List.getElem_cons_succ, List.getElem_cons_zero, List.setIfInBounds_toArray, List.set_cons_zero, List.set_cons_succ]
  refine AnyT.done (by kernel_rfl) ?_ _
  go_wp2
  exact bodyPost_ret (A.results_arr Try.results19 _ _ _ rfl _ ((show A.Blk W9 _ 23 P from h9.get 1 rfl).loadAll 23 _ OK.out.1 Try.underlying23 rfl sz23)) rfl ⟨rfl, h9.bel⟩
end Go.Proofs.Ytfbgpfiodgibbaa
