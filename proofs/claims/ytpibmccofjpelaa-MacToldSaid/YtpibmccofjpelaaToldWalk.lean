/- The law of what bad events tell. No statement is proved here. -/
import Derived.Test.YtpibmccofjpelaaToldBook
namespace Go.Proofs.Ytpibmccofjpelaa
open Go.RowKit Go.Maps
set_option linter.unusedVariables false
set_option linter.unusedSimpArgs false

theorem KB.c1 {W : World} {g : Nat} {x : Cl} {v : Value} (h : KB W g x v) : W.cell? ⟨g, 1, none⟩ = some (.bool x.o) := by rw [cell_of_row W g 1 _ _ _ h]; rfl
theorem KB.fz {W : World} {g : Nat} {x : Cl} {v : Value} (h : KB W g x v) (i : Nat) : W.frozen? ⟨g, i, none⟩ = false := by unfold KB at h; simp [World.frozen?, h]
def ToRel (w : World) (key : List Nat) (gk n : Nat) (i : Value) (wr : World) : Prop :=
  ∃ (k : Nat) (ms : List Mark) (rs : List Bm), k ≤ n ∧ i = .int .i64 (k : Nat) ∧ USt w key gk ms rs k wr
/-- What the second loop keeps. -/
structure LsSt (w : World) (key : List Nat) (gz : Nat) (cs : List Bm) (W : World) : Prop where
  bel : Below w.heap.size w W
  kbl : Blk W w.heap.size 23 key
  lt : gz < W.heap.size
  rng : W.rangeAt gz 0 (bvals cs)
  own : ∀ r ∈ cs, r.ok W w.heap.size
theorem LsSt.call {w W W' : World} {key : List Nat} {gz : Nat} {cs : List Bm} (h : LsSt w key gz cs W) (hb : Below W.heap.size W W') : LsSt w key gz cs W' :=
  ⟨h.bel.trans (hb.mono h.bel.size), (hb.block _ (heap_lt h.kbl)).trans h.kbl, Nat.lt_of_lt_of_le h.lt hb.size, rangeAt_block h.rng (hb.block _ h.lt), fun r hr => (h.own r hr).below hb⟩
theorem LsSt.drew {w W : World} {key : List Nat} {gz : Nat} {cs : List Bm} (h : LsSt w key gz cs W) : LsSt w key gz cs W.drew := ⟨h.bel.drew, h.kbl, h.lt, h.rng, h.own⟩
/-- And a bad event in a block. -/
structure EvSt (w : World) (key : List Nat) (gz : Nat) (cs : List Bm) (gx : Nat) (k t : Int) (s1 s2 : Value) (W : World) : Prop where
  r : LsSt w key gz cs W
  blk : W.heap[gx]? = some (.cells (badV k s1 s2 t) 62 (0, 0))
section
variable {w W W' : World} {key : List Nat} {gz : Nat} {cs : List Bm} {gx : Nat} {k t : Int} {s1 s2 : Value}
theorem EvSt.kbl (h : EvSt w key gz cs gx k t s1 s2 W) : Blk W w.heap.size 23 key := h.r.kbl
theorem EvSt.call (h : EvSt w key gz cs gx k t s1 s2 W) (hb : Below W.heap.size W W') : EvSt w key gz cs gx k t s1 s2 W' := ⟨h.r.call hb, (hb.block _ (heap_lt h.blk)).trans h.blk⟩
theorem EvSt.drew (h : EvSt w key gz cs gx k t s1 s2 W) : EvSt w key gz cs gx k t s1 s2 W.drew := ⟨h.r.drew, h.blk⟩
theorem EvSt.q0 (h : EvSt w key gz cs gx k t s1 s2 W) : W.cell? ⟨gx, 0, none⟩ = some (.int .i64 k) := by rw [cell_of_row W gx 0 _ _ _ h.blk]; rfl
theorem EvSt.q1 (h : EvSt w key gz cs gx k t s1 s2 W) : W.cell? ⟨gx, 1, none⟩ = some s1 := by rw [cell_of_row W gx 1 _ _ _ h.blk]; rfl
theorem EvSt.q2 (h : EvSt w key gz cs gx k t s1 s2 W) : W.cell? ⟨gx, 2, none⟩ = some s2 := by rw [cell_of_row W gx 2 _ _ _ h.blk]; rfl
theorem EvSt.q3 (h : EvSt w key gz cs gx k t s1 s2 W) : W.cell? ⟨gx, 3, none⟩ = some (.int .u64 t) := by rw [cell_of_row W gx 3 _ _ _ h.blk]; rfl
theorem EvSt.new (h : LsSt w key gz cs W) : EvSt w key gz cs W.heap.size k t s1 s2 (W.alloc (.cells (badV k s1 s2 t) 62)) := ⟨h.call ((Below.refl _ _).alloc (Nat.le_refl _) _), heap_alloc_new W _⟩
end
def TwRel (w : World) (key : List Nat) (gz L : Nat) (cs : List Bm) (i : Value) (wr : World) : Prop :=
  ∃ j : Nat, j ≤ L ∧ i = .int .i64 (j : Nat) ∧ LsSt w key gz cs wr
attribute [local irreducible] findM firstM ssum
set_option maxHeartbeats 4000000 in
set_option maxRecDepth 20000 in
theorem told_walk (key : List Nat) (hk : key.length = 16) (bk : ∀ x ∈ key, x < 256) (A : Option Addr) (n c : Nat) (cs : List Cl) (w : World) (h : CallsIn w w.heap.size A n cs) (hn : n ≤ 9223372036854775807) :
    Calls Try.prog 9 #[.agg (arrV key), .slice A n c] w fun e w' => e = .returned (.bool true) ∧ Below w.heap.size w w' := by
  have SP := Lib.hid (fun W => macSpeaks_true W)
  have GR : Hid (∀ W, Below w.heap.size w W → Calls Try.prog 22 #[.slice A n c] W fun e w' => ∃ b : Bool, e = .returned (.bool b) ∧ (b = false → small cs) ∧ Below W.heap.size W w') := fun W hW => by
    have h2 : CallsIn W W.heap.size A n cs := by
      obtain ⟨h1, h2, h3⟩ := h.below hW
      refine ⟨h1, h2, fun a ha hn => ?_⟩
      obtain ⟨g1, g2, g3⟩ := h3 a ha hn
      refine ⟨g1, Nat.lt_of_lt_of_le g2 hW.size, fun j x hx => ?_⟩
      obtain ⟨A', m, c', e0, e1, e2, e3, r, ht⟩ := g3 j x hx
      exact ⟨A', m, c', e0, e1, e2, e3, r.wider hW.size, ht⟩
    exact great_any A n c cs W h2 hn
  have NW := Lib.hid (fun W (hW : w.heap.size ≤ W.heap.size) => gnew_sip key w.heap.size W hW hk)
  have HC := Lib.hid h
  have hlen := h.1
  have B0 := Lib.hid ((Below.refl w.heap.size w).alloc (Nat.le_refl _) (Obj.cells (arrV key) 23))
  have K0 := Lib.hid (Blk.new w 23 key)
  have SZ := Lib.hid (sz16 key hk)
  have HK := Lib.hid (And.intro hk bk)
  clear h hk bk
  go_enter Try.func9, Try.ntmps9
  go_wp2_with (first
    | (go_at_call 20; refine (SP.out _).mono ?_; rintro e X1 ⟨rfl, hb⟩; have B1 := Lib.hid (B0.out.trans (hb.mono B0.out.size)); have K1 : Hid (Blk X1 w.heap.size 23 key) := (hb.block _ (heap_lt K0.out)).trans K0.out; clear hb)
    | (go_at_call 22; refine (GR.out _ B1.out).mono ?_; rintro e X2 ⟨b, rfl, hsm, hb⟩; have B2 := Lib.hid (B1.out.trans (hb.mono B1.out.size)); have K2 : Hid (Blk X2 w.heap.size 23 key) := (hb.block _ (heap_lt K1.out)).trans K1.out; replace hsm := Lib.hid hsm; clear hb; cases b)
    | (refine wpList_load_mid rfl 23 _ rfl w.heap.size 0 rfl (vals key) _ (whole_range K2.out HK.out.1) Try.underlying23 rfl SZ.out ?_)
    | (have := K2; go_at_call 21; refine (NW.out _ B2.out.size).mono ?_; rintro e X3 ⟨gk, gl, m1, m2, rfl, hG, hll, hb⟩; have U0 : Hid (USt w key gk [] [] 0 X3) := ⟨⟨_, _, _, _, _, hG⟩, fun m hm => absurd hm (by simp), fun m hm => absurd hm (by simp), by simp, by simp, (hb.block _ (heap_lt K2.out)).trans K2.out, B2.out.trans (hb.mono B2.out.size)⟩; clear hG hll hb))
  · have sm := hsm.out trivial
    have sm1 := sm.1
    have SM := Lib.hid sm.2
    clear sm hsm GR NW SP B0 K0 B1 K1 B2 K2
    go_loopw [31] (ToRel w key gk n) (fun i _ => n - (intOf i).toNat)
    case atStart => exact ⟨0, [], [], by omega, rfl, U0.out⟩
    case round =>
      clear U0
      obtain ⟨k, ms, rs, hkn, rfl, hU⟩ := hrel
      by_cases hlt : k < n
      · have g1 : ((k : Int) < (n : Int)) = True := eq_true (by omega)
        have hx : cs[k]? = some cs[k] := List.getElem?_eq_getElem (by omega)
        have hmem := SM.out cs[k] (List.getElem_mem _)
        generalize cs[k] = x at *
        obtain ⟨b, off, rfl, hb, A', m, c', e0, e1, e2, e3, r, ht⟩ := (HC.out.below hU.bel).at_ k x hx
        have rl := r.len
        obtain ⟨xv, xo, xs, xt⟩ := x
        have hm100 : m ≤ 1000 := by simp only at hmem rl; omega
        have J0 := Lib.hid (TSt.new (x := ⟨xv, xo, xs, xt⟩) hU r hm100)
        have lg : w.heap.size < wr.heap.size := heap_lt hU.kbl
        have BD := Lib.hid (J0.out.bad (by omega))
        have l2 := hU.l2
        clear hU r
        cases xv
        · go_wp2_with (first
            | (go_at_call 32; refine BD.out.mono ?_; rintro e X4 ⟨gz, rfl, J1⟩; have c2 := J1.kb.c2; have c0 := J1.kb.c0)
            | (have := J1; go_at_call 27; refine J1.has.mono ?_; rintro e X5 ⟨rfl, J2⟩; clear J1 c2 c0; have c2 := J2.kb.c2; have c0 := J2.kb.c0)
            | (have := J2; go_at_call 25; refine (J2.tag HK.out.1 HK.out.2 (by omega)).mono ?_; rintro e X6 ⟨t, ms', rs', rfl, J3⟩; clear J2 c2 c0))
          go_roundw
          case rel => exact ⟨k + 1, ms', rs', by omega, by go_num, J3.u⟩
          case measure => simp [intOf]; omega
        · cases xo
          · go_wp2_with (first
            | (go_at_call 32; refine BD.out.mono ?_; rintro e X4 ⟨gz, rfl, J1⟩; have c2 := J1.kb.c2; have c0 := J1.kb.c0; have c3 := J1.kb.c3; have c1 := J1.kb.c1)
            | (have := J1; go_at_call 27; refine J1.has.mono ?_; rintro e X5 ⟨rfl, J2⟩; clear J1 c2 c0 c3 c1; have c2 := J2.kb.c2; have c0 := J2.kb.c0; have c3 := J2.kb.c3; have c1 := J2.kb.c1)
            | (have := J2; go_at_call 23; refine (J2.verify HK.out.1 HK.out.2 (by omega) (xt)).mono ?_; rintro e X7 ⟨bb, rs', rfl, J5, hcase⟩; clear J2; have BD2 := Lib.hid (fun W (hW : TSt w key gk ms rs' (k + 1) wr.heap.size ⟨true, false, xs, xt⟩ A' m c' W) => hW.bad (by omega)); have J5 := Lib.hid J5; rcases hcase with ⟨rfl, hl⟩ | ⟨rfl, hp, hl⟩ | ⟨rfl, hp, hl⟩)
            | (have := J5; go_at_call 32; refine (BD2.out _ J5.out).mono ?_; rintro e X8 ⟨gz2, rfl, J6⟩; replace J6 := Lib.hid J6; clear J5)
            | (have := J6; go_at_call 32; refine (BD2.out _ J6.out).mono ?_; rintro e X9 ⟨gz3, rfl, J7⟩; replace J7 := Lib.hid J7; clear J6))
            all_goals (exact ⟨⟨k + 1, ms, rs', by omega, by go_num, J7.out.u⟩, by simp [intOf]; omega⟩)
          · go_wp2_with (first
              | (go_at_call 32; refine BD.out.mono ?_; rintro e X4 ⟨gz, rfl, J1⟩; have c2 := J1.kb.c2; have c0 := J1.kb.c0; have c3 := J1.kb.c3; have c1 := J1.kb.c1)
              | (have := J1; go_at_call 27; refine J1.has.mono ?_; rintro e X5 ⟨rfl, J2⟩; clear J1 c2 c0 c3 c1; have c2 := J2.kb.c2; have c0 := J2.kb.c0; have c3 := J2.kb.c3; have c1 := J2.kb.c1)
              | (have := J2; refine wpList_load_mid rfl 23 _ rfl w.heap.size 0 rfl (vals key) _ (whole_range J2.u.kbl HK.out.1) Try.underlying23 rfl SZ.out ?_)
              | (have := J2; go_at_call 14; refine (J2.sum HK.out.1 HK.out.2).mono ?_; rintro e X6 ⟨rfl, J3⟩; clear J2 c2 c0 c3 c1; have f3 := J3.kb.fz 3; have c3 := J3.kb.c3; have J4 := Lib.hid (J3.setTag lg (ssum key xs)); have c2 := J4.out.kb.c2; have c4 := J4.out.kb.c3; clear J3)
              | (have := J4.out; go_at_call 23; refine (J4.out.verify HK.out.1 HK.out.2 (by omega) (ssum key xs)).mono ?_; rintro e X7 ⟨bb, rs', rfl, J5, hcase⟩; clear J4; have BD2 := Lib.hid (fun W (hW : TSt w key gk ms rs' (k + 1) wr.heap.size ⟨true, true, xs, ssum key xs⟩ A' m c' W) => hW.bad (by omega)); have J5 := Lib.hid J5; rcases hcase with ⟨rfl, hl⟩ | ⟨rfl, hp, hl⟩ | ⟨rfl, hp, hl⟩)
              | (have := J5; go_at_call 32; refine (BD2.out _ J5.out).mono ?_; rintro e X8 ⟨gz2, rfl, J6⟩; replace J6 := Lib.hid J6; clear J5)
              | (have := J6; go_at_call 32; refine (BD2.out _ J6.out).mono ?_; rintro e X9 ⟨gz3, rfl, J7⟩; replace J7 := Lib.hid J7; clear J6))
            all_goals (exact ⟨⟨k + 1, ms, rs', by omega, by go_num, J7.out.u⟩, by simp [intOf]; omega⟩)
      · have g1 : ((k : Int) < (n : Int)) = False := eq_false (by omega)
        have BD := Lib.hid (hU.bad (by omega))
        have HU := Lib.hid hU
        have l2 := hU.l2
        clear hU
        go_wp2_with (first
          | (go_at_call 32; refine BD.out.mono ?_; rintro e X4 ⟨gz, cs2, rfl, hce, hZ⟩; have R0 : Hid (LsSt w key gz cs2 X4) := ⟨HU.out.bel.trans (hZ.bel.mono HU.out.bel.size), (hZ.bel.block _ (heap_lt HU.out.kbl)).trans HU.out.kbl, hZ.lt, hZ.rng, fun r hr => ⟨(hZ.own r hr).1.lower (by have := hZ.lo; have := HU.out.bel.size; omega), (hZ.own r hr).2.1.lower (by have := hZ.lo; have := HU.out.bel.size; omega), (hZ.own r hr).2.2⟩⟩; replace hce := Lib.hid hce; clear hZ))
        have hL2 : cs2.length = rs.length := by have := congrArg List.length hce.out; simpa using this
        generalize hLL : rs.length = L at *
        go_loopw [92] (TwRel w key gz L cs2) (fun i _ => L - (intOf i).toNat)
        case atStart => exact ⟨0, by omega, rfl, R0.out⟩
        case round =>
          clear R0
          obtain ⟨j, hj, rfl, hR⟩ := hrel
          by_cases hjl : j < L
          · have g2 : ((j : Int) < (L : Int)) = True := eq_true (by omega)
            have hx : cs2[j]? = some cs2[j] := List.getElem?_eq_getElem (by omega)
            have hmem : cs2[j] ∈ cs2 := List.getElem_mem _
            have hbd : cs2[j].e.t = ssum key cs2[j].e.xs ∧ (cs2[j].e.k = 2 → cs2[j].e.t = ssum key cs2[j].e.ys) := by
              have he : cs2[j].e ∈ rs.map (·.e) := by rw [← hce.out]; exact List.mem_map_of_mem hmem
              obtain ⟨r, hr, er⟩ := List.mem_map.1 he
              rw [← er]; exact HU.out.bd r hr
            generalize cs2[j] = r at *
            obtain ⟨⟨ek, exs, eys, et⟩, A1, c1, A2, c2⟩ := r
            simp only at hbd
            have hok := hR.own _ hmem
            have hcl := fun i (hi : i < 4) => bvals_at cs2 j i _ hx hi
            have rg := hR.rng
            have e0 : wr.cell? ⟨gz, j * 4, none⟩ = some (.int .i64 (ek : Nat)) := by have := rg (j * 4 + 0) _ (hcl 0 (by omega)); simpa using this
            have e1 : wr.cell? ⟨gz, j * 4 + 1, none⟩ = some (.slice A1 exs.length c1) := by have := rg (j * 4 + 1) _ (hcl 1 (by omega)); simpa using this
            have e2 : wr.cell? ⟨gz, j * 4 + 2, none⟩ = some (.slice A2 eys.length c2) := by have := rg (j * 4 + 2) _ (hcl 2 (by omega)); simpa using this
            have e3 : wr.cell? ⟨gz, j * 4 + 3, none⟩ = some (.int .u64 (et : Nat)) := by have := rg (j * 4 + 3) _ (hcl 3 (by omega)); simpa using this
            have SM1 : Hid (∀ W, EvSt w key gz cs2 wr.heap.size (ek : Nat) (et : Nat) (.slice A1 exs.length c1) (.slice A2 eys.length c2) W → Calls Try.prog 14 #[.agg (vals key).toArray, .slice A1 exs.length c1] W fun e w' => e = .returned (.int .u64 (et : Nat)) ∧ Below W.heap.size W w') := fun W hW => by
              have ho := hW.r.own _ hmem
              have := refSum_any key A1 exs.length c1 exs W HK.out.1 HK.out.2 ho.1.row (by have := ho.2.2.1; simp only at this; omega)
              rw [← ssum_eq key exs HK.out.1 HK.out.2 ho.1.2.1, ← hbd.1] at this
              exact this
            have SM2 : Hid (ek = 2 → ∀ W, EvSt w key gz cs2 wr.heap.size (ek : Nat) (et : Nat) (.slice A1 exs.length c1) (.slice A2 eys.length c2) W → Calls Try.prog 14 #[.agg (vals key).toArray, .slice A2 eys.length c2] W fun e w' => e = .returned (.int .u64 (et : Nat)) ∧ Below W.heap.size W w') := fun h2 W hW => by
              have ho := hW.r.own _ hmem
              have := refSum_any key A2 eys.length c2 eys W HK.out.1 HK.out.2 ho.2.1.row (by have := ho.2.2.2; simp only at this; omega)
              rw [← ssum_eq key eys HK.out.1 HK.out.2 ho.2.1.2.1, ← hbd.2 h2] at this
              exact this
            have HR := Lib.hid (EvSt.new (k := (ek : Nat)) (t := (et : Nat)) (s1 := .slice A1 exs.length c1) (s2 := .slice A2 eys.length c2) hR)
            clear hR rg hcl hok hmem hx hbd hce
            by_cases h2 : ek = 2
            · subst h2
              replace SM2 := Lib.hid (SM2.out rfl)
              go_wp2
              have H0 := Lib.hid HR.out.drew
              refine wp_region_held_drew (S := fun W => EvSt w key gz cs2 wr.heap.size ((2 : Nat) : Int) (et : Nat) (.slice A1 exs.length c1) (.slice A2 eys.length c2) W) (by kernel_rfl) H0.out (fun _ => ?_)
              generalize World.drew _ = V0 at *
              refine wpAnyH_take (i := 0) (v := .agg (vals key).toArray) rfl (by kernel_rfl) (by kernel_rfl) (by kernel_rfl) (fun _ _ _ h => h) (yieldsIf_load_mid (by rfl) 23 _ rfl w.heap.size 0 rfl (vals key) _ (fun W hW => whole_range hW.kbl HK.out.1) Try.underlying23 rfl SZ.out) H0.out ?_
              try simp only [Act.put, List.getElem_toArray, List.getElem_cons_succ, List.getElem_cons_zero, List.setIfInBounds_toArray, List.set_cons_zero, List.set_cons_succ]
              refine wpAnyH_take (i := 1) (v := .pointer (some ⟨wr.heap.size, 1, none⟩)) rfl (by kernel_rfl) (by kernel_rfl) (by kernel_rfl) (fun _ _ _ h => h) (Or.inl ⟨by rfl, fun W hW => by clear hW; go_simp⟩) H0.out ?_
              try simp only [Act.put, List.getElem_toArray, List.getElem_cons_succ, List.getElem_cons_zero, List.setIfInBounds_toArray, List.set_cons_zero, List.set_cons_succ]
              refine wpAnyH_take (i := 2) (v := .slice A1 exs.length c1) rfl (by kernel_rfl) (by kernel_rfl) (by kernel_rfl) (fun _ _ _ h => h) (Or.inl ⟨by rfl, fun W hW => by have hc := hW.q1; clear hW; go_simp⟩) H0.out ?_
              try simp only [Act.put, List.getElem_toArray, List.getElem_cons_succ, List.getElem_cons_zero, List.setIfInBounds_toArray, List.set_cons_zero, List.set_cons_succ]
              refine wpAnyH_take (i := 4) (v := .pointer (some ⟨wr.heap.size, 3, none⟩)) rfl (by kernel_rfl) (by kernel_rfl) (by kernel_rfl) (fun _ _ _ h => h) (Or.inl ⟨by rfl, fun W hW => by clear hW; go_simp⟩) H0.out ?_
              try simp only [Act.put, List.getElem_toArray, List.getElem_cons_succ, List.getElem_cons_zero, List.setIfInBounds_toArray, List.set_cons_zero, List.set_cons_succ]
              refine wpAnyH_take (i := 5) (v := .int .u64 (et : Nat)) rfl (by kernel_rfl) (by kernel_rfl) (by kernel_rfl) (fun _ _ _ h => h) (Or.inl ⟨by rfl, fun W hW => by have hc := hW.q3; clear hW; go_simp⟩) H0.out ?_
              try simp only [Act.put, List.getElem_toArray, List.getElem_cons_succ, List.getElem_cons_zero, List.setIfInBounds_toArray, List.set_cons_zero, List.set_cons_succ]
              refine wpAnyH_ready (rs := [3]) (by kernel_rfl) (by simp) ?_
              refine AllReadyH.cons rfl (fun K hK => ?_) AllReadyH.nil
              go_simp
              go_at_call 14
              refine (SM1.out _ H0.out).mono ?_
              rintro e V1_ ⟨rfl, hb1_⟩
              have H1_ := Lib.hid (H0.out.call hb1_)
              clear hb1_
              refine hK.out _ _ H1_.out (fun _ => ?_)
              clear hK K
              try simp only [Act.put, List.getElem_toArray, List.getElem_cons_succ, List.getElem_cons_zero, List.setIfInBounds_toArray, List.set_cons_zero, List.set_cons_succ]
              refine wpAnyH_take (i := 6) (v := .bool false) rfl (by kernel_rfl) (by kernel_rfl) (by kernel_rfl) (fun _ _ _ h => h) (Or.inl ⟨by rfl, fun W hW => by clear hW; go_simp⟩) H1_.out ?_
              try simp only [Act.put, List.getElem_toArray, List.getElem_cons_succ, List.getElem_cons_zero, List.setIfInBounds_toArray, List.set_cons_zero, List.set_cons_succ]
              refine wpAnyH_take (i := 7) (v := .bool false) rfl (by kernel_rfl) (by kernel_rfl) (by kernel_rfl) (fun _ _ _ h => h) (Or.inl ⟨by rfl, fun W hW => by clear hW; go_simp⟩) H1_.out ?_
              try simp only [Act.put, List.getElem_toArray, List.getElem_cons_succ, List.getElem_cons_zero, List.setIfInBounds_toArray, List.set_cons_zero, List.set_cons_succ]
              refine wpAnyH_take (i := 8) (v := .pointer (some ⟨wr.heap.size, 0, none⟩)) rfl (by kernel_rfl) (by kernel_rfl) (by kernel_rfl) (fun _ _ _ h => h) (Or.inl ⟨by rfl, fun W hW => by clear hW; go_simp⟩) H1_.out ?_
              try simp only [Act.put, List.getElem_toArray, List.getElem_cons_succ, List.getElem_cons_zero, List.setIfInBounds_toArray, List.set_cons_zero, List.set_cons_succ]
              refine wpAnyH_take (i := 9) (v := .int .i64 2) rfl (by kernel_rfl) (by kernel_rfl) (by kernel_rfl) (fun _ _ _ h => h) (Or.inl ⟨by rfl, fun W hW => by have hc := hW.q0; clear hW; go_simp⟩) H1_.out ?_
              try simp only [Act.put, List.getElem_toArray, List.getElem_cons_succ, List.getElem_cons_zero, List.setIfInBounds_toArray, List.set_cons_zero, List.set_cons_succ]
              refine wpAnyH_take (i := 10) (v := .bool true) rfl (by kernel_rfl) (by kernel_rfl) (by kernel_rfl) (fun _ _ _ h => h) (Or.inl ⟨by rfl, fun W hW => by clear hW; go_simp⟩) H1_.out ?_
              try simp only [Act.put, List.getElem_toArray, List.getElem_cons_succ, List.getElem_cons_zero, List.setIfInBounds_toArray, List.set_cons_zero, List.set_cons_succ]
              refine wpAnyH_take (i := 11) (v := .bool true) rfl (by kernel_rfl) (by kernel_rfl) (by kernel_rfl) (fun _ _ _ h => h) (Or.inl ⟨by rfl, fun W hW => by clear hW; go_simp⟩) H1_.out ?_
              try simp only [Act.put, List.getElem_toArray, List.getElem_cons_succ, List.getElem_cons_zero, List.setIfInBounds_toArray, List.set_cons_zero, List.set_cons_succ]
              refine wpAnyH_take (i := 12) (v := .agg (vals key).toArray) rfl (by kernel_rfl) (by kernel_rfl) (by kernel_rfl) (fun _ _ _ h => h) (yieldsIf_load_mid (by rfl) 23 _ rfl w.heap.size 0 rfl (vals key) _ (fun W hW => whole_range hW.kbl HK.out.1) Try.underlying23 rfl SZ.out) H1_.out ?_
              try simp only [Act.put, List.getElem_toArray, List.getElem_cons_succ, List.getElem_cons_zero, List.setIfInBounds_toArray, List.set_cons_zero, List.set_cons_succ]
              refine wpAnyH_take (i := 13) (v := .pointer (some ⟨wr.heap.size, 2, none⟩)) rfl (by kernel_rfl) (by kernel_rfl) (by kernel_rfl) (fun _ _ _ h => h) (Or.inl ⟨by rfl, fun W hW => by clear hW; go_simp⟩) H1_.out ?_
              try simp only [Act.put, List.getElem_toArray, List.getElem_cons_succ, List.getElem_cons_zero, List.setIfInBounds_toArray, List.set_cons_zero, List.set_cons_succ]
              refine wpAnyH_take (i := 14) (v := .slice A2 eys.length c2) rfl (by kernel_rfl) (by kernel_rfl) (by kernel_rfl) (fun _ _ _ h => h) (Or.inl ⟨by rfl, fun W hW => by have hc := hW.q2; clear hW; go_simp⟩) H1_.out ?_
              try simp only [Act.put, List.getElem_toArray, List.getElem_cons_succ, List.getElem_cons_zero, List.setIfInBounds_toArray, List.set_cons_zero, List.set_cons_succ]
              refine wpAnyH_take (i := 16) (v := .pointer (some ⟨wr.heap.size, 3, none⟩)) rfl (by kernel_rfl) (by kernel_rfl) (by kernel_rfl) (fun _ _ _ h => h) (Or.inl ⟨by rfl, fun W hW => by clear hW; go_simp⟩) H1_.out ?_
              try simp only [Act.put, List.getElem_toArray, List.getElem_cons_succ, List.getElem_cons_zero, List.setIfInBounds_toArray, List.set_cons_zero, List.set_cons_succ]
              refine wpAnyH_take (i := 17) (v := .int .u64 (et : Nat)) rfl (by kernel_rfl) (by kernel_rfl) (by kernel_rfl) (fun _ _ _ h => h) (Or.inl ⟨by rfl, fun W hW => by have hc := hW.q3; clear hW; go_simp⟩) H1_.out ?_
              try simp only [Act.put, List.getElem_toArray, List.getElem_cons_succ, List.getElem_cons_zero, List.setIfInBounds_toArray, List.set_cons_zero, List.set_cons_succ]
              refine wpAnyH_ready (rs := [15]) (by kernel_rfl) (by simp) ?_
              refine AllReadyH.cons rfl (fun K hK => ?_) AllReadyH.nil
              go_simp
              go_at_call 14
              refine (SM2.out _ H1_.out).mono ?_
              rintro e V2_ ⟨rfl, hb2_⟩
              have H2_ := Lib.hid (H1_.out.call hb2_)
              clear hb2_
              refine hK.out _ _ H2_.out (fun _ => ?_)
              clear hK K
              try simp only [Act.put, List.getElem_toArray, List.getElem_cons_succ, List.getElem_cons_zero, List.setIfInBounds_toArray, List.set_cons_zero, List.set_cons_succ]
              refine wpAnyH_take (i := 18) (v := .bool false) rfl (by kernel_rfl) (by kernel_rfl) (by kernel_rfl) (fun _ _ _ h => h) (Or.inl ⟨by rfl, fun W hW => by clear hW; go_simp⟩) H2_.out ?_
              try simp only [Act.put, List.getElem_toArray, List.getElem_cons_succ, List.getElem_cons_zero, List.setIfInBounds_toArray, List.set_cons_zero, List.set_cons_succ]
              refine wpAnyH_take (i := 19) (v := .bool false) rfl (by kernel_rfl) (by kernel_rfl) (by kernel_rfl) (fun _ _ _ h => h) (Or.inl ⟨by rfl, fun W hW => by clear hW; go_simp⟩) H2_.out ?_
              try simp only [Act.put, List.getElem_toArray, List.getElem_cons_succ, List.getElem_cons_zero, List.setIfInBounds_toArray, List.set_cons_zero, List.set_cons_succ]
              refine wpAnyH_take (i := 20) (v := .bool false) rfl (by kernel_rfl) (by kernel_rfl) (by kernel_rfl) (fun _ _ _ h => h) (Or.inl ⟨by rfl, fun W hW => by clear hW; go_simp⟩) H2_.out ?_
              try simp only [Act.put, List.getElem_toArray, List.getElem_cons_succ, List.getElem_cons_zero, List.setIfInBounds_toArray, List.set_cons_zero, List.set_cons_succ]
              refine wpAnyH_done (by kernel_rfl) ?_ _
              have hq := H2_.out
              clear H0
              go_wp2
              go_roundw
              case rel => exact ⟨j + 1, by omega, by go_num, hq.r⟩
              case measure => simp [intOf]; omega
            · clear SM2
              have hkb : (((ek : Nat) : Int) == 2) = false := by simp; omega
              have hkp : (((ek : Nat) : Int) = 2) = False := eq_false (by omega)
              have hkn : (ek = 2) = False := eq_false h2
              go_wp2
              have H0 := Lib.hid HR.out.drew
              refine wp_region_held_drew (S := fun W => EvSt w key gz cs2 wr.heap.size (ek : Nat) (et : Nat) (.slice A1 exs.length c1) (.slice A2 eys.length c2) W) (by kernel_rfl) H0.out (fun _ => ?_)
              generalize World.drew _ = V0 at *
              refine wpAnyH_take (i := 0) (v := .agg (vals key).toArray) rfl (by kernel_rfl) (by kernel_rfl) (by kernel_rfl) (fun _ _ _ h => h) (yieldsIf_load_mid (by rfl) 23 _ rfl w.heap.size 0 rfl (vals key) _ (fun W hW => whole_range hW.kbl HK.out.1) Try.underlying23 rfl SZ.out) H0.out ?_
              try simp only [Act.put, List.getElem_toArray, List.getElem_cons_succ, List.getElem_cons_zero, List.setIfInBounds_toArray, List.set_cons_zero, List.set_cons_succ]
              refine wpAnyH_take (i := 1) (v := .pointer (some ⟨wr.heap.size, 1, none⟩)) rfl (by kernel_rfl) (by kernel_rfl) (by kernel_rfl) (fun _ _ _ h => h) (Or.inl ⟨by rfl, fun W hW => by clear hW; go_simp⟩) H0.out ?_
              try simp only [Act.put, List.getElem_toArray, List.getElem_cons_succ, List.getElem_cons_zero, List.setIfInBounds_toArray, List.set_cons_zero, List.set_cons_succ]
              refine wpAnyH_take (i := 2) (v := .slice A1 exs.length c1) rfl (by kernel_rfl) (by kernel_rfl) (by kernel_rfl) (fun _ _ _ h => h) (Or.inl ⟨by rfl, fun W hW => by have hc := hW.q1; clear hW; go_simp⟩) H0.out ?_
              try simp only [Act.put, List.getElem_toArray, List.getElem_cons_succ, List.getElem_cons_zero, List.setIfInBounds_toArray, List.set_cons_zero, List.set_cons_succ]
              refine wpAnyH_take (i := 4) (v := .pointer (some ⟨wr.heap.size, 3, none⟩)) rfl (by kernel_rfl) (by kernel_rfl) (by kernel_rfl) (fun _ _ _ h => h) (Or.inl ⟨by rfl, fun W hW => by clear hW; go_simp⟩) H0.out ?_
              try simp only [Act.put, List.getElem_toArray, List.getElem_cons_succ, List.getElem_cons_zero, List.setIfInBounds_toArray, List.set_cons_zero, List.set_cons_succ]
              refine wpAnyH_take (i := 5) (v := .int .u64 (et : Nat)) rfl (by kernel_rfl) (by kernel_rfl) (by kernel_rfl) (fun _ _ _ h => h) (Or.inl ⟨by rfl, fun W hW => by have hc := hW.q3; clear hW; go_simp⟩) H0.out ?_
              try simp only [Act.put, List.getElem_toArray, List.getElem_cons_succ, List.getElem_cons_zero, List.setIfInBounds_toArray, List.set_cons_zero, List.set_cons_succ]
              refine wpAnyH_ready (rs := [3]) (by kernel_rfl) (by simp) ?_
              refine AllReadyH.cons rfl (fun K hK => ?_) AllReadyH.nil
              go_simp
              go_at_call 14
              refine (SM1.out _ H0.out).mono ?_
              rintro e V1_ ⟨rfl, hb1_⟩
              have H1_ := Lib.hid (H0.out.call hb1_)
              clear hb1_
              refine hK.out _ _ H1_.out (fun _ => ?_)
              clear hK K
              try simp only [Act.put, List.getElem_toArray, List.getElem_cons_succ, List.getElem_cons_zero, List.setIfInBounds_toArray, List.set_cons_zero, List.set_cons_succ]
              refine wpAnyH_take (i := 6) (v := .bool false) rfl (by kernel_rfl) (by kernel_rfl) (by kernel_rfl) (fun _ _ _ h => h) (Or.inl ⟨by rfl, fun W hW => by clear hW; go_simp⟩) H1_.out ?_
              try simp only [Act.put, List.getElem_toArray, List.getElem_cons_succ, List.getElem_cons_zero, List.setIfInBounds_toArray, List.set_cons_zero, List.set_cons_succ]
              refine wpAnyH_take (i := 7) (v := .bool false) rfl (by kernel_rfl) (by kernel_rfl) (by kernel_rfl) (fun _ _ _ h => h) (Or.inl ⟨by rfl, fun W hW => by clear hW; go_simp⟩) H1_.out ?_
              try simp only [Act.put, List.getElem_toArray, List.getElem_cons_succ, List.getElem_cons_zero, List.setIfInBounds_toArray, List.set_cons_zero, List.set_cons_succ]
              refine wpAnyH_take (i := 8) (v := .pointer (some ⟨wr.heap.size, 0, none⟩)) rfl (by kernel_rfl) (by kernel_rfl) (by kernel_rfl) (fun _ _ _ h => h) (Or.inl ⟨by rfl, fun W hW => by clear hW; go_simp⟩) H1_.out ?_
              try simp only [Act.put, List.getElem_toArray, List.getElem_cons_succ, List.getElem_cons_zero, List.setIfInBounds_toArray, List.set_cons_zero, List.set_cons_succ]
              refine wpAnyH_take (i := 9) (v := .int .i64 (ek : Nat)) rfl (by kernel_rfl) (by kernel_rfl) (by kernel_rfl) (fun _ _ _ h => h) (Or.inl ⟨by rfl, fun W hW => by have hc := hW.q0; clear hW; go_simp⟩) H1_.out ?_
              try simp only [Act.put, List.getElem_toArray, List.getElem_cons_succ, List.getElem_cons_zero, List.setIfInBounds_toArray, List.set_cons_zero, List.set_cons_succ]
              refine wpAnyH_take (i := 10) (v := .bool false) rfl (by kernel_rfl) (by kernel_rfl) (by kernel_rfl) (fun _ _ _ h => h) (Or.inl ⟨by rfl, fun W hW => by clear hW; go_simp⟩) H1_.out ?_
              try simp only [Act.put, List.getElem_toArray, List.getElem_cons_succ, List.getElem_cons_zero, List.setIfInBounds_toArray, List.set_cons_zero, List.set_cons_succ]
              refine wpAnyH_take (i := 11) (v := .bool false) rfl (by kernel_rfl) (by kernel_rfl) (by kernel_rfl) (fun _ _ _ h => h) (Or.inl ⟨by rfl, fun W hW => by clear hW; go_simp⟩) H1_.out ?_
              try simp only [Act.put, List.getElem_toArray, List.getElem_cons_succ, List.getElem_cons_zero, List.setIfInBounds_toArray, List.set_cons_zero, List.set_cons_succ]
              refine wpAnyH_take (i := 12) (v := undef) rfl (by kernel_rfl) (by kernel_rfl) (by kernel_rfl) (fun _ _ _ h => h) (Or.inr ⟨by rfl, rfl⟩) H1_.out ?_
              try simp only [Act.put, List.getElem_toArray, List.getElem_cons_succ, List.getElem_cons_zero, List.setIfInBounds_toArray, List.set_cons_zero, List.set_cons_succ]
              refine wpAnyH_take (i := 13) (v := undef) rfl (by kernel_rfl) (by kernel_rfl) (by kernel_rfl) (fun _ _ _ h => h) (Or.inr ⟨by rfl, rfl⟩) H1_.out ?_
              try simp only [Act.put, List.getElem_toArray, List.getElem_cons_succ, List.getElem_cons_zero, List.setIfInBounds_toArray, List.set_cons_zero, List.set_cons_succ]
              refine wpAnyH_take (i := 14) (v := undef) rfl (by kernel_rfl) (by kernel_rfl) (by kernel_rfl) (fun _ _ _ h => h) (Or.inr ⟨by rfl, rfl⟩) H1_.out ?_
              try simp only [Act.put, List.getElem_toArray, List.getElem_cons_succ, List.getElem_cons_zero, List.setIfInBounds_toArray, List.set_cons_zero, List.set_cons_succ]
              refine wpAnyH_take (i := 15) (v := undef) rfl (by kernel_rfl) (by kernel_rfl) (by kernel_rfl) (fun _ _ _ h => h) (Or.inr ⟨by rfl, rfl⟩) H1_.out ?_
              try simp only [Act.put, List.getElem_toArray, List.getElem_cons_succ, List.getElem_cons_zero, List.setIfInBounds_toArray, List.set_cons_zero, List.set_cons_succ]
              refine wpAnyH_take (i := 16) (v := undef) rfl (by kernel_rfl) (by kernel_rfl) (by kernel_rfl) (fun _ _ _ h => h) (Or.inr ⟨by rfl, rfl⟩) H1_.out ?_
              try simp only [Act.put, List.getElem_toArray, List.getElem_cons_succ, List.getElem_cons_zero, List.setIfInBounds_toArray, List.set_cons_zero, List.set_cons_succ]
              refine wpAnyH_take (i := 17) (v := undef) rfl (by kernel_rfl) (by kernel_rfl) (by kernel_rfl) (fun _ _ _ h => h) (Or.inr ⟨by rfl, rfl⟩) H1_.out ?_
              try simp only [Act.put, List.getElem_toArray, List.getElem_cons_succ, List.getElem_cons_zero, List.setIfInBounds_toArray, List.set_cons_zero, List.set_cons_succ]
              refine wpAnyH_take (i := 18) (v := undef) rfl (by kernel_rfl) (by kernel_rfl) (by kernel_rfl) (fun _ _ _ h => h) (Or.inr ⟨by rfl, rfl⟩) H1_.out ?_
              try simp only [Act.put, List.getElem_toArray, List.getElem_cons_succ, List.getElem_cons_zero, List.setIfInBounds_toArray, List.set_cons_zero, List.set_cons_succ]
              refine wpAnyH_take (i := 19) (v := .bool false) rfl (by kernel_rfl) (by kernel_rfl) (by kernel_rfl) (fun _ _ _ h => h) (Or.inl ⟨by rfl, fun W hW => by clear hW; go_simp⟩) H1_.out ?_
              try simp only [Act.put, List.getElem_toArray, List.getElem_cons_succ, List.getElem_cons_zero, List.setIfInBounds_toArray, List.set_cons_zero, List.set_cons_succ]
              refine wpAnyH_take (i := 20) (v := .bool false) rfl (by kernel_rfl) (by kernel_rfl) (by kernel_rfl) (fun _ _ _ h => h) (Or.inl ⟨by rfl, fun W hW => by clear hW; go_simp⟩) H1_.out ?_
              try simp only [Act.put, List.getElem_toArray, List.getElem_cons_succ, List.getElem_cons_zero, List.setIfInBounds_toArray, List.set_cons_zero, List.set_cons_succ]
              refine wpAnyH_done (by kernel_rfl) ?_ _
              have hq := H1_.out
              clear H0
              go_wp2
              go_roundw
              case rel => exact ⟨j + 1, by omega, by go_num, hq.r⟩
              case measure => simp [intOf]; omega
          · have g2 : ((j : Int) < (L : Int)) = False := eq_false (by omega)
            go_wp2
            go_ret
            exact ⟨rfl, hR.bel⟩
  · go_ret
    exact ⟨rfl, B2.out⟩
end Go.Proofs.Ytpibmccofjpelaa
