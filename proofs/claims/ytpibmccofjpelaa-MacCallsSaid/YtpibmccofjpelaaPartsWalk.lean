/- The law SipParts returns true whatever comes in, and nothing that was there is changed. -/
import Derived.Test.YtpibmccofjpelaaSameWalk
namespace Go.Proofs.Ytpibmccofjpelaa
open Go.RowKit
set_option linter.unusedVariables false
set_option linter.unusedSimpArgs false

/-- A row of rows of bytes that came in. -/
def RowsIn (w : World) (B : Nat) (A : Option Addr) (n : Nat) (xss : List (List Nat)) : Prop :=
  xss.length = n ∧ (A = none → n = 0) ∧ ∀ a, A = some a → 0 < n → a.spot = none ∧ a.block < B ∧ ∀ j, j < n → ∃ A' m c', w.cell? ⟨a.block, a.off + j, none⟩ = some (.slice A' m c') ∧ Row w B A' m c' (xss.getD j [])
theorem RowsIn.below {w w' : World} {B n : Nat} {A : Option Addr} {xss : List (List Nat)} (h : RowsIn w B A n xss) (hb : Below B w w') : RowsIn w' B A n xss := by
  refine ⟨h.1, h.2.1, fun a ha hn => ?_⟩
  obtain ⟨h1, h2, h3⟩ := h.2.2 a ha hn
  refine ⟨h1, h2, fun j hj => ?_⟩
  obtain ⟨A', m, c', e, r⟩ := h3 j hj
  exact ⟨A', m, c', (hb.cell (p := ⟨a.block, a.off + j, none⟩) h2).trans e, r.below hb⟩
theorem RowsIn.at_ {w : World} {B n : Nat} {A : Option Addr} {xss : List (List Nat)} (h : RowsIn w B A n xss) (j : Nat) (hj : j < n) :
    ∃ b off A' m c', A = some ⟨b, off, none⟩ ∧ w.cell? ⟨b, off + j, none⟩ = some (.slice A' m c') ∧ Row w B A' m c' (xss.getD j []) := by
  cases A with
  | none => have := h.2.1 rfl; omega
  | some a =>
    obtain ⟨h1, h2, h3⟩ := h.2.2 a rfl (by omega)
    obtain ⟨b, off, spot⟩ := a
    simp only at h1
    subst h1
    obtain ⟨A', m, c', e, r⟩ := h3 j hj
    exact ⟨b, off, A', m, c', rfl, e, r⟩
def cat (xss : List (List Nat)) (j : Nat) : List Nat := (xss.take j).flatten
theorem cat_succ (xss : List (List Nat)) (j : Nat) (hj : j < xss.length) : cat xss (j + 1) = cat xss j ++ xss.getD j [] := by
  unfold cat
  rw [List.take_succ_eq_append_getElem hj, List.flatten_append, List.getD_eq_getElem?_getD, List.getElem?_eq_getElem hj]
  simp
/-- What the loop over parts keeps. -/
def PaRel (w : World) (key : List Nat) (g base : Nat) (xss : List (List Nat)) (n : Nat) (s i : Value) (wr : World) : Prop :=
  ∃ j A m c, j ≤ n ∧ i = .int .i64 (j : Nat) ∧ s = .slice A m c ∧ Own wr base A m c (cat xss j) ∧ m ≤ 200 * j ∧ base ≤ wr.heap.size ∧ HSt w key none 0 0 [] g (hputs (hstart key) (cat xss j)) wr
/-- What the loop keeps that spoils the bytes that were handed over. -/
def PsRel (w : World) (key : List Nat) (g : Nat) (h : Hs) (base base2 : Nat) (A : Option Addr) (m c : Nat) (all : List Nat) (A2 : Option Addr) (k c2 : Nat) (i : Value) (wr : World) : Prop :=
  ∃ j ys, j ≤ k ∧ i = .int .i64 (j : Nat) ∧ Own wr base2 A2 k c2 ys ∧ Own wr base A m c all ∧ base2 ≤ wr.heap.size ∧ HSt w key none 0 0 [] g h wr
/-- What is kept while numbers are asked for. -/
structure QSt (w : World) (key : List Nat) (g : Nat) (h : Hs) (base : Nat) (A : Option Addr) (m c : Nat) (all : List Nat) (V : World) : Prop where
  hs : HSt w key none 0 0 [] g h V
  ho : Own V base A m c all
  hb : base ≤ V.heap.size
theorem QSt.call {w : World} {key : List Nat} {g : Nat} {h : Hs} {base : Nat} {A : Option Addr} {m c : Nat} {all : List Nat} {V V2 : World} (H : QSt w key g h base A m c all V) (hb : Below V.heap.size V V2) : QSt w key g h base A m c all V2 :=
  ⟨H.hs.call hb, H.ho.below hb, Nat.le_trans H.hb hb.size⟩
theorem QSt.drew {w : World} {key : List Nat} {g : Nat} {h : Hs} {base : Nat} {A : Option Addr} {m c : Nat} {all : List Nat} {V : World} (H : QSt w key g h base A m c all V) : QSt w key g h base A m c all V.drew := ⟨H.hs.drew, H.ho.drew, H.hb⟩
theorem Own.keptOff {w w' : World} {base n c g : Nat} {A : Option Addr} {xs : List Nat} (h : Own w base A n c xs) (hg : w.grownBy w' (some g)) (hne : ∀ x, (Value.slice A n c).ownBlock = some x → x ≠ g) : Own w' base A n c xs :=
  h.kept hg (by
    cases hb : (Value.slice A n c).ownBlock with
    | none => exact .inl rfl
    | some x => exact .inr (fun e => hne x hb (by injection e)))
attribute [local irreducible] hsum hputs hstart ssum rsum cat

set_option maxRecDepth 20000 in
set_option maxHeartbeats 4000000 in
theorem parts_walk (key : List Nat) (A : Option Addr) (n cap : Nat) (xss : List (List Nat)) (lk : key.length = 16) (bk : ∀ x ∈ key, x < 256) (w : World) (hx : RowsIn w w.heap.size A n xss) (hmax : n ≤ 9223372036854775807) :
    Calls Try.prog 4 #[.agg (arrV key), .slice A n cap] w fun e w' => e = .returned (.bool true) ∧ Below w.heap.size w w' := by
  have HX := Lib.hid hx
  have B0 := Lib.hid ((Below.refl w.heap.size w).alloc (Nat.le_refl _) (Obj.cells (arrV key) 23))
  have K0 := Lib.hid (Blk.new w 23 key)
  have SP := Lib.hid (fun W => speaks_any W)
  have LK := Lib.hid lk
  have BK := Lib.hid bk
  have SZ := Lib.hid (sz16 key lk)
  by_cases hn : 60 < n
  · go_enter Try.func4, Try.ntmps4
    go_wp2_with (go_at_call 12; refine (SP.out _).mono ?_; rintro e X1 ⟨rfl, hb1⟩; have S1 := Lib.hid (B0.out.trans (hb1.mono B0.out.size)); clear hb1)
    go_ret
    exact ⟨rfl, S1.out⟩
  · have NW : Hid (∀ W, Calls Try.prog 17 #[.agg (vals key).toArray] W fun e w' => ∃ g, e = .returned (.pointer (some ⟨g, 0, none⟩)) ∧ W.heap.size < g ∧ HBlk w' g (hstart key) ∧ Below W.heap.size W w') := fun W => new_any key lk bk W
    have OK0 := Lib.hid (hstart_ok key lk bk)
    clear lk bk hx
    go_enter Try.func4, Try.ntmps4
    go_wp2_with (first
      | (go_at_call 17; refine (NW.out _).mono ?_; rintro e X2 ⟨g, rfl, hlt, hB2, hb2⟩
         have b1 := S1.out.trans (hb2.mono S1.out.size)
         have H2 : Hid (HSt w key none 0 0 [] g (hstart key) X2) := ⟨K1.out.below hb2 K1.out.lt, Row.nil_ _ _, hB2, Nat.lt_of_le_of_lt S1.out.size hlt, b1⟩
         clear hB2 hb2 hlt b1)
      | (refine wpList_load_mid rfl 23 _ rfl w.heap.size 0 rfl (vals key) _ (whole_range K1.out LK.out) Try.underlying23 rfl SZ.out ?_)
      | (go_at_call 12; refine (SP.out _).mono ?_; rintro e X1 ⟨rfl, hb1⟩; have S1 := Lib.hid (B0.out.trans (hb1.mono B0.out.size)); have K1 := Lib.hid (K0.out.below hb1 K0.out.lt); clear hb1)
      | fail)
    have GB := Lib.hid H2.out.hh.lt
    have OW := Lib.hid (Own.empty (w := X2) (Nat.le_refl _))
    have H3 := Lib.hid (H2.out.alloc (Obj.cells #[] 5))
    have C0 : Hid (cat xss 0 = []) := by unfold cat; exact rfl
    have P0 : Hid (hputs (hstart key) [] = hstart key) := by unfold hputs; exact rfl
    have SB : Hid (X2.heap.size ≤ (X2.alloc (Obj.cells #[] 5)).heap.size) := by simp [Hid]
    clear H2 K1 S1 NW
    generalize X2.alloc (Obj.cells #[] 5) = X3 at *
    generalize X2.heap.size = base at *
    go_loopw [6, 21] (PaRel w key g base xss n) (fun _ i _ => n - (intOf i).toNat)
    case atStart => exact ⟨0, _, 0, 0, Nat.zero_le _, rfl, rfl, by rw [C0.out]; exact OW.out, Nat.zero_le _, SB.out, by rw [C0.out, P0.out]; exact H3.out⟩
    case round =>
      clear OW H3 C0 P0 SB
      obtain ⟨j, Aa, m, ca, hj, rfl, rfl, hO, hm, hbs, hS⟩ := hrel
      have HO := Lib.hid hO
      have HS := Lib.hid hS
      have HBS := Lib.hid hbs
      have OKj := Lib.hid (hputs_ok OK0.out (cat xss j) HO.out.2.1)
      clear hO hS hbs
      by_cases hlt : j < n
      · obtain ⟨b1, o1, Ap, mp, cp, rfl, hcell, hrow⟩ := (HX.out.below HS.out.hw).at_ j hlt
        have HR := Lib.hid hrow
        have ECS := Lib.hid (cat_succ xss j (by rw [HX.out.1]; exact hlt))
        generalize xss.getD j [] = ps at *
        have hpm := hrow.max
        clear hrow
        by_cases h200 : 200 < mp
        · go_wp2
          go_ret
          exact ⟨rfl, HS.out.hw⟩
        · have OKn := Lib.hid (hputs_ok OKj.out ps HR.out.bytes)
          have EHP := Lib.hid (hputs_append (hstart key) (cat xss j) ps)
          have LP := Lib.hid HR.out.len
          go_wp2_with (first
            | (at_builtin; refine wpList_append_row _ rfl _ _ rfl wr.heap.size (some ⟨wr.heap.size, 0, none⟩) 0 0 [] rfl (Own.empty (Nat.le_refl _)) w.heap.size Ap mp cp ps rfl (HR.out.alloc HS.out.hw.size _) (by omega) (by simp) ?_; intro A3 c3 w3 hO3 hg3 hbl3
               rw [Nat.zero_add, List.nil_append] at hO3
               have HO3 := Lib.hid hO3
               have H3 := Lib.hid ((HS.out.alloc (Obj.cells #[] 5)).grown (base := wr.heap.size) hg3 (fun x hx => by injection hx with hx; simp only at hx; omega) HS.out.hh.lt)
               have HA3 := Lib.hid ((HO.out.alloc (Obj.cells #[] 5)).keptOff hg3 (fun x hx => by have := (HO.out.2.2.lt x hx).2; show x ≠ wr.heap.size; omega))
               have Z3 := Lib.hid (Nat.le_trans (show wr.heap.size ≤ (wr.alloc (Obj.cells #[] 5)).heap.size by simp) hg3.size)
               rw [Nat.zero_add]
               clear hO3 hg3 hbl3)
            | (go_at_call 18; have _ := c3; refine (write_any g _ A3 mp c3 _ _ H3.out.hh OKj.out HO3.out.row (HO3.out.off HS.out.hh.lt)).mono ?_; rintro e X4 ⟨rfl, hB4, hg4⟩
               have H4 := Lib.hid (H3.out.wrote hB4 hg4)
               have HO4 := Lib.hid (HO3.out.keptOff hg4 (fun x hx => by have := (HO3.out.2.2.lt x hx).1; have := HS.out.hh.lt; omega))
               have HA4 := Lib.hid (HA3.out.keptOff hg4 (fun x hx => by have := (HA3.out.2.2.lt x hx).1; have := GB.out; omega))
               have Z4 := Lib.hid (Nat.le_trans Z3.out hg4.size)
               clear hB4 hg4)
            | fail)
          have GB2 := Lib.hid HS.out.hh.lt
          have SB2 := Lib.hid HO.out.2.2.lt
          have HRw : Hid (∀ V, Below w.heap.size w V → Row V w.heap.size Ap mp cp ps) := fun V hV => HR.out.keep fun p hp => (hV.cell hp).trans (HS.out.hw.cell hp).symm
          have ZB := Lib.hid HBS.out
          clear HO3 H3 HA3 Z3 HS HR hcell HO HBS OKj
          generalize wr.heap.size = base2 at *
          go_loopw [36] (PsRel w key g (hputs (hputs (hstart key) (cat xss j)) ps) base base2 Aa m ca (cat xss j) A3 mp c3) (fun i _ => mp - (intOf i).toNat)
          case atStart => exact ⟨0, _, Nat.zero_le _, rfl, HO4.out, HA4.out, Z4.out, H4.out⟩
          case round =>
            clear HO4 HA4 Z4 H4
            obtain ⟨t, ys, ht, rfl, hO, hA, hZ, hS⟩ := hrel
            have HO := Lib.hid hO
            have HA := Lib.hid hA
            have HZ := Lib.hid hZ
            have HS := Lib.hid hS
            clear hO hA hZ hS
            by_cases htl : t < mp
            · obtain ⟨gg, rfl⟩ := HO.out.head (by omega)
              have qj := HO.out.cellAt t htl
              have pj := HO.out.2.2.frozenAt t
              have hbase := (HO.out.2.2.lt gg rfl).1
              go_wp2
              go_roundw
              case rel => exact ⟨t + 1, ys.set t 238, htl, by go_num, HO.out.set t 238 (by omega), HA.out.keptOff (grown_set (World.grownBy.refl _ _) (p := ⟨gg, t, none⟩) rfl _) (fun x hx => by have := (SB2.out x hx).2; show x ≠ gg; omega), (by simpa using HZ.out), HS.out.set (base := base2) (p := ⟨gg, t, none⟩) hbase GB2.out _⟩
              case measure => simp [intOf]; omega
            · go_wp2_with (first
                | (at_builtin; refine wpList_append_row _ rfl _ _ rfl base Aa m ca (cat xss j) rfl HA.out w.heap.size Ap mp cp ps rfl (HRw.out _ HS.out.hw) (by omega) (Nat.le_trans ZB.out HZ.out) ?_; intro A6 c6 w6 hO6 hg6 hbl6
                   have HO6 := Lib.hid hO6
                   have H6 := Lib.hid (HS.out.grown (base := base) hg6 (fun x hx => (HA.out.2.2.lt x hx).1) GB.out)
                   have Z6 := Lib.hid (Nat.le_trans (Nat.le_trans ZB.out HZ.out) hg6.size)
                   clear hO6 hg6 hbl6)
                | fail)
              have EA : Hid (hsum (hputs (hputs (hstart key) (cat xss j)) ps) = ssum key (cat xss j ++ ps)) := by rw [← EHP.out]; unfold ssum; exact rfl
              have EB := Lib.hid (ssum_eq key (cat xss j ++ ps) LK.out BK.out HO6.out.2.1)
              have SS : Hid (∀ V, QSt w key g (hputs (hputs (hstart key) (cat xss j)) ps) base A6 (m + mp) c6 (cat xss j ++ ps) V → Calls Try.prog 19 #[.pointer (some ⟨g, 0, none⟩)] V fun e w' => e = .returned (.int .u64 (ssum key (cat xss j ++ ps) : Nat)) ∧ Below V.heap.size V w') := fun V hV => by rw [← EA.out]; exact hsum_any g _ V hV.hs.hh OKn.out
              have RR : Hid (∀ V, QSt w key g (hputs (hputs (hstart key) (cat xss j)) ps) base A6 (m + mp) c6 (cat xss j ++ ps) V → Calls Try.prog 14 #[.agg (vals key).toArray, .slice A6 (m + mp) c6] V fun e w' => e = .returned (.int .u64 (ssum key (cat xss j ++ ps) : Nat)) ∧ Below V.heap.size V w') := fun V hV => by rw [EB.out]; exact refSum_any key A6 (m + mp) c6 _ V LK.out BK.out hV.ho.row (by omega)
              have H0 : Hid (QSt w key g (hputs (hputs (hstart key) (cat xss j)) ps) base A6 (m + mp) c6 (cat xss j ++ ps) w6.drew) := QSt.drew ⟨H6.out, HO6.out, Z6.out⟩
              clear EA EB HO6 H6 Z6 HO HA HZ HS
              generalize ssum key (cat xss j ++ ps) = N at *
              have f1 : ((N : Int) != (N : Int)) = false := by simp
              refine wp_region_held_drew (S := fun W => QSt w key g (hputs (hputs (hstart key) (cat xss j)) ps) base A6 (m + mp) c6 (cat xss j ++ ps) W) (by kernel_rfl) H0.out (fun _ => ?_)
              generalize w6.drew = V0 at *
              refine wpAnyH_take (i := 0) (v := .pointer (some ⟨g, 0, none⟩)) rfl (by kernel_rfl) (by kernel_rfl) (by kernel_rfl) (fun _ _ _ h => h) (Or.inl ⟨by rfl, fun W hW => by clear hW; go_simp⟩) H0.out ?_
              try simp only [Act.put, List.getElem_toArray, List.getElem_cons_succ, List.getElem_cons_zero, List.setIfInBounds_toArray, List.set_cons_zero, List.set_cons_succ]
              refine wpAnyH_take (i := 2) rfl (by kernel_rfl) (by kernel_rfl) (by kernel_rfl) (fun _ _ _ h => h) (yieldsIf_load_mid (by rfl) _ _ rfl _ _ rfl _ _ (fun W hW => whole_range hW.hs.hk LK.out) Try.underlying23 rfl (sz16 key LK.out)) H0.out ?_
              try simp only [Act.put, List.getElem_toArray, List.getElem_cons_succ, List.getElem_cons_zero, List.setIfInBounds_toArray, List.set_cons_zero, List.set_cons_succ]
              refine wpAnyH_take (i := 3) (v := .slice A6 (m + mp) c6) rfl (by kernel_rfl) (by kernel_rfl) (by kernel_rfl) (fun _ _ _ h => h) (Or.inl ⟨by rfl, fun W hW => by clear hW; go_simp⟩) H0.out ?_
              try simp only [Act.put, List.getElem_toArray, List.getElem_cons_succ, List.getElem_cons_zero, List.setIfInBounds_toArray, List.set_cons_zero, List.set_cons_succ]
              refine wpAnyH_ready (rs := [1]) (by kernel_rfl) (by simp) ?_
              refine AllReadyH.cons rfl (fun K hK => ?_) AllReadyH.nil
              go_simp
              go_at_call 19
              refine (SS.out _ H0.out).mono ?_
              rintro e V_2 ⟨rfl, hb_1⟩
              have H_3 := Lib.hid (H0.out.call hb_1)
              clear hb_1
              refine hK.out _ _ H_3.out (fun _ => ?_)
              clear hK K
              try simp only [Act.put, List.getElem_toArray, List.getElem_cons_succ, List.getElem_cons_zero, List.setIfInBounds_toArray, List.set_cons_zero, List.set_cons_succ]
              refine wpAnyH_ready (rs := [4]) (by kernel_rfl) (by simp) ?_
              refine AllReadyH.cons rfl (fun K hK => ?_) AllReadyH.nil
              go_simp
              go_at_call 14
              refine (RR.out _ H_3.out).mono ?_
              rintro e V_5 ⟨rfl, hb_4⟩
              have H_6 := Lib.hid (H_3.out.call hb_4)
              clear hb_4
              refine hK.out _ _ H_6.out (fun _ => ?_)
              clear hK K
              try simp only [Act.put, List.getElem_toArray, List.getElem_cons_succ, List.getElem_cons_zero, List.setIfInBounds_toArray, List.set_cons_zero, List.set_cons_succ]
              refine wpAnyH_take (i := 5) (v := .bool false) rfl (by kernel_rfl) (by kernel_rfl) (by kernel_rfl) (fun _ _ _ h => h) (Or.inl ⟨by rfl, fun W hW => by clear hW; go_simp⟩) H_6.out ?_
              try simp only [Act.put, List.getElem_toArray, List.getElem_cons_succ, List.getElem_cons_zero, List.setIfInBounds_toArray, List.set_cons_zero, List.set_cons_succ]
              refine wpAnyH_done (by kernel_rfl) ?_ _
              clear f1
              go_wp2
              go_roundw
              case rel => exact ⟨j + 1, A6, m + mp, c6, hlt, by go_num, rfl, by rw [ECS.out]; exact H_6.out.ho, by omega, H_6.out.hb, by rw [ECS.out, EHP.out]; exact H_6.out.hs⟩
              case measure => simp [intOf]; omega
      · have SS : Hid (∀ V, QSt w key g (hputs (hstart key) (cat xss j)) base Aa m ca (cat xss j) V → Calls Try.prog 19 #[.pointer (some ⟨g, 0, none⟩)] V fun e w' => e = .returned (.int .u64 (ssum key (cat xss j) : Nat)) ∧ Below V.heap.size V w') := fun V hV => by
          have := hsum_any g _ V hV.hs.hh OKj.out
          unfold ssum
          exact this
        have RR : Hid (∀ V, QSt w key g (hputs (hstart key) (cat xss j)) base Aa m ca (cat xss j) V → Calls Try.prog 13 #[.agg (vals key).toArray, .slice Aa m ca] V fun e w' => e = .returned (.int .u64 (ssum key (cat xss j) : Nat)) ∧ Below V.heap.size V w') := fun V hV => sipSum_any key Aa m ca _ V LK.out BK.out hV.ho.row
        have H0 : Hid (QSt w key g (hputs (hstart key) (cat xss j)) base Aa m ca (cat xss j) wr.drew) := QSt.drew ⟨HS.out, HO.out, HBS.out⟩
        go_wp2
        clear HO HS HBS
        generalize ssum key (cat xss j) = N at *
        have f1 : ((N : Int) == (N : Int)) = true := by simp
        refine wp_region_held_drew (S := fun W => QSt w key g (hputs (hstart key) (cat xss j)) base Aa m ca (cat xss j) W) (by kernel_rfl) H0.out (fun _ => ?_)
        generalize wr.drew = V0 at *
        refine wpAnyH_take (i := 0) (v := .pointer (some ⟨g, 0, none⟩)) rfl (by kernel_rfl) (by kernel_rfl) (by kernel_rfl) (fun _ _ _ h => h) (Or.inl ⟨by rfl, fun W hW => by clear hW; go_simp⟩) H0.out ?_
        try simp only [Act.put, List.getElem_toArray, List.getElem_cons_succ, List.getElem_cons_zero, List.setIfInBounds_toArray, List.set_cons_zero, List.set_cons_succ]
        refine wpAnyH_take (i := 2) rfl (by kernel_rfl) (by kernel_rfl) (by kernel_rfl) (fun _ _ _ h => h) (yieldsIf_load_mid (by rfl) _ _ rfl _ _ rfl _ _ (fun W hW => whole_range hW.hs.hk LK.out) Try.underlying23 rfl (sz16 key LK.out)) H0.out ?_
        try simp only [Act.put, List.getElem_toArray, List.getElem_cons_succ, List.getElem_cons_zero, List.setIfInBounds_toArray, List.set_cons_zero, List.set_cons_succ]
        refine wpAnyH_take (i := 3) (v := .slice Aa m ca) rfl (by kernel_rfl) (by kernel_rfl) (by kernel_rfl) (fun _ _ _ h => h) (Or.inl ⟨by rfl, fun W hW => by clear hW; go_simp⟩) H0.out ?_
        try simp only [Act.put, List.getElem_toArray, List.getElem_cons_succ, List.getElem_cons_zero, List.setIfInBounds_toArray, List.set_cons_zero, List.set_cons_succ]
        refine wpAnyH_ready (rs := [1]) (by kernel_rfl) (by simp) ?_
        refine AllReadyH.cons rfl (fun K hK => ?_) AllReadyH.nil
        go_simp
        go_at_call 19
        refine (SS.out _ H0.out).mono ?_
        rintro e V_2 ⟨rfl, hb_1⟩
        have H_3 := Lib.hid (H0.out.call hb_1)
        clear hb_1
        refine hK.out _ _ H_3.out (fun _ => ?_)
        clear hK K
        try simp only [Act.put, List.getElem_toArray, List.getElem_cons_succ, List.getElem_cons_zero, List.setIfInBounds_toArray, List.set_cons_zero, List.set_cons_succ]
        refine wpAnyH_ready (rs := [4]) (by kernel_rfl) (by simp) ?_
        refine AllReadyH.cons rfl (fun K hK => ?_) AllReadyH.nil
        go_simp
        go_at_call 13
        refine (RR.out _ H_3.out).mono ?_
        rintro e V_5 ⟨rfl, hb_4⟩
        have H_6 := Lib.hid (H_3.out.call hb_4)
        clear hb_4
        refine hK.out _ _ H_6.out (fun _ => ?_)
        clear hK K
        try simp only [Act.put, List.getElem_toArray, List.getElem_cons_succ, List.getElem_cons_zero, List.setIfInBounds_toArray, List.set_cons_zero, List.set_cons_succ]
        refine wpAnyH_take (i := 5) (v := .bool true) rfl (by kernel_rfl) (by kernel_rfl) (by kernel_rfl) (fun _ _ _ h => h) (Or.inl ⟨by rfl, fun W hW => by clear hW; go_simp⟩) H_6.out ?_
        try simp only [Act.put, List.getElem_toArray, List.getElem_cons_succ, List.getElem_cons_zero, List.setIfInBounds_toArray, List.set_cons_zero, List.set_cons_succ]
        refine wpAnyH_take (i := 6) (v := .bool true) rfl (by kernel_rfl) (by kernel_rfl) (by kernel_rfl) (fun _ _ _ h => h) (Or.inl ⟨by rfl, fun W hW => by clear hW; go_simp⟩) H_6.out ?_
        try simp only [Act.put, List.getElem_toArray, List.getElem_cons_succ, List.getElem_cons_zero, List.setIfInBounds_toArray, List.set_cons_zero, List.set_cons_succ]
        refine wpAnyH_done (by kernel_rfl) ?_ _
        go_wp2
        go_ret
        exact ⟨rfl, H_6.out.hs.hw⟩
end Go.Proofs.Ytpibmccofjpelaa
