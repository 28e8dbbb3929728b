/- The law SipSame returns true whatever comes in, and nothing that was there is changed. -/
import Derived.Test.YtpibmccofjpelaaUnlike
import Derived.Deep.RegionHeld3
import Derived.Deep.AppendLies
namespace Go.Proofs.Ytpibmccofjpelaa
open Go.RowKit
set_option linter.unusedVariables false
set_option linter.unusedSimpArgs false

theorem Own.set {w : World} {base g n c : Nat} {xs : List Nat} (h : Own w base (some ⟨g, 0, none⟩) n c xs) (j x : Nat) (hx : x < 256) : Own (w.setCell ⟨g, j, none⟩ (.int .u8 (x : Int))) base (some ⟨g, 0, none⟩) n c (xs.set j x) := by
  refine ⟨by rw [List.length_set]; exact h.1, set_bytes h.2.1 j x hx, ?_⟩
  have := h.2.2.stored j (.int .u8 (x : Int))
  have e : vals (xs.set j x) = (vals xs).set j (.int .u8 (x : Int)) := by simp [vals, List.map_set]
  rw [e]; exact this.1
theorem Own.head {w : World} {base n c : Nat} {A : Option Addr} {xs : List Nat} (h : Own w base A n c xs) (hn : 0 < n) : ∃ g, A = some ⟨g, 0, none⟩ := by
  rcases h.2.2.2 with ⟨_, h0⟩ | ⟨g, cap, cur, hv, _⟩
  · omega
  · injection hv with e; exact ⟨g, e⟩
theorem Own.off {w : World} {base n c g : Nat} {A : Option Addr} {xs : List Nat} (h : Own w base A n c xs) (hg : g < base) : ∀ a, A = some a → 0 < n → a.block ≠ g := fun a ha _ => by
  subst ha
  have := (h.2.2.lt a.block rfl).1
  omega
theorem Own.cellAt {w : World} {base g n c : Nat} {xs : List Nat} (h : Own w base (some ⟨g, 0, none⟩) n c xs) (j : Nat) (hj : j < n) : w.cell? ⟨g, j, none⟩ = some (.int .u8 ((xs.getD j 0 : Nat) : Int)) := by
  rw [h.2.2.cellAt j (by omega)]
  exact vals_getElem? xs j (by rw [h.1]; exact hj)
theorem and_mask (z : Int) : ∃ m : Nat, m < 65536 ∧ bits .and .i64 z 65535 = (m : Int) := by
  refine ⟨(BitVec.ofInt 64 z &&& BitVec.ofInt 64 65535).toNat, ?_, ?_⟩
  · rw [BitVec.toNat_and]
    exact Nat.lt_of_le_of_lt Nat.and_le_right (by decide)
  · show IntKind.i64.wrap ((BitVec.ofInt 64 z &&& BitVec.ofInt 64 65535).toNat : Int) = _
    have h : (BitVec.ofInt 64 z &&& BitVec.ofInt 64 65535).toNat < 65536 := by
      rw [BitVec.toNat_and]
      exact Nat.lt_of_le_of_lt Nat.and_le_right (by decide)
    generalize (BitVec.ofInt 64 z &&& BitVec.ofInt 64 65535).toNat = y at *
    rw [IntKind.wrap_i64]; omega

/-- The key that came in, a row of bytes that did, and a hash that the law has made. -/
structure HSt (w : World) (key : List Nat) (A : Option Addr) (n cap : Nat) (xs : List Nat) (g : Nat) (h : Hs) (V : World) : Prop where
  hk : Blk V w.heap.size 23 key
  hx : Row V w.heap.size A n cap xs
  hh : HBlk V g h
  hg : w.heap.size < g
  hw : Below w.heap.size w V
section
variable {w : World} {key : List Nat} {A : Option Addr} {n cap : Nat} {xs : List Nat} {g : Nat} {h : Hs} {V V2 : World}
theorem HSt.call (H : HSt w key A n cap xs g h V) (hb : Below V.heap.size V V2) : HSt w key A n cap xs g h V2 :=
  ⟨H.hk.below hb H.hk.lt, H.hx.below (hb.mono H.hw.size), H.hh.below hb H.hh.lt, H.hg, H.hw.trans (hb.mono H.hw.size)⟩
theorem HSt.drew (H : HSt w key A n cap xs g h V) : HSt w key A n cap xs g h V.drew := ⟨H.hk, H.hx.drew, H.hh, H.hg, below_drewN (k := 1) H.hw⟩
theorem HSt.alloc (H : HSt w key A n cap xs g h V) (o : Obj) : HSt w key A n cap xs g h (V.alloc o) := ⟨H.hk.alloc o, H.hx.alloc H.hw.size o, H.hh.alloc o, H.hg, H.hw.alloc H.hw.size o⟩
theorem HSt.row (H : HSt w key A n cap xs g h V) : Row V V.heap.size A n cap xs := H.hx.wider H.hw.size
/-- Something else is changed: a block that the law has made behind the hash. -/
theorem HSt.grown {base : Nat} {row : Option Nat} (H : HSt w key A n cap xs g h V) (hg : V.grownBy V2 row) (hr : ∀ k, row = some k → base ≤ k) (hb : g < base) : HSt w key A n cap xs g h V2 := by
  have hb1 : Below w.heap.size w V2 := H.hw.grown hg H.hw.size (fun k hk => by have := hr k hk; have := H.hg; omega)
  have hne : ∀ j, j < base → some j ≠ row := fun j hj e => by have := hr j e.symm; omega
  have := H.hg
  exact ⟨H.hk.grown hg (hne _ (by omega)), H.hx.keep fun p hp => hg.cell_far p (Nat.lt_of_lt_of_le hp H.hw.size) (hne _ (by omega)), (hg.block g H.hh.lt (hne _ hb)).trans H.hh, H.hg, hb1⟩
theorem HSt.set {base : Nat} (H : HSt w key A n cap xs g h V) {p : Addr} (hp : base ≤ p.block) (hb : g < base) (u : Value) : HSt w key A n cap xs g h (V.setCell p u) :=
  H.grown (row := some p.block) (grown_set (World.grownBy.refl V _) rfl u) (fun k hk => by injection hk with hk; omega) hb
theorem HSt.wrote (H : HSt w key A n cap xs g h V) {h' : Hs} (hh : HBlk V2 g h') (hg : V.grownBy V2 (some g)) : HSt w key A n cap xs g h' V2 := by
  have hb1 := below_of_grown H.hw hg (Nat.le_of_lt H.hg)
  have := H.hg
  have hne : ∀ j, j ≤ w.heap.size → some j ≠ some g := fun j hj e => by injection e with e; omega
  exact ⟨H.hk.grown hg (hne _ (Nat.le_refl _)), H.hx.keep fun p hp => hg.cell_far p (Nat.lt_of_lt_of_le hp H.hw.size) (hne _ (by omega)), hh, H.hg, hb1⟩
end
/-- What a loop that spoils bytes of the law's own keeps. -/
def SpRel (w : World) (key : List Nat) (A : Option Addr) (n cap : Nat) (xs : List Nat) (g : Nat) (h : Hs) (base : Nat) (A2 : Option Addr) (k c2 : Nat) (i : Value) (wr : World) : Prop :=
  ∃ j ys, j ≤ k ∧ i = .int .i64 (j : Nat) ∧ Own wr base A2 k c2 ys ∧ HSt w key A n cap xs g h wr
attribute [local irreducible] hsum hputs hstart ssum

set_option maxRecDepth 20000 in
set_option maxHeartbeats 2000000 in
theorem same_walk (key : List Nat) (A : Option Addr) (n cap : Nat) (xs : List Nat) (z : Int) (lk : key.length = 16) (bk : ∀ x ∈ key, x < 256) (w : World) (hx : Row w w.heap.size A n cap xs) :
    Calls Try.prog 6 #[.agg (arrV key), .slice A n cap, .int .i64 z] w fun e w' => e = .returned (.bool true) ∧ Below w.heap.size w w' := by
  have hmax := hx.max
  have HX := Lib.hid hx
  have B0 := Lib.hid ((Below.refl w.heap.size w).alloc (Nat.le_refl _) (Obj.cells (arrV key) 23))
  have K0 := Lib.hid (Blk.new w 23 key)
  have SP := Lib.hid (fun W => speaks_any W)
  have LK := Lib.hid lk
  have SZ := Lib.hid (sz16 key lk)
  have RL : Hid (∀ V, Row V V.heap.size A n cap xs → Calls Try.prog 13 #[.agg (vals key).toArray, .slice A n cap] V fun e w' => e = .returned (.int .u64 (ssum key xs : Nat)) ∧ Below V.heap.size V w') := fun V h => sipSum_any key A n cap xs V lk bk h
  obtain ⟨m, hm, e0⟩ := and_mask z
  by_cases hn : 2000 < n
  · go_enter Try.func6, Try.ntmps6
    go_wp2_with (go_at_call 12; refine (SP.out _).mono ?_; rintro e X1 ⟨rfl, hb1⟩; have S1 := Lib.hid (B0.out.trans (hb1.mono B0.out.size)); clear hb1)
    go_ret
    exact ⟨rfl, S1.out⟩
  · have w1 : IntKind.i64.wrap ((n : Int) + 1) = (n : Int) + 1 := IntWalk.i64_in _ (by omega)
    have w2 : ((m : Int)).tmod ((n : Int) + 1) = ((m % (n + 1) : Nat) : Int) := by rw [Int.tmod_eq_emod_of_nonneg (by omega)]; simp
    have hkn : m % (n + 1) ≤ n := by have := Nat.mod_lt m (show 0 < n + 1 by omega); omega
    have w3 : ((n : Int) + 1 == 0) = false := by simp only [beq_eq_false_iff_ne, ne_eq]; omega
    generalize m % (n + 1) = k at *
    have NW : Hid (∀ W, Calls Try.prog 17 #[.agg (vals key).toArray] W fun e w' => ∃ g, e = .returned (.pointer (some ⟨g, 0, none⟩)) ∧ W.heap.size < g ∧ HBlk w' g (hstart key) ∧ Below W.heap.size W w') := fun W => new_any key lk bk W
    have OK0 := Lib.hid (hstart_ok key lk bk)
    have OK1 := Lib.hid (hputs_ok (hstart_ok key lk bk) (xs.take k) (fun x h => hx.bytes x (List.mem_of_mem_take h)))
    have OK2 := Lib.hid (hputs_ok OK1.out (xs.drop k) (fun x h => hx.bytes x (List.mem_of_mem_drop h)))
    have ES : Hid (hsum (hputs (hputs (hstart key) (xs.take k)) (xs.drop k)) = ssum key xs) := by rw [← hputs_append, List.take_append_drop]; unfold ssum; exact rfl
    have hroom := hx.room
    clear lk bk hx
    go_enter Try.func6, Try.ntmps6
    go_wp2_with (first
      | (at_builtin; refine wpList_append_row _ rfl _ _ rfl X2.heap.size (some ⟨X2.heap.size, 0, none⟩) 0 0 [] rfl (Own.empty (Nat.le_refl _)) _ A k cap _ rfl ((H2.out.alloc _).row.take hkn) (by omega) (by simp) ?_; intro A3 c3 w3 hO3 hg3 hbl3
         rw [Nat.zero_add, List.nil_append] at hO3
         have HO3 := Lib.hid hO3
         have H3 := Lib.hid ((H2.out.alloc (Obj.cells #[] 5)).grown (base := X2.heap.size) hg3 (fun x hx => by injection hx with hx; simp only at hx; omega) H2.out.hh.lt)
         rw [Nat.zero_add]
         clear hO3 hg3 hbl3)
      | (go_at_call 18; have _ := c3; refine (write_any g _ A3 k c3 _ _ H3.out.hh OK0.out HO3.out.row (HO3.out.off H2.out.hh.lt)).mono ?_; rintro e X4 ⟨rfl, hB4, hg4⟩
         have H4 := Lib.hid (H3.out.wrote hB4 hg4)
         have HO4 := Lib.hid (HO3.out.kept hg4 (by
           cases hb : (Value.slice A3 k c3).ownBlock with
           | none => exact .inl rfl
           | some x => exact .inr (fun e => by injection e with e; have := (HO3.out.2.2.lt x hb).1; have := H2.out.hh.lt; omega)))
         clear hB4 hg4)
      | (go_at_call 17; refine (NW.out _).mono ?_; rintro e X2 ⟨g, rfl, hlt, hB2, hb2⟩
         have b1 := S1.out.trans (hb2.mono S1.out.size)
         have H2 : Hid (HSt w key A n cap xs g (hstart key) X2) := ⟨K1.out.below hb2 K1.out.lt, HX.out.below b1, hB2, Nat.lt_of_le_of_lt S1.out.size hlt, b1⟩
         clear hB2 hb2 hlt b1)
      | (refine wpList_load_mid rfl 23 _ rfl w.heap.size 0 rfl (vals key) _ (whole_range K1.out LK.out) Try.underlying23 rfl SZ.out ?_)
      | (go_at_call 12; refine (SP.out _).mono ?_; rintro e X1 ⟨rfl, hb1⟩; have S1 := Lib.hid (B0.out.trans (hb1.mono B0.out.size)); have K1 := Lib.hid (K0.out.below hb1 K0.out.lt); clear hb1)
      | fail)
    have GB := Lib.hid H2.out.hh.lt
    clear HO3 H3 H2
    generalize X2.heap.size = base at *
    go_loopw [34] (SpRel w key A n cap xs g (hputs (hstart key) (xs.take k)) base A3 k c3) (fun i _ => k - (intOf i).toNat)
    case atStart => exact ⟨0, _, Nat.zero_le _, rfl, HO4.out, H4.out⟩
    case round =>
      clear HO4 H4
      obtain ⟨j, ys, hj, rfl, hO, hS⟩ := hrel
      have HO := Lib.hid hO
      have HS := Lib.hid hS
      clear hO hS
      by_cases hlt : j < k
      · obtain ⟨gg, rfl⟩ := HO.out.head (by omega)
        have qj := HO.out.cellAt j hlt
        have pj := HO.out.2.2.frozenAt j
        have lj := getD_lt ys HO.out.2.1 j
        have xj := u8_xor_nat (ys.getD j 0) 85 lj (by omega)
        have lz : ys.getD j 0 ^^^ 85 < 256 := Nat.xor_lt_two_pow (n := 8) lj (by omega)
        have hbase := (HO.out.2.2.lt gg rfl).1
        generalize ys.getD j 0 = y at *
        generalize y ^^^ 85 = y2 at *
        have xj : bits .xor .u8 (y : Int) 85 = (y2 : Int) := xj
        go_wp2
        go_roundw
        case rel => exact ⟨j + 1, ys.set j y2, hlt, by go_num, HO.out.set j y2 lz, HS.out.set (base := base) (p := ⟨gg, j, none⟩) hbase GB.out _⟩
        case measure => simp [intOf]; omega
      · by_cases hc : cap = k
        · subst hc
          have hz : n - cap = 0 := by omega
          have WR : Hid (∀ V, HSt w key A n cap xs g (hputs (hstart key) (xs.take cap)) V → Calls Try.prog 18 #[.pointer (some ⟨g, 0, none⟩), .slice A 0 0] V fun e w' => e = .returned (.tuple #[]) ∧ HBlk w' g (hputs (hputs (hstart key) (xs.take cap)) (xs.drop cap)) ∧ V.grownBy w' (some g)) := fun V hV => by
            have r : Row V w.heap.size A 0 0 (xs.drop cap) := by
              have := (show Row V w.heap.size A (cap + (n - cap)) cap xs by rw [show cap + (n - cap) = n by omega]; exact hV.hx).dropAll rfl
              rwa [hz] at this
            exact write_any g _ A 0 0 (xs.drop cap) V hV.hh OK1.out (r.wider hV.hw.size) (r.off (Nat.le_of_lt hV.hg))
          go_wp2_with (first
            | (go_at_call 18; with_reducible refine (WR.out _ HS.out).mono ?_; rintro e X5 ⟨rfl, hB5, hg5⟩; have H5 := Lib.hid (HS.out.wrote hB5 hg5); clear hB5 hg5))
          have SS : Hid (∀ V, HSt w key A n cap xs g (hputs (hputs (hstart key) (xs.take cap)) (xs.drop cap)) V → Calls Try.prog 19 #[.pointer (some ⟨g, 0, none⟩)] V fun e w' => e = .returned (.int .u64 (ssum key xs : Nat)) ∧ Below V.heap.size V w') := fun V hV => by rw [← ES.out]; exact hsum_any g _ V hV.hh OK2.out
          have H0 := Lib.hid H5.out.drew
          clear ES WR HS H5
          generalize ssum key xs = N at *
          have f1 : ((N : Int) == (N : Int)) = true := by simp
          generalize (hputs (hputs (hstart key) (xs.take cap)) (xs.drop cap)) = hh2 at *
          refine wp_region_held_drew (S := fun W => HSt w key A n cap xs g hh2 W) (by kernel_rfl) H0.out (fun _ => ?_)
          generalize X5.drew = V0 at *
          refine wpAnyH_take (i := 0) (v := .pointer (some ⟨g, 0, none⟩)) rfl (by kernel_rfl) (by kernel_rfl) (by kernel_rfl) (fun _ _ _ h => h) (Or.inl ⟨by rfl, fun W hW => by clear hW; go_simp⟩) H0.out ?_
          try simp only [Act.put, List.getElem_toArray, List.getElem_cons_succ, List.getElem_cons_zero, List.setIfInBounds_toArray, List.set_cons_zero, List.set_cons_succ]
          refine wpAnyH_take (i := 2) rfl (by kernel_rfl) (by kernel_rfl) (by kernel_rfl) (fun _ _ _ h => h) (yieldsIf_load_mid (by rfl) _ _ rfl _ _ rfl _ _ (fun W hW => whole_range hW.hk LK.out) Try.underlying23 rfl (sz16 key LK.out)) H0.out ?_
          try simp only [Act.put, List.getElem_toArray, List.getElem_cons_succ, List.getElem_cons_zero, List.setIfInBounds_toArray, List.set_cons_zero, List.set_cons_succ]
          refine wpAnyH_take (i := 3) (v := .slice A n cap) rfl (by kernel_rfl) (by kernel_rfl) (by kernel_rfl) (fun _ _ _ h => h) (Or.inl ⟨by rfl, fun W hW => by clear hW; go_simp⟩) H0.out ?_
          try simp only [Act.put, List.getElem_toArray, List.getElem_cons_succ, List.getElem_cons_zero, List.setIfInBounds_toArray, List.set_cons_zero, List.set_cons_succ]
          refine wpAnyH_ready (rs := [1]) (by kernel_rfl) (by simp) ?_
          refine AllReadyH.cons rfl (fun K hK => ?_) AllReadyH.nil
          go_simp
          go_at_call 19
          refine (SS.out _ H0.out).mono ?_
          rintro e V_2 ⟨rfl, hb_1⟩
          have H_3 := Lib.hid (H0.out.call hb_1)
          clear hb_1
          refine hK.out _ _ H_3.out (fun _ => ?_)
          clear hK K
          try simp only [Act.put, List.getElem_toArray, List.getElem_cons_succ, List.getElem_cons_zero, List.setIfInBounds_toArray, List.set_cons_zero, List.set_cons_succ]
          refine wpAnyH_ready (rs := [4]) (by kernel_rfl) (by simp) ?_
          refine AllReadyH.cons rfl (fun K hK => ?_) AllReadyH.nil
          go_simp
          go_at_call 13
          refine (RL.out _ H_3.out.row).mono ?_
          rintro e V_5 ⟨rfl, hb_4⟩
          have H_6 := Lib.hid (H_3.out.call hb_4)
          clear hb_4
          refine hK.out _ _ H_6.out (fun _ => ?_)
          clear hK K
          try simp only [Act.put, List.getElem_toArray, List.getElem_cons_succ, List.getElem_cons_zero, List.setIfInBounds_toArray, List.set_cons_zero, List.set_cons_succ]
          refine wpAnyH_take (i := 5) (v := .bool true) rfl (by kernel_rfl) (by kernel_rfl) (by kernel_rfl) (fun _ _ _ h => h) (Or.inl ⟨by rfl, fun W hW => by clear hW; go_simp⟩) H_6.out ?_
          try simp only [Act.put, List.getElem_toArray, List.getElem_cons_succ, List.getElem_cons_zero, List.setIfInBounds_toArray, List.set_cons_zero, List.set_cons_succ]
          refine wpAnyH_take (i := 6) (v := .bool true) rfl (by kernel_rfl) (by kernel_rfl) (by kernel_rfl) (fun _ _ _ h => h) (Or.inl ⟨by rfl, fun W hW => by clear hW; go_simp⟩) H_6.out ?_
          try simp only [Act.put, List.getElem_toArray, List.getElem_cons_succ, List.getElem_cons_zero, List.setIfInBounds_toArray, List.set_cons_zero, List.set_cons_succ]
          refine wpAnyH_take (i := 7) (v := .pointer (some ⟨g, 0, none⟩)) rfl (by kernel_rfl) (by kernel_rfl) (by kernel_rfl) (fun _ _ _ h => h) (Or.inl ⟨by rfl, fun W hW => by clear hW; go_simp⟩) H_6.out ?_
          try simp only [Act.put, List.getElem_toArray, List.getElem_cons_succ, List.getElem_cons_zero, List.setIfInBounds_toArray, List.set_cons_zero, List.set_cons_succ]
          refine wpAnyH_take (i := 9) (v := .pointer (some ⟨g, 0, none⟩)) rfl (by kernel_rfl) (by kernel_rfl) (by kernel_rfl) (fun _ _ _ h => h) (Or.inl ⟨by rfl, fun W hW => by clear hW; go_simp⟩) H_6.out ?_
          try simp only [Act.put, List.getElem_toArray, List.getElem_cons_succ, List.getElem_cons_zero, List.setIfInBounds_toArray, List.set_cons_zero, List.set_cons_succ]
          refine wpAnyH_ready (rs := [8]) (by kernel_rfl) (by simp) ?_
          refine AllReadyH.cons rfl (fun K hK => ?_) AllReadyH.nil
          go_simp
          go_at_call 19
          refine (SS.out _ H_6.out).mono ?_
          rintro e V_8 ⟨rfl, hb_7⟩
          have H_9 := Lib.hid (H_6.out.call hb_7)
          clear hb_7
          refine hK.out _ _ H_9.out (fun _ => ?_)
          clear hK K
          try simp only [Act.put, List.getElem_toArray, List.getElem_cons_succ, List.getElem_cons_zero, List.setIfInBounds_toArray, List.set_cons_zero, List.set_cons_succ]
          refine wpAnyH_ready (rs := [10]) (by kernel_rfl) (by simp) ?_
          refine AllReadyH.cons rfl (fun K hK => ?_) AllReadyH.nil
          go_simp
          go_at_call 19
          refine (SS.out _ H_9.out).mono ?_
          rintro e V_11 ⟨rfl, hb_10⟩
          have H_12 := Lib.hid (H_9.out.call hb_10)
          clear hb_10
          refine hK.out _ _ H_12.out (fun _ => ?_)
          clear hK K
          try simp only [Act.put, List.getElem_toArray, List.getElem_cons_succ, List.getElem_cons_zero, List.setIfInBounds_toArray, List.set_cons_zero, List.set_cons_succ]
          refine wpAnyH_take (i := 11) (v := .bool true) rfl (by kernel_rfl) (by kernel_rfl) (by kernel_rfl) (fun _ _ _ h => h) (Or.inl ⟨by rfl, fun W hW => by clear hW; go_simp⟩) H_12.out ?_
          try simp only [Act.put, List.getElem_toArray, List.getElem_cons_succ, List.getElem_cons_zero, List.setIfInBounds_toArray, List.set_cons_zero, List.set_cons_succ]
          refine wpAnyH_take (i := 12) (v := .bool true) rfl (by kernel_rfl) (by kernel_rfl) (by kernel_rfl) (fun _ _ _ h => h) (Or.inl ⟨by rfl, fun W hW => by clear hW; go_simp⟩) H_12.out ?_
          try simp only [Act.put, List.getElem_toArray, List.getElem_cons_succ, List.getElem_cons_zero, List.setIfInBounds_toArray, List.set_cons_zero, List.set_cons_succ]
          refine wpAnyH_take (i := 13) (v := .bool true) rfl (by kernel_rfl) (by kernel_rfl) (by kernel_rfl) (fun _ _ _ h => h) (Or.inl ⟨by rfl, fun W hW => by clear hW; go_simp⟩) H_12.out ?_
          try simp only [Act.put, List.getElem_toArray, List.getElem_cons_succ, List.getElem_cons_zero, List.setIfInBounds_toArray, List.set_cons_zero, List.set_cons_succ]
          refine wpAnyH_done (by kernel_rfl) ?_ _
          go_wp2
          go_ret
          exact ⟨rfl, H_12.out.hw⟩
        · have WR : Hid (∀ V, HSt w key A n cap xs g (hputs (hstart key) (xs.take k)) V → Calls Try.prog 18 #[.pointer (some ⟨g, 0, none⟩), .slice (Option.map (fun x => x.add k) A) (n - k) (cap - k)] V fun e w' => e = .returned (.tuple #[]) ∧ HBlk w' g (hputs (hputs (hstart key) (xs.take k)) (xs.drop k)) ∧ V.grownBy w' (some g)) := fun V hV => by
            have r := (show Row V w.heap.size A (k + (n - k)) cap xs by rw [show k + (n - k) = n by omega]; exact hV.hx).drop hc
            exact write_any g _ _ (n - k) (cap - k) (xs.drop k) V hV.hh OK1.out (r.wider hV.hw.size) (r.off (Nat.le_of_lt hV.hg))
          go_wp2_with (first
            | (go_at_call 18; with_reducible refine (WR.out _ HS.out).mono ?_; rintro e X5 ⟨rfl, hB5, hg5⟩; have H5 := Lib.hid (HS.out.wrote hB5 hg5); clear hB5 hg5))
          have SS : Hid (∀ V, HSt w key A n cap xs g (hputs (hputs (hstart key) (xs.take k)) (xs.drop k)) V → Calls Try.prog 19 #[.pointer (some ⟨g, 0, none⟩)] V fun e w' => e = .returned (.int .u64 (ssum key xs : Nat)) ∧ Below V.heap.size V w') := fun V hV => by rw [← ES.out]; exact hsum_any g _ V hV.hh OK2.out
          have H0 := Lib.hid H5.out.drew
          clear ES WR HS H5
          generalize ssum key xs = N at *
          have f1 : ((N : Int) == (N : Int)) = true := by simp
          generalize (hputs (hputs (hstart key) (xs.take k)) (xs.drop k)) = hh2 at *
          refine wp_region_held_drew (S := fun W => HSt w key A n cap xs g hh2 W) (by kernel_rfl) H0.out (fun _ => ?_)
          generalize X5.drew = V0 at *
          refine wpAnyH_take (i := 0) (v := .pointer (some ⟨g, 0, none⟩)) rfl (by kernel_rfl) (by kernel_rfl) (by kernel_rfl) (fun _ _ _ h => h) (Or.inl ⟨by rfl, fun W hW => by clear hW; go_simp⟩) H0.out ?_
          try simp only [Act.put, List.getElem_toArray, List.getElem_cons_succ, List.getElem_cons_zero, List.setIfInBounds_toArray, List.set_cons_zero, List.set_cons_succ]
          refine wpAnyH_take (i := 2) rfl (by kernel_rfl) (by kernel_rfl) (by kernel_rfl) (fun _ _ _ h => h) (yieldsIf_load_mid (by rfl) _ _ rfl _ _ rfl _ _ (fun W hW => whole_range hW.hk LK.out) Try.underlying23 rfl (sz16 key LK.out)) H0.out ?_
          try simp only [Act.put, List.getElem_toArray, List.getElem_cons_succ, List.getElem_cons_zero, List.setIfInBounds_toArray, List.set_cons_zero, List.set_cons_succ]
          refine wpAnyH_take (i := 3) (v := .slice A n cap) rfl (by kernel_rfl) (by kernel_rfl) (by kernel_rfl) (fun _ _ _ h => h) (Or.inl ⟨by rfl, fun W hW => by clear hW; go_simp⟩) H0.out ?_
          try simp only [Act.put, List.getElem_toArray, List.getElem_cons_succ, List.getElem_cons_zero, List.setIfInBounds_toArray, List.set_cons_zero, List.set_cons_succ]
          refine wpAnyH_ready (rs := [1]) (by kernel_rfl) (by simp) ?_
          refine AllReadyH.cons rfl (fun K hK => ?_) AllReadyH.nil
          go_simp
          go_at_call 19
          refine (SS.out _ H0.out).mono ?_
          rintro e V_2 ⟨rfl, hb_1⟩
          have H_3 := Lib.hid (H0.out.call hb_1)
          clear hb_1
          refine hK.out _ _ H_3.out (fun _ => ?_)
          clear hK K
          try simp only [Act.put, List.getElem_toArray, List.getElem_cons_succ, List.getElem_cons_zero, List.setIfInBounds_toArray, List.set_cons_zero, List.set_cons_succ]
          refine wpAnyH_ready (rs := [4]) (by kernel_rfl) (by simp) ?_
          refine AllReadyH.cons rfl (fun K hK => ?_) AllReadyH.nil
          go_simp
          go_at_call 13
          refine (RL.out _ H_3.out.row).mono ?_
          rintro e V_5 ⟨rfl, hb_4⟩
          have H_6 := Lib.hid (H_3.out.call hb_4)
          clear hb_4
          refine hK.out _ _ H_6.out (fun _ => ?_)
          clear hK K
          try simp only [Act.put, List.getElem_toArray, List.getElem_cons_succ, List.getElem_cons_zero, List.setIfInBounds_toArray, List.set_cons_zero, List.set_cons_succ]
          refine wpAnyH_take (i := 5) (v := .bool true) rfl (by kernel_rfl) (by kernel_rfl) (by kernel_rfl) (fun _ _ _ h => h) (Or.inl ⟨by rfl, fun W hW => by clear hW; go_simp⟩) H_6.out ?_
          try simp only [Act.put, List.getElem_toArray, List.getElem_cons_succ, List.getElem_cons_zero, List.setIfInBounds_toArray, List.set_cons_zero, List.set_cons_succ]
          refine wpAnyH_take (i := 6) (v := .bool true) rfl (by kernel_rfl) (by kernel_rfl) (by kernel_rfl) (fun _ _ _ h => h) (Or.inl ⟨by rfl, fun W hW => by clear hW; go_simp⟩) H_6.out ?_
          try simp only [Act.put, List.getElem_toArray, List.getElem_cons_succ, List.getElem_cons_zero, List.setIfInBounds_toArray, List.set_cons_zero, List.set_cons_succ]
          refine wpAnyH_take (i := 7) (v := .pointer (some ⟨g, 0, none⟩)) rfl (by kernel_rfl) (by kernel_rfl) (by kernel_rfl) (fun _ _ _ h => h) (Or.inl ⟨by rfl, fun W hW => by clear hW; go_simp⟩) H_6.out ?_
          try simp only [Act.put, List.getElem_toArray, List.getElem_cons_succ, List.getElem_cons_zero, List.setIfInBounds_toArray, List.set_cons_zero, List.set_cons_succ]
          refine wpAnyH_take (i := 9) (v := .pointer (some ⟨g, 0, none⟩)) rfl (by kernel_rfl) (by kernel_rfl) (by kernel_rfl) (fun _ _ _ h => h) (Or.inl ⟨by rfl, fun W hW => by clear hW; go_simp⟩) H_6.out ?_
          try simp only [Act.put, List.getElem_toArray, List.getElem_cons_succ, List.getElem_cons_zero, List.setIfInBounds_toArray, List.set_cons_zero, List.set_cons_succ]
          refine wpAnyH_ready (rs := [8]) (by kernel_rfl) (by simp) ?_
          refine AllReadyH.cons rfl (fun K hK => ?_) AllReadyH.nil
          go_simp
          go_at_call 19
          refine (SS.out _ H_6.out).mono ?_
          rintro e V_8 ⟨rfl, hb_7⟩
          have H_9 := Lib.hid (H_6.out.call hb_7)
          clear hb_7
          refine hK.out _ _ H_9.out (fun _ => ?_)
          clear hK K
          try simp only [Act.put, List.getElem_toArray, List.getElem_cons_succ, List.getElem_cons_zero, List.setIfInBounds_toArray, List.set_cons_zero, List.set_cons_succ]
          refine wpAnyH_ready (rs := [10]) (by kernel_rfl) (by simp) ?_
          refine AllReadyH.cons rfl (fun K hK => ?_) AllReadyH.nil
          go_simp
          go_at_call 19
          refine (SS.out _ H_9.out).mono ?_
          rintro e V_11 ⟨rfl, hb_10⟩
          have H_12 := Lib.hid (H_9.out.call hb_10)
          clear hb_10
          refine hK.out _ _ H_12.out (fun _ => ?_)
          clear hK K
          try simp only [Act.put, List.getElem_toArray, List.getElem_cons_succ, List.getElem_cons_zero, List.setIfInBounds_toArray, List.set_cons_zero, List.set_cons_succ]
          refine wpAnyH_take (i := 11) (v := .bool true) rfl (by kernel_rfl) (by kernel_rfl) (by kernel_rfl) (fun _ _ _ h => h) (Or.inl ⟨by rfl, fun W hW => by clear hW; go_simp⟩) H_12.out ?_
          try simp only [Act.put, List.getElem_toArray, List.getElem_cons_succ, List.getElem_cons_zero, List.setIfInBounds_toArray, List.set_cons_zero, List.set_cons_succ]
          refine wpAnyH_take (i := 12) (v := .bool true) rfl (by kernel_rfl) (by kernel_rfl) (by kernel_rfl) (fun _ _ _ h => h) (Or.inl ⟨by rfl, fun W hW => by clear hW; go_simp⟩) H_12.out ?_
          try simp only [Act.put, List.getElem_toArray, List.getElem_cons_succ, List.getElem_cons_zero, List.setIfInBounds_toArray, List.set_cons_zero, List.set_cons_succ]
          refine wpAnyH_take (i := 13) (v := .bool true) rfl (by kernel_rfl) (by kernel_rfl) (by kernel_rfl) (fun _ _ _ h => h) (Or.inl ⟨by rfl, fun W hW => by clear hW; go_simp⟩) H_12.out ?_
          try simp only [Act.put, List.getElem_toArray, List.getElem_cons_succ, List.getElem_cons_zero, List.setIfInBounds_toArray, List.set_cons_zero, List.set_cons_succ]
          refine wpAnyH_done (by kernel_rfl) ?_ _
          go_wp2
          go_ret
          exact ⟨rfl, H_12.out.hw⟩
end Go.Proofs.Ytpibmccofjpelaa
