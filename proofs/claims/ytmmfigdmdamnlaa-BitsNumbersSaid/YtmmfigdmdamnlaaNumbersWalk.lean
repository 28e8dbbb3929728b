/- The law BitsNumbers returns true whatever comes in, and nothing that was there is changed. -/
import Derived.Test.YtmmfigdmdamnlaaSpeaks
import Derived.Test.YtmmfigdmdamnlaaRead
import Derived.Test.YtmmfigdmdamnlaaRefNumber
namespace Go.Proofs.Ytmmfigdmdamnlaa
open Go.RowKit
set_option linter.unusedVariables false

/-- What holds while the law writes over what it handed in. -/
def NumRel (w1 w4 : World) (A : Option Addr) (n c : Nat) (i : Value) (wr : World) : Prop :=
  ∃ k ys, k ≤ n ∧ i = .int .i64 (k : Nat) ∧ Own wr w1.heap.size A n c ys ∧ w4.grownBy wr (Value.slice A n c).ownBlock
theorem numbers_step {w1 w4 wr : World} {g n c k : Nat} {ys : List Nat} (hO : Own wr w1.heap.size (some ⟨g, 0, none⟩) n c ys) (hg : w4.grownBy wr (Value.slice (some ⟨g, 0, none⟩) n c).ownBlock) (hk : k < n) :
    NumRel w1 w4 (some ⟨g, 0, none⟩) n c (.int .i64 ((k : Int) + 1)) (wr.setCell ⟨g, k, none⟩ (.int .u8 238)) := by
  obtain ⟨h1, h2⟩ := hO.2.2.stored k (.int .u8 238)
  refine ⟨k + 1, ys.set k 238, hk, by simp, ⟨by simpa using hO.len, ?_, ?_⟩, hg.trans h2⟩
  · intro x hx
    rcases List.mem_or_eq_of_mem_set hx with hx | rfl
    · exact hO.2.1 x hx
    · omega
  · rw [show vals (ys.set k 238) = (vals ys).set k (.int .u8 238) by simp [vals, List.map_set]]; exact h1
theorem numbers_far {w1 wr : World} {A : Option Addr} {n c : Nat} {ys : List Nat} {b : Nat} (hO : Own wr w1.heap.size A n c ys) (hb : b < w1.heap.size) : some b ≠ (Value.slice A n c).ownBlock := by
  intro e
  have := (hO.2.2.lt b e.symm).1
  omega

theorem numbers_below {w w1 w3 w4 wr : World} {A : Option Addr} {n c : Nat} {ys : List Nat} (h1 : Below w.heap.size w w1) (h3 : Below w1.heap.size w1 w3) (h4 : Below w3.heap.size w3 w4) (hg : w4.grownBy wr (Value.slice A n c).ownBlock) (hO : Own wr w1.heap.size A n c ys) : Below w.heap.size w wr := by
  have h34 : Below w1.heap.size w1 w4 := h3.trans (h4.mono h3.size)
  exact (h1.trans (h34.mono h1.size)).grown hg (Nat.le_trans h1.size h34.size) (fun k hk => Nat.le_trans h1.size (hO.2.2.lt k hk).1)
theorem numbers_apart {w1 w3 w4 : World} {A A4 : Option Addr} {n c n4 c4 : Nat} {ys : List Nat} (hO : Own w4 w3.heap.size A4 n4 c4 ys) (hlt : ∀ k, (Value.slice A n c).ownBlock = some k → w1.heap.size ≤ k ∧ k < w3.heap.size) :
    (Value.slice A4 n4 c4).ownBlock = none ∨ (Value.slice A4 n4 c4).ownBlock ≠ (Value.slice A n c).ownBlock := by
  cases h : (Value.slice A4 n4 c4).ownBlock with
  | none => exact .inl rfl
  | some k =>
    refine .inr fun e => ?_
    have h1 := (hO.2.2.lt k h).1
    have h2 := (hlt k e.symm).2
    omega

theorem numbers_last (v : Nat) (hv : v < 18446744073709551616) : ((le ((nb v 8).take 8) : Int) == (v : Int)) = true := by
  have h8 : (256 : Nat) ^ 8 = 18446744073709551616 := by decide
  rw [nb_take, Nat.min_self, le_nb, Nat.mod_eq_of_lt (by omega)]; simp

set_option maxHeartbeats 400000 in
theorem numbers_walk (A : Option Addr) (n c : Nat) (xs : List Nat) (v : Nat) (m : Int) (w : World) (hx : Row w w.heap.size A n c xs) (hv : v < 18446744073709551616) (hm0 : -9223372036854775808 ≤ m) (hm1 : m ≤ 9223372036854775807) :
    Calls Try.prog 3 #[.slice A n c, .int .u64 v, .int .i64 m] w (IsTrue w) := by
  have hmax := hx.max
  by_cases hn : 2000 < n
  · go_enter Try.func3, Try.ntmps3
    go_wp2_with fail
    refine (speaks_any w).mono ?_
    rintro e w1 ⟨rfl, hb1⟩
    have Hb1 := Lib.hid hb1
    clear hb1
    go_wp2
    go_ret
    exact ⟨rfl, Hb1.out⟩
  · have hln : ∀ K, (xs ++ nb v K).length = n + K := fun K => by rw [List.length_append, hx.len, nb_length]
    have Hln := Lib.hid hln
    clear hln
    have hK64 : many m ≤ 64 := by unfold many; omega
    go_enter Try.func3, Try.ntmps3
    go_wp2_with fail
    refine (speaks_any w).mono ?_
    rintro e w1 ⟨rfl, hb1⟩
    have hx1 := (hx.below hb1).wider hb1.size
    have Hb1 := Lib.hid hb1
    clear hb1
    go_wp2_with (first
      | (at_make; refine wpList_make_empty _ rfl _ _ rfl w1.heap.size _ (n + 9) rfl rfl (by omega) (by omega) (Nat.le_refl _) ?_; intro w2 hO2 hg2)
      | (at_builtin; refine wpList_append_row _ rfl _ _ rfl w1.heap.size (some ⟨w1.heap.size, 0, none⟩) 0 (n + 9) [] rfl hO2 w1.heap.size A n c xs rfl (hx1.keep fun p hp => World.cell?_of_block (hg2.block p.block hp (by simp))) (by omega) (by have := hg2.size; omega) ?_; intro A3 c3 w3 hO3 hg3 hbl3)
      | fail)
    have hb3 : Below w1.heap.size w1 w3 := ((Below.refl _ _).grown hg2 (Nat.le_refl _) (fun k hk => by cases hk)).grown hg3 hg2.size (fun k hk => (hO2.2.2.lt k hk).1)
    have hO3' : Own w3 w1.heap.size A3 n c3 xs := by simpa using hO3
    have hx3 := hx1.below hb3
    have Hb3 := Lib.hid hb3
    have Hlt3 := Lib.hid hO3'.2.2.lt
    clear hO3 hO2 hg2 hg3 hbl3 hb3
    refine (number_any A3 n c3 xs v m w3 hO3'.row (by omega) hv hm0 hm1).mono ?_
    intro e w4 hG4
    obtain ⟨A4, c4, rfl, hO4, hb4⟩ := hG4.out (Hln.out _)
    clear hG4
    have hO34 := hO3'.below hb4
    have hx4 := hx3.below (hb4.mono Hb3.out.size)
    have Hb4 := Lib.hid hb4
    have HO4 := Lib.hid hO4
    clear hO3' hb4 hO4
    go_wp2_with fail
    go_loopw [27] (NumRel w1 w4 A3 n c3) (fun i _ => n - (intOf i).toNat)
    case atStart => exact ⟨0, xs, by omega, rfl, hO34, World.grownBy.refl _ _⟩
    case round =>
      obtain ⟨k, ys, hk, rfl, hOr, hgr⟩ := hrel
      clear hO34
      have Hgr := Lib.hid hgr
      clear hgr
      by_cases hlt : k < n
      · obtain ⟨g, rfl⟩ := own_head hOr (by omega)
        have hck := hOr.2.2.cellAt k (by omega)
        rw [vals_getElem? ys k (by rw [hOr.len]; exact hlt)] at hck
        have hfk := hOr.2.2.frozenAt k
        go_wp2
        go_roundw
        case rel => exact numbers_step hOr Hgr.out hlt
        case measure => simp [intOf]; omega
      · have HOr := Lib.hid hOr
        clear hOr
        have hxr := hx4.keep (w' := wr) fun p hp => World.cell?_of_block (Hgr.out.block p.block (Nat.lt_of_lt_of_le (Nat.lt_of_lt_of_le hp Hb3.out.size) Hb4.out.size) (numbers_far HOr.out hp))
        have hbr : Below w.heap.size w wr := numbers_below Hb1.out Hb3.out Hb4.out Hgr.out HOr.out
        have hO5 := HO4.out.kept Hgr.out (numbers_apart HO4.out Hlt3.out)
        have hszr : w1.heap.size ≤ wr.heap.size := Nat.le_trans (Nat.le_trans Hb3.out.size Hb4.out.size) Hgr.out.size
        have Hbr := Lib.hid hbr
        have HO5 := Lib.hid hO5
        clear hbr hO5 hx3 hx4
        go_wp2_with fail
        refine (refNumber_any A n c xs v m wr (hxr.wider hszr) (by omega) hv hm0 hm1).mono ?_
        intro e w6 hG6
        obtain ⟨A6, c6, rfl, hO6, hb6⟩ := hG6.out (Hln.out _)
        clear hG6
        have hx6 := hxr.below (hb6.mono hszr)
        have HO56 := Lib.hid (HO5.out.below hb6)
        have HO6 := Lib.hid hO6
        have Hb6 := Lib.hid hb6
        clear hb6 hO6 hxr hszr
        go_wp2_with fail
        refine (same_any A4 A6 _ _ c4 c6 _ _ _ w6 HO56.out.row HO6.out.row).mono ?_
        rintro e w7 ⟨rfl, q, rfl⟩
        rw [decide_eq_true rfl]
        go_wp2_with fail
        refine (read_any A n c xs _ _ (hx6.drewN q)).mono ?_
        rintro e w8 ⟨rfl, rfl⟩
        go_wp2_with fail
        refine (refRead_any A n c xs _ _ (hx6.drewN q)).mono ?_
        rintro e w8 ⟨rfl, rfl⟩
        have ht : ((le (xs.take 8) : Int) == (le (xs.take 8) : Int)) = true := by simp
        go_wp2_with fail
        have hnum : Calls Try.prog 10 #[.slice none 0 0, .int .u64 v, .int .i64 8] (w6.drewN q) (GivesRow (w6.drewN q) (nb v 8)) := number_any none 0 0 [] v 8 _ (Row.nil_ _ _) (by omega) hv (by omega) (by omega)
        refine hnum.mono ?_
        clear hnum
        intro e w9 hG9
        obtain ⟨A9, c9, rfl, hO9, hb9⟩ := hG9.out (nb_length v 8)
        clear hG9
        have HO9 := Lib.hid hO9
        have Hb9 := Lib.hid hb9
        clear hO9 hb9 ht
        go_wp2_with fail
        refine (read_any A9 8 c9 (nb v 8) _ _ HO9.out.row).mono ?_
        rintro e w10 ⟨rfl, rfl⟩
        have ht : ((le ((nb v 8).take 8) : Int) == (v : Int)) = true := numbers_last v hv
        go_wp2
        go_ret
        have hb6 : Below w.heap.size w w6 := Hbr.out.trans (Hb6.out.mono Hbr.out.size)
        have hb9 : Below (w6.drewN q).heap.size (w6.drewN q) w9 := Hb9.out
        exact ⟨rfl, (below_drewN hb6).trans (hb9.mono hb6.size)⟩
end Go.Proofs.Ytmmfigdmdamnlaa
