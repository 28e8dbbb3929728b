/- The document's examples hold: 'speaks' returns true, and nothing that was there is changed. -/
import Derived.Test.YtmmfigdmdamnlaaPut
import Derived.Test.YtmmfigdmdamnlaaNumber
import Derived.Test.YtmmfigdmdamnlaaSame
namespace Go.Proofs.Ytmmfigdmdamnlaa
open Go.RowKit
set_option linter.unusedVariables false

theorem Own.lit {w : World} {base : Nat} (hb : base ≤ w.heap.size) (xs : List Nat) (cs : Array Value) (n : Nat) (hn : n ≤ 1000) (hl : xs.length = n) (hx : ∀ x ∈ xs, x < 256) (hc : cs.toList = vals xs) :
    Own (w.alloc (.cells cs 5)) base (some ⟨w.heap.size, 0, none⟩) n n xs := by
  refine ⟨hl, hx, ?_⟩
  rw [← hc]
  exact World.ownsRow_lit w cs n hb (by unfold maxLen; omega) (by rw [← Array.length_toList, hc, vals_length]; omega)

/-- The call answers true, and nothing that was there is changed. -/
def IsTrue (w : World) (e : Ending) (w' : World) : Prop := e = .returned (.bool true) ∧ Below w.heap.size w w'

theorem speaks_put (w : World) : Calls Try.prog 16 #[.slice (some ⟨w.heap.size, 0, none⟩) 2 2, .int .i64 6, .int .i64 3, .int .u64 5] (w.alloc (.cells #[.int .u8 0, .int .u8 0] 5))
    (Leaves (w.alloc (.cells #[.int .u8 0, .int .u8 0] 5)) w.heap.size (some ⟨w.heap.size, 0, none⟩) 2 2 [64, 1] (.int .i64 0)) :=
  put_yes (some ⟨w.heap.size, 0, none⟩) 2 2 6 3 5 [0, 0] w.heap.size _ (Own.lit (Nat.le_refl _) [0, 0] _ 2 (by omega) rfl (by decide) rfl) (by omega) (by omega) (by omega) (by decide) (by omega)
theorem speaks_number (w : World) : Calls Try.prog 10 #[.slice none 0 0, .int .u64 258, .int .i64 3] w (GivesRow w [2, 1, 0]) :=
  number_any none 0 0 [] 258 3 w (Row.nil_ _ _) (by omega) (by omega) (by omega) (by omega)
theorem speaks_same {w : World} {base : Nat} {A : Option Addr} {c : Nat} (hO : Own w base A 3 c [2, 1, 0]) : Calls Try.prog 11 #[.slice A 3 c, .slice (some ⟨w.heap.size, 0, none⟩) 3 3] (w.alloc (.cells #[.int .u8 2, .int .u8 1, .int .u8 0] 5))
    fun e w' => e = .returned (.bool true) ∧ ∃ k, w' = (w.alloc (.cells #[.int .u8 2, .int .u8 1, .int .u8 0] 5)).drewN k :=
  same_any A (some ⟨w.heap.size, 0, none⟩) 3 3 c 3 [2, 1, 0] [2, 1, 0] _ _ (hO.alloc _).row (Own.lit (base := 0) (Nat.zero_le _) [2, 1, 0] _ 3 (by omega) rfl (by decide) rfl).row

set_option maxHeartbeats 400000 in
theorem speaks_any (w : World) : Calls Try.prog 9 #[] w (IsTrue w) := by
  go_enter Try.func9, Try.ntmps9
  go_wp2_with fail
  refine (speaks_put w).mono ?_
  rintro e w1 ⟨rfl, hO1, hg1⟩
  have hb1 : Below w.heap.size w w1 := ((Below.refl _ _).alloc (Nat.le_refl _) _).grown hg1 (by simp) (fun k hk => by injection hk with hk; simp only at hk; omega)
  have Hb1 := Lib.hid hb1
  have HO1 := Lib.hid hO1
  clear hg1 hb1 hO1
  go_wp2_with fail
  refine (speaks_number w1).mono ?_
  rintro e w2 ⟨A2, c2, rfl, hO2, hb2⟩
  have Hb2 := Lib.hid hb2
  have HO2 := Lib.hid hO2
  clear hb2 hO2
  go_wp2_with fail
  refine (speaks_same HO2.out).mono ?_
  rintro e w3 ⟨rfl, k, rfl⟩
  have hbb := Hb2.out
  have hO3 : Own ((w2.alloc (.cells #[.int .u8 2, .int .u8 1, .int .u8 0] 5)).drewN k) w.heap.size (some ⟨w.heap.size, 0, none⟩) 2 2 [64, 1] := ((HO1.out.below hbb).alloc _).drewN k
  have c0 : ((w2.alloc (.cells #[.int .u8 2, .int .u8 1, .int .u8 0] 5)).drewN k).cell? ⟨w.heap.size, 0, none⟩ = some (.int .u8 64) := hO3.2.2.cellAt 0 (by omega)
  have c1 : ((w2.alloc (.cells #[.int .u8 2, .int .u8 1, .int .u8 0] 5)).drewN k).cell? ⟨w.heap.size, 1, none⟩ = some (.int .u8 1) := hO3.2.2.cellAt 1 (by omega)
  clear hO3 hbb
  go_wp2
  go_ret
  have h1 := Hb1.out
  have h2 := Hb2.out
  exact ⟨rfl, below_drewN ((h1.trans (h2.mono h1.size)).alloc (Nat.le_trans h1.size h2.size) _)⟩
end Go.Proofs.Ytmmfigdmdamnlaa
