/- The document's words of the rounds' keys are the program's. No statement is proved here. What the document's cipher does to bytes: a round's key is added. No statement is proved here. What the document's cipher does to bytes: they stand for others, rows are turned. No statement is proved here. -/
import Derived.Test.YtfbgpfiodgibbaaAR1
import Derived.Deep.RegionHeld3
namespace Go.Proofs.Ytfbgpfiodgibbaa.A
open Go.RowKit
set_option linter.unusedVariables false

/-- What the loop keeps that makes words. -/
structure WSt (w : World) (key : List Nat) (gt p c : Nat) (vs : List Value) (V : World) : Prop where
  hk : Blk V w.heap.size 23 key
  hi : WIn V w.heap.size (some ⟨gt, 0, none⟩) p c (wd key) vs
  hw : Below w.heap.size w V
theorem WSt.drew {w : World} {key : List Nat} {gt p c : Nat} {vs : List Value} {V : World} (h : WSt w key gt p c vs V) : WSt w key gt p c vs V.drew := ⟨h.hk, h.hi.drewN 1, below_drewN (k := 1) h.hw⟩
theorem WSt.alloc {w : World} {key : List Nat} {gt p c : Nat} {vs : List Value} {V : World} (h : WSt w key gt p c vs V) (o : Obj) : WSt w key gt p c vs (V.alloc o) := ⟨h.hk.alloc o, h.hi.alloc o, h.hw.alloc h.hw.size o⟩
theorem start_row (w : World) (key : List Nat) : ((w.alloc (.cells (arrV key) 23)).alloc (.cells #[] 27)).ownsRow w.heap.size 27 1 (.slice (some ⟨w.heap.size + 1, 0, none⟩) 0 0) 0 [] := by
  have := World.ownsRow_lit (base := w.heap.size) (e := 27) (size := 1) (w.alloc (.cells (arrV key) 23)) #[] 0 (by simp) (by unfold maxLen; omega) rfl
  rw [show (w.alloc (.cells (arrV key) 23)).heap.size = w.heap.size + 1 by simp] at this
  exact this
theorem WSt.next {w : World} {key : List Nat} {gt gt3 p c c3 : Nat} {vs vs3 : List Value} {V W3 : World} (h : WSt w key gt p c vs V) (hi : WIn W3 w.heap.size (some ⟨gt3, 0, none⟩) (p + 1) c3 (wd key) vs3) (hg : V.grownBy W3 (some gt)) (hB : ∀ g' t xs', t ≠ 27 → Blk V g' t xs' → Blk W3 g' t xs') : WSt w key gt3 (p + 1) c3 vs3 W3 :=
  ⟨hB _ _ _ (by decide) h.hk, hi, h.hw.grown hg h.hw.size (fun k hk => (h.hi.top.lt k hk).1)⟩
def WoRel (w : World) (key : List Nat) (s x i : Value) (wr : World) : Prop :=
  ∃ p gt c vs, p ≤ 44 ∧ i = .int .i64 (p : Nat) ∧ x = .int .u8 (xp key (p - 4) : Nat) ∧ s = .slice (some ⟨gt, 0, none⟩) p c ∧ WSt w key gt p c vs wr
theorem WSt.top_lt {w : World} {key : List Nat} {gt p c : Nat} {vs : List Value} {V : World} (h : WSt w key gt p c vs V) : gt < V.heap.size := (h.hi.top.lt gt rfl).2

/-- What is kept through the making of a word of the key's own. -/
structure T7 (w : World) (key : List Nat) (W : World) : Prop where
  hk : Blk W w.heap.size 23 key
theorem T7.all {w : World} {key : List Nat} {W : World} (h : T7 w key W) (lk : key.length = 16) (p : Nat) (hp : p < 4) (x0 x1 x2 x3 : Nat) (e0 : key.getD (4 * p) 0 = x0) (e1 : key.getD (4 * p + 1) 0 = x1) (e2 : key.getD (4 * p + 2) 0 = x2) (e3 : key.getD (4 * p + 3) 0 = x3) :
    W.cell? ⟨w.heap.size, 4 * p, none⟩ = some (.int .u8 (x0 : Int)) ∧ W.cell? ⟨w.heap.size, 4 * p + 1, none⟩ = some (.int .u8 (x1 : Int)) ∧ W.cell? ⟨w.heap.size, 4 * p + 2, none⟩ = some (.int .u8 (x2 : Int)) ∧ W.cell? ⟨w.heap.size, 4 * p + 3, none⟩ = some (.int .u8 (x3 : Int)) ∧ T7 w key W := by
  subst e0 e1 e2 e3
  exact ⟨h.hk.cell _ (by omega), h.hk.cell _ (by omega), h.hk.cell _ (by omega), h.hk.cell _ (by omega), h⟩
theorem T7.alloc {w : World} {key : List Nat} {W : World} (h : T7 w key W) (o : Obj) : T7 w key (W.alloc o) := ⟨h.hk.alloc o⟩
theorem T7.app {w : World} {key : List Nat} {W W3 : World} (h : T7 w key W) (hB : ∀ g' t xs', t ≠ 27 → Blk W g' t xs' → Blk W3 g' t xs') : T7 w key W3 := ⟨hB _ _ _ (by decide) h.hk⟩

/-- What is kept through the turning of a word. -/
structure T10 (w : World) (key : List Nat) (gl : Nat) (ys : List Nat) (W : World) : Prop where
  hl : Blk W gl 5 ys
  hw : Below w.heap.size w W
theorem T10.all {w : World} {key : List Nat} {gl : Nat} {W : World} {y0 y1 y2 y3 bb ob cb : Nat} (h : T10 w key gl [y0, y1, y2, y3] W) (hx : U.Row w w.heap.size (some ⟨bb, ob, none⟩) 256 cb (boxTo 256)) (h0 : y0 < 256) (h1 : y1 < 256) (h2 : y2 < 256) (h3 : y3 < 256) (s0 s1 s2 s3 : Nat) (e0 : sub y0 = s0) (e1 : sub y1 = s1) (e2 : sub y2 = s2) (e3 : sub y3 = s3) :
    W.cell? ⟨gl, 0, none⟩ = some (.int .u8 (y0 : Int)) ∧ W.cell? ⟨gl, 1, none⟩ = some (.int .u8 (y1 : Int)) ∧ W.cell? ⟨gl, 2, none⟩ = some (.int .u8 (y2 : Int)) ∧ W.cell? ⟨gl, 3, none⟩ = some (.int .u8 (y3 : Int)) ∧ W.cell? ⟨bb, ob + y0, none⟩ = some (.int .u8 (s0 : Int)) ∧ W.cell? ⟨bb, ob + y1, none⟩ = some (.int .u8 (s1 : Int)) ∧ W.cell? ⟨bb, ob + y2, none⟩ = some (.int .u8 (s2 : Int)) ∧ W.cell? ⟨bb, ob + y3, none⟩ = some (.int .u8 (s3 : Int)) ∧ T10 w key gl [y0, y1, y2, y3] W := by
  subst e0 e1 e2 e3
  have hb : ∀ y, y < 256 → W.cell? ⟨bb, ob + y, none⟩ = some (.int .u8 ((sub y : Nat) : Int)) := fun y hy => by
    obtain ⟨_, hlt, hc⟩ := (hx.below h.hw).2.2.2.2.2 ⟨bb, ob, none⟩ rfl (by omega)
    have := hc y hy
    rw [boxTo_getD y hy] at this
    exact this
  exact ⟨h.hl.cell 0 (by simp), h.hl.cell 1 (by simp), h.hl.cell 2 (by simp), h.hl.cell 3 (by simp), hb _ h0, hb _ h1, hb _ h2, hb _ h3, h⟩
theorem T10.alloc {w : World} {key : List Nat} {gl : Nat} {ys : List Nat} {W : World} (h : T10 w key gl ys W) (o : Obj) : T10 w key gl ys (W.alloc o) := ⟨h.hl.alloc o, h.hw.alloc h.hw.size o⟩

/-- What is kept through the making of a word of two others. -/
structure T12 (w : World) (key : List Nat) (gt p0 g0 gl : Nat) (xs ys : List Nat) (W : World) : Prop where
  ht : W.cell? ⟨gt, p0, none⟩ = some (.slice (some ⟨g0, 0, none⟩) 4 4)
  hgt : gt < W.heap.size
  h0 : Blk W g0 5 xs
  hl : Blk W gl 5 ys
theorem T12.all {w : World} {key : List Nat} {gt p0 g0 gl : Nat} {W : World} {x0 x1 x2 x3 y0 y1 y2 y3 : Nat} (h : T12 w key gt p0 g0 gl [x0, x1, x2, x3] [y0, y1, y2, y3] W) :
    W.cell? ⟨gt, p0, none⟩ = some (.slice (some ⟨g0, 0, none⟩) 4 4) ∧ W.cell? ⟨g0, 0, none⟩ = some (.int .u8 (x0 : Int)) ∧ W.cell? ⟨g0, 1, none⟩ = some (.int .u8 (x1 : Int)) ∧ W.cell? ⟨g0, 2, none⟩ = some (.int .u8 (x2 : Int)) ∧ W.cell? ⟨g0, 3, none⟩ = some (.int .u8 (x3 : Int)) ∧ W.cell? ⟨gl, 0, none⟩ = some (.int .u8 (y0 : Int)) ∧ W.cell? ⟨gl, 1, none⟩ = some (.int .u8 (y1 : Int)) ∧ W.cell? ⟨gl, 2, none⟩ = some (.int .u8 (y2 : Int)) ∧ W.cell? ⟨gl, 3, none⟩ = some (.int .u8 (y3 : Int)) ∧ T12 w key gt p0 g0 gl [x0, x1, x2, x3] [y0, y1, y2, y3] W :=
  ⟨h.ht, h.h0.cell 0 (by simp), h.h0.cell 1 (by simp), h.h0.cell 2 (by simp), h.h0.cell 3 (by simp), h.hl.cell 0 (by simp), h.hl.cell 1 (by simp), h.hl.cell 2 (by simp), h.hl.cell 3 (by simp), h⟩
theorem T12.alloc {w : World} {key : List Nat} {gt p0 g0 gl : Nat} {xs ys : List Nat} {W : World} (h : T12 w key gt p0 g0 gl xs ys W) (o : Obj) : T12 w key gt p0 g0 gl xs ys (W.alloc o) :=
  ⟨(World.cell?_alloc_lt W o ⟨gt, p0, none⟩ h.hgt).trans h.ht, Nat.lt_of_lt_of_le h.hgt (by simp), h.h0.alloc o, h.hl.alloc o⟩
theorem T12.app {w : World} {key : List Nat} {gt p0 p g0 gl : Nat} {xs ys : List Nat} {W W3 : World} (h : T12 w key gt p0 g0 gl xs ys W) (hp : p0 < p) (hg : W.grownBy W3 (some gt)) (hB : ∀ g' t xs', t ≠ 27 → Blk W g' t xs' → Blk W3 g' t xs') (hc : ∀ j, j < p → W3.cell? ⟨gt, j, none⟩ = W.cell? ⟨gt, j, none⟩) : T12 w key gt p0 g0 gl xs ys W3 :=
  ⟨(hc p0 hp).trans h.ht, Nat.lt_of_lt_of_le h.hgt hg.size, hB _ _ _ (by decide) h.h0, hB _ _ _ (by decide) h.hl⟩
attribute [local irreducible] wd xp sub boxTo

set_option maxRecDepth 20000 in
set_option maxHeartbeats 3000000 in
theorem refWords_any (key : List Nat) (lk : key.length = 16) (bk : ∀ x ∈ key, x < 256) (bb ob cb : Nat) (w : World) (hx : U.Row w w.heap.size (some ⟨bb, ob, none⟩) 256 cb (boxTo 256)) :
    Calls Try.prog 22 #[.agg (arrV key), .slice (some ⟨bb, ob, none⟩) 256 cb] w fun e w' => ∃ gt c vs, e = .returned (.slice (some ⟨gt, 0, none⟩) 44 c) ∧ WIn w' w.heap.size (some ⟨gt, 0, none⟩) 44 c (wd key) vs ∧ Below w.heap.size w w' := by
  have HX := Lib.hid hx
  have LK := Lib.hid lk
  have BK := Lib.hid bk
  clear hx lk bk
  go_enter Try.func22, Try.ntmps22
  go_wp2
  go_loopw [5, 6, 7] (WoRel w key) (fun _ _ i _ => 44 - (intOf i).toNat)
  case atStart => exact ⟨0, _, 0, [], Nat.zero_le _, rfl, by rw [xp_zero]; rfl, rfl, ⟨(Blk.new w 23 key).alloc _, ⟨start_row w key, fun j hj => absurd hj (Nat.not_lt_zero _)⟩, ((Below.refl _ _).alloc (Nat.le_refl _) _).alloc (by simp) _⟩⟩
  case round =>
    obtain ⟨p, gt, c, vs, hp, rfl, rfl, rfl, hS⟩ := hrel
    have HS := Lib.hid hS
    clear hS
    by_cases hlt : p < 44
    · by_cases h4 : p < 4
      · have EW := Lib.hid (wd_key key LK.out BK.out p h4)
        have XP : Hid (xp key (p + 1 - 4) = xp key (p - 4)) := by rw [show p + 1 - 4 = p - 4 by omega]; exact rfl
        generalize hx0 : key.getD (4 * p) 0 = x0 at *
        generalize hx1 : key.getD (4 * p + 1) 0 = x1 at *
        generalize hx2 : key.getD (4 * p + 2) 0 = x2 at *
        generalize hx3 : key.getD (4 * p + 3) 0 = x3 at *
        have K7 : Hid (∀ W, T7 w key W → W.cell? ⟨w.heap.size, 4 * p, none⟩ = some (.int .u8 (x0 : Int)) ∧ W.cell? ⟨w.heap.size, 4 * p + 1, none⟩ = some (.int .u8 (x1 : Int)) ∧ W.cell? ⟨w.heap.size, 4 * p + 2, none⟩ = some (.int .u8 (x2 : Int)) ∧ W.cell? ⟨w.heap.size, 4 * p + 3, none⟩ = some (.int .u8 (x3 : Int)) ∧ T7 w key W) := fun W h => h.all LK.out p h4 x0 x1 x2 x3 hx0 hx1 hx2 hx3
        clear hx0 hx1 hx2 hx3
        generalize xp key (p - 4) = px at *
        have q0 : IntKind.i64.wrap (4 * (p : Int)) = 4 * (p : Int) := IntWalk.i64_in _ (by omega)
        have q1 : IntKind.i64.wrap (4 * (p : Int) + 1) = 4 * (p : Int) + 1 := IntWalk.i64_in _ (by omega)
        have q2 : IntKind.i64.wrap (4 * (p : Int) + 2) = 4 * (p : Int) + 2 := IntWalk.i64_in _ (by omega)
        have q3 : IntKind.i64.wrap (4 * (p : Int) + 3) = 4 * (p : Int) + 3 := IntWalk.i64_in _ (by omega)
        have r0 : (4 * (p : Int)).toNat = 4 * p := by omega
        have r1 : (4 * (p : Int) + 1).toNat = 4 * p + 1 := by omega
        have r2 : (4 * (p : Int) + 2).toNat = 4 * p + 2 := by omega
        have r3 : (4 * (p : Int) + 3).toNat = 4 * p + 3 := by omega
        have b0 : (0 : Int) ≤ 4 * (p : Int) ∧ 4 * (p : Int) < 16 := by omega
        have b1 : (0 : Int) ≤ 4 * (p : Int) + 1 ∧ 4 * (p : Int) + 1 < 16 := by omega
        have b2 : (0 : Int) ≤ 4 * (p : Int) + 2 ∧ 4 * (p : Int) + 2 < 16 := by omega
        have b3 : (0 : Int) ≤ 4 * (p : Int) + 3 ∧ 4 * (p : Int) + 3 < 16 := by omega
        go_wp2
        have H2 := Lib.hid HS.out.drew
        have U0 : Hid (T7 w key wr.drew) := ⟨H2.out.hk⟩
        clear HS
        go_region_held3 (fun W => W.cell? ⟨w.heap.size, 4 * p, none⟩ = some (.int .u8 (x0 : Int)) ∧ W.cell? ⟨w.heap.size, 4 * p + 1, none⟩ = some (.int .u8 (x1 : Int)) ∧ W.cell? ⟨w.heap.size, 4 * p + 2, none⟩ = some (.int .u8 (x2 : Int)) ∧ W.cell? ⟨w.heap.size, 4 * p + 3, none⟩ = some (.int .u8 (x3 : Int)) ∧ T7 w key W)
          (first | exact K7.out _ U0.out | exact K7.out _ (U0.out.alloc _) | exact K7.out _ ((U0.out.alloc _).alloc _) | exact K7.out _ (((U0.out.alloc _).alloc _).app hB3))
          (first | (refine step_append_word _ rfl _ _ rfl w.heap.size gt p c (wd key) vs rfl ((H2.out.alloc _).alloc _).hi (wr.drew.heap.size + 1) wr.drew.heap.size rfl (cell_new _ _ _ _) (by rw [EW.out]; exact word_new wr.drew x0 x1 x2 x3 _) H2.out.hw.size (by omega) (by have := H2.out.hw.size; simp at this ⊢; omega) ?_; intro gt3 c3 w3 vs3 hi3 hg3 hB3 hc3))
        have H3 := Lib.hid (((H2.out.alloc _).alloc _).next hi3 hg3 hB3)
        clear hi3 hg3 hB3 hc3
        go_wp2
        go_roundw
        case rel => exact ⟨p + 1, gt3, c3, vs3, hlt, by go_num, by rw [XP.out], rfl, H3.out⟩
        case measure => simp [intOf]; omega
      · have hp0 : p - 4 < p := by omega
        have hp3 : p - 1 < p := by omega
        obtain ⟨g0, ct0, hg0, hb0⟩ := HS.out.hi.word (p - 4) hp0
        obtain ⟨gl, ctl, hgl, hbl⟩ := HS.out.hi.word (p - 1) hp3
        have LX := Lib.hid (wd_len key LK.out BK.out (p - 4) (by omega))
        have LY := Lib.hid (wd_len key LK.out BK.out (p - 1) (by omega))
        have BX := Lib.hid (getD_lt _ (wd_lt key LK.out BK.out (p - 4)))
        have BY := Lib.hid (getD_lt _ (wd_lt key LK.out BK.out (p - 1)))
        rw [four_of _ LX.out] at hb0
        rw [four_of _ LY.out] at hbl
        have lx0 := BX.out 0
        have lx1 := BX.out 1
        have lx2 := BX.out 2
        have lx3 := BX.out 3
        have ly0 := BY.out 0
        have ly1 := BY.out 1
        have ly2 := BY.out 2
        have ly3 := BY.out 3
        have PT := Lib.hid (fun h => wd_turned key LK.out BK.out (p - 4) (by omega) h)
        have PP := Lib.hid (fun h => wd_plain key LK.out BK.out (p - 4) (by omega) h)
        have X1 := Lib.hid (xp_same key (p - 4))
        have X2 := Lib.hid (xp_next key (p - 4))
        have lpx := xp_lt key LK.out BK.out (p - 4) (by omega)
        rw [show p - 4 + 4 = p by omega, show p - 4 + 3 = p - 1 by omega] at PT PP
        rw [show p - 4 + 1 = p + 1 - 4 by omega] at X1 X2
        have r1 : ((p : Int) - 1).toNat = p - 1 := by omega
        have r4 : ((p : Int) - 4).toNat = p - 4 := by omega
        have b1 : (0 : Int) ≤ (p : Int) - 1 ∧ (p : Int) - 1 < (p : Int) := by omega
        have b4 : (0 : Int) ≤ (p : Int) - 4 ∧ (p : Int) - 4 < (p : Int) := by omega
        have q1 : IntKind.i64.wrap ((p : Int) - 1) = (p : Int) - 1 := IntWalk.i64_in _ (by omega)
        have q4 : IntKind.i64.wrap ((p : Int) - 4) = (p : Int) - 4 := IntWalk.i64_in _ (by omega)
        clear LX LY BX BY
        generalize (wd key (p - 4)).getD 0 0 = x0 at *
        generalize (wd key (p - 4)).getD 1 0 = x1 at *
        generalize (wd key (p - 4)).getD 2 0 = x2 at *
        generalize (wd key (p - 4)).getD 3 0 = x3 at *
        generalize (wd key (p - 1)).getD 0 0 = y0 at *
        generalize (wd key (p - 1)).getD 1 0 = y1 at *
        generalize (wd key (p - 1)).getD 2 0 = y2 at *
        generalize (wd key (p - 1)).getD 3 0 = y3 at *
        generalize xp key (p - 4) = px at *
        have HB0 := Lib.hid hb0
        have HBL := Lib.hid hbl
        have CT0 := Lib.hid ct0
        have hgtl := HS.out.top_lt
        clear hb0 hbl ct0 hg0 hgl
        generalize hpp0 : p - 4 = p0 at *
        generalize hpp3 : p - 1 = p3 at *
        by_cases hz4 : p % 4 = 0
        · have hz : (((p : Int) % 4) == 0) = true := by simp only [beq_iff_eq]; omega
          have EW0 := PT.out (by omega)
          have XP := Lib.hid (X2.out (by omega))
          have xs1 := u8_xor_nat (sub y1) px (sub_lt y1) lpx
          have ls1 := Nat.xor_lt_two_pow (n := 8) (sub_lt y1) lpx
          have l0 := sub_lt y0
          have l2 := sub_lt y2
          have l3 := sub_lt y3
          have RT : Hid (∀ W, Calls Try.prog 34 #[.int .u8 px, .int .u8 2] W fun e w' => e = .returned (.int .u8 (dbl px : Nat)) ∧ W = w') := fun W => by
            have := refTimes_any px 2 W lpx (by omega)
            rw [times_x2 px lpx] at this
            exact this
          have K10 : Hid (∀ W s0 s1 s2 s3, sub y0 = s0 → sub y1 = s1 → sub y2 = s2 → sub y3 = s3 → T10 w key gl [y0, y1, y2, y3] W → W.cell? ⟨gl, 0, none⟩ = some (.int .u8 (y0 : Int)) ∧ W.cell? ⟨gl, 1, none⟩ = some (.int .u8 (y1 : Int)) ∧ W.cell? ⟨gl, 2, none⟩ = some (.int .u8 (y2 : Int)) ∧ W.cell? ⟨gl, 3, none⟩ = some (.int .u8 (y3 : Int)) ∧ W.cell? ⟨bb, ob + y0, none⟩ = some (.int .u8 (s0 : Int)) ∧ W.cell? ⟨bb, ob + y1, none⟩ = some (.int .u8 (s1 : Int)) ∧ W.cell? ⟨bb, ob + y2, none⟩ = some (.int .u8 (s2 : Int)) ∧ W.cell? ⟨bb, ob + y3, none⟩ = some (.int .u8 (s3 : Int)) ∧ T10 w key gl [y0, y1, y2, y3] W) := fun W s0 s1 s2 s3 a0 a1 a2 a3 h => h.all HX.out ly0 ly1 ly2 ly3 s0 s1 s2 s3 a0 a1 a2 a3
          have K10' := Lib.hid (fun W => K10.out W _ _ _ _ rfl rfl rfl rfl)
          clear K10
          generalize sub y0 = s0 at *
          generalize sub y1 = s1 at *
          generalize sub y2 = s2 at *
          generalize sub y3 = s3 at *
          generalize s1 ^^^ px = z0 at *
          have e0 := u8_xor_nat x0 z0 lx0 ls1
          have e1 := u8_xor_nat x1 s2 lx1 l2
          have e2 := u8_xor_nat x2 s3 lx2 l3
          have e3 := u8_xor_nat x3 s0 lx3 l0
          generalize x0 ^^^ z0 = n0 at *
          generalize x1 ^^^ s2 = n1 at *
          generalize x2 ^^^ s3 = n2 at *
          generalize x3 ^^^ s0 = n3 at *
          generalize dbl px = px2 at *
          have EW := Lib.hid EW0
          clear EW0 PT PP X1 X2 hz4
          have c0 : (0 : Int) ≤ (y0 : Int) ∧ (y0 : Int) < 256 := by omega
          have c1 : (0 : Int) ≤ (y1 : Int) ∧ (y1 : Int) < 256 := by omega
          have c2 : (0 : Int) ≤ (y2 : Int) ∧ (y2 : Int) < 256 := by omega
          have c3 : (0 : Int) ≤ (y3 : Int) ∧ (y3 : Int) < 256 := by omega
          have c4 : (y0 : Int) < 256 := by omega
          have c5 : (y1 : Int) < 256 := by omega
          have c6 : (y2 : Int) < 256 := by omega
          have c7 : (y3 : Int) < 256 := by omega
          go_wp2
          have U0 : Hid (T10 w key gl [y0, y1, y2, y3] wr.drew) := ⟨HBL.out, HS.out.drew.hw⟩
          go_region_held3 (fun W => W.cell? ⟨gl, 0, none⟩ = some (.int .u8 (y0 : Int)) ∧ W.cell? ⟨gl, 1, none⟩ = some (.int .u8 (y1 : Int)) ∧ W.cell? ⟨gl, 2, none⟩ = some (.int .u8 (y2 : Int)) ∧ W.cell? ⟨gl, 3, none⟩ = some (.int .u8 (y3 : Int)) ∧ W.cell? ⟨bb, ob + y0, none⟩ = some (.int .u8 (s0 : Int)) ∧ W.cell? ⟨bb, ob + y1, none⟩ = some (.int .u8 (s1 : Int)) ∧ W.cell? ⟨bb, ob + y2, none⟩ = some (.int .u8 (s2 : Int)) ∧ W.cell? ⟨bb, ob + y3, none⟩ = some (.int .u8 (s3 : Int)) ∧ T10 w key gl [y0, y1, y2, y3] W)
            (first | exact K10'.out _ U0.out | exact K10'.out _ (U0.out.alloc _))
            (first | fail)
          rename_i hheld
          clear hheld K10' ctl
          have H2 := Lib.hid (HS.out.alloc (Obj.cells #[Value.int IntKind.u8 z0, Value.int IntKind.u8 s2, Value.int IntKind.u8 s3, Value.int IntKind.u8 s0] 5)).drew
          have U1 : Hid (T12 w key gt p0 g0 wr.heap.size [x0, x1, x2, x3] [z0, s2, s3, s0] (wr.alloc (Obj.cells #[Value.int IntKind.u8 z0, Value.int IntKind.u8 s2, Value.int IntKind.u8 s3, Value.int IntKind.u8 s0] 5)).drew.drew) := ⟨(World.cell?_alloc_lt wr (Obj.cells #[Value.int IntKind.u8 z0, Value.int IntKind.u8 s2, Value.int IntKind.u8 s3, Value.int IntKind.u8 s0] 5) ⟨gt, p0, none⟩ hgtl).trans CT0.out, (HS.out.alloc (Obj.cells #[Value.int IntKind.u8 z0, Value.int IntKind.u8 s2, Value.int IntKind.u8 s3, Value.int IntKind.u8 s0] 5)).top_lt, HB0.out.alloc (Obj.cells #[Value.int IntKind.u8 z0, Value.int IntKind.u8 s2, Value.int IntKind.u8 s3, Value.int IntKind.u8 s0] 5), Blk.new wr 5 [z0, s2, s3, s0]⟩
          clear HS HB0 CT0 hgtl U0 HBL c0 c1 c2 c3 c4 c5 c6 c7 xs1 ls1 l0 l2 l3 lpx lx0 lx1 lx2 lx3 ly0 ly1 ly2 ly3 hz
          go_wp2_with (first | (go_at_call 34; refine (RT.out _).mono ?_; rintro e X1 ⟨rfl, rfl⟩))
          generalize (wr.alloc (Obj.cells #[Value.int IntKind.u8 z0, Value.int IntKind.u8 s2, Value.int IntKind.u8 s3, Value.int IntKind.u8 s0] 5)).drew = V at *
          generalize wr.heap.size = gn at *
          have H2d := Lib.hid H2.out.drew
          go_region_held3 (fun W => W.cell? ⟨gt, p0, none⟩ = some (.slice (some ⟨g0, 0, none⟩) 4 4) ∧ W.cell? ⟨g0, 0, none⟩ = some (.int .u8 (x0 : Int)) ∧ W.cell? ⟨g0, 1, none⟩ = some (.int .u8 (x1 : Int)) ∧ W.cell? ⟨g0, 2, none⟩ = some (.int .u8 (x2 : Int)) ∧ W.cell? ⟨g0, 3, none⟩ = some (.int .u8 (x3 : Int)) ∧ W.cell? ⟨gn, 0, none⟩ = some (.int .u8 (z0 : Int)) ∧ W.cell? ⟨gn, 1, none⟩ = some (.int .u8 (s2 : Int)) ∧ W.cell? ⟨gn, 2, none⟩ = some (.int .u8 (s3 : Int)) ∧ W.cell? ⟨gn, 3, none⟩ = some (.int .u8 (s0 : Int)) ∧ T12 w key gt p0 g0 gn [x0, x1, x2, x3] [z0, s2, s3, s0] W)
            (first | exact U1.out.all | exact (U1.out.alloc _).all | exact ((U1.out.alloc _).alloc _).all | exact (((U1.out.alloc _).alloc _).app hp0 hg3 hB3 hc3).all)
            (first | (refine step_append_word _ rfl _ _ rfl w.heap.size gt p c (wd key) vs rfl ((H2d.out.alloc _).alloc _).hi (V.drew.heap.size + 1) V.drew.heap.size rfl (cell_new _ _ _ _) (by rw [EW.out]; exact word_new V.drew n0 n1 n2 n3 _) H2d.out.hw.size (by omega) (by have := H2d.out.hw.size; simp at this ⊢; omega) ?_; intro gt3 c3 w3 vs3 hi3 hg3 hB3 hc3))
          have H3 := Lib.hid (((H2d.out.alloc _).alloc _).next hi3 hg3 hB3)
          clear hi3 hg3 hB3 hc3
          go_wp2
          go_roundw
          case rel => exact ⟨p + 1, gt3, c3, vs3, hlt, by go_num, by rw [XP.out], rfl, H3.out⟩
          case measure => simp [intOf]; omega
        · have hz : (((p : Int) % 4) == 0) = false := by simp only [beq_eq_false_iff_ne, ne_eq]; omega
          have EW := Lib.hid (PP.out (by omega))
          have XP := Lib.hid (X1.out (by omega))
          have e0 := u8_xor_nat x0 y0 lx0 ly0
          have e1 := u8_xor_nat x1 y1 lx1 ly1
          have e2 := u8_xor_nat x2 y2 lx2 ly2
          have e3 := u8_xor_nat x3 y3 lx3 ly3
          generalize x0 ^^^ y0 = n0 at *
          generalize x1 ^^^ y1 = n1 at *
          generalize x2 ^^^ y2 = n2 at *
          generalize x3 ^^^ y3 = n3 at *
          clear PT PP X1 X2 hz4
          have U1 : Hid (T12 w key gt p0 g0 gl [x0, x1, x2, x3] [y0, y1, y2, y3] wr.drew) := ⟨CT0.out, hgtl, HB0.out, HBL.out⟩
          have H2d := Lib.hid HS.out.drew
          clear HS HB0 CT0 hgtl HBL lx0 lx1 lx2 lx3 ly0 ly1 ly2 ly3 lpx
          go_wp2
          generalize wr = V at *
          go_region_held3 (fun W => W.cell? ⟨gt, p0, none⟩ = some (.slice (some ⟨g0, 0, none⟩) 4 4) ∧ W.cell? ⟨g0, 0, none⟩ = some (.int .u8 (x0 : Int)) ∧ W.cell? ⟨g0, 1, none⟩ = some (.int .u8 (x1 : Int)) ∧ W.cell? ⟨g0, 2, none⟩ = some (.int .u8 (x2 : Int)) ∧ W.cell? ⟨g0, 3, none⟩ = some (.int .u8 (x3 : Int)) ∧ W.cell? ⟨gl, 0, none⟩ = some (.int .u8 (y0 : Int)) ∧ W.cell? ⟨gl, 1, none⟩ = some (.int .u8 (y1 : Int)) ∧ W.cell? ⟨gl, 2, none⟩ = some (.int .u8 (y2 : Int)) ∧ W.cell? ⟨gl, 3, none⟩ = some (.int .u8 (y3 : Int)) ∧ T12 w key gt p0 g0 gl [x0, x1, x2, x3] [y0, y1, y2, y3] W)
            (first | exact U1.out.all | exact (U1.out.alloc _).all | exact ((U1.out.alloc _).alloc _).all | exact (((U1.out.alloc _).alloc _).app hp0 hg3 hB3 hc3).all)
            (first | (refine step_append_word _ rfl _ _ rfl w.heap.size gt p c (wd key) vs rfl ((H2d.out.alloc _).alloc _).hi (V.drew.heap.size + 1) V.drew.heap.size rfl (cell_new _ _ _ _) (by rw [EW.out]; exact word_new V.drew n0 n1 n2 n3 _) H2d.out.hw.size (by omega) (by have := H2d.out.hw.size; simp at this ⊢; omega) ?_; intro gt3 c3 w3 vs3 hi3 hg3 hB3 hc3))
          have H3 := Lib.hid (((H2d.out.alloc _).alloc _).next hi3 hg3 hB3)
          clear hi3 hg3 hB3 hc3
          go_wp2
          go_roundw
          case rel => exact ⟨p + 1, gt3, c3, vs3, hlt, by go_num, by rw [XP.out], rfl, H3.out⟩
          case measure => simp [intOf]; omega
    · have e44 : p = 44 := by omega
      have HF : Hid (WIn wr w.heap.size (some ⟨gt, 0, none⟩) 44 c (wd key) vs) := by rw [← e44]; exact HS.out.hi
      have HW := Lib.hid HS.out.hw
      clear HS
      go_wp2
      go_ret
      exact ⟨gt, c, vs, by rw [← e44]; rfl, HF.out, HW.out⟩
end Go.Proofs.Ytfbgpfiodgibbaa.A
namespace Go.Proofs.Ytfbgpfiodgibbaa.A
open Go.RowKit
set_option linter.unusedVariables false

/-- Bytes, words of a round added: the first k. -/
def arTo (xs : List Nat) (ws : Nat → List Nat) (r k : Nat) : List Nat := (List.range k).map fun i => xs.getD i 0 ^^^ (ws (4 * r + i / 4)).getD (i % 4) 0
theorem arTo_succ (xs : List Nat) (ws : Nat → List Nat) (r k : Nat) : arTo xs ws r (k + 1) = arTo xs ws r k ++ [xs.getD k 0 ^^^ (ws (4 * r + k / 4)).getD (k % 4) 0] := by unfold arTo; rw [List.range_succ, List.map_append]; rfl
theorem arTo_length (xs : List Nat) (ws : Nat → List Nat) (r k : Nat) : (arTo xs ws r k).length = k := by simp [arTo]
structure TB (w W : World) : Prop where
  hw : Below w.heap.size w W
theorem TB.alloc {w W : World} (h : TB w W) (o : Obj) : TB w (W.alloc o) := ⟨h.hw.alloc h.hw.size o⟩
def ArRel (w : World) (xs : List Nat) (ws : Nat → List Nat) (r : Nat) (s i : Value) (wr : World) : Prop :=
  ∃ k A c, k ≤ 16 ∧ i = .int .i64 (k : Nat) ∧ s = .slice A k c ∧ U.Own wr w.heap.size A k c (arTo xs ws r k) ∧ Below w.heap.size w wr
attribute [local irreducible] arTo

set_option maxRecDepth 20000 in
set_option maxHeartbeats 1000000 in
theorem refAdd_any (bs os cs : Nat) (xs : List Nat) (base gt c2 : Nat) (ws : Nat → List Nat) (vs : List Value) (r : Nat) (w : World) (hx : U.Row w w.heap.size (some ⟨bs, os, none⟩) 16 cs xs) (hi : WIn w base (some ⟨gt, 0, none⟩) 44 c2 ws vs) (hr : r ≤ 10) (hws : ∀ j, j < 44 → (ws j).length = 4 ∧ ∀ x ∈ ws j, x < 256) :
    Calls Try.prog 30 #[.slice (some ⟨bs, os, none⟩) 16 cs, .slice (some ⟨gt, 0, none⟩) 44 c2, .int .i64 r] w (U.GivesRow w (arTo xs ws r 16)) := by
  have HX := Lib.hid hx
  have HI := Lib.hid hi
  have HWS := Lib.hid hws
  clear hx hi hws
  have E0 : Hid (arTo xs ws r 0 = []) := by unfold arTo; exact rfl
  go_enter Try.func30, Try.ntmps30
  go_wp2
  go_loopw [7, 8] (ArRel w xs ws r) (fun _ i _ => 16 - (intOf i).toNat)
  case atStart => exact ⟨0, _, 0, Nat.zero_le _, rfl, rfl, by rw [E0.out]; exact U.Own.empty (Nat.le_refl _), (Below.refl _ _).alloc (Nat.le_refl _) _⟩
  case round =>
    obtain ⟨k, A, c, hk, rfl, rfl, hO, hb⟩ := hrel
    have HO := Lib.hid hO
    have HB := Lib.hid hb
    clear hO hb
    by_cases hlt : k < 16
    · have ES := Lib.hid (arTo_succ xs ws r k)
      obtain ⟨_, hbs, hcx⟩ := HX.out.2.2.2.2.2 ⟨bs, os, none⟩ rfl (by omega)
      have cx := hcx k hlt
      have lx := HX.out.lt k
      have hj : 4 * r + k / 4 < 44 := by omega
      obtain ⟨gj, ct, hgj, hBj⟩ := HI.out.word (4 * r + k / 4) hj
      have cy := hBj.cell (k % 4) (by rw [(HWS.out _ hj).1]; omega)
      have ly := getD_lt _ (HWS.out _ hj).2 (k % 4)
      have hgt := (HI.out.top.lt gt rfl).2
      have hgl := hBj.lt
      simp only at cx hbs
      have q1 : IntKind.i64.wrap (4 * (r : Int)) = 4 * (r : Int) := IntWalk.i64_in _ (by omega)
      have q2 : IntKind.i64.wrap (4 * (r : Int) + (k : Int) / 4) = 4 * (r : Int) + (k : Int) / 4 := IntWalk.i64_in _ (by omega)
      have q3 : ((k : Int)).tmod 4 = (k : Int) % 4 := Int.tmod_eq_emod_of_nonneg (by omega)
      have q4 : ((k : Int)).tdiv 4 = (k : Int) / 4 := Int.tdiv_eq_ediv_of_nonneg (by omega)
      have q5 : (4 * (r : Int) + (k : Int) / 4).toNat = 4 * r + k / 4 := by omega
      have q6 : ((k : Int) % 4).toNat = k % 4 := by omega
      have b1 : (0 : Int) ≤ 4 * (r : Int) + (k : Int) / 4 ∧ 4 * (r : Int) + (k : Int) / 4 < 44 := by omega
      have b2 : (0 : Int) ≤ (k : Int) % 4 ∧ (k : Int) % 4 < 4 := by omega
      have b3 : (0 : Int) ≤ (k : Int) ∧ (k : Int) < 16 := by omega
      have q7 : IntKind.i64.wrap ((k : Int) / 4) = (k : Int) / 4 := IntWalk.i64_in _ (by omega)
      have q8 : IntKind.i64.wrap ((k : Int) % 4) = (k : Int) % 4 := IntWalk.i64_in _ (by omega)
      have hxy := u8_xor_nat _ _ lx ly
      have lxy := Nat.xor_lt_two_pow (n := 8) lx ly
      generalize xs.getD k 0 = x at *
      generalize (ws (4 * r + k / 4)).getD (k % 4) 0 = y at *
      generalize x ^^^ y = z at *
      generalize 4 * r + k / 4 = j at *
      generalize k % 4 = t at *
      have KK : Hid (∀ W, TB w W → W.cell? ⟨bs, os + k, none⟩ = some (.int .u8 (x : Int)) ∧ W.cell? ⟨gt, j, none⟩ = some (.slice (some ⟨gj, 0, none⟩) 4 4) ∧ W.cell? ⟨gj, t, none⟩ = some (.int .u8 (y : Int)) ∧ TB w W) := fun W h => ⟨(h.hw.cell (p := ⟨bs, os + k, none⟩) hbs).trans cx, (h.hw.cell (p := ⟨gt, j, none⟩) hgt).trans ct, (h.hw.cell (p := ⟨gj, t, none⟩) hgl).trans cy, h⟩
      clear cx ct cy hcx hbs hgt hgl hgj hBj lx ly hj
      have T0 : Hid (TB w wr.drew) := ⟨below_drewN (k := 1) HB.out⟩
      have HOd := Lib.hid (HO.out.drewN 1)
      have ZS := Lib.hid HB.out.size
      go_wp2
      go_region_held3 (fun W => W.cell? ⟨bs, os + k, none⟩ = some (.int .u8 (x : Int)) ∧ W.cell? ⟨gt, j, none⟩ = some (.slice (some ⟨gj, 0, none⟩) 4 4) ∧ W.cell? ⟨gj, t, none⟩ = some (.int .u8 (y : Int)) ∧ TB w W)
        (first | exact KK.out _ T0.out | exact KK.out _ (T0.out.alloc _) | exact KK.out _ ⟨U.below_append T0.out.hw HO.out.drew hg3⟩)
        (first | (refine U.step_append_row _ rfl _ _ rfl w.heap.size A k c _ rfl (HO.out.drew.alloc _) (wr.drew.heap.size + 1) ⟨wr.drew.heap.size, 0, none⟩ 1 1 [z] rfl (U.Row.one wr.drew z _ rfl lxy) (by omega) (by have := ZS.out; simp; omega) ?_; intro A3 c3 w3 hO3 hg3))
      have HO3 := Lib.hid hO3
      have HB3 := Lib.hid (U.below_append T0.out.hw HO.out.drew hg3)
      clear hO3 hg3
      go_wp2
      go_roundw
      case rel => exact ⟨k + 1, A3, c3, hlt, by go_num, rfl, by rw [ES.out]; exact HO3.out, HB3.out⟩
      case measure => simp [intOf]; omega
    · have e : k = 16 := by omega
      have HO2 : Hid (U.Own wr w.heap.size A k c (arTo xs ws r 16)) := by rw [show arTo xs ws r 16 = arTo xs ws r k by rw [e]]; exact HO.out
      have LL : Hid ((arTo xs ws r 16).length = k) := by rw [arTo_length, e]; exact rfl
      clear e HO
      go_wp2
      go_ret
      refine ⟨A, c, ?_, ?_, HB.out⟩
      · rw [LL.out]; rfl
      · rw [LL.out]; exact HO2.out
end Go.Proofs.Ytfbgpfiodgibbaa.A
namespace Go.Proofs.Ytfbgpfiodgibbaa.A
open Go.RowKit
set_option linter.unusedVariables false

theorem own_set {w : World} {base g n c : Nat} {xs : List Nat} (h : U.Own w base (some ⟨g, 0, none⟩) n c xs) (j x : Nat) (hx : x < 256) : U.Own (w.setCell ⟨g, j, none⟩ (.int .u8 (x : Int))) base (some ⟨g, 0, none⟩) n c (xs.set j x) := by
  refine ⟨by rw [List.length_set]; exact h.1, set_lt _ h.2.1 j x hx, ?_⟩
  have := h.2.2.stored j (.int .u8 (x : Int))
  have e : U.vals (xs.set j x) = (U.vals xs).set j (.int .u8 (x : Int)) := by simp [U.vals, List.map_set]
  rw [e]; exact this.1
theorem own_cellAt {w : World} {base g n c : Nat} {xs : List Nat} (h : U.Own w base (some ⟨g, 0, none⟩) n c xs) (j : Nat) (hj : j < n) : w.cell? ⟨g, j, none⟩ = some (.int .u8 ((xs.getD j 0 : Nat) : Int)) := by
  rw [h.2.2.cellAt j (by omega)]
  exact U.vals_getElem? xs j (by rw [h.1]; exact hj)
/-- The bytes behind m steps. -/
def shR (xs : List Nat) : Nat → List Nat
  | 0 => List.replicate 16 0
  | m + 1 => (shR xs m).set (m / 4 + 4 * (m % 4)) (sub (xs.getD (m / 4 + 4 * ((m % 4 + m / 4) % 4)) 0))
theorem shR_length (xs : List Nat) (m : Nat) : (shR xs m).length = 16 := by
  induction m with
  | zero => simp [shR]
  | succ m ih => rw [shR, List.length_set]; exact ih
theorem shR_getD (xs : List Nat) (m : Nat) (hm : m ≤ 16) (t : Nat) (ht : t < 16) : (shR xs m).getD t 0 = if 4 * (t % 4) + t / 4 < m then sub (xs.getD (from_ t) 0) else 0 := by
  induction m with
  | zero => rw [if_neg (by omega), shR, List.getD_eq_getElem?_getD, List.getElem?_replicate, if_pos ht]; rfl
  | succ m ih =>
    rw [shR, getD_set2, ih (by omega), shR_length]
    by_cases e : t = m / 4 + 4 * (m % 4)
    · have e1 : 4 * (t % 4) + t / 4 = m := by omega
      rw [if_pos ⟨e, by omega⟩, if_pos (by omega)]
      unfold from_
      have e2 : t % 4 = m / 4 := by omega
      have e3 : t / 4 = m % 4 := by omega
      rw [e2, e3]
    · rw [if_neg (by omega)]
      by_cases h2 : 4 * (t % 4) + t / 4 < m
      · rw [if_pos h2, if_pos (by omega)]
      · rw [if_neg h2, if_neg (by omega)]
theorem shR_eq (key xs : List Nat) (hk : key.length = 16) (bk : ∀ x ∈ key, x < 256) (hx : xs.length = 16) (bx : ∀ x ∈ xs, x < 256) : shR xs 16 = shTo (stTo (cells key) xs 16) 16 := by
  refine list_ext _ _ (shR_length xs 16) (shTo_length _ 16) fun i hi => ?_
  have hf : from_ i < 16 := by unfold from_; omega
  rw [shR_getD xs 16 (by omega) i hi, if_pos (by omega), shTo_getD _ i hi, stTo_getD _ _ _ hx hf, cells_table key hk bk _ (getD_lt xs bx _)]
def ShRel (w : World) (xs : List Nat) (f : Nat → Nat) (i : Value) (wr : World) : Prop :=
  ∃ k, k ≤ 4 ∧ i = .int .i64 (k : Nat) ∧ U.Own wr w.heap.size (some ⟨w.heap.size, 0, none⟩) 16 16 (shR xs (f k)) ∧ Below w.heap.size w wr
theorem shR_step (xs : List Nat) (r c : Nat) (hc : c < 4) : shR xs (4 * r + (c + 1)) = (shR xs (4 * r + c)).set (r + 4 * c) (sub (xs.getD (r + 4 * ((c + r) % 4)) 0)) := by
  rw [show 4 * r + (c + 1) = (4 * r + c) + 1 by omega, shR, show (4 * r + c) / 4 = r by omega, show (4 * r + c) % 4 = c by omega]
attribute [local irreducible] shR sub boxTo

set_option maxRecDepth 20000 in
set_option maxHeartbeats 1000000 in
theorem refShift_any (bs os cs bb ob cb : Nat) (xs : List Nat) (w : World) (hx : U.Row w w.heap.size (some ⟨bs, os, none⟩) 16 cs xs) (hb : U.Row w w.heap.size (some ⟨bb, ob, none⟩) 256 cb (boxTo 256)) :
    Calls Try.prog 31 #[.slice (some ⟨bs, os, none⟩) 16 cs, .slice (some ⟨bb, ob, none⟩) 256 cb] w (U.GivesRow w (shR xs 16)) := by
  have HX := Lib.hid hx
  have HBX := Lib.hid hb
  clear hx hb
  have E0 : Hid (shR xs (4 * 0) = List.replicate 16 0) := by unfold shR; exact rfl
  go_enter Try.func31, Try.ntmps31
  go_wp2_with (first
    | (refine U.wpList_make_zeros _ rfl _ _ rfl w.heap.size 16 16 16 rfl rfl rfl rfl (by omega) (Nat.le_refl _) ?_; intro w1 hO1 hg1)
    | fail)
  have HO1 := Lib.hid hO1
  have HB1 := Lib.hid ((Below.refl w.heap.size w).grown hg1 (Nat.le_refl _) (fun k hk => by cases hk))
  clear hO1 hg1
  go_loopw [6] (ShRel w xs (fun k => 4 * k)) (fun i _ => 4 - (intOf i).toNat)
  case atStart => exact ⟨0, Nat.zero_le _, rfl, by show U.Own _ _ _ _ _ (shR xs (4 * 0)); rw [E0.out]; exact HO1.out, HB1.out⟩
  case round =>
    clear HO1 HB1
    obtain ⟨r, hr, rfl, hO, hB⟩ := hrel
    have HO := Lib.hid hO
    have HB := Lib.hid hB
    clear hO hB
    by_cases hlr : r < 4
    · go_wp2
      go_loopw [7] (ShRel w xs (fun k => 4 * r + k)) (fun i _ => 4 - (intOf i).toNat)
      case atStart => exact ⟨0, Nat.zero_le _, rfl, HO.out, HB.out⟩
      case round =>
        clear HO HB
        obtain ⟨c, hc, rfl, hO, hB⟩ := hrel
        have HO := Lib.hid hO
        have HB := Lib.hid hB
        clear hO hB
        by_cases hlc : c < 4
        · have ES := Lib.hid (shR_step xs r c hlc)
          have co := own_cellAt HO.out (r + 4 * c) (by omega)
          have fo := HO.out.2.2.frozenAt (r + 4 * c)
          obtain ⟨_, hbs, hcx⟩ := HX.out.2.2.2.2.2 ⟨bs, os, none⟩ rfl (by omega)
          obtain ⟨_, hbb, hcb⟩ := HBX.out.2.2.2.2.2 ⟨bb, ob, none⟩ rfl (by omega)
          have lx := HX.out.lt (r + 4 * ((c + r) % 4))
          have cx := (HB.out.cell (p := ⟨bs, os + (r + 4 * ((c + r) % 4)), none⟩) hbs).trans (hcx (r + 4 * ((c + r) % 4)) (by omega))
          have cb2 := (HB.out.cell (p := ⟨bb, ob + xs.getD (r + 4 * ((c + r) % 4)) 0, none⟩) hbb).trans (hcb (xs.getD (r + 4 * ((c + r) % 4)) 0) lx)
          rw [boxTo_getD _ lx] at cb2
          clear hcx hcb
          generalize xs.getD (r + 4 * ((c + r) % 4)) 0 = x at *
          have ls := sub_lt x
          generalize sub x = z at *
          have hq : (c + r) % 4 < 4 := by omega
          have r1 : ((r : Int) + 4 * (c : Int)).toNat = r + 4 * c := by omega
          have r2 : ((r : Int) + 4 * (((c : Int) + (r : Int)) % 4)).toNat = r + 4 * ((c + r) % 4) := by omega
          have b1 : (0 : Int) ≤ (r : Int) + 4 * (c : Int) ∧ (r : Int) + 4 * (c : Int) < 16 := by omega
          have b2 : (0 : Int) ≤ (r : Int) + 4 * (((c : Int) + (r : Int)) % 4) ∧ (r : Int) + 4 * (((c : Int) + (r : Int)) % 4) < 16 := by omega
          have b3 : (0 : Int) ≤ (x : Int) ∧ (x : Int) < 256 := by omega
          go_wp2
          go_roundw
          case rel => exact ⟨c + 1, hlc, by go_num, by rw [ES.out]; exact own_set HO.out (r + 4 * c) z ls, HB.out.setCell (p := ⟨w.heap.size, r + 4 * c, none⟩) (Nat.le_refl _) _⟩
          case measure => simp [intOf]; omega
        · have e : 4 * r + c = 4 * (r + 1) := by omega
          have HO2 : Hid (U.Own wr w.heap.size (some ⟨w.heap.size, 0, none⟩) 16 16 (shR xs (4 * (r + 1)))) := by rw [← e]; exact HO.out
          clear e HO
          go_wp2
          go_roundw
          case rel => exact ⟨r + 1, by omega, by go_num, HO2.out, HB.out⟩
          case measure => simp [intOf]; omega
    · have e : 4 * r = 16 := by omega
      have HO2 : Hid (U.Own wr w.heap.size (some ⟨w.heap.size, 0, none⟩) 16 16 (shR xs 16)) := by rw [show shR xs 16 = shR xs (4 * r) by rw [e]]; exact HO.out
      have LL := Lib.hid (shR_length xs 16)
      clear e HO
      go_wp2
      go_ret
      refine ⟨some ⟨w.heap.size, 0, none⟩, 16, ?_, ?_, HB.out⟩
      · rw [LL.out]; rfl
      · rw [LL.out]; exact HO2.out
end Go.Proofs.Ytfbgpfiodgibbaa.A
