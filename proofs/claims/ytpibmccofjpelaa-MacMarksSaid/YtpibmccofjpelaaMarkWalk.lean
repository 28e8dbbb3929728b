/- The law of marks. No statement is proved here. -/
import Derived.Test.YtpibmccofjpelaaMarkBook
import Derived.Test.YtpibmccofjpelaaTwoWalk
namespace Go.Proofs.Ytpibmccofjpelaa
open Go.RowKit Go.Maps
set_option linter.unusedVariables false
set_option linter.unusedSimpArgs false

theorem Mk.verB {w W : World} {K : Kd} {ga gm few n c : Nat} {ms ns : List Mark} {rs : List Bm} {A : Option Addr} {xs : List Nat} (h : Mk w K ga gm ms ns rs few W) (hK : K.ok) (hf : few < 800) (hx : Row W W.heap.size A n c xs) {N : Nat} (hN : findM ms xs = N + 1) :
    Calls Try.prog 23 #[.pointer (some ⟨ga, 0, none⟩), .slice A n c, .int .u64 (tagK K xs (N + 1) : Nat)] W fun e w' => e = .returned (.bool true) ∧ Below W.heap.size W w' := by
  obtain ⟨la, sa, a1, a2, va, h1, h2⟩ := h.ex
  have hle := findM_le ms xs
  have l1 := h.la
  cases K with
  | ideal =>
    have := gver_ideal _ ga ms rs la sa a1 a2 va A n c xs W h1 hx ((N + 1 : Nat) : Int) (by omega)
    rw [decide_eq_true (show 0 < findM ms xs ∧ ((N + 1 : Nat) : Int) = (findM ms xs : Nat) by rw [hN]; exact ⟨by omega, rfl⟩)] at this
    exact this
  | sip key => exact gver_has _ ga key hK ms rs la sa a1 a2 va A n c xs W h1 hx (by omega)
theorem tgT_lt {K : Kd} (hK : K.ok) (ms : List Mark) (xs : List Nat) (hm : ms.length < 900) (hx : ∀ x ∈ xs, x < 256) : tgT K ms xs < 18446744073709551616 := by
  have hle := findM_le ms xs
  unfold tgT
  cases K with
  | ideal => simp only [tagK]; split <;> omega
  | sip key => simp only [tagK]; split <;> exact ssum_lt key xs hK.1 hK.2 hx
theorem valK_found {K : Kd} {ms : List Mark} {xs : List Nat} (h : 0 < findM ms xs) : valK K ms xs = tgT K ms xs := by unfold valK tgT; rw [if_neg (by omega), if_pos h]
theorem valK_not {K : Kd} {ms : List Mark} {xs : List Nat} (h : ¬ 0 < findM ms xs) : valK K ms xs = 0 := by unfold valK; rw [if_pos (by omega)]
theorem Mk.few2 {w W : World} {K : Kd} {ga gm few : Nat} {ms : List Mark} {rs : List Bm} (h : Mk w K ga gm ms ms rs few W) : ms.length ≤ few := h.la.1
/-- A mark in a block. -/
structure QMk (X : World) (gx : Nat) (s : Value) (T : Int) (W : World) : Prop where
  bel : Below X.heap.size X W
  blk : W.heap[gx]? = some (.cells #[s, .int .u64 T] 67 (0, 0))
section
variable {X W W' : World} {gx : Nat} {s : Value} {T : Int}
theorem QMk.q0 (h : QMk X gx s T W) : W.cell? ⟨gx, 0, none⟩ = some s := by rw [cell_of_row W gx 0 _ _ _ h.blk]; rfl
theorem QMk.q1 (h : QMk X gx s T W) : W.cell? ⟨gx, 1, none⟩ = some (.int .u64 T) := by rw [cell_of_row W gx 1 _ _ _ h.blk]; rfl
theorem QMk.call (h : QMk X gx s T W) (hb : Below W.heap.size W W') : QMk X gx s T W' := ⟨h.bel.trans (hb.mono h.bel.size), (hb.block _ (heap_lt h.blk)).trans h.blk⟩
theorem QMk.drew (h : QMk X gx s T W) : QMk X gx s T W.drew := ⟨h.bel.drew, h.blk⟩
theorem QMk.new (h : Below X.heap.size X W) : QMk X W.heap.size s T (W.alloc (.cells #[s, .int .u64 T] 67)) := ⟨h.alloc h.size _, heap_alloc_new W _⟩
end
theorem valK_at {K : Kd} {ms : List Mark} {xs : List Nat} {N : Nat} (h : findM ms xs = N + 1) : valK K ms xs = tagK K xs (N + 1) := by unfold valK; rw [h, if_neg (by omega)]
theorem Mk.marks {w W : World} {K : Kd} {ga gm few : Nat} {ms ns : List Mark} {rs : List Bm} (h : Mk w K ga gm ms ns rs few W) : Calls Try.prog 30 #[.pointer (some ⟨ga, 0, none⟩)] W fun e w' => ∃ g, e = .returned (.slice (some ⟨g, 0, none⟩) ms.length ms.length) ∧ ∃ cs, cs.map (·.m) = ms ∧ WSt W g ms.length cs w' := by
  obtain ⟨la, sa, a1, a2, va, h1, h2⟩ := h.ex
  exact marks_any w.heap.size ga K ms rs la sa a1 a2 va W h1 h.mrk
def M1Rel (w : World) (K : Kd) (ga gm n : Nat) (i : Value) (wr : World) : Prop :=
  ∃ (k : Nat) (ms : List Mark) (rs : List Bm), k ≤ n ∧ i = .int .i64 (k : Nat) ∧ Mk w K ga gm ms ms rs (2 * k) wr ∧ Hid (Good K ms)
def M2Rel (X : World) (L : Nat) (i : Value) (wr : World) : Prop := ∃ j : Nat, j ≤ L ∧ i = .int .i64 (j : Nat) ∧ Below X.heap.size X wr
attribute [local irreducible] findM firstM ssum tgT tgM tgE vrB vrE valK txt
set_option maxHeartbeats 4000000 in
set_option maxRecDepth 20000 in
theorem marks_walk (kind : Int) (key : List Nat) (hk : key.length = 16) (bk : ∀ x ∈ key, x < 256) (A : Option Addr) (n c : Nat) (cs : List Cl) (w : World) (h : CallsIn w w.heap.size A n cs) (hn : n ≤ 9223372036854775807) :
    Calls Try.prog 10 #[.int .i64 kind, .agg (arrV key), .slice A n c] w fun e w' => e = .returned (.bool true) ∧ Below w.heap.size w w' := by
  have SP := Lib.hid (fun W => macSpeaks_true W)
  have GR : Hid (∀ W, Below w.heap.size w W → Calls Try.prog 22 #[.slice A n c] W fun e w' => ∃ b : Bool, e = .returned (.bool b) ∧ (b = false → small cs) ∧ Below W.heap.size W w') := fun W hW => by
    have h2 : CallsIn W W.heap.size A n cs := by
      obtain ⟨h1, h2, h3⟩ := h.below hW
      refine ⟨h1, h2, fun a ha hn => ?_⟩
      obtain ⟨g1, g2, g3⟩ := h3 a ha hn
      refine ⟨g1, Nat.lt_of_lt_of_le g2 hW.size, fun j x hx => ?_⟩
      obtain ⟨A', m, c', e0, e1, e2, e3, r, ht⟩ := g3 j x hx
      exact ⟨A', m, c', e0, e1, e2, e3, r.wider hW.size, ht⟩
    exact great_any A n c cs W h2 hn
  obtain ⟨kd, K, hkd, hKd, hKI, NW⟩ : ∃ (kd : Int) (K : Kd), bits .and .i64 kind 1 = kd ∧ Hid K.ok ∧ Hid ((kd = 0 ∧ ∀ xs N, tagK K xs N = N) ∨ kd = 1) ∧ Hid (∀ W, w.heap.size ≤ W.heap.size → Calls Try.prog 21 #[.int .i64 kd, .agg (arrV key)] W fun e w' => ∃ gk gl m1 m2, e = .returned (.tuple #[.pointer (some ⟨gk, 0, none⟩), .int .i64 0]) ∧ Gk w' w.heap.size gk K [] [] gl (.slice none 0 0) m1 m2 (.slice none 0 0) ∧ (W.heap.size ≤ gk ∧ W.heap.size ≤ gl ∧ W.heap.size ≤ m1 ∧ W.heap.size ≤ m2) ∧ Below W.heap.size W w') := by
    rcases and_one kind with e | e
    · exact ⟨0, .ideal, e, trivial, .inl ⟨rfl, fun _ _ => rfl⟩, fun W hW => gnew_ideal key w.heap.size W hW⟩
    · exact ⟨1, .sip key, e, ⟨hk, bk⟩, .inr rfl, fun W hW => gnew_sip key w.heap.size W hW hk⟩
  have HKd : Hid K.ok := hKd
  have HC := Lib.hid h
  have hlen := h.1
  have B0 := Lib.hid ((Below.refl w.heap.size w).alloc (Nat.le_refl _) (Obj.cells (arrV key) 23))
  have K0 := Lib.hid (Blk.new w 23 key)
  have SZ := Lib.hid (sz16 key hk)
  have HK := Lib.hid (And.intro hk bk)
  clear h hk bk hKd
  have hmk : ∀ t (W : World), (Instr.makeMap t none).run Try.prog W = .ok (.map (some W.heap.size)) (W.alloc (.map #[] 0)) := fun t W => run_makeMap t W
  go_enter Try.func10, Try.ntmps10
  go_wp2_with (first
    | (go_at_call 20; refine (SP.out _).mono ?_; rintro e X1 ⟨rfl, hb⟩; have B1 := Lib.hid (B0.out.trans (hb.mono B0.out.size)); have K1 : Hid (Blk X1 w.heap.size 23 key) := (hb.block _ (heap_lt K0.out)).trans K0.out; clear hb)
    | (refine wpList_load_mid rfl 23 _ rfl w.heap.size 0 rfl (vals key) _ (whole_range K1.out HK.out.1) Try.underlying23 rfl SZ.out ?_)
    | (have := K1; go_at_call 21; refine (NW.out _ B1.out.size).mono ?_; rintro e X2 ⟨ga, la, a1, a2, rfl, hG, hll, hb⟩; have G2 := Lib.hid hG; have B2 := Lib.hid (B1.out.trans (hb.mono B1.out.size)); clear hG hll hb K1)
    | (have := G2; go_at_call 22; refine (GR.out _ B2.out).mono ?_; rintro e X4 ⟨b, rfl, hsm, hb⟩; have U1 := Lib.hid (Mk.made (G2.out.below hb) (B2.out.trans (hb.mono B2.out.size))); have B4 := Lib.hid (B2.out.trans (hb.mono B2.out.size)); replace hsm := Lib.hid hsm; clear hb G2; cases b))
  · have sm := hsm.out trivial
    have sm1 := sm.1
    have SM := Lib.hid sm.2
    clear sm hsm GR NW SP B0 K0 B1 B2 B4 hmk
    go_loopw [40] (M1Rel w K ga X4.heap.size n) (fun i _ => n - (intOf i).toNat)
    case atStart => exact ⟨0, [], [], by omega, rfl, U1.out, Good.nil K⟩
    case round =>
      clear U1
      generalize X4.heap.size = gm at *
      obtain ⟨k, ms, rs, hkn, rfl, hU, hGd⟩ := hrel
      by_cases hlt : k < n
      · have g1 : ((k : Int) < (n : Int)) = True := eq_true (by omega)
        have hx : cs[k]? = some cs[k] := List.getElem?_eq_getElem (by omega)
        have hmem := SM.out cs[k] (List.getElem_mem _)
        generalize cs[k] = x at *
        obtain ⟨b, off, rfl, hb, A', m, c', e0, e1, e2, e3, r, ht⟩ := (HC.out.below hU.bel).at_ k x hx
        have rl := r.len
        obtain ⟨xv, xo, xs, xt⟩ := x
        have hm100 : m ≤ 1000 := by simp only at hmem rl; omega
        have J0 := Lib.hid (MkC.new (x := ⟨xv, xo, xs, xt⟩) hU r hm100)
        have hfew := hU.few2
        have TL := Lib.hid (tgT_lt HKd.out ms xs (by omega) r.bytes)
        have BX : Hid ((∀ x ∈ xs, x < 256) ∧ xs.length ≤ 1000) := ⟨r.bytes, by simp only at hmem rl; omega⟩
        clear hU r hx hmem rl
        cases xv
        · by_cases hF : 0 < findM ms xs
          · go_wp2_with (first
              | (go_at_call 25; refine (J0.out.tag HKd.out (by omega)).mono ?_; rintro e X5 ⟨rfl, rs', J1⟩; have c2 := J1.kb.c2; have cv : (convert 24 9 (.slice A' m c')).run Try.prog X5 = .ok (.string (txt xs)) X5 := row_string J1.row; have lk : (Instr.lookup 64 (.map (some gm)) (.string (txt xs)) true).run Try.prog X5 = .ok (.tuple #[.int .u64 (tgT K ms xs : Nat), .bool true]) X5 := (by have q := J1.u.mp.look BX.out.1 BX.out.2; rw [valK_found hF, decide_eq_true hF] at q; exact q); obtain ⟨X6, hrun, hM⟩ := J1.put (by omega) TL.out; have hrun : (Instr.mapUpdate 64 (.map (some gm)) (.string (txt xs)) (.int .u64 (tgT K ms xs : Nat))).run Try.prog X5 = .ok () X6 := hrun; clear J1; replace hM := Lib.hid hM)
              | fail)
            go_roundw
            case rel => exact ⟨k + 1, _, rs', by omega, by go_num, hM.out.more (by omega), hGd.out.tag xs⟩
            case measure => simp [intOf]; omega
          · go_wp2_with (first
              | (go_at_call 25; refine (J0.out.tag HKd.out (by omega)).mono ?_; rintro e X5 ⟨rfl, rs', J1⟩; have c2 := J1.kb.c2; have cv : (convert 24 9 (.slice A' m c')).run Try.prog X5 = .ok (.string (txt xs)) X5 := row_string J1.row; have lk : (Instr.lookup 64 (.map (some gm)) (.string (txt xs)) true).run Try.prog X5 = .ok (.tuple #[.int .u64 0, .bool false]) X5 := (by have q := J1.u.mp.look BX.out.1 BX.out.2; rw [valK_not hF, decide_eq_false hF] at q; exact q); obtain ⟨X6, hrun, hM⟩ := J1.put (by omega) TL.out; have hrun : (Instr.mapUpdate 64 (.map (some gm)) (.string (txt xs)) (.int .u64 (tgT K ms xs : Nat))).run Try.prog X5 = .ok () X6 := hrun; clear J1; replace hM := Lib.hid hM)
              | fail)
            go_roundw
            case rel => exact ⟨k + 1, _, rs', by omega, by go_num, hM.out.more (by omega), hGd.out.tag xs⟩
            case measure => simp [intOf]; omega
        · go_wp2_with (first
            | (go_at_call 23; refine (J0.out.ver HKd.out (by omega) xt).mono ?_; rintro e X5 ⟨rfl, rs', J1⟩; replace J1 := Lib.hid J1))
          go_roundw
          case rel => exact ⟨k + 1, ms, rs', by omega, by go_num, J1.out.u.more (by omega), hGd⟩
          case measure => simp [intOf]; omega
      · have g1 : ((k : Int) < (n : Int)) = False := eq_false (by omega)
        have HU := Lib.hid hU
        have hla := hU.la
        clear hU
        go_wp2_with (first
          | (have := HU; go_at_call 30; refine HU.out.marks.mono ?_; rintro e X5 ⟨g5, rfl, c5, ec5, z5⟩; have U5 := Lib.hid (HU.out.call z5.bel); have R5 := Lib.hid (z5.krow (by rw [← ec5]; simp)); replace ec5 := Lib.hid ec5; clear z5 HU))
        have hl5 := R5.out.len
        generalize hLL : ms.length = L at *
        go_loopw [80] (M2Rel X5 L) (fun i _ => L - (intOf i).toNat)
        case atStart => exact ⟨0, by omega, rfl, Below.refl _ _⟩
        case round =>
          obtain ⟨j, hj, rfl, hB⟩ := hrel
          by_cases hjl : j < L
          · have g2 : ((j : Int) < (L : Int)) = True := eq_true (by omega)
            have hx : c5[j]? = some c5[j] := List.getElem?_eq_getElem (by omega)
            have hmk : ms[j]? = some c5[j].m := by rw [← ec5.out, List.getElem?_map, hx]; rfl
            have gd := hGd.out j _ hmk
            generalize c5[j] = y at *
            obtain ⟨⟨xs, t⟩, B1, d1⟩ := y
            simp only at gd
            obtain ⟨gd1, gd2⟩ := gd
            obtain ⟨g', e', e0, e1, r⟩ := (R5.out.below hB).at_ j _ hx
            injection e' with e'
            injection e' with e' _ _
            subst e'
            have bx := r.bytes
            have lx : xs.length ≤ 1000 := U5.out.mrk _ (List.mem_of_getElem? hmk)
            simp only at e0 e1 bx
            have HQ := Lib.hid (QMk.new (s := .slice B1 xs.length d1) (T := (t : Nat)) hB)
            have VF : Hid (∀ W, QMk X5 wr.heap.size (.slice B1 xs.length d1) (t : Nat) W → Calls Try.prog 23 #[.pointer (some ⟨ga, 0, none⟩), .slice B1 xs.length d1, .int .u64 (t : Nat)] W fun e w' => e = .returned (.bool true) ∧ Below W.heap.size W w') := fun W hW => by
              obtain ⟨_, _, _, _, r'⟩ := (R5.out.below hW.bel).at_ j _ hx
              have := (U5.out.call hW.bel).verB HKd.out (by omega) r' gd1
              rw [← gd2] at this
              exact this
            have cv : (convert 24 9 (.slice B1 xs.length d1)).run Try.prog (wr.alloc (.cells #[.slice B1 xs.length d1, .int .u64 (t : Nat)] 67)) = .ok (.string (txt xs)) (wr.alloc (.cells #[.slice B1 xs.length d1, .int .u64 (t : Nat)] 67)) := row_string (r.below ((Below.refl wr.heap.size wr).alloc (Nat.le_refl _) _))
            have lk : (Instr.lookup 64 (.map (some gm)) (.string (txt xs)) true).run Try.prog (wr.alloc (.cells #[.slice B1 xs.length d1, .int .u64 (t : Nat)] 67)) = .ok (.tuple #[.int .u64 (t : Nat), .bool true]) (wr.alloc (.cells #[.slice B1 xs.length d1, .int .u64 (t : Nat)] 67)) := by
              have q := (U5.out.call HQ.out.bel).mp.look bx lx
              rw [valK_at gd1, ← gd2, decide_eq_true (by omega)] at q
              exact q
            clear r bx hmk hx
            rcases hKI.out with ⟨rfl, hT⟩ | rfl
            · rw [hT] at gd2
              have hj9 : j < 900 := by omega
              have cw1 := wrap_nat j (by omega)
              have cw2 : IntKind.u64.wrap ((j : Int) + 1) = (t : Int) := by
                have q := wrap_nat (j + 1) (by omega)
                rw [gd2]
                simpa using q
              clear hT gd2
              generalize t = T at *
              go_wp2_with (first
                | (go_at_call 23; refine (VF.out _ HQ.out).mono ?_; rintro e X7 ⟨rfl, hb⟩; have BQ := Lib.hid (HQ.out.call hb).bel; clear hb)
                | fail)
              go_roundw
              case rel => exact ⟨j + 1, by omega, by go_num, BQ.out⟩
              case measure => simp [intOf]; omega
            · clear gd2
              generalize t = T at *
              go_wp2_with (first
                | (go_at_call 23; refine (VF.out _ HQ.out).mono ?_; rintro e X7 ⟨rfl, hb⟩; have BQ := Lib.hid (HQ.out.call hb).bel; clear hb)
                | fail)
              go_roundw
              case rel => exact ⟨j + 1, by omega, by go_num, BQ.out⟩
              case measure => simp [intOf]; omega
          · have g2 : ((j : Int) < (L : Int)) = False := eq_false (by omega)
            have ln : ∀ k ty, (Builtin.len_ #[64] ty #[.map (some gm)]).run Try.prog (wr.drewN k) = .ok (.int .i64 (L : Nat)) (wr.drewN k) := fun k ty => by
              have q := ((U5.out.call hB).drewN k).mp.len ty
              rw [hLL] at q
              exact q
            have ln0 : ∀ ty, (Builtin.len_ #[64] ty #[.map (some gm)]).run Try.prog wr = .ok (.int .i64 (L : Nat)) wr := fun ty => ln 0 ty
            have BB := Lib.hid (U5.out.call hB).bel
            go_wp2
            go_ret
            exact ⟨rfl, BB.out⟩
  · go_ret
    exact ⟨rfl, B4.out⟩
end Go.Proofs.Ytpibmccofjpelaa
