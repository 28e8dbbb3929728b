/- A hash takes bytes. No statement is proved here. -/
import Derived.Test.YtpibmccofjpelaaNew
import Derived.Deep.RegionWith
namespace Go.Proofs.Ytpibmccofjpelaa
open Go.RowKit
set_option linter.unusedVariables false

/-- A row of bytes that does not lie in block g reads as it did when only block g is changed. -/
theorem Row.grown {w w' : World} {A : Option Addr} {n c g : Nat} {xs : List Nat} (h : Row w w.heap.size A n c xs) (hg : w.grownBy w' (some g)) (hA : ∀ a, A = some a → 0 < n → a.block ≠ g) : Row w' w'.heap.size A n c xs := by
  obtain ⟨h1, h2, h3, h4, h5, h6⟩ := h
  refine ⟨h1, h2, h3, h4, h5, fun a ha hn => ?_⟩
  obtain ⟨hs, hb, hc⟩ := h6 a ha hn
  refine ⟨hs, Nat.lt_of_lt_of_le hb hg.size, fun j hj => ?_⟩
  exact hg.cell (hc j hj) (by intro e; injection e with e; exact hA a ha hn e)
theorem grown_set {a w : World} {g : Nat} (h : a.grownBy w (some g)) {p : Addr} (hp : p.block = g) (v : Value) : a.grownBy (w.setCell p v) (some g) := by
  refine ⟨h.os, h.tape, h.output, by simpa using h.size, fun i hi hne => ?_⟩
  rw [← h.block i hi hne]
  exact Below.heap_setCell w p v i (fun e => hne (by rw [e, hp]))
theorem grown_drewN {a w : World} {row : Option Nat} (h : a.grownBy w row) (n : Nat) : a.grownBy (w.drewN n) row := ⟨h.os, h.tape, h.output, h.size, h.block⟩

theorem hput_zero (v : V) (l : List Nat) (c x : Nat) (hz : (c + 1) % 8 = 0) : hput ⟨v, l, c⟩ x = ⟨takeM v (le (l.set (c % 8) x)), l.set (c % 8) x, (c + 1) % 256⟩ := by
  unfold hput; simp only; rw [if_pos (by omega)]
theorem hput_more (v : V) (l : List Nat) (c x : Nat) (hz : ¬ (c + 1) % 8 = 0) : hput ⟨v, l, c⟩ x = ⟨v, l.set (c % 8) x, (c + 1) % 256⟩ := by
  unfold hput; simp only; rw [if_neg (by omega)]
theorem take88 (l : List Nat) (h : l.length = 8) : (l.take 8).take 8 = l := by rw [List.take_take, List.take_of_length_le (by rw [h]; omega)]
def WRel (w : World) (g n : Nat) (h : Hs) (xs : List Nat) (i : Value) (wr : World) : Prop :=
  ∃ k, k ≤ n ∧ i = .int .i64 (k : Nat) ∧ HBlk wr g (hputs h (xs.take k)) ∧ w.grownBy wr (some g)

set_option maxHeartbeats 1000000 in
theorem write_any (g : Nat) (h : Hs) (A : Option Addr) (n c : Nat) (xs : List Nat) (w : World) (H : HBlk w g h) (ok : h.ok) (hx : Row w w.heap.size A n c xs) (hA : ∀ a, A = some a → 0 < n → a.block ≠ g) :
    Calls Try.prog 18 #[.pointer (some ⟨g, 0, none⟩), .slice A n c] w fun e w' => e = .returned (.tuple #[]) ∧ HBlk w' g (hputs h xs) ∧ w.grownBy w' (some g) := by
  have hn := hx.max
  have HH := Lib.hid H
  have OK := Lib.hid ok
  have HX := Lib.hid hx
  have HA := Lib.hid hA
  clear H ok hx hA
  go_enter Try.func18, Try.ntmps18
  go_wp2
  go_loopw [8] (WRel w g n h xs) (fun i _ => n - (intOf i).toNat)
  case atStart => exact ⟨0, Nat.zero_le _, rfl, HH.out, World.grownBy.refl w _⟩
  case round =>
    obtain ⟨k, hk, rfl, hB, hG⟩ := hrel
    have HB := Lib.hid hB
    have HG := Lib.hid hG
    clear hB hG
    by_cases hlt : k < n
    · have HXr := Lib.hid (HX.out.grown HG.out HA.out)
      obtain ⟨b1, o1, rfl, hb1, hc1⟩ := HXr.out.at_ (by omega)
      have hc1k := hc1 k hlt
      clear hc1
      have l1 := HX.out.lt k
      have OKk := Lib.hid (hputs_ok OK.out (xs.take k) (fun x hx => HX.out.bytes x (List.mem_of_mem_take hx)))
      have ES := Lib.hid (hputs_take h xs k (by rw [HX.out.len]; exact hlt))
      generalize hu : xs.getD k 0 = u at *
      generalize hputs h (xs.take k) = hk0 at *
      obtain ⟨⟨a, b, cc, d⟩, left, cnt⟩ := hk0
      have lc := OKk.out.cnt
      simp only at lc
      have ll := OKk.out.len
      simp only at ll
      have q12 := HB.out.cc ll
      simp only at q12
      have qj := HB.out.cl ll (cnt % 8) (by omega)
      simp only at qj
      have pj := HB.out.frozen (4 + cnt % 8)
      have p12 := HB.out.frozen 12
      have w1 : ((cnt : Int) % 8).toNat = cnt % 8 := by omega
      have HB1 : Hid (HBlk ((wr.setCell ⟨g, 4 + cnt % 8, none⟩ (.int .u8 (u : Int))).setCell ⟨g, 12, none⟩ (.int .u8 (((cnt + 1) % 256 : Nat) : Int))) g ⟨⟨a, b, cc, d⟩, left.set (cnt % 8) u, (cnt + 1) % 256⟩) := ((HB.out.setLeft ll (cnt % 8) u (by omega)).setCnt (h := ⟨⟨a, b, cc, d⟩, left.set (cnt % 8) u, cnt⟩) (by simpa using ll) ((cnt + 1) % 256))
      have OL : Hid ((left.set (cnt % 8) u).length = 8) := (List.length_set ..).trans ll
      have OB : Hid (∀ y ∈ left.set (cnt % 8) u, y < 256) := set_bytes OKk.out.bytes (cnt % 8) u l1
      have HG1 := Lib.hid (grown_set (grown_set HG.out (p := ⟨g, 4 + cnt % 8, none⟩) rfl (.int .u8 (u : Int))) (p := ⟨g, 12, none⟩) rfl (.int .u8 (((cnt + 1) % 256 : Nat) : Int)))
      by_cases hz : (cnt + 1) % 8 = 0
      · have ht : (((cnt : Int) + 1) % 8 == 0) = true := by simp only [beq_iff_eq]; omega
        have EP := Lib.hid (hput_zero ⟨a, b, cc, d⟩ left cnt u hz)
        have OV : Hid (V.mk a b cc d).ok := OKk.out.v
        have LM := Lib.hid (le8_lt _ OL.out OB.out)
        have E8 := Lib.hid (take88 _ OL.out)
        have ok1 : Hid ((Hs.mk ⟨a, b, cc, d⟩ (left.set (cnt % 8) u) ((cnt + 1) % 256)).ok) := ⟨OV.out, OL.out, OB.out, Nat.mod_lt _ (by omega)⟩
        clear hz
        go_wp2
        go_region
        go_wp2
        have e256 : (((cnt : Int) + 1) % 256) = (((cnt + 1) % 256 : Nat) : Int) := by omega
        rw [e256]
        have HBd : Hid (HBlk (((wr.setCell ⟨g, 4 + cnt % 8, none⟩ (.int .u8 (u : Int))).setCell ⟨g, 12, none⟩ (.int .u8 (((cnt + 1) % 256 : Nat) : Int))).drew) g ⟨⟨a, b, cc, d⟩, left.set (cnt % 8) u, (cnt + 1) % 256⟩) := HB1.out
        have HGd : Hid (w.grownBy (((wr.setCell ⟨g, 4 + cnt % 8, none⟩ (.int .u8 (u : Int))).setCell ⟨g, 12, none⟩ (.int .u8 (((cnt + 1) % 256 : Nat) : Int))).drew) (some g)) := grown_drewN HG1.out 1
        clear HB1 HG1 HB HG qj pj q12 p12 hc1k HXr w1 hb1
        generalize (((wr.setCell ⟨g, 4 + cnt % 8, none⟩ (.int .u8 (u : Int))).setCell ⟨g, 12, none⟩ (.int .u8 (((cnt + 1) % 256 : Nat) : Int))).drew) = W1 at *
        generalize left.set (cnt % 8) u = l2 at *
        generalize (cnt + 1) % 256 = cnt2 at *
        generalize hm : le l2 = m at *
        have HM := Lib.hid hm
        obtain ⟨a', b', c', d', e'⟩ : ∃ a' b' c' d', takeM ⟨a, b, cc, d⟩ m = ⟨a', b', c', d'⟩ := ⟨_, _, _, _, rfl⟩
        have E' := Lib.hid e'
        clear hm e' e256 OL OB
        have q0 : W1.cell? ⟨g, 0, none⟩ = some (.int .u64 (a : Int)) := HBd.out.c0
        have q1 : W1.cell? ⟨g, 1, none⟩ = some (.int .u64 (b : Int)) := HBd.out.c1
        have q2 : W1.cell? ⟨g, 2, none⟩ = some (.int .u64 (cc : Int)) := HBd.out.c2
        have q3 : W1.cell? ⟨g, 3, none⟩ = some (.int .u64 (d : Int)) := HBd.out.c3
        have RD : Hid (Calls Try.prog 36 #[.slice (some ⟨g, 4, none⟩) 8 8] W1.drew fun e w' => e = .returned (.int .u64 (m : Nat)) ∧ W1.drew = w') := by
          have := read_any (some ⟨g, 4, none⟩) 8 8 _ _ W1.drew ((HBd.out.drewN 1).row ok1.out 8 (by omega))
          simp only at this
          rw [E8.out, HM.out] at this
          exact this
        have TK := Lib.hid (fun W => taken_lit m LM.out OV.out E'.out W)
        go_region_with (first
          | (go_at_call 36; refine RD.out.mono ?_; rintro e X1 ⟨rfl, rfl⟩)
          | (go_at_call 37; refine (TK.out _).mono ?_; rintro e X2 ⟨rfl, hb⟩; have HB2 := Lib.hid ((HBd.out.drewN 1).below hb (HBd.out.drewN 1).lt); have HG2 := Lib.hid ((grown_drewN HGd.out 1).trans (grown_of_below hb (some g))); clear hb
             have q0 : X2.cell? ⟨g, 0, none⟩ = some (.int .u64 (a : Int)) := HB2.out.c0
             have q1 : X2.cell? ⟨g, 1, none⟩ = some (.int .u64 (b : Int)) := HB2.out.c1
             have q2 : X2.cell? ⟨g, 2, none⟩ = some (.int .u64 (cc : Int)) := HB2.out.c2
             have q3 : X2.cell? ⟨g, 3, none⟩ = some (.int .u64 (d : Int)) := HB2.out.c3
             have p0 := HB2.out.frozen 0
             have p1 := HB2.out.frozen 1
             have p2 := HB2.out.frozen 2
             have p3 := HB2.out.frozen 3))
        all_goals
          go_wp2
          go_roundw
          case rel => exact ⟨k + 1, hlt, by go_num, by rw [ES.out, EP.out, E'.out]; exact HB2.out.setV ⟨a', b', c', d'⟩, grown_set (grown_set (grown_set (grown_set HG2.out (p := ⟨g, 0, none⟩) rfl _) (p := ⟨g, 1, none⟩) rfl _) (p := ⟨g, 2, none⟩) rfl _) (p := ⟨g, 3, none⟩) rfl _⟩
          case measure => simp [intOf]; omega
      · have ht : (((cnt : Int) + 1) % 8 == 0) = false := by simp only [beq_eq_false_iff_ne, ne_eq]; omega
        have EP := Lib.hid (hput_more ⟨a, b, cc, d⟩ left cnt u hz)
        clear hz
        go_wp2
        go_region
        go_wp2
        have e256 : (((cnt : Int) + 1) % 256) = (((cnt + 1) % 256 : Nat) : Int) := by omega
        rw [e256]
        go_roundw
        case rel => exact ⟨k + 1, hlt, by go_num, by rw [ES.out, EP.out]; exact HB1.out.drewN 1, grown_drewN HG1.out 1⟩
        case measure => simp [intOf]; omega
    · have e4 : xs.take k = xs := List.take_of_length_le (by rw [HX.out.len]; omega)
      have HB1 : Hid (HBlk wr g (hputs h xs)) := by rw [← e4]; exact HB.out
      go_wp2
      exact bodyPost_end (results_none Try.results18 _ _ _) rfl ⟨rfl, HB1.out, HG.out⟩
end Go.Proofs.Ytpibmccofjpelaa
