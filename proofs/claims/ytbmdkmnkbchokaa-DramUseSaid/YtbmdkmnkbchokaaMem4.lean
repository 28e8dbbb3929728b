/- The rows that bytes stand in are opened. No statement is proved here. -/
import Derived.Test.YtbmdkmnkbchokaaMem3
namespace Go.Proofs.Ytbmdkmnkbchokaa
open Go.RowKit
set_option linter.unusedVariables false
set_option linter.unusedSimpArgs false
attribute [local irreducible] arrV Mm.arr Mm.part opns

def ORel (w : World) (g b : Nat) (m : Mm) (L : List (Nat × TypeId × Array Value)) (r0 r1 : Nat) (i : Value) (wr : World) : Prop :=
  ∃ r, r0 ≤ r ∧ r ≤ r1 + 1 ∧ i = .int .i64 (r : Nat) ∧ St w wr ((g, 45, (m.part r0 (r - r0)).arr b) :: L)
theorem Mm.part_four (m : Mm) (r0 k : Nat) : (m.part r0 k).os.length = m.os.length := by unfold Mm.part; simp only; rw [opns_len]
theorem Mm.part_op (m : Mm) (r0 k : Nat) : m.op ≤ (m.part r0 k).op ∧ (m.part r0 k).op ≤ m.op + k := by unfold Mm.part; exact opns_op r0 k (m.os, m.op)
set_option maxHeartbeats 1000000 in
theorem openRows_any {w W : World} {L : List (Nat × TypeId × Array Value)} {g b : Nat} {m : Mm} (a n : Nat) (h : St w W ((g, 45, m.arr b) :: L)) (hm : m.Ok) (hf : a + n ≤ 1048576) :
    Calls Try.prog 22 #[.pointer (some ⟨g, 0, none⟩), .int .i64 a, .int .i64 n] W fun e W' => e = .returned (.tuple #[]) ∧ St w W' ((g, 45, (m.opened a n).arr b) :: L) := by
  by_cases hn : n = 0
  · subst hn
    have e : m.opened a 0 = m := by unfold Mm.opened rowsOf; unfold opns; rfl
    rw [e]
    have z : (((0 : Nat) : Int) == 0) = true := rfl
    go_enter Try.func22, Try.ntmps22
    go_wp2
    (try simp only [Exit.inBlock, Exit.then]); refine bodyPost_ret (results_none rfl _ _ _) rfl ?_
    exact ⟨rfl, h⟩
  · have z : ((n : Int) == 0) = false := by simp; omega
    have e : m.opened a n = m.part (a / 64) ((a + n - 1) / 64 + 1 - a / 64) := by
      unfold Mm.opened Mm.part rowsOf
      rw [if_neg hn, show (a + n - 1) / 64 - a / 64 + 1 = (a + n - 1) / 64 + 1 - a / 64 by omega]
    rw [e]
    clear e
    have q0 : (a : Int) / 64 = ((a / 64 : Nat) : Int) := by omega
    have q1 : ((a : Int) + (n : Int) - 1) / 64 = (((a + n - 1) / 64 : Nat) : Int) := by omega
    have hle : a / 64 ≤ (a + n - 1) / 64 := by omega
    have hr1 : (a + n - 1) / 64 ≤ 20000 := by omega
    generalize a / 64 = r0 at *
    generalize (a + n - 1) / 64 = r1 at *
    have h4 := Lib.hid hm.four
    have o1 := hm.op0
    have o2 := hm.op1
    clear hm
    go_enter Try.func22, Try.ntmps22
    go_wp2
    go_loopw [6] (ORel w g b m L r0 r1) (fun i _ => r1 + 1 - (intOf i).toNat)
    case atStart => exact ⟨r0, by omega, by omega, rfl, by rw [Nat.sub_self, Mm.part_zero]; exact h⟩
    case round =>
      obtain ⟨r, hr0, hr2, rfl, h1⟩ := hrel
      clear h
      by_cases hlt : r ≤ r1
      · have hd : (r : Int) % 4 = ((r % 4 : Nat) : Int) := by omega
        have hq : r % 4 < 4 := by omega
        have F := Lib.hid (m.part_four r0 (r - r0))
        have O := m.part_op r0 (r - r0)
        have PS := Lib.hid (m.part_same r0 (r - r0))
        have PN := Lib.hid (m.part_new r0 (r - r0))
        rw [show r0 + (r - r0) = r by omega, show r - r0 + 1 = r + 1 - r0 by omega] at PS PN
        generalize m.part r0 (r - r0) = p at *
        have c5 := h1.cell 0 rfl 5 _ (p.at5 b)
        have cq := h1.cell 0 rfl (6 + r % 4) _ (p.atO b (r % 4) (by rw [F.out, h4.out]; exact hq))
        have sz := Lib.hid (show (p.arr b).size = 10 by rw [p.size, F.out, h4.out])
        generalize r % 4 = q at *
        by_cases hc : p.os.getD q 0 = (r : Int) + 1
        · have hb : ((r : Int) + 1 != (r : Int) + 1) = false := by simp
          have E := Lib.hid (PS.out hc)
          rw [hc] at cq
          clear PS PN hc
          go_wp2
          go_roundw
          case rel => exact ⟨r + 1, by omega, by omega, by go_num, by rw [E.out]; exact h1⟩
          case measure => simp [intOf]; omega
        · have hb : (p.os.getD q 0 != (r : Int) + 1) = true := by simpa using hc
          have E := Lib.hid (PN.out hc)
          clear PS PN hc
          have S1 := Lib.hid (p.setO b q ((r : Int) + 1))
          generalize hp2 : ({ p with os := p.os.set q ((r : Int) + 1) } : Mm) = p2 at *
          have eo : p2.op = p.op := by rw [← hp2]
          have S2 := Lib.hid (p2.set5 b (p.op + 1))
          have E2 : Hid (m.part r0 (r + 1 - r0) = { p2 with op := p.op + 1 }) := by rw [E.out, ← hp2]; exact rfl
          have d5 := p2.at5 b
          rw [eo] at d5
          have D5 := Lib.hid d5
          have sz2 : Hid ((p2.arr b).size = 10) := by rw [p2.size, ← hp2]; simp only [List.length_set]; rw [F.out, h4.out]; exact rfl
          clear hp2 eo d5 E
          generalize p.os.getD q 0 = x at *
          go_wp2_with (first
            | (refine wpList_cell_st h1 0 rfl 3 (.tmp 38) (.tmp 35) rfl rfl (6 + q) (.int .i64 ((r : Int) + 1)) rfl rfl (by rw [sz.out]; omega) rfl rfl sz3 ?_; clear h1 cq c5; intro W1 h2 _; replace h2 := S1.out ▸ h2; have c5 := h2.cell 0 rfl 5 _ D5.out)
            | (refine wpList_cell_st h2 0 rfl 3 (.tmp 47) (.tmp 44) rfl rfl 5 (.int .i64 (p.op + 1)) rfl rfl (by rw [sz2.out]; omega) rfl rfl sz3 ?_; clear h2 c5; intro W2 h3 _))
          go_roundw
          case rel => exact ⟨r + 1, by omega, by omega, by go_num, by rw [E2.out, ← S2.out]; exact h3⟩
          case measure => simp [intOf]; omega
      · obtain rfl : r = r1 + 1 := by omega
        go_wp2
        go_end0
        exact ⟨rfl, h1⟩
end Go.Proofs.Ytbmdkmnkbchokaa
