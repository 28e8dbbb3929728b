/- The levels of a plan's tree. No statement is proved here. -/
import Derived.Test.YtnogmfpaipjdaaaPPlan
namespace Go.Proofs.Ytnogmfpaipjdaaa.P
open Go.RowKit
set_option linter.unusedVariables false

def up (a n : Nat) : Nat := (n + a - 1) / a
def wid (n a : Nat) : Nat → Nat
  | 0 => n
  | k + 1 => up a (wid n a k)
def lev (n a : Nat) : Nat := if wid n a 0 ≤ 1 then 1 else if wid n a 1 ≤ 1 then 2 else if wid n a 2 ≤ 1 then 3 else if wid n a 3 ≤ 1 then 4 else 5
theorem tree_fin : ∀ n : Fin 16, ∀ a : Fin 3, lev (n + 1) (a + 2) ≤ 5 ∧ 1 ≤ lev (n + 1) (a + 2) ∧ ∀ k : Fin 5, k < lev (n + 1) (a + 2) →
    1 ≤ wid (n + 1) (a + 2) k ∧ wid (n + 1) (a + 2) k ≤ 16 ∧ (1 < wid (n + 1) (a + 2) k ↔ k + 1 < lev (n + 1) (a + 2)) := by decide +kernel
theorem tree_facts {n a : Nat} (h1 : 1 ≤ n) (h2 : n ≤ 16) (h3 : 2 ≤ a) (h4 : a ≤ 4) : lev n a ≤ 5 ∧ 1 ≤ lev n a ∧ ∀ k, k < lev n a → 1 ≤ wid n a k ∧ wid n a k ≤ 16 ∧ (1 < wid n a k ↔ k + 1 < lev n a) := by
  have := tree_fin ⟨n - 1, by omega⟩ ⟨a - 2, by omega⟩
  simp only [show n - 1 + 1 = n by omega, show a - 2 + 2 = a by omega] at this
  exact ⟨this.1, this.2.1, fun k hk => this.2.2 ⟨k, by omega⟩ hk⟩

def Lv (p : Pl) : Nat := if shaped p then lev p.pa.toNat p.ar.toNat else 0
def Wd (p : Pl) (l : Int) : Nat := if 0 ≤ l ∧ l < (Lv p : Int) then wid p.pa.toNat p.ar.toNat l.toNat else 0
def Al (p : Pl) : Int := if shaped p then p.pa * p.li else 0
def Ls (p : Pl) : Int := if shaped p then p.ba * (Lv p : Int) + 1 else 0
/-- A plan whose tree can be told, by its numbers. -/
structure Sh (p : Pl) (n l a b : Nat) : Prop where
  pa : p.pa = (n : Int)
  li : p.li = (l : Int)
  ar : p.ar = (a : Int)
  ba : p.ba = (b : Int)
  n1 : 1 ≤ n
  n2 : n ≤ 16
  l1 : 1 ≤ l
  l2 : l ≤ 8
  a1 : 2 ≤ a
  a2 : a ≤ 4
  b1 : 1 ≤ b
  b2 : b ≤ 4
theorem shaped_iff (p : Pl) : shaped p = true ↔ (1 ≤ p.pa ∧ p.pa ≤ 16) ∧ (1 ≤ p.li ∧ p.li ≤ 8) ∧ (2 ≤ p.ar ∧ p.ar ≤ 4) ∧ (1 ≤ p.ba ∧ p.ba ≤ 4) := by
  simp only [shaped, Bool.and_eq_true, win_iff, and_assoc]
theorem sh_of {p : Pl} (h : shaped p = true) : Sh p p.pa.toNat p.li.toNat p.ar.toNat p.ba.toNat := by
  rw [shaped_iff] at h
  constructor <;> omega
theorem Sh.lv {p : Pl} {n l a b : Nat} (hs : shaped p = true) (h : Sh p n l a b) : Lv p = lev n a := by
  unfold Lv; rw [if_pos hs, h.pa, h.ar]; rfl

theorem wpList_load_plan {ops : Array Oper} {rest : List Oper} {o : Oper} {a : Act} {w : World} {Q : Exit → Act → World → Prop} {g : Nat} {p : Pl} (h : PBlk w g p) (x : Operand) (ho : o.op = .load 28 x) (hw : Region.wanted o (yielded ops a.tmps) = true)
    (hx : a.eval x = .pointer (some ⟨g, 0, none⟩)) (k : wpList Try.prog ops Q rest (a.put o.dst (.agg p.arr)) w) : wpList Try.prog ops Q (o :: rest) a w := by
  unfold wpList
  rw [if_pos hw]
  exact .inl (wp_load_row 28 x ho g hx 28 p.arr (0, 0) _ h Try.underlying28 rfl (by rw [p.arr_size]; kernel_rfl) k)

attribute [local irreducible] shaped
def LvRel (w : World) (n a : Nat) (s i : Value) (wr : World) : Prop :=
  ∃ k, k < lev n a ∧ s = .int .i64 ((k + 1 : Nat) : Int) ∧ i = .int .i64 (wid n a k : Nat) ∧ wr = w
set_option maxHeartbeats 1000000 in
theorem levels_any (p : Pl) (w : World) : Calls Try.prog 64 #[.agg p.arr] w fun e w' => e = .returned (.int .i64 (Lv p : Nat)) ∧ Below w.heap.size w w' := by
  have B := PBlk.new w p
  have BB := Lib.hid (show Below w.heap.size w (w.alloc (.cells p.arr 28)) from (Below.refl _ _).alloc (Nat.le_refl _) _)
  have H := Lib.hid (fun W => hasTree_any p W)
  cases hs : shaped p
  · rw [hs] at H
    have E : Hid (Lv p = 0) := by unfold Lv; rw [if_neg (by rw [hs]; simp)]; exact rfl
    generalize Lv p = L at *
    clear hs
    go_enter Try.func64, Try.ntmps64
    go_wp2_with (first
      | (refine wpList_load_plan B _ rfl rfl rfl ?_)
      | (go_at_call 63; refine (H.out _).mono ?_; rintro e W1 ⟨rfl, hb⟩))
    go_ret
    exact ⟨by rw [E.out]; rfl, BB.out.trans (hb.mono (by simp))⟩
  · rw [hs] at H
    have sh := sh_of hs
    have E := Lib.hid (sh.lv hs)
    have c2 := sh.pa
    have c4 := sh.ar
    have n1 := sh.n1
    have n2 := sh.n2
    have a1 := sh.a1
    have a2 := sh.a2
    generalize p.pa.toNat = n at *
    generalize p.ar.toNat = a at *
    generalize Lv p = L at *
    clear hs sh
    obtain ⟨t1, t2, t3⟩ := tree_facts n1 n2 a1 a2
    have T3 := Lib.hid t3
    clear t3
    go_enter Try.func64, Try.ntmps64
    go_wp2_with (first
      | (refine wpList_load_plan B _ rfl rfl rfl ?_)
      | (go_at_call 63; refine (H.out _).mono ?_; rintro e W1 ⟨rfl, hb⟩; have B1 := B.below hb B.lt; have d2 := B1.c2; have d4 := B1.c4; rw [c2] at d2; rw [c4] at d4))
    have BB1 := Lib.hid (BB.out.trans (hb.mono (by simp)))
    clear c2 c4 hb B B1 BB H
    go_loopw [3, 4] (LvRel W1 n a) (fun s i _ => 5 - (intOf s).toNat)
    case atStart => exact ⟨0, by omega, rfl, rfl, rfl⟩
    case round =>
      obtain ⟨k, hk, rfl, rfl, rfl⟩ := hrel
      obtain ⟨u1, u2, u3⟩ := T3.out k hk
      have A := Lib.hid (fun W => above_any (wid n a k) a u2 a1 a2 W)
      have U : Hid (wid n a (k + 1) = (wid n a k + a - 1) / a) := rfl
      generalize (wid n a k + a - 1) / a = z at *
      generalize wid n a k = y at *
      generalize hz : wid n a (k + 1) = z' at *
      by_cases hlt : 1 < y
      · have hk2 := u3.1 hlt
        clear u3
        go_wp2_with (first
          | (go_at_call 81; refine (A.out _).mono ?_; rintro e W2 ⟨rfl, rfl⟩))
        go_roundw
        case rel => exact ⟨k + 1, hk2, by go_num, by rw [hz, U.out], rfl⟩
        case measure => simp [intOf]; omega
      · have hk2 : k + 1 = lev n a := by
          have : ¬ (k + 1 < lev n a) := fun h => hlt (u3.2 h)
          omega
        clear u3
        go_wp2
        go_ret
        exact ⟨by rw [E.out, ← hk2]; rfl, BB1.out⟩
end Go.Proofs.Ytnogmfpaipjdaaa.P
