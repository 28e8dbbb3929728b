/- The law of a plan's room. No statement is proved here. -/
import Derived.Test.YtnogmfpaipjdaaaPSpeaks
namespace Go.Proofs.Ytnogmfpaipjdaaa.P
open Go.RowKit
set_option maxRecDepth 20000
set_option linter.unusedVariables false
set_option linter.unusedSimpArgs false

theorem kindI_idem (v : Int) : kindI (kindI v) = kindI v := by
  unfold kindI; split <;> simp
theorem bounded_fit (p : Pl) : bounded (fitP p) = fitP p := by
  unfold fitP
  generalize Ls (bounded p) + p.me % 4 = m
  unfold bounded
  simp only [fitI_same _ _ _ (fitI_win p.co 1 4 (by omega)), fitI_same _ _ _ (fitI_win p.ba 1 4 (by omega)), fitI_same _ _ _ (fitI_win p.pa 1 16 (by omega)), fitI_same _ _ _ (fitI_win p.li 1 8 (by omega)), fitI_same _ _ _ (fitI_win p.ar 2 4 (by omega)), fitI_same _ _ _ (fitI_win p.mi 1 8 (by omega)), fitI_same _ _ _ (fitI_win p.ns 1 4 (by omega)), fitI_same _ _ _ (fitI_win p.nw 1 4 (by omega)), fitI_same _ _ _ (fitI_win p.fs 1 4 (by omega)), fitI_same _ _ _ (fitI_win p.fw 1 4 (by omega)), fitI_same _ _ _ (fitI_win p.qu 1 4 (by omega)), kindI_idem]
  rw [show min (min p.ma 4294967296) 4294967296 = min p.ma 4294967296 by omega]
theorem Ls_me (p : Pl) (m : Int) : Ls { p with me := m } = Ls p := by
  unfold Ls Lv shaped; rfl
theorem fit_right (p : Pl) : right (fitP p) = true := by
  unfold right
  rw [(Pl.same_iff _ _ (by rfl)).2 (bounded_fit p)]
  have e : Ls (fitP p) = Ls (bounded p) := Ls_me _ _
  rw [e]
  obtain ⟨h1, h2⟩ := Ls_bounds (bounded_shaped p)
  have r1 := Int.emod_nonneg p.me (b := 4) (by omega)
  have r2 := Int.emod_lt_of_pos p.me (b := 4) (by omega)
  have e2 : (fitP p).me = Ls (bounded p) + p.me % 4 := rfl
  rw [e2, decide_eq_true (by omega), decide_eq_true (by omega)]
  rfl
theorem right_facts {p : Pl} (h : right p = true) : bounded p = p ∧ shaped p = true ∧ Ls p ≤ p.me ∧ p.me ≤ 64 := by
  unfold right at h
  simp only [Bool.and_eq_true, decide_eq_true_eq] at h
  have e := (Pl.same_iff (bounded p) p (by rfl)).1 h.1
  refine ⟨e, ?_, h.2.1, h.2.2⟩
  have := bounded_shaped p
  rwa [e] at this
def sw (n a : Nat) : Nat → Nat
  | 0 => 0
  | k + 1 => sw n a k + wid n a k
theorem sw_succ (n a k : Nat) : sw n a (k + 1) = sw n a k + wid n a k := rfl
theorem sw_zero (n a : Nat) : sw n a 0 = 0 := rfl
theorem sw_fin : ∀ n : Fin 16, ∀ a : Fin 3, ∀ k : Fin 6, k ≤ lev (n + 1) (a + 2) → sw (n + 1) (a + 2) k ≤ 31 := by decide +kernel
theorem sw_le {n a : Nat} (h1 : 1 ≤ n) (h2 : n ≤ 16) (h3 : 2 ≤ a) (h4 : a ≤ 4) (k : Nat) (hk : k ≤ lev n a) : sw n a k ≤ 31 := by
  have t := (tree_facts h1 h2 h3 h4).1
  have := sw_fin ⟨n - 1, by omega⟩ ⟨a - 2, by omega⟩ ⟨k, by omega⟩
  simp only [show n - 1 + 1 = n by omega, show a - 2 + 2 = a by omega] at this
  exact this hk
def RoomRel (w : World) (q : Pl) (n a L : Nat) (s i : Value) (wr : World) : Prop :=
  ∃ k, k ≤ L ∧ s = .int .i64 (sw n a k : Nat) ∧ i = .int .i64 (k : Nat) ∧ PSt w w.heap.size q wr
attribute [local irreducible] shaped Ls Lv Wd Al right bounded fitP sw

end Go.Proofs.Ytnogmfpaipjdaaa.P
