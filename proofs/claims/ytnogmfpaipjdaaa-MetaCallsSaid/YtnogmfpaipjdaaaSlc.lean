/- What is left of a slice behind its first elements, whatever it is. No statement is proved here. -/
import Derived.Test.YtnogmfpaipjdaaaElt2
namespace Go.Proofs.Ytnogmfpaipjdaaa
open Go.RowKit
set_option linter.unusedVariables false
set_option linter.unusedSimpArgs false

def dropA (A : Option Addr) (c k sz : Nat) : Option Addr := if c = k then A else A.map (·.add (k * sz))
variable {α : Type} [E : Elt α]
theorem run_slice_from (A : Option Addr) (n c k : Nat) (hk : k ≤ n) (hn : n ≤ c) (W : World) :
    (Instr.sliceAt E.sl (.slice A n c) (some (.int .i64 (k : Int))) none none).run Try.prog W = .ok (.slice (dropA A c k E.sz) (n - k) (c - k)) W := by
  obtain ⟨i, hi, hz, h1, h2⟩ := E.inf
  have hu := E.und
  have he : Try.prog.elem E.sl = E.ty := by simp [Program.elem, hu]
  have hu2 : Try.prog.underlying E.sl = some (.slice (Try.prog.elem E.sl)) := by rw [he]; exact hu
  have q0 : (0 : Int) ≤ (k : Int) := by omega
  have q1 : (k : Int) ≤ (n : Int) := by omega
  rw [run_sliceAt_slice _ _ _ _ _ _ hu2]
  unfold Instr.slice
  simp only [Sem.run_bind, run_underlying hu, Result.andThen_ok]
  have hb : (Instr.sliceBounds true n c (some (.int .i64 (k : Int))) none none).run Try.prog W = .ok (k, n, c) W := by
    unfold Instr.sliceBounds
    simp [Sem.run_bind, run_sliceBound, q0, q1, hk]
  rw [hb]
  simp [sizeOf, typeInfo, hi, h1, dropA]
theorem ERow.from_ {w : World} {B n c : Nat} {A : Option Addr} {xs : List α} (h : ERow w B A n c xs) (k : Nat) (hk : k ≤ n) : ERow w B (dropA A c k E.sz) (n - k) (c - k) (xs.drop k) := by
  unfold dropA
  by_cases hc : c = k
  · rw [if_pos hc]
    have hn := h.2.1
    have hl := h.len
    exact ⟨by simp [hl], by omega, by have := h.2.2.1; omega, fun _ => by omega, fun a ha hp => by omega⟩
  · rw [if_neg hc]
    cases A with
    | none => have := h.2.2.2.1 rfl; have := h.2.1; omega
    | some a =>
      by_cases hn : 0 < n
      · obtain ⟨b, o, spot⟩ := a
        obtain ⟨hs, _, _⟩ := h.2.2.2.2 _ rfl hn
        simp only at hs
        subst hs
        have := h.drop k hk
        simp only [Option.map_some]
        rw [Addr.add_lit]
        exact this
      · have hl := h.len
        exact ⟨by simp [hl], by have := h.2.1; omega, by have := h.2.2.1; omega, (fun h => by cases h), fun a ha hp => by omega⟩
theorem exec_slice_from {o : Oper} {a : Act} {A : Option Addr} {n c k : Nat} (x y : Operand) (ho : o.op = .slice E.sl x (some y) none none) (hx : a.eval x = .slice A n c) (hy : a.eval y = .int .i64 (k : Int)) (hk : k ≤ n) (hn : n ≤ c) (W : World) :
    (execOp a.eval o).run Try.prog W = .ok (.value (.slice (dropA A c k E.sz) (n - k) (c - k))) W := by
  unfold execOp
  simp only [ho, hx, Sem.run_bind, Option.map_some, Option.map_none, hy, run_slice_from A n c k hk hn, Result.andThen_ok, Sem.run_pure]
end Go.Proofs.Ytnogmfpaipjdaaa
