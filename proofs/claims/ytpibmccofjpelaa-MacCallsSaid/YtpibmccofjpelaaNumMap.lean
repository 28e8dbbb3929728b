/- Maps of numbers that a call has made: what stands at a key. No statement is proved here. -/
import Derived.Test.YtpibmccofjpelaaOpenRows
import Derived.Maps.Own
import Derived.Maps.Views
namespace Go.Proofs.Ytpibmccofjpelaa
open Go.RowKit Go.Maps
set_option linter.unusedVariables false

/-- Block b is a map of numbers, with keys of the type kt, at most n of them; at the key kl stands f kl, and 0, if there is none. -/
def NumMap (V : World) (kt : TypeId) (b n : Nat) (f : Lit → Nat) : Prop :=
  ∃ D : DataW Unit, V.ownsMap Try.prog kt (plainElem Try.prog 3) b n D ∧ IsMap D ∧ ∀ kl, D.atKey kl (.lit (.int .i64 0)) = .lit (.int .i64 (f kl : Nat))
section
variable {V V2 : World} {kt : TypeId} {b n : Nat} {f : Lit → Nat}
theorem NumMap.lt (h : NumMap V kt b n f) : b < V.heap.size := by obtain ⟨D, h1, _⟩ := h; exact h1.lt
theorem NumMap.kept (h : NumMap V kt b n f) {row : Option Nat} (hg : V.grownBy V2 row) (hne : some b ≠ row) : NumMap V2 kt b n f := by
  obtain ⟨D, h1, h2, h3⟩ := h
  exact ⟨D, h1.kept hg hne, h2, h3⟩
theorem NumMap.alloc (h : NumMap V kt b n f) (o : Obj) : NumMap (V.alloc o) kt b n f := h.kept (World.grownBy_alloc V o none) (by simp)
theorem NumMap.drewN (h : NumMap V kt b n f) (k : Nat) : NumMap (V.drewN k) kt b n f := h
theorem NumMap.below (h : NumMap V kt b n f) (hb : Below V.heap.size V V2) : NumMap V2 kt b n f := h.kept (grown_of_below hb none) (by simp)
theorem NumMap.made (V : World) (kt : TypeId) : NumMap (V.alloc (.map #[] 0)) kt V.heap.size 0 (fun _ => 0) := ⟨.map [], World.ownsMap_made V Try.prog kt _, isMap_empty, fun kl => rfl⟩
theorem zero3 (w : World) : (zeroValue 3).run Try.prog w = .ok (.int .i64 0) w := by kernel_rfl
theorem NumMap.look {t : TypeId} (h : NumMap V kt b n f) (K : Keyed Try.prog kt) (ht : Try.prog.underlying t = some (.map kt 3)) {key : Value} {kl : Lit} (hkey : keyOf Try.prog kt key = some kl) :
    (Instr.lookup t (.map (some b)) key false).run Try.prog V = .ok (.int .i64 (f kl : Nat)) V := by
  obtain ⟨D, h1, h2, h3⟩ := h
  obtain ⟨c, hrun, hat, _⟩ := h1.lookup_int K ht Try.underlying3 (zero3 V) hkey
  rw [h3 kl] at hat
  injection hat with hat
  injection hat with _ hat
  rw [hrun, ← hat]
theorem NumMap.put {t : TypeId} (h : NumMap V kt b n f) (K : Keyed Try.prog kt) (ht : Try.prog.underlying t = some (.map kt 3)) (hn : n < 1000000) {key : Value} {kl : Lit} (hkey : keyOf Try.prog kt key = some kl) (hk : WideAt.IsKeyLit kl) (v : Nat) (hv : v < 1000000)
    (f' : Lit → Nat) (h1' : f' kl = v) (h2' : ∀ x, x ≠ kl → f' x = f x) :
    ∃ w', (Instr.mapUpdate t (.map (some b)) key (.int .i64 (v : Nat))).run Try.prog V = .ok () w' ∧ NumMap w' kt b (n + 1) f' ∧ V.grownBy w' (some b) := by
  obtain ⟨D, h1, h2, h3⟩ := h
  have hwf : (Lit.int .i64 (v : Int)).wf = true := by simp [Lit.wf, IntKind.min, IntKind.max, IntKind.bits, IntKind.signed]; omega
  obtain ⟨w', hrun, ho, hg⟩ := h1.update K ht (by unfold maxLen; omega) hkey (plainElem_int Try.underlying3 hwf)
  refine ⟨w', hrun, ⟨_, ho, h2.put _ _, fun x => ?_⟩, hg⟩
  by_cases e : x = kl
  · subst e
    rw [h1']
    exact atKey_put_same h2 hk _ _
  · rw [h2' x e, atKey_put_other e]
    exact h3 x
end
end Go.Proofs.Ytpibmccofjpelaa
