/-
  No cell of these rows narrows 'for every input' (looked for: loops, veiled, ifaces, maps, wideKeys, modest, calm, conditions, laid).
  DERIVED. THE GIVEN ROWS OF THIS SEAT. 3 by the template 'for every input the law returns true; each argument reads behind the call as it read before'; 0 by the template 'total and deterministic' (their statements: YtbmdkmnkbchokaaTotals.lean).
  GIVEN WITH THE SEED: the statements are not yours to turn. If you find one false, say at which input.
  Laid BY PROGRAM, IN A SANDBOX (cutbox-rows.mjs): the forced cells as the released guide's own fill.sh prints them over the translation 47079babc2074976… (all of the seat's roots in one cut). By AI agents, Wed Nov 11 2026. No macro, syntax, notation, axiom, sorry.
-/
import Derived.Test.YtbmdkmnkbchokaaChecked
import GoSem.Claim
import GoSem.ClaimJoined
import GoSem.ClaimMapViews
import Derived.JoinedTies
import Derived.KernelRfl
namespace Go.Proofs.Ytbmdkmnkbchokaa
/- THE CELL 'sum', in the pinned program and in every row, IS THE sha256 OF THE DUMP (.gsa) THAT YtbmdkmnkbchokaaProg.lean LOADS. Nothing in Lean hashes anything: it is a label: what it is worth is what the hold of that sum in a sandbox is worth. -/
noncomputable def Try.pinned : Pinned := { name := "ytbmdkmnkbchokaa", sum := "47079babc2074976f1253e10f6f0476f528069b4387f8279344cbdb0e1d2a33e", checked := Try.checked }
namespace Rows
def none {H : Type} : Left H := { results := [], args := [] }

/-- 'bastionlaw08.DramDrops': WHATEVER THE INPUT: true; the input reads as it did. -/
def dramDropsSpec : ChangeSpec := { name := "dramDrops", fn := fun _ => fun
  | [d1, d2] => { results := [.lit (.bool true)], args := [d1, d2] }
  | _ => none }
def dramDropsRow : OpenClaim := { program := "ytbmdkmnkbchokaa", sum := "47079babc2074976f1253e10f6f0476f528069b4387f8279344cbdb0e1d2a33e", func := "bastion/bastionlaw08.DramDrops", spec := "dramDrops", apart := false }
def DramDropsSaid : Prop := dramDropsRow.holds Try.pinned (OpenSpec.ofChange dramDropsSpec)

/-- ITS FALSE NEIGHBOUR: 'it returns false'. Refute it at one input. -/
def dramDropsWrong : ChangeSpec := { name := "dramDrops", fn := fun _ => fun
  | [d1, d2] => { results := [.lit (.bool false)], args := [d1, d2] }
  | _ => none }
def DramDropsWrongFalsely : Prop := dramDropsRow.holds Try.pinned (OpenSpec.ofChange dramDropsWrong)

/-- 'bastionlaw08.DramFlips': WHATEVER THE INPUT: true; the input reads as it did. -/
def dramFlipsSpec : ChangeSpec := { name := "dramFlips", fn := fun _ => fun
  | [d1, d2] => { results := [.lit (.bool true)], args := [d1, d2] }
  | _ => none }
def dramFlipsRow : OpenClaim := { program := "ytbmdkmnkbchokaa", sum := "47079babc2074976f1253e10f6f0476f528069b4387f8279344cbdb0e1d2a33e", func := "bastion/bastionlaw08.DramFlips", spec := "dramFlips", apart := false }
def DramFlipsSaid : Prop := dramFlipsRow.holds Try.pinned (OpenSpec.ofChange dramFlipsSpec)

/-- ITS FALSE NEIGHBOUR: 'it returns false'. Refute it at one input. -/
def dramFlipsWrong : ChangeSpec := { name := "dramFlips", fn := fun _ => fun
  | [d1, d2] => { results := [.lit (.bool false)], args := [d1, d2] }
  | _ => none }
def DramFlipsWrongFalsely : Prop := dramFlipsRow.holds Try.pinned (OpenSpec.ofChange dramFlipsWrong)

/-- 'bastionlaw08.DramUse': WHATEVER THE INPUT: true; the input reads as it did. -/
def dramUseSpec : ChangeSpec := { name := "dramUse", fn := fun _ => fun
  | [d1, d2, d3, d4] => { results := [.lit (.bool true)], args := [d1, d2, d3, d4] }
  | _ => none }
def dramUseRow : OpenClaim := { program := "ytbmdkmnkbchokaa", sum := "47079babc2074976f1253e10f6f0476f528069b4387f8279344cbdb0e1d2a33e", func := "bastion/bastionlaw08.DramUse", spec := "dramUse", apart := false }
def DramUseSaid : Prop := dramUseRow.holds Try.pinned (OpenSpec.ofChange dramUseSpec)

/-- ITS FALSE NEIGHBOUR: 'it returns false'. Refute it at one input. -/
def dramUseWrong : ChangeSpec := { name := "dramUse", fn := fun _ => fun
  | [d1, d2, d3, d4] => { results := [.lit (.bool false)], args := [d1, d2, d3, d4] }
  | _ => none }
def DramUseWrongFalsely : Prop := dramUseRow.holds Try.pinned (OpenSpec.ofChange dramUseWrong)

/- THE SECOND FORM. 'bulk': how many values and letters a reading holds, each counted each time it is reached (what is shared counts as often as it is met; a slice's spare places count too). A statement '..UptoSaid' is the law's where the arguments, and the package variables that the reading takes, are together of bulk at most 1048576: NARROWER than '..Said'. Prove '..Said' where nothing that the law and all that it calls make is longer than what came in: it says more and counts as full. Else prove '..UptoSaid'. A law counts once. -/
mutual
def uptoBulk {H : Type} : DataW H → Nat
  | .lit (.string bytes) => bytes.length + 1
  | .lit _ => 1
  | .nil => 1
  | .ptr d => uptoBulk d + 1
  | .slice elems spare => uptoBulkAll elems + uptoBulkAll spare + 1
  | .agg parts => uptoBulkAll parts + 1
  | .iface _ d => uptoBulk d + 1
  | .map entries => uptoBulkEntries entries + 1
  | .held _ => 1
def uptoBulkAll {H : Type} : List (DataW H) → Nat
  | [] => 0
  | d :: r => uptoBulk d + uptoBulkAll r
def uptoBulkEntries {H : Type} : List (Lit × DataW H) → Nat
  | [] => 0
  | x :: r => uptoBulkEntry x + uptoBulkEntries r
def uptoBulkEntry {H : Type} : Lit × DataW H → Nat
  | (.string bytes, d) => bytes.length + uptoBulk d + 1
  | (_, d) => uptoBulk d + 1
 end
def uptoSmall : (H : Type) → List (DataW H) → Bool := fun _ ds => decide (uptoBulkAll ds ≤ 1048576)
def OpenSpec.upto (s : _root_.Go.ChangeSpec) : _root_.Go.OpenSpec := { _root_.Go.OpenSpec.ofChange s with cond := some uptoSmall }

/-- 'bastionlaw08.DramDrops', WHERE WHAT IT READS IS OF BULK AT MOST 1048576: true; the input reads as it did. -/
def dramDropsUptoRow : OpenClaim := { program := "ytbmdkmnkbchokaa", sum := "47079babc2074976f1253e10f6f0476f528069b4387f8279344cbdb0e1d2a33e", func := "bastion/bastionlaw08.DramDrops", spec := "dramDrops", apart := false, narrowed := true }
def DramDropsUptoSaid : Prop := dramDropsUptoRow.holds Try.pinned (OpenSpec.upto dramDropsSpec)

/-- 'bastionlaw08.DramFlips', WHERE WHAT IT READS IS OF BULK AT MOST 1048576: true; the input reads as it did. -/
def dramFlipsUptoRow : OpenClaim := { program := "ytbmdkmnkbchokaa", sum := "47079babc2074976f1253e10f6f0476f528069b4387f8279344cbdb0e1d2a33e", func := "bastion/bastionlaw08.DramFlips", spec := "dramFlips", apart := false, narrowed := true }
def DramFlipsUptoSaid : Prop := dramFlipsUptoRow.holds Try.pinned (OpenSpec.upto dramFlipsSpec)

/-- 'bastionlaw08.DramUse', WHERE WHAT IT READS IS OF BULK AT MOST 1048576: true; the input reads as it did. -/
def dramUseUptoRow : OpenClaim := { program := "ytbmdkmnkbchokaa", sum := "47079babc2074976f1253e10f6f0476f528069b4387f8279344cbdb0e1d2a33e", func := "bastion/bastionlaw08.DramUse", spec := "dramUse", apart := false, narrowed := true }
def DramUseUptoSaid : Prop := dramUseUptoRow.holds Try.pinned (OpenSpec.upto dramUseSpec)

end Rows
end Go.Proofs.Ytbmdkmnkbchokaa
