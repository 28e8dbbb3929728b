/-
  No cell of these rows narrows 'for every input' (looked for: loops, veiled, ifaces, maps, wideKeys, modest, calm, conditions, laid).
  DERIVED. THE GIVEN ROWS OF THIS SEAT. 9 by the template 'for every input the law returns true; each argument reads behind the call as it read before'; 0 by the template 'total and deterministic' (their statements: YtcbpnmcfiohndaaTotals.lean).
  GIVEN WITH THE SEED: the statements are not yours to turn. If you find one false, say at which input.
  Laid BY PROGRAM, IN A SANDBOX (cutbox-rows.mjs): the forced cells as the released guide's own fill.sh prints them over the translation 1dcd0385ba6b23b1… (all of the seat's roots in one cut). By AI agents, Wed Nov 11 2026. No macro, syntax, notation, axiom, sorry.
-/
import Derived.Test.YtcbpnmcfiohndaaChecked
import GoSem.Claim
import GoSem.ClaimJoined
import GoSem.ClaimMapViews
import Derived.JoinedTies
import Derived.KernelRfl
namespace Go.Proofs.Ytcbpnmcfiohndaa
/- THE CELL 'sum', in the pinned program and in every row, IS THE sha256 OF THE DUMP (.gsa) THAT YtcbpnmcfiohndaaProg.lean LOADS. Nothing in Lean hashes anything: it is a label: what it is worth is what the hold of that sum in a sandbox is worth. -/
noncomputable def Try.pinned : Pinned := { name := "ytcbpnmcfiohndaa", sum := "1dcd0385ba6b23b15b0bfcbb93b13211fa4f6c08ca8a96f118f67d754a7d3f3b", checked := Try.checked }
namespace Rows
def none {H : Type} : Left H := { results := [], args := [] }

/-- 'bastionlaw05.PlanChecks': WHATEVER THE INPUT: true; the input reads as it did. -/
def planChecksSpec : ChangeSpec := { name := "planChecks", fn := fun _ => fun
  | [d1, d2] => { results := [.lit (.bool true)], args := [d1, d2] }
  | _ => none }
def planChecksRow : OpenClaim := { program := "ytcbpnmcfiohndaa", sum := "1dcd0385ba6b23b15b0bfcbb93b13211fa4f6c08ca8a96f118f67d754a7d3f3b", func := "bastion/bastionlaw05.PlanChecks", spec := "planChecks", apart := false }
def PlanChecksSaid : Prop := planChecksRow.holds Try.pinned (OpenSpec.ofChange planChecksSpec)

/-- ITS FALSE NEIGHBOUR: 'it returns false'. Refute it at one input. -/
def planChecksWrong : ChangeSpec := { name := "planChecks", fn := fun _ => fun
  | [d1, d2] => { results := [.lit (.bool false)], args := [d1, d2] }
  | _ => none }
def PlanChecksWrongFalsely : Prop := planChecksRow.holds Try.pinned (OpenSpec.ofChange planChecksWrong)

/-- 'bastionlaw05.PlanFits': WHATEVER THE INPUT: true; the input reads as it did. -/
def planFitsSpec : ChangeSpec := { name := "planFits", fn := fun _ => fun
  | [d] => { results := [.lit (.bool true)], args := [d] }
  | _ => none }
def planFitsRow : OpenClaim := { program := "ytcbpnmcfiohndaa", sum := "1dcd0385ba6b23b15b0bfcbb93b13211fa4f6c08ca8a96f118f67d754a7d3f3b", func := "bastion/bastionlaw05.PlanFits", spec := "planFits", apart := false }
def PlanFitsSaid : Prop := planFitsRow.holds Try.pinned (OpenSpec.ofChange planFitsSpec)

/-- ITS FALSE NEIGHBOUR: 'it returns false'. Refute it at one input. -/
def planFitsWrong : ChangeSpec := { name := "planFits", fn := fun _ => fun
  | [d] => { results := [.lit (.bool false)], args := [d] }
  | _ => none }
def PlanFitsWrongFalsely : Prop := planFitsRow.holds Try.pinned (OpenSpec.ofChange planFitsWrong)

/-- 'bastionlaw05.PlanTree': WHATEVER THE INPUT: true; the input reads as it did. -/
def planTreeSpec : ChangeSpec := { name := "planTree", fn := fun _ => fun
  | [d] => { results := [.lit (.bool true)], args := [d] }
  | _ => none }
def planTreeRow : OpenClaim := { program := "ytcbpnmcfiohndaa", sum := "1dcd0385ba6b23b15b0bfcbb93b13211fa4f6c08ca8a96f118f67d754a7d3f3b", func := "bastion/bastionlaw05.PlanTree", spec := "planTree", apart := false }
def PlanTreeSaid : Prop := planTreeRow.holds Try.pinned (OpenSpec.ofChange planTreeSpec)

/-- ITS FALSE NEIGHBOUR: 'it returns false'. Refute it at one input. -/
def planTreeWrong : ChangeSpec := { name := "planTree", fn := fun _ => fun
  | [d] => { results := [.lit (.bool false)], args := [d] }
  | _ => none }
def PlanTreeWrongFalsely : Prop := planTreeRow.holds Try.pinned (OpenSpec.ofChange planTreeWrong)

/-- 'bastionlaw05.PlanRoom': WHATEVER THE INPUT: true; the input reads as it did. -/
def planRoomSpec : ChangeSpec := { name := "planRoom", fn := fun _ => fun
  | [d] => { results := [.lit (.bool true)], args := [d] }
  | _ => none }
def planRoomRow : OpenClaim := { program := "ytcbpnmcfiohndaa", sum := "1dcd0385ba6b23b15b0bfcbb93b13211fa4f6c08ca8a96f118f67d754a7d3f3b", func := "bastion/bastionlaw05.PlanRoom", spec := "planRoom", apart := false }
def PlanRoomSaid : Prop := planRoomRow.holds Try.pinned (OpenSpec.ofChange planRoomSpec)

/-- ITS FALSE NEIGHBOUR: 'it returns false'. Refute it at one input. -/
def planRoomWrong : ChangeSpec := { name := "planRoom", fn := fun _ => fun
  | [d] => { results := [.lit (.bool false)], args := [d] }
  | _ => none }
def PlanRoomWrongFalsely : Prop := planRoomRow.holds Try.pinned (OpenSpec.ofChange planRoomWrong)

/-- 'bastionlaw06.RegionPlaces': WHATEVER THE INPUT: true; the input reads as it did. -/
def regionPlacesSpec : ChangeSpec := { name := "regionPlaces", fn := fun _ => fun
  | [d1, d2, d3, d4] => { results := [.lit (.bool true)], args := [d1, d2, d3, d4] }
  | _ => none }
def regionPlacesRow : OpenClaim := { program := "ytcbpnmcfiohndaa", sum := "1dcd0385ba6b23b15b0bfcbb93b13211fa4f6c08ca8a96f118f67d754a7d3f3b", func := "bastion/bastionlaw06.RegionPlaces", spec := "regionPlaces", apart := false }
def RegionPlacesSaid : Prop := regionPlacesRow.holds Try.pinned (OpenSpec.ofChange regionPlacesSpec)

/-- ITS FALSE NEIGHBOUR: 'it returns false'. Refute it at one input. -/
def regionPlacesWrong : ChangeSpec := { name := "regionPlaces", fn := fun _ => fun
  | [d1, d2, d3, d4] => { results := [.lit (.bool false)], args := [d1, d2, d3, d4] }
  | _ => none }
def RegionPlacesWrongFalsely : Prop := regionPlacesRow.holds Try.pinned (OpenSpec.ofChange regionPlacesWrong)

/-- 'bastionlaw06.RegionLines': WHATEVER THE INPUT: true; the input reads as it did. -/
def regionLinesSpec : ChangeSpec := { name := "regionLines", fn := fun _ => fun
  | [d1, d2, d3, d4] => { results := [.lit (.bool true)], args := [d1, d2, d3, d4] }
  | _ => none }
def regionLinesRow : OpenClaim := { program := "ytcbpnmcfiohndaa", sum := "1dcd0385ba6b23b15b0bfcbb93b13211fa4f6c08ca8a96f118f67d754a7d3f3b", func := "bastion/bastionlaw06.RegionLines", spec := "regionLines", apart := false }
def RegionLinesSaid : Prop := regionLinesRow.holds Try.pinned (OpenSpec.ofChange regionLinesSpec)

/-- ITS FALSE NEIGHBOUR: 'it returns false'. Refute it at one input. -/
def regionLinesWrong : ChangeSpec := { name := "regionLines", fn := fun _ => fun
  | [d1, d2, d3, d4] => { results := [.lit (.bool false)], args := [d1, d2, d3, d4] }
  | _ => none }
def RegionLinesWrongFalsely : Prop := regionLinesRow.holds Try.pinned (OpenSpec.ofChange regionLinesWrong)

/-- 'bastionlaw06.RegionTree': WHATEVER THE INPUT: true; the input reads as it did. -/
def regionTreeSpec : ChangeSpec := { name := "regionTree", fn := fun _ => fun
  | [d1, d2, d3] => { results := [.lit (.bool true)], args := [d1, d2, d3] }
  | _ => none }
def regionTreeRow : OpenClaim := { program := "ytcbpnmcfiohndaa", sum := "1dcd0385ba6b23b15b0bfcbb93b13211fa4f6c08ca8a96f118f67d754a7d3f3b", func := "bastion/bastionlaw06.RegionTree", spec := "regionTree", apart := false }
def RegionTreeSaid : Prop := regionTreeRow.holds Try.pinned (OpenSpec.ofChange regionTreeSpec)

/-- ITS FALSE NEIGHBOUR: 'it returns false'. Refute it at one input. -/
def regionTreeWrong : ChangeSpec := { name := "regionTree", fn := fun _ => fun
  | [d1, d2, d3] => { results := [.lit (.bool false)], args := [d1, d2, d3] }
  | _ => none }
def RegionTreeWrongFalsely : Prop := regionTreeRow.holds Try.pinned (OpenSpec.ofChange regionTreeWrong)

/-- 'bastionlaw06.RegionAll': WHATEVER THE INPUT: true; the input reads as it did. -/
def regionAllSpec : ChangeSpec := { name := "regionAll", fn := fun _ => fun
  | [d] => { results := [.lit (.bool true)], args := [d] }
  | _ => none }
def regionAllRow : OpenClaim := { program := "ytcbpnmcfiohndaa", sum := "1dcd0385ba6b23b15b0bfcbb93b13211fa4f6c08ca8a96f118f67d754a7d3f3b", func := "bastion/bastionlaw06.RegionAll", spec := "regionAll", apart := false }
def RegionAllSaid : Prop := regionAllRow.holds Try.pinned (OpenSpec.ofChange regionAllSpec)

/-- ITS FALSE NEIGHBOUR: 'it returns false'. Refute it at one input. -/
def regionAllWrong : ChangeSpec := { name := "regionAll", fn := fun _ => fun
  | [d] => { results := [.lit (.bool false)], args := [d] }
  | _ => none }
def RegionAllWrongFalsely : Prop := regionAllRow.holds Try.pinned (OpenSpec.ofChange regionAllWrong)

/-- 'bastionlaw06.RegionPages': WHATEVER THE INPUT: true; the input reads as it did. -/
def regionPagesSpec : ChangeSpec := { name := "regionPages", fn := fun _ => fun
  | [d1, d2, d3] => { results := [.lit (.bool true)], args := [d1, d2, d3] }
  | _ => none }
def regionPagesRow : OpenClaim := { program := "ytcbpnmcfiohndaa", sum := "1dcd0385ba6b23b15b0bfcbb93b13211fa4f6c08ca8a96f118f67d754a7d3f3b", func := "bastion/bastionlaw06.RegionPages", spec := "regionPages", apart := false }
def RegionPagesSaid : Prop := regionPagesRow.holds Try.pinned (OpenSpec.ofChange regionPagesSpec)

/-- ITS FALSE NEIGHBOUR: 'it returns false'. Refute it at one input. -/
def regionPagesWrong : ChangeSpec := { name := "regionPages", fn := fun _ => fun
  | [d1, d2, d3] => { results := [.lit (.bool false)], args := [d1, d2, d3] }
  | _ => none }
def RegionPagesWrongFalsely : Prop := regionPagesRow.holds Try.pinned (OpenSpec.ofChange regionPagesWrong)

/- THE SECOND FORM. 'bulk': how many values and letters a reading holds, each counted each time it is reached (what is shared counts as often as it is met; a slice's spare places count too). A statement '..UptoSaid' is the law's where the arguments, and the package variables that the reading takes, are together of bulk at most 1048576: NARROWER than '..Said'. Prove '..Said' where nothing that the law and all that it calls make is longer than what came in: it says more and counts as full. Else prove '..UptoSaid'. A law counts once. -/
mutual
def uptoBulk {H : Type} : DataW H → Nat
  | .lit (.string bytes) => bytes.length + 1
  | .lit _ => 1
  | .nil => 1
  | .ptr d => uptoBulk d + 1
  | .slice elems spare => uptoBulkAll elems + uptoBulkAll spare + 1
  | .agg parts => uptoBulkAll parts + 1
  | .iface _ d => uptoBulk d + 1
  | .map entries => uptoBulkEntries entries + 1
  | .held _ => 1
def uptoBulkAll {H : Type} : List (DataW H) → Nat
  | [] => 0
  | d :: r => uptoBulk d + uptoBulkAll r
def uptoBulkEntries {H : Type} : List (Lit × DataW H) → Nat
  | [] => 0
  | x :: r => uptoBulkEntry x + uptoBulkEntries r
def uptoBulkEntry {H : Type} : Lit × DataW H → Nat
  | (.string bytes, d) => bytes.length + uptoBulk d + 1
  | (_, d) => uptoBulk d + 1
 end
def uptoSmall : (H : Type) → List (DataW H) → Bool := fun _ ds => decide (uptoBulkAll ds ≤ 1048576)
def OpenSpec.upto (s : _root_.Go.ChangeSpec) : _root_.Go.OpenSpec := { _root_.Go.OpenSpec.ofChange s with cond := some uptoSmall }

/-- 'bastionlaw05.PlanChecks', WHERE WHAT IT READS IS OF BULK AT MOST 1048576: true; the input reads as it did. -/
def planChecksUptoRow : OpenClaim := { program := "ytcbpnmcfiohndaa", sum := "1dcd0385ba6b23b15b0bfcbb93b13211fa4f6c08ca8a96f118f67d754a7d3f3b", func := "bastion/bastionlaw05.PlanChecks", spec := "planChecks", apart := false, narrowed := true }
def PlanChecksUptoSaid : Prop := planChecksUptoRow.holds Try.pinned (OpenSpec.upto planChecksSpec)

/-- 'bastionlaw05.PlanFits', WHERE WHAT IT READS IS OF BULK AT MOST 1048576: true; the input reads as it did. -/
def planFitsUptoRow : OpenClaim := { program := "ytcbpnmcfiohndaa", sum := "1dcd0385ba6b23b15b0bfcbb93b13211fa4f6c08ca8a96f118f67d754a7d3f3b", func := "bastion/bastionlaw05.PlanFits", spec := "planFits", apart := false, narrowed := true }
def PlanFitsUptoSaid : Prop := planFitsUptoRow.holds Try.pinned (OpenSpec.upto planFitsSpec)

/-- 'bastionlaw05.PlanTree', WHERE WHAT IT READS IS OF BULK AT MOST 1048576: true; the input reads as it did. -/
def planTreeUptoRow : OpenClaim := { program := "ytcbpnmcfiohndaa", sum := "1dcd0385ba6b23b15b0bfcbb93b13211fa4f6c08ca8a96f118f67d754a7d3f3b", func := "bastion/bastionlaw05.PlanTree", spec := "planTree", apart := false, narrowed := true }
def PlanTreeUptoSaid : Prop := planTreeUptoRow.holds Try.pinned (OpenSpec.upto planTreeSpec)

/-- 'bastionlaw05.PlanRoom', WHERE WHAT IT READS IS OF BULK AT MOST 1048576: true; the input reads as it did. -/
def planRoomUptoRow : OpenClaim := { program := "ytcbpnmcfiohndaa", sum := "1dcd0385ba6b23b15b0bfcbb93b13211fa4f6c08ca8a96f118f67d754a7d3f3b", func := "bastion/bastionlaw05.PlanRoom", spec := "planRoom", apart := false, narrowed := true }
def PlanRoomUptoSaid : Prop := planRoomUptoRow.holds Try.pinned (OpenSpec.upto planRoomSpec)

/-- 'bastionlaw06.RegionPlaces', WHERE WHAT IT READS IS OF BULK AT MOST 1048576: true; the input reads as it did. -/
def regionPlacesUptoRow : OpenClaim := { program := "ytcbpnmcfiohndaa", sum := "1dcd0385ba6b23b15b0bfcbb93b13211fa4f6c08ca8a96f118f67d754a7d3f3b", func := "bastion/bastionlaw06.RegionPlaces", spec := "regionPlaces", apart := false, narrowed := true }
def RegionPlacesUptoSaid : Prop := regionPlacesUptoRow.holds Try.pinned (OpenSpec.upto regionPlacesSpec)

/-- 'bastionlaw06.RegionLines', WHERE WHAT IT READS IS OF BULK AT MOST 1048576: true; the input reads as it did. -/
def regionLinesUptoRow : OpenClaim := { program := "ytcbpnmcfiohndaa", sum := "1dcd0385ba6b23b15b0bfcbb93b13211fa4f6c08ca8a96f118f67d754a7d3f3b", func := "bastion/bastionlaw06.RegionLines", spec := "regionLines", apart := false, narrowed := true }
def RegionLinesUptoSaid : Prop := regionLinesUptoRow.holds Try.pinned (OpenSpec.upto regionLinesSpec)

/-- 'bastionlaw06.RegionTree', WHERE WHAT IT READS IS OF BULK AT MOST 1048576: true; the input reads as it did. -/
def regionTreeUptoRow : OpenClaim := { program := "ytcbpnmcfiohndaa", sum := "1dcd0385ba6b23b15b0bfcbb93b13211fa4f6c08ca8a96f118f67d754a7d3f3b", func := "bastion/bastionlaw06.RegionTree", spec := "regionTree", apart := false, narrowed := true }
def RegionTreeUptoSaid : Prop := regionTreeUptoRow.holds Try.pinned (OpenSpec.upto regionTreeSpec)

/-- 'bastionlaw06.RegionAll', WHERE WHAT IT READS IS OF BULK AT MOST 1048576: true; the input reads as it did. -/
def regionAllUptoRow : OpenClaim := { program := "ytcbpnmcfiohndaa", sum := "1dcd0385ba6b23b15b0bfcbb93b13211fa4f6c08ca8a96f118f67d754a7d3f3b", func := "bastion/bastionlaw06.RegionAll", spec := "regionAll", apart := false, narrowed := true }
def RegionAllUptoSaid : Prop := regionAllUptoRow.holds Try.pinned (OpenSpec.upto regionAllSpec)

/-- 'bastionlaw06.RegionPages', WHERE WHAT IT READS IS OF BULK AT MOST 1048576: true; the input reads as it did. -/
def regionPagesUptoRow : OpenClaim := { program := "ytcbpnmcfiohndaa", sum := "1dcd0385ba6b23b15b0bfcbb93b13211fa4f6c08ca8a96f118f67d754a7d3f3b", func := "bastion/bastionlaw06.RegionPages", spec := "regionPages", apart := false, narrowed := true }
def RegionPagesUptoSaid : Prop := regionPagesUptoRow.holds Try.pinned (OpenSpec.upto regionPagesSpec)

end Rows
end Go.Proofs.Ytcbpnmcfiohndaa
