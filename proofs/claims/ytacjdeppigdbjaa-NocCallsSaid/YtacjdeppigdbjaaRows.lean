/-
  No cell of these rows narrows 'for every input' (looked for: loops, veiled, ifaces, maps, wideKeys, modest, calm, conditions, laid).
  DERIVED. THE GIVEN ROWS OF THIS SEAT. 6 by the template 'for every input the law returns true; each argument reads behind the call as it read before'; 0 by the template 'total and deterministic' (their statements: YtacjdeppigdbjaaTotals.lean).
  GIVEN WITH THE SEED: the statements are not yours to turn. If you find one false, say at which input.
  Laid BY PROGRAM, IN A SANDBOX (cutbox-rows.mjs): the forced cells as the released guide's own fill.sh prints them over the translation 7678ea19c158b588… (all of the seat's roots in one cut). By AI agents, Wed Nov 11 2026. No macro, syntax, notation, axiom, sorry.
-/
import Derived.Test.YtacjdeppigdbjaaChecked
import GoSem.Claim
import GoSem.ClaimJoined
import GoSem.ClaimMapViews
import Derived.JoinedTies
import Derived.KernelRfl
namespace Go.Proofs.Ytacjdeppigdbjaa
/- THE CELL 'sum', in the pinned program and in every row, IS THE sha256 OF THE DUMP (.gsa) THAT YtacjdeppigdbjaaProg.lean LOADS. Nothing in Lean hashes anything: it is a label: what it is worth is what the hold of that sum in a sandbox is worth. -/
noncomputable def Try.pinned : Pinned := { name := "ytacjdeppigdbjaa", sum := "7678ea19c158b588bb826c07e5a9dc5b1aed8fbbc1c6bb9dcf58693639a65068", checked := Try.checked }
namespace Rows
def none {H : Type} : Left H := { results := [], args := [] }

/-- 'bastionlaw09.RingCalls': WHATEVER THE INPUT: true; the input reads as it did. -/
def ringCallsSpec : ChangeSpec := { name := "ringCalls", fn := fun _ => fun
  | [d1, d2] => { results := [.lit (.bool true)], args := [d1, d2] }
  | _ => none }
def ringCallsRow : OpenClaim := { program := "ytacjdeppigdbjaa", sum := "7678ea19c158b588bb826c07e5a9dc5b1aed8fbbc1c6bb9dcf58693639a65068", func := "bastion/bastionlaw09.RingCalls", spec := "ringCalls", plainKeys := false, apart := false }
def RingCallsSaid : Prop := ringCallsRow.holds Try.pinned (OpenSpec.ofChange ringCallsSpec)

/-- ITS FALSE NEIGHBOUR: 'it returns false'. Refute it at one input. -/
def ringCallsWrong : ChangeSpec := { name := "ringCalls", fn := fun _ => fun
  | [d1, d2] => { results := [.lit (.bool false)], args := [d1, d2] }
  | _ => none }
def RingCallsWrongFalsely : Prop := ringCallsRow.holds Try.pinned (OpenSpec.ofChange ringCallsWrong)

/-- 'bastionlaw09.RingOrder': WHATEVER THE INPUT: true; the input reads as it did. -/
def ringOrderSpec : ChangeSpec := { name := "ringOrder", fn := fun _ => fun
  | [d1, d2] => { results := [.lit (.bool true)], args := [d1, d2] }
  | _ => none }
def ringOrderRow : OpenClaim := { program := "ytacjdeppigdbjaa", sum := "7678ea19c158b588bb826c07e5a9dc5b1aed8fbbc1c6bb9dcf58693639a65068", func := "bastion/bastionlaw09.RingOrder", spec := "ringOrder", plainKeys := false, apart := false }
def RingOrderSaid : Prop := ringOrderRow.holds Try.pinned (OpenSpec.ofChange ringOrderSpec)

/-- ITS FALSE NEIGHBOUR: 'it returns false'. Refute it at one input. -/
def ringOrderWrong : ChangeSpec := { name := "ringOrder", fn := fun _ => fun
  | [d1, d2] => { results := [.lit (.bool false)], args := [d1, d2] }
  | _ => none }
def RingOrderWrongFalsely : Prop := ringOrderRow.holds Try.pinned (OpenSpec.ofChange ringOrderWrong)

/-- 'bastionlaw09.RingTurns': WHATEVER THE INPUT: true; the input reads as it did. -/
def ringTurnsSpec : ChangeSpec := { name := "ringTurns", fn := fun _ => fun
  | [d1, d2] => { results := [.lit (.bool true)], args := [d1, d2] }
  | _ => none }
def ringTurnsRow : OpenClaim := { program := "ytacjdeppigdbjaa", sum := "7678ea19c158b588bb826c07e5a9dc5b1aed8fbbc1c6bb9dcf58693639a65068", func := "bastion/bastionlaw09.RingTurns", spec := "ringTurns", plainKeys := false, apart := false }
def RingTurnsSaid : Prop := ringTurnsRow.holds Try.pinned (OpenSpec.ofChange ringTurnsSpec)

/-- ITS FALSE NEIGHBOUR: 'it returns false'. Refute it at one input. -/
def ringTurnsWrong : ChangeSpec := { name := "ringTurns", fn := fun _ => fun
  | [d1, d2] => { results := [.lit (.bool false)], args := [d1, d2] }
  | _ => none }
def RingTurnsWrongFalsely : Prop := ringTurnsRow.holds Try.pinned (OpenSpec.ofChange ringTurnsWrong)

/-- 'bastionlaw10.NocCalls': WHATEVER THE INPUT: true; the input reads as it did. -/
def nocCallsSpec : ChangeSpec := { name := "nocCalls", fn := fun _ => fun
  | [d1, d2, d3, d4] => { results := [.lit (.bool true)], args := [d1, d2, d3, d4] }
  | _ => none }
def nocCallsRow : OpenClaim := { program := "ytacjdeppigdbjaa", sum := "7678ea19c158b588bb826c07e5a9dc5b1aed8fbbc1c6bb9dcf58693639a65068", func := "bastion/bastionlaw10.NocCalls", spec := "nocCalls", unfollowed := true, recurses := true, plainKeys := false, apart := false }
def NocCallsSaid : Prop := nocCallsRow.holds Try.pinned (OpenSpec.ofChange nocCallsSpec)

/-- ITS FALSE NEIGHBOUR: 'it returns false'. Refute it at one input. -/
def nocCallsWrong : ChangeSpec := { name := "nocCalls", fn := fun _ => fun
  | [d1, d2, d3, d4] => { results := [.lit (.bool false)], args := [d1, d2, d3, d4] }
  | _ => none }
def NocCallsWrongFalsely : Prop := nocCallsRow.holds Try.pinned (OpenSpec.ofChange nocCallsWrong)

/-- 'bastionlaw10.NocOrder': WHATEVER THE INPUT: true; the input reads as it did. -/
def nocOrderSpec : ChangeSpec := { name := "nocOrder", fn := fun _ => fun
  | [d1, d2, d3, d4, d5] => { results := [.lit (.bool true)], args := [d1, d2, d3, d4, d5] }
  | _ => none }
def nocOrderRow : OpenClaim := { program := "ytacjdeppigdbjaa", sum := "7678ea19c158b588bb826c07e5a9dc5b1aed8fbbc1c6bb9dcf58693639a65068", func := "bastion/bastionlaw10.NocOrder", spec := "nocOrder", unfollowed := true, recurses := true, plainKeys := false, apart := false }
def NocOrderSaid : Prop := nocOrderRow.holds Try.pinned (OpenSpec.ofChange nocOrderSpec)

/-- ITS FALSE NEIGHBOUR: 'it returns false'. Refute it at one input. -/
def nocOrderWrong : ChangeSpec := { name := "nocOrder", fn := fun _ => fun
  | [d1, d2, d3, d4, d5] => { results := [.lit (.bool false)], args := [d1, d2, d3, d4, d5] }
  | _ => none }
def NocOrderWrongFalsely : Prop := nocOrderRow.holds Try.pinned (OpenSpec.ofChange nocOrderWrong)

/-- 'bastionlaw10.NocApart': WHATEVER THE INPUT: true; the input reads as it did. -/
def nocApartSpec : ChangeSpec := { name := "nocApart", fn := fun _ => fun
  | [d1, d2, d3, d4, d5] => { results := [.lit (.bool true)], args := [d1, d2, d3, d4, d5] }
  | _ => none }
def nocApartRow : OpenClaim := { program := "ytacjdeppigdbjaa", sum := "7678ea19c158b588bb826c07e5a9dc5b1aed8fbbc1c6bb9dcf58693639a65068", func := "bastion/bastionlaw10.NocApart", spec := "nocApart", unfollowed := true, recurses := true, plainKeys := false, apart := false }
def NocApartSaid : Prop := nocApartRow.holds Try.pinned (OpenSpec.ofChange nocApartSpec)

/-- ITS FALSE NEIGHBOUR: 'it returns false'. Refute it at one input. -/
def nocApartWrong : ChangeSpec := { name := "nocApart", fn := fun _ => fun
  | [d1, d2, d3, d4, d5] => { results := [.lit (.bool false)], args := [d1, d2, d3, d4, d5] }
  | _ => none }
def NocApartWrongFalsely : Prop := nocApartRow.holds Try.pinned (OpenSpec.ofChange nocApartWrong)

/- THE SECOND FORM. 'bulk': how many values and letters a reading holds, each counted each time it is reached (what is shared counts as often as it is met; a slice's spare places count too). A statement '..UptoSaid' is the law's where the arguments, and the package variables that the reading takes, are together of bulk at most 1048576: NARROWER than '..Said'. Prove '..Said' where nothing that the law and all that it calls make is longer than what came in: it says more and counts as full. Else prove '..UptoSaid'. A law counts once. -/
mutual
def uptoBulk {H : Type} : DataW H → Nat
  | .lit (.string bytes) => bytes.length + 1
  | .lit _ => 1
  | .nil => 1
  | .ptr d => uptoBulk d + 1
  | .slice elems spare => uptoBulkAll elems + uptoBulkAll spare + 1
  | .agg parts => uptoBulkAll parts + 1
  | .iface _ d => uptoBulk d + 1
  | .map entries => uptoBulkEntries entries + 1
  | .held _ => 1
def uptoBulkAll {H : Type} : List (DataW H) → Nat
  | [] => 0
  | d :: r => uptoBulk d + uptoBulkAll r
def uptoBulkEntries {H : Type} : List (Lit × DataW H) → Nat
  | [] => 0
  | x :: r => uptoBulkEntry x + uptoBulkEntries r
def uptoBulkEntry {H : Type} : Lit × DataW H → Nat
  | (.string bytes, d) => bytes.length + uptoBulk d + 1
  | (_, d) => uptoBulk d + 1
 end
def uptoSmall : (H : Type) → List (DataW H) → Bool := fun _ ds => decide (uptoBulkAll ds ≤ 1048576)
def OpenSpec.upto (s : _root_.Go.ChangeSpec) : _root_.Go.OpenSpec := { _root_.Go.OpenSpec.ofChange s with cond := some uptoSmall }

/-- 'bastionlaw09.RingCalls', WHERE WHAT IT READS IS OF BULK AT MOST 1048576: true; the input reads as it did. -/
def ringCallsUptoRow : OpenClaim := { program := "ytacjdeppigdbjaa", sum := "7678ea19c158b588bb826c07e5a9dc5b1aed8fbbc1c6bb9dcf58693639a65068", func := "bastion/bastionlaw09.RingCalls", spec := "ringCalls", plainKeys := false, apart := false, narrowed := true }
def RingCallsUptoSaid : Prop := ringCallsUptoRow.holds Try.pinned (OpenSpec.upto ringCallsSpec)

/-- 'bastionlaw09.RingOrder', WHERE WHAT IT READS IS OF BULK AT MOST 1048576: true; the input reads as it did. -/
def ringOrderUptoRow : OpenClaim := { program := "ytacjdeppigdbjaa", sum := "7678ea19c158b588bb826c07e5a9dc5b1aed8fbbc1c6bb9dcf58693639a65068", func := "bastion/bastionlaw09.RingOrder", spec := "ringOrder", plainKeys := false, apart := false, narrowed := true }
def RingOrderUptoSaid : Prop := ringOrderUptoRow.holds Try.pinned (OpenSpec.upto ringOrderSpec)

/-- 'bastionlaw09.RingTurns', WHERE WHAT IT READS IS OF BULK AT MOST 1048576: true; the input reads as it did. -/
def ringTurnsUptoRow : OpenClaim := { program := "ytacjdeppigdbjaa", sum := "7678ea19c158b588bb826c07e5a9dc5b1aed8fbbc1c6bb9dcf58693639a65068", func := "bastion/bastionlaw09.RingTurns", spec := "ringTurns", plainKeys := false, apart := false, narrowed := true }
def RingTurnsUptoSaid : Prop := ringTurnsUptoRow.holds Try.pinned (OpenSpec.upto ringTurnsSpec)

/-- 'bastionlaw10.NocCalls', WHERE WHAT IT READS IS OF BULK AT MOST 1048576: true; the input reads as it did. -/
def nocCallsUptoRow : OpenClaim := { program := "ytacjdeppigdbjaa", sum := "7678ea19c158b588bb826c07e5a9dc5b1aed8fbbc1c6bb9dcf58693639a65068", func := "bastion/bastionlaw10.NocCalls", spec := "nocCalls", unfollowed := true, recurses := true, plainKeys := false, apart := false, narrowed := true }
def NocCallsUptoSaid : Prop := nocCallsUptoRow.holds Try.pinned (OpenSpec.upto nocCallsSpec)

/-- 'bastionlaw10.NocOrder', WHERE WHAT IT READS IS OF BULK AT MOST 1048576: true; the input reads as it did. -/
def nocOrderUptoRow : OpenClaim := { program := "ytacjdeppigdbjaa", sum := "7678ea19c158b588bb826c07e5a9dc5b1aed8fbbc1c6bb9dcf58693639a65068", func := "bastion/bastionlaw10.NocOrder", spec := "nocOrder", unfollowed := true, recurses := true, plainKeys := false, apart := false, narrowed := true }
def NocOrderUptoSaid : Prop := nocOrderUptoRow.holds Try.pinned (OpenSpec.upto nocOrderSpec)

/-- 'bastionlaw10.NocApart', WHERE WHAT IT READS IS OF BULK AT MOST 1048576: true; the input reads as it did. -/
def nocApartUptoRow : OpenClaim := { program := "ytacjdeppigdbjaa", sum := "7678ea19c158b588bb826c07e5a9dc5b1aed8fbbc1c6bb9dcf58693639a65068", func := "bastion/bastionlaw10.NocApart", spec := "nocApart", unfollowed := true, recurses := true, plainKeys := false, apart := false, narrowed := true }
def NocApartUptoSaid : Prop := nocApartUptoRow.holds Try.pinned (OpenSpec.upto nocApartSpec)

end Rows
end Go.Proofs.Ytacjdeppigdbjaa
