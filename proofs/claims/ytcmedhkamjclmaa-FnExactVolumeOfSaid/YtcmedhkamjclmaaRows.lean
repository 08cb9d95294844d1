/-
  No cell of these rows narrows 'for every input' (looked for: loops, veiled, ifaces, maps, wideKeys, modest, calm, conditions, laid).
  DERIVED. THE GIVEN ROWS OF THIS SEAT. 12 by the template 'for every input the law returns true; each argument reads behind the call as it read before'; 0 by the template 'total and deterministic' (their statements: YtcmedhkamjclmaaTotals.lean).
  GIVEN WITH THE SEED: the statements are not yours to turn. If you find one false, say at which input.
  Laid BY PROGRAM, IN A SANDBOX (cutbox-rows.mjs): the forced cells as the released guide's own fill.sh prints them over the translation 6b9ee94f867d10c9… (all of the seat's roots in one cut). By AI agents, Wed Nov 11 2026. No macro, syntax, notation, axiom, sorry.
-/
import Derived.Test.YtcmedhkamjclmaaChecked
import GoSem.Claim
import GoSem.ClaimJoined
import GoSem.ClaimMapViews
import Derived.JoinedTies
import Derived.KernelRfl
namespace Go.Proofs.Ytcmedhkamjclmaa
/- THE CELL 'sum', in the pinned program and in every row, IS THE sha256 OF THE DUMP (.gsa) THAT YtcmedhkamjclmaaProg.lean LOADS. Nothing in Lean hashes anything: it is a label: what it is worth is what the hold of that sum in a sandbox is worth. -/
noncomputable def Try.pinned : Pinned := { name := "ytcmedhkamjclmaa", sum := "6b9ee94f867d10c901d434536ebc1afe127a2b39857ca3d505981578b3293cf0", checked := Try.checked }
namespace Rows
def none {H : Type} : Left H := { results := [], args := [] }

/-- 'laws.FnExactWedgeProduct': WHATEVER THE INPUT: true; the input reads as it did. -/
def fnExactWedgeProductSpec : ChangeSpec := { name := "fnExactWedgeProduct", fn := fun _ => fun
  | [d1, d2, d3] => { results := [.lit (.bool true)], args := [d1, d2, d3] }
  | _ => none }
def fnExactWedgeProductRow : OpenClaim := { program := "ytcmedhkamjclmaa", sum := "6b9ee94f867d10c901d434536ebc1afe127a2b39857ca3d505981578b3293cf0", func := "loop.example/g01124/laws.FnExactWedgeProduct", spec := "fnExactWedgeProduct", unfollowed := true, recurses := true, apart := false }
def FnExactWedgeProductSaid : Prop := fnExactWedgeProductRow.holds Try.pinned (OpenSpec.ofChange fnExactWedgeProductSpec)

/-- ITS FALSE NEIGHBOUR: 'it returns false'. Refute it at one input. -/
def fnExactWedgeProductWrong : ChangeSpec := { name := "fnExactWedgeProduct", fn := fun _ => fun
  | [d1, d2, d3] => { results := [.lit (.bool false)], args := [d1, d2, d3] }
  | _ => none }
def FnExactWedgeProductWrongFalsely : Prop := fnExactWedgeProductRow.holds Try.pinned (OpenSpec.ofChange fnExactWedgeProductWrong)

/-- 'laws.FnExactLeftContraction': WHATEVER THE INPUT: true; the input reads as it did. -/
def fnExactLeftContractionSpec : ChangeSpec := { name := "fnExactLeftContraction", fn := fun _ => fun
  | [d1, d2, d3] => { results := [.lit (.bool true)], args := [d1, d2, d3] }
  | _ => none }
def fnExactLeftContractionRow : OpenClaim := { program := "ytcmedhkamjclmaa", sum := "6b9ee94f867d10c901d434536ebc1afe127a2b39857ca3d505981578b3293cf0", func := "loop.example/g01124/laws.FnExactLeftContraction", spec := "fnExactLeftContraction", unfollowed := true, recurses := true, apart := false }
def FnExactLeftContractionSaid : Prop := fnExactLeftContractionRow.holds Try.pinned (OpenSpec.ofChange fnExactLeftContractionSpec)

/-- ITS FALSE NEIGHBOUR: 'it returns false'. Refute it at one input. -/
def fnExactLeftContractionWrong : ChangeSpec := { name := "fnExactLeftContraction", fn := fun _ => fun
  | [d1, d2, d3] => { results := [.lit (.bool false)], args := [d1, d2, d3] }
  | _ => none }
def FnExactLeftContractionWrongFalsely : Prop := fnExactLeftContractionRow.holds Try.pinned (OpenSpec.ofChange fnExactLeftContractionWrong)

/-- 'laws.FnExactRightContraction': WHATEVER THE INPUT: true; the input reads as it did. -/
def fnExactRightContractionSpec : ChangeSpec := { name := "fnExactRightContraction", fn := fun _ => fun
  | [d1, d2, d3] => { results := [.lit (.bool true)], args := [d1, d2, d3] }
  | _ => none }
def fnExactRightContractionRow : OpenClaim := { program := "ytcmedhkamjclmaa", sum := "6b9ee94f867d10c901d434536ebc1afe127a2b39857ca3d505981578b3293cf0", func := "loop.example/g01124/laws.FnExactRightContraction", spec := "fnExactRightContraction", unfollowed := true, recurses := true, apart := false }
def FnExactRightContractionSaid : Prop := fnExactRightContractionRow.holds Try.pinned (OpenSpec.ofChange fnExactRightContractionSpec)

/-- ITS FALSE NEIGHBOUR: 'it returns false'. Refute it at one input. -/
def fnExactRightContractionWrong : ChangeSpec := { name := "fnExactRightContraction", fn := fun _ => fun
  | [d1, d2, d3] => { results := [.lit (.bool false)], args := [d1, d2, d3] }
  | _ => none }
def FnExactRightContractionWrongFalsely : Prop := fnExactRightContractionRow.holds Try.pinned (OpenSpec.ofChange fnExactRightContractionWrong)

/-- 'laws.FnExactScalarProduct': WHATEVER THE INPUT: true; the input reads as it did. -/
def fnExactScalarProductSpec : ChangeSpec := { name := "fnExactScalarProduct", fn := fun _ => fun
  | [d1, d2, d3] => { results := [.lit (.bool true)], args := [d1, d2, d3] }
  | _ => none }
def fnExactScalarProductRow : OpenClaim := { program := "ytcmedhkamjclmaa", sum := "6b9ee94f867d10c901d434536ebc1afe127a2b39857ca3d505981578b3293cf0", func := "loop.example/g01124/laws.FnExactScalarProduct", spec := "fnExactScalarProduct", unfollowed := true, recurses := true, apart := false }
def FnExactScalarProductSaid : Prop := fnExactScalarProductRow.holds Try.pinned (OpenSpec.ofChange fnExactScalarProductSpec)

/-- ITS FALSE NEIGHBOUR: 'it returns false'. Refute it at one input. -/
def fnExactScalarProductWrong : ChangeSpec := { name := "fnExactScalarProduct", fn := fun _ => fun
  | [d1, d2, d3] => { results := [.lit (.bool false)], args := [d1, d2, d3] }
  | _ => none }
def FnExactScalarProductWrongFalsely : Prop := fnExactScalarProductRow.holds Try.pinned (OpenSpec.ofChange fnExactScalarProductWrong)

/-- 'laws.FnExactPseudoscalarOf': WHATEVER THE INPUT: true; the input reads as it did. -/
def fnExactPseudoscalarOfSpec : ChangeSpec := { name := "fnExactPseudoscalarOf", fn := fun _ => fun
  | [d] => { results := [.lit (.bool true)], args := [d] }
  | _ => none }
def fnExactPseudoscalarOfRow : OpenClaim := { program := "ytcmedhkamjclmaa", sum := "6b9ee94f867d10c901d434536ebc1afe127a2b39857ca3d505981578b3293cf0", func := "loop.example/g01124/laws.FnExactPseudoscalarOf", spec := "fnExactPseudoscalarOf", apart := false }
def FnExactPseudoscalarOfSaid : Prop := fnExactPseudoscalarOfRow.holds Try.pinned (OpenSpec.ofChange fnExactPseudoscalarOfSpec)

/-- ITS FALSE NEIGHBOUR: 'it returns false'. Refute it at one input. -/
def fnExactPseudoscalarOfWrong : ChangeSpec := { name := "fnExactPseudoscalarOf", fn := fun _ => fun
  | [d] => { results := [.lit (.bool false)], args := [d] }
  | _ => none }
def FnExactPseudoscalarOfWrongFalsely : Prop := fnExactPseudoscalarOfRow.holds Try.pinned (OpenSpec.ofChange fnExactPseudoscalarOfWrong)

/-- 'laws.FnExactPseudoscalarSquare': WHATEVER THE INPUT: true; the input reads as it did. -/
def fnExactPseudoscalarSquareSpec : ChangeSpec := { name := "fnExactPseudoscalarSquare", fn := fun _ => fun
  | [d] => { results := [.lit (.bool true)], args := [d] }
  | _ => none }
def fnExactPseudoscalarSquareRow : OpenClaim := { program := "ytcmedhkamjclmaa", sum := "6b9ee94f867d10c901d434536ebc1afe127a2b39857ca3d505981578b3293cf0", func := "loop.example/g01124/laws.FnExactPseudoscalarSquare", spec := "fnExactPseudoscalarSquare", apart := false }
def FnExactPseudoscalarSquareSaid : Prop := fnExactPseudoscalarSquareRow.holds Try.pinned (OpenSpec.ofChange fnExactPseudoscalarSquareSpec)

/-- ITS FALSE NEIGHBOUR: 'it returns false'. Refute it at one input. -/
def fnExactPseudoscalarSquareWrong : ChangeSpec := { name := "fnExactPseudoscalarSquare", fn := fun _ => fun
  | [d] => { results := [.lit (.bool false)], args := [d] }
  | _ => none }
def FnExactPseudoscalarSquareWrongFalsely : Prop := fnExactPseudoscalarSquareRow.holds Try.pinned (OpenSpec.ofChange fnExactPseudoscalarSquareWrong)

/-- 'laws.FnExactDualOf': WHATEVER THE INPUT: true; the input reads as it did. -/
def fnExactDualOfSpec : ChangeSpec := { name := "fnExactDualOf", fn := fun _ => fun
  | [d1, d2] => { results := [.lit (.bool true)], args := [d1, d2] }
  | _ => none }
def fnExactDualOfRow : OpenClaim := { program := "ytcmedhkamjclmaa", sum := "6b9ee94f867d10c901d434536ebc1afe127a2b39857ca3d505981578b3293cf0", func := "loop.example/g01124/laws.FnExactDualOf", spec := "fnExactDualOf", unfollowed := true, recurses := true, apart := false }
def FnExactDualOfSaid : Prop := fnExactDualOfRow.holds Try.pinned (OpenSpec.ofChange fnExactDualOfSpec)

/-- ITS FALSE NEIGHBOUR: 'it returns false'. Refute it at one input. -/
def fnExactDualOfWrong : ChangeSpec := { name := "fnExactDualOf", fn := fun _ => fun
  | [d1, d2] => { results := [.lit (.bool false)], args := [d1, d2] }
  | _ => none }
def FnExactDualOfWrongFalsely : Prop := fnExactDualOfRow.holds Try.pinned (OpenSpec.ofChange fnExactDualOfWrong)

/-- 'laws.FnExactUndualOf': WHATEVER THE INPUT: true; the input reads as it did. -/
def fnExactUndualOfSpec : ChangeSpec := { name := "fnExactUndualOf", fn := fun _ => fun
  | [d1, d2] => { results := [.lit (.bool true)], args := [d1, d2] }
  | _ => none }
def fnExactUndualOfRow : OpenClaim := { program := "ytcmedhkamjclmaa", sum := "6b9ee94f867d10c901d434536ebc1afe127a2b39857ca3d505981578b3293cf0", func := "loop.example/g01124/laws.FnExactUndualOf", spec := "fnExactUndualOf", unfollowed := true, recurses := true, apart := false }
def FnExactUndualOfSaid : Prop := fnExactUndualOfRow.holds Try.pinned (OpenSpec.ofChange fnExactUndualOfSpec)

/-- ITS FALSE NEIGHBOUR: 'it returns false'. Refute it at one input. -/
def fnExactUndualOfWrong : ChangeSpec := { name := "fnExactUndualOf", fn := fun _ => fun
  | [d1, d2] => { results := [.lit (.bool false)], args := [d1, d2] }
  | _ => none }
def FnExactUndualOfWrongFalsely : Prop := fnExactUndualOfRow.holds Try.pinned (OpenSpec.ofChange fnExactUndualOfWrong)

/-- 'laws.FnExactMeetOf': WHATEVER THE INPUT: true; the input reads as it did. -/
def fnExactMeetOfSpec : ChangeSpec := { name := "fnExactMeetOf", fn := fun _ => fun
  | [d1, d2, d3] => { results := [.lit (.bool true)], args := [d1, d2, d3] }
  | _ => none }
def fnExactMeetOfRow : OpenClaim := { program := "ytcmedhkamjclmaa", sum := "6b9ee94f867d10c901d434536ebc1afe127a2b39857ca3d505981578b3293cf0", func := "loop.example/g01124/laws.FnExactMeetOf", spec := "fnExactMeetOf", unfollowed := true, recurses := true, apart := false }
def FnExactMeetOfSaid : Prop := fnExactMeetOfRow.holds Try.pinned (OpenSpec.ofChange fnExactMeetOfSpec)

/-- ITS FALSE NEIGHBOUR: 'it returns false'. Refute it at one input. -/
def fnExactMeetOfWrong : ChangeSpec := { name := "fnExactMeetOf", fn := fun _ => fun
  | [d1, d2, d3] => { results := [.lit (.bool false)], args := [d1, d2, d3] }
  | _ => none }
def FnExactMeetOfWrongFalsely : Prop := fnExactMeetOfRow.holds Try.pinned (OpenSpec.ofChange fnExactMeetOfWrong)

/-- 'laws.FnExactWedgeOfVectors': WHATEVER THE INPUT: true; the input reads as it did. -/
def fnExactWedgeOfVectorsSpec : ChangeSpec := { name := "fnExactWedgeOfVectors", fn := fun _ => fun
  | [d1, d2] => { results := [.lit (.bool true)], args := [d1, d2] }
  | _ => none }
def fnExactWedgeOfVectorsRow : OpenClaim := { program := "ytcmedhkamjclmaa", sum := "6b9ee94f867d10c901d434536ebc1afe127a2b39857ca3d505981578b3293cf0", func := "loop.example/g01124/laws.FnExactWedgeOfVectors", spec := "fnExactWedgeOfVectors", unfollowed := true, recurses := true, apart := false }
def FnExactWedgeOfVectorsSaid : Prop := fnExactWedgeOfVectorsRow.holds Try.pinned (OpenSpec.ofChange fnExactWedgeOfVectorsSpec)

/-- ITS FALSE NEIGHBOUR: 'it returns false'. Refute it at one input. -/
def fnExactWedgeOfVectorsWrong : ChangeSpec := { name := "fnExactWedgeOfVectors", fn := fun _ => fun
  | [d1, d2] => { results := [.lit (.bool false)], args := [d1, d2] }
  | _ => none }
def FnExactWedgeOfVectorsWrongFalsely : Prop := fnExactWedgeOfVectorsRow.holds Try.pinned (OpenSpec.ofChange fnExactWedgeOfVectorsWrong)

/-- 'laws.FnExactAreDependent': WHATEVER THE INPUT: true; the input reads as it did. -/
def fnExactAreDependentSpec : ChangeSpec := { name := "fnExactAreDependent", fn := fun _ => fun
  | [d1, d2] => { results := [.lit (.bool true)], args := [d1, d2] }
  | _ => none }
def fnExactAreDependentRow : OpenClaim := { program := "ytcmedhkamjclmaa", sum := "6b9ee94f867d10c901d434536ebc1afe127a2b39857ca3d505981578b3293cf0", func := "loop.example/g01124/laws.FnExactAreDependent", spec := "fnExactAreDependent", inPlace := ["slices.overlaps[[]int64]", "slices.overlaps[int]"], unfollowed := true, recurses := true, apart := false }
def FnExactAreDependentSaid : Prop := fnExactAreDependentRow.holds Try.pinned (OpenSpec.ofChange fnExactAreDependentSpec)

/-- ITS FALSE NEIGHBOUR: 'it returns false'. Refute it at one input. -/
def fnExactAreDependentWrong : ChangeSpec := { name := "fnExactAreDependent", fn := fun _ => fun
  | [d1, d2] => { results := [.lit (.bool false)], args := [d1, d2] }
  | _ => none }
def FnExactAreDependentWrongFalsely : Prop := fnExactAreDependentRow.holds Try.pinned (OpenSpec.ofChange fnExactAreDependentWrong)

/-- 'laws.FnExactVolumeOf': WHATEVER THE INPUT: true; the input reads as it did. -/
def fnExactVolumeOfSpec : ChangeSpec := { name := "fnExactVolumeOf", fn := fun _ => fun
  | [d1, d2] => { results := [.lit (.bool true)], args := [d1, d2] }
  | _ => none }
def fnExactVolumeOfRow : OpenClaim := { program := "ytcmedhkamjclmaa", sum := "6b9ee94f867d10c901d434536ebc1afe127a2b39857ca3d505981578b3293cf0", func := "loop.example/g01124/laws.FnExactVolumeOf", spec := "fnExactVolumeOf", unfollowed := true, recurses := true, apart := false }
def FnExactVolumeOfSaid : Prop := fnExactVolumeOfRow.holds Try.pinned (OpenSpec.ofChange fnExactVolumeOfSpec)

/-- ITS FALSE NEIGHBOUR: 'it returns false'. Refute it at one input. -/
def fnExactVolumeOfWrong : ChangeSpec := { name := "fnExactVolumeOf", fn := fun _ => fun
  | [d1, d2] => { results := [.lit (.bool false)], args := [d1, d2] }
  | _ => none }
def FnExactVolumeOfWrongFalsely : Prop := fnExactVolumeOfRow.holds Try.pinned (OpenSpec.ofChange fnExactVolumeOfWrong)

/- THE SECOND FORM. 'bulk': how many values and letters a reading holds, each counted each time it is reached (what is shared counts as often as it is met; a slice's spare places count too). A statement '..UptoSaid' is the law's where the arguments, and the package variables that the reading takes, are together of bulk at most 1048576: NARROWER than '..Said'. Prove '..Said' where nothing that the law and all that it calls make is longer than what came in: it says more and counts as full. Else prove '..UptoSaid'. A law counts once. -/
mutual
def uptoBulk {H : Type} : DataW H → Nat
  | .lit (.string bytes) => bytes.length + 1
  | .lit _ => 1
  | .nil => 1
  | .ptr d => uptoBulk d + 1
  | .slice elems spare => uptoBulkAll elems + uptoBulkAll spare + 1
  | .agg parts => uptoBulkAll parts + 1
  | .iface _ d => uptoBulk d + 1
  | .map entries => uptoBulkEntries entries + 1
  | .held _ => 1
def uptoBulkAll {H : Type} : List (DataW H) → Nat
  | [] => 0
  | d :: r => uptoBulk d + uptoBulkAll r
def uptoBulkEntries {H : Type} : List (Lit × DataW H) → Nat
  | [] => 0
  | x :: r => uptoBulkEntry x + uptoBulkEntries r
def uptoBulkEntry {H : Type} : Lit × DataW H → Nat
  | (.string bytes, d) => bytes.length + uptoBulk d + 1
  | (_, d) => uptoBulk d + 1
 end
def uptoSmall : (H : Type) → List (DataW H) → Bool := fun _ ds => decide (uptoBulkAll ds ≤ 1048576)
def OpenSpec.upto (s : _root_.Go.ChangeSpec) : _root_.Go.OpenSpec := { _root_.Go.OpenSpec.ofChange s with cond := some uptoSmall }

/-- 'laws.FnExactWedgeProduct', WHERE WHAT IT READS IS OF BULK AT MOST 1048576: true; the input reads as it did. -/
def fnExactWedgeProductUptoRow : OpenClaim := { program := "ytcmedhkamjclmaa", sum := "6b9ee94f867d10c901d434536ebc1afe127a2b39857ca3d505981578b3293cf0", func := "loop.example/g01124/laws.FnExactWedgeProduct", spec := "fnExactWedgeProduct", unfollowed := true, recurses := true, apart := false, narrowed := true }
def FnExactWedgeProductUptoSaid : Prop := fnExactWedgeProductUptoRow.holds Try.pinned (OpenSpec.upto fnExactWedgeProductSpec)

/-- 'laws.FnExactLeftContraction', WHERE WHAT IT READS IS OF BULK AT MOST 1048576: true; the input reads as it did. -/
def fnExactLeftContractionUptoRow : OpenClaim := { program := "ytcmedhkamjclmaa", sum := "6b9ee94f867d10c901d434536ebc1afe127a2b39857ca3d505981578b3293cf0", func := "loop.example/g01124/laws.FnExactLeftContraction", spec := "fnExactLeftContraction", unfollowed := true, recurses := true, apart := false, narrowed := true }
def FnExactLeftContractionUptoSaid : Prop := fnExactLeftContractionUptoRow.holds Try.pinned (OpenSpec.upto fnExactLeftContractionSpec)

/-- 'laws.FnExactRightContraction', WHERE WHAT IT READS IS OF BULK AT MOST 1048576: true; the input reads as it did. -/
def fnExactRightContractionUptoRow : OpenClaim := { program := "ytcmedhkamjclmaa", sum := "6b9ee94f867d10c901d434536ebc1afe127a2b39857ca3d505981578b3293cf0", func := "loop.example/g01124/laws.FnExactRightContraction", spec := "fnExactRightContraction", unfollowed := true, recurses := true, apart := false, narrowed := true }
def FnExactRightContractionUptoSaid : Prop := fnExactRightContractionUptoRow.holds Try.pinned (OpenSpec.upto fnExactRightContractionSpec)

/-- 'laws.FnExactScalarProduct', WHERE WHAT IT READS IS OF BULK AT MOST 1048576: true; the input reads as it did. -/
def fnExactScalarProductUptoRow : OpenClaim := { program := "ytcmedhkamjclmaa", sum := "6b9ee94f867d10c901d434536ebc1afe127a2b39857ca3d505981578b3293cf0", func := "loop.example/g01124/laws.FnExactScalarProduct", spec := "fnExactScalarProduct", unfollowed := true, recurses := true, apart := false, narrowed := true }
def FnExactScalarProductUptoSaid : Prop := fnExactScalarProductUptoRow.holds Try.pinned (OpenSpec.upto fnExactScalarProductSpec)

/-- 'laws.FnExactPseudoscalarOf', WHERE WHAT IT READS IS OF BULK AT MOST 1048576: true; the input reads as it did. -/
def fnExactPseudoscalarOfUptoRow : OpenClaim := { program := "ytcmedhkamjclmaa", sum := "6b9ee94f867d10c901d434536ebc1afe127a2b39857ca3d505981578b3293cf0", func := "loop.example/g01124/laws.FnExactPseudoscalarOf", spec := "fnExactPseudoscalarOf", apart := false, narrowed := true }
def FnExactPseudoscalarOfUptoSaid : Prop := fnExactPseudoscalarOfUptoRow.holds Try.pinned (OpenSpec.upto fnExactPseudoscalarOfSpec)

/-- 'laws.FnExactPseudoscalarSquare', WHERE WHAT IT READS IS OF BULK AT MOST 1048576: true; the input reads as it did. -/
def fnExactPseudoscalarSquareUptoRow : OpenClaim := { program := "ytcmedhkamjclmaa", sum := "6b9ee94f867d10c901d434536ebc1afe127a2b39857ca3d505981578b3293cf0", func := "loop.example/g01124/laws.FnExactPseudoscalarSquare", spec := "fnExactPseudoscalarSquare", apart := false, narrowed := true }
def FnExactPseudoscalarSquareUptoSaid : Prop := fnExactPseudoscalarSquareUptoRow.holds Try.pinned (OpenSpec.upto fnExactPseudoscalarSquareSpec)

/-- 'laws.FnExactDualOf', WHERE WHAT IT READS IS OF BULK AT MOST 1048576: true; the input reads as it did. -/
def fnExactDualOfUptoRow : OpenClaim := { program := "ytcmedhkamjclmaa", sum := "6b9ee94f867d10c901d434536ebc1afe127a2b39857ca3d505981578b3293cf0", func := "loop.example/g01124/laws.FnExactDualOf", spec := "fnExactDualOf", unfollowed := true, recurses := true, apart := false, narrowed := true }
def FnExactDualOfUptoSaid : Prop := fnExactDualOfUptoRow.holds Try.pinned (OpenSpec.upto fnExactDualOfSpec)

/-- 'laws.FnExactUndualOf', WHERE WHAT IT READS IS OF BULK AT MOST 1048576: true; the input reads as it did. -/
def fnExactUndualOfUptoRow : OpenClaim := { program := "ytcmedhkamjclmaa", sum := "6b9ee94f867d10c901d434536ebc1afe127a2b39857ca3d505981578b3293cf0", func := "loop.example/g01124/laws.FnExactUndualOf", spec := "fnExactUndualOf", unfollowed := true, recurses := true, apart := false, narrowed := true }
def FnExactUndualOfUptoSaid : Prop := fnExactUndualOfUptoRow.holds Try.pinned (OpenSpec.upto fnExactUndualOfSpec)

/-- 'laws.FnExactMeetOf', WHERE WHAT IT READS IS OF BULK AT MOST 1048576: true; the input reads as it did. -/
def fnExactMeetOfUptoRow : OpenClaim := { program := "ytcmedhkamjclmaa", sum := "6b9ee94f867d10c901d434536ebc1afe127a2b39857ca3d505981578b3293cf0", func := "loop.example/g01124/laws.FnExactMeetOf", spec := "fnExactMeetOf", unfollowed := true, recurses := true, apart := false, narrowed := true }
def FnExactMeetOfUptoSaid : Prop := fnExactMeetOfUptoRow.holds Try.pinned (OpenSpec.upto fnExactMeetOfSpec)

/-- 'laws.FnExactWedgeOfVectors', WHERE WHAT IT READS IS OF BULK AT MOST 1048576: true; the input reads as it did. -/
def fnExactWedgeOfVectorsUptoRow : OpenClaim := { program := "ytcmedhkamjclmaa", sum := "6b9ee94f867d10c901d434536ebc1afe127a2b39857ca3d505981578b3293cf0", func := "loop.example/g01124/laws.FnExactWedgeOfVectors", spec := "fnExactWedgeOfVectors", unfollowed := true, recurses := true, apart := false, narrowed := true }
def FnExactWedgeOfVectorsUptoSaid : Prop := fnExactWedgeOfVectorsUptoRow.holds Try.pinned (OpenSpec.upto fnExactWedgeOfVectorsSpec)

/-- 'laws.FnExactAreDependent', WHERE WHAT IT READS IS OF BULK AT MOST 1048576: true; the input reads as it did. -/
def fnExactAreDependentUptoRow : OpenClaim := { program := "ytcmedhkamjclmaa", sum := "6b9ee94f867d10c901d434536ebc1afe127a2b39857ca3d505981578b3293cf0", func := "loop.example/g01124/laws.FnExactAreDependent", spec := "fnExactAreDependent", inPlace := ["slices.overlaps[[]int64]", "slices.overlaps[int]"], unfollowed := true, recurses := true, apart := false, narrowed := true }
def FnExactAreDependentUptoSaid : Prop := fnExactAreDependentUptoRow.holds Try.pinned (OpenSpec.upto fnExactAreDependentSpec)

/-- 'laws.FnExactVolumeOf', WHERE WHAT IT READS IS OF BULK AT MOST 1048576: true; the input reads as it did. -/
def fnExactVolumeOfUptoRow : OpenClaim := { program := "ytcmedhkamjclmaa", sum := "6b9ee94f867d10c901d434536ebc1afe127a2b39857ca3d505981578b3293cf0", func := "loop.example/g01124/laws.FnExactVolumeOf", spec := "fnExactVolumeOf", unfollowed := true, recurses := true, apart := false, narrowed := true }
def FnExactVolumeOfUptoSaid : Prop := fnExactVolumeOfUptoRow.holds Try.pinned (OpenSpec.upto fnExactVolumeOfSpec)

end Rows
end Go.Proofs.Ytcmedhkamjclmaa
