/-
  No cell of these rows narrows 'for every input' (looked for: loops, veiled, ifaces, maps, wideKeys, modest, calm, conditions, laid).
  DERIVED. THE GIVEN ROWS OF THIS SEAT. 5 by the template 'for every input the law returns true; each argument reads behind the call as it read before'; 0 by the template 'total and deterministic' (their statements: YtckpcfhmppdghaaTotals.lean).
  GIVEN WITH THE SEED: the statements are not yours to turn. If you find one false, say at which input.
  Laid BY PROGRAM, IN A SANDBOX (cutbox-rows.mjs): the forced cells as the released guide's own fill.sh prints them over the translation 709c96f3777cd67a… (all of the seat's roots in one cut). By AI agents, Wed Nov 11 2026. No macro, syntax, notation, axiom, sorry.
-/
import Derived.Test.YtckpcfhmppdghaaChecked
import GoSem.Claim
import GoSem.ClaimJoined
import GoSem.ClaimMapViews
import Derived.JoinedTies
import Derived.KernelRfl
namespace Go.Proofs.Ytckpcfhmppdghaa
/- THE CELL 'sum', in the pinned program and in every row, IS THE sha256 OF THE DUMP (.gsa) THAT YtckpcfhmppdghaaProg.lean LOADS. Nothing in Lean hashes anything: it is a label: what it is worth is what the hold of that sum in a sandbox is worth. -/
noncomputable def Try.pinned : Pinned := { name := "ytckpcfhmppdghaa", sum := "709c96f3777cd67ac00e1fffded1f805e7824c5319a0ac7152a85d2f865e1f16", checked := Try.checked }
namespace Rows
def none {H : Type} : Left H := { results := [], args := [] }

/-- 'laws.FnExactLeftIdealOf': WHATEVER THE INPUT: true; the input reads as it did. -/
def fnExactLeftIdealOfSpec : ChangeSpec := { name := "fnExactLeftIdealOf", fn := fun _ => fun
  | [d1, d2] => { results := [.lit (.bool true)], args := [d1, d2] }
  | _ => none }
def fnExactLeftIdealOfRow : OpenClaim := { program := "ytckpcfhmppdghaa", sum := "709c96f3777cd67ac00e1fffded1f805e7824c5319a0ac7152a85d2f865e1f16", func := "loop.example/g01124/laws.FnExactLeftIdealOf", spec := "fnExactLeftIdealOf", inPlace := ["slices.overlaps[[]int64]", "slices.overlaps[int]"], unfollowed := true, recurses := true, apart := false }
def FnExactLeftIdealOfSaid : Prop := fnExactLeftIdealOfRow.holds Try.pinned (OpenSpec.ofChange fnExactLeftIdealOfSpec)

/-- ITS FALSE NEIGHBOUR: 'it returns false'. Refute it at one input. -/
def fnExactLeftIdealOfWrong : ChangeSpec := { name := "fnExactLeftIdealOf", fn := fun _ => fun
  | [d1, d2] => { results := [.lit (.bool false)], args := [d1, d2] }
  | _ => none }
def FnExactLeftIdealOfWrongFalsely : Prop := fnExactLeftIdealOfRow.holds Try.pinned (OpenSpec.ofChange fnExactLeftIdealOfWrong)

/-- 'laws.FnExactLeftAnnihilatorOf': WHATEVER THE INPUT: true; the input reads as it did. -/
def fnExactLeftAnnihilatorOfSpec : ChangeSpec := { name := "fnExactLeftAnnihilatorOf", fn := fun _ => fun
  | [d1, d2] => { results := [.lit (.bool true)], args := [d1, d2] }
  | _ => none }
def fnExactLeftAnnihilatorOfRow : OpenClaim := { program := "ytckpcfhmppdghaa", sum := "709c96f3777cd67ac00e1fffded1f805e7824c5319a0ac7152a85d2f865e1f16", func := "loop.example/g01124/laws.FnExactLeftAnnihilatorOf", spec := "fnExactLeftAnnihilatorOf", inPlace := ["slices.overlaps[[]int64]", "slices.overlaps[int]"], unfollowed := true, recurses := true, apart := false }
def FnExactLeftAnnihilatorOfSaid : Prop := fnExactLeftAnnihilatorOfRow.holds Try.pinned (OpenSpec.ofChange fnExactLeftAnnihilatorOfSpec)

/-- ITS FALSE NEIGHBOUR: 'it returns false'. Refute it at one input. -/
def fnExactLeftAnnihilatorOfWrong : ChangeSpec := { name := "fnExactLeftAnnihilatorOf", fn := fun _ => fun
  | [d1, d2] => { results := [.lit (.bool false)], args := [d1, d2] }
  | _ => none }
def FnExactLeftAnnihilatorOfWrongFalsely : Prop := fnExactLeftAnnihilatorOfRow.holds Try.pinned (OpenSpec.ofChange fnExactLeftAnnihilatorOfWrong)

/-- 'laws.FnExactHasInverse': WHATEVER THE INPUT: true; the input reads as it did. -/
def fnExactHasInverseSpec : ChangeSpec := { name := "fnExactHasInverse", fn := fun _ => fun
  | [d1, d2] => { results := [.lit (.bool true)], args := [d1, d2] }
  | _ => none }
def fnExactHasInverseRow : OpenClaim := { program := "ytckpcfhmppdghaa", sum := "709c96f3777cd67ac00e1fffded1f805e7824c5319a0ac7152a85d2f865e1f16", func := "loop.example/g01124/laws.FnExactHasInverse", spec := "fnExactHasInverse", inPlace := ["slices.overlaps[[]int64]", "slices.overlaps[int]"], unfollowed := true, recurses := true, apart := false }
def FnExactHasInverseSaid : Prop := fnExactHasInverseRow.holds Try.pinned (OpenSpec.ofChange fnExactHasInverseSpec)

/-- ITS FALSE NEIGHBOUR: 'it returns false'. Refute it at one input. -/
def fnExactHasInverseWrong : ChangeSpec := { name := "fnExactHasInverse", fn := fun _ => fun
  | [d1, d2] => { results := [.lit (.bool false)], args := [d1, d2] }
  | _ => none }
def FnExactHasInverseWrongFalsely : Prop := fnExactHasInverseRow.holds Try.pinned (OpenSpec.ofChange fnExactHasInverseWrong)

/-- 'laws.FnExactVectorIdempotent': WHATEVER THE INPUT: true; the input reads as it did. -/
def fnExactVectorIdempotentSpec : ChangeSpec := { name := "fnExactVectorIdempotent", fn := fun _ => fun
  | [d1, d2] => { results := [.lit (.bool true)], args := [d1, d2] }
  | _ => none }
def fnExactVectorIdempotentRow : OpenClaim := { program := "ytckpcfhmppdghaa", sum := "709c96f3777cd67ac00e1fffded1f805e7824c5319a0ac7152a85d2f865e1f16", func := "loop.example/g01124/laws.FnExactVectorIdempotent", spec := "fnExactVectorIdempotent", recurses := true, apart := false }
def FnExactVectorIdempotentSaid : Prop := fnExactVectorIdempotentRow.holds Try.pinned (OpenSpec.ofChange fnExactVectorIdempotentSpec)

/-- ITS FALSE NEIGHBOUR: 'it returns false'. Refute it at one input. -/
def fnExactVectorIdempotentWrong : ChangeSpec := { name := "fnExactVectorIdempotent", fn := fun _ => fun
  | [d1, d2] => { results := [.lit (.bool false)], args := [d1, d2] }
  | _ => none }
def FnExactVectorIdempotentWrongFalsely : Prop := fnExactVectorIdempotentRow.holds Try.pinned (OpenSpec.ofChange fnExactVectorIdempotentWrong)

/-- 'laws.FnExactCentreBasis': WHATEVER THE INPUT: true; the input reads as it did. -/
def fnExactCentreBasisSpec : ChangeSpec := { name := "fnExactCentreBasis", fn := fun _ => fun
  | [d] => { results := [.lit (.bool true)], args := [d] }
  | _ => none }
def fnExactCentreBasisRow : OpenClaim := { program := "ytckpcfhmppdghaa", sum := "709c96f3777cd67ac00e1fffded1f805e7824c5319a0ac7152a85d2f865e1f16", func := "loop.example/g01124/laws.FnExactCentreBasis", spec := "fnExactCentreBasis", inPlace := ["slices.overlaps[[]int64]", "slices.overlaps[int]"], unfollowed := true, recurses := true, apart := false }
def FnExactCentreBasisSaid : Prop := fnExactCentreBasisRow.holds Try.pinned (OpenSpec.ofChange fnExactCentreBasisSpec)

/-- ITS FALSE NEIGHBOUR: 'it returns false'. Refute it at one input. -/
def fnExactCentreBasisWrong : ChangeSpec := { name := "fnExactCentreBasis", fn := fun _ => fun
  | [d] => { results := [.lit (.bool false)], args := [d] }
  | _ => none }
def FnExactCentreBasisWrongFalsely : Prop := fnExactCentreBasisRow.holds Try.pinned (OpenSpec.ofChange fnExactCentreBasisWrong)

/- THE SECOND FORM. 'bulk': how many values and letters a reading holds, each counted each time it is reached (what is shared counts as often as it is met; a slice's spare places count too). A statement '..UptoSaid' is the law's where the arguments, and the package variables that the reading takes, are together of bulk at most 1048576: NARROWER than '..Said'. Prove '..Said' where nothing that the law and all that it calls make is longer than what came in: it says more and counts as full. Else prove '..UptoSaid'. A law counts once. -/
mutual
def uptoBulk {H : Type} : DataW H → Nat
  | .lit (.string bytes) => bytes.length + 1
  | .lit _ => 1
  | .nil => 1
  | .ptr d => uptoBulk d + 1
  | .slice elems spare => uptoBulkAll elems + uptoBulkAll spare + 1
  | .agg parts => uptoBulkAll parts + 1
  | .iface _ d => uptoBulk d + 1
  | .map entries => uptoBulkEntries entries + 1
  | .held _ => 1
def uptoBulkAll {H : Type} : List (DataW H) → Nat
  | [] => 0
  | d :: r => uptoBulk d + uptoBulkAll r
def uptoBulkEntries {H : Type} : List (Lit × DataW H) → Nat
  | [] => 0
  | x :: r => uptoBulkEntry x + uptoBulkEntries r
def uptoBulkEntry {H : Type} : Lit × DataW H → Nat
  | (.string bytes, d) => bytes.length + uptoBulk d + 1
  | (_, d) => uptoBulk d + 1
 end
def uptoSmall : (H : Type) → List (DataW H) → Bool := fun _ ds => decide (uptoBulkAll ds ≤ 1048576)
def OpenSpec.upto (s : _root_.Go.ChangeSpec) : _root_.Go.OpenSpec := { _root_.Go.OpenSpec.ofChange s with cond := some uptoSmall }

/-- 'laws.FnExactLeftIdealOf', WHERE WHAT IT READS IS OF BULK AT MOST 1048576: true; the input reads as it did. -/
def fnExactLeftIdealOfUptoRow : OpenClaim := { program := "ytckpcfhmppdghaa", sum := "709c96f3777cd67ac00e1fffded1f805e7824c5319a0ac7152a85d2f865e1f16", func := "loop.example/g01124/laws.FnExactLeftIdealOf", spec := "fnExactLeftIdealOf", inPlace := ["slices.overlaps[[]int64]", "slices.overlaps[int]"], unfollowed := true, recurses := true, apart := false, narrowed := true }
def FnExactLeftIdealOfUptoSaid : Prop := fnExactLeftIdealOfUptoRow.holds Try.pinned (OpenSpec.upto fnExactLeftIdealOfSpec)

/-- 'laws.FnExactLeftAnnihilatorOf', WHERE WHAT IT READS IS OF BULK AT MOST 1048576: true; the input reads as it did. -/
def fnExactLeftAnnihilatorOfUptoRow : OpenClaim := { program := "ytckpcfhmppdghaa", sum := "709c96f3777cd67ac00e1fffded1f805e7824c5319a0ac7152a85d2f865e1f16", func := "loop.example/g01124/laws.FnExactLeftAnnihilatorOf", spec := "fnExactLeftAnnihilatorOf", inPlace := ["slices.overlaps[[]int64]", "slices.overlaps[int]"], unfollowed := true, recurses := true, apart := false, narrowed := true }
def FnExactLeftAnnihilatorOfUptoSaid : Prop := fnExactLeftAnnihilatorOfUptoRow.holds Try.pinned (OpenSpec.upto fnExactLeftAnnihilatorOfSpec)

/-- 'laws.FnExactHasInverse', WHERE WHAT IT READS IS OF BULK AT MOST 1048576: true; the input reads as it did. -/
def fnExactHasInverseUptoRow : OpenClaim := { program := "ytckpcfhmppdghaa", sum := "709c96f3777cd67ac00e1fffded1f805e7824c5319a0ac7152a85d2f865e1f16", func := "loop.example/g01124/laws.FnExactHasInverse", spec := "fnExactHasInverse", inPlace := ["slices.overlaps[[]int64]", "slices.overlaps[int]"], unfollowed := true, recurses := true, apart := false, narrowed := true }
def FnExactHasInverseUptoSaid : Prop := fnExactHasInverseUptoRow.holds Try.pinned (OpenSpec.upto fnExactHasInverseSpec)

/-- 'laws.FnExactVectorIdempotent', WHERE WHAT IT READS IS OF BULK AT MOST 1048576: true; the input reads as it did. -/
def fnExactVectorIdempotentUptoRow : OpenClaim := { program := "ytckpcfhmppdghaa", sum := "709c96f3777cd67ac00e1fffded1f805e7824c5319a0ac7152a85d2f865e1f16", func := "loop.example/g01124/laws.FnExactVectorIdempotent", spec := "fnExactVectorIdempotent", recurses := true, apart := false, narrowed := true }
def FnExactVectorIdempotentUptoSaid : Prop := fnExactVectorIdempotentUptoRow.holds Try.pinned (OpenSpec.upto fnExactVectorIdempotentSpec)

/-- 'laws.FnExactCentreBasis', WHERE WHAT IT READS IS OF BULK AT MOST 1048576: true; the input reads as it did. -/
def fnExactCentreBasisUptoRow : OpenClaim := { program := "ytckpcfhmppdghaa", sum := "709c96f3777cd67ac00e1fffded1f805e7824c5319a0ac7152a85d2f865e1f16", func := "loop.example/g01124/laws.FnExactCentreBasis", spec := "fnExactCentreBasis", inPlace := ["slices.overlaps[[]int64]", "slices.overlaps[int]"], unfollowed := true, recurses := true, apart := false, narrowed := true }
def FnExactCentreBasisUptoSaid : Prop := fnExactCentreBasisUptoRow.holds Try.pinned (OpenSpec.upto fnExactCentreBasisSpec)

end Rows
end Go.Proofs.Ytckpcfhmppdghaa
