/-
  No cell of these rows narrows 'for every input' (looked for: loops, veiled, ifaces, maps, wideKeys, modest, calm, conditions, laid).
  DERIVED. THE GIVEN ROWS OF THIS SEAT. 9 by the template 'for every input the law returns true; each argument reads behind the call as it read before'; 0 by the template 'total and deterministic' (their statements: YtigdepahbnidjaaTotals.lean).
  GIVEN WITH THE SEED: the statements are not yours to turn. If you find one false, say at which input.
  Laid BY PROGRAM, IN A SANDBOX (cutbox-rows.mjs): the forced cells as the released guide's own fill.sh prints them over the translation b5038f2ef946f59c… (all of the seat's roots in one cut). By AI agents, Wed Nov 11 2026. No macro, syntax, notation, axiom, sorry.
-/
import Derived.Test.YtigdepahbnidjaaChecked
import GoSem.Claim
import GoSem.ClaimJoined
import GoSem.ClaimMapViews
import Derived.JoinedTies
import Derived.KernelRfl
namespace Go.Proofs.Ytigdepahbnidjaa
/- THE CELL 'sum', in the pinned program and in every row, IS THE sha256 OF THE DUMP (.gsa) THAT YtigdepahbnidjaaProg.lean LOADS. Nothing in Lean hashes anything: it is a label: what it is worth is what the hold of that sum in a sandbox is worth. -/
noncomputable def Try.pinned : Pinned := { name := "ytigdepahbnidjaa", sum := "b5038f2ef946f59c0e1c2768c1f6ac262b51df17f2ac42d6bf2d0cc13e669ad7", checked := Try.checked }
namespace Rows
def none {H : Type} : Left H := { results := [], args := [] }

/-- 'laws.FnExactIsOrthogonal': WHATEVER THE INPUT: true; the input reads as it did. -/
def fnExactIsOrthogonalSpec : ChangeSpec := { name := "fnExactIsOrthogonal", fn := fun _ => fun
  | [d1, d2] => { results := [.lit (.bool true)], args := [d1, d2] }
  | _ => none }
def fnExactIsOrthogonalRow : OpenClaim := { program := "ytigdepahbnidjaa", sum := "b5038f2ef946f59c0e1c2768c1f6ac262b51df17f2ac42d6bf2d0cc13e669ad7", func := "loop.example/g01124/laws.FnExactIsOrthogonal", spec := "fnExactIsOrthogonal", inPlace := ["slices.overlaps[[]int64]", "slices.overlaps[int]"], unfollowed := true, recurses := true, leaving := true, apart := false }
def FnExactIsOrthogonalSaid : Prop := fnExactIsOrthogonalRow.holds Try.pinned (OpenSpec.ofChange fnExactIsOrthogonalSpec)

/-- ITS FALSE NEIGHBOUR: 'it returns false'. Refute it at one input. -/
def fnExactIsOrthogonalWrong : ChangeSpec := { name := "fnExactIsOrthogonal", fn := fun _ => fun
  | [d1, d2] => { results := [.lit (.bool false)], args := [d1, d2] }
  | _ => none }
def FnExactIsOrthogonalWrongFalsely : Prop := fnExactIsOrthogonalRow.holds Try.pinned (OpenSpec.ofChange fnExactIsOrthogonalWrong)

/-- 'laws.FnExactMatrixOfVersor': WHATEVER THE INPUT: true; the input reads as it did. -/
def fnExactMatrixOfVersorSpec : ChangeSpec := { name := "fnExactMatrixOfVersor", fn := fun _ => fun
  | [d1, d2] => { results := [.lit (.bool true)], args := [d1, d2] }
  | _ => none }
def fnExactMatrixOfVersorRow : OpenClaim := { program := "ytigdepahbnidjaa", sum := "b5038f2ef946f59c0e1c2768c1f6ac262b51df17f2ac42d6bf2d0cc13e669ad7", func := "loop.example/g01124/laws.FnExactMatrixOfVersor", spec := "fnExactMatrixOfVersor", unfollowed := true, recurses := true, leaving := true, apart := false }
def FnExactMatrixOfVersorSaid : Prop := fnExactMatrixOfVersorRow.holds Try.pinned (OpenSpec.ofChange fnExactMatrixOfVersorSpec)

/-- ITS FALSE NEIGHBOUR: 'it returns false'. Refute it at one input. -/
def fnExactMatrixOfVersorWrong : ChangeSpec := { name := "fnExactMatrixOfVersor", fn := fun _ => fun
  | [d1, d2] => { results := [.lit (.bool false)], args := [d1, d2] }
  | _ => none }
def FnExactMatrixOfVersorWrongFalsely : Prop := fnExactMatrixOfVersorRow.holds Try.pinned (OpenSpec.ofChange fnExactMatrixOfVersorWrong)

/-- 'laws.FnExactReflectionMatrix': WHATEVER THE INPUT: true; the input reads as it did. -/
def fnExactReflectionMatrixSpec : ChangeSpec := { name := "fnExactReflectionMatrix", fn := fun _ => fun
  | [d1, d2] => { results := [.lit (.bool true)], args := [d1, d2] }
  | _ => none }
def fnExactReflectionMatrixRow : OpenClaim := { program := "ytigdepahbnidjaa", sum := "b5038f2ef946f59c0e1c2768c1f6ac262b51df17f2ac42d6bf2d0cc13e669ad7", func := "loop.example/g01124/laws.FnExactReflectionMatrix", spec := "fnExactReflectionMatrix", unfollowed := true, recurses := true, leaving := true, apart := false }
def FnExactReflectionMatrixSaid : Prop := fnExactReflectionMatrixRow.holds Try.pinned (OpenSpec.ofChange fnExactReflectionMatrixSpec)

/-- ITS FALSE NEIGHBOUR: 'it returns false'. Refute it at one input. -/
def fnExactReflectionMatrixWrong : ChangeSpec := { name := "fnExactReflectionMatrix", fn := fun _ => fun
  | [d1, d2] => { results := [.lit (.bool false)], args := [d1, d2] }
  | _ => none }
def FnExactReflectionMatrixWrongFalsely : Prop := fnExactReflectionMatrixRow.holds Try.pinned (OpenSpec.ofChange fnExactReflectionMatrixWrong)

/-- 'laws.FnExactDecomposeOrthogonal': WHATEVER THE INPUT: true; the input reads as it did. -/
def fnExactDecomposeOrthogonalSpec : ChangeSpec := { name := "fnExactDecomposeOrthogonal", fn := fun _ => fun
  | [d1, d2] => { results := [.lit (.bool true)], args := [d1, d2] }
  | _ => none }
def fnExactDecomposeOrthogonalRow : OpenClaim := { program := "ytigdepahbnidjaa", sum := "b5038f2ef946f59c0e1c2768c1f6ac262b51df17f2ac42d6bf2d0cc13e669ad7", func := "loop.example/g01124/laws.FnExactDecomposeOrthogonal", spec := "fnExactDecomposeOrthogonal", inPlace := ["slices.overlaps[[]int64]", "slices.overlaps[int]"], unfollowed := true, recurses := true, leaving := true, apart := false }
def FnExactDecomposeOrthogonalSaid : Prop := fnExactDecomposeOrthogonalRow.holds Try.pinned (OpenSpec.ofChange fnExactDecomposeOrthogonalSpec)

/-- ITS FALSE NEIGHBOUR: 'it returns false'. Refute it at one input. -/
def fnExactDecomposeOrthogonalWrong : ChangeSpec := { name := "fnExactDecomposeOrthogonal", fn := fun _ => fun
  | [d1, d2] => { results := [.lit (.bool false)], args := [d1, d2] }
  | _ => none }
def FnExactDecomposeOrthogonalWrongFalsely : Prop := fnExactDecomposeOrthogonalRow.holds Try.pinned (OpenSpec.ofChange fnExactDecomposeOrthogonalWrong)

/-- 'laws.FnExactIsProper': WHATEVER THE INPUT: true; the input reads as it did. -/
def fnExactIsProperSpec : ChangeSpec := { name := "fnExactIsProper", fn := fun _ => fun
  | [d1, d2] => { results := [.lit (.bool true)], args := [d1, d2] }
  | _ => none }
def fnExactIsProperRow : OpenClaim := { program := "ytigdepahbnidjaa", sum := "b5038f2ef946f59c0e1c2768c1f6ac262b51df17f2ac42d6bf2d0cc13e669ad7", func := "loop.example/g01124/laws.FnExactIsProper", spec := "fnExactIsProper", inPlace := ["slices.overlaps[[]int64]", "slices.overlaps[int]"], unfollowed := true, recurses := true, leaving := true, apart := false }
def FnExactIsProperSaid : Prop := fnExactIsProperRow.holds Try.pinned (OpenSpec.ofChange fnExactIsProperSpec)

/-- ITS FALSE NEIGHBOUR: 'it returns false'. Refute it at one input. -/
def fnExactIsProperWrong : ChangeSpec := { name := "fnExactIsProper", fn := fun _ => fun
  | [d1, d2] => { results := [.lit (.bool false)], args := [d1, d2] }
  | _ => none }
def FnExactIsProperWrongFalsely : Prop := fnExactIsProperRow.holds Try.pinned (OpenSpec.ofChange fnExactIsProperWrong)

/-- 'laws.FnExactCountOrthogonal': WHATEVER THE INPUT: true; the input reads as it did. -/
def fnExactCountOrthogonalSpec : ChangeSpec := { name := "fnExactCountOrthogonal", fn := fun _ => fun
  | [d] => { results := [.lit (.bool true)], args := [d] }
  | _ => none }
def fnExactCountOrthogonalRow : OpenClaim := { program := "ytigdepahbnidjaa", sum := "b5038f2ef946f59c0e1c2768c1f6ac262b51df17f2ac42d6bf2d0cc13e669ad7", func := "loop.example/g01124/laws.FnExactCountOrthogonal", spec := "fnExactCountOrthogonal", recurses := true, apart := false }
def FnExactCountOrthogonalSaid : Prop := fnExactCountOrthogonalRow.holds Try.pinned (OpenSpec.ofChange fnExactCountOrthogonalSpec)

/-- ITS FALSE NEIGHBOUR: 'it returns false'. Refute it at one input. -/
def fnExactCountOrthogonalWrong : ChangeSpec := { name := "fnExactCountOrthogonal", fn := fun _ => fun
  | [d] => { results := [.lit (.bool false)], args := [d] }
  | _ => none }
def FnExactCountOrthogonalWrongFalsely : Prop := fnExactCountOrthogonalRow.holds Try.pinned (OpenSpec.ofChange fnExactCountOrthogonalWrong)

/-- 'laws.FnExactAllOrthogonal': WHATEVER THE INPUT: true; the input reads as it did. -/
def fnExactAllOrthogonalSpec : ChangeSpec := { name := "fnExactAllOrthogonal", fn := fun _ => fun
  | [d] => { results := [.lit (.bool true)], args := [d] }
  | _ => none }
def fnExactAllOrthogonalRow : OpenClaim := { program := "ytigdepahbnidjaa", sum := "b5038f2ef946f59c0e1c2768c1f6ac262b51df17f2ac42d6bf2d0cc13e669ad7", func := "loop.example/g01124/laws.FnExactAllOrthogonal", spec := "fnExactAllOrthogonal", unfollowed := true, recurses := true, leaving := true, apart := false }
def FnExactAllOrthogonalSaid : Prop := fnExactAllOrthogonalRow.holds Try.pinned (OpenSpec.ofChange fnExactAllOrthogonalSpec)

/-- ITS FALSE NEIGHBOUR: 'it returns false'. Refute it at one input. -/
def fnExactAllOrthogonalWrong : ChangeSpec := { name := "fnExactAllOrthogonal", fn := fun _ => fun
  | [d] => { results := [.lit (.bool false)], args := [d] }
  | _ => none }
def FnExactAllOrthogonalWrongFalsely : Prop := fnExactAllOrthogonalRow.holds Try.pinned (OpenSpec.ofChange fnExactAllOrthogonalWrong)

/-- 'laws.FnExactOrthogonalOrder': WHATEVER THE INPUT: true; the input reads as it did. -/
def fnExactOrthogonalOrderSpec : ChangeSpec := { name := "fnExactOrthogonalOrder", fn := fun _ => fun
  | [d1, d2] => { results := [.lit (.bool true)], args := [d1, d2] }
  | _ => none }
def fnExactOrthogonalOrderRow : OpenClaim := { program := "ytigdepahbnidjaa", sum := "b5038f2ef946f59c0e1c2768c1f6ac262b51df17f2ac42d6bf2d0cc13e669ad7", func := "loop.example/g01124/laws.FnExactOrthogonalOrder", spec := "fnExactOrthogonalOrder", inPlace := ["slices.overlaps[[]int64]", "slices.overlaps[int]"], unfollowed := true, recurses := true, leaving := true, apart := false }
def FnExactOrthogonalOrderSaid : Prop := fnExactOrthogonalOrderRow.holds Try.pinned (OpenSpec.ofChange fnExactOrthogonalOrderSpec)

/-- ITS FALSE NEIGHBOUR: 'it returns false'. Refute it at one input. -/
def fnExactOrthogonalOrderWrong : ChangeSpec := { name := "fnExactOrthogonalOrder", fn := fun _ => fun
  | [d1, d2] => { results := [.lit (.bool false)], args := [d1, d2] }
  | _ => none }
def FnExactOrthogonalOrderWrongFalsely : Prop := fnExactOrthogonalOrderRow.holds Try.pinned (OpenSpec.ofChange fnExactOrthogonalOrderWrong)

/-- 'laws.FnExactFixedVectors': WHATEVER THE INPUT: true; the input reads as it did. -/
def fnExactFixedVectorsSpec : ChangeSpec := { name := "fnExactFixedVectors", fn := fun _ => fun
  | [d1, d2] => { results := [.lit (.bool true)], args := [d1, d2] }
  | _ => none }
def fnExactFixedVectorsRow : OpenClaim := { program := "ytigdepahbnidjaa", sum := "b5038f2ef946f59c0e1c2768c1f6ac262b51df17f2ac42d6bf2d0cc13e669ad7", func := "loop.example/g01124/laws.FnExactFixedVectors", spec := "fnExactFixedVectors", inPlace := ["slices.overlaps[[]int64]", "slices.overlaps[int]"], unfollowed := true, recurses := true, leaving := true, apart := false }
def FnExactFixedVectorsSaid : Prop := fnExactFixedVectorsRow.holds Try.pinned (OpenSpec.ofChange fnExactFixedVectorsSpec)

/-- ITS FALSE NEIGHBOUR: 'it returns false'. Refute it at one input. -/
def fnExactFixedVectorsWrong : ChangeSpec := { name := "fnExactFixedVectors", fn := fun _ => fun
  | [d1, d2] => { results := [.lit (.bool false)], args := [d1, d2] }
  | _ => none }
def FnExactFixedVectorsWrongFalsely : Prop := fnExactFixedVectorsRow.holds Try.pinned (OpenSpec.ofChange fnExactFixedVectorsWrong)

/- THE SECOND FORM. 'bulk': how many values and letters a reading holds, each counted each time it is reached (what is shared counts as often as it is met; a slice's spare places count too). A statement '..UptoSaid' is the law's where the arguments, and the package variables that the reading takes, are together of bulk at most 1048576: NARROWER than '..Said'. Prove '..Said' where nothing that the law and all that it calls make is longer than what came in: it says more and counts as full. Else prove '..UptoSaid'. A law counts once. -/
mutual
def uptoBulk {H : Type} : DataW H → Nat
  | .lit (.string bytes) => bytes.length + 1
  | .lit _ => 1
  | .nil => 1
  | .ptr d => uptoBulk d + 1
  | .slice elems spare => uptoBulkAll elems + uptoBulkAll spare + 1
  | .agg parts => uptoBulkAll parts + 1
  | .iface _ d => uptoBulk d + 1
  | .map entries => uptoBulkEntries entries + 1
  | .held _ => 1
def uptoBulkAll {H : Type} : List (DataW H) → Nat
  | [] => 0
  | d :: r => uptoBulk d + uptoBulkAll r
def uptoBulkEntries {H : Type} : List (Lit × DataW H) → Nat
  | [] => 0
  | x :: r => uptoBulkEntry x + uptoBulkEntries r
def uptoBulkEntry {H : Type} : Lit × DataW H → Nat
  | (.string bytes, d) => bytes.length + uptoBulk d + 1
  | (_, d) => uptoBulk d + 1
 end
def uptoSmall : (H : Type) → List (DataW H) → Bool := fun _ ds => decide (uptoBulkAll ds ≤ 1048576)
def OpenSpec.upto (s : _root_.Go.ChangeSpec) : _root_.Go.OpenSpec := { _root_.Go.OpenSpec.ofChange s with cond := some uptoSmall }

/-- 'laws.FnExactIsOrthogonal', WHERE WHAT IT READS IS OF BULK AT MOST 1048576: true; the input reads as it did. -/
def fnExactIsOrthogonalUptoRow : OpenClaim := { program := "ytigdepahbnidjaa", sum := "b5038f2ef946f59c0e1c2768c1f6ac262b51df17f2ac42d6bf2d0cc13e669ad7", func := "loop.example/g01124/laws.FnExactIsOrthogonal", spec := "fnExactIsOrthogonal", inPlace := ["slices.overlaps[[]int64]", "slices.overlaps[int]"], unfollowed := true, recurses := true, leaving := true, apart := false, narrowed := true }
def FnExactIsOrthogonalUptoSaid : Prop := fnExactIsOrthogonalUptoRow.holds Try.pinned (OpenSpec.upto fnExactIsOrthogonalSpec)

/-- 'laws.FnExactMatrixOfVersor', WHERE WHAT IT READS IS OF BULK AT MOST 1048576: true; the input reads as it did. -/
def fnExactMatrixOfVersorUptoRow : OpenClaim := { program := "ytigdepahbnidjaa", sum := "b5038f2ef946f59c0e1c2768c1f6ac262b51df17f2ac42d6bf2d0cc13e669ad7", func := "loop.example/g01124/laws.FnExactMatrixOfVersor", spec := "fnExactMatrixOfVersor", unfollowed := true, recurses := true, leaving := true, apart := false, narrowed := true }
def FnExactMatrixOfVersorUptoSaid : Prop := fnExactMatrixOfVersorUptoRow.holds Try.pinned (OpenSpec.upto fnExactMatrixOfVersorSpec)

/-- 'laws.FnExactReflectionMatrix', WHERE WHAT IT READS IS OF BULK AT MOST 1048576: true; the input reads as it did. -/
def fnExactReflectionMatrixUptoRow : OpenClaim := { program := "ytigdepahbnidjaa", sum := "b5038f2ef946f59c0e1c2768c1f6ac262b51df17f2ac42d6bf2d0cc13e669ad7", func := "loop.example/g01124/laws.FnExactReflectionMatrix", spec := "fnExactReflectionMatrix", unfollowed := true, recurses := true, leaving := true, apart := false, narrowed := true }
def FnExactReflectionMatrixUptoSaid : Prop := fnExactReflectionMatrixUptoRow.holds Try.pinned (OpenSpec.upto fnExactReflectionMatrixSpec)

/-- 'laws.FnExactDecomposeOrthogonal', WHERE WHAT IT READS IS OF BULK AT MOST 1048576: true; the input reads as it did. -/
def fnExactDecomposeOrthogonalUptoRow : OpenClaim := { program := "ytigdepahbnidjaa", sum := "b5038f2ef946f59c0e1c2768c1f6ac262b51df17f2ac42d6bf2d0cc13e669ad7", func := "loop.example/g01124/laws.FnExactDecomposeOrthogonal", spec := "fnExactDecomposeOrthogonal", inPlace := ["slices.overlaps[[]int64]", "slices.overlaps[int]"], unfollowed := true, recurses := true, leaving := true, apart := false, narrowed := true }
def FnExactDecomposeOrthogonalUptoSaid : Prop := fnExactDecomposeOrthogonalUptoRow.holds Try.pinned (OpenSpec.upto fnExactDecomposeOrthogonalSpec)

/-- 'laws.FnExactIsProper', WHERE WHAT IT READS IS OF BULK AT MOST 1048576: true; the input reads as it did. -/
def fnExactIsProperUptoRow : OpenClaim := { program := "ytigdepahbnidjaa", sum := "b5038f2ef946f59c0e1c2768c1f6ac262b51df17f2ac42d6bf2d0cc13e669ad7", func := "loop.example/g01124/laws.FnExactIsProper", spec := "fnExactIsProper", inPlace := ["slices.overlaps[[]int64]", "slices.overlaps[int]"], unfollowed := true, recurses := true, leaving := true, apart := false, narrowed := true }
def FnExactIsProperUptoSaid : Prop := fnExactIsProperUptoRow.holds Try.pinned (OpenSpec.upto fnExactIsProperSpec)

/-- 'laws.FnExactCountOrthogonal', WHERE WHAT IT READS IS OF BULK AT MOST 1048576: true; the input reads as it did. -/
def fnExactCountOrthogonalUptoRow : OpenClaim := { program := "ytigdepahbnidjaa", sum := "b5038f2ef946f59c0e1c2768c1f6ac262b51df17f2ac42d6bf2d0cc13e669ad7", func := "loop.example/g01124/laws.FnExactCountOrthogonal", spec := "fnExactCountOrthogonal", recurses := true, apart := false, narrowed := true }
def FnExactCountOrthogonalUptoSaid : Prop := fnExactCountOrthogonalUptoRow.holds Try.pinned (OpenSpec.upto fnExactCountOrthogonalSpec)

/-- 'laws.FnExactAllOrthogonal', WHERE WHAT IT READS IS OF BULK AT MOST 1048576: true; the input reads as it did. -/
def fnExactAllOrthogonalUptoRow : OpenClaim := { program := "ytigdepahbnidjaa", sum := "b5038f2ef946f59c0e1c2768c1f6ac262b51df17f2ac42d6bf2d0cc13e669ad7", func := "loop.example/g01124/laws.FnExactAllOrthogonal", spec := "fnExactAllOrthogonal", unfollowed := true, recurses := true, leaving := true, apart := false, narrowed := true }
def FnExactAllOrthogonalUptoSaid : Prop := fnExactAllOrthogonalUptoRow.holds Try.pinned (OpenSpec.upto fnExactAllOrthogonalSpec)

/-- 'laws.FnExactOrthogonalOrder', WHERE WHAT IT READS IS OF BULK AT MOST 1048576: true; the input reads as it did. -/
def fnExactOrthogonalOrderUptoRow : OpenClaim := { program := "ytigdepahbnidjaa", sum := "b5038f2ef946f59c0e1c2768c1f6ac262b51df17f2ac42d6bf2d0cc13e669ad7", func := "loop.example/g01124/laws.FnExactOrthogonalOrder", spec := "fnExactOrthogonalOrder", inPlace := ["slices.overlaps[[]int64]", "slices.overlaps[int]"], unfollowed := true, recurses := true, leaving := true, apart := false, narrowed := true }
def FnExactOrthogonalOrderUptoSaid : Prop := fnExactOrthogonalOrderUptoRow.holds Try.pinned (OpenSpec.upto fnExactOrthogonalOrderSpec)

/-- 'laws.FnExactFixedVectors', WHERE WHAT IT READS IS OF BULK AT MOST 1048576: true; the input reads as it did. -/
def fnExactFixedVectorsUptoRow : OpenClaim := { program := "ytigdepahbnidjaa", sum := "b5038f2ef946f59c0e1c2768c1f6ac262b51df17f2ac42d6bf2d0cc13e669ad7", func := "loop.example/g01124/laws.FnExactFixedVectors", spec := "fnExactFixedVectors", inPlace := ["slices.overlaps[[]int64]", "slices.overlaps[int]"], unfollowed := true, recurses := true, leaving := true, apart := false, narrowed := true }
def FnExactFixedVectorsUptoSaid : Prop := fnExactFixedVectorsUptoRow.holds Try.pinned (OpenSpec.upto fnExactFixedVectorsSpec)

end Rows
end Go.Proofs.Ytigdepahbnidjaa
