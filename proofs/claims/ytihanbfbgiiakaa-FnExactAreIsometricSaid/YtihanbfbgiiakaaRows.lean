/-
  No cell of these rows narrows 'for every input' (looked for: loops, veiled, ifaces, maps, wideKeys, modest, calm, conditions, laid).
  DERIVED. THE GIVEN ROWS OF THIS SEAT. 12 by the template 'for every input the law returns true; each argument reads behind the call as it read before'; 0 by the template 'total and deterministic' (their statements: YtihanbfbgiiakaaTotals.lean).
  GIVEN WITH THE SEED: the statements are not yours to turn. If you find one false, say at which input.
  Laid BY PROGRAM, IN A SANDBOX (cutbox-rows.mjs): the forced cells as the released guide's own fill.sh prints them over the translation 34dc6e9df8cb5311… (all of the seat's roots in one cut). By AI agents, Wed Nov 11 2026. No macro, syntax, notation, axiom, sorry.
-/
import Derived.Test.YtihanbfbgiiakaaChecked
import GoSem.Claim
import GoSem.ClaimJoined
import GoSem.ClaimMapViews
import Derived.JoinedTies
import Derived.KernelRfl
namespace Go.Proofs.Ytihanbfbgiiakaa
/- THE CELL 'sum', in the pinned program and in every row, IS THE sha256 OF THE DUMP (.gsa) THAT YtihanbfbgiiakaaProg.lean LOADS. Nothing in Lean hashes anything: it is a label: what it is worth is what the hold of that sum in a sandbox is worth. -/
noncomputable def Try.pinned : Pinned := { name := "ytihanbfbgiiakaa", sum := "34dc6e9df8cb53114f7ca3cee61a205268e439a036f0649bdc66888125612ce1", checked := Try.checked }
namespace Rows
def none {H : Type} : Left H := { results := [], args := [] }

/-- 'laws.FnExactDeterminant': WHATEVER THE INPUT: true; the input reads as it did. -/
def fnExactDeterminantSpec : ChangeSpec := { name := "fnExactDeterminant", fn := fun _ => fun
  | [d1, d2] => { results := [.lit (.bool true)], args := [d1, d2] }
  | _ => none }
def fnExactDeterminantRow : OpenClaim := { program := "ytihanbfbgiiakaa", sum := "34dc6e9df8cb53114f7ca3cee61a205268e439a036f0649bdc66888125612ce1", func := "loop.example/g01124/laws.FnExactDeterminant", spec := "fnExactDeterminant", inPlace := ["slices.overlaps[[]int64]", "slices.overlaps[int]"], unfollowed := true, recurses := true, apart := false }
def FnExactDeterminantSaid : Prop := fnExactDeterminantRow.holds Try.pinned (OpenSpec.ofChange fnExactDeterminantSpec)

/-- ITS FALSE NEIGHBOUR: 'it returns false'. Refute it at one input. -/
def fnExactDeterminantWrong : ChangeSpec := { name := "fnExactDeterminant", fn := fun _ => fun
  | [d1, d2] => { results := [.lit (.bool false)], args := [d1, d2] }
  | _ => none }
def FnExactDeterminantWrongFalsely : Prop := fnExactDeterminantRow.holds Try.pinned (OpenSpec.ofChange fnExactDeterminantWrong)

/-- 'laws.FnExactKernelBasis': WHATEVER THE INPUT: true; the input reads as it did. -/
def fnExactKernelBasisSpec : ChangeSpec := { name := "fnExactKernelBasis", fn := fun _ => fun
  | [d1, d2] => { results := [.lit (.bool true)], args := [d1, d2] }
  | _ => none }
def fnExactKernelBasisRow : OpenClaim := { program := "ytihanbfbgiiakaa", sum := "34dc6e9df8cb53114f7ca3cee61a205268e439a036f0649bdc66888125612ce1", func := "loop.example/g01124/laws.FnExactKernelBasis", spec := "fnExactKernelBasis", inPlace := ["slices.overlaps[[]int64]", "slices.overlaps[int]"], unfollowed := true, recurses := true, apart := false }
def FnExactKernelBasisSaid : Prop := fnExactKernelBasisRow.holds Try.pinned (OpenSpec.ofChange fnExactKernelBasisSpec)

/-- ITS FALSE NEIGHBOUR: 'it returns false'. Refute it at one input. -/
def fnExactKernelBasisWrong : ChangeSpec := { name := "fnExactKernelBasis", fn := fun _ => fun
  | [d1, d2] => { results := [.lit (.bool false)], args := [d1, d2] }
  | _ => none }
def FnExactKernelBasisWrongFalsely : Prop := fnExactKernelBasisRow.holds Try.pinned (OpenSpec.ofChange fnExactKernelBasisWrong)

/-- 'laws.FnExactSolveMatrix': WHATEVER THE INPUT: true; the input reads as it did. -/
def fnExactSolveMatrixSpec : ChangeSpec := { name := "fnExactSolveMatrix", fn := fun _ => fun
  | [d1, d2, d3] => { results := [.lit (.bool true)], args := [d1, d2, d3] }
  | _ => none }
def fnExactSolveMatrixRow : OpenClaim := { program := "ytihanbfbgiiakaa", sum := "34dc6e9df8cb53114f7ca3cee61a205268e439a036f0649bdc66888125612ce1", func := "loop.example/g01124/laws.FnExactSolveMatrix", spec := "fnExactSolveMatrix", inPlace := ["slices.overlaps[[]int64]", "slices.overlaps[int]"], unfollowed := true, recurses := true, apart := false }
def FnExactSolveMatrixSaid : Prop := fnExactSolveMatrixRow.holds Try.pinned (OpenSpec.ofChange fnExactSolveMatrixSpec)

/-- ITS FALSE NEIGHBOUR: 'it returns false'. Refute it at one input. -/
def fnExactSolveMatrixWrong : ChangeSpec := { name := "fnExactSolveMatrix", fn := fun _ => fun
  | [d1, d2, d3] => { results := [.lit (.bool false)], args := [d1, d2, d3] }
  | _ => none }
def FnExactSolveMatrixWrongFalsely : Prop := fnExactSolveMatrixRow.holds Try.pinned (OpenSpec.ofChange fnExactSolveMatrixWrong)

/-- 'laws.FnExactInSpan': WHATEVER THE INPUT: true; the input reads as it did. -/
def fnExactInSpanSpec : ChangeSpec := { name := "fnExactInSpan", fn := fun _ => fun
  | [d1, d2, d3] => { results := [.lit (.bool true)], args := [d1, d2, d3] }
  | _ => none }
def fnExactInSpanRow : OpenClaim := { program := "ytihanbfbgiiakaa", sum := "34dc6e9df8cb53114f7ca3cee61a205268e439a036f0649bdc66888125612ce1", func := "loop.example/g01124/laws.FnExactInSpan", spec := "fnExactInSpan", inPlace := ["slices.overlaps[[]int64]", "slices.overlaps[int]"], unfollowed := true, recurses := true, apart := false }
def FnExactInSpanSaid : Prop := fnExactInSpanRow.holds Try.pinned (OpenSpec.ofChange fnExactInSpanSpec)

/-- ITS FALSE NEIGHBOUR: 'it returns false'. Refute it at one input. -/
def fnExactInSpanWrong : ChangeSpec := { name := "fnExactInSpan", fn := fun _ => fun
  | [d1, d2, d3] => { results := [.lit (.bool false)], args := [d1, d2, d3] }
  | _ => none }
def FnExactInSpanWrongFalsely : Prop := fnExactInSpanRow.holds Try.pinned (OpenSpec.ofChange fnExactInSpanWrong)

/-- 'laws.FnExactInverseMatrix': WHATEVER THE INPUT: true; the input reads as it did. -/
def fnExactInverseMatrixSpec : ChangeSpec := { name := "fnExactInverseMatrix", fn := fun _ => fun
  | [d1, d2] => { results := [.lit (.bool true)], args := [d1, d2] }
  | _ => none }
def fnExactInverseMatrixRow : OpenClaim := { program := "ytihanbfbgiiakaa", sum := "34dc6e9df8cb53114f7ca3cee61a205268e439a036f0649bdc66888125612ce1", func := "loop.example/g01124/laws.FnExactInverseMatrix", spec := "fnExactInverseMatrix", inPlace := ["slices.overlaps[[]int64]", "slices.overlaps[int]"], unfollowed := true, recurses := true, apart := false }
def FnExactInverseMatrixSaid : Prop := fnExactInverseMatrixRow.holds Try.pinned (OpenSpec.ofChange fnExactInverseMatrixSpec)

/-- ITS FALSE NEIGHBOUR: 'it returns false'. Refute it at one input. -/
def fnExactInverseMatrixWrong : ChangeSpec := { name := "fnExactInverseMatrix", fn := fun _ => fun
  | [d1, d2] => { results := [.lit (.bool false)], args := [d1, d2] }
  | _ => none }
def FnExactInverseMatrixWrongFalsely : Prop := fnExactInverseMatrixRow.holds Try.pinned (OpenSpec.ofChange fnExactInverseMatrixWrong)

/-- 'laws.FnExactGramOf': WHATEVER THE INPUT: true; the input reads as it did. -/
def fnExactGramOfSpec : ChangeSpec := { name := "fnExactGramOf", fn := fun _ => fun
  | [d1, d2] => { results := [.lit (.bool true)], args := [d1, d2] }
  | _ => none }
def fnExactGramOfRow : OpenClaim := { program := "ytihanbfbgiiakaa", sum := "34dc6e9df8cb53114f7ca3cee61a205268e439a036f0649bdc66888125612ce1", func := "loop.example/g01124/laws.FnExactGramOf", spec := "fnExactGramOf", apart := false }
def FnExactGramOfSaid : Prop := fnExactGramOfRow.holds Try.pinned (OpenSpec.ofChange fnExactGramOfSpec)

/-- ITS FALSE NEIGHBOUR: 'it returns false'. Refute it at one input. -/
def fnExactGramOfWrong : ChangeSpec := { name := "fnExactGramOf", fn := fun _ => fun
  | [d1, d2] => { results := [.lit (.bool false)], args := [d1, d2] }
  | _ => none }
def FnExactGramOfWrongFalsely : Prop := fnExactGramOfRow.holds Try.pinned (OpenSpec.ofChange fnExactGramOfWrong)

/-- 'laws.FnExactDiscriminantOf': WHATEVER THE INPUT: true; the input reads as it did. -/
def fnExactDiscriminantOfSpec : ChangeSpec := { name := "fnExactDiscriminantOf", fn := fun _ => fun
  | [d] => { results := [.lit (.bool true)], args := [d] }
  | _ => none }
def fnExactDiscriminantOfRow : OpenClaim := { program := "ytihanbfbgiiakaa", sum := "34dc6e9df8cb53114f7ca3cee61a205268e439a036f0649bdc66888125612ce1", func := "loop.example/g01124/laws.FnExactDiscriminantOf", spec := "fnExactDiscriminantOf", apart := false }
def FnExactDiscriminantOfSaid : Prop := fnExactDiscriminantOfRow.holds Try.pinned (OpenSpec.ofChange fnExactDiscriminantOfSpec)

/-- ITS FALSE NEIGHBOUR: 'it returns false'. Refute it at one input. -/
def fnExactDiscriminantOfWrong : ChangeSpec := { name := "fnExactDiscriminantOf", fn := fun _ => fun
  | [d] => { results := [.lit (.bool false)], args := [d] }
  | _ => none }
def FnExactDiscriminantOfWrongFalsely : Prop := fnExactDiscriminantOfRow.holds Try.pinned (OpenSpec.ofChange fnExactDiscriminantOfWrong)

/-- 'laws.FnExactIsRegular': WHATEVER THE INPUT: true; the input reads as it did. -/
def fnExactIsRegularSpec : ChangeSpec := { name := "fnExactIsRegular", fn := fun _ => fun
  | [d] => { results := [.lit (.bool true)], args := [d] }
  | _ => none }
def fnExactIsRegularRow : OpenClaim := { program := "ytihanbfbgiiakaa", sum := "34dc6e9df8cb53114f7ca3cee61a205268e439a036f0649bdc66888125612ce1", func := "loop.example/g01124/laws.FnExactIsRegular", spec := "fnExactIsRegular", apart := false }
def FnExactIsRegularSaid : Prop := fnExactIsRegularRow.holds Try.pinned (OpenSpec.ofChange fnExactIsRegularSpec)

/-- ITS FALSE NEIGHBOUR: 'it returns false'. Refute it at one input. -/
def fnExactIsRegularWrong : ChangeSpec := { name := "fnExactIsRegular", fn := fun _ => fun
  | [d] => { results := [.lit (.bool false)], args := [d] }
  | _ => none }
def FnExactIsRegularWrongFalsely : Prop := fnExactIsRegularRow.holds Try.pinned (OpenSpec.ofChange fnExactIsRegularWrong)

/-- 'laws.FnExactOrthogonalTo': WHATEVER THE INPUT: true; the input reads as it did. -/
def fnExactOrthogonalToSpec : ChangeSpec := { name := "fnExactOrthogonalTo", fn := fun _ => fun
  | [d1, d2] => { results := [.lit (.bool true)], args := [d1, d2] }
  | _ => none }
def fnExactOrthogonalToRow : OpenClaim := { program := "ytihanbfbgiiakaa", sum := "34dc6e9df8cb53114f7ca3cee61a205268e439a036f0649bdc66888125612ce1", func := "loop.example/g01124/laws.FnExactOrthogonalTo", spec := "fnExactOrthogonalTo", inPlace := ["slices.overlaps[[]int64]", "slices.overlaps[int]"], unfollowed := true, recurses := true, apart := false }
def FnExactOrthogonalToSaid : Prop := fnExactOrthogonalToRow.holds Try.pinned (OpenSpec.ofChange fnExactOrthogonalToSpec)

/-- ITS FALSE NEIGHBOUR: 'it returns false'. Refute it at one input. -/
def fnExactOrthogonalToWrong : ChangeSpec := { name := "fnExactOrthogonalTo", fn := fun _ => fun
  | [d1, d2] => { results := [.lit (.bool false)], args := [d1, d2] }
  | _ => none }
def FnExactOrthogonalToWrongFalsely : Prop := fnExactOrthogonalToRow.holds Try.pinned (OpenSpec.ofChange fnExactOrthogonalToWrong)

/-- 'laws.FnExactWittIndex': WHATEVER THE INPUT: true; the input reads as it did. -/
def fnExactWittIndexSpec : ChangeSpec := { name := "fnExactWittIndex", fn := fun _ => fun
  | [d] => { results := [.lit (.bool true)], args := [d] }
  | _ => none }
def fnExactWittIndexRow : OpenClaim := { program := "ytihanbfbgiiakaa", sum := "34dc6e9df8cb53114f7ca3cee61a205268e439a036f0649bdc66888125612ce1", func := "loop.example/g01124/laws.FnExactWittIndex", spec := "fnExactWittIndex", recurses := true, apart := false }
def FnExactWittIndexSaid : Prop := fnExactWittIndexRow.holds Try.pinned (OpenSpec.ofChange fnExactWittIndexSpec)

/-- ITS FALSE NEIGHBOUR: 'it returns false'. Refute it at one input. -/
def fnExactWittIndexWrong : ChangeSpec := { name := "fnExactWittIndex", fn := fun _ => fun
  | [d] => { results := [.lit (.bool false)], args := [d] }
  | _ => none }
def FnExactWittIndexWrongFalsely : Prop := fnExactWittIndexRow.holds Try.pinned (OpenSpec.ofChange fnExactWittIndexWrong)

/-- 'laws.FnExactCountVectors': WHATEVER THE INPUT: true; the input reads as it did. -/
def fnExactCountVectorsSpec : ChangeSpec := { name := "fnExactCountVectors", fn := fun _ => fun
  | [d1, d2] => { results := [.lit (.bool true)], args := [d1, d2] }
  | _ => none }
def fnExactCountVectorsRow : OpenClaim := { program := "ytihanbfbgiiakaa", sum := "34dc6e9df8cb53114f7ca3cee61a205268e439a036f0649bdc66888125612ce1", func := "loop.example/g01124/laws.FnExactCountVectors", spec := "fnExactCountVectors", apart := false }
def FnExactCountVectorsSaid : Prop := fnExactCountVectorsRow.holds Try.pinned (OpenSpec.ofChange fnExactCountVectorsSpec)

/-- ITS FALSE NEIGHBOUR: 'it returns false'. Refute it at one input. -/
def fnExactCountVectorsWrong : ChangeSpec := { name := "fnExactCountVectors", fn := fun _ => fun
  | [d1, d2] => { results := [.lit (.bool false)], args := [d1, d2] }
  | _ => none }
def FnExactCountVectorsWrongFalsely : Prop := fnExactCountVectorsRow.holds Try.pinned (OpenSpec.ofChange fnExactCountVectorsWrong)

/-- 'laws.FnExactAreIsometric': WHATEVER THE INPUT: true; the input reads as it did. -/
def fnExactAreIsometricSpec : ChangeSpec := { name := "fnExactAreIsometric", fn := fun _ => fun
  | [d1, d2] => { results := [.lit (.bool true)], args := [d1, d2] }
  | _ => none }
def fnExactAreIsometricRow : OpenClaim := { program := "ytihanbfbgiiakaa", sum := "34dc6e9df8cb53114f7ca3cee61a205268e439a036f0649bdc66888125612ce1", func := "loop.example/g01124/laws.FnExactAreIsometric", spec := "fnExactAreIsometric", unfollowed := true, recurses := true, apart := false }
def FnExactAreIsometricSaid : Prop := fnExactAreIsometricRow.holds Try.pinned (OpenSpec.ofChange fnExactAreIsometricSpec)

/-- ITS FALSE NEIGHBOUR: 'it returns false'. Refute it at one input. -/
def fnExactAreIsometricWrong : ChangeSpec := { name := "fnExactAreIsometric", fn := fun _ => fun
  | [d1, d2] => { results := [.lit (.bool false)], args := [d1, d2] }
  | _ => none }
def FnExactAreIsometricWrongFalsely : Prop := fnExactAreIsometricRow.holds Try.pinned (OpenSpec.ofChange fnExactAreIsometricWrong)

/- THE SECOND FORM. 'bulk': how many values and letters a reading holds, each counted each time it is reached (what is shared counts as often as it is met; a slice's spare places count too). A statement '..UptoSaid' is the law's where the arguments, and the package variables that the reading takes, are together of bulk at most 1048576: NARROWER than '..Said'. Prove '..Said' where nothing that the law and all that it calls make is longer than what came in: it says more and counts as full. Else prove '..UptoSaid'. A law counts once. -/
mutual
def uptoBulk {H : Type} : DataW H → Nat
  | .lit (.string bytes) => bytes.length + 1
  | .lit _ => 1
  | .nil => 1
  | .ptr d => uptoBulk d + 1
  | .slice elems spare => uptoBulkAll elems + uptoBulkAll spare + 1
  | .agg parts => uptoBulkAll parts + 1
  | .iface _ d => uptoBulk d + 1
  | .map entries => uptoBulkEntries entries + 1
  | .held _ => 1
def uptoBulkAll {H : Type} : List (DataW H) → Nat
  | [] => 0
  | d :: r => uptoBulk d + uptoBulkAll r
def uptoBulkEntries {H : Type} : List (Lit × DataW H) → Nat
  | [] => 0
  | x :: r => uptoBulkEntry x + uptoBulkEntries r
def uptoBulkEntry {H : Type} : Lit × DataW H → Nat
  | (.string bytes, d) => bytes.length + uptoBulk d + 1
  | (_, d) => uptoBulk d + 1
 end
def uptoSmall : (H : Type) → List (DataW H) → Bool := fun _ ds => decide (uptoBulkAll ds ≤ 1048576)
def OpenSpec.upto (s : _root_.Go.ChangeSpec) : _root_.Go.OpenSpec := { _root_.Go.OpenSpec.ofChange s with cond := some uptoSmall }

/-- 'laws.FnExactDeterminant', WHERE WHAT IT READS IS OF BULK AT MOST 1048576: true; the input reads as it did. -/
def fnExactDeterminantUptoRow : OpenClaim := { program := "ytihanbfbgiiakaa", sum := "34dc6e9df8cb53114f7ca3cee61a205268e439a036f0649bdc66888125612ce1", func := "loop.example/g01124/laws.FnExactDeterminant", spec := "fnExactDeterminant", inPlace := ["slices.overlaps[[]int64]", "slices.overlaps[int]"], unfollowed := true, recurses := true, apart := false, narrowed := true }
def FnExactDeterminantUptoSaid : Prop := fnExactDeterminantUptoRow.holds Try.pinned (OpenSpec.upto fnExactDeterminantSpec)

/-- 'laws.FnExactKernelBasis', WHERE WHAT IT READS IS OF BULK AT MOST 1048576: true; the input reads as it did. -/
def fnExactKernelBasisUptoRow : OpenClaim := { program := "ytihanbfbgiiakaa", sum := "34dc6e9df8cb53114f7ca3cee61a205268e439a036f0649bdc66888125612ce1", func := "loop.example/g01124/laws.FnExactKernelBasis", spec := "fnExactKernelBasis", inPlace := ["slices.overlaps[[]int64]", "slices.overlaps[int]"], unfollowed := true, recurses := true, apart := false, narrowed := true }
def FnExactKernelBasisUptoSaid : Prop := fnExactKernelBasisUptoRow.holds Try.pinned (OpenSpec.upto fnExactKernelBasisSpec)

/-- 'laws.FnExactSolveMatrix', WHERE WHAT IT READS IS OF BULK AT MOST 1048576: true; the input reads as it did. -/
def fnExactSolveMatrixUptoRow : OpenClaim := { program := "ytihanbfbgiiakaa", sum := "34dc6e9df8cb53114f7ca3cee61a205268e439a036f0649bdc66888125612ce1", func := "loop.example/g01124/laws.FnExactSolveMatrix", spec := "fnExactSolveMatrix", inPlace := ["slices.overlaps[[]int64]", "slices.overlaps[int]"], unfollowed := true, recurses := true, apart := false, narrowed := true }
def FnExactSolveMatrixUptoSaid : Prop := fnExactSolveMatrixUptoRow.holds Try.pinned (OpenSpec.upto fnExactSolveMatrixSpec)

/-- 'laws.FnExactInSpan', WHERE WHAT IT READS IS OF BULK AT MOST 1048576: true; the input reads as it did. -/
def fnExactInSpanUptoRow : OpenClaim := { program := "ytihanbfbgiiakaa", sum := "34dc6e9df8cb53114f7ca3cee61a205268e439a036f0649bdc66888125612ce1", func := "loop.example/g01124/laws.FnExactInSpan", spec := "fnExactInSpan", inPlace := ["slices.overlaps[[]int64]", "slices.overlaps[int]"], unfollowed := true, recurses := true, apart := false, narrowed := true }
def FnExactInSpanUptoSaid : Prop := fnExactInSpanUptoRow.holds Try.pinned (OpenSpec.upto fnExactInSpanSpec)

/-- 'laws.FnExactInverseMatrix', WHERE WHAT IT READS IS OF BULK AT MOST 1048576: true; the input reads as it did. -/
def fnExactInverseMatrixUptoRow : OpenClaim := { program := "ytihanbfbgiiakaa", sum := "34dc6e9df8cb53114f7ca3cee61a205268e439a036f0649bdc66888125612ce1", func := "loop.example/g01124/laws.FnExactInverseMatrix", spec := "fnExactInverseMatrix", inPlace := ["slices.overlaps[[]int64]", "slices.overlaps[int]"], unfollowed := true, recurses := true, apart := false, narrowed := true }
def FnExactInverseMatrixUptoSaid : Prop := fnExactInverseMatrixUptoRow.holds Try.pinned (OpenSpec.upto fnExactInverseMatrixSpec)

/-- 'laws.FnExactGramOf', WHERE WHAT IT READS IS OF BULK AT MOST 1048576: true; the input reads as it did. -/
def fnExactGramOfUptoRow : OpenClaim := { program := "ytihanbfbgiiakaa", sum := "34dc6e9df8cb53114f7ca3cee61a205268e439a036f0649bdc66888125612ce1", func := "loop.example/g01124/laws.FnExactGramOf", spec := "fnExactGramOf", apart := false, narrowed := true }
def FnExactGramOfUptoSaid : Prop := fnExactGramOfUptoRow.holds Try.pinned (OpenSpec.upto fnExactGramOfSpec)

/-- 'laws.FnExactDiscriminantOf', WHERE WHAT IT READS IS OF BULK AT MOST 1048576: true; the input reads as it did. -/
def fnExactDiscriminantOfUptoRow : OpenClaim := { program := "ytihanbfbgiiakaa", sum := "34dc6e9df8cb53114f7ca3cee61a205268e439a036f0649bdc66888125612ce1", func := "loop.example/g01124/laws.FnExactDiscriminantOf", spec := "fnExactDiscriminantOf", apart := false, narrowed := true }
def FnExactDiscriminantOfUptoSaid : Prop := fnExactDiscriminantOfUptoRow.holds Try.pinned (OpenSpec.upto fnExactDiscriminantOfSpec)

/-- 'laws.FnExactIsRegular', WHERE WHAT IT READS IS OF BULK AT MOST 1048576: true; the input reads as it did. -/
def fnExactIsRegularUptoRow : OpenClaim := { program := "ytihanbfbgiiakaa", sum := "34dc6e9df8cb53114f7ca3cee61a205268e439a036f0649bdc66888125612ce1", func := "loop.example/g01124/laws.FnExactIsRegular", spec := "fnExactIsRegular", apart := false, narrowed := true }
def FnExactIsRegularUptoSaid : Prop := fnExactIsRegularUptoRow.holds Try.pinned (OpenSpec.upto fnExactIsRegularSpec)

/-- 'laws.FnExactOrthogonalTo', WHERE WHAT IT READS IS OF BULK AT MOST 1048576: true; the input reads as it did. -/
def fnExactOrthogonalToUptoRow : OpenClaim := { program := "ytihanbfbgiiakaa", sum := "34dc6e9df8cb53114f7ca3cee61a205268e439a036f0649bdc66888125612ce1", func := "loop.example/g01124/laws.FnExactOrthogonalTo", spec := "fnExactOrthogonalTo", inPlace := ["slices.overlaps[[]int64]", "slices.overlaps[int]"], unfollowed := true, recurses := true, apart := false, narrowed := true }
def FnExactOrthogonalToUptoSaid : Prop := fnExactOrthogonalToUptoRow.holds Try.pinned (OpenSpec.upto fnExactOrthogonalToSpec)

/-- 'laws.FnExactWittIndex', WHERE WHAT IT READS IS OF BULK AT MOST 1048576: true; the input reads as it did. -/
def fnExactWittIndexUptoRow : OpenClaim := { program := "ytihanbfbgiiakaa", sum := "34dc6e9df8cb53114f7ca3cee61a205268e439a036f0649bdc66888125612ce1", func := "loop.example/g01124/laws.FnExactWittIndex", spec := "fnExactWittIndex", recurses := true, apart := false, narrowed := true }
def FnExactWittIndexUptoSaid : Prop := fnExactWittIndexUptoRow.holds Try.pinned (OpenSpec.upto fnExactWittIndexSpec)

/-- 'laws.FnExactCountVectors', WHERE WHAT IT READS IS OF BULK AT MOST 1048576: true; the input reads as it did. -/
def fnExactCountVectorsUptoRow : OpenClaim := { program := "ytihanbfbgiiakaa", sum := "34dc6e9df8cb53114f7ca3cee61a205268e439a036f0649bdc66888125612ce1", func := "loop.example/g01124/laws.FnExactCountVectors", spec := "fnExactCountVectors", apart := false, narrowed := true }
def FnExactCountVectorsUptoSaid : Prop := fnExactCountVectorsUptoRow.holds Try.pinned (OpenSpec.upto fnExactCountVectorsSpec)

/-- 'laws.FnExactAreIsometric', WHERE WHAT IT READS IS OF BULK AT MOST 1048576: true; the input reads as it did. -/
def fnExactAreIsometricUptoRow : OpenClaim := { program := "ytihanbfbgiiakaa", sum := "34dc6e9df8cb53114f7ca3cee61a205268e439a036f0649bdc66888125612ce1", func := "loop.example/g01124/laws.FnExactAreIsometric", spec := "fnExactAreIsometric", unfollowed := true, recurses := true, apart := false, narrowed := true }
def FnExactAreIsometricUptoSaid : Prop := fnExactAreIsometricUptoRow.holds Try.pinned (OpenSpec.upto fnExactAreIsometricSpec)

end Rows
end Go.Proofs.Ytihanbfbgiiakaa
