/-
  No cell of these rows narrows 'for every input' (looked for: loops, veiled, ifaces, maps, wideKeys, modest, calm, conditions, laid).
  DERIVED. THE GIVEN ROWS OF THIS SEAT. 9 by the template 'for every input the law returns true; each argument reads behind the call as it read before'; 0 by the template 'total and deterministic' (their statements: YtcamegdjdjacpaaTotals.lean).
  GIVEN WITH THE SEED: the statements are not yours to turn. If you find one false, say at which input.
  Laid BY PROGRAM, IN A SANDBOX (cutbox-rows.mjs): the forced cells as the released guide's own fill.sh prints them over the translation e27ee9ec6ae6f8dc… (all of the seat's roots in one cut). By AI agents, Wed Nov 11 2026. No macro, syntax, notation, axiom, sorry.
-/
import Derived.Test.YtcamegdjdjacpaaChecked
import GoSem.Claim
import GoSem.ClaimJoined
import GoSem.ClaimMapViews
import Derived.JoinedTies
import Derived.KernelRfl
namespace Go.Proofs.Ytcamegdjdjacpaa
/- THE CELL 'sum', in the pinned program and in every row, IS THE sha256 OF THE DUMP (.gsa) THAT YtcamegdjdjacpaaProg.lean LOADS. Nothing in Lean hashes anything: it is a label: what it is worth is what the hold of that sum in a sandbox is worth. -/
noncomputable def Try.pinned : Pinned := { name := "ytcamegdjdjacpaa", sum := "e27ee9ec6ae6f8dce65e94348dd01227d66e8867bbb6b8d04a30beadaedc0e92", checked := Try.checked }
namespace Rows
def none {H : Type} : Left H := { results := [], args := [] }

/-- 'laws.FnGeometricProducts': WHATEVER THE INPUT: true; the input reads as it did. -/
def fnGeometricProductsSpec : ChangeSpec := { name := "fnGeometricProducts", fn := fun _ => fun
  | [d] => { results := [.lit (.bool true)], args := [d] }
  | _ => none }
def fnGeometricProductsRow : OpenClaim := { program := "ytcamegdjdjacpaa", sum := "e27ee9ec6ae6f8dce65e94348dd01227d66e8867bbb6b8d04a30beadaedc0e92", func := "loop.example/g01124/laws.FnGeometricProducts", spec := "fnGeometricProducts", unfollowed := true, recurses := true, apart := false }
def FnGeometricProductsSaid : Prop := fnGeometricProductsRow.holds Try.pinned (OpenSpec.ofChange fnGeometricProductsSpec)

/-- ITS FALSE NEIGHBOUR: 'it returns false'. Refute it at one input. -/
def fnGeometricProductsWrong : ChangeSpec := { name := "fnGeometricProducts", fn := fun _ => fun
  | [d] => { results := [.lit (.bool false)], args := [d] }
  | _ => none }
def FnGeometricProductsWrongFalsely : Prop := fnGeometricProductsRow.holds Try.pinned (OpenSpec.ofChange fnGeometricProductsWrong)

/-- 'laws.FnVectorSquares': WHATEVER THE INPUT: true; the input reads as it did. -/
def fnVectorSquaresSpec : ChangeSpec := { name := "fnVectorSquares", fn := fun _ => fun
  | [d] => { results := [.lit (.bool true)], args := [d] }
  | _ => none }
def fnVectorSquaresRow : OpenClaim := { program := "ytcamegdjdjacpaa", sum := "e27ee9ec6ae6f8dce65e94348dd01227d66e8867bbb6b8d04a30beadaedc0e92", func := "loop.example/g01124/laws.FnVectorSquares", spec := "fnVectorSquares", unfollowed := true, recurses := true, apart := false }
def FnVectorSquaresSaid : Prop := fnVectorSquaresRow.holds Try.pinned (OpenSpec.ofChange fnVectorSquaresSpec)

/-- ITS FALSE NEIGHBOUR: 'it returns false'. Refute it at one input. -/
def fnVectorSquaresWrong : ChangeSpec := { name := "fnVectorSquares", fn := fun _ => fun
  | [d] => { results := [.lit (.bool false)], args := [d] }
  | _ => none }
def FnVectorSquaresWrongFalsely : Prop := fnVectorSquaresRow.holds Try.pinned (OpenSpec.ofChange fnVectorSquaresWrong)

/-- 'laws.FnReversals': WHATEVER THE INPUT: true; the input reads as it did. -/
def fnReversalsSpec : ChangeSpec := { name := "fnReversals", fn := fun _ => fun
  | [d] => { results := [.lit (.bool true)], args := [d] }
  | _ => none }
def fnReversalsRow : OpenClaim := { program := "ytcamegdjdjacpaa", sum := "e27ee9ec6ae6f8dce65e94348dd01227d66e8867bbb6b8d04a30beadaedc0e92", func := "loop.example/g01124/laws.FnReversals", spec := "fnReversals", unfollowed := true, recurses := true, apart := false }
def FnReversalsSaid : Prop := fnReversalsRow.holds Try.pinned (OpenSpec.ofChange fnReversalsSpec)

/-- ITS FALSE NEIGHBOUR: 'it returns false'. Refute it at one input. -/
def fnReversalsWrong : ChangeSpec := { name := "fnReversals", fn := fun _ => fun
  | [d] => { results := [.lit (.bool false)], args := [d] }
  | _ => none }
def FnReversalsWrongFalsely : Prop := fnReversalsRow.holds Try.pinned (OpenSpec.ofChange fnReversalsWrong)

/-- 'laws.FnContractions': WHATEVER THE INPUT: true; the input reads as it did. -/
def fnContractionsSpec : ChangeSpec := { name := "fnContractions", fn := fun _ => fun
  | [d] => { results := [.lit (.bool true)], args := [d] }
  | _ => none }
def fnContractionsRow : OpenClaim := { program := "ytcamegdjdjacpaa", sum := "e27ee9ec6ae6f8dce65e94348dd01227d66e8867bbb6b8d04a30beadaedc0e92", func := "loop.example/g01124/laws.FnContractions", spec := "fnContractions", unfollowed := true, recurses := true, apart := false }
def FnContractionsSaid : Prop := fnContractionsRow.holds Try.pinned (OpenSpec.ofChange fnContractionsSpec)

/-- ITS FALSE NEIGHBOUR: 'it returns false'. Refute it at one input. -/
def fnContractionsWrong : ChangeSpec := { name := "fnContractions", fn := fun _ => fun
  | [d] => { results := [.lit (.bool false)], args := [d] }
  | _ => none }
def FnContractionsWrongFalsely : Prop := fnContractionsRow.holds Try.pinned (OpenSpec.ofChange fnContractionsWrong)

/-- 'laws.FnDuals': WHATEVER THE INPUT: true; the input reads as it did. -/
def fnDualsSpec : ChangeSpec := { name := "fnDuals", fn := fun _ => fun
  | [d] => { results := [.lit (.bool true)], args := [d] }
  | _ => none }
def fnDualsRow : OpenClaim := { program := "ytcamegdjdjacpaa", sum := "e27ee9ec6ae6f8dce65e94348dd01227d66e8867bbb6b8d04a30beadaedc0e92", func := "loop.example/g01124/laws.FnDuals", spec := "fnDuals", unfollowed := true, recurses := true, apart := false }
def FnDualsSaid : Prop := fnDualsRow.holds Try.pinned (OpenSpec.ofChange fnDualsSpec)

/-- ITS FALSE NEIGHBOUR: 'it returns false'. Refute it at one input. -/
def fnDualsWrong : ChangeSpec := { name := "fnDuals", fn := fun _ => fun
  | [d] => { results := [.lit (.bool false)], args := [d] }
  | _ => none }
def FnDualsWrongFalsely : Prop := fnDualsRow.holds Try.pinned (OpenSpec.ofChange fnDualsWrong)

/-- 'laws.FnPairs': WHATEVER THE INPUT: true; the input reads as it did. -/
def fnPairsSpec : ChangeSpec := { name := "fnPairs", fn := fun _ => fun
  | [d] => { results := [.lit (.bool true)], args := [d] }
  | _ => none }
def fnPairsRow : OpenClaim := { program := "ytcamegdjdjacpaa", sum := "e27ee9ec6ae6f8dce65e94348dd01227d66e8867bbb6b8d04a30beadaedc0e92", func := "loop.example/g01124/laws.FnPairs", spec := "fnPairs", apart := false }
def FnPairsSaid : Prop := fnPairsRow.holds Try.pinned (OpenSpec.ofChange fnPairsSpec)

/-- ITS FALSE NEIGHBOUR: 'it returns false'. Refute it at one input. -/
def fnPairsWrong : ChangeSpec := { name := "fnPairs", fn := fun _ => fun
  | [d] => { results := [.lit (.bool false)], args := [d] }
  | _ => none }
def FnPairsWrongFalsely : Prop := fnPairsRow.holds Try.pinned (OpenSpec.ofChange fnPairsWrong)

/-- 'laws.FnExactIsIsometry': WHATEVER THE INPUT: true; the input reads as it did. -/
def fnExactIsIsometrySpec : ChangeSpec := { name := "fnExactIsIsometry", fn := fun _ => fun
  | [d1, d2, d3] => { results := [.lit (.bool true)], args := [d1, d2, d3] }
  | _ => none }
def fnExactIsIsometryRow : OpenClaim := { program := "ytcamegdjdjacpaa", sum := "e27ee9ec6ae6f8dce65e94348dd01227d66e8867bbb6b8d04a30beadaedc0e92", func := "loop.example/g01124/laws.FnExactIsIsometry", spec := "fnExactIsIsometry", inPlace := ["slices.overlaps[[]int64]", "slices.overlaps[int]"], unfollowed := true, recurses := true, apart := false }
def FnExactIsIsometrySaid : Prop := fnExactIsIsometryRow.holds Try.pinned (OpenSpec.ofChange fnExactIsIsometrySpec)

/-- ITS FALSE NEIGHBOUR: 'it returns false'. Refute it at one input. -/
def fnExactIsIsometryWrong : ChangeSpec := { name := "fnExactIsIsometry", fn := fun _ => fun
  | [d1, d2, d3] => { results := [.lit (.bool false)], args := [d1, d2, d3] }
  | _ => none }
def FnExactIsIsometryWrongFalsely : Prop := fnExactIsIsometryRow.holds Try.pinned (OpenSpec.ofChange fnExactIsIsometryWrong)

/-- 'laws.FnExactInverseMatrix': WHATEVER THE INPUT: true; the input reads as it did. -/
def fnExactInverseMatrixSpec : ChangeSpec := { name := "fnExactInverseMatrix", fn := fun _ => fun
  | [d1, d2] => { results := [.lit (.bool true)], args := [d1, d2] }
  | _ => none }
def fnExactInverseMatrixRow : OpenClaim := { program := "ytcamegdjdjacpaa", sum := "e27ee9ec6ae6f8dce65e94348dd01227d66e8867bbb6b8d04a30beadaedc0e92", func := "loop.example/g01124/laws.FnExactInverseMatrix", spec := "fnExactInverseMatrix", inPlace := ["slices.overlaps[[]int64]", "slices.overlaps[int]"], unfollowed := true, recurses := true, apart := false }
def FnExactInverseMatrixSaid : Prop := fnExactInverseMatrixRow.holds Try.pinned (OpenSpec.ofChange fnExactInverseMatrixSpec)

/-- ITS FALSE NEIGHBOUR: 'it returns false'. Refute it at one input. -/
def fnExactInverseMatrixWrong : ChangeSpec := { name := "fnExactInverseMatrix", fn := fun _ => fun
  | [d1, d2] => { results := [.lit (.bool false)], args := [d1, d2] }
  | _ => none }
def FnExactInverseMatrixWrongFalsely : Prop := fnExactInverseMatrixRow.holds Try.pinned (OpenSpec.ofChange fnExactInverseMatrixWrong)

/-- 'laws.FnExactVectorsOfNorm': WHATEVER THE INPUT: true; the input reads as it did. -/
def fnExactVectorsOfNormSpec : ChangeSpec := { name := "fnExactVectorsOfNorm", fn := fun _ => fun
  | [d1, d2] => { results := [.lit (.bool true)], args := [d1, d2] }
  | _ => none }
def fnExactVectorsOfNormRow : OpenClaim := { program := "ytcamegdjdjacpaa", sum := "e27ee9ec6ae6f8dce65e94348dd01227d66e8867bbb6b8d04a30beadaedc0e92", func := "loop.example/g01124/laws.FnExactVectorsOfNorm", spec := "fnExactVectorsOfNorm", unfollowed := true, recurses := true, apart := false }
def FnExactVectorsOfNormSaid : Prop := fnExactVectorsOfNormRow.holds Try.pinned (OpenSpec.ofChange fnExactVectorsOfNormSpec)

/-- ITS FALSE NEIGHBOUR: 'it returns false'. Refute it at one input. -/
def fnExactVectorsOfNormWrong : ChangeSpec := { name := "fnExactVectorsOfNorm", fn := fun _ => fun
  | [d1, d2] => { results := [.lit (.bool false)], args := [d1, d2] }
  | _ => none }
def FnExactVectorsOfNormWrongFalsely : Prop := fnExactVectorsOfNormRow.holds Try.pinned (OpenSpec.ofChange fnExactVectorsOfNormWrong)

/- THE SECOND FORM. 'bulk': how many values and letters a reading holds, each counted each time it is reached (what is shared counts as often as it is met; a slice's spare places count too). A statement '..UptoSaid' is the law's where the arguments, and the package variables that the reading takes, are together of bulk at most 1048576: NARROWER than '..Said'. Prove '..Said' where nothing that the law and all that it calls make is longer than what came in: it says more and counts as full. Else prove '..UptoSaid'. A law counts once. -/
mutual
def uptoBulk {H : Type} : DataW H → Nat
  | .lit (.string bytes) => bytes.length + 1
  | .lit _ => 1
  | .nil => 1
  | .ptr d => uptoBulk d + 1
  | .slice elems spare => uptoBulkAll elems + uptoBulkAll spare + 1
  | .agg parts => uptoBulkAll parts + 1
  | .iface _ d => uptoBulk d + 1
  | .map entries => uptoBulkEntries entries + 1
  | .held _ => 1
def uptoBulkAll {H : Type} : List (DataW H) → Nat
  | [] => 0
  | d :: r => uptoBulk d + uptoBulkAll r
def uptoBulkEntries {H : Type} : List (Lit × DataW H) → Nat
  | [] => 0
  | x :: r => uptoBulkEntry x + uptoBulkEntries r
def uptoBulkEntry {H : Type} : Lit × DataW H → Nat
  | (.string bytes, d) => bytes.length + uptoBulk d + 1
  | (_, d) => uptoBulk d + 1
 end
def uptoSmall : (H : Type) → List (DataW H) → Bool := fun _ ds => decide (uptoBulkAll ds ≤ 1048576)
def OpenSpec.upto (s : _root_.Go.ChangeSpec) : _root_.Go.OpenSpec := { _root_.Go.OpenSpec.ofChange s with cond := some uptoSmall }

/-- 'laws.FnGeometricProducts', WHERE WHAT IT READS IS OF BULK AT MOST 1048576: true; the input reads as it did. -/
def fnGeometricProductsUptoRow : OpenClaim := { program := "ytcamegdjdjacpaa", sum := "e27ee9ec6ae6f8dce65e94348dd01227d66e8867bbb6b8d04a30beadaedc0e92", func := "loop.example/g01124/laws.FnGeometricProducts", spec := "fnGeometricProducts", unfollowed := true, recurses := true, apart := false, narrowed := true }
def FnGeometricProductsUptoSaid : Prop := fnGeometricProductsUptoRow.holds Try.pinned (OpenSpec.upto fnGeometricProductsSpec)

/-- 'laws.FnVectorSquares', WHERE WHAT IT READS IS OF BULK AT MOST 1048576: true; the input reads as it did. -/
def fnVectorSquaresUptoRow : OpenClaim := { program := "ytcamegdjdjacpaa", sum := "e27ee9ec6ae6f8dce65e94348dd01227d66e8867bbb6b8d04a30beadaedc0e92", func := "loop.example/g01124/laws.FnVectorSquares", spec := "fnVectorSquares", unfollowed := true, recurses := true, apart := false, narrowed := true }
def FnVectorSquaresUptoSaid : Prop := fnVectorSquaresUptoRow.holds Try.pinned (OpenSpec.upto fnVectorSquaresSpec)

/-- 'laws.FnReversals', WHERE WHAT IT READS IS OF BULK AT MOST 1048576: true; the input reads as it did. -/
def fnReversalsUptoRow : OpenClaim := { program := "ytcamegdjdjacpaa", sum := "e27ee9ec6ae6f8dce65e94348dd01227d66e8867bbb6b8d04a30beadaedc0e92", func := "loop.example/g01124/laws.FnReversals", spec := "fnReversals", unfollowed := true, recurses := true, apart := false, narrowed := true }
def FnReversalsUptoSaid : Prop := fnReversalsUptoRow.holds Try.pinned (OpenSpec.upto fnReversalsSpec)

/-- 'laws.FnContractions', WHERE WHAT IT READS IS OF BULK AT MOST 1048576: true; the input reads as it did. -/
def fnContractionsUptoRow : OpenClaim := { program := "ytcamegdjdjacpaa", sum := "e27ee9ec6ae6f8dce65e94348dd01227d66e8867bbb6b8d04a30beadaedc0e92", func := "loop.example/g01124/laws.FnContractions", spec := "fnContractions", unfollowed := true, recurses := true, apart := false, narrowed := true }
def FnContractionsUptoSaid : Prop := fnContractionsUptoRow.holds Try.pinned (OpenSpec.upto fnContractionsSpec)

/-- 'laws.FnDuals', WHERE WHAT IT READS IS OF BULK AT MOST 1048576: true; the input reads as it did. -/
def fnDualsUptoRow : OpenClaim := { program := "ytcamegdjdjacpaa", sum := "e27ee9ec6ae6f8dce65e94348dd01227d66e8867bbb6b8d04a30beadaedc0e92", func := "loop.example/g01124/laws.FnDuals", spec := "fnDuals", unfollowed := true, recurses := true, apart := false, narrowed := true }
def FnDualsUptoSaid : Prop := fnDualsUptoRow.holds Try.pinned (OpenSpec.upto fnDualsSpec)

/-- 'laws.FnPairs', WHERE WHAT IT READS IS OF BULK AT MOST 1048576: true; the input reads as it did. -/
def fnPairsUptoRow : OpenClaim := { program := "ytcamegdjdjacpaa", sum := "e27ee9ec6ae6f8dce65e94348dd01227d66e8867bbb6b8d04a30beadaedc0e92", func := "loop.example/g01124/laws.FnPairs", spec := "fnPairs", apart := false, narrowed := true }
def FnPairsUptoSaid : Prop := fnPairsUptoRow.holds Try.pinned (OpenSpec.upto fnPairsSpec)

/-- 'laws.FnExactIsIsometry', WHERE WHAT IT READS IS OF BULK AT MOST 1048576: true; the input reads as it did. -/
def fnExactIsIsometryUptoRow : OpenClaim := { program := "ytcamegdjdjacpaa", sum := "e27ee9ec6ae6f8dce65e94348dd01227d66e8867bbb6b8d04a30beadaedc0e92", func := "loop.example/g01124/laws.FnExactIsIsometry", spec := "fnExactIsIsometry", inPlace := ["slices.overlaps[[]int64]", "slices.overlaps[int]"], unfollowed := true, recurses := true, apart := false, narrowed := true }
def FnExactIsIsometryUptoSaid : Prop := fnExactIsIsometryUptoRow.holds Try.pinned (OpenSpec.upto fnExactIsIsometrySpec)

/-- 'laws.FnExactInverseMatrix', WHERE WHAT IT READS IS OF BULK AT MOST 1048576: true; the input reads as it did. -/
def fnExactInverseMatrixUptoRow : OpenClaim := { program := "ytcamegdjdjacpaa", sum := "e27ee9ec6ae6f8dce65e94348dd01227d66e8867bbb6b8d04a30beadaedc0e92", func := "loop.example/g01124/laws.FnExactInverseMatrix", spec := "fnExactInverseMatrix", inPlace := ["slices.overlaps[[]int64]", "slices.overlaps[int]"], unfollowed := true, recurses := true, apart := false, narrowed := true }
def FnExactInverseMatrixUptoSaid : Prop := fnExactInverseMatrixUptoRow.holds Try.pinned (OpenSpec.upto fnExactInverseMatrixSpec)

/-- 'laws.FnExactVectorsOfNorm', WHERE WHAT IT READS IS OF BULK AT MOST 1048576: true; the input reads as it did. -/
def fnExactVectorsOfNormUptoRow : OpenClaim := { program := "ytcamegdjdjacpaa", sum := "e27ee9ec6ae6f8dce65e94348dd01227d66e8867bbb6b8d04a30beadaedc0e92", func := "loop.example/g01124/laws.FnExactVectorsOfNorm", spec := "fnExactVectorsOfNorm", unfollowed := true, recurses := true, apart := false, narrowed := true }
def FnExactVectorsOfNormUptoSaid : Prop := fnExactVectorsOfNormUptoRow.holds Try.pinned (OpenSpec.upto fnExactVectorsOfNormSpec)

end Rows
end Go.Proofs.Ytcamegdjdjacpaa
