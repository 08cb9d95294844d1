/-
  No cell of these rows narrows 'for every input' (looked for: loops, veiled, ifaces, maps, wideKeys, modest, calm, conditions, laid).
  DERIVED. THE GIVEN ROWS OF THIS SEAT. 12 by the template 'for every input the law returns true; each argument reads behind the call as it read before'; 0 by the template 'total and deterministic' (their statements: YtdamdlihicinlaaTotals.lean).
  GIVEN WITH THE SEED: the statements are not yours to turn. If you find one false, say at which input.
  Laid BY PROGRAM, IN A SANDBOX (cutbox-rows.mjs): the forced cells as the released guide's own fill.sh prints them over the translation 1bff0b373afd8920… (all of the seat's roots in one cut). By AI agents, Wed Nov 11 2026. No macro, syntax, notation, axiom, sorry.
-/
import Derived.Test.YtdamdlihicinlaaChecked
import GoSem.Claim
import GoSem.ClaimJoined
import GoSem.ClaimMapViews
import Derived.JoinedTies
import Derived.KernelRfl
namespace Go.Proofs.Ytdamdlihicinlaa
/- THE CELL 'sum', in the pinned program and in every row, IS THE sha256 OF THE DUMP (.gsa) THAT YtdamdlihicinlaaProg.lean LOADS. Nothing in Lean hashes anything: it is a label: what it is worth is what the hold of that sum in a sandbox is worth. -/
noncomputable def Try.pinned : Pinned := { name := "ytdamdlihicinlaa", sum := "1bff0b373afd892080c62a31ed15912ebcb9322abdbf5b8475cd1424a7e7eba3", checked := Try.checked }
namespace Rows
def none {H : Type} : Left H := { results := [], args := [] }

/-- 'laws.FnExactGradesOf': WHATEVER THE INPUT: true; the input reads as it did. -/
def fnExactGradesOfSpec : ChangeSpec := { name := "fnExactGradesOf", fn := fun _ => fun
  | [d1, d2] => { results := [.lit (.bool true)], args := [d1, d2] }
  | _ => none }
def fnExactGradesOfRow : OpenClaim := { program := "ytdamdlihicinlaa", sum := "1bff0b373afd892080c62a31ed15912ebcb9322abdbf5b8475cd1424a7e7eba3", func := "loop.example/g01124/laws.FnExactGradesOf", spec := "fnExactGradesOf", unfollowed := true, recurses := true, apart := false }
def FnExactGradesOfSaid : Prop := fnExactGradesOfRow.holds Try.pinned (OpenSpec.ofChange fnExactGradesOfSpec)

/-- ITS FALSE NEIGHBOUR: 'it returns false'. Refute it at one input. -/
def fnExactGradesOfWrong : ChangeSpec := { name := "fnExactGradesOf", fn := fun _ => fun
  | [d1, d2] => { results := [.lit (.bool false)], args := [d1, d2] }
  | _ => none }
def FnExactGradesOfWrongFalsely : Prop := fnExactGradesOfRow.holds Try.pinned (OpenSpec.ofChange fnExactGradesOfWrong)

/-- 'laws.FnExactIsEven': WHATEVER THE INPUT: true; the input reads as it did. -/
def fnExactIsEvenSpec : ChangeSpec := { name := "fnExactIsEven", fn := fun _ => fun
  | [d1, d2] => { results := [.lit (.bool true)], args := [d1, d2] }
  | _ => none }
def fnExactIsEvenRow : OpenClaim := { program := "ytdamdlihicinlaa", sum := "1bff0b373afd892080c62a31ed15912ebcb9322abdbf5b8475cd1424a7e7eba3", func := "loop.example/g01124/laws.FnExactIsEven", spec := "fnExactIsEven", unfollowed := true, recurses := true, apart := false }
def FnExactIsEvenSaid : Prop := fnExactIsEvenRow.holds Try.pinned (OpenSpec.ofChange fnExactIsEvenSpec)

/-- ITS FALSE NEIGHBOUR: 'it returns false'. Refute it at one input. -/
def fnExactIsEvenWrong : ChangeSpec := { name := "fnExactIsEven", fn := fun _ => fun
  | [d1, d2] => { results := [.lit (.bool false)], args := [d1, d2] }
  | _ => none }
def FnExactIsEvenWrongFalsely : Prop := fnExactIsEvenRow.holds Try.pinned (OpenSpec.ofChange fnExactIsEvenWrong)

/-- 'laws.FnExactGeometricProduct': WHATEVER THE INPUT: true; the input reads as it did. -/
def fnExactGeometricProductSpec : ChangeSpec := { name := "fnExactGeometricProduct", fn := fun _ => fun
  | [d1, d2, d3] => { results := [.lit (.bool true)], args := [d1, d2, d3] }
  | _ => none }
def fnExactGeometricProductRow : OpenClaim := { program := "ytdamdlihicinlaa", sum := "1bff0b373afd892080c62a31ed15912ebcb9322abdbf5b8475cd1424a7e7eba3", func := "loop.example/g01124/laws.FnExactGeometricProduct", spec := "fnExactGeometricProduct", unfollowed := true, recurses := true, apart := false }
def FnExactGeometricProductSaid : Prop := fnExactGeometricProductRow.holds Try.pinned (OpenSpec.ofChange fnExactGeometricProductSpec)

/-- ITS FALSE NEIGHBOUR: 'it returns false'. Refute it at one input. -/
def fnExactGeometricProductWrong : ChangeSpec := { name := "fnExactGeometricProduct", fn := fun _ => fun
  | [d1, d2, d3] => { results := [.lit (.bool false)], args := [d1, d2, d3] }
  | _ => none }
def FnExactGeometricProductWrongFalsely : Prop := fnExactGeometricProductRow.holds Try.pinned (OpenSpec.ofChange fnExactGeometricProductWrong)

/-- 'laws.FnExactBracketOf': WHATEVER THE INPUT: true; the input reads as it did. -/
def fnExactBracketOfSpec : ChangeSpec := { name := "fnExactBracketOf", fn := fun _ => fun
  | [d1, d2, d3] => { results := [.lit (.bool true)], args := [d1, d2, d3] }
  | _ => none }
def fnExactBracketOfRow : OpenClaim := { program := "ytdamdlihicinlaa", sum := "1bff0b373afd892080c62a31ed15912ebcb9322abdbf5b8475cd1424a7e7eba3", func := "loop.example/g01124/laws.FnExactBracketOf", spec := "fnExactBracketOf", unfollowed := true, recurses := true, apart := false }
def FnExactBracketOfSaid : Prop := fnExactBracketOfRow.holds Try.pinned (OpenSpec.ofChange fnExactBracketOfSpec)

/-- ITS FALSE NEIGHBOUR: 'it returns false'. Refute it at one input. -/
def fnExactBracketOfWrong : ChangeSpec := { name := "fnExactBracketOf", fn := fun _ => fun
  | [d1, d2, d3] => { results := [.lit (.bool false)], args := [d1, d2, d3] }
  | _ => none }
def FnExactBracketOfWrongFalsely : Prop := fnExactBracketOfRow.holds Try.pinned (OpenSpec.ofChange fnExactBracketOfWrong)

/-- 'laws.FnExactPowerOf': WHATEVER THE INPUT: true; the input reads as it did. -/
def fnExactPowerOfSpec : ChangeSpec := { name := "fnExactPowerOf", fn := fun _ => fun
  | [d1, d2, d3] => { results := [.lit (.bool true)], args := [d1, d2, d3] }
  | _ => none }
def fnExactPowerOfRow : OpenClaim := { program := "ytdamdlihicinlaa", sum := "1bff0b373afd892080c62a31ed15912ebcb9322abdbf5b8475cd1424a7e7eba3", func := "loop.example/g01124/laws.FnExactPowerOf", spec := "fnExactPowerOf", apart := false }
def FnExactPowerOfSaid : Prop := fnExactPowerOfRow.holds Try.pinned (OpenSpec.ofChange fnExactPowerOfSpec)

/-- ITS FALSE NEIGHBOUR: 'it returns false'. Refute it at one input. -/
def fnExactPowerOfWrong : ChangeSpec := { name := "fnExactPowerOf", fn := fun _ => fun
  | [d1, d2, d3] => { results := [.lit (.bool false)], args := [d1, d2, d3] }
  | _ => none }
def FnExactPowerOfWrongFalsely : Prop := fnExactPowerOfRow.holds Try.pinned (OpenSpec.ofChange fnExactPowerOfWrong)

/-- 'laws.FnExactInverseOf': WHATEVER THE INPUT: true; the input reads as it did. -/
def fnExactInverseOfSpec : ChangeSpec := { name := "fnExactInverseOf", fn := fun _ => fun
  | [d1, d2] => { results := [.lit (.bool true)], args := [d1, d2] }
  | _ => none }
def fnExactInverseOfRow : OpenClaim := { program := "ytdamdlihicinlaa", sum := "1bff0b373afd892080c62a31ed15912ebcb9322abdbf5b8475cd1424a7e7eba3", func := "loop.example/g01124/laws.FnExactInverseOf", spec := "fnExactInverseOf", inPlace := ["slices.overlaps[[]int64]", "slices.overlaps[int]"], unfollowed := true, recurses := true, apart := false }
def FnExactInverseOfSaid : Prop := fnExactInverseOfRow.holds Try.pinned (OpenSpec.ofChange fnExactInverseOfSpec)

/-- ITS FALSE NEIGHBOUR: 'it returns false'. Refute it at one input. -/
def fnExactInverseOfWrong : ChangeSpec := { name := "fnExactInverseOf", fn := fun _ => fun
  | [d1, d2] => { results := [.lit (.bool false)], args := [d1, d2] }
  | _ => none }
def FnExactInverseOfWrongFalsely : Prop := fnExactInverseOfRow.holds Try.pinned (OpenSpec.ofChange fnExactInverseOfWrong)

/-- 'laws.FnGeometricProducts': WHATEVER THE INPUT: true; the input reads as it did. -/
def fnGeometricProductsSpec : ChangeSpec := { name := "fnGeometricProducts", fn := fun _ => fun
  | [d] => { results := [.lit (.bool true)], args := [d] }
  | _ => none }
def fnGeometricProductsRow : OpenClaim := { program := "ytdamdlihicinlaa", sum := "1bff0b373afd892080c62a31ed15912ebcb9322abdbf5b8475cd1424a7e7eba3", func := "loop.example/g01124/laws.FnGeometricProducts", spec := "fnGeometricProducts", unfollowed := true, recurses := true, apart := false }
def FnGeometricProductsSaid : Prop := fnGeometricProductsRow.holds Try.pinned (OpenSpec.ofChange fnGeometricProductsSpec)

/-- ITS FALSE NEIGHBOUR: 'it returns false'. Refute it at one input. -/
def fnGeometricProductsWrong : ChangeSpec := { name := "fnGeometricProducts", fn := fun _ => fun
  | [d] => { results := [.lit (.bool false)], args := [d] }
  | _ => none }
def FnGeometricProductsWrongFalsely : Prop := fnGeometricProductsRow.holds Try.pinned (OpenSpec.ofChange fnGeometricProductsWrong)

/-- 'laws.FnVectorSquares': WHATEVER THE INPUT: true; the input reads as it did. -/
def fnVectorSquaresSpec : ChangeSpec := { name := "fnVectorSquares", fn := fun _ => fun
  | [d] => { results := [.lit (.bool true)], args := [d] }
  | _ => none }
def fnVectorSquaresRow : OpenClaim := { program := "ytdamdlihicinlaa", sum := "1bff0b373afd892080c62a31ed15912ebcb9322abdbf5b8475cd1424a7e7eba3", func := "loop.example/g01124/laws.FnVectorSquares", spec := "fnVectorSquares", unfollowed := true, recurses := true, apart := false }
def FnVectorSquaresSaid : Prop := fnVectorSquaresRow.holds Try.pinned (OpenSpec.ofChange fnVectorSquaresSpec)

/-- ITS FALSE NEIGHBOUR: 'it returns false'. Refute it at one input. -/
def fnVectorSquaresWrong : ChangeSpec := { name := "fnVectorSquares", fn := fun _ => fun
  | [d] => { results := [.lit (.bool false)], args := [d] }
  | _ => none }
def FnVectorSquaresWrongFalsely : Prop := fnVectorSquaresRow.holds Try.pinned (OpenSpec.ofChange fnVectorSquaresWrong)

/-- 'laws.FnReversals': WHATEVER THE INPUT: true; the input reads as it did. -/
def fnReversalsSpec : ChangeSpec := { name := "fnReversals", fn := fun _ => fun
  | [d] => { results := [.lit (.bool true)], args := [d] }
  | _ => none }
def fnReversalsRow : OpenClaim := { program := "ytdamdlihicinlaa", sum := "1bff0b373afd892080c62a31ed15912ebcb9322abdbf5b8475cd1424a7e7eba3", func := "loop.example/g01124/laws.FnReversals", spec := "fnReversals", unfollowed := true, recurses := true, apart := false }
def FnReversalsSaid : Prop := fnReversalsRow.holds Try.pinned (OpenSpec.ofChange fnReversalsSpec)

/-- ITS FALSE NEIGHBOUR: 'it returns false'. Refute it at one input. -/
def fnReversalsWrong : ChangeSpec := { name := "fnReversals", fn := fun _ => fun
  | [d] => { results := [.lit (.bool false)], args := [d] }
  | _ => none }
def FnReversalsWrongFalsely : Prop := fnReversalsRow.holds Try.pinned (OpenSpec.ofChange fnReversalsWrong)

/-- 'laws.FnPairs': WHATEVER THE INPUT: true; the input reads as it did. -/
def fnPairsSpec : ChangeSpec := { name := "fnPairs", fn := fun _ => fun
  | [d] => { results := [.lit (.bool true)], args := [d] }
  | _ => none }
def fnPairsRow : OpenClaim := { program := "ytdamdlihicinlaa", sum := "1bff0b373afd892080c62a31ed15912ebcb9322abdbf5b8475cd1424a7e7eba3", func := "loop.example/g01124/laws.FnPairs", spec := "fnPairs", apart := false }
def FnPairsSaid : Prop := fnPairsRow.holds Try.pinned (OpenSpec.ofChange fnPairsSpec)

/-- ITS FALSE NEIGHBOUR: 'it returns false'. Refute it at one input. -/
def fnPairsWrong : ChangeSpec := { name := "fnPairs", fn := fun _ => fun
  | [d] => { results := [.lit (.bool false)], args := [d] }
  | _ => none }
def FnPairsWrongFalsely : Prop := fnPairsRow.holds Try.pinned (OpenSpec.ofChange fnPairsWrong)

/-- 'laws.FnExactInverseMatrix': WHATEVER THE INPUT: true; the input reads as it did. -/
def fnExactInverseMatrixSpec : ChangeSpec := { name := "fnExactInverseMatrix", fn := fun _ => fun
  | [d1, d2] => { results := [.lit (.bool true)], args := [d1, d2] }
  | _ => none }
def fnExactInverseMatrixRow : OpenClaim := { program := "ytdamdlihicinlaa", sum := "1bff0b373afd892080c62a31ed15912ebcb9322abdbf5b8475cd1424a7e7eba3", func := "loop.example/g01124/laws.FnExactInverseMatrix", spec := "fnExactInverseMatrix", inPlace := ["slices.overlaps[[]int64]", "slices.overlaps[int]"], unfollowed := true, recurses := true, apart := false }
def FnExactInverseMatrixSaid : Prop := fnExactInverseMatrixRow.holds Try.pinned (OpenSpec.ofChange fnExactInverseMatrixSpec)

/-- ITS FALSE NEIGHBOUR: 'it returns false'. Refute it at one input. -/
def fnExactInverseMatrixWrong : ChangeSpec := { name := "fnExactInverseMatrix", fn := fun _ => fun
  | [d1, d2] => { results := [.lit (.bool false)], args := [d1, d2] }
  | _ => none }
def FnExactInverseMatrixWrongFalsely : Prop := fnExactInverseMatrixRow.holds Try.pinned (OpenSpec.ofChange fnExactInverseMatrixWrong)

/-- 'laws.FnExactVectorsOfNorm': WHATEVER THE INPUT: true; the input reads as it did. -/
def fnExactVectorsOfNormSpec : ChangeSpec := { name := "fnExactVectorsOfNorm", fn := fun _ => fun
  | [d1, d2] => { results := [.lit (.bool true)], args := [d1, d2] }
  | _ => none }
def fnExactVectorsOfNormRow : OpenClaim := { program := "ytdamdlihicinlaa", sum := "1bff0b373afd892080c62a31ed15912ebcb9322abdbf5b8475cd1424a7e7eba3", func := "loop.example/g01124/laws.FnExactVectorsOfNorm", spec := "fnExactVectorsOfNorm", unfollowed := true, recurses := true, apart := false }
def FnExactVectorsOfNormSaid : Prop := fnExactVectorsOfNormRow.holds Try.pinned (OpenSpec.ofChange fnExactVectorsOfNormSpec)

/-- ITS FALSE NEIGHBOUR: 'it returns false'. Refute it at one input. -/
def fnExactVectorsOfNormWrong : ChangeSpec := { name := "fnExactVectorsOfNorm", fn := fun _ => fun
  | [d1, d2] => { results := [.lit (.bool false)], args := [d1, d2] }
  | _ => none }
def FnExactVectorsOfNormWrongFalsely : Prop := fnExactVectorsOfNormRow.holds Try.pinned (OpenSpec.ofChange fnExactVectorsOfNormWrong)

/- THE SECOND FORM. 'bulk': how many values and letters a reading holds, each counted each time it is reached (what is shared counts as often as it is met; a slice's spare places count too). A statement '..UptoSaid' is the law's where the arguments, and the package variables that the reading takes, are together of bulk at most 1048576: NARROWER than '..Said'. Prove '..Said' where nothing that the law and all that it calls make is longer than what came in: it says more and counts as full. Else prove '..UptoSaid'. A law counts once. -/
mutual
def uptoBulk {H : Type} : DataW H → Nat
  | .lit (.string bytes) => bytes.length + 1
  | .lit _ => 1
  | .nil => 1
  | .ptr d => uptoBulk d + 1
  | .slice elems spare => uptoBulkAll elems + uptoBulkAll spare + 1
  | .agg parts => uptoBulkAll parts + 1
  | .iface _ d => uptoBulk d + 1
  | .map entries => uptoBulkEntries entries + 1
  | .held _ => 1
def uptoBulkAll {H : Type} : List (DataW H) → Nat
  | [] => 0
  | d :: r => uptoBulk d + uptoBulkAll r
def uptoBulkEntries {H : Type} : List (Lit × DataW H) → Nat
  | [] => 0
  | x :: r => uptoBulkEntry x + uptoBulkEntries r
def uptoBulkEntry {H : Type} : Lit × DataW H → Nat
  | (.string bytes, d) => bytes.length + uptoBulk d + 1
  | (_, d) => uptoBulk d + 1
 end
def uptoSmall : (H : Type) → List (DataW H) → Bool := fun _ ds => decide (uptoBulkAll ds ≤ 1048576)
def OpenSpec.upto (s : _root_.Go.ChangeSpec) : _root_.Go.OpenSpec := { _root_.Go.OpenSpec.ofChange s with cond := some uptoSmall }

/-- 'laws.FnExactGradesOf', WHERE WHAT IT READS IS OF BULK AT MOST 1048576: true; the input reads as it did. -/
def fnExactGradesOfUptoRow : OpenClaim := { program := "ytdamdlihicinlaa", sum := "1bff0b373afd892080c62a31ed15912ebcb9322abdbf5b8475cd1424a7e7eba3", func := "loop.example/g01124/laws.FnExactGradesOf", spec := "fnExactGradesOf", unfollowed := true, recurses := true, apart := false, narrowed := true }
def FnExactGradesOfUptoSaid : Prop := fnExactGradesOfUptoRow.holds Try.pinned (OpenSpec.upto fnExactGradesOfSpec)

/-- 'laws.FnExactIsEven', WHERE WHAT IT READS IS OF BULK AT MOST 1048576: true; the input reads as it did. -/
def fnExactIsEvenUptoRow : OpenClaim := { program := "ytdamdlihicinlaa", sum := "1bff0b373afd892080c62a31ed15912ebcb9322abdbf5b8475cd1424a7e7eba3", func := "loop.example/g01124/laws.FnExactIsEven", spec := "fnExactIsEven", unfollowed := true, recurses := true, apart := false, narrowed := true }
def FnExactIsEvenUptoSaid : Prop := fnExactIsEvenUptoRow.holds Try.pinned (OpenSpec.upto fnExactIsEvenSpec)

/-- 'laws.FnExactGeometricProduct', WHERE WHAT IT READS IS OF BULK AT MOST 1048576: true; the input reads as it did. -/
def fnExactGeometricProductUptoRow : OpenClaim := { program := "ytdamdlihicinlaa", sum := "1bff0b373afd892080c62a31ed15912ebcb9322abdbf5b8475cd1424a7e7eba3", func := "loop.example/g01124/laws.FnExactGeometricProduct", spec := "fnExactGeometricProduct", unfollowed := true, recurses := true, apart := false, narrowed := true }
def FnExactGeometricProductUptoSaid : Prop := fnExactGeometricProductUptoRow.holds Try.pinned (OpenSpec.upto fnExactGeometricProductSpec)

/-- 'laws.FnExactBracketOf', WHERE WHAT IT READS IS OF BULK AT MOST 1048576: true; the input reads as it did. -/
def fnExactBracketOfUptoRow : OpenClaim := { program := "ytdamdlihicinlaa", sum := "1bff0b373afd892080c62a31ed15912ebcb9322abdbf5b8475cd1424a7e7eba3", func := "loop.example/g01124/laws.FnExactBracketOf", spec := "fnExactBracketOf", unfollowed := true, recurses := true, apart := false, narrowed := true }
def FnExactBracketOfUptoSaid : Prop := fnExactBracketOfUptoRow.holds Try.pinned (OpenSpec.upto fnExactBracketOfSpec)

/-- 'laws.FnExactPowerOf', WHERE WHAT IT READS IS OF BULK AT MOST 1048576: true; the input reads as it did. -/
def fnExactPowerOfUptoRow : OpenClaim := { program := "ytdamdlihicinlaa", sum := "1bff0b373afd892080c62a31ed15912ebcb9322abdbf5b8475cd1424a7e7eba3", func := "loop.example/g01124/laws.FnExactPowerOf", spec := "fnExactPowerOf", apart := false, narrowed := true }
def FnExactPowerOfUptoSaid : Prop := fnExactPowerOfUptoRow.holds Try.pinned (OpenSpec.upto fnExactPowerOfSpec)

/-- 'laws.FnExactInverseOf', WHERE WHAT IT READS IS OF BULK AT MOST 1048576: true; the input reads as it did. -/
def fnExactInverseOfUptoRow : OpenClaim := { program := "ytdamdlihicinlaa", sum := "1bff0b373afd892080c62a31ed15912ebcb9322abdbf5b8475cd1424a7e7eba3", func := "loop.example/g01124/laws.FnExactInverseOf", spec := "fnExactInverseOf", inPlace := ["slices.overlaps[[]int64]", "slices.overlaps[int]"], unfollowed := true, recurses := true, apart := false, narrowed := true }
def FnExactInverseOfUptoSaid : Prop := fnExactInverseOfUptoRow.holds Try.pinned (OpenSpec.upto fnExactInverseOfSpec)

/-- 'laws.FnGeometricProducts', WHERE WHAT IT READS IS OF BULK AT MOST 1048576: true; the input reads as it did. -/
def fnGeometricProductsUptoRow : OpenClaim := { program := "ytdamdlihicinlaa", sum := "1bff0b373afd892080c62a31ed15912ebcb9322abdbf5b8475cd1424a7e7eba3", func := "loop.example/g01124/laws.FnGeometricProducts", spec := "fnGeometricProducts", unfollowed := true, recurses := true, apart := false, narrowed := true }
def FnGeometricProductsUptoSaid : Prop := fnGeometricProductsUptoRow.holds Try.pinned (OpenSpec.upto fnGeometricProductsSpec)

/-- 'laws.FnVectorSquares', WHERE WHAT IT READS IS OF BULK AT MOST 1048576: true; the input reads as it did. -/
def fnVectorSquaresUptoRow : OpenClaim := { program := "ytdamdlihicinlaa", sum := "1bff0b373afd892080c62a31ed15912ebcb9322abdbf5b8475cd1424a7e7eba3", func := "loop.example/g01124/laws.FnVectorSquares", spec := "fnVectorSquares", unfollowed := true, recurses := true, apart := false, narrowed := true }
def FnVectorSquaresUptoSaid : Prop := fnVectorSquaresUptoRow.holds Try.pinned (OpenSpec.upto fnVectorSquaresSpec)

/-- 'laws.FnReversals', WHERE WHAT IT READS IS OF BULK AT MOST 1048576: true; the input reads as it did. -/
def fnReversalsUptoRow : OpenClaim := { program := "ytdamdlihicinlaa", sum := "1bff0b373afd892080c62a31ed15912ebcb9322abdbf5b8475cd1424a7e7eba3", func := "loop.example/g01124/laws.FnReversals", spec := "fnReversals", unfollowed := true, recurses := true, apart := false, narrowed := true }
def FnReversalsUptoSaid : Prop := fnReversalsUptoRow.holds Try.pinned (OpenSpec.upto fnReversalsSpec)

/-- 'laws.FnPairs', WHERE WHAT IT READS IS OF BULK AT MOST 1048576: true; the input reads as it did. -/
def fnPairsUptoRow : OpenClaim := { program := "ytdamdlihicinlaa", sum := "1bff0b373afd892080c62a31ed15912ebcb9322abdbf5b8475cd1424a7e7eba3", func := "loop.example/g01124/laws.FnPairs", spec := "fnPairs", apart := false, narrowed := true }
def FnPairsUptoSaid : Prop := fnPairsUptoRow.holds Try.pinned (OpenSpec.upto fnPairsSpec)

/-- 'laws.FnExactInverseMatrix', WHERE WHAT IT READS IS OF BULK AT MOST 1048576: true; the input reads as it did. -/
def fnExactInverseMatrixUptoRow : OpenClaim := { program := "ytdamdlihicinlaa", sum := "1bff0b373afd892080c62a31ed15912ebcb9322abdbf5b8475cd1424a7e7eba3", func := "loop.example/g01124/laws.FnExactInverseMatrix", spec := "fnExactInverseMatrix", inPlace := ["slices.overlaps[[]int64]", "slices.overlaps[int]"], unfollowed := true, recurses := true, apart := false, narrowed := true }
def FnExactInverseMatrixUptoSaid : Prop := fnExactInverseMatrixUptoRow.holds Try.pinned (OpenSpec.upto fnExactInverseMatrixSpec)

/-- 'laws.FnExactVectorsOfNorm', WHERE WHAT IT READS IS OF BULK AT MOST 1048576: true; the input reads as it did. -/
def fnExactVectorsOfNormUptoRow : OpenClaim := { program := "ytdamdlihicinlaa", sum := "1bff0b373afd892080c62a31ed15912ebcb9322abdbf5b8475cd1424a7e7eba3", func := "loop.example/g01124/laws.FnExactVectorsOfNorm", spec := "fnExactVectorsOfNorm", unfollowed := true, recurses := true, apart := false, narrowed := true }
def FnExactVectorsOfNormUptoSaid : Prop := fnExactVectorsOfNormUptoRow.holds Try.pinned (OpenSpec.upto fnExactVectorsOfNormSpec)

end Rows
end Go.Proofs.Ytdamdlihicinlaa
