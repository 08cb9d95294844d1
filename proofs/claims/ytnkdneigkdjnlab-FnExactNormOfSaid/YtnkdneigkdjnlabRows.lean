/-
  No cell of these rows narrows 'for every input' (looked for: loops, veiled, ifaces, maps, wideKeys, modest, calm, conditions, laid).
  DERIVED. THE GIVEN ROWS OF THIS SEAT. 10 by the template 'for every input the law returns true; each argument reads behind the call as it read before'; 0 by the template 'total and deterministic' (their statements: YtnkdneigkdjnlabTotals.lean).
  GIVEN WITH THE SEED: the statements are not yours to turn. If you find one false, say at which input.
  Laid BY PROGRAM, IN A SANDBOX (cutbox-rows.mjs): the forced cells as the released guide's own fill.sh prints them over the translation 2d0a3b652e0411f9… (all of the seat's roots in one cut). By AI agents, Wed Nov 11 2026. No macro, syntax, notation, axiom, sorry.
-/
import Derived.Test.YtnkdneigkdjnlabChecked
import GoSem.Claim
import GoSem.ClaimJoined
import GoSem.ClaimMapViews
import Derived.JoinedTies
import Derived.KernelRfl
namespace Go.Proofs.Ytnkdneigkdjnlab
/- THE CELL 'sum', in the pinned program and in every row, IS THE sha256 OF THE DUMP (.gsa) THAT YtnkdneigkdjnlabProg.lean LOADS. Nothing in Lean hashes anything: it is a label: what it is worth is what the hold of that sum in a sandbox is worth. -/
noncomputable def Try.pinned : Pinned := { name := "ytnkdneigkdjnlab", sum := "2d0a3b652e0411f92a7bbc07033d4fd820a6831fd9797b5a97074d0fab8bd6f3", checked := Try.checked }
namespace Rows
def none {H : Type} : Left H := { results := [], args := [] }

/-- 'laws.FnExactIsSpace': WHATEVER THE INPUT: true; the input reads as it did. -/
def fnExactIsSpaceSpec : ChangeSpec := { name := "fnExactIsSpace", fn := fun _ => fun
  | [d] => { results := [.lit (.bool true)], args := [d] }
  | _ => none }
def fnExactIsSpaceRow : OpenClaim := { program := "ytnkdneigkdjnlab", sum := "2d0a3b652e0411f92a7bbc07033d4fd820a6831fd9797b5a97074d0fab8bd6f3", func := "loop.example/g01124/laws.FnExactIsSpace", spec := "fnExactIsSpace", apart := false }
def FnExactIsSpaceSaid : Prop := fnExactIsSpaceRow.holds Try.pinned (OpenSpec.ofChange fnExactIsSpaceSpec)

/-- ITS FALSE NEIGHBOUR: 'it returns false'. Refute it at one input. -/
def fnExactIsSpaceWrong : ChangeSpec := { name := "fnExactIsSpace", fn := fun _ => fun
  | [d] => { results := [.lit (.bool false)], args := [d] }
  | _ => none }
def FnExactIsSpaceWrongFalsely : Prop := fnExactIsSpaceRow.holds Try.pinned (OpenSpec.ofChange fnExactIsSpaceWrong)

/-- 'laws.FnExactPairOf': WHATEVER THE INPUT: true; the input reads as it did. -/
def fnExactPairOfSpec : ChangeSpec := { name := "fnExactPairOf", fn := fun _ => fun
  | [d1, d2, d3] => { results := [.lit (.bool true)], args := [d1, d2, d3] }
  | _ => none }
def fnExactPairOfRow : OpenClaim := { program := "ytnkdneigkdjnlab", sum := "2d0a3b652e0411f92a7bbc07033d4fd820a6831fd9797b5a97074d0fab8bd6f3", func := "loop.example/g01124/laws.FnExactPairOf", spec := "fnExactPairOf", apart := false }
def FnExactPairOfSaid : Prop := fnExactPairOfRow.holds Try.pinned (OpenSpec.ofChange fnExactPairOfSpec)

/-- ITS FALSE NEIGHBOUR: 'it returns false'. Refute it at one input. -/
def fnExactPairOfWrong : ChangeSpec := { name := "fnExactPairOf", fn := fun _ => fun
  | [d1, d2, d3] => { results := [.lit (.bool false)], args := [d1, d2, d3] }
  | _ => none }
def FnExactPairOfWrongFalsely : Prop := fnExactPairOfRow.holds Try.pinned (OpenSpec.ofChange fnExactPairOfWrong)

/-- 'laws.FnExactNormOf': WHATEVER THE INPUT: true; the input reads as it did. -/
def fnExactNormOfSpec : ChangeSpec := { name := "fnExactNormOf", fn := fun _ => fun
  | [d1, d2] => { results := [.lit (.bool true)], args := [d1, d2] }
  | _ => none }
def fnExactNormOfRow : OpenClaim := { program := "ytnkdneigkdjnlab", sum := "2d0a3b652e0411f92a7bbc07033d4fd820a6831fd9797b5a97074d0fab8bd6f3", func := "loop.example/g01124/laws.FnExactNormOf", spec := "fnExactNormOf", apart := false }
def FnExactNormOfSaid : Prop := fnExactNormOfRow.holds Try.pinned (OpenSpec.ofChange fnExactNormOfSpec)

/-- ITS FALSE NEIGHBOUR: 'it returns false'. Refute it at one input. -/
def fnExactNormOfWrong : ChangeSpec := { name := "fnExactNormOf", fn := fun _ => fun
  | [d1, d2] => { results := [.lit (.bool false)], args := [d1, d2] }
  | _ => none }
def FnExactNormOfWrongFalsely : Prop := fnExactNormOfRow.holds Try.pinned (OpenSpec.ofChange fnExactNormOfWrong)

/-- 'laws.FnExactGramOf': WHATEVER THE INPUT: true; the input reads as it did. -/
def fnExactGramOfSpec : ChangeSpec := { name := "fnExactGramOf", fn := fun _ => fun
  | [d1, d2] => { results := [.lit (.bool true)], args := [d1, d2] }
  | _ => none }
def fnExactGramOfRow : OpenClaim := { program := "ytnkdneigkdjnlab", sum := "2d0a3b652e0411f92a7bbc07033d4fd820a6831fd9797b5a97074d0fab8bd6f3", func := "loop.example/g01124/laws.FnExactGramOf", spec := "fnExactGramOf", apart := false }
def FnExactGramOfSaid : Prop := fnExactGramOfRow.holds Try.pinned (OpenSpec.ofChange fnExactGramOfSpec)

/-- ITS FALSE NEIGHBOUR: 'it returns false'. Refute it at one input. -/
def fnExactGramOfWrong : ChangeSpec := { name := "fnExactGramOf", fn := fun _ => fun
  | [d1, d2] => { results := [.lit (.bool false)], args := [d1, d2] }
  | _ => none }
def FnExactGramOfWrongFalsely : Prop := fnExactGramOfRow.holds Try.pinned (OpenSpec.ofChange fnExactGramOfWrong)

/-- 'laws.FnExactDiscriminantOf': WHATEVER THE INPUT: true; the input reads as it did. -/
def fnExactDiscriminantOfSpec : ChangeSpec := { name := "fnExactDiscriminantOf", fn := fun _ => fun
  | [d] => { results := [.lit (.bool true)], args := [d] }
  | _ => none }
def fnExactDiscriminantOfRow : OpenClaim := { program := "ytnkdneigkdjnlab", sum := "2d0a3b652e0411f92a7bbc07033d4fd820a6831fd9797b5a97074d0fab8bd6f3", func := "loop.example/g01124/laws.FnExactDiscriminantOf", spec := "fnExactDiscriminantOf", apart := false }
def FnExactDiscriminantOfSaid : Prop := fnExactDiscriminantOfRow.holds Try.pinned (OpenSpec.ofChange fnExactDiscriminantOfSpec)

/-- ITS FALSE NEIGHBOUR: 'it returns false'. Refute it at one input. -/
def fnExactDiscriminantOfWrong : ChangeSpec := { name := "fnExactDiscriminantOf", fn := fun _ => fun
  | [d] => { results := [.lit (.bool false)], args := [d] }
  | _ => none }
def FnExactDiscriminantOfWrongFalsely : Prop := fnExactDiscriminantOfRow.holds Try.pinned (OpenSpec.ofChange fnExactDiscriminantOfWrong)

/-- 'laws.FnExactIsRegular': WHATEVER THE INPUT: true; the input reads as it did. -/
def fnExactIsRegularSpec : ChangeSpec := { name := "fnExactIsRegular", fn := fun _ => fun
  | [d] => { results := [.lit (.bool true)], args := [d] }
  | _ => none }
def fnExactIsRegularRow : OpenClaim := { program := "ytnkdneigkdjnlab", sum := "2d0a3b652e0411f92a7bbc07033d4fd820a6831fd9797b5a97074d0fab8bd6f3", func := "loop.example/g01124/laws.FnExactIsRegular", spec := "fnExactIsRegular", apart := false }
def FnExactIsRegularSaid : Prop := fnExactIsRegularRow.holds Try.pinned (OpenSpec.ofChange fnExactIsRegularSpec)

/-- ITS FALSE NEIGHBOUR: 'it returns false'. Refute it at one input. -/
def fnExactIsRegularWrong : ChangeSpec := { name := "fnExactIsRegular", fn := fun _ => fun
  | [d] => { results := [.lit (.bool false)], args := [d] }
  | _ => none }
def FnExactIsRegularWrongFalsely : Prop := fnExactIsRegularRow.holds Try.pinned (OpenSpec.ofChange fnExactIsRegularWrong)

/-- 'laws.FnExactWittIndex': WHATEVER THE INPUT: true; the input reads as it did. -/
def fnExactWittIndexSpec : ChangeSpec := { name := "fnExactWittIndex", fn := fun _ => fun
  | [d] => { results := [.lit (.bool true)], args := [d] }
  | _ => none }
def fnExactWittIndexRow : OpenClaim := { program := "ytnkdneigkdjnlab", sum := "2d0a3b652e0411f92a7bbc07033d4fd820a6831fd9797b5a97074d0fab8bd6f3", func := "loop.example/g01124/laws.FnExactWittIndex", spec := "fnExactWittIndex", recurses := true, apart := false }
def FnExactWittIndexSaid : Prop := fnExactWittIndexRow.holds Try.pinned (OpenSpec.ofChange fnExactWittIndexSpec)

/-- ITS FALSE NEIGHBOUR: 'it returns false'. Refute it at one input. -/
def fnExactWittIndexWrong : ChangeSpec := { name := "fnExactWittIndex", fn := fun _ => fun
  | [d] => { results := [.lit (.bool false)], args := [d] }
  | _ => none }
def FnExactWittIndexWrongFalsely : Prop := fnExactWittIndexRow.holds Try.pinned (OpenSpec.ofChange fnExactWittIndexWrong)

/-- 'laws.FnExactCountVectors': WHATEVER THE INPUT: true; the input reads as it did. -/
def fnExactCountVectorsSpec : ChangeSpec := { name := "fnExactCountVectors", fn := fun _ => fun
  | [d1, d2] => { results := [.lit (.bool true)], args := [d1, d2] }
  | _ => none }
def fnExactCountVectorsRow : OpenClaim := { program := "ytnkdneigkdjnlab", sum := "2d0a3b652e0411f92a7bbc07033d4fd820a6831fd9797b5a97074d0fab8bd6f3", func := "loop.example/g01124/laws.FnExactCountVectors", spec := "fnExactCountVectors", apart := false }
def FnExactCountVectorsSaid : Prop := fnExactCountVectorsRow.holds Try.pinned (OpenSpec.ofChange fnExactCountVectorsSpec)

/-- ITS FALSE NEIGHBOUR: 'it returns false'. Refute it at one input. -/
def fnExactCountVectorsWrong : ChangeSpec := { name := "fnExactCountVectors", fn := fun _ => fun
  | [d1, d2] => { results := [.lit (.bool false)], args := [d1, d2] }
  | _ => none }
def FnExactCountVectorsWrongFalsely : Prop := fnExactCountVectorsRow.holds Try.pinned (OpenSpec.ofChange fnExactCountVectorsWrong)

/-- 'laws.FnExactAreIsometric': WHATEVER THE INPUT: true; the input reads as it did. -/
def fnExactAreIsometricSpec : ChangeSpec := { name := "fnExactAreIsometric", fn := fun _ => fun
  | [d1, d2] => { results := [.lit (.bool true)], args := [d1, d2] }
  | _ => none }
def fnExactAreIsometricRow : OpenClaim := { program := "ytnkdneigkdjnlab", sum := "2d0a3b652e0411f92a7bbc07033d4fd820a6831fd9797b5a97074d0fab8bd6f3", func := "loop.example/g01124/laws.FnExactAreIsometric", spec := "fnExactAreIsometric", unfollowed := true, recurses := true, apart := false }
def FnExactAreIsometricSaid : Prop := fnExactAreIsometricRow.holds Try.pinned (OpenSpec.ofChange fnExactAreIsometricSpec)

/-- ITS FALSE NEIGHBOUR: 'it returns false'. Refute it at one input. -/
def fnExactAreIsometricWrong : ChangeSpec := { name := "fnExactAreIsometric", fn := fun _ => fun
  | [d1, d2] => { results := [.lit (.bool false)], args := [d1, d2] }
  | _ => none }
def FnExactAreIsometricWrongFalsely : Prop := fnExactAreIsometricRow.holds Try.pinned (OpenSpec.ofChange fnExactAreIsometricWrong)

/-- 'laws.FnPairs': WHATEVER THE INPUT: true; the input reads as it did. -/
def fnPairsSpec : ChangeSpec := { name := "fnPairs", fn := fun _ => fun
  | [d] => { results := [.lit (.bool true)], args := [d] }
  | _ => none }
def fnPairsRow : OpenClaim := { program := "ytnkdneigkdjnlab", sum := "2d0a3b652e0411f92a7bbc07033d4fd820a6831fd9797b5a97074d0fab8bd6f3", func := "loop.example/g01124/laws.FnPairs", spec := "fnPairs", apart := false }
def FnPairsSaid : Prop := fnPairsRow.holds Try.pinned (OpenSpec.ofChange fnPairsSpec)

/-- ITS FALSE NEIGHBOUR: 'it returns false'. Refute it at one input. -/
def fnPairsWrong : ChangeSpec := { name := "fnPairs", fn := fun _ => fun
  | [d] => { results := [.lit (.bool false)], args := [d] }
  | _ => none }
def FnPairsWrongFalsely : Prop := fnPairsRow.holds Try.pinned (OpenSpec.ofChange fnPairsWrong)

/- THE SECOND FORM. 'bulk': how many values and letters a reading holds, each counted each time it is reached (what is shared counts as often as it is met; a slice's spare places count too). A statement '..UptoSaid' is the law's where the arguments, and the package variables that the reading takes, are together of bulk at most 1048576: NARROWER than '..Said'. Prove '..Said' where nothing that the law and all that it calls make is longer than what came in: it says more and counts as full. Else prove '..UptoSaid'. A law counts once. -/
mutual
def uptoBulk {H : Type} : DataW H → Nat
  | .lit (.string bytes) => bytes.length + 1
  | .lit _ => 1
  | .nil => 1
  | .ptr d => uptoBulk d + 1
  | .slice elems spare => uptoBulkAll elems + uptoBulkAll spare + 1
  | .agg parts => uptoBulkAll parts + 1
  | .iface _ d => uptoBulk d + 1
  | .map entries => uptoBulkEntries entries + 1
  | .held _ => 1
def uptoBulkAll {H : Type} : List (DataW H) → Nat
  | [] => 0
  | d :: r => uptoBulk d + uptoBulkAll r
def uptoBulkEntries {H : Type} : List (Lit × DataW H) → Nat
  | [] => 0
  | x :: r => uptoBulkEntry x + uptoBulkEntries r
def uptoBulkEntry {H : Type} : Lit × DataW H → Nat
  | (.string bytes, d) => bytes.length + uptoBulk d + 1
  | (_, d) => uptoBulk d + 1
 end
def uptoSmall : (H : Type) → List (DataW H) → Bool := fun _ ds => decide (uptoBulkAll ds ≤ 1048576)
def OpenSpec.upto (s : _root_.Go.ChangeSpec) : _root_.Go.OpenSpec := { _root_.Go.OpenSpec.ofChange s with cond := some uptoSmall }

/-- 'laws.FnExactIsSpace', WHERE WHAT IT READS IS OF BULK AT MOST 1048576: true; the input reads as it did. -/
def fnExactIsSpaceUptoRow : OpenClaim := { program := "ytnkdneigkdjnlab", sum := "2d0a3b652e0411f92a7bbc07033d4fd820a6831fd9797b5a97074d0fab8bd6f3", func := "loop.example/g01124/laws.FnExactIsSpace", spec := "fnExactIsSpace", apart := false, narrowed := true }
def FnExactIsSpaceUptoSaid : Prop := fnExactIsSpaceUptoRow.holds Try.pinned (OpenSpec.upto fnExactIsSpaceSpec)

/-- 'laws.FnExactPairOf', WHERE WHAT IT READS IS OF BULK AT MOST 1048576: true; the input reads as it did. -/
def fnExactPairOfUptoRow : OpenClaim := { program := "ytnkdneigkdjnlab", sum := "2d0a3b652e0411f92a7bbc07033d4fd820a6831fd9797b5a97074d0fab8bd6f3", func := "loop.example/g01124/laws.FnExactPairOf", spec := "fnExactPairOf", apart := false, narrowed := true }
def FnExactPairOfUptoSaid : Prop := fnExactPairOfUptoRow.holds Try.pinned (OpenSpec.upto fnExactPairOfSpec)

/-- 'laws.FnExactNormOf', WHERE WHAT IT READS IS OF BULK AT MOST 1048576: true; the input reads as it did. -/
def fnExactNormOfUptoRow : OpenClaim := { program := "ytnkdneigkdjnlab", sum := "2d0a3b652e0411f92a7bbc07033d4fd820a6831fd9797b5a97074d0fab8bd6f3", func := "loop.example/g01124/laws.FnExactNormOf", spec := "fnExactNormOf", apart := false, narrowed := true }
def FnExactNormOfUptoSaid : Prop := fnExactNormOfUptoRow.holds Try.pinned (OpenSpec.upto fnExactNormOfSpec)

/-- 'laws.FnExactGramOf', WHERE WHAT IT READS IS OF BULK AT MOST 1048576: true; the input reads as it did. -/
def fnExactGramOfUptoRow : OpenClaim := { program := "ytnkdneigkdjnlab", sum := "2d0a3b652e0411f92a7bbc07033d4fd820a6831fd9797b5a97074d0fab8bd6f3", func := "loop.example/g01124/laws.FnExactGramOf", spec := "fnExactGramOf", apart := false, narrowed := true }
def FnExactGramOfUptoSaid : Prop := fnExactGramOfUptoRow.holds Try.pinned (OpenSpec.upto fnExactGramOfSpec)

/-- 'laws.FnExactDiscriminantOf', WHERE WHAT IT READS IS OF BULK AT MOST 1048576: true; the input reads as it did. -/
def fnExactDiscriminantOfUptoRow : OpenClaim := { program := "ytnkdneigkdjnlab", sum := "2d0a3b652e0411f92a7bbc07033d4fd820a6831fd9797b5a97074d0fab8bd6f3", func := "loop.example/g01124/laws.FnExactDiscriminantOf", spec := "fnExactDiscriminantOf", apart := false, narrowed := true }
def FnExactDiscriminantOfUptoSaid : Prop := fnExactDiscriminantOfUptoRow.holds Try.pinned (OpenSpec.upto fnExactDiscriminantOfSpec)

/-- 'laws.FnExactIsRegular', WHERE WHAT IT READS IS OF BULK AT MOST 1048576: true; the input reads as it did. -/
def fnExactIsRegularUptoRow : OpenClaim := { program := "ytnkdneigkdjnlab", sum := "2d0a3b652e0411f92a7bbc07033d4fd820a6831fd9797b5a97074d0fab8bd6f3", func := "loop.example/g01124/laws.FnExactIsRegular", spec := "fnExactIsRegular", apart := false, narrowed := true }
def FnExactIsRegularUptoSaid : Prop := fnExactIsRegularUptoRow.holds Try.pinned (OpenSpec.upto fnExactIsRegularSpec)

/-- 'laws.FnExactWittIndex', WHERE WHAT IT READS IS OF BULK AT MOST 1048576: true; the input reads as it did. -/
def fnExactWittIndexUptoRow : OpenClaim := { program := "ytnkdneigkdjnlab", sum := "2d0a3b652e0411f92a7bbc07033d4fd820a6831fd9797b5a97074d0fab8bd6f3", func := "loop.example/g01124/laws.FnExactWittIndex", spec := "fnExactWittIndex", recurses := true, apart := false, narrowed := true }
def FnExactWittIndexUptoSaid : Prop := fnExactWittIndexUptoRow.holds Try.pinned (OpenSpec.upto fnExactWittIndexSpec)

/-- 'laws.FnExactCountVectors', WHERE WHAT IT READS IS OF BULK AT MOST 1048576: true; the input reads as it did. -/
def fnExactCountVectorsUptoRow : OpenClaim := { program := "ytnkdneigkdjnlab", sum := "2d0a3b652e0411f92a7bbc07033d4fd820a6831fd9797b5a97074d0fab8bd6f3", func := "loop.example/g01124/laws.FnExactCountVectors", spec := "fnExactCountVectors", apart := false, narrowed := true }
def FnExactCountVectorsUptoSaid : Prop := fnExactCountVectorsUptoRow.holds Try.pinned (OpenSpec.upto fnExactCountVectorsSpec)

/-- 'laws.FnExactAreIsometric', WHERE WHAT IT READS IS OF BULK AT MOST 1048576: true; the input reads as it did. -/
def fnExactAreIsometricUptoRow : OpenClaim := { program := "ytnkdneigkdjnlab", sum := "2d0a3b652e0411f92a7bbc07033d4fd820a6831fd9797b5a97074d0fab8bd6f3", func := "loop.example/g01124/laws.FnExactAreIsometric", spec := "fnExactAreIsometric", unfollowed := true, recurses := true, apart := false, narrowed := true }
def FnExactAreIsometricUptoSaid : Prop := fnExactAreIsometricUptoRow.holds Try.pinned (OpenSpec.upto fnExactAreIsometricSpec)

/-- 'laws.FnPairs', WHERE WHAT IT READS IS OF BULK AT MOST 1048576: true; the input reads as it did. -/
def fnPairsUptoRow : OpenClaim := { program := "ytnkdneigkdjnlab", sum := "2d0a3b652e0411f92a7bbc07033d4fd820a6831fd9797b5a97074d0fab8bd6f3", func := "loop.example/g01124/laws.FnPairs", spec := "fnPairs", apart := false, narrowed := true }
def FnPairsUptoSaid : Prop := fnPairsUptoRow.holds Try.pinned (OpenSpec.upto fnPairsSpec)

end Rows
end Go.Proofs.Ytnkdneigkdjnlab
