/-
  No cell of these rows narrows 'for every input' (looked for: loops, veiled, ifaces, maps, wideKeys, modest, calm, conditions, laid).
  DERIVED. THE GIVEN ROWS OF THIS SEAT. 5 by the template 'for every input the law returns true; each argument reads behind the call as it read before'; 0 by the template 'total and deterministic' (their statements: YtkibkkdeaojjoabTotals.lean).
  GIVEN WITH THE SEED: the statements are not yours to turn. If you find one false, say at which input.
  Laid BY PROGRAM, IN A SANDBOX (cutbox-rows.mjs): the forced cells as the released guide's own fill.sh prints them over the translation c2fdb8b90d94594f… (all of the seat's roots in one cut). By AI agents, Wed Nov 11 2026. No macro, syntax, notation, axiom, sorry.
-/
import Derived.Test.YtkibkkdeaojjoabChecked
import GoSem.Claim
import GoSem.ClaimJoined
import GoSem.ClaimMapViews
import Derived.JoinedTies
import Derived.KernelRfl
namespace Go.Proofs.Ytkibkkdeaojjoab
/- THE CELL 'sum', in the pinned program and in every row, IS THE sha256 OF THE DUMP (.gsa) THAT YtkibkkdeaojjoabProg.lean LOADS. Nothing in Lean hashes anything: it is a label: what it is worth is what the hold of that sum in a sandbox is worth. -/
noncomputable def Try.pinned : Pinned := { name := "ytkibkkdeaojjoab", sum := "c2fdb8b90d94594f330c64c86e568541ade67bc05504435aff56390243e74472", checked := Try.checked }
namespace Rows
def none {H : Type} : Left H := { results := [], args := [] }

/-- 'laws.FnExactCayleyBack': WHATEVER THE INPUT: true; the input reads as it did. -/
def fnExactCayleyBackSpec : ChangeSpec := { name := "fnExactCayleyBack", fn := fun _ => fun
  | [d1, d2] => { results := [.lit (.bool true)], args := [d1, d2] }
  | _ => none }
def fnExactCayleyBackRow : OpenClaim := { program := "ytkibkkdeaojjoab", sum := "c2fdb8b90d94594f330c64c86e568541ade67bc05504435aff56390243e74472", func := "loop.example/g01124/laws.FnExactCayleyBack", spec := "fnExactCayleyBack", inPlace := ["slices.overlaps[[]int64]", "slices.overlaps[int]"], unfollowed := true, recurses := true, apart := false }
def FnExactCayleyBackSaid : Prop := fnExactCayleyBackRow.holds Try.pinned (OpenSpec.ofChange fnExactCayleyBackSpec)

/-- ITS FALSE NEIGHBOUR: 'it returns false'. Refute it at one input. -/
def fnExactCayleyBackWrong : ChangeSpec := { name := "fnExactCayleyBack", fn := fun _ => fun
  | [d1, d2] => { results := [.lit (.bool false)], args := [d1, d2] }
  | _ => none }
def FnExactCayleyBackWrongFalsely : Prop := fnExactCayleyBackRow.holds Try.pinned (OpenSpec.ofChange fnExactCayleyBackWrong)

/-- 'laws.FnExactBivectorOfVectors': WHATEVER THE INPUT: true; the input reads as it did. -/
def fnExactBivectorOfVectorsSpec : ChangeSpec := { name := "fnExactBivectorOfVectors", fn := fun _ => fun
  | [d1, d2, d3] => { results := [.lit (.bool true)], args := [d1, d2, d3] }
  | _ => none }
def fnExactBivectorOfVectorsRow : OpenClaim := { program := "ytkibkkdeaojjoab", sum := "c2fdb8b90d94594f330c64c86e568541ade67bc05504435aff56390243e74472", func := "loop.example/g01124/laws.FnExactBivectorOfVectors", spec := "fnExactBivectorOfVectors", unfollowed := true, recurses := true, apart := false }
def FnExactBivectorOfVectorsSaid : Prop := fnExactBivectorOfVectorsRow.holds Try.pinned (OpenSpec.ofChange fnExactBivectorOfVectorsSpec)

/-- ITS FALSE NEIGHBOUR: 'it returns false'. Refute it at one input. -/
def fnExactBivectorOfVectorsWrong : ChangeSpec := { name := "fnExactBivectorOfVectors", fn := fun _ => fun
  | [d1, d2, d3] => { results := [.lit (.bool false)], args := [d1, d2, d3] }
  | _ => none }
def FnExactBivectorOfVectorsWrongFalsely : Prop := fnExactBivectorOfVectorsRow.holds Try.pinned (OpenSpec.ofChange fnExactBivectorOfVectorsWrong)

/-- 'laws.FnExactCountBivectors': WHATEVER THE INPUT: true; the input reads as it did. -/
def fnExactCountBivectorsSpec : ChangeSpec := { name := "fnExactCountBivectors", fn := fun _ => fun
  | [d] => { results := [.lit (.bool true)], args := [d] }
  | _ => none }
def fnExactCountBivectorsRow : OpenClaim := { program := "ytkibkkdeaojjoab", sum := "c2fdb8b90d94594f330c64c86e568541ade67bc05504435aff56390243e74472", func := "loop.example/g01124/laws.FnExactCountBivectors", spec := "fnExactCountBivectors", apart := false }
def FnExactCountBivectorsSaid : Prop := fnExactCountBivectorsRow.holds Try.pinned (OpenSpec.ofChange fnExactCountBivectorsSpec)

/-- ITS FALSE NEIGHBOUR: 'it returns false'. Refute it at one input. -/
def fnExactCountBivectorsWrong : ChangeSpec := { name := "fnExactCountBivectors", fn := fun _ => fun
  | [d] => { results := [.lit (.bool false)], args := [d] }
  | _ => none }
def FnExactCountBivectorsWrongFalsely : Prop := fnExactCountBivectorsRow.holds Try.pinned (OpenSpec.ofChange fnExactCountBivectorsWrong)

/-- 'laws.FnExactInverseMatrix': WHATEVER THE INPUT: true; the input reads as it did. -/
def fnExactInverseMatrixSpec : ChangeSpec := { name := "fnExactInverseMatrix", fn := fun _ => fun
  | [d1, d2] => { results := [.lit (.bool true)], args := [d1, d2] }
  | _ => none }
def fnExactInverseMatrixRow : OpenClaim := { program := "ytkibkkdeaojjoab", sum := "c2fdb8b90d94594f330c64c86e568541ade67bc05504435aff56390243e74472", func := "loop.example/g01124/laws.FnExactInverseMatrix", spec := "fnExactInverseMatrix", inPlace := ["slices.overlaps[[]int64]", "slices.overlaps[int]"], unfollowed := true, recurses := true, apart := false }
def FnExactInverseMatrixSaid : Prop := fnExactInverseMatrixRow.holds Try.pinned (OpenSpec.ofChange fnExactInverseMatrixSpec)

/-- ITS FALSE NEIGHBOUR: 'it returns false'. Refute it at one input. -/
def fnExactInverseMatrixWrong : ChangeSpec := { name := "fnExactInverseMatrix", fn := fun _ => fun
  | [d1, d2] => { results := [.lit (.bool false)], args := [d1, d2] }
  | _ => none }
def FnExactInverseMatrixWrongFalsely : Prop := fnExactInverseMatrixRow.holds Try.pinned (OpenSpec.ofChange fnExactInverseMatrixWrong)

/-- 'laws.FnExactMinimalPolynomial': WHATEVER THE INPUT: true; the input reads as it did. -/
def fnExactMinimalPolynomialSpec : ChangeSpec := { name := "fnExactMinimalPolynomial", fn := fun _ => fun
  | [d1, d2] => { results := [.lit (.bool true)], args := [d1, d2] }
  | _ => none }
def fnExactMinimalPolynomialRow : OpenClaim := { program := "ytkibkkdeaojjoab", sum := "c2fdb8b90d94594f330c64c86e568541ade67bc05504435aff56390243e74472", func := "loop.example/g01124/laws.FnExactMinimalPolynomial", spec := "fnExactMinimalPolynomial", inPlace := ["slices.overlaps[[]int64]", "slices.overlaps[int]"], unfollowed := true, recurses := true, apart := false }
def FnExactMinimalPolynomialSaid : Prop := fnExactMinimalPolynomialRow.holds Try.pinned (OpenSpec.ofChange fnExactMinimalPolynomialSpec)

/-- ITS FALSE NEIGHBOUR: 'it returns false'. Refute it at one input. -/
def fnExactMinimalPolynomialWrong : ChangeSpec := { name := "fnExactMinimalPolynomial", fn := fun _ => fun
  | [d1, d2] => { results := [.lit (.bool false)], args := [d1, d2] }
  | _ => none }
def FnExactMinimalPolynomialWrongFalsely : Prop := fnExactMinimalPolynomialRow.holds Try.pinned (OpenSpec.ofChange fnExactMinimalPolynomialWrong)

/- THE SECOND FORM. 'bulk': how many values and letters a reading holds, each counted each time it is reached (what is shared counts as often as it is met; a slice's spare places count too). A statement '..UptoSaid' is the law's where the arguments, and the package variables that the reading takes, are together of bulk at most 1048576: NARROWER than '..Said'. Prove '..Said' where nothing that the law and all that it calls make is longer than what came in: it says more and counts as full. Else prove '..UptoSaid'. A law counts once. -/
mutual
def uptoBulk {H : Type} : DataW H → Nat
  | .lit (.string bytes) => bytes.length + 1
  | .lit _ => 1
  | .nil => 1
  | .ptr d => uptoBulk d + 1
  | .slice elems spare => uptoBulkAll elems + uptoBulkAll spare + 1
  | .agg parts => uptoBulkAll parts + 1
  | .iface _ d => uptoBulk d + 1
  | .map entries => uptoBulkEntries entries + 1
  | .held _ => 1
def uptoBulkAll {H : Type} : List (DataW H) → Nat
  | [] => 0
  | d :: r => uptoBulk d + uptoBulkAll r
def uptoBulkEntries {H : Type} : List (Lit × DataW H) → Nat
  | [] => 0
  | x :: r => uptoBulkEntry x + uptoBulkEntries r
def uptoBulkEntry {H : Type} : Lit × DataW H → Nat
  | (.string bytes, d) => bytes.length + uptoBulk d + 1
  | (_, d) => uptoBulk d + 1
 end
def uptoSmall : (H : Type) → List (DataW H) → Bool := fun _ ds => decide (uptoBulkAll ds ≤ 1048576)
def OpenSpec.upto (s : _root_.Go.ChangeSpec) : _root_.Go.OpenSpec := { _root_.Go.OpenSpec.ofChange s with cond := some uptoSmall }

/-- 'laws.FnExactCayleyBack', WHERE WHAT IT READS IS OF BULK AT MOST 1048576: true; the input reads as it did. -/
def fnExactCayleyBackUptoRow : OpenClaim := { program := "ytkibkkdeaojjoab", sum := "c2fdb8b90d94594f330c64c86e568541ade67bc05504435aff56390243e74472", func := "loop.example/g01124/laws.FnExactCayleyBack", spec := "fnExactCayleyBack", inPlace := ["slices.overlaps[[]int64]", "slices.overlaps[int]"], unfollowed := true, recurses := true, apart := false, narrowed := true }
def FnExactCayleyBackUptoSaid : Prop := fnExactCayleyBackUptoRow.holds Try.pinned (OpenSpec.upto fnExactCayleyBackSpec)

/-- 'laws.FnExactBivectorOfVectors', WHERE WHAT IT READS IS OF BULK AT MOST 1048576: true; the input reads as it did. -/
def fnExactBivectorOfVectorsUptoRow : OpenClaim := { program := "ytkibkkdeaojjoab", sum := "c2fdb8b90d94594f330c64c86e568541ade67bc05504435aff56390243e74472", func := "loop.example/g01124/laws.FnExactBivectorOfVectors", spec := "fnExactBivectorOfVectors", unfollowed := true, recurses := true, apart := false, narrowed := true }
def FnExactBivectorOfVectorsUptoSaid : Prop := fnExactBivectorOfVectorsUptoRow.holds Try.pinned (OpenSpec.upto fnExactBivectorOfVectorsSpec)

/-- 'laws.FnExactCountBivectors', WHERE WHAT IT READS IS OF BULK AT MOST 1048576: true; the input reads as it did. -/
def fnExactCountBivectorsUptoRow : OpenClaim := { program := "ytkibkkdeaojjoab", sum := "c2fdb8b90d94594f330c64c86e568541ade67bc05504435aff56390243e74472", func := "loop.example/g01124/laws.FnExactCountBivectors", spec := "fnExactCountBivectors", apart := false, narrowed := true }
def FnExactCountBivectorsUptoSaid : Prop := fnExactCountBivectorsUptoRow.holds Try.pinned (OpenSpec.upto fnExactCountBivectorsSpec)

/-- 'laws.FnExactInverseMatrix', WHERE WHAT IT READS IS OF BULK AT MOST 1048576: true; the input reads as it did. -/
def fnExactInverseMatrixUptoRow : OpenClaim := { program := "ytkibkkdeaojjoab", sum := "c2fdb8b90d94594f330c64c86e568541ade67bc05504435aff56390243e74472", func := "loop.example/g01124/laws.FnExactInverseMatrix", spec := "fnExactInverseMatrix", inPlace := ["slices.overlaps[[]int64]", "slices.overlaps[int]"], unfollowed := true, recurses := true, apart := false, narrowed := true }
def FnExactInverseMatrixUptoSaid : Prop := fnExactInverseMatrixUptoRow.holds Try.pinned (OpenSpec.upto fnExactInverseMatrixSpec)

/-- 'laws.FnExactMinimalPolynomial', WHERE WHAT IT READS IS OF BULK AT MOST 1048576: true; the input reads as it did. -/
def fnExactMinimalPolynomialUptoRow : OpenClaim := { program := "ytkibkkdeaojjoab", sum := "c2fdb8b90d94594f330c64c86e568541ade67bc05504435aff56390243e74472", func := "loop.example/g01124/laws.FnExactMinimalPolynomial", spec := "fnExactMinimalPolynomial", inPlace := ["slices.overlaps[[]int64]", "slices.overlaps[int]"], unfollowed := true, recurses := true, apart := false, narrowed := true }
def FnExactMinimalPolynomialUptoSaid : Prop := fnExactMinimalPolynomialUptoRow.holds Try.pinned (OpenSpec.upto fnExactMinimalPolynomialSpec)

end Rows
end Go.Proofs.Ytkibkkdeaojjoab
