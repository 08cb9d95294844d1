/-
  No cell of these rows narrows 'for every input' (looked for: loops, veiled, ifaces, maps, wideKeys, modest, calm, conditions, laid).
  DERIVED. THE GIVEN ROWS OF THIS SEAT. 12 by the template 'for every input the law returns true; each argument reads behind the call as it read before'; 0 by the template 'total and deterministic' (their statements: YtfdpfmmcgjmcpaaTotals.lean).
  GIVEN WITH THE SEED: the statements are not yours to turn. If you find one false, say at which input.
  Laid BY PROGRAM, IN A SANDBOX (cutbox-rows.mjs): the forced cells as the released guide's own fill.sh prints them over the translation 4e165e51ee98be8f… (all of the seat's roots in one cut). By AI agents, Wed Nov 11 2026. No macro, syntax, notation, axiom, sorry.
-/
import Derived.Test.YtfdpfmmcgjmcpaaChecked
import GoSem.Claim
import GoSem.ClaimJoined
import GoSem.ClaimMapViews
import Derived.JoinedTies
import Derived.KernelRfl
namespace Go.Proofs.Ytfdpfmmcgjmcpaa
/- THE CELL 'sum', in the pinned program and in every row, IS THE sha256 OF THE DUMP (.gsa) THAT YtfdpfmmcgjmcpaaProg.lean LOADS. Nothing in Lean hashes anything: it is a label: what it is worth is what the hold of that sum in a sandbox is worth. -/
noncomputable def Try.pinned : Pinned := { name := "ytfdpfmmcgjmcpaa", sum := "4e165e51ee98be8f54e884e7f0ee526adcfe47e6f701b9153b4d5eb0f7e57872", checked := Try.checked }
namespace Rows
def none {H : Type} : Left H := { results := [], args := [] }

/-- 'laws.FnExactIsMultivector': WHATEVER THE INPUT: true; the input reads as it did. -/
def fnExactIsMultivectorSpec : ChangeSpec := { name := "fnExactIsMultivector", fn := fun _ => fun
  | [d1, d2] => { results := [.lit (.bool true)], args := [d1, d2] }
  | _ => none }
def fnExactIsMultivectorRow : OpenClaim := { program := "ytfdpfmmcgjmcpaa", sum := "4e165e51ee98be8f54e884e7f0ee526adcfe47e6f701b9153b4d5eb0f7e57872", func := "loop.example/g01124/laws.FnExactIsMultivector", spec := "fnExactIsMultivector", apart := false }
def FnExactIsMultivectorSaid : Prop := fnExactIsMultivectorRow.holds Try.pinned (OpenSpec.ofChange fnExactIsMultivectorSpec)

/-- ITS FALSE NEIGHBOUR: 'it returns false'. Refute it at one input. -/
def fnExactIsMultivectorWrong : ChangeSpec := { name := "fnExactIsMultivector", fn := fun _ => fun
  | [d1, d2] => { results := [.lit (.bool false)], args := [d1, d2] }
  | _ => none }
def FnExactIsMultivectorWrongFalsely : Prop := fnExactIsMultivectorRow.holds Try.pinned (OpenSpec.ofChange fnExactIsMultivectorWrong)

/-- 'laws.FnExactVectorOf': WHATEVER THE INPUT: true; the input reads as it did. -/
def fnExactVectorOfSpec : ChangeSpec := { name := "fnExactVectorOf", fn := fun _ => fun
  | [d1, d2] => { results := [.lit (.bool true)], args := [d1, d2] }
  | _ => none }
def fnExactVectorOfRow : OpenClaim := { program := "ytfdpfmmcgjmcpaa", sum := "4e165e51ee98be8f54e884e7f0ee526adcfe47e6f701b9153b4d5eb0f7e57872", func := "loop.example/g01124/laws.FnExactVectorOf", spec := "fnExactVectorOf", apart := false }
def FnExactVectorOfSaid : Prop := fnExactVectorOfRow.holds Try.pinned (OpenSpec.ofChange fnExactVectorOfSpec)

/-- ITS FALSE NEIGHBOUR: 'it returns false'. Refute it at one input. -/
def fnExactVectorOfWrong : ChangeSpec := { name := "fnExactVectorOf", fn := fun _ => fun
  | [d1, d2] => { results := [.lit (.bool false)], args := [d1, d2] }
  | _ => none }
def FnExactVectorOfWrongFalsely : Prop := fnExactVectorOfRow.holds Try.pinned (OpenSpec.ofChange fnExactVectorOfWrong)

/-- 'laws.FnExactBladeOf': WHATEVER THE INPUT: true; the input reads as it did. -/
def fnExactBladeOfSpec : ChangeSpec := { name := "fnExactBladeOf", fn := fun _ => fun
  | [d1, d2] => { results := [.lit (.bool true)], args := [d1, d2] }
  | _ => none }
def fnExactBladeOfRow : OpenClaim := { program := "ytfdpfmmcgjmcpaa", sum := "4e165e51ee98be8f54e884e7f0ee526adcfe47e6f701b9153b4d5eb0f7e57872", func := "loop.example/g01124/laws.FnExactBladeOf", spec := "fnExactBladeOf", apart := false }
def FnExactBladeOfSaid : Prop := fnExactBladeOfRow.holds Try.pinned (OpenSpec.ofChange fnExactBladeOfSpec)

/-- ITS FALSE NEIGHBOUR: 'it returns false'. Refute it at one input. -/
def fnExactBladeOfWrong : ChangeSpec := { name := "fnExactBladeOf", fn := fun _ => fun
  | [d1, d2] => { results := [.lit (.bool false)], args := [d1, d2] }
  | _ => none }
def FnExactBladeOfWrongFalsely : Prop := fnExactBladeOfRow.holds Try.pinned (OpenSpec.ofChange fnExactBladeOfWrong)

/-- 'laws.FnExactAddMultivectors': WHATEVER THE INPUT: true; the input reads as it did. -/
def fnExactAddMultivectorsSpec : ChangeSpec := { name := "fnExactAddMultivectors", fn := fun _ => fun
  | [d1, d2, d3] => { results := [.lit (.bool true)], args := [d1, d2, d3] }
  | _ => none }
def fnExactAddMultivectorsRow : OpenClaim := { program := "ytfdpfmmcgjmcpaa", sum := "4e165e51ee98be8f54e884e7f0ee526adcfe47e6f701b9153b4d5eb0f7e57872", func := "loop.example/g01124/laws.FnExactAddMultivectors", spec := "fnExactAddMultivectors", unfollowed := true, recurses := true, apart := false }
def FnExactAddMultivectorsSaid : Prop := fnExactAddMultivectorsRow.holds Try.pinned (OpenSpec.ofChange fnExactAddMultivectorsSpec)

/-- ITS FALSE NEIGHBOUR: 'it returns false'. Refute it at one input. -/
def fnExactAddMultivectorsWrong : ChangeSpec := { name := "fnExactAddMultivectors", fn := fun _ => fun
  | [d1, d2, d3] => { results := [.lit (.bool false)], args := [d1, d2, d3] }
  | _ => none }
def FnExactAddMultivectorsWrongFalsely : Prop := fnExactAddMultivectorsRow.holds Try.pinned (OpenSpec.ofChange fnExactAddMultivectorsWrong)

/-- 'laws.FnExactScaleMultivector': WHATEVER THE INPUT: true; the input reads as it did. -/
def fnExactScaleMultivectorSpec : ChangeSpec := { name := "fnExactScaleMultivector", fn := fun _ => fun
  | [d1, d2, d3] => { results := [.lit (.bool true)], args := [d1, d2, d3] }
  | _ => none }
def fnExactScaleMultivectorRow : OpenClaim := { program := "ytfdpfmmcgjmcpaa", sum := "4e165e51ee98be8f54e884e7f0ee526adcfe47e6f701b9153b4d5eb0f7e57872", func := "loop.example/g01124/laws.FnExactScaleMultivector", spec := "fnExactScaleMultivector", apart := false }
def FnExactScaleMultivectorSaid : Prop := fnExactScaleMultivectorRow.holds Try.pinned (OpenSpec.ofChange fnExactScaleMultivectorSpec)

/-- ITS FALSE NEIGHBOUR: 'it returns false'. Refute it at one input. -/
def fnExactScaleMultivectorWrong : ChangeSpec := { name := "fnExactScaleMultivector", fn := fun _ => fun
  | [d1, d2, d3] => { results := [.lit (.bool false)], args := [d1, d2, d3] }
  | _ => none }
def FnExactScaleMultivectorWrongFalsely : Prop := fnExactScaleMultivectorRow.holds Try.pinned (OpenSpec.ofChange fnExactScaleMultivectorWrong)

/-- 'laws.FnExactGradePart': WHATEVER THE INPUT: true; the input reads as it did. -/
def fnExactGradePartSpec : ChangeSpec := { name := "fnExactGradePart", fn := fun _ => fun
  | [d1, d2, d3] => { results := [.lit (.bool true)], args := [d1, d2, d3] }
  | _ => none }
def fnExactGradePartRow : OpenClaim := { program := "ytfdpfmmcgjmcpaa", sum := "4e165e51ee98be8f54e884e7f0ee526adcfe47e6f701b9153b4d5eb0f7e57872", func := "loop.example/g01124/laws.FnExactGradePart", spec := "fnExactGradePart", apart := false }
def FnExactGradePartSaid : Prop := fnExactGradePartRow.holds Try.pinned (OpenSpec.ofChange fnExactGradePartSpec)

/-- ITS FALSE NEIGHBOUR: 'it returns false'. Refute it at one input. -/
def fnExactGradePartWrong : ChangeSpec := { name := "fnExactGradePart", fn := fun _ => fun
  | [d1, d2, d3] => { results := [.lit (.bool false)], args := [d1, d2, d3] }
  | _ => none }
def FnExactGradePartWrongFalsely : Prop := fnExactGradePartRow.holds Try.pinned (OpenSpec.ofChange fnExactGradePartWrong)

/-- 'laws.FnExactGradesOf': WHATEVER THE INPUT: true; the input reads as it did. -/
def fnExactGradesOfSpec : ChangeSpec := { name := "fnExactGradesOf", fn := fun _ => fun
  | [d1, d2] => { results := [.lit (.bool true)], args := [d1, d2] }
  | _ => none }
def fnExactGradesOfRow : OpenClaim := { program := "ytfdpfmmcgjmcpaa", sum := "4e165e51ee98be8f54e884e7f0ee526adcfe47e6f701b9153b4d5eb0f7e57872", func := "loop.example/g01124/laws.FnExactGradesOf", spec := "fnExactGradesOf", unfollowed := true, recurses := true, apart := false }
def FnExactGradesOfSaid : Prop := fnExactGradesOfRow.holds Try.pinned (OpenSpec.ofChange fnExactGradesOfSpec)

/-- ITS FALSE NEIGHBOUR: 'it returns false'. Refute it at one input. -/
def fnExactGradesOfWrong : ChangeSpec := { name := "fnExactGradesOf", fn := fun _ => fun
  | [d1, d2] => { results := [.lit (.bool false)], args := [d1, d2] }
  | _ => none }
def FnExactGradesOfWrongFalsely : Prop := fnExactGradesOfRow.holds Try.pinned (OpenSpec.ofChange fnExactGradesOfWrong)

/-- 'laws.FnExactReverseOf': WHATEVER THE INPUT: true; the input reads as it did. -/
def fnExactReverseOfSpec : ChangeSpec := { name := "fnExactReverseOf", fn := fun _ => fun
  | [d1, d2] => { results := [.lit (.bool true)], args := [d1, d2] }
  | _ => none }
def fnExactReverseOfRow : OpenClaim := { program := "ytfdpfmmcgjmcpaa", sum := "4e165e51ee98be8f54e884e7f0ee526adcfe47e6f701b9153b4d5eb0f7e57872", func := "loop.example/g01124/laws.FnExactReverseOf", spec := "fnExactReverseOf", unfollowed := true, recurses := true, apart := false }
def FnExactReverseOfSaid : Prop := fnExactReverseOfRow.holds Try.pinned (OpenSpec.ofChange fnExactReverseOfSpec)

/-- ITS FALSE NEIGHBOUR: 'it returns false'. Refute it at one input. -/
def fnExactReverseOfWrong : ChangeSpec := { name := "fnExactReverseOf", fn := fun _ => fun
  | [d1, d2] => { results := [.lit (.bool false)], args := [d1, d2] }
  | _ => none }
def FnExactReverseOfWrongFalsely : Prop := fnExactReverseOfRow.holds Try.pinned (OpenSpec.ofChange fnExactReverseOfWrong)

/-- 'laws.FnExactInvoluteOf': WHATEVER THE INPUT: true; the input reads as it did. -/
def fnExactInvoluteOfSpec : ChangeSpec := { name := "fnExactInvoluteOf", fn := fun _ => fun
  | [d1, d2] => { results := [.lit (.bool true)], args := [d1, d2] }
  | _ => none }
def fnExactInvoluteOfRow : OpenClaim := { program := "ytfdpfmmcgjmcpaa", sum := "4e165e51ee98be8f54e884e7f0ee526adcfe47e6f701b9153b4d5eb0f7e57872", func := "loop.example/g01124/laws.FnExactInvoluteOf", spec := "fnExactInvoluteOf", unfollowed := true, recurses := true, apart := false }
def FnExactInvoluteOfSaid : Prop := fnExactInvoluteOfRow.holds Try.pinned (OpenSpec.ofChange fnExactInvoluteOfSpec)

/-- ITS FALSE NEIGHBOUR: 'it returns false'. Refute it at one input. -/
def fnExactInvoluteOfWrong : ChangeSpec := { name := "fnExactInvoluteOf", fn := fun _ => fun
  | [d1, d2] => { results := [.lit (.bool false)], args := [d1, d2] }
  | _ => none }
def FnExactInvoluteOfWrongFalsely : Prop := fnExactInvoluteOfRow.holds Try.pinned (OpenSpec.ofChange fnExactInvoluteOfWrong)

/-- 'laws.FnExactConjugateOf': WHATEVER THE INPUT: true; the input reads as it did. -/
def fnExactConjugateOfSpec : ChangeSpec := { name := "fnExactConjugateOf", fn := fun _ => fun
  | [d1, d2] => { results := [.lit (.bool true)], args := [d1, d2] }
  | _ => none }
def fnExactConjugateOfRow : OpenClaim := { program := "ytfdpfmmcgjmcpaa", sum := "4e165e51ee98be8f54e884e7f0ee526adcfe47e6f701b9153b4d5eb0f7e57872", func := "loop.example/g01124/laws.FnExactConjugateOf", spec := "fnExactConjugateOf", unfollowed := true, recurses := true, apart := false }
def FnExactConjugateOfSaid : Prop := fnExactConjugateOfRow.holds Try.pinned (OpenSpec.ofChange fnExactConjugateOfSpec)

/-- ITS FALSE NEIGHBOUR: 'it returns false'. Refute it at one input. -/
def fnExactConjugateOfWrong : ChangeSpec := { name := "fnExactConjugateOf", fn := fun _ => fun
  | [d1, d2] => { results := [.lit (.bool false)], args := [d1, d2] }
  | _ => none }
def FnExactConjugateOfWrongFalsely : Prop := fnExactConjugateOfRow.holds Try.pinned (OpenSpec.ofChange fnExactConjugateOfWrong)

/-- 'laws.FnExactIsEven': WHATEVER THE INPUT: true; the input reads as it did. -/
def fnExactIsEvenSpec : ChangeSpec := { name := "fnExactIsEven", fn := fun _ => fun
  | [d1, d2] => { results := [.lit (.bool true)], args := [d1, d2] }
  | _ => none }
def fnExactIsEvenRow : OpenClaim := { program := "ytfdpfmmcgjmcpaa", sum := "4e165e51ee98be8f54e884e7f0ee526adcfe47e6f701b9153b4d5eb0f7e57872", func := "loop.example/g01124/laws.FnExactIsEven", spec := "fnExactIsEven", unfollowed := true, recurses := true, apart := false }
def FnExactIsEvenSaid : Prop := fnExactIsEvenRow.holds Try.pinned (OpenSpec.ofChange fnExactIsEvenSpec)

/-- ITS FALSE NEIGHBOUR: 'it returns false'. Refute it at one input. -/
def fnExactIsEvenWrong : ChangeSpec := { name := "fnExactIsEven", fn := fun _ => fun
  | [d1, d2] => { results := [.lit (.bool false)], args := [d1, d2] }
  | _ => none }
def FnExactIsEvenWrongFalsely : Prop := fnExactIsEvenRow.holds Try.pinned (OpenSpec.ofChange fnExactIsEvenWrong)

/-- 'laws.FnExactScalarOf': WHATEVER THE INPUT: true; the input reads as it did. -/
def fnExactScalarOfSpec : ChangeSpec := { name := "fnExactScalarOf", fn := fun _ => fun
  | [d1, d2] => { results := [.lit (.bool true)], args := [d1, d2] }
  | _ => none }
def fnExactScalarOfRow : OpenClaim := { program := "ytfdpfmmcgjmcpaa", sum := "4e165e51ee98be8f54e884e7f0ee526adcfe47e6f701b9153b4d5eb0f7e57872", func := "loop.example/g01124/laws.FnExactScalarOf", spec := "fnExactScalarOf", apart := false }
def FnExactScalarOfSaid : Prop := fnExactScalarOfRow.holds Try.pinned (OpenSpec.ofChange fnExactScalarOfSpec)

/-- ITS FALSE NEIGHBOUR: 'it returns false'. Refute it at one input. -/
def fnExactScalarOfWrong : ChangeSpec := { name := "fnExactScalarOf", fn := fun _ => fun
  | [d1, d2] => { results := [.lit (.bool false)], args := [d1, d2] }
  | _ => none }
def FnExactScalarOfWrongFalsely : Prop := fnExactScalarOfRow.holds Try.pinned (OpenSpec.ofChange fnExactScalarOfWrong)

/- THE SECOND FORM. 'bulk': how many values and letters a reading holds, each counted each time it is reached (what is shared counts as often as it is met; a slice's spare places count too). A statement '..UptoSaid' is the law's where the arguments, and the package variables that the reading takes, are together of bulk at most 1048576: NARROWER than '..Said'. Prove '..Said' where nothing that the law and all that it calls make is longer than what came in: it says more and counts as full. Else prove '..UptoSaid'. A law counts once. -/
mutual
def uptoBulk {H : Type} : DataW H → Nat
  | .lit (.string bytes) => bytes.length + 1
  | .lit _ => 1
  | .nil => 1
  | .ptr d => uptoBulk d + 1
  | .slice elems spare => uptoBulkAll elems + uptoBulkAll spare + 1
  | .agg parts => uptoBulkAll parts + 1
  | .iface _ d => uptoBulk d + 1
  | .map entries => uptoBulkEntries entries + 1
  | .held _ => 1
def uptoBulkAll {H : Type} : List (DataW H) → Nat
  | [] => 0
  | d :: r => uptoBulk d + uptoBulkAll r
def uptoBulkEntries {H : Type} : List (Lit × DataW H) → Nat
  | [] => 0
  | x :: r => uptoBulkEntry x + uptoBulkEntries r
def uptoBulkEntry {H : Type} : Lit × DataW H → Nat
  | (.string bytes, d) => bytes.length + uptoBulk d + 1
  | (_, d) => uptoBulk d + 1
 end
def uptoSmall : (H : Type) → List (DataW H) → Bool := fun _ ds => decide (uptoBulkAll ds ≤ 1048576)
def OpenSpec.upto (s : _root_.Go.ChangeSpec) : _root_.Go.OpenSpec := { _root_.Go.OpenSpec.ofChange s with cond := some uptoSmall }

/-- 'laws.FnExactIsMultivector', WHERE WHAT IT READS IS OF BULK AT MOST 1048576: true; the input reads as it did. -/
def fnExactIsMultivectorUptoRow : OpenClaim := { program := "ytfdpfmmcgjmcpaa", sum := "4e165e51ee98be8f54e884e7f0ee526adcfe47e6f701b9153b4d5eb0f7e57872", func := "loop.example/g01124/laws.FnExactIsMultivector", spec := "fnExactIsMultivector", apart := false, narrowed := true }
def FnExactIsMultivectorUptoSaid : Prop := fnExactIsMultivectorUptoRow.holds Try.pinned (OpenSpec.upto fnExactIsMultivectorSpec)

/-- 'laws.FnExactVectorOf', WHERE WHAT IT READS IS OF BULK AT MOST 1048576: true; the input reads as it did. -/
def fnExactVectorOfUptoRow : OpenClaim := { program := "ytfdpfmmcgjmcpaa", sum := "4e165e51ee98be8f54e884e7f0ee526adcfe47e6f701b9153b4d5eb0f7e57872", func := "loop.example/g01124/laws.FnExactVectorOf", spec := "fnExactVectorOf", apart := false, narrowed := true }
def FnExactVectorOfUptoSaid : Prop := fnExactVectorOfUptoRow.holds Try.pinned (OpenSpec.upto fnExactVectorOfSpec)

/-- 'laws.FnExactBladeOf', WHERE WHAT IT READS IS OF BULK AT MOST 1048576: true; the input reads as it did. -/
def fnExactBladeOfUptoRow : OpenClaim := { program := "ytfdpfmmcgjmcpaa", sum := "4e165e51ee98be8f54e884e7f0ee526adcfe47e6f701b9153b4d5eb0f7e57872", func := "loop.example/g01124/laws.FnExactBladeOf", spec := "fnExactBladeOf", apart := false, narrowed := true }
def FnExactBladeOfUptoSaid : Prop := fnExactBladeOfUptoRow.holds Try.pinned (OpenSpec.upto fnExactBladeOfSpec)

/-- 'laws.FnExactAddMultivectors', WHERE WHAT IT READS IS OF BULK AT MOST 1048576: true; the input reads as it did. -/
def fnExactAddMultivectorsUptoRow : OpenClaim := { program := "ytfdpfmmcgjmcpaa", sum := "4e165e51ee98be8f54e884e7f0ee526adcfe47e6f701b9153b4d5eb0f7e57872", func := "loop.example/g01124/laws.FnExactAddMultivectors", spec := "fnExactAddMultivectors", unfollowed := true, recurses := true, apart := false, narrowed := true }
def FnExactAddMultivectorsUptoSaid : Prop := fnExactAddMultivectorsUptoRow.holds Try.pinned (OpenSpec.upto fnExactAddMultivectorsSpec)

/-- 'laws.FnExactScaleMultivector', WHERE WHAT IT READS IS OF BULK AT MOST 1048576: true; the input reads as it did. -/
def fnExactScaleMultivectorUptoRow : OpenClaim := { program := "ytfdpfmmcgjmcpaa", sum := "4e165e51ee98be8f54e884e7f0ee526adcfe47e6f701b9153b4d5eb0f7e57872", func := "loop.example/g01124/laws.FnExactScaleMultivector", spec := "fnExactScaleMultivector", apart := false, narrowed := true }
def FnExactScaleMultivectorUptoSaid : Prop := fnExactScaleMultivectorUptoRow.holds Try.pinned (OpenSpec.upto fnExactScaleMultivectorSpec)

/-- 'laws.FnExactGradePart', WHERE WHAT IT READS IS OF BULK AT MOST 1048576: true; the input reads as it did. -/
def fnExactGradePartUptoRow : OpenClaim := { program := "ytfdpfmmcgjmcpaa", sum := "4e165e51ee98be8f54e884e7f0ee526adcfe47e6f701b9153b4d5eb0f7e57872", func := "loop.example/g01124/laws.FnExactGradePart", spec := "fnExactGradePart", apart := false, narrowed := true }
def FnExactGradePartUptoSaid : Prop := fnExactGradePartUptoRow.holds Try.pinned (OpenSpec.upto fnExactGradePartSpec)

/-- 'laws.FnExactGradesOf', WHERE WHAT IT READS IS OF BULK AT MOST 1048576: true; the input reads as it did. -/
def fnExactGradesOfUptoRow : OpenClaim := { program := "ytfdpfmmcgjmcpaa", sum := "4e165e51ee98be8f54e884e7f0ee526adcfe47e6f701b9153b4d5eb0f7e57872", func := "loop.example/g01124/laws.FnExactGradesOf", spec := "fnExactGradesOf", unfollowed := true, recurses := true, apart := false, narrowed := true }
def FnExactGradesOfUptoSaid : Prop := fnExactGradesOfUptoRow.holds Try.pinned (OpenSpec.upto fnExactGradesOfSpec)

/-- 'laws.FnExactReverseOf', WHERE WHAT IT READS IS OF BULK AT MOST 1048576: true; the input reads as it did. -/
def fnExactReverseOfUptoRow : OpenClaim := { program := "ytfdpfmmcgjmcpaa", sum := "4e165e51ee98be8f54e884e7f0ee526adcfe47e6f701b9153b4d5eb0f7e57872", func := "loop.example/g01124/laws.FnExactReverseOf", spec := "fnExactReverseOf", unfollowed := true, recurses := true, apart := false, narrowed := true }
def FnExactReverseOfUptoSaid : Prop := fnExactReverseOfUptoRow.holds Try.pinned (OpenSpec.upto fnExactReverseOfSpec)

/-- 'laws.FnExactInvoluteOf', WHERE WHAT IT READS IS OF BULK AT MOST 1048576: true; the input reads as it did. -/
def fnExactInvoluteOfUptoRow : OpenClaim := { program := "ytfdpfmmcgjmcpaa", sum := "4e165e51ee98be8f54e884e7f0ee526adcfe47e6f701b9153b4d5eb0f7e57872", func := "loop.example/g01124/laws.FnExactInvoluteOf", spec := "fnExactInvoluteOf", unfollowed := true, recurses := true, apart := false, narrowed := true }
def FnExactInvoluteOfUptoSaid : Prop := fnExactInvoluteOfUptoRow.holds Try.pinned (OpenSpec.upto fnExactInvoluteOfSpec)

/-- 'laws.FnExactConjugateOf', WHERE WHAT IT READS IS OF BULK AT MOST 1048576: true; the input reads as it did. -/
def fnExactConjugateOfUptoRow : OpenClaim := { program := "ytfdpfmmcgjmcpaa", sum := "4e165e51ee98be8f54e884e7f0ee526adcfe47e6f701b9153b4d5eb0f7e57872", func := "loop.example/g01124/laws.FnExactConjugateOf", spec := "fnExactConjugateOf", unfollowed := true, recurses := true, apart := false, narrowed := true }
def FnExactConjugateOfUptoSaid : Prop := fnExactConjugateOfUptoRow.holds Try.pinned (OpenSpec.upto fnExactConjugateOfSpec)

/-- 'laws.FnExactIsEven', WHERE WHAT IT READS IS OF BULK AT MOST 1048576: true; the input reads as it did. -/
def fnExactIsEvenUptoRow : OpenClaim := { program := "ytfdpfmmcgjmcpaa", sum := "4e165e51ee98be8f54e884e7f0ee526adcfe47e6f701b9153b4d5eb0f7e57872", func := "loop.example/g01124/laws.FnExactIsEven", spec := "fnExactIsEven", unfollowed := true, recurses := true, apart := false, narrowed := true }
def FnExactIsEvenUptoSaid : Prop := fnExactIsEvenUptoRow.holds Try.pinned (OpenSpec.upto fnExactIsEvenSpec)

/-- 'laws.FnExactScalarOf', WHERE WHAT IT READS IS OF BULK AT MOST 1048576: true; the input reads as it did. -/
def fnExactScalarOfUptoRow : OpenClaim := { program := "ytfdpfmmcgjmcpaa", sum := "4e165e51ee98be8f54e884e7f0ee526adcfe47e6f701b9153b4d5eb0f7e57872", func := "loop.example/g01124/laws.FnExactScalarOf", spec := "fnExactScalarOf", apart := false, narrowed := true }
def FnExactScalarOfUptoSaid : Prop := fnExactScalarOfUptoRow.holds Try.pinned (OpenSpec.upto fnExactScalarOfSpec)

end Rows
end Go.Proofs.Ytfdpfmmcgjmcpaa
