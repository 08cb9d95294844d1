/-
  No cell of these rows narrows 'for every input' (looked for: loops, veiled, ifaces, maps, wideKeys, modest, calm, conditions, laid).
  DERIVED. THE GIVEN ROWS OF THIS SEAT. 10 by the template 'for every input the law returns true; each argument reads behind the call as it read before'; 0 by the template 'total and deterministic' (their statements: YtjakckkjkcgcjaaTotals.lean).
  GIVEN WITH THE SEED: the statements are not yours to turn. If you find one false, say at which input.
  Laid BY PROGRAM, IN A SANDBOX (cutbox-rows.mjs): the forced cells as the released guide's own fill.sh prints them over the translation 92c0d452c12d6e94… (all of the seat's roots in one cut). By AI agents, Wed Nov 11 2026. No macro, syntax, notation, axiom, sorry.
-/
import Derived.Test.YtjakckkjkcgcjaaChecked
import GoSem.Claim
import GoSem.ClaimJoined
import GoSem.ClaimMapViews
import Derived.JoinedTies
import Derived.KernelRfl
namespace Go.Proofs.Ytjakckkjkcgcjaa
/- THE CELL 'sum', in the pinned program and in every row, IS THE sha256 OF THE DUMP (.gsa) THAT YtjakckkjkcgcjaaProg.lean LOADS. Nothing in Lean hashes anything: it is a label: what it is worth is what the hold of that sum in a sandbox is worth. -/
noncomputable def Try.pinned : Pinned := { name := "ytjakckkjkcgcjaa", sum := "92c0d452c12d6e945a6a44204adfb90e8d6c85a58c3af2310a59091c3ed97a9e", checked := Try.checked }
namespace Rows
def none {H : Type} : Left H := { results := [], args := [] }

/-- 'laws.FnExactVersorOf': WHATEVER THE INPUT: true; the input reads as it did. -/
def fnExactVersorOfSpec : ChangeSpec := { name := "fnExactVersorOf", fn := fun _ => fun
  | [d1, d2] => { results := [.lit (.bool true)], args := [d1, d2] }
  | _ => none }
def fnExactVersorOfRow : OpenClaim := { program := "ytjakckkjkcgcjaa", sum := "92c0d452c12d6e945a6a44204adfb90e8d6c85a58c3af2310a59091c3ed97a9e", func := "loop.example/g01124/laws.FnExactVersorOf", spec := "fnExactVersorOf", unfollowed := true, recurses := true, apart := false }
def FnExactVersorOfSaid : Prop := fnExactVersorOfRow.holds Try.pinned (OpenSpec.ofChange fnExactVersorOfSpec)

/-- ITS FALSE NEIGHBOUR: 'it returns false'. Refute it at one input. -/
def fnExactVersorOfWrong : ChangeSpec := { name := "fnExactVersorOf", fn := fun _ => fun
  | [d1, d2] => { results := [.lit (.bool false)], args := [d1, d2] }
  | _ => none }
def FnExactVersorOfWrongFalsely : Prop := fnExactVersorOfRow.holds Try.pinned (OpenSpec.ofChange fnExactVersorOfWrong)

/-- 'laws.FnExactIsVersor': WHATEVER THE INPUT: true; the input reads as it did. -/
def fnExactIsVersorSpec : ChangeSpec := { name := "fnExactIsVersor", fn := fun _ => fun
  | [d1, d2] => { results := [.lit (.bool true)], args := [d1, d2] }
  | _ => none }
def fnExactIsVersorRow : OpenClaim := { program := "ytjakckkjkcgcjaa", sum := "92c0d452c12d6e945a6a44204adfb90e8d6c85a58c3af2310a59091c3ed97a9e", func := "loop.example/g01124/laws.FnExactIsVersor", spec := "fnExactIsVersor", unfollowed := true, recurses := true, apart := false }
def FnExactIsVersorSaid : Prop := fnExactIsVersorRow.holds Try.pinned (OpenSpec.ofChange fnExactIsVersorSpec)

/-- ITS FALSE NEIGHBOUR: 'it returns false'. Refute it at one input. -/
def fnExactIsVersorWrong : ChangeSpec := { name := "fnExactIsVersor", fn := fun _ => fun
  | [d1, d2] => { results := [.lit (.bool false)], args := [d1, d2] }
  | _ => none }
def FnExactIsVersorWrongFalsely : Prop := fnExactIsVersorRow.holds Try.pinned (OpenSpec.ofChange fnExactIsVersorWrong)

/-- 'laws.FnExactSpinorNormOf': WHATEVER THE INPUT: true; the input reads as it did. -/
def fnExactSpinorNormOfSpec : ChangeSpec := { name := "fnExactSpinorNormOf", fn := fun _ => fun
  | [d1, d2] => { results := [.lit (.bool true)], args := [d1, d2] }
  | _ => none }
def fnExactSpinorNormOfRow : OpenClaim := { program := "ytjakckkjkcgcjaa", sum := "92c0d452c12d6e945a6a44204adfb90e8d6c85a58c3af2310a59091c3ed97a9e", func := "loop.example/g01124/laws.FnExactSpinorNormOf", spec := "fnExactSpinorNormOf", unfollowed := true, recurses := true, apart := false }
def FnExactSpinorNormOfSaid : Prop := fnExactSpinorNormOfRow.holds Try.pinned (OpenSpec.ofChange fnExactSpinorNormOfSpec)

/-- ITS FALSE NEIGHBOUR: 'it returns false'. Refute it at one input. -/
def fnExactSpinorNormOfWrong : ChangeSpec := { name := "fnExactSpinorNormOf", fn := fun _ => fun
  | [d1, d2] => { results := [.lit (.bool false)], args := [d1, d2] }
  | _ => none }
def FnExactSpinorNormOfWrongFalsely : Prop := fnExactSpinorNormOfRow.holds Try.pinned (OpenSpec.ofChange fnExactSpinorNormOfWrong)

/-- 'laws.FnExactVersorInverse': WHATEVER THE INPUT: true; the input reads as it did. -/
def fnExactVersorInverseSpec : ChangeSpec := { name := "fnExactVersorInverse", fn := fun _ => fun
  | [d1, d2] => { results := [.lit (.bool true)], args := [d1, d2] }
  | _ => none }
def fnExactVersorInverseRow : OpenClaim := { program := "ytjakckkjkcgcjaa", sum := "92c0d452c12d6e945a6a44204adfb90e8d6c85a58c3af2310a59091c3ed97a9e", func := "loop.example/g01124/laws.FnExactVersorInverse", spec := "fnExactVersorInverse", unfollowed := true, recurses := true, apart := false }
def FnExactVersorInverseSaid : Prop := fnExactVersorInverseRow.holds Try.pinned (OpenSpec.ofChange fnExactVersorInverseSpec)

/-- ITS FALSE NEIGHBOUR: 'it returns false'. Refute it at one input. -/
def fnExactVersorInverseWrong : ChangeSpec := { name := "fnExactVersorInverse", fn := fun _ => fun
  | [d1, d2] => { results := [.lit (.bool false)], args := [d1, d2] }
  | _ => none }
def FnExactVersorInverseWrongFalsely : Prop := fnExactVersorInverseRow.holds Try.pinned (OpenSpec.ofChange fnExactVersorInverseWrong)

/-- 'laws.FnExactSandwichOf': WHATEVER THE INPUT: true; the input reads as it did. -/
def fnExactSandwichOfSpec : ChangeSpec := { name := "fnExactSandwichOf", fn := fun _ => fun
  | [d1, d2, d3] => { results := [.lit (.bool true)], args := [d1, d2, d3] }
  | _ => none }
def fnExactSandwichOfRow : OpenClaim := { program := "ytjakckkjkcgcjaa", sum := "92c0d452c12d6e945a6a44204adfb90e8d6c85a58c3af2310a59091c3ed97a9e", func := "loop.example/g01124/laws.FnExactSandwichOf", spec := "fnExactSandwichOf", unfollowed := true, recurses := true, apart := false }
def FnExactSandwichOfSaid : Prop := fnExactSandwichOfRow.holds Try.pinned (OpenSpec.ofChange fnExactSandwichOfSpec)

/-- ITS FALSE NEIGHBOUR: 'it returns false'. Refute it at one input. -/
def fnExactSandwichOfWrong : ChangeSpec := { name := "fnExactSandwichOf", fn := fun _ => fun
  | [d1, d2, d3] => { results := [.lit (.bool false)], args := [d1, d2, d3] }
  | _ => none }
def FnExactSandwichOfWrongFalsely : Prop := fnExactSandwichOfRow.holds Try.pinned (OpenSpec.ofChange fnExactSandwichOfWrong)

/-- 'laws.FnExactReflectIn': WHATEVER THE INPUT: true; the input reads as it did. -/
def fnExactReflectInSpec : ChangeSpec := { name := "fnExactReflectIn", fn := fun _ => fun
  | [d1, d2, d3] => { results := [.lit (.bool true)], args := [d1, d2, d3] }
  | _ => none }
def fnExactReflectInRow : OpenClaim := { program := "ytjakckkjkcgcjaa", sum := "92c0d452c12d6e945a6a44204adfb90e8d6c85a58c3af2310a59091c3ed97a9e", func := "loop.example/g01124/laws.FnExactReflectIn", spec := "fnExactReflectIn", unfollowed := true, recurses := true, apart := false }
def FnExactReflectInSaid : Prop := fnExactReflectInRow.holds Try.pinned (OpenSpec.ofChange fnExactReflectInSpec)

/-- ITS FALSE NEIGHBOUR: 'it returns false'. Refute it at one input. -/
def fnExactReflectInWrong : ChangeSpec := { name := "fnExactReflectIn", fn := fun _ => fun
  | [d1, d2, d3] => { results := [.lit (.bool false)], args := [d1, d2, d3] }
  | _ => none }
def FnExactReflectInWrongFalsely : Prop := fnExactReflectInRow.holds Try.pinned (OpenSpec.ofChange fnExactReflectInWrong)

/-- 'laws.FnExactVersorBetween': WHATEVER THE INPUT: true; the input reads as it did. -/
def fnExactVersorBetweenSpec : ChangeSpec := { name := "fnExactVersorBetween", fn := fun _ => fun
  | [d1, d2, d3] => { results := [.lit (.bool true)], args := [d1, d2, d3] }
  | _ => none }
def fnExactVersorBetweenRow : OpenClaim := { program := "ytjakckkjkcgcjaa", sum := "92c0d452c12d6e945a6a44204adfb90e8d6c85a58c3af2310a59091c3ed97a9e", func := "loop.example/g01124/laws.FnExactVersorBetween", spec := "fnExactVersorBetween", apart := false }
def FnExactVersorBetweenSaid : Prop := fnExactVersorBetweenRow.holds Try.pinned (OpenSpec.ofChange fnExactVersorBetweenSpec)

/-- ITS FALSE NEIGHBOUR: 'it returns false'. Refute it at one input. -/
def fnExactVersorBetweenWrong : ChangeSpec := { name := "fnExactVersorBetween", fn := fun _ => fun
  | [d1, d2, d3] => { results := [.lit (.bool false)], args := [d1, d2, d3] }
  | _ => none }
def FnExactVersorBetweenWrongFalsely : Prop := fnExactVersorBetweenRow.holds Try.pinned (OpenSpec.ofChange fnExactVersorBetweenWrong)

/-- 'laws.FnExactIsRotor': WHATEVER THE INPUT: true; the input reads as it did. -/
def fnExactIsRotorSpec : ChangeSpec := { name := "fnExactIsRotor", fn := fun _ => fun
  | [d1, d2] => { results := [.lit (.bool true)], args := [d1, d2] }
  | _ => none }
def fnExactIsRotorRow : OpenClaim := { program := "ytjakckkjkcgcjaa", sum := "92c0d452c12d6e945a6a44204adfb90e8d6c85a58c3af2310a59091c3ed97a9e", func := "loop.example/g01124/laws.FnExactIsRotor", spec := "fnExactIsRotor", unfollowed := true, recurses := true, apart := false }
def FnExactIsRotorSaid : Prop := fnExactIsRotorRow.holds Try.pinned (OpenSpec.ofChange fnExactIsRotorSpec)

/-- ITS FALSE NEIGHBOUR: 'it returns false'. Refute it at one input. -/
def fnExactIsRotorWrong : ChangeSpec := { name := "fnExactIsRotor", fn := fun _ => fun
  | [d1, d2] => { results := [.lit (.bool false)], args := [d1, d2] }
  | _ => none }
def FnExactIsRotorWrongFalsely : Prop := fnExactIsRotorRow.holds Try.pinned (OpenSpec.ofChange fnExactIsRotorWrong)

/-- 'laws.FnExactUnitVersor': WHATEVER THE INPUT: true; the input reads as it did. -/
def fnExactUnitVersorSpec : ChangeSpec := { name := "fnExactUnitVersor", fn := fun _ => fun
  | [d1, d2] => { results := [.lit (.bool true)], args := [d1, d2] }
  | _ => none }
def fnExactUnitVersorRow : OpenClaim := { program := "ytjakckkjkcgcjaa", sum := "92c0d452c12d6e945a6a44204adfb90e8d6c85a58c3af2310a59091c3ed97a9e", func := "loop.example/g01124/laws.FnExactUnitVersor", spec := "fnExactUnitVersor", unfollowed := true, recurses := true, apart := false }
def FnExactUnitVersorSaid : Prop := fnExactUnitVersorRow.holds Try.pinned (OpenSpec.ofChange fnExactUnitVersorSpec)

/-- ITS FALSE NEIGHBOUR: 'it returns false'. Refute it at one input. -/
def fnExactUnitVersorWrong : ChangeSpec := { name := "fnExactUnitVersor", fn := fun _ => fun
  | [d1, d2] => { results := [.lit (.bool false)], args := [d1, d2] }
  | _ => none }
def FnExactUnitVersorWrongFalsely : Prop := fnExactUnitVersorRow.holds Try.pinned (OpenSpec.ofChange fnExactUnitVersorWrong)

/-- 'laws.FnExactSandwichOfMultivector': WHATEVER THE INPUT: true; the input reads as it did. -/
def fnExactSandwichOfMultivectorSpec : ChangeSpec := { name := "fnExactSandwichOfMultivector", fn := fun _ => fun
  | [d1, d2, d3] => { results := [.lit (.bool true)], args := [d1, d2, d3] }
  | _ => none }
def fnExactSandwichOfMultivectorRow : OpenClaim := { program := "ytjakckkjkcgcjaa", sum := "92c0d452c12d6e945a6a44204adfb90e8d6c85a58c3af2310a59091c3ed97a9e", func := "loop.example/g01124/laws.FnExactSandwichOfMultivector", spec := "fnExactSandwichOfMultivector", unfollowed := true, recurses := true, apart := false }
def FnExactSandwichOfMultivectorSaid : Prop := fnExactSandwichOfMultivectorRow.holds Try.pinned (OpenSpec.ofChange fnExactSandwichOfMultivectorSpec)

/-- ITS FALSE NEIGHBOUR: 'it returns false'. Refute it at one input. -/
def fnExactSandwichOfMultivectorWrong : ChangeSpec := { name := "fnExactSandwichOfMultivector", fn := fun _ => fun
  | [d1, d2, d3] => { results := [.lit (.bool false)], args := [d1, d2, d3] }
  | _ => none }
def FnExactSandwichOfMultivectorWrongFalsely : Prop := fnExactSandwichOfMultivectorRow.holds Try.pinned (OpenSpec.ofChange fnExactSandwichOfMultivectorWrong)

/- THE SECOND FORM. 'bulk': how many values and letters a reading holds, each counted each time it is reached (what is shared counts as often as it is met; a slice's spare places count too). A statement '..UptoSaid' is the law's where the arguments, and the package variables that the reading takes, are together of bulk at most 1048576: NARROWER than '..Said'. Prove '..Said' where nothing that the law and all that it calls make is longer than what came in: it says more and counts as full. Else prove '..UptoSaid'. A law counts once. -/
mutual
def uptoBulk {H : Type} : DataW H → Nat
  | .lit (.string bytes) => bytes.length + 1
  | .lit _ => 1
  | .nil => 1
  | .ptr d => uptoBulk d + 1
  | .slice elems spare => uptoBulkAll elems + uptoBulkAll spare + 1
  | .agg parts => uptoBulkAll parts + 1
  | .iface _ d => uptoBulk d + 1
  | .map entries => uptoBulkEntries entries + 1
  | .held _ => 1
def uptoBulkAll {H : Type} : List (DataW H) → Nat
  | [] => 0
  | d :: r => uptoBulk d + uptoBulkAll r
def uptoBulkEntries {H : Type} : List (Lit × DataW H) → Nat
  | [] => 0
  | x :: r => uptoBulkEntry x + uptoBulkEntries r
def uptoBulkEntry {H : Type} : Lit × DataW H → Nat
  | (.string bytes, d) => bytes.length + uptoBulk d + 1
  | (_, d) => uptoBulk d + 1
 end
def uptoSmall : (H : Type) → List (DataW H) → Bool := fun _ ds => decide (uptoBulkAll ds ≤ 1048576)
def OpenSpec.upto (s : _root_.Go.ChangeSpec) : _root_.Go.OpenSpec := { _root_.Go.OpenSpec.ofChange s with cond := some uptoSmall }

/-- 'laws.FnExactVersorOf', WHERE WHAT IT READS IS OF BULK AT MOST 1048576: true; the input reads as it did. -/
def fnExactVersorOfUptoRow : OpenClaim := { program := "ytjakckkjkcgcjaa", sum := "92c0d452c12d6e945a6a44204adfb90e8d6c85a58c3af2310a59091c3ed97a9e", func := "loop.example/g01124/laws.FnExactVersorOf", spec := "fnExactVersorOf", unfollowed := true, recurses := true, apart := false, narrowed := true }
def FnExactVersorOfUptoSaid : Prop := fnExactVersorOfUptoRow.holds Try.pinned (OpenSpec.upto fnExactVersorOfSpec)

/-- 'laws.FnExactIsVersor', WHERE WHAT IT READS IS OF BULK AT MOST 1048576: true; the input reads as it did. -/
def fnExactIsVersorUptoRow : OpenClaim := { program := "ytjakckkjkcgcjaa", sum := "92c0d452c12d6e945a6a44204adfb90e8d6c85a58c3af2310a59091c3ed97a9e", func := "loop.example/g01124/laws.FnExactIsVersor", spec := "fnExactIsVersor", unfollowed := true, recurses := true, apart := false, narrowed := true }
def FnExactIsVersorUptoSaid : Prop := fnExactIsVersorUptoRow.holds Try.pinned (OpenSpec.upto fnExactIsVersorSpec)

/-- 'laws.FnExactSpinorNormOf', WHERE WHAT IT READS IS OF BULK AT MOST 1048576: true; the input reads as it did. -/
def fnExactSpinorNormOfUptoRow : OpenClaim := { program := "ytjakckkjkcgcjaa", sum := "92c0d452c12d6e945a6a44204adfb90e8d6c85a58c3af2310a59091c3ed97a9e", func := "loop.example/g01124/laws.FnExactSpinorNormOf", spec := "fnExactSpinorNormOf", unfollowed := true, recurses := true, apart := false, narrowed := true }
def FnExactSpinorNormOfUptoSaid : Prop := fnExactSpinorNormOfUptoRow.holds Try.pinned (OpenSpec.upto fnExactSpinorNormOfSpec)

/-- 'laws.FnExactVersorInverse', WHERE WHAT IT READS IS OF BULK AT MOST 1048576: true; the input reads as it did. -/
def fnExactVersorInverseUptoRow : OpenClaim := { program := "ytjakckkjkcgcjaa", sum := "92c0d452c12d6e945a6a44204adfb90e8d6c85a58c3af2310a59091c3ed97a9e", func := "loop.example/g01124/laws.FnExactVersorInverse", spec := "fnExactVersorInverse", unfollowed := true, recurses := true, apart := false, narrowed := true }
def FnExactVersorInverseUptoSaid : Prop := fnExactVersorInverseUptoRow.holds Try.pinned (OpenSpec.upto fnExactVersorInverseSpec)

/-- 'laws.FnExactSandwichOf', WHERE WHAT IT READS IS OF BULK AT MOST 1048576: true; the input reads as it did. -/
def fnExactSandwichOfUptoRow : OpenClaim := { program := "ytjakckkjkcgcjaa", sum := "92c0d452c12d6e945a6a44204adfb90e8d6c85a58c3af2310a59091c3ed97a9e", func := "loop.example/g01124/laws.FnExactSandwichOf", spec := "fnExactSandwichOf", unfollowed := true, recurses := true, apart := false, narrowed := true }
def FnExactSandwichOfUptoSaid : Prop := fnExactSandwichOfUptoRow.holds Try.pinned (OpenSpec.upto fnExactSandwichOfSpec)

/-- 'laws.FnExactReflectIn', WHERE WHAT IT READS IS OF BULK AT MOST 1048576: true; the input reads as it did. -/
def fnExactReflectInUptoRow : OpenClaim := { program := "ytjakckkjkcgcjaa", sum := "92c0d452c12d6e945a6a44204adfb90e8d6c85a58c3af2310a59091c3ed97a9e", func := "loop.example/g01124/laws.FnExactReflectIn", spec := "fnExactReflectIn", unfollowed := true, recurses := true, apart := false, narrowed := true }
def FnExactReflectInUptoSaid : Prop := fnExactReflectInUptoRow.holds Try.pinned (OpenSpec.upto fnExactReflectInSpec)

/-- 'laws.FnExactVersorBetween', WHERE WHAT IT READS IS OF BULK AT MOST 1048576: true; the input reads as it did. -/
def fnExactVersorBetweenUptoRow : OpenClaim := { program := "ytjakckkjkcgcjaa", sum := "92c0d452c12d6e945a6a44204adfb90e8d6c85a58c3af2310a59091c3ed97a9e", func := "loop.example/g01124/laws.FnExactVersorBetween", spec := "fnExactVersorBetween", apart := false, narrowed := true }
def FnExactVersorBetweenUptoSaid : Prop := fnExactVersorBetweenUptoRow.holds Try.pinned (OpenSpec.upto fnExactVersorBetweenSpec)

/-- 'laws.FnExactIsRotor', WHERE WHAT IT READS IS OF BULK AT MOST 1048576: true; the input reads as it did. -/
def fnExactIsRotorUptoRow : OpenClaim := { program := "ytjakckkjkcgcjaa", sum := "92c0d452c12d6e945a6a44204adfb90e8d6c85a58c3af2310a59091c3ed97a9e", func := "loop.example/g01124/laws.FnExactIsRotor", spec := "fnExactIsRotor", unfollowed := true, recurses := true, apart := false, narrowed := true }
def FnExactIsRotorUptoSaid : Prop := fnExactIsRotorUptoRow.holds Try.pinned (OpenSpec.upto fnExactIsRotorSpec)

/-- 'laws.FnExactUnitVersor', WHERE WHAT IT READS IS OF BULK AT MOST 1048576: true; the input reads as it did. -/
def fnExactUnitVersorUptoRow : OpenClaim := { program := "ytjakckkjkcgcjaa", sum := "92c0d452c12d6e945a6a44204adfb90e8d6c85a58c3af2310a59091c3ed97a9e", func := "loop.example/g01124/laws.FnExactUnitVersor", spec := "fnExactUnitVersor", unfollowed := true, recurses := true, apart := false, narrowed := true }
def FnExactUnitVersorUptoSaid : Prop := fnExactUnitVersorUptoRow.holds Try.pinned (OpenSpec.upto fnExactUnitVersorSpec)

/-- 'laws.FnExactSandwichOfMultivector', WHERE WHAT IT READS IS OF BULK AT MOST 1048576: true; the input reads as it did. -/
def fnExactSandwichOfMultivectorUptoRow : OpenClaim := { program := "ytjakckkjkcgcjaa", sum := "92c0d452c12d6e945a6a44204adfb90e8d6c85a58c3af2310a59091c3ed97a9e", func := "loop.example/g01124/laws.FnExactSandwichOfMultivector", spec := "fnExactSandwichOfMultivector", unfollowed := true, recurses := true, apart := false, narrowed := true }
def FnExactSandwichOfMultivectorUptoSaid : Prop := fnExactSandwichOfMultivectorUptoRow.holds Try.pinned (OpenSpec.upto fnExactSandwichOfMultivectorSpec)

end Rows
end Go.Proofs.Ytjakckkjkcgcjaa
