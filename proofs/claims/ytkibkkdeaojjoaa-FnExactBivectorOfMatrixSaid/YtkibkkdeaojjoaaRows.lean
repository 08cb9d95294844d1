/-
  No cell of these rows narrows 'for every input' (looked for: loops, veiled, ifaces, maps, wideKeys, modest, calm, conditions, laid).
  DERIVED. THE GIVEN ROWS OF THIS SEAT. 7 by the template 'for every input the law returns true; each argument reads behind the call as it read before'; 0 by the template 'total and deterministic' (their statements: YtkibkkdeaojjoaaTotals.lean).
  GIVEN WITH THE SEED: the statements are not yours to turn. If you find one false, say at which input.
  Laid BY PROGRAM, IN A SANDBOX (cutbox-rows.mjs): the forced cells as the released guide's own fill.sh prints them over the translation 12c7c05c9a9d8267… (all of the seat's roots in one cut). By AI agents, Wed Nov 11 2026. No macro, syntax, notation, axiom, sorry.
-/
import Derived.Test.YtkibkkdeaojjoaaChecked
import GoSem.Claim
import GoSem.ClaimJoined
import GoSem.ClaimMapViews
import Derived.JoinedTies
import Derived.KernelRfl
namespace Go.Proofs.Ytkibkkdeaojjoaa
/- THE CELL 'sum', in the pinned program and in every row, IS THE sha256 OF THE DUMP (.gsa) THAT YtkibkkdeaojjoaaProg.lean LOADS. Nothing in Lean hashes anything: it is a label: what it is worth is what the hold of that sum in a sandbox is worth. -/
noncomputable def Try.pinned : Pinned := { name := "ytkibkkdeaojjoaa", sum := "12c7c05c9a9d8267715089b3fb6844ac9de2faa13221beda5db74bdfeff444c9", checked := Try.checked }
namespace Rows
def none {H : Type} : Left H := { results := [], args := [] }

/-- 'laws.FnExactIsBivector': WHATEVER THE INPUT: true; the input reads as it did. -/
def fnExactIsBivectorSpec : ChangeSpec := { name := "fnExactIsBivector", fn := fun _ => fun
  | [d1, d2] => { results := [.lit (.bool true)], args := [d1, d2] }
  | _ => none }
def fnExactIsBivectorRow : OpenClaim := { program := "ytkibkkdeaojjoaa", sum := "12c7c05c9a9d8267715089b3fb6844ac9de2faa13221beda5db74bdfeff444c9", func := "loop.example/g01124/laws.FnExactIsBivector", spec := "fnExactIsBivector", apart := false }
def FnExactIsBivectorSaid : Prop := fnExactIsBivectorRow.holds Try.pinned (OpenSpec.ofChange fnExactIsBivectorSpec)

/-- ITS FALSE NEIGHBOUR: 'it returns false'. Refute it at one input. -/
def fnExactIsBivectorWrong : ChangeSpec := { name := "fnExactIsBivector", fn := fun _ => fun
  | [d1, d2] => { results := [.lit (.bool false)], args := [d1, d2] }
  | _ => none }
def FnExactIsBivectorWrongFalsely : Prop := fnExactIsBivectorRow.holds Try.pinned (OpenSpec.ofChange fnExactIsBivectorWrong)

/-- 'laws.FnExactIsSkewMatrix': WHATEVER THE INPUT: true; the input reads as it did. -/
def fnExactIsSkewMatrixSpec : ChangeSpec := { name := "fnExactIsSkewMatrix", fn := fun _ => fun
  | [d1, d2] => { results := [.lit (.bool true)], args := [d1, d2] }
  | _ => none }
def fnExactIsSkewMatrixRow : OpenClaim := { program := "ytkibkkdeaojjoaa", sum := "12c7c05c9a9d8267715089b3fb6844ac9de2faa13221beda5db74bdfeff444c9", func := "loop.example/g01124/laws.FnExactIsSkewMatrix", spec := "fnExactIsSkewMatrix", unfollowed := true, recurses := true, apart := false }
def FnExactIsSkewMatrixSaid : Prop := fnExactIsSkewMatrixRow.holds Try.pinned (OpenSpec.ofChange fnExactIsSkewMatrixSpec)

/-- ITS FALSE NEIGHBOUR: 'it returns false'. Refute it at one input. -/
def fnExactIsSkewMatrixWrong : ChangeSpec := { name := "fnExactIsSkewMatrix", fn := fun _ => fun
  | [d1, d2] => { results := [.lit (.bool false)], args := [d1, d2] }
  | _ => none }
def FnExactIsSkewMatrixWrongFalsely : Prop := fnExactIsSkewMatrixRow.holds Try.pinned (OpenSpec.ofChange fnExactIsSkewMatrixWrong)

/-- 'laws.FnExactBivectorOfMatrix': WHATEVER THE INPUT: true; the input reads as it did. -/
def fnExactBivectorOfMatrixSpec : ChangeSpec := { name := "fnExactBivectorOfMatrix", fn := fun _ => fun
  | [d1, d2] => { results := [.lit (.bool true)], args := [d1, d2] }
  | _ => none }
def fnExactBivectorOfMatrixRow : OpenClaim := { program := "ytkibkkdeaojjoaa", sum := "12c7c05c9a9d8267715089b3fb6844ac9de2faa13221beda5db74bdfeff444c9", func := "loop.example/g01124/laws.FnExactBivectorOfMatrix", spec := "fnExactBivectorOfMatrix", unfollowed := true, recurses := true, apart := false }
def FnExactBivectorOfMatrixSaid : Prop := fnExactBivectorOfMatrixRow.holds Try.pinned (OpenSpec.ofChange fnExactBivectorOfMatrixSpec)

/-- ITS FALSE NEIGHBOUR: 'it returns false'. Refute it at one input. -/
def fnExactBivectorOfMatrixWrong : ChangeSpec := { name := "fnExactBivectorOfMatrix", fn := fun _ => fun
  | [d1, d2] => { results := [.lit (.bool false)], args := [d1, d2] }
  | _ => none }
def FnExactBivectorOfMatrixWrongFalsely : Prop := fnExactBivectorOfMatrixRow.holds Try.pinned (OpenSpec.ofChange fnExactBivectorOfMatrixWrong)

/-- 'laws.FnExactMatrixOfBivector': WHATEVER THE INPUT: true; the input reads as it did. -/
def fnExactMatrixOfBivectorSpec : ChangeSpec := { name := "fnExactMatrixOfBivector", fn := fun _ => fun
  | [d1, d2] => { results := [.lit (.bool true)], args := [d1, d2] }
  | _ => none }
def fnExactMatrixOfBivectorRow : OpenClaim := { program := "ytkibkkdeaojjoaa", sum := "12c7c05c9a9d8267715089b3fb6844ac9de2faa13221beda5db74bdfeff444c9", func := "loop.example/g01124/laws.FnExactMatrixOfBivector", spec := "fnExactMatrixOfBivector", unfollowed := true, recurses := true, apart := false }
def FnExactMatrixOfBivectorSaid : Prop := fnExactMatrixOfBivectorRow.holds Try.pinned (OpenSpec.ofChange fnExactMatrixOfBivectorSpec)

/-- ITS FALSE NEIGHBOUR: 'it returns false'. Refute it at one input. -/
def fnExactMatrixOfBivectorWrong : ChangeSpec := { name := "fnExactMatrixOfBivector", fn := fun _ => fun
  | [d1, d2] => { results := [.lit (.bool false)], args := [d1, d2] }
  | _ => none }
def FnExactMatrixOfBivectorWrongFalsely : Prop := fnExactMatrixOfBivectorRow.holds Try.pinned (OpenSpec.ofChange fnExactMatrixOfBivectorWrong)

/-- 'laws.FnExactTurnVector': WHATEVER THE INPUT: true; the input reads as it did. -/
def fnExactTurnVectorSpec : ChangeSpec := { name := "fnExactTurnVector", fn := fun _ => fun
  | [d1, d2, d3] => { results := [.lit (.bool true)], args := [d1, d2, d3] }
  | _ => none }
def fnExactTurnVectorRow : OpenClaim := { program := "ytkibkkdeaojjoaa", sum := "12c7c05c9a9d8267715089b3fb6844ac9de2faa13221beda5db74bdfeff444c9", func := "loop.example/g01124/laws.FnExactTurnVector", spec := "fnExactTurnVector", recurses := true, apart := false }
def FnExactTurnVectorSaid : Prop := fnExactTurnVectorRow.holds Try.pinned (OpenSpec.ofChange fnExactTurnVectorSpec)

/-- ITS FALSE NEIGHBOUR: 'it returns false'. Refute it at one input. -/
def fnExactTurnVectorWrong : ChangeSpec := { name := "fnExactTurnVector", fn := fun _ => fun
  | [d1, d2, d3] => { results := [.lit (.bool false)], args := [d1, d2, d3] }
  | _ => none }
def FnExactTurnVectorWrongFalsely : Prop := fnExactTurnVectorRow.holds Try.pinned (OpenSpec.ofChange fnExactTurnVectorWrong)

/-- 'laws.FnExactBivectorBracket': WHATEVER THE INPUT: true; the input reads as it did. -/
def fnExactBivectorBracketSpec : ChangeSpec := { name := "fnExactBivectorBracket", fn := fun _ => fun
  | [d1, d2, d3] => { results := [.lit (.bool true)], args := [d1, d2, d3] }
  | _ => none }
def fnExactBivectorBracketRow : OpenClaim := { program := "ytkibkkdeaojjoaa", sum := "12c7c05c9a9d8267715089b3fb6844ac9de2faa13221beda5db74bdfeff444c9", func := "loop.example/g01124/laws.FnExactBivectorBracket", spec := "fnExactBivectorBracket", recurses := true, apart := false }
def FnExactBivectorBracketSaid : Prop := fnExactBivectorBracketRow.holds Try.pinned (OpenSpec.ofChange fnExactBivectorBracketSpec)

/-- ITS FALSE NEIGHBOUR: 'it returns false'. Refute it at one input. -/
def fnExactBivectorBracketWrong : ChangeSpec := { name := "fnExactBivectorBracket", fn := fun _ => fun
  | [d1, d2, d3] => { results := [.lit (.bool false)], args := [d1, d2, d3] }
  | _ => none }
def FnExactBivectorBracketWrongFalsely : Prop := fnExactBivectorBracketRow.holds Try.pinned (OpenSpec.ofChange fnExactBivectorBracketWrong)

/-- 'laws.FnExactKillingForm': WHATEVER THE INPUT: true; the input reads as it did. -/
def fnExactKillingFormSpec : ChangeSpec := { name := "fnExactKillingForm", fn := fun _ => fun
  | [d1, d2, d3] => { results := [.lit (.bool true)], args := [d1, d2, d3] }
  | _ => none }
def fnExactKillingFormRow : OpenClaim := { program := "ytkibkkdeaojjoaa", sum := "12c7c05c9a9d8267715089b3fb6844ac9de2faa13221beda5db74bdfeff444c9", func := "loop.example/g01124/laws.FnExactKillingForm", spec := "fnExactKillingForm", unfollowed := true, recurses := true, apart := false }
def FnExactKillingFormSaid : Prop := fnExactKillingFormRow.holds Try.pinned (OpenSpec.ofChange fnExactKillingFormSpec)

/-- ITS FALSE NEIGHBOUR: 'it returns false'. Refute it at one input. -/
def fnExactKillingFormWrong : ChangeSpec := { name := "fnExactKillingForm", fn := fun _ => fun
  | [d1, d2, d3] => { results := [.lit (.bool false)], args := [d1, d2, d3] }
  | _ => none }
def FnExactKillingFormWrongFalsely : Prop := fnExactKillingFormRow.holds Try.pinned (OpenSpec.ofChange fnExactKillingFormWrong)

/- THE SECOND FORM. 'bulk': how many values and letters a reading holds, each counted each time it is reached (what is shared counts as often as it is met; a slice's spare places count too). A statement '..UptoSaid' is the law's where the arguments, and the package variables that the reading takes, are together of bulk at most 1048576: NARROWER than '..Said'. Prove '..Said' where nothing that the law and all that it calls make is longer than what came in: it says more and counts as full. Else prove '..UptoSaid'. A law counts once. -/
mutual
def uptoBulk {H : Type} : DataW H → Nat
  | .lit (.string bytes) => bytes.length + 1
  | .lit _ => 1
  | .nil => 1
  | .ptr d => uptoBulk d + 1
  | .slice elems spare => uptoBulkAll elems + uptoBulkAll spare + 1
  | .agg parts => uptoBulkAll parts + 1
  | .iface _ d => uptoBulk d + 1
  | .map entries => uptoBulkEntries entries + 1
  | .held _ => 1
def uptoBulkAll {H : Type} : List (DataW H) → Nat
  | [] => 0
  | d :: r => uptoBulk d + uptoBulkAll r
def uptoBulkEntries {H : Type} : List (Lit × DataW H) → Nat
  | [] => 0
  | x :: r => uptoBulkEntry x + uptoBulkEntries r
def uptoBulkEntry {H : Type} : Lit × DataW H → Nat
  | (.string bytes, d) => bytes.length + uptoBulk d + 1
  | (_, d) => uptoBulk d + 1
 end
def uptoSmall : (H : Type) → List (DataW H) → Bool := fun _ ds => decide (uptoBulkAll ds ≤ 1048576)
def OpenSpec.upto (s : _root_.Go.ChangeSpec) : _root_.Go.OpenSpec := { _root_.Go.OpenSpec.ofChange s with cond := some uptoSmall }

/-- 'laws.FnExactIsBivector', WHERE WHAT IT READS IS OF BULK AT MOST 1048576: true; the input reads as it did. -/
def fnExactIsBivectorUptoRow : OpenClaim := { program := "ytkibkkdeaojjoaa", sum := "12c7c05c9a9d8267715089b3fb6844ac9de2faa13221beda5db74bdfeff444c9", func := "loop.example/g01124/laws.FnExactIsBivector", spec := "fnExactIsBivector", apart := false, narrowed := true }
def FnExactIsBivectorUptoSaid : Prop := fnExactIsBivectorUptoRow.holds Try.pinned (OpenSpec.upto fnExactIsBivectorSpec)

/-- 'laws.FnExactIsSkewMatrix', WHERE WHAT IT READS IS OF BULK AT MOST 1048576: true; the input reads as it did. -/
def fnExactIsSkewMatrixUptoRow : OpenClaim := { program := "ytkibkkdeaojjoaa", sum := "12c7c05c9a9d8267715089b3fb6844ac9de2faa13221beda5db74bdfeff444c9", func := "loop.example/g01124/laws.FnExactIsSkewMatrix", spec := "fnExactIsSkewMatrix", unfollowed := true, recurses := true, apart := false, narrowed := true }
def FnExactIsSkewMatrixUptoSaid : Prop := fnExactIsSkewMatrixUptoRow.holds Try.pinned (OpenSpec.upto fnExactIsSkewMatrixSpec)

/-- 'laws.FnExactBivectorOfMatrix', WHERE WHAT IT READS IS OF BULK AT MOST 1048576: true; the input reads as it did. -/
def fnExactBivectorOfMatrixUptoRow : OpenClaim := { program := "ytkibkkdeaojjoaa", sum := "12c7c05c9a9d8267715089b3fb6844ac9de2faa13221beda5db74bdfeff444c9", func := "loop.example/g01124/laws.FnExactBivectorOfMatrix", spec := "fnExactBivectorOfMatrix", unfollowed := true, recurses := true, apart := false, narrowed := true }
def FnExactBivectorOfMatrixUptoSaid : Prop := fnExactBivectorOfMatrixUptoRow.holds Try.pinned (OpenSpec.upto fnExactBivectorOfMatrixSpec)

/-- 'laws.FnExactMatrixOfBivector', WHERE WHAT IT READS IS OF BULK AT MOST 1048576: true; the input reads as it did. -/
def fnExactMatrixOfBivectorUptoRow : OpenClaim := { program := "ytkibkkdeaojjoaa", sum := "12c7c05c9a9d8267715089b3fb6844ac9de2faa13221beda5db74bdfeff444c9", func := "loop.example/g01124/laws.FnExactMatrixOfBivector", spec := "fnExactMatrixOfBivector", unfollowed := true, recurses := true, apart := false, narrowed := true }
def FnExactMatrixOfBivectorUptoSaid : Prop := fnExactMatrixOfBivectorUptoRow.holds Try.pinned (OpenSpec.upto fnExactMatrixOfBivectorSpec)

/-- 'laws.FnExactTurnVector', WHERE WHAT IT READS IS OF BULK AT MOST 1048576: true; the input reads as it did. -/
def fnExactTurnVectorUptoRow : OpenClaim := { program := "ytkibkkdeaojjoaa", sum := "12c7c05c9a9d8267715089b3fb6844ac9de2faa13221beda5db74bdfeff444c9", func := "loop.example/g01124/laws.FnExactTurnVector", spec := "fnExactTurnVector", recurses := true, apart := false, narrowed := true }
def FnExactTurnVectorUptoSaid : Prop := fnExactTurnVectorUptoRow.holds Try.pinned (OpenSpec.upto fnExactTurnVectorSpec)

/-- 'laws.FnExactBivectorBracket', WHERE WHAT IT READS IS OF BULK AT MOST 1048576: true; the input reads as it did. -/
def fnExactBivectorBracketUptoRow : OpenClaim := { program := "ytkibkkdeaojjoaa", sum := "12c7c05c9a9d8267715089b3fb6844ac9de2faa13221beda5db74bdfeff444c9", func := "loop.example/g01124/laws.FnExactBivectorBracket", spec := "fnExactBivectorBracket", recurses := true, apart := false, narrowed := true }
def FnExactBivectorBracketUptoSaid : Prop := fnExactBivectorBracketUptoRow.holds Try.pinned (OpenSpec.upto fnExactBivectorBracketSpec)

/-- 'laws.FnExactKillingForm', WHERE WHAT IT READS IS OF BULK AT MOST 1048576: true; the input reads as it did. -/
def fnExactKillingFormUptoRow : OpenClaim := { program := "ytkibkkdeaojjoaa", sum := "12c7c05c9a9d8267715089b3fb6844ac9de2faa13221beda5db74bdfeff444c9", func := "loop.example/g01124/laws.FnExactKillingForm", spec := "fnExactKillingForm", unfollowed := true, recurses := true, apart := false, narrowed := true }
def FnExactKillingFormUptoSaid : Prop := fnExactKillingFormUptoRow.holds Try.pinned (OpenSpec.upto fnExactKillingFormSpec)

end Rows
end Go.Proofs.Ytkibkkdeaojjoaa
