/-
  No cell of these rows narrows 'for every input' (looked for: loops, veiled, ifaces, maps, wideKeys, modest, calm, conditions, laid).
  DERIVED. THE GIVEN ROWS OF THIS SEAT. 8 by the template 'for every input the law returns true; each argument reads behind the call as it read before'; 0 by the template 'total and deterministic' (their statements: YtgfanoejohpmkaaGreatTotals.lean).
  GIVEN WITH THE SEED: the statements are not yours to turn. If you find one false, say at which input.
  Laid BY PROGRAM, IN A SANDBOX (cutbox-rows.mjs): the forced cells as the released guide's own fill.sh prints them over the translation 4ef8df681ebb890d… (all of the seat's roots in one cut). By AI agents, Wed Nov 11 2026. No macro, syntax, notation, axiom, sorry.
-/
import Derived.Test.YtgfanoejohpmkaaGreatChecked
import GoSem.Claim
import GoSem.ClaimJoined
import GoSem.ClaimMapViews
import Derived.JoinedTies
import Derived.KernelRfl
namespace Go.Proofs.YtgfanoejohpmkaaGreat
/- THE CELL 'sum', in the pinned program and in every row, IS THE sha256 OF THE DUMP (.gsa) THAT YtgfanoejohpmkaaGreatProg.lean LOADS. Nothing in Lean hashes anything: it is a label: what it is worth is what the hold of that sum in a sandbox is worth. -/
noncomputable def Tryz.pinned : Pinned := { name := "ytgfanoejohpmkaagreat", sum := "4ef8df681ebb890dd7eddacb205fea0fb0a21a7b8d2eb22838798690c593c755", checked := Tryz.checked }
namespace Rows
def none {H : Type} : Left H := { results := [], args := [] }

/-- 'laws.FnVersors': WHATEVER THE INPUT: true; the input reads as it did. -/
def fnVersorsSpec : ChangeSpec := { name := "fnVersors", fn := fun _ => fun
  | [d] => { results := [.lit (.bool true)], args := [d] }
  | _ => none }
def fnVersorsRow : OpenClaim := { program := "ytgfanoejohpmkaagreat", sum := "4ef8df681ebb890dd7eddacb205fea0fb0a21a7b8d2eb22838798690c593c755", func := "loop.example/g01124/laws.FnVersors", spec := "fnVersors", unfollowed := true, recurses := true, apart := false }
def FnVersorsSaid : Prop := fnVersorsRow.holds Tryz.pinned (OpenSpec.ofChange fnVersorsSpec)

/-- ITS FALSE NEIGHBOUR: 'it returns false'. Refute it at one input. -/
def fnVersorsWrong : ChangeSpec := { name := "fnVersors", fn := fun _ => fun
  | [d] => { results := [.lit (.bool false)], args := [d] }
  | _ => none }
def FnVersorsWrongFalsely : Prop := fnVersorsRow.holds Tryz.pinned (OpenSpec.ofChange fnVersorsWrong)

/-- 'laws.FnSandwiches': WHATEVER THE INPUT: true; the input reads as it did. -/
def fnSandwichesSpec : ChangeSpec := { name := "fnSandwiches", fn := fun _ => fun
  | [d] => { results := [.lit (.bool true)], args := [d] }
  | _ => none }
def fnSandwichesRow : OpenClaim := { program := "ytgfanoejohpmkaagreat", sum := "4ef8df681ebb890dd7eddacb205fea0fb0a21a7b8d2eb22838798690c593c755", func := "loop.example/g01124/laws.FnSandwiches", spec := "fnSandwiches", unfollowed := true, recurses := true, apart := false }
def FnSandwichesSaid : Prop := fnSandwichesRow.holds Tryz.pinned (OpenSpec.ofChange fnSandwichesSpec)

/-- ITS FALSE NEIGHBOUR: 'it returns false'. Refute it at one input. -/
def fnSandwichesWrong : ChangeSpec := { name := "fnSandwiches", fn := fun _ => fun
  | [d] => { results := [.lit (.bool false)], args := [d] }
  | _ => none }
def FnSandwichesWrongFalsely : Prop := fnSandwichesRow.holds Tryz.pinned (OpenSpec.ofChange fnSandwichesWrong)

/-- 'laws.FnProjections': WHATEVER THE INPUT: true; the input reads as it did. -/
def fnProjectionsSpec : ChangeSpec := { name := "fnProjections", fn := fun _ => fun
  | [d] => { results := [.lit (.bool true)], args := [d] }
  | _ => none }
def fnProjectionsRow : OpenClaim := { program := "ytgfanoejohpmkaagreat", sum := "4ef8df681ebb890dd7eddacb205fea0fb0a21a7b8d2eb22838798690c593c755", func := "loop.example/g01124/laws.FnProjections", spec := "fnProjections", inPlace := ["slices.overlaps[[]int64]", "slices.overlaps[int]"], unfollowed := true, recurses := true, apart := false }
def FnProjectionsSaid : Prop := fnProjectionsRow.holds Tryz.pinned (OpenSpec.ofChange fnProjectionsSpec)

/-- ITS FALSE NEIGHBOUR: 'it returns false'. Refute it at one input. -/
def fnProjectionsWrong : ChangeSpec := { name := "fnProjections", fn := fun _ => fun
  | [d] => { results := [.lit (.bool false)], args := [d] }
  | _ => none }
def FnProjectionsWrongFalsely : Prop := fnProjectionsRow.holds Tryz.pinned (OpenSpec.ofChange fnProjectionsWrong)

/-- 'laws.FnBlades': WHATEVER THE INPUT: true; the input reads as it did. -/
def fnBladesSpec : ChangeSpec := { name := "fnBlades", fn := fun _ => fun
  | [d] => { results := [.lit (.bool true)], args := [d] }
  | _ => none }
def fnBladesRow : OpenClaim := { program := "ytgfanoejohpmkaagreat", sum := "4ef8df681ebb890dd7eddacb205fea0fb0a21a7b8d2eb22838798690c593c755", func := "loop.example/g01124/laws.FnBlades", spec := "fnBlades", inPlace := ["slices.overlaps[[]int64]", "slices.overlaps[int]"], unfollowed := true, recurses := true, apart := false }
def FnBladesSaid : Prop := fnBladesRow.holds Tryz.pinned (OpenSpec.ofChange fnBladesSpec)

/-- ITS FALSE NEIGHBOUR: 'it returns false'. Refute it at one input. -/
def fnBladesWrong : ChangeSpec := { name := "fnBlades", fn := fun _ => fun
  | [d] => { results := [.lit (.bool false)], args := [d] }
  | _ => none }
def FnBladesWrongFalsely : Prop := fnBladesRow.holds Tryz.pinned (OpenSpec.ofChange fnBladesWrong)

/-- 'laws.FnJoins': WHATEVER THE INPUT: true; the input reads as it did. -/
def fnJoinsSpec : ChangeSpec := { name := "fnJoins", fn := fun _ => fun
  | [d] => { results := [.lit (.bool true)], args := [d] }
  | _ => none }
def fnJoinsRow : OpenClaim := { program := "ytgfanoejohpmkaagreat", sum := "4ef8df681ebb890dd7eddacb205fea0fb0a21a7b8d2eb22838798690c593c755", func := "loop.example/g01124/laws.FnJoins", spec := "fnJoins", inPlace := ["slices.overlaps[[]int64]", "slices.overlaps[int]"], unfollowed := true, recurses := true, apart := false }
def FnJoinsSaid : Prop := fnJoinsRow.holds Tryz.pinned (OpenSpec.ofChange fnJoinsSpec)

/-- ITS FALSE NEIGHBOUR: 'it returns false'. Refute it at one input. -/
def fnJoinsWrong : ChangeSpec := { name := "fnJoins", fn := fun _ => fun
  | [d] => { results := [.lit (.bool false)], args := [d] }
  | _ => none }
def FnJoinsWrongFalsely : Prop := fnJoinsRow.holds Tryz.pinned (OpenSpec.ofChange fnJoinsWrong)

/-- 'laws.FnExactJoinOf': WHATEVER THE INPUT: true; the input reads as it did. -/
def fnExactJoinOfSpec : ChangeSpec := { name := "fnExactJoinOf", fn := fun _ => fun
  | [d1, d2, d3] => { results := [.lit (.bool true)], args := [d1, d2, d3] }
  | _ => none }
def fnExactJoinOfRow : OpenClaim := { program := "ytgfanoejohpmkaagreat", sum := "4ef8df681ebb890dd7eddacb205fea0fb0a21a7b8d2eb22838798690c593c755", func := "loop.example/g01124/laws.FnExactJoinOf", spec := "fnExactJoinOf", inPlace := ["slices.overlaps[[]int64]", "slices.overlaps[int]"], unfollowed := true, recurses := true, apart := false }
def FnExactJoinOfSaid : Prop := fnExactJoinOfRow.holds Tryz.pinned (OpenSpec.ofChange fnExactJoinOfSpec)

/-- ITS FALSE NEIGHBOUR: 'it returns false'. Refute it at one input. -/
def fnExactJoinOfWrong : ChangeSpec := { name := "fnExactJoinOf", fn := fun _ => fun
  | [d1, d2, d3] => { results := [.lit (.bool false)], args := [d1, d2, d3] }
  | _ => none }
def FnExactJoinOfWrongFalsely : Prop := fnExactJoinOfRow.holds Tryz.pinned (OpenSpec.ofChange fnExactJoinOfWrong)

/-- 'laws.FnExactCommonBlade': WHATEVER THE INPUT: true; the input reads as it did. -/
def fnExactCommonBladeSpec : ChangeSpec := { name := "fnExactCommonBlade", fn := fun _ => fun
  | [d1, d2, d3] => { results := [.lit (.bool true)], args := [d1, d2, d3] }
  | _ => none }
def fnExactCommonBladeRow : OpenClaim := { program := "ytgfanoejohpmkaagreat", sum := "4ef8df681ebb890dd7eddacb205fea0fb0a21a7b8d2eb22838798690c593c755", func := "loop.example/g01124/laws.FnExactCommonBlade", spec := "fnExactCommonBlade", inPlace := ["slices.overlaps[[]int64]", "slices.overlaps[int]"], unfollowed := true, recurses := true, apart := false }
def FnExactCommonBladeSaid : Prop := fnExactCommonBladeRow.holds Tryz.pinned (OpenSpec.ofChange fnExactCommonBladeSpec)

/-- ITS FALSE NEIGHBOUR: 'it returns false'. Refute it at one input. -/
def fnExactCommonBladeWrong : ChangeSpec := { name := "fnExactCommonBlade", fn := fun _ => fun
  | [d1, d2, d3] => { results := [.lit (.bool false)], args := [d1, d2, d3] }
  | _ => none }
def FnExactCommonBladeWrongFalsely : Prop := fnExactCommonBladeRow.holds Tryz.pinned (OpenSpec.ofChange fnExactCommonBladeWrong)

/-- 'laws.FnWedges': WHATEVER THE INPUT: true; the input reads as it did. -/
def fnWedgesSpec : ChangeSpec := { name := "fnWedges", fn := fun _ => fun
  | [d] => { results := [.lit (.bool true)], args := [d] }
  | _ => none }
def fnWedgesRow : OpenClaim := { program := "ytgfanoejohpmkaagreat", sum := "4ef8df681ebb890dd7eddacb205fea0fb0a21a7b8d2eb22838798690c593c755", func := "loop.example/g01124/laws.FnWedges", spec := "fnWedges", inPlace := ["slices.overlaps[[]int64]", "slices.overlaps[int]"], unfollowed := true, recurses := true, apart := false }
def FnWedgesSaid : Prop := fnWedgesRow.holds Tryz.pinned (OpenSpec.ofChange fnWedgesSpec)

/-- ITS FALSE NEIGHBOUR: 'it returns false'. Refute it at one input. -/
def fnWedgesWrong : ChangeSpec := { name := "fnWedges", fn := fun _ => fun
  | [d] => { results := [.lit (.bool false)], args := [d] }
  | _ => none }
def FnWedgesWrongFalsely : Prop := fnWedgesRow.holds Tryz.pinned (OpenSpec.ofChange fnWedgesWrong)

/- THE SECOND FORM. 'bulk': how many values and letters a reading holds, each counted each time it is reached (what is shared counts as often as it is met; a slice's spare places count too). A statement '..UptoSaid' is the law's where the arguments, and the package variables that the reading takes, are together of bulk at most 1048576: NARROWER than '..Said'. Prove '..Said' where nothing that the law and all that it calls make is longer than what came in: it says more and counts as full. Else prove '..UptoSaid'. A law counts once. -/
mutual
def uptoBulk {H : Type} : DataW H → Nat
  | .lit (.string bytes) => bytes.length + 1
  | .lit _ => 1
  | .nil => 1
  | .ptr d => uptoBulk d + 1
  | .slice elems spare => uptoBulkAll elems + uptoBulkAll spare + 1
  | .agg parts => uptoBulkAll parts + 1
  | .iface _ d => uptoBulk d + 1
  | .map entries => uptoBulkEntries entries + 1
  | .held _ => 1
def uptoBulkAll {H : Type} : List (DataW H) → Nat
  | [] => 0
  | d :: r => uptoBulk d + uptoBulkAll r
def uptoBulkEntries {H : Type} : List (Lit × DataW H) → Nat
  | [] => 0
  | x :: r => uptoBulkEntry x + uptoBulkEntries r
def uptoBulkEntry {H : Type} : Lit × DataW H → Nat
  | (.string bytes, d) => bytes.length + uptoBulk d + 1
  | (_, d) => uptoBulk d + 1
 end
def uptoSmall : (H : Type) → List (DataW H) → Bool := fun _ ds => decide (uptoBulkAll ds ≤ 1048576)
def OpenSpec.upto (s : _root_.Go.ChangeSpec) : _root_.Go.OpenSpec := { _root_.Go.OpenSpec.ofChange s with cond := some uptoSmall }

/-- 'laws.FnVersors', WHERE WHAT IT READS IS OF BULK AT MOST 1048576: true; the input reads as it did. -/
def fnVersorsUptoRow : OpenClaim := { program := "ytgfanoejohpmkaagreat", sum := "4ef8df681ebb890dd7eddacb205fea0fb0a21a7b8d2eb22838798690c593c755", func := "loop.example/g01124/laws.FnVersors", spec := "fnVersors", unfollowed := true, recurses := true, apart := false, narrowed := true }
def FnVersorsUptoSaid : Prop := fnVersorsUptoRow.holds Tryz.pinned (OpenSpec.upto fnVersorsSpec)

/-- 'laws.FnSandwiches', WHERE WHAT IT READS IS OF BULK AT MOST 1048576: true; the input reads as it did. -/
def fnSandwichesUptoRow : OpenClaim := { program := "ytgfanoejohpmkaagreat", sum := "4ef8df681ebb890dd7eddacb205fea0fb0a21a7b8d2eb22838798690c593c755", func := "loop.example/g01124/laws.FnSandwiches", spec := "fnSandwiches", unfollowed := true, recurses := true, apart := false, narrowed := true }
def FnSandwichesUptoSaid : Prop := fnSandwichesUptoRow.holds Tryz.pinned (OpenSpec.upto fnSandwichesSpec)

/-- 'laws.FnProjections', WHERE WHAT IT READS IS OF BULK AT MOST 1048576: true; the input reads as it did. -/
def fnProjectionsUptoRow : OpenClaim := { program := "ytgfanoejohpmkaagreat", sum := "4ef8df681ebb890dd7eddacb205fea0fb0a21a7b8d2eb22838798690c593c755", func := "loop.example/g01124/laws.FnProjections", spec := "fnProjections", inPlace := ["slices.overlaps[[]int64]", "slices.overlaps[int]"], unfollowed := true, recurses := true, apart := false, narrowed := true }
def FnProjectionsUptoSaid : Prop := fnProjectionsUptoRow.holds Tryz.pinned (OpenSpec.upto fnProjectionsSpec)

/-- 'laws.FnBlades', WHERE WHAT IT READS IS OF BULK AT MOST 1048576: true; the input reads as it did. -/
def fnBladesUptoRow : OpenClaim := { program := "ytgfanoejohpmkaagreat", sum := "4ef8df681ebb890dd7eddacb205fea0fb0a21a7b8d2eb22838798690c593c755", func := "loop.example/g01124/laws.FnBlades", spec := "fnBlades", inPlace := ["slices.overlaps[[]int64]", "slices.overlaps[int]"], unfollowed := true, recurses := true, apart := false, narrowed := true }
def FnBladesUptoSaid : Prop := fnBladesUptoRow.holds Tryz.pinned (OpenSpec.upto fnBladesSpec)

/-- 'laws.FnJoins', WHERE WHAT IT READS IS OF BULK AT MOST 1048576: true; the input reads as it did. -/
def fnJoinsUptoRow : OpenClaim := { program := "ytgfanoejohpmkaagreat", sum := "4ef8df681ebb890dd7eddacb205fea0fb0a21a7b8d2eb22838798690c593c755", func := "loop.example/g01124/laws.FnJoins", spec := "fnJoins", inPlace := ["slices.overlaps[[]int64]", "slices.overlaps[int]"], unfollowed := true, recurses := true, apart := false, narrowed := true }
def FnJoinsUptoSaid : Prop := fnJoinsUptoRow.holds Tryz.pinned (OpenSpec.upto fnJoinsSpec)

/-- 'laws.FnExactJoinOf', WHERE WHAT IT READS IS OF BULK AT MOST 1048576: true; the input reads as it did. -/
def fnExactJoinOfUptoRow : OpenClaim := { program := "ytgfanoejohpmkaagreat", sum := "4ef8df681ebb890dd7eddacb205fea0fb0a21a7b8d2eb22838798690c593c755", func := "loop.example/g01124/laws.FnExactJoinOf", spec := "fnExactJoinOf", inPlace := ["slices.overlaps[[]int64]", "slices.overlaps[int]"], unfollowed := true, recurses := true, apart := false, narrowed := true }
def FnExactJoinOfUptoSaid : Prop := fnExactJoinOfUptoRow.holds Tryz.pinned (OpenSpec.upto fnExactJoinOfSpec)

/-- 'laws.FnExactCommonBlade', WHERE WHAT IT READS IS OF BULK AT MOST 1048576: true; the input reads as it did. -/
def fnExactCommonBladeUptoRow : OpenClaim := { program := "ytgfanoejohpmkaagreat", sum := "4ef8df681ebb890dd7eddacb205fea0fb0a21a7b8d2eb22838798690c593c755", func := "loop.example/g01124/laws.FnExactCommonBlade", spec := "fnExactCommonBlade", inPlace := ["slices.overlaps[[]int64]", "slices.overlaps[int]"], unfollowed := true, recurses := true, apart := false, narrowed := true }
def FnExactCommonBladeUptoSaid : Prop := fnExactCommonBladeUptoRow.holds Tryz.pinned (OpenSpec.upto fnExactCommonBladeSpec)

/-- 'laws.FnWedges', WHERE WHAT IT READS IS OF BULK AT MOST 1048576: true; the input reads as it did. -/
def fnWedgesUptoRow : OpenClaim := { program := "ytgfanoejohpmkaagreat", sum := "4ef8df681ebb890dd7eddacb205fea0fb0a21a7b8d2eb22838798690c593c755", func := "loop.example/g01124/laws.FnWedges", spec := "fnWedges", inPlace := ["slices.overlaps[[]int64]", "slices.overlaps[int]"], unfollowed := true, recurses := true, apart := false, narrowed := true }
def FnWedgesUptoSaid : Prop := fnWedgesUptoRow.holds Tryz.pinned (OpenSpec.upto fnWedgesSpec)

end Rows
end Go.Proofs.YtgfanoejohpmkaaGreat
