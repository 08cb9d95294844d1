/-
  No cell of these rows narrows 'for every input' (looked for: loops, veiled, ifaces, maps, wideKeys, modest, calm, conditions, laid).
  DERIVED. THE GIVEN ROWS OF THIS SEAT. 11 by the template 'for every input the law returns true; each argument reads behind the call as it read before'; 0 by the template 'total and deterministic' (their statements: YtgkifpampmmhoaaTotals.lean).
  GIVEN WITH THE SEED: the statements are not yours to turn. If you find one false, say at which input.
  Laid BY PROGRAM, IN A SANDBOX (cutbox-rows.mjs): the forced cells as the released guide's own fill.sh prints them over the translation ecd74525df7ea479… (all of the seat's roots in one cut). By AI agents, Wed Nov 11 2026. No macro, syntax, notation, axiom, sorry.
-/
import Derived.Test.YtgkifpampmmhoaaChecked
import GoSem.Claim
import GoSem.ClaimJoined
import GoSem.ClaimMapViews
import Derived.JoinedTies
import Derived.KernelRfl
namespace Go.Proofs.Ytgkifpampmmhoaa
/- THE CELL 'sum', in the pinned program and in every row, IS THE sha256 OF THE DUMP (.gsa) THAT YtgkifpampmmhoaaProg.lean LOADS. Nothing in Lean hashes anything: it is a label: what it is worth is what the hold of that sum in a sandbox is worth. -/
noncomputable def Try.pinned : Pinned := { name := "ytgkifpampmmhoaa", sum := "ecd74525df7ea479c9d55a7ffe9b134fa57d66f2bb32497e5c3bc2fac02724da", checked := Try.checked }
namespace Rows
def none {H : Type} : Left H := { results := [], args := [] }

/-- 'laws.FnNumbers': WHATEVER THE INPUT: true; the input reads as it did. -/
def fnNumbersSpec : ChangeSpec := { name := "fnNumbers", fn := fun _ => fun
  | [d] => { results := [.lit (.bool true)], args := [d] }
  | _ => none }
def fnNumbersRow : OpenClaim := { program := "ytgkifpampmmhoaa", sum := "ecd74525df7ea479c9d55a7ffe9b134fa57d66f2bb32497e5c3bc2fac02724da", func := "loop.example/g01124/laws.FnNumbers", spec := "fnNumbers", unfollowed := true, recurses := true, apart := false }
def FnNumbersSaid : Prop := fnNumbersRow.holds Try.pinned (OpenSpec.ofChange fnNumbersSpec)

/-- ITS FALSE NEIGHBOUR: 'it returns false'. Refute it at one input. -/
def fnNumbersWrong : ChangeSpec := { name := "fnNumbers", fn := fun _ => fun
  | [d] => { results := [.lit (.bool false)], args := [d] }
  | _ => none }
def FnNumbersWrongFalsely : Prop := fnNumbersRow.holds Try.pinned (OpenSpec.ofChange fnNumbersWrong)

/-- 'laws.FnSquares': WHATEVER THE INPUT: true; the input reads as it did. -/
def fnSquaresSpec : ChangeSpec := { name := "fnSquares", fn := fun _ => fun
  | [d] => { results := [.lit (.bool true)], args := [d] }
  | _ => none }
def fnSquaresRow : OpenClaim := { program := "ytgkifpampmmhoaa", sum := "ecd74525df7ea479c9d55a7ffe9b134fa57d66f2bb32497e5c3bc2fac02724da", func := "loop.example/g01124/laws.FnSquares", spec := "fnSquares", recurses := true, apart := false }
def FnSquaresSaid : Prop := fnSquaresRow.holds Try.pinned (OpenSpec.ofChange fnSquaresSpec)

/-- ITS FALSE NEIGHBOUR: 'it returns false'. Refute it at one input. -/
def fnSquaresWrong : ChangeSpec := { name := "fnSquares", fn := fun _ => fun
  | [d] => { results := [.lit (.bool false)], args := [d] }
  | _ => none }
def FnSquaresWrongFalsely : Prop := fnSquaresRow.holds Try.pinned (OpenSpec.ofChange fnSquaresWrong)

/-- 'laws.FnExactIsPrime': WHATEVER THE INPUT: true; the input reads as it did. -/
def fnExactIsPrimeSpec : ChangeSpec := { name := "fnExactIsPrime", fn := fun _ => fun
  | [d] => { results := [.lit (.bool true)], args := [d] }
  | _ => none }
def fnExactIsPrimeRow : OpenClaim := { program := "ytgkifpampmmhoaa", sum := "ecd74525df7ea479c9d55a7ffe9b134fa57d66f2bb32497e5c3bc2fac02724da", func := "loop.example/g01124/laws.FnExactIsPrime", spec := "fnExactIsPrime", apart := false }
def FnExactIsPrimeSaid : Prop := fnExactIsPrimeRow.holds Try.pinned (OpenSpec.ofChange fnExactIsPrimeSpec)

/-- ITS FALSE NEIGHBOUR: 'it returns false'. Refute it at one input. -/
def fnExactIsPrimeWrong : ChangeSpec := { name := "fnExactIsPrime", fn := fun _ => fun
  | [d] => { results := [.lit (.bool false)], args := [d] }
  | _ => none }
def FnExactIsPrimeWrongFalsely : Prop := fnExactIsPrimeRow.holds Try.pinned (OpenSpec.ofChange fnExactIsPrimeWrong)

/-- 'laws.FnExactNumberOf': WHATEVER THE INPUT: true; the input reads as it did. -/
def fnExactNumberOfSpec : ChangeSpec := { name := "fnExactNumberOf", fn := fun _ => fun
  | [d1, d2] => { results := [.lit (.bool true)], args := [d1, d2] }
  | _ => none }
def fnExactNumberOfRow : OpenClaim := { program := "ytgkifpampmmhoaa", sum := "ecd74525df7ea479c9d55a7ffe9b134fa57d66f2bb32497e5c3bc2fac02724da", func := "loop.example/g01124/laws.FnExactNumberOf", spec := "fnExactNumberOf", apart := false }
def FnExactNumberOfSaid : Prop := fnExactNumberOfRow.holds Try.pinned (OpenSpec.ofChange fnExactNumberOfSpec)

/-- ITS FALSE NEIGHBOUR: 'it returns false'. Refute it at one input. -/
def fnExactNumberOfWrong : ChangeSpec := { name := "fnExactNumberOf", fn := fun _ => fun
  | [d1, d2] => { results := [.lit (.bool false)], args := [d1, d2] }
  | _ => none }
def FnExactNumberOfWrongFalsely : Prop := fnExactNumberOfRow.holds Try.pinned (OpenSpec.ofChange fnExactNumberOfWrong)

/-- 'laws.FnExactAddNumbers': WHATEVER THE INPUT: true; the input reads as it did. -/
def fnExactAddNumbersSpec : ChangeSpec := { name := "fnExactAddNumbers", fn := fun _ => fun
  | [d1, d2, d3] => { results := [.lit (.bool true)], args := [d1, d2, d3] }
  | _ => none }
def fnExactAddNumbersRow : OpenClaim := { program := "ytgkifpampmmhoaa", sum := "ecd74525df7ea479c9d55a7ffe9b134fa57d66f2bb32497e5c3bc2fac02724da", func := "loop.example/g01124/laws.FnExactAddNumbers", spec := "fnExactAddNumbers", unfollowed := true, recurses := true, apart := false }
def FnExactAddNumbersSaid : Prop := fnExactAddNumbersRow.holds Try.pinned (OpenSpec.ofChange fnExactAddNumbersSpec)

/-- ITS FALSE NEIGHBOUR: 'it returns false'. Refute it at one input. -/
def fnExactAddNumbersWrong : ChangeSpec := { name := "fnExactAddNumbers", fn := fun _ => fun
  | [d1, d2, d3] => { results := [.lit (.bool false)], args := [d1, d2, d3] }
  | _ => none }
def FnExactAddNumbersWrongFalsely : Prop := fnExactAddNumbersRow.holds Try.pinned (OpenSpec.ofChange fnExactAddNumbersWrong)

/-- 'laws.FnExactSubtractNumbers': WHATEVER THE INPUT: true; the input reads as it did. -/
def fnExactSubtractNumbersSpec : ChangeSpec := { name := "fnExactSubtractNumbers", fn := fun _ => fun
  | [d1, d2, d3] => { results := [.lit (.bool true)], args := [d1, d2, d3] }
  | _ => none }
def fnExactSubtractNumbersRow : OpenClaim := { program := "ytgkifpampmmhoaa", sum := "ecd74525df7ea479c9d55a7ffe9b134fa57d66f2bb32497e5c3bc2fac02724da", func := "loop.example/g01124/laws.FnExactSubtractNumbers", spec := "fnExactSubtractNumbers", unfollowed := true, recurses := true, apart := false }
def FnExactSubtractNumbersSaid : Prop := fnExactSubtractNumbersRow.holds Try.pinned (OpenSpec.ofChange fnExactSubtractNumbersSpec)

/-- ITS FALSE NEIGHBOUR: 'it returns false'. Refute it at one input. -/
def fnExactSubtractNumbersWrong : ChangeSpec := { name := "fnExactSubtractNumbers", fn := fun _ => fun
  | [d1, d2, d3] => { results := [.lit (.bool false)], args := [d1, d2, d3] }
  | _ => none }
def FnExactSubtractNumbersWrongFalsely : Prop := fnExactSubtractNumbersRow.holds Try.pinned (OpenSpec.ofChange fnExactSubtractNumbersWrong)

/-- 'laws.FnExactMultiplyNumbers': WHATEVER THE INPUT: true; the input reads as it did. -/
def fnExactMultiplyNumbersSpec : ChangeSpec := { name := "fnExactMultiplyNumbers", fn := fun _ => fun
  | [d1, d2, d3] => { results := [.lit (.bool true)], args := [d1, d2, d3] }
  | _ => none }
def fnExactMultiplyNumbersRow : OpenClaim := { program := "ytgkifpampmmhoaa", sum := "ecd74525df7ea479c9d55a7ffe9b134fa57d66f2bb32497e5c3bc2fac02724da", func := "loop.example/g01124/laws.FnExactMultiplyNumbers", spec := "fnExactMultiplyNumbers", unfollowed := true, recurses := true, apart := false }
def FnExactMultiplyNumbersSaid : Prop := fnExactMultiplyNumbersRow.holds Try.pinned (OpenSpec.ofChange fnExactMultiplyNumbersSpec)

/-- ITS FALSE NEIGHBOUR: 'it returns false'. Refute it at one input. -/
def fnExactMultiplyNumbersWrong : ChangeSpec := { name := "fnExactMultiplyNumbers", fn := fun _ => fun
  | [d1, d2, d3] => { results := [.lit (.bool false)], args := [d1, d2, d3] }
  | _ => none }
def FnExactMultiplyNumbersWrongFalsely : Prop := fnExactMultiplyNumbersRow.holds Try.pinned (OpenSpec.ofChange fnExactMultiplyNumbersWrong)

/-- 'laws.FnExactDivideNumbers': WHATEVER THE INPUT: true; the input reads as it did. -/
def fnExactDivideNumbersSpec : ChangeSpec := { name := "fnExactDivideNumbers", fn := fun _ => fun
  | [d1, d2, d3] => { results := [.lit (.bool true)], args := [d1, d2, d3] }
  | _ => none }
def fnExactDivideNumbersRow : OpenClaim := { program := "ytgkifpampmmhoaa", sum := "ecd74525df7ea479c9d55a7ffe9b134fa57d66f2bb32497e5c3bc2fac02724da", func := "loop.example/g01124/laws.FnExactDivideNumbers", spec := "fnExactDivideNumbers", recurses := true, apart := false }
def FnExactDivideNumbersSaid : Prop := fnExactDivideNumbersRow.holds Try.pinned (OpenSpec.ofChange fnExactDivideNumbersSpec)

/-- ITS FALSE NEIGHBOUR: 'it returns false'. Refute it at one input. -/
def fnExactDivideNumbersWrong : ChangeSpec := { name := "fnExactDivideNumbers", fn := fun _ => fun
  | [d1, d2, d3] => { results := [.lit (.bool false)], args := [d1, d2, d3] }
  | _ => none }
def FnExactDivideNumbersWrongFalsely : Prop := fnExactDivideNumbersRow.holds Try.pinned (OpenSpec.ofChange fnExactDivideNumbersWrong)

/-- 'laws.FnExactPowerNumber': WHATEVER THE INPUT: true; the input reads as it did. -/
def fnExactPowerNumberSpec : ChangeSpec := { name := "fnExactPowerNumber", fn := fun _ => fun
  | [d1, d2, d3] => { results := [.lit (.bool true)], args := [d1, d2, d3] }
  | _ => none }
def fnExactPowerNumberRow : OpenClaim := { program := "ytgkifpampmmhoaa", sum := "ecd74525df7ea479c9d55a7ffe9b134fa57d66f2bb32497e5c3bc2fac02724da", func := "loop.example/g01124/laws.FnExactPowerNumber", spec := "fnExactPowerNumber", recurses := true, apart := false }
def FnExactPowerNumberSaid : Prop := fnExactPowerNumberRow.holds Try.pinned (OpenSpec.ofChange fnExactPowerNumberSpec)

/-- ITS FALSE NEIGHBOUR: 'it returns false'. Refute it at one input. -/
def fnExactPowerNumberWrong : ChangeSpec := { name := "fnExactPowerNumber", fn := fun _ => fun
  | [d1, d2, d3] => { results := [.lit (.bool false)], args := [d1, d2, d3] }
  | _ => none }
def FnExactPowerNumberWrongFalsely : Prop := fnExactPowerNumberRow.holds Try.pinned (OpenSpec.ofChange fnExactPowerNumberWrong)

/-- 'laws.FnExactIsSquare': WHATEVER THE INPUT: true; the input reads as it did. -/
def fnExactIsSquareSpec : ChangeSpec := { name := "fnExactIsSquare", fn := fun _ => fun
  | [d1, d2] => { results := [.lit (.bool true)], args := [d1, d2] }
  | _ => none }
def fnExactIsSquareRow : OpenClaim := { program := "ytgkifpampmmhoaa", sum := "ecd74525df7ea479c9d55a7ffe9b134fa57d66f2bb32497e5c3bc2fac02724da", func := "loop.example/g01124/laws.FnExactIsSquare", spec := "fnExactIsSquare", apart := false }
def FnExactIsSquareSaid : Prop := fnExactIsSquareRow.holds Try.pinned (OpenSpec.ofChange fnExactIsSquareSpec)

/-- ITS FALSE NEIGHBOUR: 'it returns false'. Refute it at one input. -/
def fnExactIsSquareWrong : ChangeSpec := { name := "fnExactIsSquare", fn := fun _ => fun
  | [d1, d2] => { results := [.lit (.bool false)], args := [d1, d2] }
  | _ => none }
def FnExactIsSquareWrongFalsely : Prop := fnExactIsSquareRow.holds Try.pinned (OpenSpec.ofChange fnExactIsSquareWrong)

/-- 'laws.FnExactSquareRoot': WHATEVER THE INPUT: true; the input reads as it did. -/
def fnExactSquareRootSpec : ChangeSpec := { name := "fnExactSquareRoot", fn := fun _ => fun
  | [d1, d2] => { results := [.lit (.bool true)], args := [d1, d2] }
  | _ => none }
def fnExactSquareRootRow : OpenClaim := { program := "ytgkifpampmmhoaa", sum := "ecd74525df7ea479c9d55a7ffe9b134fa57d66f2bb32497e5c3bc2fac02724da", func := "loop.example/g01124/laws.FnExactSquareRoot", spec := "fnExactSquareRoot", apart := false }
def FnExactSquareRootSaid : Prop := fnExactSquareRootRow.holds Try.pinned (OpenSpec.ofChange fnExactSquareRootSpec)

/-- ITS FALSE NEIGHBOUR: 'it returns false'. Refute it at one input. -/
def fnExactSquareRootWrong : ChangeSpec := { name := "fnExactSquareRoot", fn := fun _ => fun
  | [d1, d2] => { results := [.lit (.bool false)], args := [d1, d2] }
  | _ => none }
def FnExactSquareRootWrongFalsely : Prop := fnExactSquareRootRow.holds Try.pinned (OpenSpec.ofChange fnExactSquareRootWrong)

/- THE SECOND FORM. 'bulk': how many values and letters a reading holds, each counted each time it is reached (what is shared counts as often as it is met; a slice's spare places count too). A statement '..UptoSaid' is the law's where the arguments, and the package variables that the reading takes, are together of bulk at most 1048576: NARROWER than '..Said'. Prove '..Said' where nothing that the law and all that it calls make is longer than what came in: it says more and counts as full. Else prove '..UptoSaid'. A law counts once. -/
mutual
def uptoBulk {H : Type} : DataW H → Nat
  | .lit (.string bytes) => bytes.length + 1
  | .lit _ => 1
  | .nil => 1
  | .ptr d => uptoBulk d + 1
  | .slice elems spare => uptoBulkAll elems + uptoBulkAll spare + 1
  | .agg parts => uptoBulkAll parts + 1
  | .iface _ d => uptoBulk d + 1
  | .map entries => uptoBulkEntries entries + 1
  | .held _ => 1
def uptoBulkAll {H : Type} : List (DataW H) → Nat
  | [] => 0
  | d :: r => uptoBulk d + uptoBulkAll r
def uptoBulkEntries {H : Type} : List (Lit × DataW H) → Nat
  | [] => 0
  | x :: r => uptoBulkEntry x + uptoBulkEntries r
def uptoBulkEntry {H : Type} : Lit × DataW H → Nat
  | (.string bytes, d) => bytes.length + uptoBulk d + 1
  | (_, d) => uptoBulk d + 1
 end
def uptoSmall : (H : Type) → List (DataW H) → Bool := fun _ ds => decide (uptoBulkAll ds ≤ 1048576)
def OpenSpec.upto (s : _root_.Go.ChangeSpec) : _root_.Go.OpenSpec := { _root_.Go.OpenSpec.ofChange s with cond := some uptoSmall }

/-- 'laws.FnNumbers', WHERE WHAT IT READS IS OF BULK AT MOST 1048576: true; the input reads as it did. -/
def fnNumbersUptoRow : OpenClaim := { program := "ytgkifpampmmhoaa", sum := "ecd74525df7ea479c9d55a7ffe9b134fa57d66f2bb32497e5c3bc2fac02724da", func := "loop.example/g01124/laws.FnNumbers", spec := "fnNumbers", unfollowed := true, recurses := true, apart := false, narrowed := true }
def FnNumbersUptoSaid : Prop := fnNumbersUptoRow.holds Try.pinned (OpenSpec.upto fnNumbersSpec)

/-- 'laws.FnSquares', WHERE WHAT IT READS IS OF BULK AT MOST 1048576: true; the input reads as it did. -/
def fnSquaresUptoRow : OpenClaim := { program := "ytgkifpampmmhoaa", sum := "ecd74525df7ea479c9d55a7ffe9b134fa57d66f2bb32497e5c3bc2fac02724da", func := "loop.example/g01124/laws.FnSquares", spec := "fnSquares", recurses := true, apart := false, narrowed := true }
def FnSquaresUptoSaid : Prop := fnSquaresUptoRow.holds Try.pinned (OpenSpec.upto fnSquaresSpec)

/-- 'laws.FnExactIsPrime', WHERE WHAT IT READS IS OF BULK AT MOST 1048576: true; the input reads as it did. -/
def fnExactIsPrimeUptoRow : OpenClaim := { program := "ytgkifpampmmhoaa", sum := "ecd74525df7ea479c9d55a7ffe9b134fa57d66f2bb32497e5c3bc2fac02724da", func := "loop.example/g01124/laws.FnExactIsPrime", spec := "fnExactIsPrime", apart := false, narrowed := true }
def FnExactIsPrimeUptoSaid : Prop := fnExactIsPrimeUptoRow.holds Try.pinned (OpenSpec.upto fnExactIsPrimeSpec)

/-- 'laws.FnExactNumberOf', WHERE WHAT IT READS IS OF BULK AT MOST 1048576: true; the input reads as it did. -/
def fnExactNumberOfUptoRow : OpenClaim := { program := "ytgkifpampmmhoaa", sum := "ecd74525df7ea479c9d55a7ffe9b134fa57d66f2bb32497e5c3bc2fac02724da", func := "loop.example/g01124/laws.FnExactNumberOf", spec := "fnExactNumberOf", apart := false, narrowed := true }
def FnExactNumberOfUptoSaid : Prop := fnExactNumberOfUptoRow.holds Try.pinned (OpenSpec.upto fnExactNumberOfSpec)

/-- 'laws.FnExactAddNumbers', WHERE WHAT IT READS IS OF BULK AT MOST 1048576: true; the input reads as it did. -/
def fnExactAddNumbersUptoRow : OpenClaim := { program := "ytgkifpampmmhoaa", sum := "ecd74525df7ea479c9d55a7ffe9b134fa57d66f2bb32497e5c3bc2fac02724da", func := "loop.example/g01124/laws.FnExactAddNumbers", spec := "fnExactAddNumbers", unfollowed := true, recurses := true, apart := false, narrowed := true }
def FnExactAddNumbersUptoSaid : Prop := fnExactAddNumbersUptoRow.holds Try.pinned (OpenSpec.upto fnExactAddNumbersSpec)

/-- 'laws.FnExactSubtractNumbers', WHERE WHAT IT READS IS OF BULK AT MOST 1048576: true; the input reads as it did. -/
def fnExactSubtractNumbersUptoRow : OpenClaim := { program := "ytgkifpampmmhoaa", sum := "ecd74525df7ea479c9d55a7ffe9b134fa57d66f2bb32497e5c3bc2fac02724da", func := "loop.example/g01124/laws.FnExactSubtractNumbers", spec := "fnExactSubtractNumbers", unfollowed := true, recurses := true, apart := false, narrowed := true }
def FnExactSubtractNumbersUptoSaid : Prop := fnExactSubtractNumbersUptoRow.holds Try.pinned (OpenSpec.upto fnExactSubtractNumbersSpec)

/-- 'laws.FnExactMultiplyNumbers', WHERE WHAT IT READS IS OF BULK AT MOST 1048576: true; the input reads as it did. -/
def fnExactMultiplyNumbersUptoRow : OpenClaim := { program := "ytgkifpampmmhoaa", sum := "ecd74525df7ea479c9d55a7ffe9b134fa57d66f2bb32497e5c3bc2fac02724da", func := "loop.example/g01124/laws.FnExactMultiplyNumbers", spec := "fnExactMultiplyNumbers", unfollowed := true, recurses := true, apart := false, narrowed := true }
def FnExactMultiplyNumbersUptoSaid : Prop := fnExactMultiplyNumbersUptoRow.holds Try.pinned (OpenSpec.upto fnExactMultiplyNumbersSpec)

/-- 'laws.FnExactDivideNumbers', WHERE WHAT IT READS IS OF BULK AT MOST 1048576: true; the input reads as it did. -/
def fnExactDivideNumbersUptoRow : OpenClaim := { program := "ytgkifpampmmhoaa", sum := "ecd74525df7ea479c9d55a7ffe9b134fa57d66f2bb32497e5c3bc2fac02724da", func := "loop.example/g01124/laws.FnExactDivideNumbers", spec := "fnExactDivideNumbers", recurses := true, apart := false, narrowed := true }
def FnExactDivideNumbersUptoSaid : Prop := fnExactDivideNumbersUptoRow.holds Try.pinned (OpenSpec.upto fnExactDivideNumbersSpec)

/-- 'laws.FnExactPowerNumber', WHERE WHAT IT READS IS OF BULK AT MOST 1048576: true; the input reads as it did. -/
def fnExactPowerNumberUptoRow : OpenClaim := { program := "ytgkifpampmmhoaa", sum := "ecd74525df7ea479c9d55a7ffe9b134fa57d66f2bb32497e5c3bc2fac02724da", func := "loop.example/g01124/laws.FnExactPowerNumber", spec := "fnExactPowerNumber", recurses := true, apart := false, narrowed := true }
def FnExactPowerNumberUptoSaid : Prop := fnExactPowerNumberUptoRow.holds Try.pinned (OpenSpec.upto fnExactPowerNumberSpec)

/-- 'laws.FnExactIsSquare', WHERE WHAT IT READS IS OF BULK AT MOST 1048576: true; the input reads as it did. -/
def fnExactIsSquareUptoRow : OpenClaim := { program := "ytgkifpampmmhoaa", sum := "ecd74525df7ea479c9d55a7ffe9b134fa57d66f2bb32497e5c3bc2fac02724da", func := "loop.example/g01124/laws.FnExactIsSquare", spec := "fnExactIsSquare", apart := false, narrowed := true }
def FnExactIsSquareUptoSaid : Prop := fnExactIsSquareUptoRow.holds Try.pinned (OpenSpec.upto fnExactIsSquareSpec)

/-- 'laws.FnExactSquareRoot', WHERE WHAT IT READS IS OF BULK AT MOST 1048576: true; the input reads as it did. -/
def fnExactSquareRootUptoRow : OpenClaim := { program := "ytgkifpampmmhoaa", sum := "ecd74525df7ea479c9d55a7ffe9b134fa57d66f2bb32497e5c3bc2fac02724da", func := "loop.example/g01124/laws.FnExactSquareRoot", spec := "fnExactSquareRoot", apart := false, narrowed := true }
def FnExactSquareRootUptoSaid : Prop := fnExactSquareRootUptoRow.holds Try.pinned (OpenSpec.upto fnExactSquareRootSpec)

end Rows
end Go.Proofs.Ytgkifpampmmhoaa
