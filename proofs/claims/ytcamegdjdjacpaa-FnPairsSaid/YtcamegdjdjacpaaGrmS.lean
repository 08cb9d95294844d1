/-
  The model's GramOf: contract.
  Conditions: the lists are nil or rows of known cells, of at most 1048576 numbers.
-/
import Derived.Test.YtcamegdjdjacpaaLst
import Derived.Test.YtcamegdjdjacpaaApp
import Derived.Test.YtcamegdjdjacpaaSizes
namespace Go.Proofs.Ytcamegdjdjacpaa
open Go.RowKit
set_option linter.unusedVariables false

def gramF (p : Int) (S : List Int) (m : List (List Int)) (i j : Nat) : Int := pairN p S (rw' m i) (rw' m j)
def gramM (p : Int) (S : List Int) (m : List (List Int)) : List (List Int) := mk m.length m.length (gramF p S m)
def gramV (p : Int) (S : List Int) (m : List (List Int)) : List (List Int) := if codeL p S m = 0 then gramM p S m else []
theorem gramV_size (p : Int) (S : List Int) (m : List (List Int)) : (gramV p S m).length + tot (gramV p S m) (gramV p S m).length ≤ 1048576 := by
  unfold gramV
  split
  · rename_i h
    rcases codeL_cases p S m with ⟨_, hc⟩ | ⟨hi, hl, _⟩ | ⟨_, _, hc⟩
    · rw [hc] at h; cases h
    · have := (listB_iff hl).1
      unfold gramM
      exact mk_size (by omega) (by omega)
    · rw [hc] at h; cases h
  · simp [tot]

end Go.Proofs.Ytcamegdjdjacpaa
