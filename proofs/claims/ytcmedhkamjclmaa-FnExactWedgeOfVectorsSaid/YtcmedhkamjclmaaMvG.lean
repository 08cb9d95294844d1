/-
  GradePart: contracts of the program and of the model.
  Conditions: the lists are nil or rows of known cells, of at most 1048576 numbers.
-/
import Derived.Test.YtcmedhkamjclmaaMvB
import Derived.Test.YtcmedhkamjclmaaMvT
import Derived.Deep.RegionHeld3
namespace Go.Proofs.Ytcmedhkamjclmaa
open Go.RowKit
set_option linter.unusedVariables false

def partC (p : Int) (S x : List Int) (k : Int) : Int := if codeMv p S [x] = 0 then (if 0 ≤ k ∧ k ≤ S.length then 0 else 2) else codeMv p S [x]
def partV (p : Int) (S x : List Int) (k : Int) : List Int := if partC p S x k = 0 then partM x k else []
theorem partV_size (p : Int) (S x : List Int) (k : Int) : (partV p S x k).length ≤ 1048576 := by
  unfold partV; split
  · rename_i h
    have h0 : codeMv p S [x] = 0 := by
      unfold partC at h; split at h
      · assumption
      · exact h
    have := code1_small h0; unfold partM; rw [mkR_len]; omega
  · simp
theorem fl_skip {x : List Int} {left : Lit → Bool} {g : Nat → Int} {k : Nat} (h0 : g k = 0) (j : Nat) : fl x left g j = fl x (fun z => left z && !z.sameKey (.int .i64 (k : Int))) g j := by
  unfold fl
  by_cases e : j = k
  · subst e; rw [td_same left j]
    by_cases h : x.getD j 0 ≠ 0 ∧ td left j = false
    · rw [if_pos h]
      by_cases h2 : x.getD j 0 ≠ 0 ∧ false = false
      · rw [if_pos h2]
      · rw [if_neg h2, h0]
    · rw [if_neg h]
      by_cases h2 : x.getD j 0 ≠ 0 ∧ false = false
      · rw [if_pos h2, h0]
      · rw [if_neg h2]
  · rw [td_other left e]
def pg (x : List Int) (k : Int) (j : Nat) : Int := if ((gr j : Nat) : Int) = k then x.getD j 0 else 0
theorem partM_eq (x : List Int) (k : Int) : partM x k = mkR x.length (pg x k) := rfl

end Go.Proofs.Ytcmedhkamjclmaa
