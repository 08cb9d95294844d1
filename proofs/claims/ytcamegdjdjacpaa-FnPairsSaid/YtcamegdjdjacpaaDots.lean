/-
  Sums of products of lists, and products of matrices with vectors, in the program and in the model: contracts.
  Conditions: the lists and matrices are rows of known cells with numbers of the prime; their sizes fit.
-/
import Derived.Test.YtcamegdjdjacpaaImC
import Derived.Deep.AppendLies
import Derived.BigQuiet
namespace Go.Proofs.Ytcamegdjdjacpaa
open Go.RowKit
set_option linter.unusedVariables false

def sdot (za zb : List Int) (i : Nat) : Int := sm i fun j => za.getD j 0 * zb.getD j 0
def Nums (p : Int) (z : List Int) : Prop := ∀ j, j < z.length → 0 ≤ z.getD j 0 ∧ z.getD j 0 < p
theorem Nums.of {p : Int} {z : List Int} (h : z.all (inr p) = true) : Nums p z := by
  intro j hj
  rw [List.all_eq_true] at h
  exact inr_iff.1 (h _ (by rw [getD_at hj]; exact List.getElem_mem hj))
theorem mul_bd' {p x y : Int} (hp : p ≤ 13) (x0 : 0 ≤ x) (x1 : x < p) (y0 : 0 ≤ y) (y1 : y < p) : 0 ≤ x * y ∧ x * y ≤ 144 :=
  ⟨Int.mul_nonneg x0 y0, Int.le_trans (Int.mul_le_mul_of_nonneg_right (by omega : x ≤ 12) y0) (Int.mul_le_mul_of_nonneg_left (by omega : y ≤ 12) (by omega))⟩
theorem sdot_bd {p : Int} {za zb : List Int} (hp : p ≤ 13) (ha : Nums p za) (hb : Nums p zb) {i : Nat} (h1 : i ≤ za.length) (h2 : i ≤ zb.length) : 0 ≤ sdot za zb i ∧ sdot za zb i ≤ i * 144 :=
  sm_bd fun j hj => mul_bd' hp (ha j (by omega)).1 (ha j (by omega)).2 (hb j (by omega)).1 (hb j (by omega)).2
theorem add_mod' (a b p : Int) : (a % p + b) % p = (a + b) % p := by rw [Int.add_emod, Int.emod_emod, ← Int.add_emod]

/-- A vector of products of rows. -/
def appV (p : Int) (a : List (List Int)) (v : List Int) : List Int := mkR a.length fun i => sdot (rw' a i) v (rw' a i).length % p

end Go.Proofs.Ytcamegdjdjacpaa
