/-
  The program's geometric product: contract.
  Conditions: a space and multivectors of it: rows of known cells with numbers of the prime.
  GeometricProduct: contracts of the program and of the model.
  Conditions: the lists are nil or rows of known cells, of at most 1048576 numbers.
-/
import Derived.Test.YtbnegbpapjcmhaaQa611
import Derived.Test.YtbnegbpapjcmhaaQa610
namespace Go.Proofs.Ytbnegbpapjcmhaa
open Go.RowKit Go.Maps
set_option linter.unusedVariables false

theorem sm_put {n k : Nat} (hk : k < n) (v : Int) {f : Nat → Int} (h0 : f k = 0) : sm n (fun j => if j = k then v else f j) = sm n f + v := by
  have e : sm n (fun j => if j = k then v else f j) = sm n (fun j => f j + if j = k then v else 0) := sm_congr fun j _ => by
    by_cases h : j = k
    · subst h; rw [if_pos rfl, if_pos rfl, h0, Int.zero_add]
    · rw [if_neg h, if_neg h, Int.add_zero]
  rw [e, sm_add, sm_single, if_pos hk]
/-- The number at c, when the terms that have come are added. -/
def gq (p : Int) (S x y : List Int) (left : Lit → Bool) (c : Nat) : Int := sm (bl S) (fl x left (tm p S x y c))
theorem tm_none {p : Int} {S x y : List Int} {c a : Nat} (h : x.getD a 0 = 0) : tm p S x y c a = 0 := by unfold tm; rw [h, Int.zero_mul, Int.zero_mul]
theorem tm_bd {p : Int} (h3 : 3 ≤ p) (h13 : p ≤ 13) {S x y : List Int} (nx : Nums p x) (ny : Nums p y) (lx : x.length = bl S) (ly : y.length = bl S) {c a : Nat} (hc : c < bl S) (ha : a < bl S) : 0 ≤ tm p S x y c a ∧ tm p S x y c a ≤ 1728 := by
  obtain ⟨x0, x1⟩ := nx a (by omega)
  obtain ⟨y0, y1⟩ := ny (a ^^^ c) (by rw [ly]; exact Nat.xor_lt_two_pow ha hc)
  obtain ⟨f0, f1⟩ := fm_bd (by omega : 0 < p) S a (a ^^^ c) S.length
  obtain ⟨m0, m1⟩ := mul_bd' h13 x0 x1 f0 f1
  unfold tm
  exact ⟨Int.mul_nonneg m0 y0, Int.le_trans (Int.mul_le_mul_of_nonneg_right m1 y0) (by omega)⟩
theorem ranges_wrote {w w' : World} {P : Program} {k : TypeId} {R : Value → Option (DataW Unit × List MemPlace)} {b r n : Nat} {D : DataW Unit} {left : Lit → Bool} {cnt c o m : Nat} (h : w.ranges P k R b r n D left cnt) (hw : Wrote c o m w w') (hb : b ≠ c) (hr : r ≠ c) : w'.ranges P k R b r n D left cnt := by
  obtain ⟨es, clock, since, seen, c0, k1, h2, h3, h4, k5, h6⟩ := h
  exact ⟨es, clock, since, seen, c0, (hw.block b hb).trans k1, h2, h3, h4, (hw.block r hr).trans k5, h6⟩

end Go.Proofs.Ytbnegbpapjcmhaa

namespace Go.Proofs.Ytbnegbpapjcmhaa
open Go.RowKit
set_option linter.unusedVariables false

theorem sp_nums {p : Int} {S : List Int} (h : isSp p S = true) : Nums p S := Nums.of (isSp_iff.1 h).all
theorem NewRow.ownE {n : Nat} {f : Nat → Int} {w : World} {e : Ending} {w' : World} (h : NewRow n f w e w') : OwnE (mkR n f) w e w' := by
  obtain ⟨b, rfl, hl, hu, hr, hb⟩ := h
  exact ⟨_, n, by rw [mkR_len], hr.own hl hu, hb⟩
end Go.Proofs.Ytbnegbpapjcmhaa
