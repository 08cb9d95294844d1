/-
  Products of vectors: symmetric, linear, norms of sums. No Go in sight.
  No conditions.
-/
import Derived.Test.YtcamegdjdjacpaaNof
import Derived.Test.YtcamegdjdjacpaaSpA
import Derived.Test.YtcamegdjdjacpaaFGrm
namespace Go.Proofs.Ytcamegdjdjacpaa
open Go.RowKit
set_option linter.unusedVariables false

theorem pairN_comm (p : Int) (S v w : List Int) : pairN p S v w = pairN p S w v := by
  unfold pairN psum
  congr 1
  exact sm_congr fun j _ => by rw [Int.mul_comm (v.getD j 0)]
theorem el_mod (a b p : Int) : (a % p * b) % p = (a * b) % p := by rw [Int.mul_emod, Int.emod_emod, ← Int.mul_emod]
theorem er_mod (a b p : Int) : (a * (b % p)) % p = (a * b) % p := by rw [Int.mul_emod, Int.emod_emod, ← Int.mul_emod]
theorem sm_cong_p {p : Int} {n : Nat} {f g : Nat → Int} (h : ∀ j, j < n → f j % p = g j % p) : sm n f % p = sm n g % p := by
  rw [← sm_mod n p f, ← sm_mod n p g, sm_congr h]
theorem plusR_at (p k : Int) (v u : List Int) {j : Nat} (h : j < v.length) : (plusR p v u k).getD j 0 = (v.getD j 0 + k * u.getD j 0) % p := by unfold plusR; exact mkR_at _ h
theorem plusR_ln (p k : Int) (v u : List Int) : (plusR p v u k).length = v.length := by unfold plusR; rw [mkR_len]
theorem pairN_lin {p k : Int} {S v u w : List Int} (hl : v.length = S.length) : pairN p S (plusR p v u k) w = (pairN p S v w + k * pairN p S u w) % p := by
  have h : psum S (plusR p v u k) w S.length % p = (psum S v w S.length + k * psum S u w S.length) % p := by
    unfold psum
    rw [← sm_mul, ← sm_add]
    apply sm_cong_p
    intro j hj
    rw [plusR_at p k v u (by omega), Int.mul_assoc, el_mod, Int.add_mul]
    congr 1
    rw [← Int.mul_assoc]
    congr 1
    rw [Int.mul_assoc k, ← Int.mul_assoc (u.getD j 0)]
  show _ % p = (psum S v w S.length % p + k * (psum S u w S.length % p)) % p
  rw [h, Int.add_emod (psum S v w S.length % p), Int.emod_emod, er_mod, ← Int.add_emod]
theorem pairN_sum {p : Int} {S v w : List Int} (hl : v.length = S.length) : pairN p S (plusR p v w 1) (plusR p v w 1) = (pairN p S v v + pairN p S w w + 2 * pairN p S v w) % p := by
  have h1 : pairN p S v (plusR p v w 1) = (pairN p S v v + 1 * pairN p S v w) % p := by rw [pairN_comm p S v, pairN_lin hl, pairN_comm p S w v]
  have h2 : pairN p S w (plusR p v w 1) = (pairN p S v w + 1 * pairN p S w w) % p := by rw [pairN_comm p S w, pairN_lin hl]
  rw [pairN_lin hl, h1, h2, Int.one_mul, Int.one_mul, Int.one_mul, ← Int.add_emod]
  congr 1
  omega
theorem pairN_bd {p : Int} (hp : 0 < p) (S v w : List Int) : 0 ≤ pairN p S v w ∧ pairN p S v w < p := ⟨Int.emod_nonneg _ (by omega), Int.emod_lt_of_pos _ hp⟩
theorem vec_of {p : Int} {n : Nat} {z : List Int} (hl : z.length = n) (hn : ∀ j, j < z.length → 0 ≤ z.getD j 0 ∧ z.getD j 0 < p) : isVec p n z = true := by
  unfold isVec
  rw [hl, Bool.and_eq_true]
  refine ⟨by simp, ?_⟩
  rw [List.all_eq_true]
  intro y hy
  obtain ⟨j, hj, rfl⟩ := List.getElem_of_mem hy
  have h := hn j hj
  rw [getD_at hj] at h
  exact inr_iff.2 h
theorem vec_plus {p : Int} (hp : 0 < p) {n : Nat} {v : List Int} (u : List Int) (k : Int) (h : v.length = n) : isVec p n (plusR p v u k) = true :=
  vec_of ((plusR_ln p k v u).trans h) fun j hj => by
    rw [plusR_ln] at hj
    rw [plusR_at p k v u hj]
    exact ⟨Int.emod_nonneg _ (by omega), Int.emod_lt_of_pos _ hp⟩
theorem code_vec2 {p : Int} {S v w : List Int} (hs : isSp p S = true) (hv : isVec p S.length v = true) (hw : isVec p S.length w = true) : codeVs p S [v, w] = 0 ∧ pairV p S v w = pairN p S v w := by
  have h : codeVs p S [v, w] = 0 := by unfold codeVs; rw [if_pos hs, if_pos (by simp [hv, hw])]
  exact ⟨h, by unfold pairV; rw [if_pos h]⟩

end Go.Proofs.Ytcamegdjdjacpaa
