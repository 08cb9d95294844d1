/-
  Versors: products of vectors are versors, and their sandwiches the reflections. No Go in sight.
  No conditions.
  Versors: products of vectors are versors, their sandwiches are the reflections, the last one first. No Go in sight.
  No conditions.
  Versors: the sandwich of a product of vectors is the reflections in them, the last one first. No Go in sight.
  No conditions.
  VersorBetween (program): contracts of the program and of the model.
  Conditions: the lists are nil or rows of known cells, of at most 1048576 numbers.
-/
import Derived.Test.YthbkfpkeofpocaaGreatQv26
import Derived.Test.YthbkfpkeofpocaaGreatQv27
import Derived.Deep.RegionHeld3
import Derived.Deep.DeepCutAuto
namespace Go.Proofs.YthbkfpkeofpocaaGreat
open Go.RowKit
set_option linter.unusedVariables false

theorem gpz_mul_l (S : List Int) (n : Nat) (x y : Nat → Int) (k : Int) (c : Nat) : gpz S n (fun j => x j * k) y c = gpz S n x y c * k := by
  unfold gpz
  rw [Int.mul_comm, ← sm_mul]
  apply sm_congr
  intro a _
  show x a * k * fz S a (a ^^^ c) n * y (a ^^^ c) = k * (x a * fz S a (a ^^^ c) n * y (a ^^^ c))
  rw [Int.mul_comm (x a) k, Int.mul_assoc, Int.mul_assoc, Int.mul_assoc]
theorem prod_scl_l (p : Int) (S a b : List Int) (k : Int) (ha : a.length = bl S) : prodM p S (sclV p a k) b = sclV p (prodM p S a b) k := by
  unfold sclV
  rw [prodM_len]
  refine mkR_congr fun c hc => ?_
  rw [prodM_at p S a b hc]
  show gpz _ _ _ _ c % p = gpz _ _ _ _ c % p * k % p
  rw [em_l, ← gpz_mul_l]
  exact gpz_mod S S.length hc (fun j hj => by
    show (mkR a.length fun j => a.getD j 0 * k % p).getD j 0 % p = _
    rw [mkR_at _ (by rw [ha]; exact hj), Int.emod_emod]) (fun _ _ => rfl)
theorem one_len (S : List Int) : (mOne S).length = bl S := mkR_len _ _
theorem unit_scl {p k : Int} (S : List Int) (k0 : 0 ≤ k) (k1 : k < p) : unitR S k = sclV p (mOne S) k := by
  unfold unitR sclV
  rw [one_len]
  refine mkR_congr fun j hj => ?_
  unfold mOne
  rw [mkR_at _ hj]
  unfold oneF
  split
  · rw [Int.one_mul, Int.emod_eq_of_lt k0 k1]
  · rw [Int.zero_mul, Int.zero_emod]
theorem prod_unit {p k : Int} {S x : List Int} (hx : isMv p S x = true) (k0 : 0 ≤ k) (k1 : k < p) : prodM p S x (unitR S k) = sclV p x k := by
  rw [unit_scl S k0 k1, prod_scl _ _ _ _ _ (one_len S)]
  exact congrArg (sclV p · k) (prodM_one_r p S x (Mv.len hx) (Mv.num hx))
theorem unit_prod {p k : Int} {S x : List Int} (hx : isMv p S x = true) (k0 : 0 ≤ k) (k1 : k < p) : prodM p S (unitR S k) x = sclV p x k := by
  rw [unit_scl S k0 k1, prod_scl_l _ _ _ _ _ (one_len S)]
  exact congrArg (sclV p · k) (prodM_one_l p S x (Mv.len hx) (Mv.num hx))
theorem vecM_len (S v : List Int) : (vecM S v).length = bl S := mkR_len _ _
theorem vecM_at (S v : List Int) {c : Nat} (hc : c < bl S) : (vecM S v).getD c 0 = vecF v v.length c := mkR_at _ hc
theorem vecM_pow {S v : List Int} (hv : v.length = S.length) {i : Nat} (hi : i < S.length) : (vecM S v).getD (2 ^ i) 0 = v.getD i 0 := by
  rw [vecM_at _ _ (pow_lt hi)]
  exact vecF_at _ _ (by omega)
theorem vecM_off {S v : List Int} (hv : v.length = S.length) {c : Nat} (hc : c < bl S) (h : ∀ i, i < S.length → c ≠ 2 ^ i) : (vecM S v).getD c 0 = 0 := by
  rw [vecM_at _ _ hc]
  exact vecF_off _ fun i hi => h i (by omega)
theorem gr_pow : ∀ i, i < 6 → gr (2 ^ i) = 1 := by decide +kernel
theorem rev_vec {p : Int} {S v : List Int} (hs : isSp p S = true) (hv : v.length = S.length) : revM p (vecM S v) = vecM S v := by
  have h6 := (isSp_iff.1 hs).hi
  refine row_ext (by rw [revM_len]) fun c hc => ?_
  rw [revM_len, vecM_len] at hc
  unfold revM
  rw [mkR_at _ (by rw [vecM_len]; exact hc)]
  unfold sgF
  by_cases h : ∃ i, i < S.length ∧ c = 2 ^ i
  · obtain ⟨i, hi, rfl⟩ := h
    rw [gr_pow i (by omega), if_neg (by decide)]
  · rw [vecM_off hv hc fun i hi e => h ⟨i, hi, e⟩]
    split
    · rw [Int.sub_zero, Int.emod_self]
    · rfl
theorem iv_vec {p : Int} {S v : List Int} (hs : isSp p S = true) (hv : isVec p S.length v = true) : ivM p (vecM S v) = sclV p (vecM S v) (p - 1) := by
  have h6 := (isSp_iff.1 hs).hi
  have hl := (isVec_iff.1 hv).len
  refine row_ext (by rw [ivM_len]; unfold sclV; rw [mkR_len]) fun c hc => ?_
  rw [ivM_len, vecM_len] at hc
  unfold ivM sclV
  rw [mkR_at _ (by rw [vecM_len]; exact hc), mkR_at _ (by rw [vecM_len]; exact hc)]
  unfold sgF
  by_cases h : ∃ i, i < S.length ∧ c = 2 ^ i
  · obtain ⟨i, hi, rfl⟩ := h
    rw [gr_pow i (by omega), if_pos (by decide), show (vecM S v).getD (2 ^ i) 0 * (p - 1) = (p - (vecM S v).getD (2 ^ i) 0) + p * ((vecM S v).getD (2 ^ i) 0 - 1) by rw [Int.mul_sub, Int.mul_sub, Int.mul_comm p]; omega, Int.add_mul_emod_self_left]
  · rw [vecM_off hl hc fun i hi e => h ⟨i, hi, e⟩, Int.zero_mul, Int.zero_emod, Int.sub_zero, Int.emod_self, ite_self]
theorem neg_of_sum {p a b t : Int} (h : (a % p + t) % p = b % p) : t * (p - 1) % p = (a - b) % p := by
  have h1 : (a + t) % p = b % p := by rw [← h, Int.emod_add_emod]
  obtain ⟨k, hk⟩ := Int.dvd_of_emod_eq_zero (Int.emod_eq_emod_iff_emod_sub_eq_zero.1 h1)
  refine Int.emod_eq_emod_iff_emod_sub_eq_zero.2 ?_
  rw [show t * (p - 1) - (a - b) = p * (t - k) by rw [Int.mul_sub, Int.mul_sub, ← hk, Int.mul_comm p t]; omega, Int.mul_emod_right]
/-- What is around v by a vector u: the reflection times the norm. -/
def wV (p : Int) (S u v : List Int) : List Int := mkR S.length fun i => (pairN p S u u * v.getD i 0 - 2 * pairN p S u v % p * u.getD i 0) % p
theorem wV_len (p : Int) (S u v : List Int) : (wV p S u v).length = S.length := mkR_len _ _
theorem wV_vec {p : Int} {S : List Int} (hp : 0 < p) (u v : List Int) : isVec p S.length (wV p S u v) = true := by
  refine isVec_iff.2 ⟨wV_len _ _ _ _, ?_⟩
  rw [List.all_eq_true]
  intro y hy
  obtain ⟨j, hj, rfl⟩ := List.getElem_of_mem hy
  rw [← getD_at hj]
  rw [wV_len] at hj
  unfold wV
  rw [mkR_at _ hj]
  exact inr_iff.2 ⟨Int.emod_nonneg _ (by omega), Int.emod_lt_of_pos _ hp⟩
theorem ar_vec {p : Int} {S u v : List Int} (hs : isSp p S = true) (hu : isVec p S.length u = true) (hv : isVec p S.length v = true) : arM p S (vecM S u) v = vecM S (wV p S u v) := by
  have h6 := (isSp_iff.1 hs).hi
  have hp := prm_bd (isSp_iff.1 hs).prime
  have hul := (isVec_iff.1 hu).len
  have hvl := (isVec_iff.1 hv).len
  have hN := pairN_bd7 (p := p) (S := S) (u := u) (v := u) (by omega)
  have hK : 0 ≤ 2 * pairN p S u v % p ∧ 2 * pairN p S u v % p < p := ⟨Int.emod_nonneg _ (by omega), Int.emod_lt_of_pos _ (by omega)⟩
  unfold arM
  rw [iv_vec hs hu, rev_vec hs hul, prod_scl_l _ _ _ _ _ (vecM_len S u), prod_scl_l _ _ _ _ _ (prodM_len _ _ _ _), prodM_assoc]
  have h1 : plusR p (prodM p S (vecM S u) (prodM p S (vecM S u) (vecM S v))) (prodM p S (vecM S u) (prodM p S (vecM S v) (vecM S u))) 1 = sclV p (vecM S u) (2 * pairN p S u v % p) := by
    rw [← prod_dist (prodM_len _ _ _ _), ← prod_unit (vec_mv hs hu) hK.1 hK.2]
    exact congrArg _ (both_eq h6 hul hvl)
  rw [← prodM_assoc, square_eq h6 hul, unit_prod (vec_mv hs hv) hN.1 hN.2] at h1
  refine row_ext (by unfold sclV; rw [mkR_len, prodM_len, vecM_len]) fun c hc => ?_
  have hc' : c < bl S := by unfold sclV at hc; rw [mkR_len, prodM_len] at hc; exact hc
  have h2 := congrArg (List.getD · c 0) h1
  obtain ⟨t, ht⟩ : ∃ t, t = (prodM p S (vecM S u) (prodM p S (vecM S v) (vecM S u))).getD c 0 := ⟨_, rfl⟩
  unfold plusR sclV at h2
  rw [mkR_at _ (by rw [mkR_len, vecM_len]; exact hc'), mkR_at _ (by rw [vecM_len]; exact hc'), mkR_at _ (by rw [vecM_len]; exact hc'), ← ht, Int.one_mul] at h2
  have h3 := neg_of_sum h2
  unfold sclV
  rw [mkR_at _ (by rw [prodM_len]; exact hc'), ← ht, h3]
  by_cases h : ∃ i, i < S.length ∧ c = 2 ^ i
  · obtain ⟨i, hi, rfl⟩ := h
    rw [vecM_pow (wV_len _ _ _ _) hi, vecM_pow hul hi, vecM_pow hvl hi]
    unfold wV
    rw [mkR_at _ hi, Int.mul_comm (v.getD i 0), Int.mul_comm (u.getD i 0)]
  · have h4 : ∀ i, i < S.length → c ≠ 2 ^ i := fun i hi e => h ⟨i, hi, e⟩
    rw [vecM_off (wV_len _ _ _ _) hc' h4, vecM_off hul hc' h4, vecM_off hvl hc' h4, Int.zero_mul, Int.zero_mul, Int.sub_zero, Int.zero_emod]

end Go.Proofs.YthbkfpkeofpocaaGreat

namespace Go.Proofs.YthbkfpkeofpocaaGreat
open Go.RowKit
set_option linter.unusedVariables false

theorem ar_prod {p : Int} {S x y v v' : List Int} (hs : isSp p S = true) (hx : isMv p S x = true) (hy : isMv p S y = true) (h : arM p S y v = vecM S v') : arM p S (prodM p S x y) v = arM p S x v' := by
  have h6 := (isSp_iff.1 hs).hi
  have hp := prm_bd (isSp_iff.1 hs).prime
  have e1 : ivM p (prodM p S x y) = prodM p S (ivM p x) (ivM p y) := (inv_prod (by omega) (Mv.len hx) (Mv.len hy) (Mv.num hx) (Mv.num hy)).symm
  have e2 : revM p (prodM p S x y) = prodM p S (revM p y) (revM p x) := (rev_prod (by omega) h6 (Mv.len hx) (Mv.len hy) (Mv.num hx) (Mv.num hy)).symm
  unfold arM at h ⊢
  rw [e1, e2, ← h]
  simp only [prodM_assoc]
theorem rev_one {p : Int} {S : List Int} : revM p (mOne S) = mOne S := by
  refine row_ext (by rw [revM_len]) fun c hc => ?_
  rw [revM_len] at hc
  unfold revM
  rw [mkR_at _ hc]
  unfold sgF
  by_cases h : c = 0
  · subst h; rw [show gr 0 = 0 from rfl, if_neg (by decide)]
  · have e : (mOne S).getD c 0 = 0 := by unfold mOne; rw [mkR_at _ (by rw [one_len] at hc; exact hc)]; unfold oneF; rw [if_neg h]
    rw [e]
    split
    · rw [Int.sub_zero, Int.emod_self]
    · rfl
theorem iv_one {p : Int} {S : List Int} : ivM p (mOne S) = mOne S := by
  refine row_ext (by rw [ivM_len]) fun c hc => ?_
  rw [ivM_len] at hc
  unfold ivM
  rw [mkR_at _ hc]
  unfold sgF
  by_cases h : c = 0
  · subst h; rw [show gr 0 = 0 from rfl, if_neg (by decide)]
  · have e : (mOne S).getD c 0 = 0 := by unfold mOne; rw [mkR_at _ (by rw [one_len] at hc; exact hc)]; unfold oneF; rw [if_neg h]
    rw [e]
    split
    · rw [Int.sub_zero, Int.emod_self]
    · rfl
/-- What is around v by the first k vectors. -/
def wA (p : Int) (S : List Int) (m : List (List Int)) : Nat → List Int → List Int
  | 0, v => v
  | k + 1, v => wA p S m k (wV p S (rw' m k) v)
theorem wA_vec {p : Int} {S : List Int} (hp : 0 < p) (m : List (List Int)) : ∀ k v, isVec p S.length v = true → isVec p S.length (wA p S m k v) = true
  | 0, v, hv => hv
  | k + 1, v, hv => wA_vec hp m k _ (wV_vec hp _ _)
theorem ar_vr {p : Int} {S : List Int} (hs : isSp p S = true) (m : List (List Int)) : ∀ k, (∀ j, j < k → isVec p S.length (rw' m j) = true) → ∀ v, isVec p S.length v = true → arM p S (vrM p S m k) v = vecM S (wA p S m k v)
  | 0, _, v, hv => by
    have hV := vec_mv hs hv
    show arM p S (mOne S) v = vecM S v
    unfold arM
    rw [iv_one, rev_one]
    show prodM p S (prodM p S (mkR (bl S) oneF) (vecM S v)) (mkR (bl S) oneF) = _
    rw [prodM_one_l p S _ (Mv.len hV) (Mv.num hV), prodM_one_r p S _ (Mv.len hV) (Mv.num hV)]
  | k + 1, hm, v, hv => by
    have hp := prm_bd (isSp_iff.1 hs).prime
    show arM p S (prodM p S (vrM p S m k) (vecM S (rw' m k))) v = _
    rw [ar_prod hs (vr_mv hs m k) (vec_mv hs (hm k (by omega))) (ar_vec hs (hm k (by omega)) hv)]
    exact ar_vr hs m k (fun j hj => hm j (by omega)) _ (wV_vec (by omega) _ _)
theorem nr_prod {p : Int} {S x u : List Int} (hs : isSp p S = true) (hx : isMv p S x = true) (hu : isVec p S.length u = true) : nrM p S (prodM p S x (vecM S u)) = sclV p (nrM p S x) (pairN p S u u) := by
  have h6 := (isSp_iff.1 hs).hi
  have hp := prm_bd (isSp_iff.1 hs).prime
  have hU := vec_mv hs hu
  have hul := (isVec_iff.1 hu).len
  have hN := pairN_bd7 (p := p) (S := S) (u := u) (v := u) (by omega)
  have e2 : revM p (prodM p S x (vecM S u)) = prodM p S (revM p (vecM S u)) (revM p x) := (rev_prod (by omega) h6 (Mv.len hx) (Mv.len hU) (Mv.num hx) (Mv.num hU)).symm
  unfold nrM
  rw [e2, rev_vec hs hul, prodM_assoc, ← prodM_assoc p S (vecM S u), square_eq h6 hul, unit_prod (rev_mv hs hx) hN.1 hN.2, prod_scl _ _ _ _ _ (Mv.len (rev_mv hs hx))]
theorem unit_times {p k F : Int} (S : List Int) : sclV p (unitR S F) k = unitR S (F * k % p) := by
  unfold sclV unitR
  rw [mkR_len]
  refine mkR_congr fun j hj => ?_
  rw [mkR_at _ hj]
  split
  · rfl
  · rw [Int.zero_mul, Int.zero_emod]
theorem nr_vr {p : Int} {S : List Int} (hs : isSp p S = true) (m : List (List Int)) : ∀ k, (∀ j, j < k → isVec p S.length (rw' m j) = true) → nrM p S (vrM p S m k) = unitR S (vsF p S m k)
  | 0, _ => by
    have h1 := one_mv' hs
    show prodM p S (mOne S) (revM p (mOne S)) = _
    rw [rev_one]
    exact prodM_one_l p S (mOne S) (Mv.len h1) (Mv.num h1)
  | k + 1, hm => by
    show nrM p S (prodM p S (vrM p S m k) (vecM S (rw' m k))) = unitR S (vsF p S m k * pairN p S (rw' m k) (rw' m k) % p)
    rw [nr_prod hs (vr_mv hs m k) (hm k (by omega)), nr_vr hs m k fun j hj => hm j (by omega), unit_times]
theorem unit_at (S : List Int) (F : Int) {j : Nat} (hj : j < bl S) : (unitR S F).getD j 0 = if j = 0 then F else 0 := mkR_at _ hj
theorem nrF_vr {p : Int} {S : List Int} (hs : isSp p S = true) {m : List (List Int)} {k : Nat} (hm : ∀ j, j < k → isVec p S.length (rw' m j) = true) : nrF p S (vrM p S m k) = vsF p S m k := by
  rw [← nrM_zero, nr_vr hs m k hm, unit_at _ _ (bl_pos S), if_pos rfl]
theorem no_null {p a b : Int} (hp : prm p = true) (h0 : 0 ≤ a) (h1 : a < p) (k0 : 0 ≤ b) (k1 : b < p) (ha : a ≠ 0) (hb : b ≠ 0) : a * b % p ≠ 0 := by
  have := every2_at (Q := fun p a b => decide (a ≠ 0 → b ≠ 0 → a * b % p ≠ 0)) (by decide +kernel) hp h0 h1 k0 k1
  simp only [decide_eq_true_eq] at this
  exact this ha hb
theorem vs_ne {p : Int} {S : List Int} (hp : prm p = true) (m : List (List Int)) : ∀ k, (∀ j, j < k → pairN p S (rw' m j) (rw' m j) ≠ 0) → vsF p S m k ≠ 0
  | 0, _ => by show (1 : Int) ≠ 0; decide
  | k + 1, h => by
    have h1 := prm_bd hp
    have h2 := vs_bd (p := p) (by omega) S m k
    have h3 := pairN_bd7 (p := p) (S := S) (u := rw' m k) (v := rw' m k) (by omega)
    exact no_null hp h2.1 h2.2 h3.1 h3.2 (vs_ne hp m k fun j hj => h j (by omega)) (h k (by omega))
theorem scl_scl (p a b : Int) (x : List Int) : sclV p (sclV p x a) b = sclV p x (a * b % p) := by
  unfold sclV
  rw [mkR_len]
  refine mkR_congr fun j hj => ?_
  rw [mkR_at _ hj, em_l, em_r, Int.mul_assoc]
theorem scl_one {p : Int} {x : List Int} (h : ∀ j, j < x.length → 0 ≤ x.getD j 0 ∧ x.getD j 0 < p) : sclV p x 1 = x := by
  refine row_ext (mkR_len _ _) fun j hj => ?_
  have hj' : j < x.length := by unfold sclV at hj; rw [mkR_len] at hj; exact hj
  unfold sclV
  rw [mkR_at _ hj', Int.mul_one, Int.emod_eq_of_lt (h j hj').1 (h j hj').2]
/-- The sign of a product of k vectors. -/
def sgK (p : Int) (k : Nat) : Int := if k % 2 = 0 then 1 else p - 1
theorem sg_step {p : Int} (hp : 1 < p) (k : Nat) : sgK p k * (p - 1) % p = sgK p (k + 1) := by
  unfold sgK
  by_cases h : k % 2 = 0
  · rw [if_pos h, if_neg (by omega), Int.one_mul, Int.emod_eq_of_lt (by omega) (by omega)]
  · rw [if_neg h, if_pos (by omega), show (p - 1) * (p - 1) = 1 + p * (p - 2) by have a1 := Int.mul_sub p p 2; have a2 := Int.mul_sub (p - 1) p 1; have a3 := Int.sub_mul p 1 p; omega, Int.add_mul_emod_self_left, Int.emod_eq_of_lt (by omega) (by omega)]
theorem iv_vr {p : Int} {S : List Int} (hs : isSp p S = true) (m : List (List Int)) : ∀ k, (∀ j, j < k → isVec p S.length (rw' m j) = true) → ivM p (vrM p S m k) = sclV p (vrM p S m k) (sgK p k)
  | 0, _ => by
    show ivM p (mOne S) = sclV p (mOne S) 1
    rw [iv_one, scl_one (Mv.num (one_mv' hs))]
  | k + 1, hm => by
    have hp := prm_bd (isSp_iff.1 hs).prime
    have hx := vr_mv hs m k
    have hU := vec_mv hs (hm k (by omega))
    have e1 : ivM p (prodM p S (vrM p S m k) (vecM S (rw' m k))) = prodM p S (ivM p (vrM p S m k)) (ivM p (vecM S (rw' m k))) := (inv_prod (by omega) (Mv.len hx) (Mv.len hU) (Mv.num hx) (Mv.num hU)).symm
    show ivM p (prodM p S (vrM p S m k) (vecM S (rw' m k))) = sclV p (prodM p S (vrM p S m k) (vecM S (rw' m k))) _
    rw [e1, iv_vr hs m k fun j hj => hm j (by omega), iv_vec hs (hm k (by omega)), prod_scl _ _ _ _ _ (vecM_len _ _), prod_scl_l _ _ _ _ _ (Mv.len hx), scl_scl, sg_step (by omega)]
theorem par_vr {p : Int} {S : List Int} (hs : isSp p S = true) {m : List (List Int)} {k : Nat} (hm : ∀ j, j < k → isVec p S.length (rw' m j) = true) : parB (vrM p S m k) (k % 2) = true := by
  have hp := prm_bd (isSp_iff.1 hs).prime
  have hodd := prm_odd (isSp_iff.1 hs).prime
  have hx := vr_mv hs m k
  have he := iv_vr hs m k hm
  refine parB_iff.2 fun j hj h0 => ?_
  have hb := Mv.num hx j hj
  have h1 := congrArg (List.getD · j 0) he
  unfold ivM sclV at h1
  rw [mkR_at _ hj, mkR_at _ hj] at h1
  obtain ⟨y, hy⟩ : ∃ y, y = (vrM p S m k).getD j 0 := ⟨_, rfl⟩
  rw [← hy] at h1 hb h0
  unfold sgF at h1
  rw [← hy] at h1
  rw [show c_involution (gr j) = gr j from rfl] at h1
  unfold sgK at h1
  have e1 : (p - y) % p = p - y := Int.emod_eq_of_lt (by omega) (by omega)
  have e2 : y * (p - 1) % p = p - y := by rw [show y * (p - 1) = (p - y) + p * (y - 1) by rw [Int.mul_sub, Int.mul_sub, Int.mul_comm p]; omega, Int.add_mul_emod_self_left, e1]
  have e3 : y * 1 % p = y := by rw [Int.mul_one, Int.emod_eq_of_lt hb.1 hb.2]
  by_cases h2 : gr j % 2 = 1
  · rw [if_pos h2] at h1
    by_cases h3 : k % 2 = 0
    · rw [if_pos h3, e1, e3] at h1; omega
    · omega
  · rw [if_neg h2] at h1
    by_cases h3 : k % 2 = 0
    · omega
    · rw [if_neg h3, e2] at h1; omega
theorem part_vec {S w : List Int} (h6 : S.length ≤ 6) (hw : w.length = S.length) : partM (vecM S w) 1 = vecM S w := by
  rw [← vec_part h6 (vecM_len S w)]
  congr 1
  refine row_ext (by rw [vnM_len, hw]) fun i hi => ?_
  rw [vnM_len] at hi
  unfold vnM
  rw [mkR_at _ hi]
  exact vecM_pow hw hi
/-- Products of vectors with norms other than 0 are versors. -/
theorem isVr_vr {p : Int} {S : List Int} (hs : isSp p S = true) {m : List (List Int)} {k : Nat} (hm : ∀ j, j < k → isVec p S.length (rw' m j) = true) (hn : ∀ j, j < k → pairN p S (rw' m j) (rw' m j) ≠ 0) : isVr p S (vrM p S m k) = true := by
  have h6 := (isSp_iff.1 hs).hi
  have hp := prm_bd (isSp_iff.1 hs).prime
  refine isVr_iff.2 ⟨?_, ?_, ?_, fun i hi => ?_⟩
  · rw [nrF_vr hs hm]; exact vs_ne (isSp_iff.1 hs).prime m k hn
  · rw [nr_vr hs m k hm]
    exact scB_iff.2 fun j hj h0 => by
      rw [unit_at _ _ (by unfold unitR at hj; rw [mkR_len] at hj; exact hj), if_neg (by omega)]
  · have := par_vr hs hm
    rcases Nat.mod_two_eq_zero_or_one k with h | h <;> rw [h] at this
    · exact .inl this
    · exact .inr this
  · have hw := wA_vec (p := p) (S := S) (by omega) m k _ (ei_vec (by omega) S.length i)
    unfold ldB
    rw [ar_vr hs m k hm _ (ei_vec (by omega) S.length i), part_vec h6 (isVec_iff.1 hw).len]
    simp

end Go.Proofs.YthbkfpkeofpocaaGreat

namespace Go.Proofs.YthbkfpkeofpocaaGreat
open Go.RowKit
set_option linter.unusedVariables false

theorem pair_zero (p : Int) (S w : List Int) : pairN p S (mkR S.length fun _ => 0) w = 0 := by
  unfold pairN psum
  rw [sm_congr (g := fun _ => 0) fun j hj => by rw [mkR_at _ hj, Int.zero_mul, Int.zero_mul], sm_zero, Int.zero_emod]
theorem scl_plus {p k : Int} {S v : List Int} (hv : v.length = S.length) : sclV p v k = plusR p (mkR S.length fun _ => 0) v k := by
  unfold sclV plusR
  rw [mkR_len, hv]
  refine mkR_congr fun j hj => ?_
  rw [mkR_at _ hj, Int.zero_add, Int.mul_comm]
theorem pair_scl {p k : Int} {S u v : List Int} (hv : v.length = S.length) : pairN p S u (sclV p v k) = pairN p S u v * k % p := by
  rw [pairN_comm, scl_plus hv, pairN_lin (mkR_len _ _), pair_zero, Int.zero_add, Int.mul_comm, pairN_comm]
theorem sclV_len (p k : Int) (v : List Int) : (sclV p v k).length = v.length := mkR_len _ _
theorem plus_vec7 {p : Int} {n : Nat} {u v : List Int} (hp : 0 < p) (k : Int) (hv : v.length = n) : isVec p n (plusR p v u k) = true := by
  refine isVec_iff.2 ⟨by unfold plusR; rw [mkR_len]; exact hv, ?_⟩
  rw [List.all_eq_true]
  intro y hy
  obtain ⟨j, hj, rfl⟩ := List.getElem_of_mem hy
  rw [← getD_at hj]
  have hj' : j < v.length := by unfold plusR at hj; rw [mkR_len] at hj; exact hj
  unfold plusR
  rw [mkR_at _ hj']
  exact inr_iff.2 ⟨Int.emod_nonneg _ (by omega), Int.emod_lt_of_pos _ hp⟩
theorem em_diff {p a b a' b' : Int} (h1 : a % p = a' % p) (h2 : b % p = b' % p) : (a - b) % p = (a' - b') % p := by rw [Int.sub_emod, h1, h2, ← Int.sub_emod]
theorem em_plus {p a b a' b' : Int} (h1 : a % p = a' % p) (h2 : b % p = b' % p) : (a + b) % p = (a' + b') % p := by rw [Int.add_emod, h1, h2, ← Int.add_emod]
theorem lin_scl (p a b k x y : Int) : (a * (x * k % p) - 2 * (b * k % p) % p * y) % p = (a * x - 2 * b % p * y) % p * k % p := by
  rw [em_l, Int.sub_mul]
  refine em_diff (by rw [em_r, Int.mul_assoc]) ?_
  rw [em_l, Int.mul_assoc (2 * b % p), em_l, show 2 * (b * k % p) * y = 2 * y * (b * k % p) by rw [Int.mul_assoc, Int.mul_comm (b * k % p), ← Int.mul_assoc], em_r]
  congr 1
  rw [Int.mul_assoc 2 y, Int.mul_assoc 2 b, ← Int.mul_assoc y b k, Int.mul_comm y b, Int.mul_assoc b y k]
theorem wV_scl {p k : Int} {S u v : List Int} (hv : v.length = S.length) : wV p S u (sclV p v k) = sclV p (wV p S u v) k := by
  refine row_ext (by rw [sclV_len, wV_len, wV_len]) fun i hi => ?_
  rw [wV_len] at hi
  unfold wV
  rw [mkR_at _ hi, pair_scl hv]
  unfold sclV
  rw [mkR_at _ (by rw [hv]; exact hi), mkR_at _ (by rw [mkR_len]; exact hi), mkR_at _ hi]
  exact lin_scl _ _ _ _ _ _
theorem wA_scl {p k : Int} {S : List Int} (m : List (List Int)) : ∀ n v, v.length = S.length → wA p S m n (sclV p v k) = sclV p (wA p S m n v) k
  | 0, v, _ => rfl
  | n + 1, v, hv => by
    show wA p S m n (wV p S _ (sclV p v k)) = sclV p (wA p S m n (wV p S _ v)) k
    rw [wV_scl hv]
    exact wA_scl m n _ (wV_len _ _ _ _)
/-- The reflection is what is around, divided by the norm. -/
theorem rfl_w {p : Int} {S u v : List Int} (hp : prm p = true) (hv : isVec p S.length v = true) (h0 : pairN p S u u ≠ 0) : rflM p S u v = sclV p (wV p S u v) (inv p (pairN p S u u)) := by
  have hb := prm_bd hp
  have hl := (isVec_iff.1 hv).len
  obtain ⟨N, hN⟩ : ∃ N, N = pairN p S u u := ⟨_, rfl⟩
  have hNb := pairN_bd7 (p := p) (S := S) (u := u) (v := u) (by omega)
  rw [← hN] at h0 hNb
  have hI : N * inv p N % p = 1 := inv_mul hp (by omega) hNb.2
  refine row_ext (by unfold rflM plusR; rw [mkR_len, sclV_len, wV_len]; exact hl) fun i hi => ?_
  have hi' : i < S.length := by unfold rflM plusR at hi; rw [mkR_len] at hi; omega
  have hvi := (isVec_iff.1 hv).num hi'
  unfold rflM plusR rfK sclV wV
  rw [mkR_at _ (by omega), mkR_at _ (by rw [mkR_len]; exact hi'), mkR_at _ hi', ← hN]
  obtain ⟨A, hA⟩ : ∃ A, A = pairN p S u v := ⟨_, rfl⟩
  obtain ⟨I, hIe⟩ : ∃ I, I = inv p N := ⟨_, rfl⟩
  obtain ⟨x, hx⟩ : ∃ x, x = v.getD i 0 := ⟨_, rfl⟩
  obtain ⟨y, hy⟩ : ∃ y, y = u.getD i 0 := ⟨_, rfl⟩
  rw [← hA, ← hIe, ← hx, ← hy]
  rw [← hIe] at hI
  rw [em_l (N * x - 2 * A % p * y) I p, Int.sub_mul, Int.sub_eq_add_neg]
  refine em_plus ?_ ?_
  · rw [show N * x * I = N * I * x by rw [Int.mul_assoc, Int.mul_comm x, ← Int.mul_assoc], ← em_l, hI, Int.one_mul]
  · have e1 : (-2 * A % p * I % p * y) % p = -2 * A * (I * y) % p := by rw [em_l, Int.mul_assoc, em_l]
    have e2 : -(2 * A % p * y * I) % p = -2 * A * (I * y) % p := by
      rw [show -(2 * A % p * y * I) = 0 - 2 * A % p * y * I by omega, show -2 * A * (I * y) = 0 - 2 * A * (I * y) by rw [Int.neg_mul, Int.neg_mul]; omega]
      exact em_diff rfl (by rw [Int.mul_assoc, em_l, Int.mul_comm y I])
    rw [e1, e2]
theorem inv_two {p a b : Int} (hp : prm p = true) (h0 : 0 ≤ a) (h1 : a < p) (k0 : 0 ≤ b) (k1 : b < p) : inv p b * inv p a % p = inv p (a * b % p) := by
  have := every2_at (Q := fun p a b => decide (inv p b * inv p a % p = inv p (a * b % p))) (by decide +kernel) hp h0 h1 k0 k1
  simpa using this
/-- The reflections in the first k vectors, the last one first. -/
def rfA (p : Int) (S : List Int) (m : List (List Int)) : Nat → List Int → List Int
  | 0, v => v
  | k + 1, v => rfA p S m k (rflM p S (rw' m k) v)
theorem rfl_vec7 {p : Int} {S u v : List Int} (hp : 0 < p) (hv : isVec p S.length v = true) : isVec p S.length (rflM p S u v) = true := plus_vec7 hp _ (isVec_iff.1 hv).len
theorem rf_wA {p : Int} {S : List Int} (hs : isSp p S = true) (m : List (List Int)) : ∀ k, (∀ j, j < k → pairN p S (rw' m j) (rw' m j) ≠ 0) → ∀ v, isVec p S.length v = true → rfA p S m k v = sclV p (wA p S m k v) (inv p (vsF p S m k))
  | 0, _, v, hv => by
    have hp := (isSp_iff.1 hs).prime
    show v = sclV p v (inv p 1)
    have h1 : inv p 1 = 1 := by rcases prm_or hp with rfl | rfl | rfl | rfl | rfl <;> decide +kernel
    rw [h1, scl_one fun j hj => (isVec_iff.1 hv).num (by rw [← (isVec_iff.1 hv).len]; exact hj)]
  | k + 1, hn, v, hv => by
    have hp := (isSp_iff.1 hs).prime
    have hb := prm_bd hp
    have h2 := vs_bd (p := p) (by omega) S m k
    have h3 := pairN_bd7 (p := p) (S := S) (u := rw' m k) (v := rw' m k) (by omega)
    show rfA p S m k (rflM p S (rw' m k) v) = sclV p (wA p S m k (wV p S (rw' m k) v)) (inv p (vsF p S m k * pairN p S (rw' m k) (rw' m k) % p))
    rw [rf_wA hs m k (fun j hj => hn j (by omega)) _ (rfl_vec7 (by omega) hv), rfl_w hp hv (hn k (by omega)), wA_scl _ _ _ (wV_len _ _ _ _), scl_scl, inv_two hp h2.1 h2.2 h3.1 h3.2]
/-- The sandwich of a product of vectors. -/
theorem sd_vr {p : Int} {S : List Int} (hs : isSp p S = true) {m : List (List Int)} {k : Nat} (hm : ∀ j, j < k → isVec p S.length (rw' m j) = true) (hn : ∀ j, j < k → pairN p S (rw' m j) (rw' m j) ≠ 0) {v : List Int} (hv : isVec p S.length v = true) : sdM p S (vrM p S m k) v = rfA p S m k v := by
  have hb := prm_bd (isSp_iff.1 hs).prime
  have hw := wA_vec (p := p) (S := S) (by omega) m k v hv
  have hl := (isVec_iff.1 hw).len
  rw [rf_wA hs m k hn v hv]
  refine row_ext (by unfold sdM; rw [mkR_len, sclV_len, hl]) fun i hi => ?_
  have hi' : i < S.length := by unfold sdM at hi; rw [mkR_len] at hi; exact hi
  unfold sdM
  rw [mkR_at _ hi']
  unfold sdF vnF
  rw [ar_vr hs m k hm v hv, nrF_vr hs hm, vecM_pow hl hi']
  unfold sclV
  rw [mkR_at _ (by rw [hl]; exact hi')]
/-- A product of vectors times its inverse is 1. -/
theorem vi_vr {p : Int} {S : List Int} (hs : isSp p S = true) {m : List (List Int)} {k : Nat} (hm : ∀ j, j < k → isVec p S.length (rw' m j) = true) (hn : ∀ j, j < k → pairN p S (rw' m j) (rw' m j) ≠ 0) : prodM p S (vrM p S m k) (viM p S (vrM p S m k)) = mOne S := by
  have hp := (isSp_iff.1 hs).prime
  have hb := prm_bd hp
  have h2 := vs_bd (p := p) (by omega) S m k
  have h3 := vs_ne hp m k hn
  unfold viM
  rw [prod_scl _ _ _ _ _ (Mv.len (rev_mv hs (vr_mv hs m k)))]
  show sclV p (nrM p S (vrM p S m k)) _ = _
  rw [nr_vr hs m k hm, nrF_vr hs hm, unit_times, inv_mul hp (by omega) h2.2]
  rfl
/-- Reflections keep norms. -/
theorem rf_keeps {p : Int} {S u v : List Int} (hp : prm p = true) (hv : isVec p S.length v = true) (h0 : pairN p S u u ≠ 0) : pairN p S (rflM p S u v) (rflM p S u v) = pairN p S v v := by
  have hb := prm_bd hp
  have hl := (isVec_iff.1 hv).len
  have hNb := pairN_bd7 (p := p) (S := S) (u := u) (v := u) (by omega)
  have hI : pairN p S u u * inv p (pairN p S u u) % p = 1 := inv_mul hp (by omega) hNb.2
  unfold rflM
  rw [pairN_lin hl, pairN_comm p S v, pairN_comm p S u (plusR _ _ _ _), pairN_lin hl, pairN_lin hl, pairN_comm p S v u]
  have hvv := pairN_bd7 (p := p) (S := S) (u := v) (v := v) (by omega)
  obtain ⟨V, hV⟩ : ∃ V, V = pairN p S v v := ⟨_, rfl⟩
  obtain ⟨A, hA⟩ : ∃ A, A = pairN p S u v := ⟨_, rfl⟩
  obtain ⟨N, hN⟩ : ∃ N, N = pairN p S u u := ⟨_, rfl⟩
  rw [← hV] at hvv ⊢
  rw [← hN] at hI hNb h0 ⊢
  rw [← hA]
  have hA2 : 0 ≤ A ∧ A < p := by rw [hA]; exact pairN_bd7 (by omega)
  clear hV hA hN
  have := every2_at (Q := fun p A N => decide (N ≠ 0 → (rfK p A N * A + rfK p A N * ((A + rfK p A N * N) % p)) % p = 0)) (by decide +kernel) hp hA2.1 hA2.2 hNb.1 hNb.2
  simp only [decide_eq_true_eq] at this
  have h1 := this h0
  rw [Int.emod_add_emod, Int.add_assoc, Int.add_emod, h1, Int.add_zero, Int.emod_emod, Int.emod_eq_of_lt hvv.1 hvv.2]
theorem rfA_vec {p : Int} {S : List Int} (hp : 0 < p) (m : List (List Int)) : ∀ k v, isVec p S.length v = true → isVec p S.length (rfA p S m k v) = true
  | 0, v, hv => hv
  | k + 1, v, hv => rfA_vec hp m k _ (rfl_vec7 hp hv)
end Go.Proofs.YthbkfpkeofpocaaGreat

namespace Go.Proofs.YthbkfpkeofpocaaGreat
open Go.RowKit
set_option linter.unusedVariables false

/-- The difference and the sum. -/
def dfM (p : Int) (u v : List Int) : List Int := plusR p v u (p - 1)
def smM7 (p : Int) (u v : List Int) : List Int := plusR p v u 1
theorem plus_vec {p : Int} {n : Nat} {u v : List Int} (hp : 0 < p) (k : Int) (hv : v.length = n) : isVec p n (plusR p v u k) = true := by
  refine isVec_iff.2 ⟨by unfold plusR; rw [mkR_len]; exact hv, ?_⟩
  rw [List.all_eq_true]
  intro y hy
  obtain ⟨j, hj, rfl⟩ := List.getElem_of_mem hy
  rw [← getD_at hj]
  have hj' : j < v.length := by unfold plusR at hj; rw [mkR_len] at hj; exact hj
  unfold plusR
  rw [mkR_at _ hj']
  exact inr_iff.2 ⟨Int.emod_nonneg _ (by omega), Int.emod_lt_of_pos _ hp⟩
theorem dfM_len (p : Int) (u v : List Int) : (dfM p u v).length = v.length := mkR_len _ _
theorem smM7_len (p : Int) (u v : List Int) : (smM7 p u v).length = v.length := mkR_len _ _
end Go.Proofs.YthbkfpkeofpocaaGreat
