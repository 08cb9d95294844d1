/-
  Versors: the sandwich of a product of vectors is the reflections in them, the last one first. No Go in sight.
  No conditions.
  VersorBetween (program): contracts of the program and of the model.
  Conditions: the lists are nil or rows of known cells, of at most 1048576 numbers.
  The versor between two vectors of the same norm leads the one to the other one. No Go in sight.
  No conditions.
  A matrix whose outer list is one's own, each row in a block of numbers: rows are put in the place of others.
  No conditions.
  Inverses of numbers, for the linear algebra: what XPower and XOver have.
  No conditions.
  The model's reduced bases: a contract.
  Conditions: the list of vectors is a row of rows of known cells with numbers of the prime, all of one length.
-/
import Derived.Test.YtlfjhffigkhmcaaGreatQe29
import Derived.Test.YtlfjhffigkhmcaaGreatQe26
import Derived.Deep.RegionHeld3
import Derived.Deep.DeepCutAuto
import Derived.Test.YtlfjhffigkhmcaaGreatQe6
import Derived.Test.YtlfjhffigkhmcaaGreatQe12
import Derived.Test.YtlfjhffigkhmcaaGreatQe14
import Derived.Outline
import Derived.BigQuiet
import Derived.Deep.QuietTactic
import Derived.RegionTactic
import Derived.Test.YtlfjhffigkhmcaaGreatQe20
import Derived.Test.YtlfjhffigkhmcaaGreatQe8
import Derived.Test.YtlfjhffigkhmcaaGreatQe7
namespace Go.Proofs.YtlfjhffigkhmcaaGreat
open Go.RowKit
set_option linter.unusedVariables false

theorem pair_zero (p : Int) (S w : List Int) : pairN p S (mkR S.length fun _ => 0) w = 0 := by
  unfold pairN psum
  rw [sm_congr (g := fun _ => 0) fun j hj => by rw [mkR_at _ hj, Int.zero_mul, Int.zero_mul], sm_zero, Int.zero_emod]
theorem scl_plus {p k : Int} {S v : List Int} (hv : v.length = S.length) : sclV p v k = plusR p (mkR S.length fun _ => 0) v k := by
  unfold sclV plusR
  rw [mkR_len, hv]
  refine mkR_congr fun j hj => ?_
  rw [mkR_at _ hj, Int.zero_add, Int.mul_comm]
theorem pair_scl {p k : Int} {S u v : List Int} (hv : v.length = S.length) : pairN p S u (sclV p v k) = pairN p S u v * k % p := by
  rw [pairN_comm, scl_plus hv, pairN_lin (mkR_len _ _), pair_zero, Int.zero_add, Int.mul_comm, pairN_comm]
theorem sclV_len (p k : Int) (v : List Int) : (sclV p v k).length = v.length := mkR_len _ _
theorem plus_vec7 {p : Int} {n : Nat} {u v : List Int} (hp : 0 < p) (k : Int) (hv : v.length = n) : isVec p n (plusR p v u k) = true := by
  refine isVec_iff.2 ⟨by unfold plusR; rw [mkR_len]; exact hv, ?_⟩
  rw [List.all_eq_true]
  intro y hy
  obtain ⟨j, hj, rfl⟩ := List.getElem_of_mem hy
  rw [← getD_at hj]
  have hj' : j < v.length := by unfold plusR at hj; rw [mkR_len] at hj; exact hj
  unfold plusR
  rw [mkR_at _ hj']
  exact inr_iff.2 ⟨Int.emod_nonneg _ (by omega), Int.emod_lt_of_pos _ hp⟩
theorem em_diff {p a b a' b' : Int} (h1 : a % p = a' % p) (h2 : b % p = b' % p) : (a - b) % p = (a' - b') % p := by rw [Int.sub_emod, h1, h2, ← Int.sub_emod]
theorem em_plus {p a b a' b' : Int} (h1 : a % p = a' % p) (h2 : b % p = b' % p) : (a + b) % p = (a' + b') % p := by rw [Int.add_emod, h1, h2, ← Int.add_emod]
theorem lin_scl (p a b k x y : Int) : (a * (x * k % p) - 2 * (b * k % p) % p * y) % p = (a * x - 2 * b % p * y) % p * k % p := by
  rw [em_l, Int.sub_mul]
  refine em_diff (by rw [em_r, Int.mul_assoc]) ?_
  rw [em_l, Int.mul_assoc (2 * b % p), em_l, show 2 * (b * k % p) * y = 2 * y * (b * k % p) by rw [Int.mul_assoc, Int.mul_comm (b * k % p), ← Int.mul_assoc], em_r]
  congr 1
  rw [Int.mul_assoc 2 y, Int.mul_assoc 2 b, ← Int.mul_assoc y b k, Int.mul_comm y b, Int.mul_assoc b y k]
theorem wV_scl {p k : Int} {S u v : List Int} (hv : v.length = S.length) : wV p S u (sclV p v k) = sclV p (wV p S u v) k := by
  refine row_ext (by rw [sclV_len, wV_len, wV_len]) fun i hi => ?_
  rw [wV_len] at hi
  unfold wV
  rw [mkR_at _ hi, pair_scl hv]
  unfold sclV
  rw [mkR_at _ (by rw [hv]; exact hi), mkR_at _ (by rw [mkR_len]; exact hi), mkR_at _ hi]
  exact lin_scl _ _ _ _ _ _
theorem wA_scl {p k : Int} {S : List Int} (m : List (List Int)) : ∀ n v, v.length = S.length → wA p S m n (sclV p v k) = sclV p (wA p S m n v) k
  | 0, v, _ => rfl
  | n + 1, v, hv => by
    show wA p S m n (wV p S _ (sclV p v k)) = sclV p (wA p S m n (wV p S _ v)) k
    rw [wV_scl hv]
    exact wA_scl m n _ (wV_len _ _ _ _)
/-- The reflection is what is around, divided by the norm. -/
theorem rfl_w {p : Int} {S u v : List Int} (hp : prm p = true) (hv : isVec p S.length v = true) (h0 : pairN p S u u ≠ 0) : rflM p S u v = sclV p (wV p S u v) (inv p (pairN p S u u)) := by
  have hb := prm_bd hp
  have hl := (isVec_iff.1 hv).len
  obtain ⟨N, hN⟩ : ∃ N, N = pairN p S u u := ⟨_, rfl⟩
  have hNb := pairN_bd7 (p := p) (S := S) (u := u) (v := u) (by omega)
  rw [← hN] at h0 hNb
  have hI : N * inv p N % p = 1 := inv_mul hp (by omega) hNb.2
  refine row_ext (by unfold rflM plusR; rw [mkR_len, sclV_len, wV_len]; exact hl) fun i hi => ?_
  have hi' : i < S.length := by unfold rflM plusR at hi; rw [mkR_len] at hi; omega
  have hvi := (isVec_iff.1 hv).num hi'
  unfold rflM plusR rfK sclV wV
  rw [mkR_at _ (by omega), mkR_at _ (by rw [mkR_len]; exact hi'), mkR_at _ hi', ← hN]
  obtain ⟨A, hA⟩ : ∃ A, A = pairN p S u v := ⟨_, rfl⟩
  obtain ⟨I, hIe⟩ : ∃ I, I = inv p N := ⟨_, rfl⟩
  obtain ⟨x, hx⟩ : ∃ x, x = v.getD i 0 := ⟨_, rfl⟩
  obtain ⟨y, hy⟩ : ∃ y, y = u.getD i 0 := ⟨_, rfl⟩
  rw [← hA, ← hIe, ← hx, ← hy]
  rw [← hIe] at hI
  rw [em_l (N * x - 2 * A % p * y) I p, Int.sub_mul, Int.sub_eq_add_neg]
  refine em_plus ?_ ?_
  · rw [show N * x * I = N * I * x by rw [Int.mul_assoc, Int.mul_comm x, ← Int.mul_assoc], ← em_l, hI, Int.one_mul]
  · have e1 : (-2 * A % p * I % p * y) % p = -2 * A * (I * y) % p := by rw [em_l, Int.mul_assoc, em_l]
    have e2 : -(2 * A % p * y * I) % p = -2 * A * (I * y) % p := by
      rw [show -(2 * A % p * y * I) = 0 - 2 * A % p * y * I by omega, show -2 * A * (I * y) = 0 - 2 * A * (I * y) by rw [Int.neg_mul, Int.neg_mul]; omega]
      exact em_diff rfl (by rw [Int.mul_assoc, em_l, Int.mul_comm y I])
    rw [e1, e2]
theorem inv_two {p a b : Int} (hp : prm p = true) (h0 : 0 ≤ a) (h1 : a < p) (k0 : 0 ≤ b) (k1 : b < p) : inv p b * inv p a % p = inv p (a * b % p) := by
  have := every2_at (Q := fun p a b => decide (inv p b * inv p a % p = inv p (a * b % p))) (by decide +kernel) hp h0 h1 k0 k1
  simpa using this
/-- The reflections in the first k vectors, the last one first. -/
def rfA (p : Int) (S : List Int) (m : List (List Int)) : Nat → List Int → List Int
  | 0, v => v
  | k + 1, v => rfA p S m k (rflM p S (rw' m k) v)
theorem rfl_vec7 {p : Int} {S u v : List Int} (hp : 0 < p) (hv : isVec p S.length v = true) : isVec p S.length (rflM p S u v) = true := plus_vec7 hp _ (isVec_iff.1 hv).len
theorem rf_wA {p : Int} {S : List Int} (hs : isSp p S = true) (m : List (List Int)) : ∀ k, (∀ j, j < k → pairN p S (rw' m j) (rw' m j) ≠ 0) → ∀ v, isVec p S.length v = true → rfA p S m k v = sclV p (wA p S m k v) (inv p (vsF p S m k))
  | 0, _, v, hv => by
    have hp := (isSp_iff.1 hs).prime
    show v = sclV p v (inv p 1)
    have h1 : inv p 1 = 1 := by rcases prm_or hp with rfl | rfl | rfl | rfl | rfl <;> decide +kernel
    rw [h1, scl_one fun j hj => (isVec_iff.1 hv).num (by rw [← (isVec_iff.1 hv).len]; exact hj)]
  | k + 1, hn, v, hv => by
    have hp := (isSp_iff.1 hs).prime
    have hb := prm_bd hp
    have h2 := vs_bd (p := p) (by omega) S m k
    have h3 := pairN_bd7 (p := p) (S := S) (u := rw' m k) (v := rw' m k) (by omega)
    show rfA p S m k (rflM p S (rw' m k) v) = sclV p (wA p S m k (wV p S (rw' m k) v)) (inv p (vsF p S m k * pairN p S (rw' m k) (rw' m k) % p))
    rw [rf_wA hs m k (fun j hj => hn j (by omega)) _ (rfl_vec7 (by omega) hv), rfl_w hp hv (hn k (by omega)), wA_scl _ _ _ (wV_len _ _ _ _), scl_scl, inv_two hp h2.1 h2.2 h3.1 h3.2]
/-- The sandwich of a product of vectors. -/
theorem sd_vr {p : Int} {S : List Int} (hs : isSp p S = true) {m : List (List Int)} {k : Nat} (hm : ∀ j, j < k → isVec p S.length (rw' m j) = true) (hn : ∀ j, j < k → pairN p S (rw' m j) (rw' m j) ≠ 0) {v : List Int} (hv : isVec p S.length v = true) : sdM p S (vrM p S m k) v = rfA p S m k v := by
  have hb := prm_bd (isSp_iff.1 hs).prime
  have hw := wA_vec (p := p) (S := S) (by omega) m k v hv
  have hl := (isVec_iff.1 hw).len
  rw [rf_wA hs m k hn v hv]
  refine row_ext (by unfold sdM; rw [mkR_len, sclV_len, hl]) fun i hi => ?_
  have hi' : i < S.length := by unfold sdM at hi; rw [mkR_len] at hi; exact hi
  unfold sdM
  rw [mkR_at _ hi']
  unfold sdF vnF
  rw [ar_vr hs m k hm v hv, nrF_vr hs hm, vecM_pow hl hi']
  unfold sclV
  rw [mkR_at _ (by rw [hl]; exact hi')]
/-- Reflections keep norms. -/
theorem rf_keeps {p : Int} {S u v : List Int} (hp : prm p = true) (hv : isVec p S.length v = true) (h0 : pairN p S u u ≠ 0) : pairN p S (rflM p S u v) (rflM p S u v) = pairN p S v v := by
  have hb := prm_bd hp
  have hl := (isVec_iff.1 hv).len
  have hNb := pairN_bd7 (p := p) (S := S) (u := u) (v := u) (by omega)
  have hI : pairN p S u u * inv p (pairN p S u u) % p = 1 := inv_mul hp (by omega) hNb.2
  unfold rflM
  rw [pairN_lin hl, pairN_comm p S v, pairN_comm p S u (plusR _ _ _ _), pairN_lin hl, pairN_lin hl, pairN_comm p S v u]
  have hvv := pairN_bd7 (p := p) (S := S) (u := v) (v := v) (by omega)
  obtain ⟨V, hV⟩ : ∃ V, V = pairN p S v v := ⟨_, rfl⟩
  obtain ⟨A, hA⟩ : ∃ A, A = pairN p S u v := ⟨_, rfl⟩
  obtain ⟨N, hN⟩ : ∃ N, N = pairN p S u u := ⟨_, rfl⟩
  rw [← hV] at hvv ⊢
  rw [← hN] at hI hNb h0 ⊢
  rw [← hA]
  have hA2 : 0 ≤ A ∧ A < p := by rw [hA]; exact pairN_bd7 (by omega)
  clear hV hA hN
  have := every2_at (Q := fun p A N => decide (N ≠ 0 → (rfK p A N * A + rfK p A N * ((A + rfK p A N * N) % p)) % p = 0)) (by decide +kernel) hp hA2.1 hA2.2 hNb.1 hNb.2
  simp only [decide_eq_true_eq] at this
  have h1 := this h0
  rw [Int.emod_add_emod, Int.add_assoc, Int.add_emod, h1, Int.add_zero, Int.emod_emod, Int.emod_eq_of_lt hvv.1 hvv.2]
end Go.Proofs.YtlfjhffigkhmcaaGreat

namespace Go.Proofs.YtlfjhffigkhmcaaGreat
open Go.RowKit
set_option linter.unusedVariables false

/-- The difference and the sum. -/
def dfM (p : Int) (u v : List Int) : List Int := plusR p v u (p - 1)
def smM7 (p : Int) (u v : List Int) : List Int := plusR p v u 1
theorem plus_vec {p : Int} {n : Nat} {u v : List Int} (hp : 0 < p) (k : Int) (hv : v.length = n) : isVec p n (plusR p v u k) = true := by
  refine isVec_iff.2 ⟨by unfold plusR; rw [mkR_len]; exact hv, ?_⟩
  rw [List.all_eq_true]
  intro y hy
  obtain ⟨j, hj, rfl⟩ := List.getElem_of_mem hy
  rw [← getD_at hj]
  have hj' : j < v.length := by unfold plusR at hj; rw [mkR_len] at hj; exact hj
  unfold plusR
  rw [mkR_at _ hj']
  exact inr_iff.2 ⟨Int.emod_nonneg _ (by omega), Int.emod_lt_of_pos _ hp⟩
theorem plus_len (p k : Int) (u v : List Int) : (plusR p v u k).length = v.length := mkR_len _ _
theorem dfM_len (p : Int) (u v : List Int) : (dfM p u v).length = v.length := mkR_len _ _
theorem smM7_len (p : Int) (u v : List Int) : (smM7 p u v).length = v.length := mkR_len _ _
end Go.Proofs.YtlfjhffigkhmcaaGreat

namespace Go.Proofs.YtlfjhffigkhmcaaGreat
open Go.RowKit
set_option linter.unusedVariables false

theorem vr_single {p : Int} {S D : List Int} (hs : isSp p S = true) (hD : isVec p S.length D = true) : vrM p S [D] 1 = vecM S D := by
  have h := vec_mv hs hD
  exact prodM_one_l p S (vecM S D) (Mv.len h) (Mv.num h)
/-- The norm of the difference and its product with the first vector, from (u,v) = A and the norms N. -/
def dN (p A N : Int) : Int := ((N + (p - 1) * A) % p + (p - 1) * ((A + (p - 1) * N) % p)) % p
def sN (p A N : Int) : Int := ((N + 1 * A) % p + 1 * ((A + 1 * N) % p)) % p
theorem df_norm {p : Int} {S u v : List Int} (hu : u.length = S.length) (hv : v.length = S.length) (he : pairN p S u u = pairN p S v v) : pairN p S (dfM p u v) (dfM p u v) = dN p (pairN p S u v) (pairN p S u u) ∧ pairN p S (dfM p u v) u = (pairN p S u v + (p - 1) * pairN p S u u) % p := by
  unfold dfM dN
  constructor
  · rw [pairN_lin hv, pairN_comm p S v, pairN_comm p S u (plusR _ _ _ _), pairN_lin hv, pairN_lin hv, pairN_comm p S v u, ← he]
  · rw [pairN_lin hv, pairN_comm p S v u]
theorem sm_norm {p : Int} {S u v : List Int} (hu : u.length = S.length) (hv : v.length = S.length) (he : pairN p S u u = pairN p S v v) : pairN p S (smM7 p u v) (smM7 p u v) = sN p (pairN p S u v) (pairN p S u u) ∧ pairN p S (smM7 p u v) u = (pairN p S u v + 1 * pairN p S u u) % p := by
  unfold smM7 sN
  constructor
  · rw [pairN_lin hv, pairN_comm p S v, pairN_comm p S u (plusR _ _ _ _), pairN_lin hv, pairN_lin hv, pairN_comm p S v u, ← he]
  · rw [pairN_lin hv, pairN_comm p S v u]
theorem rf_one {p A N : Int} (hp : prm p = true) (h0 : 0 ≤ A) (h1 : A < p) (k0 : 0 ≤ N) (k1 : N < p) (h : dN p A N ≠ 0) : rfK p ((A + (p - 1) * N) % p) (dN p A N) = 1 := by
  have := every2_at (Q := fun p A N => decide (dN p A N ≠ 0 → rfK p ((A + (p - 1) * N) % p) (dN p A N) = 1)) (by decide +kernel) hp h0 h1 k0 k1
  simp only [decide_eq_true_eq] at this
  exact this h
theorem rf_minus {p A N : Int} (hp : prm p = true) (h0 : 0 ≤ A) (h1 : A < p) (k0 : 0 ≤ N) (k1 : N < p) (h : dN p A N = 0) (hN : N ≠ 0) : sN p A N ≠ 0 ∧ rfK p ((A + 1 * N) % p) (sN p A N) = p - 1 ∧ rfK p (N * (p - 1) % p) N = 2 := by
  have := every2_at (Q := fun p A N => decide (dN p A N = 0 → N ≠ 0 → sN p A N ≠ 0 ∧ rfK p ((A + 1 * N) % p) (sN p A N) = p - 1 ∧ rfK p (N * (p - 1) % p) N = 2)) (by decide +kernel) hp h0 h1 k0 k1
  simp only [decide_eq_true_eq] at this
  exact this h hN
theorem minus_mod {p y : Int} : (y + (p - 1) * y) % p = 0 := by rw [show y + (p - 1) * y = p * y by rw [Int.sub_mul]; omega, Int.mul_emod_right]
theorem between_d {p : Int} {S u v : List Int} (hs : isSp p S = true) (hu : isVec p S.length u = true) (hv : isVec p S.length v = true) (he : pairN p S u u = pairN p S v v) (hd : pairN p S (dfM p u v) (dfM p u v) ≠ 0) : isVr p S (vecM S (dfM p u v)) = true ∧ sdM p S (vecM S (dfM p u v)) u = v := by
  have hp := (isSp_iff.1 hs).prime
  have hb := prm_bd hp
  have hul := (isVec_iff.1 hu).len
  have hvl := (isVec_iff.1 hv).len
  have hDv : isVec p S.length (dfM p u v) = true := plus_vec (by omega) _ hvl
  have hm : ∀ j, j < 1 → isVec p S.length (rw' [dfM p u v] j) = true := fun j hj => by rw [show j = 0 by omega]; exact hDv
  have hn : ∀ j, j < 1 → pairN p S (rw' [dfM p u v] j) (rw' [dfM p u v] j) ≠ 0 := fun j hj => by rw [show j = 0 by omega]; exact hd
  rw [← vr_single hs hDv]
  refine ⟨isVr_vr hs hm hn, ?_⟩
  rw [sd_vr hs hm hn hu]
  show plusR p u (dfM p u v) (rfK p (pairN p S (dfM p u v) u) (pairN p S (dfM p u v) (dfM p u v))) = v
  have hA := pairN_bd7 (p := p) (S := S) (u := u) (v := v) (by omega)
  have hN := pairN_bd7 (p := p) (S := S) (u := u) (v := u) (by omega)
  rw [(df_norm hul hvl he).1] at hd ⊢
  rw [(df_norm hul hvl he).2, rf_one hp hA.1 hA.2 hN.1 hN.2 hd]
  refine row_ext (by unfold plusR; rw [mkR_len, hul, hvl]) fun i hi => ?_
  have hi' : i < S.length := by unfold plusR at hi; rw [mkR_len, hul] at hi; exact hi
  have h1 := (isVec_iff.1 hv).num hi'
  unfold dfM plusR
  rw [mkR_at _ (by rw [hul]; exact hi'), mkR_at _ (by rw [hvl]; exact hi'), Int.one_mul, Int.add_comm, Int.emod_add_emod, Int.add_assoc, Int.add_comm _ (u.getD i 0), Int.add_emod, minus_mod, Int.add_zero, Int.emod_emod, Int.emod_eq_of_lt h1.1 h1.2]
theorem between_s {p : Int} {S u v : List Int} (hs : isSp p S = true) (hu : isVec p S.length u = true) (hv : isVec p S.length v = true) (he : pairN p S u u = pairN p S v v) (h0 : pairN p S u u ≠ 0) (hd : pairN p S (dfM p u v) (dfM p u v) = 0) : isVr p S (vrM p S [v, smM7 p u v] 2) = true ∧ sdM p S (vrM p S [v, smM7 p u v] 2) u = v := by
  have hp := (isSp_iff.1 hs).prime
  have hb := prm_bd hp
  have hul := (isVec_iff.1 hu).len
  have hvl := (isVec_iff.1 hv).len
  have hA := pairN_bd7 (p := p) (S := S) (u := u) (v := v) (by omega)
  have hN := pairN_bd7 (p := p) (S := S) (u := u) (v := u) (by omega)
  rw [(df_norm hul hvl he).1] at hd
  obtain ⟨hs0, hk1, hk2⟩ := rf_minus hp hA.1 hA.2 hN.1 hN.2 hd h0
  have hSv : isVec p S.length (smM7 p u v) = true := plus_vec (by omega) _ hvl
  have hm : ∀ j, j < 2 → isVec p S.length (rw' [v, smM7 p u v] j) = true := fun j hj => by
    match j, hj with
    | 0, _ => exact hv
    | 1, _ => exact hSv
  have hn : ∀ j, j < 2 → pairN p S (rw' [v, smM7 p u v] j) (rw' [v, smM7 p u v] j) ≠ 0 := fun j hj => by
    match j, hj with
    | 0, _ => show pairN p S v v ≠ 0; rw [← he]; exact h0
    | 1, _ => show pairN p S (smM7 p u v) (smM7 p u v) ≠ 0; rw [(sm_norm hul hvl he).1]; exact hs0
  refine ⟨isVr_vr hs hm hn, ?_⟩
  rw [sd_vr hs hm hn hu]
  show rflM p S v (rflM p S (smM7 p u v) u) = v
  have h1 : rflM p S (smM7 p u v) u = sclV p v (p - 1) := by
    unfold rflM
    rw [(sm_norm hul hvl he).1, (sm_norm hul hvl he).2, hk1]
    refine row_ext (by unfold plusR; rw [mkR_len, sclV_len, hul, hvl]) fun i hi => ?_
    have hi' : i < S.length := by unfold plusR at hi; rw [mkR_len, hul] at hi; exact hi
    unfold smM7 plusR sclV
    rw [mkR_at _ (by rw [hul]; exact hi'), mkR_at _ (by rw [hvl]; exact hi'), mkR_at _ (by rw [hvl]; exact hi'), Int.one_mul]
    rw [Int.add_emod, em_r, ← Int.add_emod, Int.mul_add, Int.add_comm ((p - 1) * v.getD i 0), ← Int.add_assoc, Int.add_emod, minus_mod, Int.zero_add, Int.emod_emod, Int.mul_comm]
  rw [h1]
  unfold rflM
  rw [pair_scl hvl, ← he, hk2]
  refine row_ext (by unfold plusR; rw [mkR_len, sclV_len]) fun i hi => ?_
  have hi' : i < S.length := by unfold plusR at hi; rw [mkR_len, sclV_len, hvl] at hi; exact hi
  have h2 := (isVec_iff.1 hv).num hi'
  unfold plusR sclV
  rw [mkR_at _ (by rw [mkR_len, hvl]; exact hi'), mkR_at _ (by rw [hvl]; exact hi'), Int.emod_add_emod, show v.getD i 0 * (p - 1) + 2 * v.getD i 0 = v.getD i 0 + p * v.getD i 0 by rw [Int.mul_sub, Int.mul_comm p]; omega, Int.add_mul_emod_self_left, Int.emod_eq_of_lt h2.1 h2.2]
end Go.Proofs.YtlfjhffigkhmcaaGreat

namespace Go.Proofs.YtlfjhffigkhmcaaGreat
open Go.RowKit
set_option linter.unusedVariables false

/-- The outer list lies at the head of block b, the rows in blocks of numbers from lo on. -/
structure TopM (lo : Nat) (w : World) (b : Nat) (m : List (List Int)) : Prop where
  lob : lo ≤ b
  tag : ∃ cur, w.heap[b]? = some (.cells cur 22 (0, 0))
  row : ∀ i, i < m.length → ∃ r c, w.cell? ⟨b, i, none⟩ = some (.slice r (rw' m i).length c) ∧ TagR lo w.heap.size w r (rw' m i)
theorem TopM.lt {lo : Nat} {w : World} {b : Nat} {m : List (List Int)} (h : TopM lo w b m) : b < w.heap.size := by
  obtain ⟨cur, hb⟩ := h.tag
  exact (Array.getElem?_eq_some_iff.1 hb).1
theorem TopM.free {lo : Nat} {w : World} {b : Nat} {m : List (List Int)} (h : TopM lo w b m) (j : Nat) : w.frozen? ⟨b, j, none⟩ = false := by
  obtain ⟨cur, hb⟩ := h.tag
  exact free_of hb j
theorem TopM.below {lo : Nat} {w w' : World} {b : Nat} {m : List (List Int)} (h : TopM lo w b m) (hb : Below w.heap.size w w') : TopM lo w' b m where
  lob := h.lob
  tag := by obtain ⟨cur, hc⟩ := h.tag; exact ⟨cur, (hb.block b h.lt).trans hc⟩
  row i hi := by
    obtain ⟨r, c, h1, h2⟩ := h.row i hi
    exact ⟨r, c, (hb.cell (p := ⟨b, i, none⟩) h.lt).trans h1, h2.below hb (Nat.le_refl _) (Nat.le_refl _) hb.size⟩
theorem TopM.mono {lo lo' : Nat} {w : World} {b : Nat} {m : List (List Int)} (h : TopM lo w b m) (hl : lo' ≤ lo) : TopM lo' w b m where
  lob := Nat.le_trans hl h.lob
  tag := h.tag
  row i hi := by
    obtain ⟨r, c, h1, h2⟩ := h.row i hi
    exact ⟨r, c, h1, h2.block hl (Nat.le_refl _) (fun _ _ _ _ _ => rfl)⟩
theorem TopM.mat {lo : Nat} {w : World} {b : Nat} {m : List (List Int)} (h : TopM lo w b m) : MatIn lo w.heap.size w (some ⟨b, 0, none⟩) m :=
  .inr ⟨b, 0, rfl, h.lob, h.lt, fun i hi => by
    obtain ⟨r, c, h1, h2⟩ := h.row i hi
    exact ⟨r, c, by rw [Nat.zero_add]; exact h1, h2.row⟩⟩
theorem rw_set {m : List (List Int)} {i j : Nat} (z : List Int) (hi : i < m.length) : rw' (m.set i z) j = if j = i then z else rw' m j := by
  simp only [rw', List.getD_eq_getElem?_getD, List.getElem?_set]
  by_cases e : j = i
  · subst e; simp [hi]
  · rw [if_neg (fun h => e h.symm), if_neg e]
/-- Another row is put in the place of row i. -/
theorem TopM.set {lo : Nat} {w : World} {b i : Nat} {m : List (List Int)} {r : Option Addr} {z : List Int} {c : Nat} (h : TopM lo w b m) (hi : i < m.length) (hz : TagR lo w.heap.size w r z) :
    TopM lo (w.setCell ⟨b, i, none⟩ (.slice r z.length c)) b (m.set i z) := by
  obtain ⟨cur, hcur⟩ := h.tag
  have hsz : (w.setCell ⟨b, i, none⟩ (.slice r z.length c)).heap.size = w.heap.size := by simp [World.setCell]
  have keep : ∀ k cur', w.heap[k]? = some (Obj.cells cur' 2 (0, 0)) → (w.setCell ⟨b, i, none⟩ (.slice r z.length c)).heap[k]? = w.heap[k]? := fun k cur' hk =>
    Below.heap_setCell _ _ _ _ (fun e => by have e1 : k = b := e; subst e1; rw [hcur] at hk; simp at hk)
  obtain ⟨r0, c0, g0, _⟩ := h.row i hi
  refine ⟨h.lob, ⟨cur.setIfInBounds i (.slice r z.length c), by simp [World.setCell, Array.getElem?_modify, hcur]⟩, fun j hj => ?_⟩
  rw [List.length_set] at hj
  rw [rw_set z hi, hsz]
  by_cases e : j = i
  · subst e
    rw [if_pos rfl]
    exact ⟨r, c, World.cell?_setCell_same w _ _ g0, hz.block (Nat.le_refl _) (Nat.le_refl _) (fun k cur' _ _ hk => keep k cur' hk)⟩
  · rw [if_neg e]
    obtain ⟨r1, c1, g1, g2⟩ := h.row j hj
    exact ⟨r1, c1, (World.cell?_setCell_other _ _ _ _ (fun e2 => e (by injection e2 with _ e3; exact e3.symm))).trans g1, g2.block (Nat.le_refl _) (Nat.le_refl _) (fun k cur' _ _ hk => keep k cur' hk)⟩
theorem OutM.top {B : Nat} {w : World} {v : Value} {m : List (List Int)} (h : OutM B w v m) (h0 : 0 < m.length) : ∃ b c, v = .slice (some ⟨b, 0, none⟩) m.length c ∧ m.length ≤ c ∧ c ≤ maxLen ∧ TopM B w b m := by
  obtain ⟨vals, ho, hr⟩ := h
  rcases ho.2 with ⟨rfl, hn⟩ | ⟨g, cap, cur, rfl, hb, hg, hnc, hcm, hcs, htake⟩
  · omega
  · refine ⟨g, cap, rfl, hnc, hcm, hb, ⟨cur, hg⟩, fun i hi => ?_⟩
    obtain ⟨r, c, h1, h2⟩ := hr i hi
    refine ⟨r, c, ?_, h2⟩
    have := ho.cells (g := g) rfl i _ h1
    rwa [Addr.add_lit, Nat.zero_add] at this

theorem TagR.setTop {lo lo' tp : Nat} {w : World} {b i : Nat} {m : List (List Int)} {r : Option Addr} {z : List Int} {v : Value} (h : TopM lo w b m) (hz : TagR lo' tp w r z) : TagR lo' tp (w.setCell ⟨b, i, none⟩ v) r z := by
  obtain ⟨cur, hcur⟩ := h.tag
  exact hz.block (Nat.le_refl _) (Nat.le_refl _) (fun k cur' _ _ hk => Below.heap_setCell _ _ _ _ (fun e => by have e1 : k = b := e; subst e1; rw [hcur] at hk; simp at hk))

end Go.Proofs.YtlfjhffigkhmcaaGreat

namespace Go.Proofs.YtlfjhffigkhmcaaGreat
open Go.RowKit
set_option linter.unusedVariables false

/-- What stands in the rows when row d is scaled and the first i are done. -/
def sig (d f i : Nat) : Nat := if i = f then d else i
def scaled (p : Int) (m : List (List Int)) (f k : Nat) : List Int := sclR p (rw' m f) (inv p (at' m f k))
def doneRow (p : Int) (m : List (List Int)) (d f k i : Nat) : List Int := if i = d then scaled p m f k else plusR p (rw' m (sig d f i)) (scaled p m f k) ((p - at' m (sig d f i) k) % p)
def midRow (p : Int) (m : List (List Int)) (d f k i : Nat) : List Int := if i = d then scaled p m f k else rw' m (sig d f i)
def rowsAt (p : Int) (m : List (List Int)) (d f k i : Nat) : List (List Int) := (List.range m.length).map fun j => if j < i then doneRow p m d f k j else midRow p m d f k j
theorem rowsAt_len (p : Int) (m : List (List Int)) (d f k i : Nat) : (rowsAt p m d f k i).length = m.length := by simp [rowsAt]
theorem rowsAt_row {p : Int} {m : List (List Int)} {d f k i j : Nat} (h : j < m.length) : rw' (rowsAt p m d f k i) j = if j < i then doneRow p m d f k j else midRow p m d f k j := by simp [rowsAt, rw', List.getD, h]
theorem ColAt.rows {p : Int} {c : Nat} {A m : List (List Int)} {d k f : Nat} {P : Nat → Nat} (hp : prm p = true) (h : ColAt p c A m d k P) (hk : k < c) (hdf : d ≤ f) (hf : f < m.length) (ha : 1 ≤ at' m f k) :
    ColAt p c A (rowsAt p m d f k m.length) (d + 1) (k + 1) (fun i => if i = d then k else P i) := by
  have hL : ∀ i, i < m.length → rw' (rowsAt p m d f k m.length) i = doneRow p m d f k i := fun i hi => by rw [rowsAt_row hi, if_pos hi]
  have hsig : ∀ i, i < m.length → sig d f i < m.length := fun i hi => by unfold sig; split <;> omega
  have hdm : d < m.length := by omega
  have hS : (scaled p m f k).length = c := by unfold scaled sclR; rw [mkR_len, h.len f hf]
  refine h.pick hp hk hdf hf ha (rowsAt_len _ _ _ _ _ _) (fun i hi => ?_) (fun j hj => ?_) (fun i hi hne j hj => ?_)
  · rw [rowsAt_len] at hi
    rw [hL i hi]
    unfold doneRow
    split
    · exact hS
    · unfold plusR; rw [mkR_len]; exact h.len _ (hsig i hi)
  · have e : at' (rowsAt p m d f k m.length) d j = (scaled p m f k).getD j 0 := by unfold at'; rw [hL d hdm]; unfold doneRow; rw [if_pos rfl]
    rw [e]
    unfold scaled sclR
    rw [mkR_at _ (by rw [h.len f hf]; exact hj)]; rfl
  · have e : at' (rowsAt p m d f k m.length) i j = (plusR p (rw' m (sig d f i)) (scaled p m f k) ((p - at' m (sig d f i) k) % p)).getD j 0 := by unfold at'; rw [hL i hi]; unfold doneRow; rw [if_neg hne]; rfl
    have e2 : at' (rowsAt p m d f k m.length) d j = (scaled p m f k).getD j 0 := by unfold at'; rw [hL d hdm]; unfold doneRow; rw [if_pos rfl]
    rw [e, e2]
    unfold plusR
    rw [mkR_at _ (by rw [h.len _ (hsig i hi)]; exact hj)]; rfl

end Go.Proofs.YtlfjhffigkhmcaaGreat
