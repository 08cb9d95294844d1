/-
  The inverse of a product of vectors is a versor, and its sandwich leads back. No Go in sight.
  No conditions.
  Products of multivectors: an inverse behind is one ahead. No Go in sight.
  No conditions.
  Sandwiches by what is told to be a versor: they keep products, and lead vectors to vectors. No Go in sight.
  No conditions.
-/
import Derived.Test.YtgfanoejohpmkaaGreatQs43
import Derived.Test.YtgfanoejohpmkaaGreatQs21
import Derived.Test.YtgfanoejohpmkaaGreatQs26
import Derived.Test.YtgfanoejohpmkaaGreatQs12
namespace Go.Proofs.YtgfanoejohpmkaaGreat
open Go.RowKit
set_option linter.unusedVariables false

theorem sg_scl {p k : Int} (c : Nat → Nat) (x : List Int) : mkR (sclV p x k).length (sgF p c (sclV p x k)) = sclV p (mkR x.length (sgF p c x)) k := by
  rw [sclV_len]
  unfold sclV
  rw [mkR_len]
  refine mkR_congr fun j hj => ?_
  rw [mkR_at _ hj]
  unfold sgF
  rw [mkR_at _ hj]
  split
  · rw [em_l, em_sub, Int.sub_mul, show p * k - x.getD j 0 * k = -(x.getD j 0 * k) + p * k by omega, Int.add_mul_emod_self_left]
  · rfl
theorem iv_scl {p k : Int} (x : List Int) : ivM p (sclV p x k) = sclV p (ivM p x) k := sg_scl _ x
theorem rev_scl {p k : Int} (x : List Int) : revM p (sclV p x k) = sclV p (revM p x) k := sg_scl _ x
theorem ar_scl {p k : Int} {S x v : List Int} (hx : x.length = bl S) : arM p S (sclV p x k) v = sclV p (arM p S x v) (k * k % p) := by
  unfold arM
  rw [iv_scl, rev_scl, prod_scl_l _ _ _ _ _ (by rw [ivM_len]; exact hx), prod_scl_l _ _ _ _ _ (prodM_len _ _ _ _), prod_scl _ _ _ _ _ (by rw [revM_len]; exact hx), scl_scl]
theorem nr_scl {p k : Int} {S x : List Int} (hx : x.length = bl S) : nrM p S (sclV p x k) = sclV p (nrM p S x) (k * k % p) := by
  unfold nrM
  rw [rev_scl, prod_scl_l _ _ _ _ _ hx, prod_scl _ _ _ _ _ (by rw [revM_len]; exact hx), scl_scl]
theorem nrF_scl {p k : Int} {S x : List Int} (hx : x.length = bl S) : nrF p S (sclV p x k) = nrF p S x * (k * k % p) % p := by
  rw [← nrM_zero, ← nrM_zero, nr_scl hx]
  unfold sclV
  rw [mkR_at _ (by unfold nrM; rw [prodM_len]; exact bl_pos S)]
theorem par_scl {p k : Int} {x : List Int} {r : Nat} (h : parB x r = true) : parB (sclV p x k) r = true := by
  refine parB_iff.2 fun j hj h0 => ?_
  rw [sclV_len] at hj
  refine parB_iff.1 h j hj fun e => h0 ?_
  unfold sclV
  rw [mkR_at _ hj, e, Int.zero_mul, Int.zero_emod]
/-- The first k vectors, turned round. -/
def rvV (m : List (List Int)) : Nat → List (List Int)
  | 0 => []
  | k + 1 => rw' m k :: rvV m k
theorem vr_cons {p : Int} {S u : List Int} (hs : isSp p S = true) (hu : isVec p S.length u = true) (m : List (List Int)) : ∀ k, vrM p S (u :: m) (k + 1) = prodM p S (vecM S u) (vrM p S m k)
  | 0 => by
    have h := vec_mv hs hu
    show prodM p S (mOne S) (vecM S u) = prodM p S (vecM S u) (mOne S)
    rw [show prodM p S (mOne S) (vecM S u) = vecM S u from prodM_one_l p S _ (Mv.len h) (Mv.num h), show prodM p S (vecM S u) (mOne S) = vecM S u from prodM_one_r p S _ (Mv.len h) (Mv.num h)]
  | k + 1 => by
    show prodM p S (vrM p S (u :: m) (k + 1)) (vecM S (rw' m k)) = prodM p S (vecM S u) (prodM p S (vrM p S m k) (vecM S (rw' m k)))
    rw [vr_cons hs hu m k, prodM_assoc]
theorem rev_vr {p : Int} {S : List Int} (hs : isSp p S = true) (m : List (List Int)) : ∀ k, (∀ j, j < k → isVec p S.length (rw' m j) = true) → revM p (vrM p S m k) = vrM p S (rvV m k) k
  | 0, _ => rev_one
  | k + 1, hm => by
    have h6 := (isSp_iff.1 hs).hi
    have hp := prm_bd (isSp_iff.1 hs).prime
    have hx := vr_mv hs m k
    have hU := vec_mv hs (hm k (by omega))
    have e2 : revM p (prodM p S (vrM p S m k) (vecM S (rw' m k))) = prodM p S (revM p (vecM S (rw' m k))) (revM p (vrM p S m k)) := (rev_prod (by omega) h6 (Mv.len hx) (Mv.len hU) (Mv.num hx) (Mv.num hU)).symm
    show revM p (prodM p S (vrM p S m k) (vecM S (rw' m k))) = vrM p S (rw' m k :: rvV m k) (k + 1)
    rw [e2, rev_vec hs (isVec_iff.1 (hm k (by omega))).len, rev_vr hs m k fun j hj => hm j (by omega), vr_cons hs (hm k (by omega))]
theorem rv_of {P : List Int → Prop} (m : List (List Int)) : ∀ k, (∀ j, j < k → P (rw' m j)) → ∀ j, j < k → P (rw' (rvV m k) j)
  | 0, _, j, hj => absurd hj (Nat.not_lt_zero j)
  | k + 1, h, 0, _ => h k (by omega)
  | k + 1, h, j + 1, hj => rv_of m k (fun i hi => h i (by omega)) j (by omega)
theorem rfA_cons {p : Int} {S u : List Int} (m : List (List Int)) : ∀ k w, rfA p S (u :: m) (k + 1) w = rflM p S u (rfA p S m k w)
  | 0, w => rfl
  | k + 1, w => rfA_cons m k (rflM p S (rw' m k) w)
theorem rf_twice {p A N : Int} (hp : prm p = true) (h0 : 0 ≤ A) (h1 : A < p) (k0 : 0 ≤ N) (k1 : N < p) (hN : N ≠ 0) : (rfK p A N + rfK p ((A + rfK p A N * N) % p) N) % p = 0 := by
  have := every2_at (Q := fun p A N => decide (N ≠ 0 → (rfK p A N + rfK p ((A + rfK p A N * N) % p) N) % p = 0)) (by decide +kernel) hp h0 h1 k0 k1
  simp only [decide_eq_true_eq] at this
  exact this hN
theorem rfl_back {p : Int} {S u v : List Int} (hp : prm p = true) (hv : isVec p S.length v = true) (h0 : pairN p S u u ≠ 0) : rflM p S u (rflM p S u v) = v := by
  have hb := prm_bd hp
  have hl := (isVec_iff.1 hv).len
  have hA := pairN_bd7 (p := p) (S := S) (u := u) (v := v) (by omega)
  have hN := pairN_bd7 (p := p) (S := S) (u := u) (v := u) (by omega)
  have h1 := rf_twice hp hA.1 hA.2 hN.1 hN.2 h0
  have h2 : pairN p S u (rflM p S u v) = (pairN p S u v + rfK p (pairN p S u v) (pairN p S u u) * pairN p S u u) % p := by
    unfold rflM
    rw [pairN_comm, pairN_lin hl, pairN_comm p S v u]
  rw [show rflM p S u (rflM p S u v) = plusR p (rflM p S u v) u (rfK p (pairN p S u (rflM p S u v)) (pairN p S u u)) from rfl, h2]
  obtain ⟨K, hK⟩ : ∃ K, K = rfK p (pairN p S u v) (pairN p S u u) := ⟨_, rfl⟩
  rw [← hK] at h1 ⊢
  obtain ⟨L, hL⟩ : ∃ L, L = rfK p ((pairN p S u v + K * pairN p S u u) % p) (pairN p S u u) := ⟨_, rfl⟩
  rw [← hL] at h1 ⊢
  have e : rflM p S u v = plusR p v u K := by rw [hK]; rfl
  rw [e]
  refine row_ext (by unfold plusR; rw [mkR_len, mkR_len]) fun i hi => ?_
  have hi' : i < v.length := by unfold plusR at hi; rw [mkR_len, mkR_len] at hi; exact hi
  have h3 := (isVec_iff.1 hv).num (by rw [← hl]; exact hi')
  unfold plusR
  rw [mkR_at _ (by rw [mkR_len]; exact hi'), mkR_at _ hi', Int.emod_add_emod, Int.add_assoc, ← Int.add_mul, Int.add_emod, ← em_l, h1, Int.zero_mul, Int.zero_emod, Int.add_zero, Int.emod_emod, Int.emod_eq_of_lt h3.1 h3.2]
theorem rfA_back {p : Int} {S : List Int} (hp : prm p = true) (m : List (List Int)) : ∀ k, (∀ j, j < k → pairN p S (rw' m j) (rw' m j) ≠ 0) → ∀ v, isVec p S.length v = true → rfA p S (rvV m k) k (rfA p S m k v) = v
  | 0, _, v, _ => rfl
  | k + 1, hn, v, hv => by
    have hb := prm_bd hp
    show rfA p S (rw' m k :: rvV m k) (k + 1) (rfA p S m k (rflM p S (rw' m k) v)) = v
    rw [rfA_cons, rfA_back hp m k (fun j hj => hn j (by omega)) _ (rfl_vec7 (by omega) hv), rfl_back hp hv (hn k (by omega))]
theorem sq_ne {p k : Int} (hp : prm p = true) (h0 : 0 ≤ k) (h1 : k < p) (hk : k ≠ 0) : k * k % p ≠ 0 := no_null hp h0 h1 h0 h1 hk hk
/-- A multiple of a versor, with the same sandwich. -/
theorem isVr_scl {p k : Int} {S x : List Int} (hs : isSp p S = true) (hx : isMv p S x = true) (h0 : 0 ≤ k) (h1 : k < p) (hk : k ≠ 0) (h : isVr p S x = true) : isVr p S (sclV p x k) = true := by
  have hp := (isSp_iff.1 hs).prime
  have hb := prm_bd hp
  have hl := Mv.len hx
  have h6 := (isSp_iff.1 hs).hi
  obtain ⟨a1, a2, a3, a4⟩ := isVr_iff.1 h
  have hF := nrF_bd hs x
  have hkk : 0 ≤ k * k % p ∧ k * k % p < p := ⟨Int.emod_nonneg _ (by omega), Int.emod_lt_of_pos _ (by omega)⟩
  refine isVr_iff.2 ⟨?_, ?_, ?_, fun i hi => ?_⟩
  · rw [nrF_scl hl]; exact no_null hp hF.1 hF.2 hkk.1 hkk.2 a1 (sq_ne hp h0 h1 hk)
  · rw [nr_scl hl]
    refine scB_iff.2 fun j hj j0 => ?_
    rw [sclV_len] at hj
    unfold sclV
    rw [mkR_at _ hj, scB_iff.1 a2 j hj j0, Int.zero_mul, Int.zero_emod]
  · rcases a3 with a3 | a3
    · exact .inl (par_scl a3)
    · exact .inr (par_scl a3)
  · have h2 := a4 i hi
    unfold ldB at h2 ⊢
    rw [decide_eq_true_eq] at h2 ⊢
    rw [ar_scl hl]
    refine row_ext (by unfold partM; rw [mkR_len]) fun j hj => ?_
    rw [sclV_len] at hj
    unfold partM
    rw [mkR_at _ (by rw [sclV_len]; exact hj)]
    unfold sclV
    rw [mkR_at _ hj]
    have h3 := congrArg (List.getD · j 0) h2
    unfold partM at h3
    rw [mkR_at _ hj] at h3
    by_cases hg : ((gr j : Nat) : Int) = 1
    · rw [if_pos hg]
    · rw [if_neg hg] at h3 ⊢
      rw [h3, Int.zero_mul, Int.zero_emod]
theorem inv_sq {p a b : Int} (hp : prm p = true) (h0 : 0 ≤ a) (h1 : a < p) (k0 : 0 ≤ b) (k1 : b < p) (hb : b ≠ 0) : b * b % p * inv p (a * (b * b % p) % p) % p = inv p a := by
  have := every2_at (Q := fun p a b => decide (b ≠ 0 → b * b % p * inv p (a * (b * b % p) % p) % p = inv p a)) (by decide +kernel) hp h0 h1 k0 k1
  simp only [decide_eq_true_eq] at this
  exact this hb
theorem sd_scl {p k : Int} {S x v : List Int} (hs : isSp p S = true) (hx : isMv p S x = true) (h0 : 0 ≤ k) (h1 : k < p) (hk : k ≠ 0) : sdM p S (sclV p x k) v = sdM p S x v := by
  have hp := (isSp_iff.1 hs).prime
  have hF := nrF_bd hs x
  have hl := Mv.len hx
  refine mkR_congr fun i hi => ?_
  unfold sdF vnF
  rw [ar_scl hl, nrF_scl hl]
  have h2 : 2 ^ i < (arM p S x v).length := by rw [arM_len]; exact pow_lt hi
  show (sclV p (arM p S x v) (k * k % p)).getD (2 ^ i) 0 * _ % p = _
  unfold sclV
  rw [mkR_at _ h2, em_l, Int.mul_assoc, ← em_r, inv_sq hp hF.1 hF.2 h0 h1 hk]
/-- The inverse of a product of vectors: a versor, and its sandwich leads back. -/
theorem vi_back {p : Int} {S : List Int} (hs : isSp p S = true) {m : List (List Int)} {k : Nat} (hm : ∀ j, j < k → isVec p S.length (rw' m j) = true) (hn : ∀ j, j < k → pairN p S (rw' m j) (rw' m j) ≠ 0) : isVr p S (viM p S (vrM p S m k)) = true ∧ ∀ v, isVec p S.length v = true → sdM p S (viM p S (vrM p S m k)) (sdM p S (vrM p S m k) v) = v := by
  have hp := (isSp_iff.1 hs).prime
  have hb := prm_bd hp
  have h2 := vs_bd (p := p) (by omega) S m k
  have h3 := vs_ne hp m k hn
  have hm' := rv_of (P := fun u => isVec p S.length u = true) m k hm
  have hn' := rv_of (P := fun u => pairN p S u u ≠ 0) m k hn
  have hI := inv_bd hp (vsF p S m k)
  have hI1 := inv_pos hp (a := vsF p S m k) (by omega) h2.2
  have e : viM p S (vrM p S m k) = sclV p (vrM p S (rvV m k) k) (inv p (vsF p S m k)) := by unfold viM; rw [rev_vr hs m k hm, nrF_vr hs hm]
  rw [e]
  refine ⟨isVr_scl hs (vr_mv hs _ _) hI.1 hI.2 (by omega) (isVr_vr hs hm' hn'), fun v hv => ?_⟩
  rw [sd_scl hs (vr_mv hs _ _) hI.1 hI.2 (by omega), sd_vr hs hm hn hv, sd_vr hs hm' hn' (rfA_vec (by omega) m k v hv), rfA_back hp m k hn v hv]
theorem par_not {p : Int} {S x : List Int} (hx : nrF p S x ≠ 0) (h : parB x 1 = true) : parB x 0 = false := by
  cases e : parB x 0 with
  | false => rfl
  | true =>
    exfalso
    have hz : ∀ j, j < x.length → x.getD j 0 = 0 := fun j hj => by
      refine Classical.byContradiction fun h0 => ?_
      have a := parB_iff.1 h j hj h0
      have b := parB_iff.1 e j hj h0
      omega
    refine hx ?_
    unfold nrF prodF
    have hz2 : ∀ j : Nat, x.getD j 0 = 0 := fun j => by
      by_cases hj : j < x.length
      · exact hz j hj
      · simp [List.getD, List.getElem?_eq_none (Nat.le_of_not_lt hj)]
    unfold gpz
    rw [sm_congr (g := fun _ => 0) fun a _ => by show x.getD a 0 * _ * _ = 0; rw [hz2 a, Int.zero_mul, Int.zero_mul], sm_zero, Int.zero_emod]
/-- A product of k vectors is even exactly if k is. -/
theorem par_even {p : Int} {S : List Int} (hs : isSp p S = true) {m : List (List Int)} {k : Nat} (hm : ∀ j, j < k → isVec p S.length (rw' m j) = true) (hn : ∀ j, j < k → pairN p S (rw' m j) (rw' m j) ≠ 0) : parB (vrM p S m k) 0 = decide (k % 2 = 0) := by
  have h := par_vr hs hm
  rcases Nat.mod_two_eq_zero_or_one k with e | e
  · rw [e] at h ⊢; rw [h]; rfl
  · rw [e] at h ⊢; rw [par_not (by rw [nrF_vr hs hm]; exact vs_ne (isSp_iff.1 hs).prime m k hn) h]; rfl

end Go.Proofs.YtgfanoejohpmkaaGreat

namespace Go.Proofs.YtgfanoejohpmkaaGreat
open Go.RowKit
set_option linter.unusedVariables false

/-- More places than values: two have the same. -/
theorem pigeon : ∀ (N : Nat) (f : Nat → Nat), (∀ k, k ≤ N → f k < N) → ∃ i j, i < j ∧ j ≤ N ∧ f i = f j
  | 0, f, h => absurd (h 0 (Nat.le_refl _)) (Nat.not_lt_zero _)
  | N + 1, f, h => by
    by_cases e : ∃ i, i ≤ N ∧ f i = f (N + 1)
    · obtain ⟨i, hi, he⟩ := e
      exact ⟨i, N + 1, by omega, Nat.le_refl _, he⟩
    · have hne : ∀ i, i ≤ N → f i ≠ f (N + 1) := fun i hi he => e ⟨i, hi, he⟩
      obtain ⟨i, j, h1, h2, h3⟩ := pigeon N (fun k => if f (N + 1) < f k then f k - 1 else f k) (fun k hk => by
        have a := h k (by omega); have b := hne k hk; have c := h (N + 1) (Nat.le_refl _)
        show (if f (N + 1) < f k then f k - 1 else f k) < N
        split <;> omega)
      refine ⟨i, j, h1, by omega, ?_⟩
      have a := hne i (by omega); have b := hne j h2
      have h4 : (if f (N + 1) < f i then f i - 1 else f i) = (if f (N + 1) < f j then f j - 1 else f j) := h3
      split at h4 <;> split at h4 <;> omega
/-- The number of a list of digits. -/
def enc (b : Nat) : List Int → Nat
  | [] => 0
  | a :: l => a.toNat + b * enc b l
theorem enc_lt (b : Nat) : ∀ z : List Int, (∀ y, y ∈ z → 0 ≤ y ∧ y < (b : Int)) → enc b z < b ^ z.length
  | [], _ => by simp [enc]
  | a :: l, h => by
    have h1 := h a (by simp)
    have h2 := enc_lt b l (fun y hy => h y (by simp [hy]))
    show a.toNat + b * enc b l < b ^ (l.length + 1)
    have h3 : b * (enc b l + 1) ≤ b * b ^ l.length := Nat.mul_le_mul_left b h2
    rw [Nat.mul_add, Nat.mul_one] at h3
    rw [Nat.pow_succ, Nat.mul_comm (b ^ l.length)]
    omega
theorem enc_inj (b : Nat) : ∀ z z' : List Int, z.length = z'.length → (∀ y, y ∈ z → 0 ≤ y ∧ y < (b : Int)) → (∀ y, y ∈ z' → 0 ≤ y ∧ y < (b : Int)) → enc b z = enc b z' → z = z'
  | [], [], _, _, _, _ => rfl
  | [], _ :: _, h, _, _, _ => by simp at h
  | _ :: _, [], h, _, _, _ => by simp at h
  | a :: l, a' :: l', hl, h, h', e => by
    have h1 := h a (by simp)
    have h2 := h' a' (by simp)
    have e1 : a.toNat + b * enc b l = a'.toNat + b * enc b l' := e
    have hb : 0 < b := by omega
    have e2 : a.toNat = a'.toNat := by
      have := congrArg (· % b) e1
      simp only [Nat.add_mul_mod_self_left] at this
      rwa [Nat.mod_eq_of_lt (by omega), Nat.mod_eq_of_lt (by omega)] at this
    have e3 : enc b l = enc b l' := Nat.eq_of_mul_eq_mul_left hb (by omega)
    rw [enc_inj b l l' (by simpa using hl) (fun y hy => h y (by simp [hy])) (fun y hy => h' y (by simp [hy])) e3, show a = a' by omega]
theorem mv_mem {p : Int} {S z : List Int} (hp : 0 < p) (h : isMv p S z = true) : ∀ y, y ∈ z → 0 ≤ y ∧ y < (p.toNat : Int) := fun y hy => by
  obtain ⟨j, hj, rfl⟩ := List.getElem_of_mem hy
  have h2 := Mv.num h j hj
  rw [getD_at hj] at h2
  omega
/-- Powers come back. -/
theorem mpow_back {p : Int} {S x : List Int} (hs : isSp p S = true) : ∃ a d, 0 < d ∧ mPow p S x a = mPow p S x (a + d) := by
  have hp := prm_bd (isSp_iff.1 hs).prime
  have hm := fun k => mv_mem (p := p) (S := S) (by omega) (mpow_mv (x := x) hs k)
  obtain ⟨i, j, h1, _, h3⟩ := pigeon (p.toNat ^ bl S) (fun k => enc p.toNat (mPow p S x k)) (fun k _ => by
    have h := enc_lt p.toNat (mPow p S x k) (hm k)
    rwa [mpow_len hs] at h)
  refine ⟨i, j - i, by omega, ?_⟩
  rw [show i + (j - i) = j by omega]
  exact enc_inj _ _ _ (by rw [mpow_len hs, mpow_len hs]) (hm i) (hm j) h3
theorem one_r {p : Int} {S z : List Int} (h : isMv p S z = true) : prodM p S z (mOne S) = z := prodM_one_r p S z (Mv.len h) (Mv.num h)
theorem one_l {p : Int} {S z : List Int} (h : isMv p S z = true) : prodM p S (mOne S) z = z := prodM_one_l p S z (Mv.len h) (Mv.num h)
theorem cancel_pow {p : Int} {S x y : List Int} (hs : isSp p S = true) (hxy : prodM p S x y = mOne S) : ∀ (a : Nat) (u v : List Int), isMv p S u = true → isMv p S v = true → prodM p S u (mPow p S x a) = prodM p S v (mPow p S x a) → u = v
  | 0, u, v, hu, hv, h => by
    have h2 : prodM p S u (mOne S) = prodM p S v (mOne S) := h
    rwa [one_r hu, one_r hv] at h2
  | a + 1, u, v, hu, hv, h => by
    have h2 : prodM p S u (prodM p S (mPow p S x a) x) = prodM p S v (prodM p S (mPow p S x a) x) := h
    rw [← prodM_assoc, ← prodM_assoc] at h2
    have h3 := congrArg (fun z => prodM p S z y) h2
    simp only [prodM_assoc, hxy] at h3
    rw [one_r (mpow_mv hs a)] at h3
    exact cancel_pow hs hxy a u v hu hv h3
/-- An inverse behind is one ahead. -/
theorem inv_both {p : Int} {S x y : List Int} (hs : isSp p S = true) (hy : isMv p S y = true) (hxy : prodM p S x y = mOne S) : prodM p S y x = mOne S := by
  obtain ⟨a, d, hd, he⟩ := mpow_back (x := x) hs
  have h1 : mPow p S x d = mOne S := by
    symm
    apply cancel_pow hs hxy a _ _ (one_mv hs) (mpow_mv hs d)
    rw [one_l (mpow_mv hs a), mpow_add hs, Nat.add_comm d a]
    exact he
  obtain ⟨e, rfl⟩ : ∃ e, d = e + 1 := ⟨d - 1, by omega⟩
  have h2 : prodM p S (mPow p S x e) x = mOne S := h1
  have h3 : y = mPow p S x e := by
    rw [← one_l hy, ← h2, prodM_assoc, hxy, one_r (mpow_mv hs e)]
  rw [h3]; exact h2

end Go.Proofs.YtgfanoejohpmkaaGreat

namespace Go.Proofs.YtgfanoejohpmkaaGreat
open Go.RowKit
set_option linter.unusedVariables false

theorem em_lin (p a b k : Int) : (a % p + k * (b % p)) % p = (a + k * b) % p := by
  rw [Int.emod_add_emod, Int.add_emod, em_r, ← Int.add_emod]
theorem gpz_lin_r (S : List Int) (n : Nat) (x y u : Nat → Int) (k : Int) (c : Nat) : gpz S n x (fun j => y j + k * u j) c = gpz S n x y c + k * gpz S n x u c := by
  unfold gpz
  rw [← sm_mul, ← sm_add]
  exact sm_congr fun a _ => by rw [Int.mul_add, Int.mul_left_comm]
theorem gpz_lin_l (S : List Int) (n : Nat) (x u y : Nat → Int) (k : Int) (c : Nat) : gpz S n (fun j => x j + k * u j) y c = gpz S n x y c + k * gpz S n u y c := by
  unfold gpz
  rw [← sm_mul, ← sm_add]
  exact sm_congr fun a _ => by rw [Int.add_mul, Int.add_mul, Int.mul_assoc k, Int.mul_assoc k]
theorem prod_lin_r {p : Int} {S x y u : List Int} {k : Int} (hy : y.length = bl S) : prodM p S x (plusR p y u k) = plusR p (prodM p S x y) (prodM p S x u) k := by
  unfold plusR
  rw [prodM_len]
  refine mkR_congr fun c hc => ?_
  rw [prodM_at _ _ _ _ hc, prodM_at _ _ _ _ hc]
  unfold prodF
  rw [em_lin, ← gpz_lin_r]
  exact gpz_mod S S.length hc (fun _ _ => rfl) fun j hj => by
    have h : j < y.length := by rw [hy]; exact hj
    rw [mkR_at _ h, Int.emod_emod]
theorem prod_lin_l {p : Int} {S x y u : List Int} {k : Int} (hx : x.length = bl S) : prodM p S (plusR p x u k) y = plusR p (prodM p S x y) (prodM p S u y) k := by
  unfold plusR
  rw [prodM_len]
  refine mkR_congr fun c hc => ?_
  rw [prodM_at _ _ _ _ hc, prodM_at _ _ _ _ hc]
  unfold prodF
  rw [em_lin, ← gpz_lin_l]
  exact gpz_mod S S.length hc (fun j hj => by
    have h : j < x.length := by rw [hx]; exact hj
    rw [mkR_at _ h, Int.emod_emod]) fun _ _ => rfl
theorem vec_lin {p k : Int} {S u e : List Int} (hu : u.length = S.length) (he : e.length = S.length) : vecM S (plusR p u e k) = plusR p (vecM S u) (vecM S e) k := by
  have hl : (plusR p u e k).length = S.length := by unfold plusR; rw [mkR_len]; exact hu
  refine row_ext (by rw [vecM_len]; unfold plusR; rw [mkR_len, vecM_len]) fun c hc => ?_
  rw [vecM_len] at hc
  have e1 : (plusR p (vecM S u) (vecM S e) k).getD c 0 = ((vecM S u).getD c 0 + k * (vecM S e).getD c 0) % p := by
    unfold plusR; exact mkR_at _ (by rw [vecM_len]; exact hc)
  rw [e1]
  by_cases h : ∃ i, i < S.length ∧ c = 2 ^ i
  · obtain ⟨i, hi, rfl⟩ := h
    rw [vecM_pow hl hi, vecM_pow hu hi, vecM_pow he hi]
    unfold plusR
    exact mkR_at _ (by rw [hu]; exact hi)
  · rw [vecM_off hl hc fun i hi e => h ⟨i, hi, e⟩, vecM_off hu hc fun i hi e => h ⟨i, hi, e⟩, vecM_off he hc fun i hi e => h ⟨i, hi, e⟩, Int.mul_zero, Int.add_zero, Int.zero_emod]
theorem ar_lin {p k : Int} {S x u e : List Int} (hu : u.length = S.length) (he : e.length = S.length) : arM p S x (plusR p u e k) = plusR p (arM p S x u) (arM p S x e) k := by
  unfold arM
  rw [vec_lin hu he, prod_lin_r (vecM_len _ _), prod_lin_l (prodM_len _ _ _ _)]
/-- The first k numbers of v, and 0. -/
def cutV (v : List Int) (n k : Nat) : List Int := mkR n fun j => if j < k then v.getD j 0 else 0
theorem cut_len (v : List Int) (n k : Nat) : (cutV v n k).length = n := mkR_len _ _
theorem cut_zero (p : Int) (v : List Int) (n : Nat) : cutV v n 0 = plusR p (cutV v n 0) (cutV v n 0) (p - 1) := by
  refine row_ext (by unfold plusR; rw [mkR_len, cut_len]) fun j hj => ?_
  rw [cut_len] at hj
  unfold plusR
  rw [mkR_at _ (by rw [cut_len]; exact hj)]
  unfold cutV
  rw [mkR_at _ hj, if_neg (Nat.not_lt_zero _), Int.mul_zero, Int.add_zero, Int.zero_emod]
theorem cut_step {p : Int} {v : List Int} {n k : Nat} (hv : isVec p n v = true) (hk : k < n) : cutV v n (k + 1) = plusR p (cutV v n k) (eiR n k) (v.getD k 0) := by
  refine row_ext (by unfold plusR; rw [mkR_len, cut_len, cut_len]) fun j hj => ?_
  rw [cut_len] at hj
  have h1 := (isVec_iff.1 hv).num hj
  unfold plusR
  rw [mkR_at _ (by rw [cut_len]; exact hj)]
  unfold cutV eiR
  rw [mkR_at _ hj, mkR_at _ hj, mkR_at _ hj]
  by_cases e : k = j
  · subst e
    rw [if_pos (by omega), if_neg (Nat.lt_irrefl _), if_pos rfl, Int.mul_one, Int.zero_add, Int.emod_eq_of_lt h1.1 h1.2]
  · rw [if_neg e, Int.mul_zero, Int.add_zero]
    by_cases h : j < k
    · rw [if_pos (by omega), if_pos h, Int.emod_eq_of_lt h1.1 h1.2]
    · rw [if_neg (by omega), if_neg h, Int.zero_emod]
theorem cut_all {p : Int} {v : List Int} {n : Nat} (hv : isVec p n v = true) : cutV v n n = v := by
  refine row_ext (by rw [cut_len, (isVec_iff.1 hv).len]) fun j hj => ?_
  rw [cut_len] at hj
  unfold cutV
  rw [mkR_at _ hj, if_pos hj]
theorem ld_zero {p : Int} {S x : List Int} {i j : Nat} (h : ldB p S x i = true) (hj : j < bl S) (hg : gr j ≠ 1) : (arM p S x (eiR S.length i)).getD j 0 = 0 := by
  unfold ldB at h
  rw [decide_eq_true_eq] at h
  have h3 := congrArg (List.getD · j 0) h
  unfold partM at h3
  rw [mkR_at _ (by rw [arM_len]; exact hj), if_neg (fun e => hg (by omega))] at h3
  exact h3
theorem ar_low {p : Int} {S x v : List Int} (hv : isVec p S.length v = true) (hld : ∀ i, i < S.length → ldB p S x i = true) {j : Nat} (hj : j < bl S) (hg : gr j ≠ 1) : ∀ k, k ≤ S.length → (arM p S x (cutV v S.length k)).getD j 0 = 0
  | 0, _ => by
    have h1 : arM p S x (cutV v S.length 0) = plusR p (arM p S x (cutV v S.length 0)) (arM p S x (cutV v S.length 0)) (p - 1) := by
      rw [← ar_lin (cut_len _ _ _) (cut_len _ _ _), ← cut_zero]
    rw [h1]
    unfold plusR
    rw [mkR_at _ (by rw [arM_len]; exact hj)]
    exact minus_mod
  | k + 1, hk => by
    rw [cut_step hv (by omega), ar_lin (e := eiR S.length k) (cut_len _ _ _) (mkR_len _ _)]
    unfold plusR
    rw [mkR_at _ (by rw [arM_len]; exact hj), ar_low hv hld hj hg k (by omega), ld_zero (hld k (by omega)) hj hg, Int.mul_zero, Int.add_zero, Int.zero_emod]
/-- The numbers of what is led: what is around the vector, divided. -/
theorem sd_vec {p : Int} {S x v : List Int} (hs : isSp p S = true) (h : isVr p S x = true) (hv : isVec p S.length v = true) : vecM S (sdM p S x v) = sclV p (arM p S x v) (inv p (nrF p S x)) := by
  have h6 := (isSp_iff.1 hs).hi
  have hld := (isVr_iff.1 h).2.2.2
  obtain ⟨k, hk⟩ : ∃ k, k = inv p (nrF p S x) := ⟨_, rfl⟩
  have e : sdM p S x v = vnM S.length (sclV p (arM p S x v) k) := by
    refine mkR_congr fun i hi => ?_
    unfold sdF vnF sclV
    rw [mkR_at _ (by rw [arM_len]; exact pow_lt hi), hk]
  have hl : (sclV p (arM p S x v) k).length = bl S := by unfold sclV; rw [mkR_len, arM_len]
  rw [e, ← hk, vec_part h6 hl]
  refine row_ext (by unfold partM; rw [mkR_len]) fun j hj => ?_
  have hj2 : j < bl S := by unfold partM at hj; rw [mkR_len, hl] at hj; exact hj
  unfold partM
  rw [mkR_at _ (by rw [hl]; exact hj2)]
  by_cases hg : gr j = 1
  · rw [if_pos (by rw [hg]; rfl)]
  · rw [if_neg (fun e => hg (by omega))]
    unfold sclV
    rw [mkR_at _ (by rw [arM_len]; exact hj2)]
    have h0 := ar_low hv hld hj2 hg S.length (Nat.le_refl _)
    rw [cut_all hv] at h0
    rw [h0, Int.zero_mul, Int.zero_emod]
theorem ev_self {p : Int} {x : List Int} (hp : p % 2 = 1) (hn : ∀ j, j < x.length → 0 ≤ x.getD j 0 ∧ x.getD j 0 < p) (h : parB x 0 = true) : ivM p x = x := by
  have h1 := ev_inv hp hn
  rw [← parB_ev, h] at h1
  exact (of_decide_eq_true h1.symm).symm
theorem od_iv {p : Int} {x : List Int} (h : parB x 1 = true) : ivM p x = sclV p x (p - 1) := by
  refine row_ext (by rw [ivM_len]; unfold sclV; rw [mkR_len]) fun c hc => ?_
  rw [ivM_len] at hc
  unfold ivM sclV
  rw [mkR_at _ hc, mkR_at _ hc]
  unfold sgF
  by_cases h0 : x.getD c 0 = 0
  · rw [h0, Int.zero_mul, Int.zero_emod, Int.sub_zero, Int.emod_self, ite_self]
  · rw [if_pos (by have := parB_iff.1 h c hc h0; unfold c_involution; exact this), show x.getD c 0 * (p - 1) = (p - x.getD c 0) + p * (x.getD c 0 - 1) by rw [Int.mul_sub, Int.mul_sub, Int.mul_comm p]; omega, Int.add_mul_emod_self_left]
/-- The sandwich of a vector, as a multivector. -/
theorem sw_vec {p : Int} {S x v : List Int} (hs : isSp p S = true) (hx : isMv p S x = true) (h : isVr p S x = true) (hv : isVec p S.length v = true) : swM p S x (vecM S v) = vecM S (sdM p S x v) := by
  have hp := (isSp_iff.1 hs).prime
  have hb := prm_bd hp
  rw [sd_vec hs h hv]
  unfold swM viM
  rw [prod_scl _ _ _ _ _ (Mv.len (rev_mv hs hx))]
  unfold arM
  congr 1
  by_cases h0 : parB x 0 = true
  · rw [if_pos h0, ev_self (prm_odd hp) (Mv.num hx) h0]
  · rw [if_neg h0, iv_vec hs hv, od_iv ((isVr_iff.1 h).2.2.1.resolve_left h0), prod_scl _ _ _ _ _ (vecM_len _ _), prod_scl_l _ _ _ _ _ (Mv.len hx)]
theorem nr_unit {p : Int} {S x : List Int} (hs : isSp p S = true) (h : isVr p S x = true) : nrM p S x = unitR S (nrF p S x) := by
  have h2 := scB_iff.1 (isVr_iff.1 h).2.1
  have hl : (nrM p S x).length = bl S := prodM_len _ _ _ _
  refine row_ext (by rw [hl]; exact (mkR_len _ _).symm) fun j hj => ?_
  rw [hl] at hj
  rw [unit_at _ _ hj]
  by_cases e : j = 0
  · subst e; rw [if_pos rfl, nrM_zero]
  · rw [if_neg e]; exact h2 j (by rw [hl]; exact hj) (by omega)
theorem vi_r {p : Int} {S x : List Int} (hs : isSp p S = true) (hx : isMv p S x = true) (h : isVr p S x = true) : prodM p S x (viM p S x) = mOne S := by
  have hp := (isSp_iff.1 hs).prime
  have hF := nrF_bd hs x
  have h0 := (isVr_iff.1 h).1
  unfold viM
  rw [prod_scl _ _ _ _ _ (Mv.len (rev_mv hs hx))]
  show sclV p (nrM p S x) _ = _
  rw [nr_unit hs h, unit_times, inv_mul hp (by omega) hF.2]
  rfl
theorem vi_l {p : Int} {S x : List Int} (hs : isSp p S = true) (hx : isMv p S x = true) (h : isVr p S x = true) : prodM p S (viM p S x) x = mOne S := inv_both hs (vi_mv hs hx) (vi_r hs hx h)
/-- Sandwiches keep products. -/
theorem sw_prod {p : Int} {S x y w : List Int} (hs : isSp p S = true) (hx : isMv p S x = true) (h : isVr p S x = true) (hy : isMv p S y = true) (hw : isMv p S w = true) : swM p S x (prodM p S y w) = prodM p S (swM p S x y) (swM p S x w) := by
  have hp := prm_bd (isSp_iff.1 hs).prime
  have key : ∀ a b, isMv p S b = true → prodM p S (prodM p S x (prodM p S a b)) (viM p S x) = prodM p S (prodM p S (prodM p S x a) (viM p S x)) (prodM p S (prodM p S x b) (viM p S x)) := fun a b hb => by
    have e : prodM p S (viM p S x) (prodM p S (prodM p S x b) (viM p S x)) = prodM p S b (viM p S x) := by
      rw [← prodM_assoc, ← prodM_assoc, vi_l hs hx h, one_l hb]
    rw [prodM_assoc p S (prodM p S x a), e, prodM_assoc, prodM_assoc, prodM_assoc]
  unfold swM
  by_cases h0 : parB x 0 = true
  · rw [if_pos h0, if_pos h0, if_pos h0]; exact key y w hw
  · rw [if_neg h0, if_neg h0, if_neg h0]
    have e : ivM p (prodM p S y w) = prodM p S (ivM p y) (ivM p w) := (inv_prod (by omega) (Mv.len hy) (Mv.len hw) (Mv.num hy) (Mv.num hw)).symm
    rw [e]; exact key _ _ (iv_mv hs hw)
/-- A versor by the inverse of the root of its norm: the norm is 1. -/
theorem root_one {p F : Int} (hp : prm p = true) (h0 : 0 ≤ F) (h1 : F < p) (hF : F ≠ 0) (hr : ¬ rt p F < 0) : inv p (rt p F) ≠ 0 ∧ F * (inv p (rt p F) * inv p (rt p F) % p) % p = 1 := by
  have := every_at (Q := fun p F => decide (F ≠ 0 → ¬ rt p F < 0 → inv p (rt p F) ≠ 0 ∧ F * (inv p (rt p F) * inv p (rt p F) % p) % p = 1)) (by decide +kernel) hp h0 h1
  simp only [decide_eq_true_eq] at this
  exact this hF hr
theorem unit_ok {p : Int} {S x : List Int} (hs : isSp p S = true) (hx : isMv p S x = true) (h : isVr p S x = true) (hr : ¬ rt p (nrF p S x) < 0) : isMv p S (sclV p x (inv p (rt p (nrF p S x)))) = true ∧ isVr p S (sclV p x (inv p (rt p (nrF p S x)))) = true ∧ nrF p S (sclV p x (inv p (rt p (nrF p S x)))) = 1 ∧ ∀ v, sdM p S (sclV p x (inv p (rt p (nrF p S x)))) v = sdM p S x v := by
  have hp := (isSp_iff.1 hs).prime
  have hF := nrF_bd hs x
  have h0 := (isVr_iff.1 h).1
  obtain ⟨r1, r2⟩ := root_one hp hF.1 hF.2 h0 hr
  have hI := inv_bd hp (rt p (nrF p S x))
  exact ⟨sclV_mv hs hx, isVr_scl hs hx hI.1 hI.2 r1 h, by rw [nrF_scl (Mv.len hx)]; exact r2, fun v => sd_scl hs hx hI.1 hI.2 r1⟩

end Go.Proofs.YtgfanoejohpmkaaGreat
