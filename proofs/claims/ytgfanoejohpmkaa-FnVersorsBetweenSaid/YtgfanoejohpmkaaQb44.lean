/-
  The versor between two vectors of the same norm leads the one to the other one. No Go in sight.
  No conditions.
-/
import Derived.Test.YtgfanoejohpmkaaQb41
import Derived.Test.YtgfanoejohpmkaaQb38
namespace Go.Proofs.Ytgfanoejohpmkaa
open Go.RowKit
set_option linter.unusedVariables false

theorem vr_single {p : Int} {S D : List Int} (hs : isSp p S = true) (hD : isVec p S.length D = true) : vrM p S [D] 1 = vecM S D := by
  have h := vec_mv hs hD
  exact prodM_one_l p S (vecM S D) (Mv.len h) (Mv.num h)
/-- The norm of the difference and its product with the first vector, from (u,v) = A and the norms N. -/
def dN (p A N : Int) : Int := ((N + (p - 1) * A) % p + (p - 1) * ((A + (p - 1) * N) % p)) % p
def sN (p A N : Int) : Int := ((N + 1 * A) % p + 1 * ((A + 1 * N) % p)) % p
theorem df_norm {p : Int} {S u v : List Int} (hu : u.length = S.length) (hv : v.length = S.length) (he : pairN p S u u = pairN p S v v) : pairN p S (dfM p u v) (dfM p u v) = dN p (pairN p S u v) (pairN p S u u) ∧ pairN p S (dfM p u v) u = (pairN p S u v + (p - 1) * pairN p S u u) % p := by
  unfold dfM dN
  constructor
  · rw [pairN_lin hv, pairN_comm p S v, pairN_comm p S u (plusR _ _ _ _), pairN_lin hv, pairN_lin hv, pairN_comm p S v u, ← he]
  · rw [pairN_lin hv, pairN_comm p S v u]
theorem sm_norm {p : Int} {S u v : List Int} (hu : u.length = S.length) (hv : v.length = S.length) (he : pairN p S u u = pairN p S v v) : pairN p S (smM7 p u v) (smM7 p u v) = sN p (pairN p S u v) (pairN p S u u) ∧ pairN p S (smM7 p u v) u = (pairN p S u v + 1 * pairN p S u u) % p := by
  unfold smM7 sN
  constructor
  · rw [pairN_lin hv, pairN_comm p S v, pairN_comm p S u (plusR _ _ _ _), pairN_lin hv, pairN_lin hv, pairN_comm p S v u, ← he]
  · rw [pairN_lin hv, pairN_comm p S v u]
theorem rf_one {p A N : Int} (hp : prm p = true) (h0 : 0 ≤ A) (h1 : A < p) (k0 : 0 ≤ N) (k1 : N < p) (h : dN p A N ≠ 0) : rfK p ((A + (p - 1) * N) % p) (dN p A N) = 1 := by
  have := every2_at (Q := fun p A N => decide (dN p A N ≠ 0 → rfK p ((A + (p - 1) * N) % p) (dN p A N) = 1)) (by decide +kernel) hp h0 h1 k0 k1
  simp only [decide_eq_true_eq] at this
  exact this h
theorem rf_minus {p A N : Int} (hp : prm p = true) (h0 : 0 ≤ A) (h1 : A < p) (k0 : 0 ≤ N) (k1 : N < p) (h : dN p A N = 0) (hN : N ≠ 0) : sN p A N ≠ 0 ∧ rfK p ((A + 1 * N) % p) (sN p A N) = p - 1 ∧ rfK p (N * (p - 1) % p) N = 2 := by
  have := every2_at (Q := fun p A N => decide (dN p A N = 0 → N ≠ 0 → sN p A N ≠ 0 ∧ rfK p ((A + 1 * N) % p) (sN p A N) = p - 1 ∧ rfK p (N * (p - 1) % p) N = 2)) (by decide +kernel) hp h0 h1 k0 k1
  simp only [decide_eq_true_eq] at this
  exact this h hN
theorem minus_mod {p y : Int} : (y + (p - 1) * y) % p = 0 := by rw [show y + (p - 1) * y = p * y by rw [Int.sub_mul]; omega, Int.mul_emod_right]
theorem between_d {p : Int} {S u v : List Int} (hs : isSp p S = true) (hu : isVec p S.length u = true) (hv : isVec p S.length v = true) (he : pairN p S u u = pairN p S v v) (hd : pairN p S (dfM p u v) (dfM p u v) ≠ 0) : isVr p S (vecM S (dfM p u v)) = true ∧ sdM p S (vecM S (dfM p u v)) u = v := by
  have hp := (isSp_iff.1 hs).prime
  have hb := prm_bd hp
  have hul := (isVec_iff.1 hu).len
  have hvl := (isVec_iff.1 hv).len
  have hDv : isVec p S.length (dfM p u v) = true := plus_vec (by omega) _ hvl
  have hm : ∀ j, j < 1 → isVec p S.length (rw' [dfM p u v] j) = true := fun j hj => by rw [show j = 0 by omega]; exact hDv
  have hn : ∀ j, j < 1 → pairN p S (rw' [dfM p u v] j) (rw' [dfM p u v] j) ≠ 0 := fun j hj => by rw [show j = 0 by omega]; exact hd
  rw [← vr_single hs hDv]
  refine ⟨isVr_vr hs hm hn, ?_⟩
  rw [sd_vr hs hm hn hu]
  show plusR p u (dfM p u v) (rfK p (pairN p S (dfM p u v) u) (pairN p S (dfM p u v) (dfM p u v))) = v
  have hA := pairN_bd7 (p := p) (S := S) (u := u) (v := v) (by omega)
  have hN := pairN_bd7 (p := p) (S := S) (u := u) (v := u) (by omega)
  rw [(df_norm hul hvl he).1] at hd ⊢
  rw [(df_norm hul hvl he).2, rf_one hp hA.1 hA.2 hN.1 hN.2 hd]
  refine row_ext (by unfold plusR; rw [mkR_len, hul, hvl]) fun i hi => ?_
  have hi' : i < S.length := by unfold plusR at hi; rw [mkR_len, hul] at hi; exact hi
  have h1 := (isVec_iff.1 hv).num hi'
  unfold dfM plusR
  rw [mkR_at _ (by rw [hul]; exact hi'), mkR_at _ (by rw [hvl]; exact hi'), Int.one_mul, Int.add_comm, Int.emod_add_emod, Int.add_assoc, Int.add_comm _ (u.getD i 0), Int.add_emod, minus_mod, Int.add_zero, Int.emod_emod, Int.emod_eq_of_lt h1.1 h1.2]
theorem between_s {p : Int} {S u v : List Int} (hs : isSp p S = true) (hu : isVec p S.length u = true) (hv : isVec p S.length v = true) (he : pairN p S u u = pairN p S v v) (h0 : pairN p S u u ≠ 0) (hd : pairN p S (dfM p u v) (dfM p u v) = 0) : isVr p S (vrM p S [v, smM7 p u v] 2) = true ∧ sdM p S (vrM p S [v, smM7 p u v] 2) u = v := by
  have hp := (isSp_iff.1 hs).prime
  have hb := prm_bd hp
  have hul := (isVec_iff.1 hu).len
  have hvl := (isVec_iff.1 hv).len
  have hA := pairN_bd7 (p := p) (S := S) (u := u) (v := v) (by omega)
  have hN := pairN_bd7 (p := p) (S := S) (u := u) (v := u) (by omega)
  rw [(df_norm hul hvl he).1] at hd
  obtain ⟨hs0, hk1, hk2⟩ := rf_minus hp hA.1 hA.2 hN.1 hN.2 hd h0
  have hSv : isVec p S.length (smM7 p u v) = true := plus_vec (by omega) _ hvl
  have hm : ∀ j, j < 2 → isVec p S.length (rw' [v, smM7 p u v] j) = true := fun j hj => by
    match j, hj with
    | 0, _ => exact hv
    | 1, _ => exact hSv
  have hn : ∀ j, j < 2 → pairN p S (rw' [v, smM7 p u v] j) (rw' [v, smM7 p u v] j) ≠ 0 := fun j hj => by
    match j, hj with
    | 0, _ => show pairN p S v v ≠ 0; rw [← he]; exact h0
    | 1, _ => show pairN p S (smM7 p u v) (smM7 p u v) ≠ 0; rw [(sm_norm hul hvl he).1]; exact hs0
  refine ⟨isVr_vr hs hm hn, ?_⟩
  rw [sd_vr hs hm hn hu]
  show rflM p S v (rflM p S (smM7 p u v) u) = v
  have h1 : rflM p S (smM7 p u v) u = sclV p v (p - 1) := by
    unfold rflM
    rw [(sm_norm hul hvl he).1, (sm_norm hul hvl he).2, hk1]
    refine row_ext (by unfold plusR; rw [mkR_len, sclV_len, hul, hvl]) fun i hi => ?_
    have hi' : i < S.length := by unfold plusR at hi; rw [mkR_len, hul] at hi; exact hi
    unfold smM7 plusR sclV
    rw [mkR_at _ (by rw [hul]; exact hi'), mkR_at _ (by rw [hvl]; exact hi'), mkR_at _ (by rw [hvl]; exact hi'), Int.one_mul]
    rw [Int.add_emod, em_r, ← Int.add_emod, Int.mul_add, Int.add_comm ((p - 1) * v.getD i 0), ← Int.add_assoc, Int.add_emod, minus_mod, Int.zero_add, Int.emod_emod, Int.mul_comm]
  rw [h1]
  unfold rflM
  rw [pair_scl hvl, ← he, hk2]
  refine row_ext (by unfold plusR; rw [mkR_len, sclV_len]) fun i hi => ?_
  have hi' : i < S.length := by unfold plusR at hi; rw [mkR_len, sclV_len, hvl] at hi; exact hi
  have h2 := (isVec_iff.1 hv).num hi'
  unfold plusR sclV
  rw [mkR_at _ (by rw [mkR_len, hvl]; exact hi'), mkR_at _ (by rw [hvl]; exact hi'), Int.emod_add_emod, show v.getD i 0 * (p - 1) + 2 * v.getD i 0 = v.getD i 0 + p * v.getD i 0 by rw [Int.mul_sub, Int.mul_comm p]; omega, Int.add_mul_emod_self_left, Int.emod_eq_of_lt h2.1 h2.2]
/-- The versor between two vectors. -/
theorem between_ok {p : Int} {S u v : List Int} (h : vbC p S u v = 0) : isVr p S (vbV p S u v) = true ∧ sdM p S (vbV p S u v) u = v := by
  obtain ⟨h1, h2, h3⟩ := vbC_zero h
  obtain ⟨hs, hu, hv⟩ := rvC_two h1
  unfold vbV
  rw [if_pos h]
  split
  · rename_i hd; exact between_s hs hu hv h2 h3 hd
  · rename_i hd; exact between_d hs hu hv h2 hd

end Go.Proofs.Ytgfanoejohpmkaa
