/-
  Orthogonal matrices: decompositions into reflections. No Go in sight.
  No conditions.
  The model's determinant, step by step. No Go in sight.
  No conditions.
-/
import Derived.Test.YtlfjhffigkhmcaaGreatQe30
import Derived.Test.YtlfjhffigkhmcaaGreatQe33
import Derived.Test.YtlfjhffigkhmcaaGreatQe14
import Derived.Test.YtlfjhffigkhmcaaGreatQe32
namespace Go.Proofs.YtlfjhffigkhmcaaGreat
set_option linter.unusedVariables false

/-- All rows of a list, reflected. -/
def refC (p : Int) (S u : List Int) (C : List (List Int)) : List (List Int) := C.map (rflM p S u)
theorem ref_len (p : Int) (S u : List Int) (C : List (List Int)) : (refC p S u C).length = C.length := by simp [refC]
theorem ref_row (p : Int) (S u : List Int) {C : List (List Int)} {i : Nat} (hi : i < C.length) : rw' (refC p S u C) i = rflM p S u (rw' C i) := by
  simp [refC, rw', List.getD, hi]
/-- The vectors that lead the column w to the basis vector i. -/
def stV (p : Int) (S w : List Int) (i : Nat) : List (List Int) :=
  if w = eiR S.length i then [] else if pairN p S (dfM p (eiR S.length i) w) (dfM p (eiR S.length i) w) ≠ 0 then [dfM p (eiR S.length i) w] else [smM7 p (eiR S.length i) w, eiR S.length i]
theorem st_same {p : Int} {S w : List Int} {i : Nat} (h : w = eiR S.length i) : stV p S w i = [] := by unfold stV; rw [if_pos h]
theorem st_less {p : Int} {S w : List Int} {i : Nat} (h : ¬ w = eiR S.length i) (h2 : pairN p S (dfM p (eiR S.length i) w) (dfM p (eiR S.length i) w) ≠ 0) : stV p S w i = [dfM p (eiR S.length i) w] := by unfold stV; rw [if_neg h, if_pos h2]
theorem st_more {p : Int} {S w : List Int} {i : Nat} (h : ¬ w = eiR S.length i) (h2 : pairN p S (dfM p (eiR S.length i) w) (dfM p (eiR S.length i) w) = 0) : stV p S w i = [smM7 p (eiR S.length i) w, eiR S.length i] := by unfold stV; rw [if_neg h, if_neg (fun k => k h2)]
theorem st_len (p : Int) (S w : List Int) (i : Nat) : (stV p S w i).length ≤ 2 := by
  unfold stV; split
  · simp
  · split <;> simp
/-- The columns behind reflections, the first one first. -/
def refA (p : Int) (S : List Int) (L : List (List Int)) (C : List (List Int)) : List (List Int) := L.foldl (fun D u => refC p S u D) C
/-- The columns behind k steps of the decomposition. -/
def dcC (p : Int) (S : List Int) (C : List (List Int)) : Nat → List (List Int)
  | 0 => C
  | k + 1 => refA p S (stV p S (rw' (dcC p S C k) k) k) (dcC p S C k)
/-- The vectors of k steps. -/
def dcL (p : Int) (S : List Int) (C : List (List Int)) : Nat → List (List Int)
  | 0 => []
  | k + 1 => dcL p S C k ++ stV p S (rw' (dcC p S C k) k) k
theorem ei_row {n i : Nat} (hi : i < n) : rw' (oneM n) i = eiR n i := one_row hi
theorem ei_norm {p : Int} {S : List Int} (hs : isSp p S = true) {i : Nat} (hi : i < S.length) : pairN p S (eiR S.length i) (eiR S.length i) = S.getD i 0 := by
  have h := one_pair hs hi hi
  rw [ei_row hi] at h
  rw [h]; unfold wantF; rw [if_pos rfl]
theorem reg_nz {p : Int} {S : List Int} (hs : isSp p S = true) (hd : discN p S ≠ 0) {i : Nat} (hi : i < S.length) : S.getD i 0 ≠ 0 := fun h => by
  have K := isSp_iff.1 hs
  exact hd ((disN_zero K.prime (i := S.length) (fun j hj => K.num hj)).2 ⟨i, hi, h⟩)
/-- n columns, vectors with the norms of the basis vectors. -/
structure Cols (p : Int) (S : List Int) (C : List (List Int)) : Prop where
  len : C.length = S.length
  vec : ∀ i, i < S.length → isVec p S.length (rw' C i) = true
  nrm : ∀ i, i < S.length → pairN p S (rw' C i) (rw' C i) = S.getD i 0
theorem Cols.ref {p : Int} {S u : List Int} {C : List (List Int)} (h : Cols p S C) (hp : prm p = true) (hu : pairN p S u u ≠ 0) : Cols p S (refC p S u C) := by
  have hb := prm_bd hp
  refine ⟨by rw [ref_len]; exact h.len, fun i hi => ?_, fun i hi => ?_⟩
  · rw [ref_row p S u (by rw [h.len]; exact hi)]; exact rfl_vec7 (by omega) (h.vec i hi)
  · rw [ref_row p S u (by rw [h.len]; exact hi), rf_keeps hp (h.vec i hi) hu]; exact h.nrm i hi
theorem Cols.refA {p : Int} {S : List Int} (hp : prm p = true) : ∀ (L : List (List Int)) (C : List (List Int)), Cols p S C → (∀ u, u ∈ L → pairN p S u u ≠ 0) → Cols p S (refA p S L C)
  | [], C, h, _ => h
  | u :: L, C, h, hu => Cols.refA hp L (refC p S u C) (h.ref hp (hu u (List.mem_cons_self ..))) fun v hv => hu v (List.mem_cons_of_mem _ hv)
theorem st_ok {p : Int} {S w : List Int} {i : Nat} (hs : isSp p S = true) (hd : discN p S ≠ 0) (hi : i < S.length) (hw : isVec p S.length w = true) (hn : pairN p S w w = S.getD i 0) : ∀ u, u ∈ stV p S w i → isVec p S.length u = true ∧ pairN p S u u ≠ 0 := by
  have hp := (isSp_iff.1 hs).prime
  have hb := prm_bd hp
  have he := ei_vec (p := p) (by omega) S.length i
  have hwl := (isVec_iff.1 hw).len
  have hel := (isVec_iff.1 he).len
  have hen := ei_norm hs hi
  have hnz := reg_nz hs hd hi
  by_cases h1 : w = eiR S.length i
  · intro u hu; rw [st_same h1] at hu; cases hu
  · by_cases h2 : pairN p S (dfM p (eiR S.length i) w) (dfM p (eiR S.length i) w) = 0
    · intro u hu
      rw [st_more h1 h2] at hu
      have heq : pairN p S (eiR S.length i) (eiR S.length i) = pairN p S w w := by rw [hen, hn]
      have hA := pairN_bd7 (p := p) (S := S) (u := eiR S.length i) (v := w) (by omega)
      have hN := pairN_bd7 (p := p) (S := S) (u := eiR S.length i) (v := eiR S.length i) (by omega)
      rw [(df_norm hel hwl heq).1] at h2
      have h3 := (rf_minus hp hA.1 hA.2 hN.1 hN.2 h2 (by rw [hen]; exact hnz)).1
      rcases List.mem_cons.1 hu with rfl | hu
      · exact ⟨plus_vec (by omega) _ hwl, by rw [(sm_norm hel hwl heq).1]; exact h3⟩
      · rcases List.mem_cons.1 hu with rfl | hu
        · exact ⟨he, by rw [hen]; exact hnz⟩
        · cases hu
    · intro u hu
      rw [st_less h1 h2] at hu
      rcases List.mem_cons.1 hu with rfl | hu
      · exact ⟨plus_vec (by omega) _ hwl, h2⟩
      · cases hu
theorem Cols.dc {p : Int} {S : List Int} {C : List (List Int)} (hs : isSp p S = true) (hd : discN p S ≠ 0) (h : Cols p S C) : ∀ k, k ≤ S.length → Cols p S (dcC p S C k)
  | 0, _ => h
  | k + 1, hk => by
    have h1 := Cols.dc hs hd h k (by omega)
    exact Cols.refA (isSp_iff.1 hs).prime _ _ h1 fun u hu => (st_ok hs hd (by omega) (h1.vec k (by omega)) (h1.nrm k (by omega)) u hu).2
theorem dcL_ok {p : Int} {S : List Int} {C : List (List Int)} (hs : isSp p S = true) (hd : discN p S ≠ 0) (h : Cols p S C) : ∀ k, k ≤ S.length → (∀ u, u ∈ dcL p S C k → isVec p S.length u = true ∧ pairN p S u u ≠ 0) ∧ (dcL p S C k).length ≤ 2 * k
  | 0, _ => ⟨fun u hu => (List.not_mem_nil hu).elim, Nat.le_refl _⟩
  | k + 1, hk => by
    obtain ⟨h2, h3⟩ := dcL_ok hs hd h k (by omega)
    have h1 := Cols.dc hs hd h k (by omega)
    refine And.intro (fun u hu => ?_) ?_
    · rcases List.mem_append.1 hu with hu | hu
      · exact h2 u hu
      · exact st_ok hs hd (by omega) (h1.vec k (by omega)) (h1.nrm k (by omega)) u hu
    · have := st_len p S (rw' (dcC p S C k) k) k
      show (dcL p S C k ++ _).length ≤ _
      rw [List.length_append]; omega
/-- The matrix of a reflection. -/
def rfX (p : Int) (S u : List Int) : List (List Int) := trM (refC p S u (oneM S.length))
theorem tr_at {C : List (List Int)} {n i j : Nat} (h0 : (rw' C 0).length = n) (hi : i < n) (hj : j < C.length) : at' (trM C) i j = at' C j i := by
  unfold trM; rw [mk_at _ (by omega) hj]
theorem tr_ln {C : List (List Int)} : (trM C).length = (rw' C 0).length := mk_len _ _ _
theorem tr_rw {C : List (List Int)} {i : Nat} (hi : i < (rw' C 0).length) : rw' (trM C) i = mkR C.length fun j => at' C j i := mk_row _ hi
theorem tr_tr {C : List (List Int)} (h0 : 0 < C.length) (hn : 0 < (rw' C 0).length) (h : ∀ i, i < C.length → (rw' C i).length = (rw' C 0).length) : trM (trM C) = C := by
  have e0 : (rw' (trM C) 0).length = C.length := by rw [tr_rw hn, mkR_len]
  refine mat_ext (by rw [tr_ln, e0]) fun i hi => ?_
  rw [tr_ln, e0] at hi
  rw [tr_rw (by rw [e0]; exact hi), tr_ln]
  refine row_ext (by rw [mkR_len, h i hi]) fun j hj => ?_
  rw [mkR_len] at hj
  rw [mkR_at _ hj, tr_at rfl hj hi]
  rfl
theorem Cols.tr {p : Int} {S : List Int} {C : List (List Int)} (h : Cols p S C) (hn : 0 < S.length) : (trM C).length = S.length ∧ (rw' (trM C) 0).length = S.length ∧ trM (trM C) = C := by
  have e : (rw' C 0).length = S.length := (isVec_iff.1 (h.vec 0 hn)).len
  refine ⟨by rw [tr_ln, e], by rw [tr_rw (by rw [e]; exact hn), mkR_len, h.len], tr_tr (by rw [h.len]; exact hn) (by rw [e]; exact hn) fun i hi => ?_⟩
  rw [(isVec_iff.1 (h.vec i (by rw [← h.len]; exact hi))).len, e]
theorem pair_ei {p : Int} {S u : List Int} {j : Nat} (hj : j < S.length) : pairN p S u (eiR S.length j) = u.getD j 0 * S.getD j 0 % p := by
  unfold pairN psum
  have e : sm S.length (fun i => u.getD i 0 * (eiR S.length j).getD i 0 * S.getD i 0) = sm S.length (fun i => if i = j then u.getD j 0 * S.getD j 0 else 0) := sm_congr fun i hi => by
    unfold eiR
    rw [mkR_at _ hi]
    by_cases h : j = i
    · subst h; rw [if_pos rfl, if_pos rfl, Int.mul_one]
    · rw [if_neg h, if_neg (fun k => h k.symm), Int.mul_zero, Int.zero_mul]
  rw [e, sm_single, if_pos hj]
theorem rfK_lin (p a n : Int) : rfK p a n % p = a * (-2 * inv p n) % p := by
  unfold rfK
  rw [Int.emod_emod, el_mod]
  congr 1
  rw [Int.mul_comm (-2) a, Int.mul_assoc]
/-- A reflection is linear. -/
theorem rfl_sum {p : Int} {S u v : List Int} (hp : prm p = true) (hv : isVec p S.length v = true) {i : Nat} (hi : i < S.length) :
    sm S.length (fun j => (rflM p S u (eiR S.length j)).getD i 0 * v.getD j 0) % p = (rflM p S u v).getD i 0 := by
  have hb := prm_bd hp
  have hvl := (isVec_iff.1 hv).len
  obtain ⟨K, hK⟩ : ∃ K, K = -2 * inv p (pairN p S u u) := ⟨_, rfl⟩
  have e1 : sm S.length (fun j => (rflM p S u (eiR S.length j)).getD i 0 * v.getD j 0) % p = sm S.length (fun j => ((if j = i then v.getD i 0 else 0) + K * u.getD i 0 * (u.getD j 0 * v.getD j 0 * S.getD j 0))) % p := by
    apply sm_cong_p
    intro j hj
    unfold rflM
    rw [plusR_at _ _ _ _ (by unfold eiR; rw [mkR_len]; exact hi), el_mod, Int.add_mul, Int.add_emod]
    rw [show rfK p (pairN p S u (eiR S.length j)) (pairN p S u u) * u.getD i 0 * v.getD j 0 = rfK p (pairN p S u (eiR S.length j)) (pairN p S u u) * (u.getD i 0 * v.getD j 0) by rw [Int.mul_assoc]]
    rw [← el_mod (rfK _ _ _), rfK_lin, ← hK, pair_ei hj, el_mod, Int.mul_assoc (u.getD j 0 * S.getD j 0 % p), el_mod]
    rw [Int.add_emod (if j = i then v.getD i 0 else 0)]
    have a1 : (eiR S.length j).getD i 0 * v.getD j 0 = if j = i then v.getD i 0 else 0 := by
      unfold eiR
      rw [mkR_at _ hi]
      by_cases h : j = i
      · subst h; rw [if_pos rfl, if_pos rfl, Int.one_mul]
      · rw [if_neg h, if_neg h, Int.zero_mul]
    have a2 : u.getD j 0 * S.getD j 0 * (K * (u.getD i 0 * v.getD j 0)) = K * u.getD i 0 * (u.getD j 0 * v.getD j 0 * S.getD j 0) := by ac_rfl
    rw [a1, a2]
  rw [e1, sm_add, sm_single, if_pos hi, sm_mul]
  unfold rflM
  rw [plusR_at _ _ _ _ (by rw [hvl]; exact hi)]
  rw [Int.add_emod, Int.add_emod (v.getD i 0) (rfK _ _ _ * _)]
  congr 2
  rw [← el_mod (rfK _ _ _), rfK_lin, ← hK, el_mod]
  unfold pairN psum
  rw [Int.mul_assoc (_ % p), el_mod]
  congr 1
  rw [Int.mul_comm (sm _ _), Int.mul_assoc K]
theorem mul_rf {p : Int} {S u : List Int} {C : List (List Int)} (hs : isSp p S = true) (hl : C.length = S.length) (hv : ∀ i, i < S.length → isVec p S.length (rw' C i) = true) : mulM p (rfX p S u) (trM C) = trM (refC p S u C) := by
  have hp := (isSp_iff.1 hs).prime
  have hb := prm_bd hp
  have h1 := (isSp_iff.1 hs).lo
  have c0 : (rw' C 0).length = S.length := (isVec_iff.1 (hv 0 (by omega))).len
  have o1 : (oneM S.length).length = S.length := mk_len _ _ _
  have ol : (refC p S u (oneM S.length)).length = S.length := by rw [ref_len]; exact o1
  have r0 : (rw' (refC p S u (oneM S.length)) 0).length = S.length := by
    rw [ref_row p S u (by rw [o1]; omega), ei_row (by omega)]
    exact (isVec_iff.1 (rfl_vec7 (p := p) (S := S) (u := u) (by omega) (ei_vec (by omega) S.length 0))).len
  have q0 : (rw' (refC p S u C) 0).length = S.length := by
    rw [ref_row p S u (by rw [hl]; omega)]
    exact (isVec_iff.1 (rfl_vec7 (p := p) (S := S) (u := u) (by omega) (hv 0 (by omega)))).len
  have t0 : (rw' (trM C) 0).length = S.length := by rw [tr_rw (by rw [c0]; omega), mkR_len, hl]
  have l1 : (rfX p S u).length = S.length := by unfold rfX; rw [tr_ln, r0]
  unfold mulM
  rw [l1, t0]
  have : trM (refC p S u C) = mk S.length S.length fun k i => at' (refC p S u C) i k := by unfold trM; rw [q0, ref_len, hl]
  rw [this]
  refine mk_congr fun i hi k hk => ?_
  rw [tr_ln, c0]
  have e : sm S.length (fun j => at' (rfX p S u) i j * at' (trM C) j k) = sm S.length (fun j => (rflM p S u (eiR S.length j)).getD i 0 * (rw' C k).getD j 0) := sm_congr fun j hj => by
    unfold rfX
    rw [tr_at r0 hi (by rw [ol]; exact hj), tr_at c0 hj (by rw [hl]; exact hk)]
    unfold at'
    rw [ref_row p S u (by rw [o1]; exact hj), ei_row hj]
  rw [e, rfl_sum hp (hv k hk) hi]
  unfold at'
  rw [ref_row p S u (by rw [hl]; exact hk)]
/-- The decomposition of a matrix. -/
def decL (p : Int) (S : List Int) (m : List (List Int)) : List (List Int) := dcL p S (trM m) S.length
def orB (p : Int) (S : List Int) (m : List (List Int)) : Bool := ismB p p S S m
theorem orB_all {p : Int} {S : List Int} {m : List (List Int)} (h : orB p S m = true) : m.length = S.length ∧ isM p m = true ∧ (rw' m 0).length = S.length ∧ detP p m ≠ 0 ∧ colB p S S m = true := by
  unfold orB ismB at h
  simp only [Bool.and_eq_true, decide_eq_true_eq] at h
  obtain ⟨⟨h1, h2⟩, h3⟩ := h
  obtain ⟨_, _, a, b, c⟩ := ismF_iff.1 h1
  exact ⟨a, b, c, h2, h3⟩
theorem or_cols {p : Int} {S : List Int} {m : List (List Int)} (hs : isSp p S = true) (h : orB p S m = true) : Cols p S (trM m) := by
  obtain ⟨h1, h2, h3, _, h5⟩ := orB_all h
  have hL := isL_iff.1 h2
  refine ⟨by rw [tr_ln, h3], fun i hi => ?_, fun i hi => ?_⟩
  · rw [tr_rw (by rw [h3]; exact hi), h1]
    refine vec_of (mkR_len _ _) fun j hj => ?_
    rw [mkR_len] at hj
    rw [mkR_at _ hj]
    exact hL.at (by omega) (by omega)
  · rw [colB_iff.1 h5 i hi i (Nat.le_refl _)]; unfold wantF; rw [if_pos rfl]
theorem dec_ok {p : Int} {S : List Int} {m : List (List Int)} (hs : isSp p S = true) (hd : discN p S ≠ 0) (h : orB p S m = true) : (∀ u, u ∈ decL p S m → isVec p S.length u = true ∧ pairN p S u u ≠ 0) ∧ (decL p S m).length ≤ 12 := by
  have := dcL_ok hs hd (or_cols hs h) S.length (Nat.le_refl _)
  have h6 := (isSp_iff.1 hs).hi
  exact ⟨this.1, by have := this.2; unfold decL; omega⟩

end Go.Proofs.YtlfjhffigkhmcaaGreat

namespace Go.Proofs.YtlfjhffigkhmcaaGreat
set_option linter.unusedVariables false

theorem dt_addall {n l r : Nat} (hl : l < n) (hr : r ≤ n) (f : Nat → Nat → Int) (x : Nat → Int) : dt n (fun i => if i < r ∧ i ≠ l then fun j => f i j + x i * f l j else f i) = dt n f := by
  induction r with
  | zero => exact dt_congr (fun i _ j _ => by rw [if_neg (by omega)])
  | succ r ih =>
    rw [← ih (by omega)]
    by_cases e : r = l
    · apply dt_congr
      intro i _ j _
      by_cases h : i < r ∧ i ≠ l
      · rw [if_pos (by omega)]
        show f i j + x i * f l j = (if i < r ∧ i ≠ l then fun j => f i j + x i * f l j else f i) j
        rw [if_pos h]
      · rw [if_neg (by omega)]
        show f i j = (if i < r ∧ i ≠ l then fun j => f i j + x i * f l j else f i) j
        rw [if_neg h]
    · have h := dt_addrow (k := r) (l := l) (by omega) hl e (fun i => if i < r ∧ i ≠ l then fun j => f i j + x i * f l j else f i) (x r)
      rw [← h]
      apply dt_congr
      intro i _ j _
      unfold upd
      by_cases e' : i = r
      · subst e'; rw [if_pos (by omega), if_pos rfl, if_neg (by omega), if_neg (by omega)]
      · rw [if_neg e']
        by_cases h' : i < r ∧ i ≠ l
        · rw [if_pos (by omega)]
          show f i j + x i * f l j = (if i < r ∧ i ≠ l then fun j => f i j + x i * f l j else f i) j
          rw [if_pos h']
        · rw [if_neg (by omega)]
          show f i j = (if i < r ∧ i ≠ l then fun j => f i j + x i * f l j else f i) j
          rw [if_neg h']

/-- Where the model's determinant stands: k columns are done. -/
structure DetAt (p : Int) (n : Nat) (A m : List (List Int)) (k : Nat) (out : Int) : Prop where
  ml : m.length = n
  kn : k ≤ n
  len : ∀ i, i < n → (rw' m i).length = n
  rng : ∀ i, i < n → ∀ j, j < n → 0 ≤ at' m i j ∧ at' m i j < p
  ob : 0 ≤ out ∧ out < p
  val : detP p A = out * dt (n - k) (fun r c => at' m (k + r) (k + c)) % p
theorem DetAt.start {p : Int} {A : List (List Int)} (hp : prm p = true) (hl : ∀ i, i < A.length → (rw' A i).length = A.length) (hr : ∀ i, i < A.length → ∀ j, j < A.length → 0 ≤ at' A i j ∧ at' A i j < p) : DetAt p A.length A A 0 1 where
  ml := rfl
  kn := Nat.zero_le _
  len := hl
  rng := hr
  ob := by have := prm_bd hp; omega
  val := by
    rw [Int.one_mul]
    unfold detP
    congr 1
    exact dt_congr (fun i _ j _ => by rw [Nat.zero_add, Nat.zero_add])
theorem DetAt.done {p : Int} {n : Nat} {A m : List (List Int)} {out : Int} (h : DetAt p n A m n out) : detP p A = out := by
  rw [h.val, Nat.sub_self]
  show out * 1 % p = out
  rw [Int.mul_one]
  exact Int.emod_eq_of_lt h.ob.1 h.ob.2
theorem DetAt.none {p : Int} {n : Nat} {A m : List (List Int)} {k : Nat} {out : Int} (h : DetAt p n A m k out) (hk : k < n) (hz : ∀ i, k ≤ i → i < n → at' m i k = 0) : detP p A = 0 := by
  obtain ⟨q, hq⟩ : ∃ q, n - k = q + 1 := ⟨n - k - 1, by omega⟩
  rw [h.val, hq, dt_col0 (fun i hi => hz (k + i) (by omega) (by omega)), Int.mul_zero]
  rfl
def swapL (m : List (List Int)) (k f : Nat) : List (List Int) := (m.set f (rw' m k)).set k (rw' m f)
theorem swapL_len (m : List (List Int)) (k f : Nat) : (swapL m k f).length = m.length := by simp [swapL]
theorem swapL_row {m : List (List Int)} {k f : Nat} (hk : k < m.length) (hf : f < m.length) (i : Nat) : rw' (swapL m k f) i = if i = k then rw' m f else if i = f then rw' m k else rw' m i := by
  unfold swapL
  rw [rw_set _ (by simpa using hk), rw_set _ hf]
theorem DetAt.swap {p : Int} {n : Nat} {A m : List (List Int)} {k f : Nat} {out : Int} (hp : prm p = true) (h : DetAt p n A m k out) (hk : k < f) (hf : f < n) : DetAt p n A (swapL m k f) k (-out % p) := by
  have hn := h.ml
  have hat : ∀ i, at' (swapL m k f) i = if i = k then at' m f else if i = f then at' m k else at' m i := fun i => by
    funext j
    unfold at'
    rw [swapL_row (by omega) (by omega)]
    by_cases e : i = k
    · rw [if_pos e, if_pos e]
    · rw [if_neg e, if_neg e]
      by_cases e' : i = f
      · rw [if_pos e', if_pos e']
      · rw [if_neg e', if_neg e']
  refine ⟨by rw [swapL_len, hn], h.kn, fun i hi => ?_, fun i hi j hj => ?_, mod_bd hp _, ?_⟩
  · rw [swapL_row (by omega) (by omega)]
    split
    · exact h.len f hf
    · split
      · exact h.len k (by omega)
      · exact h.len i hi
  · rw [hat]
    split
    · exact h.rng f hf j hj
    · split
      · exact h.rng k (by omega) j hj
      · exact h.rng i hi j hj
  · have e := dt_swap (n := n - k) (k := 0) (l := f - k) (by omega) (by omega) (fun r c => at' m (k + r) (k + c))
    have e2 : dt (n - k) (fun r c => at' (swapL m k f) (k + r) (k + c)) = - dt (n - k) (fun r c => at' m (k + r) (k + c)) := by
      rw [← e]
      apply dt_congr
      intro i hi j hj
      rw [hat]
      unfold upd
      by_cases e0 : i = 0
      · subst e0
        rw [if_pos (by omega), if_neg (by omega), if_pos rfl]
        have : k + (f - k) = f := by omega
        rw [this]
      · rw [if_neg (by omega)]
        by_cases e1 : i = f - k
        · rw [if_pos (by omega), if_pos e1]; rfl
        · rw [if_neg (by omega), if_neg e1, if_neg e0]
    rw [h.val, e2, emod_mul, Int.neg_mul_neg]
theorem elim_zero {p a v x : Int} (h : v * x % p = 1 % p) : (a + (p - a) * v % p * x) % p = 0 := by
  have e : (p - a) * v % p * x % p = (p - a) % p := by
    rw [emod_mul, Int.mul_assoc, ← mul_emod_r, h, mul_emod_r, Int.mul_one]
  rw [Int.add_emod, e, ← Int.add_emod]
  have : a + (p - a) = p := by omega
  rw [this, Int.emod_self]
theorem DetAt.step {p : Int} {n : Nat} {A m m2 : List (List Int)} {k : Nat} {out : Int} (hp : prm p = true) (h : DetAt p n A m k out) (hk : k < n) (hx : 1 ≤ at' m k k) (hn2 : m2.length = n) (hl2 : ∀ i, i < n → (rw' m2 i).length = n)
    (h2 : ∀ i, i < n → ∀ j, j < n → at' m2 i j = if k < i then (at' m i j + (p - at' m i k) * inv p (at' m k k) % p * at' m k j) % p else at' m i j) : DetAt p n A m2 (k + 1) (out * at' m k k % p) := by
  have hxr := h.rng k hk k hk
  have hinv := inv_mul hp hx hxr.2
  have hpb := prm_bd hp
  obtain ⟨q, hq⟩ : ∃ q, n - k = q + 1 := ⟨n - k - 1, by omega⟩
  have hq1 : n - (k + 1) = q := by omega
  refine ⟨hn2, hk, hl2, fun i hi j hj => ?_, mod_bd hp _, ?_⟩
  · rw [h2 i hi j hj]
    split
    · exact mod_bd hp _
    · exact h.rng i hi j hj
  · rw [h.val, hq, hq1]
    have e1 := dt_addall (n := q + 1) (l := 0) (r := q + 1) (by omega) (Nat.le_refl _) (fun r c => at' m (k + r) (k + c)) (fun r => (p - at' m (k + r) k) * inv p (at' m k k) % p)
    have e2 : dt (q + 1) (fun r c => at' m (k + r) (k + c)) % p = dt (q + 1) (fun r c => at' m2 (k + r) (k + c)) % p := by
      rw [← e1]
      apply dt_mod
      intro i hi j hj
      rw [h2 (k + i) (by omega) (k + j) (by omega)]
      by_cases e : i = 0
      · subst e
        rw [if_neg (by omega), if_neg (by omega)]
      · rw [if_pos (by omega), if_pos (by omega), Int.emod_emod, Nat.add_zero]
    have e3 : dt (q + 1) (fun r c => at' m2 (k + r) (k + c)) = at' m k k * dt q (fun r c => at' m2 (k + 1 + r) (k + 1 + c)) := by
      rw [dt_col (fun i h1 hi => by
        show at' m2 (k + i) (k + 0) = 0
        rw [h2 _ (by omega) _ (by omega), if_pos (by omega)]
        exact elim_zero (by rw [Nat.add_zero, Int.mul_comm, hinv, Int.emod_eq_of_lt (by omega) (by omega)]))]
      have e4 : at' m2 (k + 0) (k + 0) = at' m k k := by rw [h2 _ (by omega) _ (by omega), if_neg (by omega)]; rfl
      rw [e4]
      congr 1
      apply dt_congr
      intro i _ j _
      have a1 : k + (i + 1) = k + 1 + i := by omega
      have a2 : k + (j + 1) = k + 1 + j := by omega
      show at' m2 (k + (i + 1)) (k + (j + 1)) = _
      rw [a1, a2]
    rw [Int.mul_emod, e2, ← Int.mul_emod, e3, emod_mul, Int.mul_assoc]

/-- The rows below row k, up to i, are reduced. -/
def rowD (p : Int) (m : List (List Int)) (k i j : Nat) : List Int := if k < j ∧ j < i then plusR p (rw' m j) (rw' m k) ((p - at' m j k) * inv p (at' m k k) % p) else rw' m j
def rowsD (p : Int) (m : List (List Int)) (k i : Nat) : List (List Int) := (List.range m.length).map (rowD p m k i)
theorem rowsD_len (p : Int) (m : List (List Int)) (k i : Nat) : (rowsD p m k i).length = m.length := by simp [rowsD]
theorem rowsD_row {p : Int} {m : List (List Int)} {k i j : Nat} (h : j < m.length) : rw' (rowsD p m k i) j = rowD p m k i j := by simp [rowsD, rw', List.getD, h]
theorem rowsD_start (p : Int) (m : List (List Int)) (k : Nat) : rowsD p m k (k + 1) = m := by
  refine mat_ext (rowsD_len _ _ _ _) (fun j hj => ?_)
  rw [rowsD_len] at hj
  rw [rowsD_row hj]; unfold rowD; rw [if_neg (by omega)]
theorem rowsD_next {p : Int} {m : List (List Int)} {k i : Nat} (hi : i < m.length) (hk : k < i) : (rowsD p m k i).set i (plusR p (rw' m i) (rw' m k) ((p - at' m i k) * inv p (at' m k k) % p)) = rowsD p m k (i + 1) := by
  refine mat_ext (by simp [rowsD_len]) (fun j hj => ?_)
  simp only [List.length_set, rowsD_len] at hj
  rw [rw_set _ (by rw [rowsD_len]; exact hi), rowsD_row hj, rowsD_row hj]
  unfold rowD
  by_cases e : j = i
  · subst e; rw [if_pos rfl, if_pos (by omega)]
  · rw [if_neg e]
    by_cases h : k < j ∧ j < i
    · rw [if_pos h, if_pos (by omega)]
    · rw [if_neg h, if_neg (by omega)]
theorem DetAt.rows {p : Int} {n : Nat} {A m : List (List Int)} {k : Nat} {out : Int} (hp : prm p = true) (h : DetAt p n A m k out) (hk : k < n) (hx : 1 ≤ at' m k k) : DetAt p n A (rowsD p m k n) (k + 1) (out * at' m k k % p) := by
  have hn := h.ml
  have hrow : ∀ i, i < n → rw' (rowsD p m k n) i = rowD p m k n i := fun i hi => rowsD_row (by omega)
  refine h.step hp hk hx (by rw [rowsD_len, hn]) (fun i hi => ?_) (fun i hi j hj => ?_)
  · rw [hrow i hi]
    unfold rowD
    split
    · unfold plusR; rw [mkR_len]; exact h.len i hi
    · exact h.len i hi
  · show (rw' (rowsD p m k n) i).getD j 0 = _
    rw [hrow i hi]
    unfold rowD
    by_cases e : k < i
    · rw [if_pos ⟨e, hi⟩, if_pos e]
      unfold plusR
      rw [mkR_at _ (by rw [h.len i hi]; exact hj)]
      rfl
    · rw [if_neg (by omega), if_neg e]; rfl

end Go.Proofs.YtlfjhffigkhmcaaGreat
