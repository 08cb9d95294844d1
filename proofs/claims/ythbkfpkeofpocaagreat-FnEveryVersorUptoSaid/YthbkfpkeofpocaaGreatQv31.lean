/-
  What an isometry is: by columns, and by the program's way. No Go in sight.
  No conditions.
  Orthogonal matrices: decompositions into reflections. No Go in sight.
  No conditions.
  The model's determinant, step by step. No Go in sight.
  No conditions.
  The model's determinant: the walk.
  Conditions: the matrix is a row of rows of known cells with numbers of the prime, as many as columns.
  The model's l03Isometry: contract.
  Conditions: both are spaces; the matrix is nil or of rows of known cells, of at most 1048576 numbers together.
  slices.EqualFunc of lists of rows, the rows compared by slices.Equal.
  Conditions: rows of rows of known cells, at most 1024 rows of at most 1048576 numbers.
  IsMatrix, in the program and in the model.
  Conditions: the matrix is nil or a row of rows of known cells.
-/
import Derived.Test.YthbkfpkeofpocaaGreatQv30
import Derived.Test.YthbkfpkeofpocaaGreatQv26
import Derived.Test.YthbkfpkeofpocaaGreatQv27
import Derived.Test.YthbkfpkeofpocaaGreatQv29
import Derived.Test.YthbkfpkeofpocaaGreatQv13
import Derived.Test.YthbkfpkeofpocaaGreatQv17
import Derived.Test.YthbkfpkeofpocaaGreatQv3
import Derived.Test.YthbkfpkeofpocaaGreatQv2
import Derived.Deep.RegionHeld3
import Derived.Deep.DeepCutAuto
import Derived.Test.YthbkfpkeofpocaaGreatQv15
namespace Go.Proofs.YthbkfpkeofpocaaGreat
open Go.RowKit
set_option linter.unusedVariables false

def wantF (S : List Int) (i k : Nat) : Int := if i = k then S.getD i 0 else 0
/-- The columns have the products of the basis vectors. -/
def colB (p : Int) (S T : List Int) (m : List (List Int)) : Bool := (List.range S.length).all fun i => (List.range (i + 1)).all fun k => decide (pairN p T (rw' (trM m) i) (rw' (trM m) k) = wantF S i k)
theorem colB_iff {p : Int} {S T : List Int} {m : List (List Int)} : colB p S T m = true ↔ ∀ i, i < S.length → ∀ k, k ≤ i → pairN p T (rw' (trM m) i) (rw' (trM m) k) = wantF S i k := by
  unfold colB
  simp only [List.all_eq_true, List.mem_range, decide_eq_true_eq, Nat.lt_succ_iff]
/-- A square matrix of the size of both spaces. -/
def ismF (p q : Int) (S T : List Int) (m : List (List Int)) : Bool := decide (p = q) && decide (T.length = S.length) && decide (m.length = S.length) && isM p m && decide ((rw' m 0).length = S.length)
/-- What is told of an isometry. -/
def ismB (p q : Int) (S T : List Int) (m : List (List Int)) : Bool := ismF p q S T m && decide (detP p m ≠ 0) && colB p S T m
theorem ismF_iff {p q : Int} {S T : List Int} {m : List (List Int)} : ismF p q S T m = true ↔ p = q ∧ T.length = S.length ∧ m.length = S.length ∧ isM p m = true ∧ (rw' m 0).length = S.length := by
  unfold ismF
  simp only [Bool.and_eq_true, decide_eq_true_eq, and_assoc]
theorem one_row {n i : Nat} (hi : i < n) : rw' (oneM n) i = mkR n fun j => if i = j then 1 else 0 := mk_row _ hi
theorem one_pair {p : Int} {S : List Int} (hs : isSp p S = true) {i j : Nat} (hi : i < S.length) (hj : j < S.length) : pairN p S (rw' (oneM S.length) i) (rw' (oneM S.length) j) = wantF S i j := by
  have hp := prm_bd (isSp_iff.1 hs).prime
  rw [one_row hi, one_row hj]
  unfold pairN psum wantF
  rw [sm_congr (g := fun l => if l = i then (if i = j then S.getD i 0 else 0) else 0) fun l hl => by
    rw [mkR_at _ hl, mkR_at _ hl]
    by_cases e : l = i
    · subst e
      rw [if_pos rfl, if_pos rfl, Int.one_mul]
      by_cases e2 : l = j
      · subst e2; rw [if_pos rfl, if_pos rfl, Int.one_mul]
      · rw [if_neg (fun h => e2 h.symm), if_neg e2, Int.zero_mul]
    · rw [if_neg (fun h => e h.symm), if_neg e, Int.zero_mul, Int.zero_mul], sm_single, if_pos hi]
  have h := (isSp_iff.1 hs).num hi
  split
  · exact Int.emod_eq_of_lt h.1 h.2
  · exact Int.zero_emod _
theorem mk_inj {n c : Nat} {f g : Nat → Nat → Int} : mk n c f = mk n c g ↔ ∀ i, i < n → ∀ j, j < c → f i j = g i j := by
  constructor
  · intro h i hi j hj
    rw [← mk_at f hi hj, ← mk_at g hi hj, h]
  · intro h
    refine mat_ext (by rw [mk_len, mk_len]) fun i hi => ?_
    rw [mk_len] at hi
    rw [mk_row _ hi, mk_row _ hi]
    exact mkR_congr fun j hj => h i hi j hj
/-- The program's way: both Gram matrices are the same. -/
theorem kept_iff {p : Int} {S T : List Int} {m : List (List Int)} (hs : isSp p S = true) (hl : (trM m).length = S.length) : gramM p S (oneM S.length) = gramM p T (trM m) ↔ colB p S T m = true := by
  have e1 : (oneM S.length).length = S.length := mk_len _ _ _
  unfold gramM
  rw [e1, hl, mk_inj, colB_iff]
  unfold gramF
  constructor
  · intro h i hi k hk
    rw [← h i hi k (by omega), one_pair hs hi (by omega)]
  · intro h i hi j hj
    rw [one_pair hs hi hj]
    by_cases hk : j ≤ i
    · exact (h i hi j hk).symm
    · rw [pairN_comm, h j hj i (by omega)]
      unfold wantF
      by_cases e : i = j
      · omega
      · rw [if_neg e, if_neg fun q => e q.symm]
theorem bas_full {p : Int} {n : Nat} {m B : List (List Int)} (hp : prm p = true) (hn : m.length = n) (hl : ∀ i, i < m.length → (rw' m i).length = n) (hr : ∀ i, i < m.length → ∀ j, j < n → 0 ≤ at' m i j ∧ at' m i j < p) (hB : IsBas p n m B) : B.length = n ↔ detP p m ≠ 0 := by
  have hpb := prm_bd hp
  rw [det_triv hp hn hl hr]
  obtain ⟨P, hR⟩ := hB.red
  constructor
  · intro h x hx j hj
    have hx2 := (hB.nul x).1 (by rw [hn]; exact hx)
    rw [h] at hR hx2
    have hu := hR.unit.2
    have := hx2 j hj
    have e : sm n (fun k => at' B j k * x k) = sm n (fun k => if k = j then x j else 0) := sm_congr fun k hk => by
      rw [hu j hj k hk]
      by_cases e : j = k
      · subst e; simp
      · rw [if_neg e, if_neg (fun q => e q.symm)]; simp
    rw [e, sm_single, if_pos hj] at this
    exact this
  · intro ht
    refine Classical.byContradiction fun hne => ?_
    have hle := hR.rows_le
    obtain ⟨k, hk, hf⟩ := hR.free (N := n) (fun q => by have := (q (n - 1) (by omega)).1; omega)
    have hz := ht (kv B.length (at' B) P k) (by have := (hB.nul (kv B.length (at' B) P k)).2 (kv_nul hR hk); rwa [hn] at this) k hk
    rw [kv_top hR hf, Int.emod_eq_of_lt (by omega) (by omega)] at hz
    omega

end Go.Proofs.YthbkfpkeofpocaaGreat

namespace Go.Proofs.YthbkfpkeofpocaaGreat
set_option linter.unusedVariables false

/-- All rows of a list, reflected. -/
def refC (p : Int) (S u : List Int) (C : List (List Int)) : List (List Int) := C.map (rflM p S u)
theorem ref_len (p : Int) (S u : List Int) (C : List (List Int)) : (refC p S u C).length = C.length := by simp [refC]
theorem ref_row (p : Int) (S u : List Int) {C : List (List Int)} {i : Nat} (hi : i < C.length) : rw' (refC p S u C) i = rflM p S u (rw' C i) := by
  simp [refC, rw', List.getD, hi]
/-- The vectors that lead the column w to the basis vector i. -/
def stV (p : Int) (S w : List Int) (i : Nat) : List (List Int) :=
  if w = eiR S.length i then [] else if pairN p S (dfM p (eiR S.length i) w) (dfM p (eiR S.length i) w) ≠ 0 then [dfM p (eiR S.length i) w] else [smM7 p (eiR S.length i) w, eiR S.length i]
theorem st_same {p : Int} {S w : List Int} {i : Nat} (h : w = eiR S.length i) : stV p S w i = [] := by unfold stV; rw [if_pos h]
theorem st_less {p : Int} {S w : List Int} {i : Nat} (h : ¬ w = eiR S.length i) (h2 : pairN p S (dfM p (eiR S.length i) w) (dfM p (eiR S.length i) w) ≠ 0) : stV p S w i = [dfM p (eiR S.length i) w] := by unfold stV; rw [if_neg h, if_pos h2]
theorem st_more {p : Int} {S w : List Int} {i : Nat} (h : ¬ w = eiR S.length i) (h2 : pairN p S (dfM p (eiR S.length i) w) (dfM p (eiR S.length i) w) = 0) : stV p S w i = [smM7 p (eiR S.length i) w, eiR S.length i] := by unfold stV; rw [if_neg h, if_neg (fun k => k h2)]
theorem st_len (p : Int) (S w : List Int) (i : Nat) : (stV p S w i).length ≤ 2 := by
  unfold stV; split
  · simp
  · split <;> simp
/-- The columns behind reflections, the first one first. -/
def refA (p : Int) (S : List Int) (L : List (List Int)) (C : List (List Int)) : List (List Int) := L.foldl (fun D u => refC p S u D) C
/-- The columns behind k steps of the decomposition. -/
def dcC (p : Int) (S : List Int) (C : List (List Int)) : Nat → List (List Int)
  | 0 => C
  | k + 1 => refA p S (stV p S (rw' (dcC p S C k) k) k) (dcC p S C k)
/-- The vectors of k steps. -/
def dcL (p : Int) (S : List Int) (C : List (List Int)) : Nat → List (List Int)
  | 0 => []
  | k + 1 => dcL p S C k ++ stV p S (rw' (dcC p S C k) k) k
theorem ei_row {n i : Nat} (hi : i < n) : rw' (oneM n) i = eiR n i := one_row hi
theorem ei_norm {p : Int} {S : List Int} (hs : isSp p S = true) {i : Nat} (hi : i < S.length) : pairN p S (eiR S.length i) (eiR S.length i) = S.getD i 0 := by
  have h := one_pair hs hi hi
  rw [ei_row hi] at h
  rw [h]; unfold wantF; rw [if_pos rfl]
theorem reg_nz {p : Int} {S : List Int} (hs : isSp p S = true) (hd : discN p S ≠ 0) {i : Nat} (hi : i < S.length) : S.getD i 0 ≠ 0 := fun h => by
  have K := isSp_iff.1 hs
  exact hd ((disN_zero K.prime (i := S.length) (fun j hj => K.num hj)).2 ⟨i, hi, h⟩)
/-- n columns, vectors with the norms of the basis vectors. -/
structure Cols (p : Int) (S : List Int) (C : List (List Int)) : Prop where
  len : C.length = S.length
  vec : ∀ i, i < S.length → isVec p S.length (rw' C i) = true
  nrm : ∀ i, i < S.length → pairN p S (rw' C i) (rw' C i) = S.getD i 0
theorem Cols.ref {p : Int} {S u : List Int} {C : List (List Int)} (h : Cols p S C) (hp : prm p = true) (hu : pairN p S u u ≠ 0) : Cols p S (refC p S u C) := by
  have hb := prm_bd hp
  refine ⟨by rw [ref_len]; exact h.len, fun i hi => ?_, fun i hi => ?_⟩
  · rw [ref_row p S u (by rw [h.len]; exact hi)]; exact rfl_vec7 (by omega) (h.vec i hi)
  · rw [ref_row p S u (by rw [h.len]; exact hi), rf_keeps hp (h.vec i hi) hu]; exact h.nrm i hi
theorem Cols.refA {p : Int} {S : List Int} (hp : prm p = true) : ∀ (L : List (List Int)) (C : List (List Int)), Cols p S C → (∀ u, u ∈ L → pairN p S u u ≠ 0) → Cols p S (refA p S L C)
  | [], C, h, _ => h
  | u :: L, C, h, hu => Cols.refA hp L (refC p S u C) (h.ref hp (hu u (List.mem_cons_self ..))) fun v hv => hu v (List.mem_cons_of_mem _ hv)
theorem st_ok {p : Int} {S w : List Int} {i : Nat} (hs : isSp p S = true) (hd : discN p S ≠ 0) (hi : i < S.length) (hw : isVec p S.length w = true) (hn : pairN p S w w = S.getD i 0) : ∀ u, u ∈ stV p S w i → isVec p S.length u = true ∧ pairN p S u u ≠ 0 := by
  have hp := (isSp_iff.1 hs).prime
  have hb := prm_bd hp
  have he := ei_vec (p := p) (by omega) S.length i
  have hwl := (isVec_iff.1 hw).len
  have hel := (isVec_iff.1 he).len
  have hen := ei_norm hs hi
  have hnz := reg_nz hs hd hi
  by_cases h1 : w = eiR S.length i
  · intro u hu; rw [st_same h1] at hu; cases hu
  · by_cases h2 : pairN p S (dfM p (eiR S.length i) w) (dfM p (eiR S.length i) w) = 0
    · intro u hu
      rw [st_more h1 h2] at hu
      have heq : pairN p S (eiR S.length i) (eiR S.length i) = pairN p S w w := by rw [hen, hn]
      have hA := pairN_bd7 (p := p) (S := S) (u := eiR S.length i) (v := w) (by omega)
      have hN := pairN_bd7 (p := p) (S := S) (u := eiR S.length i) (v := eiR S.length i) (by omega)
      rw [(df_norm hel hwl heq).1] at h2
      have h3 := (rf_minus hp hA.1 hA.2 hN.1 hN.2 h2 (by rw [hen]; exact hnz)).1
      rcases List.mem_cons.1 hu with rfl | hu
      · exact ⟨plus_vec (by omega) _ hwl, by rw [(sm_norm hel hwl heq).1]; exact h3⟩
      · rcases List.mem_cons.1 hu with rfl | hu
        · exact ⟨he, by rw [hen]; exact hnz⟩
        · cases hu
    · intro u hu
      rw [st_less h1 h2] at hu
      rcases List.mem_cons.1 hu with rfl | hu
      · exact ⟨plus_vec (by omega) _ hwl, h2⟩
      · cases hu
theorem Cols.dc {p : Int} {S : List Int} {C : List (List Int)} (hs : isSp p S = true) (hd : discN p S ≠ 0) (h : Cols p S C) : ∀ k, k ≤ S.length → Cols p S (dcC p S C k)
  | 0, _ => h
  | k + 1, hk => by
    have h1 := Cols.dc hs hd h k (by omega)
    exact Cols.refA (isSp_iff.1 hs).prime _ _ h1 fun u hu => (st_ok hs hd (by omega) (h1.vec k (by omega)) (h1.nrm k (by omega)) u hu).2
theorem dcL_ok {p : Int} {S : List Int} {C : List (List Int)} (hs : isSp p S = true) (hd : discN p S ≠ 0) (h : Cols p S C) : ∀ k, k ≤ S.length → (∀ u, u ∈ dcL p S C k → isVec p S.length u = true ∧ pairN p S u u ≠ 0) ∧ (dcL p S C k).length ≤ 2 * k
  | 0, _ => ⟨fun u hu => (List.not_mem_nil hu).elim, Nat.le_refl _⟩
  | k + 1, hk => by
    obtain ⟨h2, h3⟩ := dcL_ok hs hd h k (by omega)
    have h1 := Cols.dc hs hd h k (by omega)
    refine And.intro (fun u hu => ?_) ?_
    · rcases List.mem_append.1 hu with hu | hu
      · exact h2 u hu
      · exact st_ok hs hd (by omega) (h1.vec k (by omega)) (h1.nrm k (by omega)) u hu
    · have := st_len p S (rw' (dcC p S C k) k) k
      show (dcL p S C k ++ _).length ≤ _
      rw [List.length_append]; omega
theorem tr_at {C : List (List Int)} {n i j : Nat} (h0 : (rw' C 0).length = n) (hi : i < n) (hj : j < C.length) : at' (trM C) i j = at' C j i := by
  unfold trM; rw [mk_at _ (by omega) hj]
theorem tr_ln {C : List (List Int)} : (trM C).length = (rw' C 0).length := mk_len _ _ _
theorem tr_rw {C : List (List Int)} {i : Nat} (hi : i < (rw' C 0).length) : rw' (trM C) i = mkR C.length fun j => at' C j i := mk_row _ hi
theorem tr_tr {C : List (List Int)} (h0 : 0 < C.length) (hn : 0 < (rw' C 0).length) (h : ∀ i, i < C.length → (rw' C i).length = (rw' C 0).length) : trM (trM C) = C := by
  have e0 : (rw' (trM C) 0).length = C.length := by rw [tr_rw hn, mkR_len]
  refine mat_ext (by rw [tr_ln, e0]) fun i hi => ?_
  rw [tr_ln, e0] at hi
  rw [tr_rw (by rw [e0]; exact hi), tr_ln]
  refine row_ext (by rw [mkR_len, h i hi]) fun j hj => ?_
  rw [mkR_len] at hj
  rw [mkR_at _ hj, tr_at rfl hj hi]
  rfl
theorem Cols.tr {p : Int} {S : List Int} {C : List (List Int)} (h : Cols p S C) (hn : 0 < S.length) : (trM C).length = S.length ∧ (rw' (trM C) 0).length = S.length ∧ trM (trM C) = C := by
  have e : (rw' C 0).length = S.length := (isVec_iff.1 (h.vec 0 hn)).len
  refine ⟨by rw [tr_ln, e], by rw [tr_rw (by rw [e]; exact hn), mkR_len, h.len], tr_tr (by rw [h.len]; exact hn) (by rw [e]; exact hn) fun i hi => ?_⟩
  rw [(isVec_iff.1 (h.vec i (by rw [← h.len]; exact hi))).len, e]
/-- The decomposition of a matrix. -/
def decL (p : Int) (S : List Int) (m : List (List Int)) : List (List Int) := dcL p S (trM m) S.length
def orB (p : Int) (S : List Int) (m : List (List Int)) : Bool := ismB p p S S m
theorem orB_all {p : Int} {S : List Int} {m : List (List Int)} (h : orB p S m = true) : m.length = S.length ∧ isM p m = true ∧ (rw' m 0).length = S.length ∧ detP p m ≠ 0 ∧ colB p S S m = true := by
  unfold orB ismB at h
  simp only [Bool.and_eq_true, decide_eq_true_eq] at h
  obtain ⟨⟨h1, h2⟩, h3⟩ := h
  obtain ⟨_, _, a, b, c⟩ := ismF_iff.1 h1
  exact ⟨a, b, c, h2, h3⟩
theorem or_cols {p : Int} {S : List Int} {m : List (List Int)} (hs : isSp p S = true) (h : orB p S m = true) : Cols p S (trM m) := by
  obtain ⟨h1, h2, h3, _, h5⟩ := orB_all h
  have hL := isL_iff.1 h2
  refine ⟨by rw [tr_ln, h3], fun i hi => ?_, fun i hi => ?_⟩
  · rw [tr_rw (by rw [h3]; exact hi), h1]
    refine vec_of (mkR_len _ _) fun j hj => ?_
    rw [mkR_len] at hj
    rw [mkR_at _ hj]
    exact hL.at (by omega) (by omega)
  · rw [colB_iff.1 h5 i hi i (Nat.le_refl _)]; unfold wantF; rw [if_pos rfl]
theorem dec_ok {p : Int} {S : List Int} {m : List (List Int)} (hs : isSp p S = true) (hd : discN p S ≠ 0) (h : orB p S m = true) : (∀ u, u ∈ decL p S m → isVec p S.length u = true ∧ pairN p S u u ≠ 0) ∧ (decL p S m).length ≤ 12 := by
  have := dcL_ok hs hd (or_cols hs h) S.length (Nat.le_refl _)
  have h6 := (isSp_iff.1 hs).hi
  exact ⟨this.1, by have := this.2; unfold decL; omega⟩

end Go.Proofs.YthbkfpkeofpocaaGreat

namespace Go.Proofs.YthbkfpkeofpocaaGreat
set_option linter.unusedVariables false

theorem dt_addall {n l r : Nat} (hl : l < n) (hr : r ≤ n) (f : Nat → Nat → Int) (x : Nat → Int) : dt n (fun i => if i < r ∧ i ≠ l then fun j => f i j + x i * f l j else f i) = dt n f := by
  induction r with
  | zero => exact dt_congr (fun i _ j _ => by rw [if_neg (by omega)])
  | succ r ih =>
    rw [← ih (by omega)]
    by_cases e : r = l
    · apply dt_congr
      intro i _ j _
      by_cases h : i < r ∧ i ≠ l
      · rw [if_pos (by omega)]
        show f i j + x i * f l j = (if i < r ∧ i ≠ l then fun j => f i j + x i * f l j else f i) j
        rw [if_pos h]
      · rw [if_neg (by omega)]
        show f i j = (if i < r ∧ i ≠ l then fun j => f i j + x i * f l j else f i) j
        rw [if_neg h]
    · have h := dt_addrow (k := r) (l := l) (by omega) hl e (fun i => if i < r ∧ i ≠ l then fun j => f i j + x i * f l j else f i) (x r)
      rw [← h]
      apply dt_congr
      intro i _ j _
      unfold upd
      by_cases e' : i = r
      · subst e'; rw [if_pos (by omega), if_pos rfl, if_neg (by omega), if_neg (by omega)]
      · rw [if_neg e']
        by_cases h' : i < r ∧ i ≠ l
        · rw [if_pos (by omega)]
          show f i j + x i * f l j = (if i < r ∧ i ≠ l then fun j => f i j + x i * f l j else f i) j
          rw [if_pos h']
        · rw [if_neg (by omega)]
          show f i j = (if i < r ∧ i ≠ l then fun j => f i j + x i * f l j else f i) j
          rw [if_neg h']

/-- Where the model's determinant stands: k columns are done. -/
structure DetAt (p : Int) (n : Nat) (A m : List (List Int)) (k : Nat) (out : Int) : Prop where
  ml : m.length = n
  kn : k ≤ n
  len : ∀ i, i < n → (rw' m i).length = n
  rng : ∀ i, i < n → ∀ j, j < n → 0 ≤ at' m i j ∧ at' m i j < p
  ob : 0 ≤ out ∧ out < p
  val : detP p A = out * dt (n - k) (fun r c => at' m (k + r) (k + c)) % p
theorem DetAt.start {p : Int} {A : List (List Int)} (hp : prm p = true) (hl : ∀ i, i < A.length → (rw' A i).length = A.length) (hr : ∀ i, i < A.length → ∀ j, j < A.length → 0 ≤ at' A i j ∧ at' A i j < p) : DetAt p A.length A A 0 1 where
  ml := rfl
  kn := Nat.zero_le _
  len := hl
  rng := hr
  ob := by have := prm_bd hp; omega
  val := by
    rw [Int.one_mul]
    unfold detP
    congr 1
    exact dt_congr (fun i _ j _ => by rw [Nat.zero_add, Nat.zero_add])
theorem DetAt.done {p : Int} {n : Nat} {A m : List (List Int)} {out : Int} (h : DetAt p n A m n out) : detP p A = out := by
  rw [h.val, Nat.sub_self]
  show out * 1 % p = out
  rw [Int.mul_one]
  exact Int.emod_eq_of_lt h.ob.1 h.ob.2
theorem DetAt.none {p : Int} {n : Nat} {A m : List (List Int)} {k : Nat} {out : Int} (h : DetAt p n A m k out) (hk : k < n) (hz : ∀ i, k ≤ i → i < n → at' m i k = 0) : detP p A = 0 := by
  obtain ⟨q, hq⟩ : ∃ q, n - k = q + 1 := ⟨n - k - 1, by omega⟩
  rw [h.val, hq, dt_col0 (fun i hi => hz (k + i) (by omega) (by omega)), Int.mul_zero]
  rfl
theorem elim_zero {p a v x : Int} (h : v * x % p = 1 % p) : (a + (p - a) * v % p * x) % p = 0 := by
  have e : (p - a) * v % p * x % p = (p - a) % p := by
    rw [emod_mul, Int.mul_assoc, ← mul_emod_r, h, mul_emod_r, Int.mul_one]
  rw [Int.add_emod, e, ← Int.add_emod]
  have : a + (p - a) = p := by omega
  rw [this, Int.emod_self]
theorem DetAt.step {p : Int} {n : Nat} {A m m2 : List (List Int)} {k : Nat} {out : Int} (hp : prm p = true) (h : DetAt p n A m k out) (hk : k < n) (hx : 1 ≤ at' m k k) (hn2 : m2.length = n) (hl2 : ∀ i, i < n → (rw' m2 i).length = n)
    (h2 : ∀ i, i < n → ∀ j, j < n → at' m2 i j = if k < i then (at' m i j + (p - at' m i k) * inv p (at' m k k) % p * at' m k j) % p else at' m i j) : DetAt p n A m2 (k + 1) (out * at' m k k % p) := by
  have hxr := h.rng k hk k hk
  have hinv := inv_mul hp hx hxr.2
  have hpb := prm_bd hp
  obtain ⟨q, hq⟩ : ∃ q, n - k = q + 1 := ⟨n - k - 1, by omega⟩
  have hq1 : n - (k + 1) = q := by omega
  refine ⟨hn2, hk, hl2, fun i hi j hj => ?_, mod_bd hp _, ?_⟩
  · rw [h2 i hi j hj]
    split
    · exact mod_bd hp _
    · exact h.rng i hi j hj
  · rw [h.val, hq, hq1]
    have e1 := dt_addall (n := q + 1) (l := 0) (r := q + 1) (by omega) (Nat.le_refl _) (fun r c => at' m (k + r) (k + c)) (fun r => (p - at' m (k + r) k) * inv p (at' m k k) % p)
    have e2 : dt (q + 1) (fun r c => at' m (k + r) (k + c)) % p = dt (q + 1) (fun r c => at' m2 (k + r) (k + c)) % p := by
      rw [← e1]
      apply dt_mod
      intro i hi j hj
      rw [h2 (k + i) (by omega) (k + j) (by omega)]
      by_cases e : i = 0
      · subst e
        rw [if_neg (by omega), if_neg (by omega)]
      · rw [if_pos (by omega), if_pos (by omega), Int.emod_emod, Nat.add_zero]
    have e3 : dt (q + 1) (fun r c => at' m2 (k + r) (k + c)) = at' m k k * dt q (fun r c => at' m2 (k + 1 + r) (k + 1 + c)) := by
      rw [dt_col (fun i h1 hi => by
        show at' m2 (k + i) (k + 0) = 0
        rw [h2 _ (by omega) _ (by omega), if_pos (by omega)]
        exact elim_zero (by rw [Nat.add_zero, Int.mul_comm, hinv, Int.emod_eq_of_lt (by omega) (by omega)]))]
      have e4 : at' m2 (k + 0) (k + 0) = at' m k k := by rw [h2 _ (by omega) _ (by omega), if_neg (by omega)]; rfl
      rw [e4]
      congr 1
      apply dt_congr
      intro i _ j _
      have a1 : k + (i + 1) = k + 1 + i := by omega
      have a2 : k + (j + 1) = k + 1 + j := by omega
      show at' m2 (k + (i + 1)) (k + (j + 1)) = _
      rw [a1, a2]
    rw [Int.mul_emod, e2, ← Int.mul_emod, e3, emod_mul, Int.mul_assoc]

/-- The rows below row k, up to i, are reduced. -/
def rowD (p : Int) (m : List (List Int)) (k i j : Nat) : List Int := if k < j ∧ j < i then plusR p (rw' m j) (rw' m k) ((p - at' m j k) * inv p (at' m k k) % p) else rw' m j
def rowsD (p : Int) (m : List (List Int)) (k i : Nat) : List (List Int) := (List.range m.length).map (rowD p m k i)
theorem rowsD_len (p : Int) (m : List (List Int)) (k i : Nat) : (rowsD p m k i).length = m.length := by simp [rowsD]
theorem rowsD_row {p : Int} {m : List (List Int)} {k i j : Nat} (h : j < m.length) : rw' (rowsD p m k i) j = rowD p m k i j := by simp [rowsD, rw', List.getD, h]
theorem DetAt.rows {p : Int} {n : Nat} {A m : List (List Int)} {k : Nat} {out : Int} (hp : prm p = true) (h : DetAt p n A m k out) (hk : k < n) (hx : 1 ≤ at' m k k) : DetAt p n A (rowsD p m k n) (k + 1) (out * at' m k k % p) := by
  have hn := h.ml
  have hrow : ∀ i, i < n → rw' (rowsD p m k n) i = rowD p m k n i := fun i hi => rowsD_row (by omega)
  refine h.step hp hk hx (by rw [rowsD_len, hn]) (fun i hi => ?_) (fun i hi j hj => ?_)
  · rw [hrow i hi]
    unfold rowD
    split
    · unfold plusR; rw [mkR_len]; exact h.len i hi
    · exact h.len i hi
  · show (rw' (rowsD p m k n) i).getD j 0 = _
    rw [hrow i hi]
    unfold rowD
    by_cases e : k < i
    · rw [if_pos ⟨e, hi⟩, if_pos e]
      unfold plusR
      rw [mkR_at _ (by rw [h.len i hi]; exact hj)]
      rfl
    · rw [if_neg (by omega), if_neg e]; rfl

end Go.Proofs.YthbkfpkeofpocaaGreat

namespace Go.Proofs.YthbkfpkeofpocaaGreat
open Go.RowKit
set_option linter.unusedVariables false

/-- Both spaces in their boxes. -/
def TB (g : Nat) (pS : Int) (aS : Option Addr) (nS cS : Nat) (pT : Int) (aT : Option Addr) (nT cT : Nat) (W : World) : Prop :=
  W.cell? ⟨g, 0, none⟩ = some (.int .i64 pS) ∧ W.cell? ⟨g, 1, none⟩ = some (.slice aS nS cS) ∧ W.cell? ⟨g + 1, 0, none⟩ = some (.int .i64 pT) ∧ W.cell? ⟨g + 1, 1, none⟩ = some (.slice aT nT cT)
theorem TB.below {g nS cS nT cT B : Nat} {pS pT : Int} {aS aT : Option Addr} {w w' : World} (h : TB g pS aS nS cS pT aT nT cT w) (b : Below B w w') (l : g + 1 < B) : TB g pS aS nS cS pT aT nT cT w' :=
  ⟨(b.cell (p := ⟨g, 0, none⟩) (show g < B by omega)).trans h.1, (b.cell (p := ⟨g, 1, none⟩) (show g < B by omega)).trans h.2.1, (b.cell (p := ⟨g + 1, 0, none⟩) l).trans h.2.2.1, (b.cell (p := ⟨g + 1, 1, none⟩) l).trans h.2.2.2⟩
theorem TB.new (w : World) (pS pT : Int) (aS aT : Option Addr) (nS cS nT cT : Nat) (Ty : TypeId) : TB w.heap.size pS aS nS cS pT aT nT cT ((w.alloc (.cells #[.int .i64 pS, .slice aS nS cS] Ty)).alloc (.cells #[.int .i64 pT, .slice aT nT cT] Ty)) := by
  have h1 : (w.alloc (.cells #[.int .i64 pS, .slice aS nS cS] Ty)).heap.size = w.heap.size + 1 := by simp
  have b := below_alloc (w.alloc (.cells #[.int .i64 pS, .slice aS nS cS] Ty)) (.cells #[.int .i64 pT, .slice aT nT cT] Ty)
  refine ⟨(b.cell (p := ⟨w.heap.size, 0, none⟩) (by rw [h1]; exact Nat.lt_succ_self _)).trans (nw0 w _ _ _), (b.cell (p := ⟨w.heap.size, 1, none⟩) (by rw [h1]; exact Nat.lt_succ_self _)).trans (nw1 w _ _ _), ?_, ?_⟩
  · have := nw0 (w.alloc (.cells #[.int .i64 pS, .slice aS nS cS] Ty)) (.int .i64 pT) (.slice aT nT cT) Ty
    rw [h1] at this; exact this
  · have := nw1 (w.alloc (.cells #[.int .i64 pS, .slice aS nS cS] Ty)) (.int .i64 pT) (.slice aT nT cT) Ty
    rw [h1] at this; exact this
theorem tr_len7 (m : List (List Int)) : (trM m).length = (rw' m 0).length := mk_len _ _ _
theorem tr_vec {p : Int} {n : Nat} {m : List (List Int)} (hm : Lst 1 p m) (hl : m.length = n) (hc : (rw' m 0).length = n) : ∀ i, i < n → isVec p n (rw' (trM m) i) = true := fun i hi => by
  have e : rw' (trM m) i = mkR m.length fun j => at' m j i := mk_row _ (by rw [hc]; exact hi)
  refine isVec_iff.2 ⟨by rw [e, mkR_len, hl], ?_⟩
  rw [e, List.all_eq_true]
  intro y hy
  obtain ⟨j, hj, rfl⟩ := List.getElem_of_mem hy
  rw [← getD_at hj]
  rw [mkR_len] at hj
  rw [mkR_at _ hj]
  exact inr_iff.2 (hm.at hj (by rw [hc]; exact hi))
theorem ism_no {p q : Int} {S T : List Int} {m : List (List Int)} (h : ismF p q S T m = false) : ismB p q S T m = false := by
  unfold ismB; rw [h]; rfl

end Go.Proofs.YthbkfpkeofpocaaGreat

namespace Go.Proofs.YthbkfpkeofpocaaGreat
open Go.RowKit
set_option linter.unusedVariables false

set_option maxRecDepth 100000 in
set_option maxHeartbeats 1600000 in
theorem equalF_any (a b : Option Addr) (A B : List (List Int)) (ca cb lo tp lo' tp' : Nat) (w : World) (ha : MatIn lo tp w a A) (ta : tp ≤ w.heap.size) (hb : MatIn lo' tp' w b B) (tb : tp' ≤ w.heap.size) (sa : A.length ≤ 1024) (sr : ∀ i, i < A.length → (rw' A i).length ≤ 1048576) :
    Calls Tryz.prog 76 #[.slice a A.length ca, .slice b B.length cb, .func (.func 78) #[] #[]] w fun e w' => e = .returned (.bool (decide (A = B))) ∧ Quiet w w' := by
  have HA := Lib.hid ha
  have HB := Lib.hid hb
  have HSR := Lib.hid sr
  clear ha hb sr
  by_cases hl : A.length = B.length
  · have HL := Lib.hid hl
    obtain ⟨n, hn⟩ : ∃ n, n = A.length := ⟨_, rfl⟩
    have HN := Lib.hid hn
    rw [← hl]
    rw [← hn] at sa ⊢
    clear hl hn
    go_enter Tryz.func76, Tryz.ntmps76
    go_wp2
    go_loopw [17] (fun t wr => ∃ i : Nat, i ≤ n ∧ t = .int .i64 i ∧ (∀ j, j < i → rw' A j = rw' B j) ∧ Quiet w wr) (fun t _ => n - (intOf t).toNat)
    case atStart => exact ⟨0, Nat.zero_le _, rfl, fun j hj => absurd hj (Nat.not_lt_zero _), Quiet.refl _⟩
    case round =>
      obtain ⟨i, hi, rfl, hall, hq⟩ := hrel
      have HQ := Lib.hid hq
      have HALL := Lib.hid hall
      by_cases hlt : i < n
      · have bq := hq.below w.heap.size
        obtain ⟨b1, o1, r1, k1, ha1, _, _, hc1, hr1⟩ := (HA.out.below bq ta).row (show i < A.length by rw [← HN.out]; exact hlt)
        obtain ⟨b2, o2, r2, k2, ha2, _, _, hc2, hr2⟩ := (HB.out.below bq tb).row (show i < B.length by rw [← HL.out, ← HN.out]; exact hlt)
        subst ha1
        subst ha2
        have hi1 : (i : Int) < (n : Int) := by omega
        have HR1 := Lib.hid hr1
        have HR2 := Lib.hid hr2
        have hs1 : (rw' A i).length ≤ 1048576 := HSR.out i (by rw [← HN.out]; exact hlt)
        clear hr1 hr2 hall hq bq
        by_cases hxy : rw' A i = rw' B i
        · have HD : Hid (decide (rw' A i = rw' B i) = true) := decide_eq_true hxy
          have HXY := Lib.hid hxy
          clear hxy
          go_wp2_with (go_at_call 78; ((with_reducible refine (equal_any r1 r2 (rw' A i) (rw' B i) k1 k2 lo tp lo' tp' wr HR1.out HR2.out hs1).mono ?_); rintro e w1 ⟨rfl, q_⟩; rw [HD.out]; have HQ1 := Lib.hid (HQ.out.trans q_); clear q_))
          go_roundw
          case rel => exact ⟨i + 1, by omega, by go_num, fun j hj => by
            by_cases e : j = i
            · subst e; exact HXY.out
            · exact HALL.out j (by omega), HQ1.out⟩
          case measure => (simp [intOf] <;> omega)
        · have HD : Hid (decide (rw' A i = rw' B i) = false) := decide_eq_false hxy
          have HR : Hid (decide (A = B) = false) := decide_eq_false fun e => hxy (by rw [e])
          clear hxy
          go_wp2_with (go_at_call 78; ((with_reducible refine (equal_any r1 r2 (rw' A i) (rw' B i) k1 k2 lo tp lo' tp' wr HR1.out HR2.out hs1).mono ?_); rintro e w1 ⟨rfl, q_⟩; rw [HD.out]; have HQ1 := Lib.hid (HQ.out.trans q_); clear q_))
          go_ret
          exact ⟨by rw [HR.out]; rfl, HQ1.out⟩
      · have hin : i = n := by omega
        subst hin
        have HR : Hid (decide (A = B) = true) := decide_eq_true (mat_ext HL.out (fun j hj => hall j (by rw [HN.out]; exact hj)))
        clear hall hq
        go_wp2
        go_ret
        exact ⟨by rw [HR.out]; rfl, HQ.out⟩
  · have HR : Hid (decide (A = B) = false) := decide_eq_false fun e => hl (by rw [e])
    obtain ⟨n, hn⟩ : ∃ n, n = A.length := ⟨_, rfl⟩
    obtain ⟨m, hm⟩ : ∃ m, m = B.length := ⟨_, rfl⟩
    rw [← hn, ← hm] at hl ⊢
    have hl2 : ((n : Int) != (m : Int)) = true := by simp; omega
    go_enter Tryz.func76, Tryz.ntmps76
    go_wp2
    go_ret
    exact ⟨by rw [HR.out]; rfl, Quiet.refl _⟩

end Go.Proofs.YthbkfpkeofpocaaGreat

namespace Go.Proofs.YthbkfpkeofpocaaGreat
open Go.RowKit
set_option linter.unusedVariables false

theorem impl_IsMatrix (p : Int) (a : Option Addr) (m : List (List Int)) (cap lo tp : Nat) (w : World) (hm : MatIn lo tp w a m) (ht : tp ≤ w.heap.size) (hs : m.length + tot m m.length ≤ 1048576) :
    Calls Tryz.prog 75 #[.int .i64 p, .slice a m.length cap] w (Ret1 (isM p m) w) := by
  have HM := Lib.hid hm
  have HS := Lib.hid hs
  clear hm hs
  go_enter Tryz.func75, Tryz.ntmps75
  go_wp2_with (go_at_call 90; (with_reducible refine (isRows_one _ _ _ _ lo tp _ HM.out HS.out).mono ?_); rintro e w1 ⟨rfl, rfl⟩)
  go_ret
  exact ⟨rfl, Below.refl _ _⟩

end Go.Proofs.YthbkfpkeofpocaaGreat
