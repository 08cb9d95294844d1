/-
  Versors: spinor norms, parities, what is around vectors. No Go in sight.
  No conditions.
  Two lists compared: contracts of the program and of the model.
  Conditions: the lists are nil or rows of known cells, of at most 1048576 numbers.
  IsEven: contracts of the program and of the model.
  Conditions: the lists are nil or rows of known cells, of at most 1048576 numbers.
  Pseudoscalars, their squares, scalar products: contracts of the program and of the model.
  Conditions: the lists are nil or rows of known cells, of at most 1048576 numbers.
-/
import Derived.Test.YthbkfpkeofpocaaGreatQv13
import Derived.Test.YthbkfpkeofpocaaGreatQv15
import Derived.Test.YthbkfpkeofpocaaGreatQv3
import Derived.BigQuiet
import Derived.ChangeKeysEq
import Derived.Laws.StructEq
import Derived.Deep.RegionHeld3
import Derived.Deep.DeepCutAuto
namespace Go.Proofs.YthbkfpkeofpocaaGreat
open Go.RowKit
set_option linter.unusedVariables false

/-- The involute. -/
def ivM (p : Int) (x : List Int) : List Int := mkR x.length (sgF p c_involution x)
theorem sg_mv {p : Int} {S x : List Int} (c : Nat → Nat) (hs : isSp p S = true) (h : isMv p S x = true) : isMv p S (mkR x.length (sgF p c x)) = true :=
  isMv_of (by rw [mkR_len]; exact Mv.len h) fun j hj => by
    have hp := prm_bd (isSp_iff.1 hs).prime
    rw [mkR_len] at hj
    rw [mkR_at _ hj]
    unfold sgF
    have hx := Mv.num h j hj
    split
    · exact ⟨Int.emod_nonneg _ (by omega), Int.emod_lt_of_pos _ (by omega)⟩
    · exact hx
theorem vec_mv {p : Int} {S v : List Int} (hs : isSp p S = true) (hv : isVec p S.length v = true) : isMv p S (vecM S v) = true := vec_mv' hs hv
/-- The product with the reverse, and the spinor norm. -/
def nrM (p : Int) (S x : List Int) : List Int := prodM p S x (revM p x)
def nrF (p : Int) (S x : List Int) : Int := prodF p S x (revM p x) 0
theorem nrF_bd {p : Int} {S : List Int} (hs : isSp p S = true) (x : List Int) : 0 ≤ nrF p S x ∧ nrF p S x < p := prodF_bd (by have := prm_bd (isSp_iff.1 hs).prime; omega) _ _ _ _
theorem nrM_zero (p : Int) (S x : List Int) : (nrM p S x).getD 0 0 = nrF p S x := prodM_at _ _ _ _ (bl_pos S)
theorem nrM_mv {p : Int} {S : List Int} (hs : isSp p S = true) (x : List Int) : isMv p S (nrM p S x) = true := prod_mv hs _ _
/-- What is around a vector. -/
def arM (p : Int) (S x v : List Int) : List Int := prodM p S (prodM p S (ivM p x) (vecM S v)) (revM p x)
theorem arM_len (p : Int) (S x v : List Int) : (arM p S x v).length = bl S := prodM_len _ _ _ _
theorem arM_mv {p : Int} {S : List Int} (hs : isSp p S = true) (x v : List Int) : isMv p S (arM p S x v) = true := prod_mv hs _ _
/-- The numbers of the basis vectors. -/
def vnF (z : List Int) (i : Nat) : Int := z.getD (2 ^ i) 0
def vnM (n : Nat) (z : List Int) : List Int := mkR n (vnF z)
theorem vnM_len (n : Nat) (z : List Int) : (vnM n z).length = n := mkR_len _ _
def parB (x : List Int) (r : Nat) : Bool := (List.range x.length).all fun j => decide (gr j % 2 = r) || decide (x.getD j 0 = 0)
theorem parB_iff {x : List Int} {r : Nat} : parB x r = true ↔ ∀ j, j < x.length → x.getD j 0 ≠ 0 → gr j % 2 = r := by
  unfold parB
  simp only [List.all_eq_true, List.mem_range]
  constructor
  · intro h j hj hx
    have h2 := h j hj
    rw [Bool.or_eq_true, decide_eq_true_eq, decide_eq_true_eq] at h2
    exact h2.resolve_right hx
  · intro h j hj
    rw [Bool.or_eq_true, decide_eq_true_eq, decide_eq_true_eq]
    by_cases e : x.getD j 0 = 0
    · exact .inr e
    · exact .inl (h j hj e)
theorem parB_no {x : List Int} {r j : Nat} (hj : j < x.length) (hx : x.getD j 0 ≠ 0) (h : gr j % 2 ≠ r) : parB x r = false := by
  cases e : parB x r with
  | false => rfl
  | true => exact absurd (parB_iff.1 e j hj hx) h
/-- All numbers but the first are 0. -/
def scB (z : List Int) : Bool := (List.range z.length).all fun j => decide (j = 0) || decide (z.getD j 0 = 0)
theorem scB_iff {z : List Int} : scB z = true ↔ ∀ j, j < z.length → 0 < j → z.getD j 0 = 0 := by
  unfold scB
  simp only [List.all_eq_true, List.mem_range]
  constructor
  · intro h j hj h0
    have h2 := h j hj
    rw [Bool.or_eq_true, decide_eq_true_eq, decide_eq_true_eq] at h2
    exact h2.resolve_left (by omega)
  · intro h j hj
    rw [Bool.or_eq_true, decide_eq_true_eq, decide_eq_true_eq]
    by_cases e : j = 0
    · exact .inl e
    · exact .inr (h j hj (by omega))
theorem drop_at (z : List Int) (j : Nat) : (z.drop 1).getD j 0 = z.getD (j + 1) 0 := by simp [List.getD]
theorem scB_drop {z : List Int} : allZ (z.drop 1) = scB z := by
  rw [Bool.eq_iff_iff, allZ_iff, scB_iff]
  constructor
  · intro h j hj h0
    have := h (j - 1) (by rw [List.length_drop]; omega)
    rw [drop_at, show j - 1 + 1 = j by omega] at this
    exact this
  · intro h j hj
    rw [List.length_drop] at hj
    rw [drop_at]
    exact h (j + 1) (by omega) (by omega)
/-- A basis vector. -/
def eiR (n i : Nat) : List Int := mkR n fun j => if i = j then 1 else 0
theorem ei_vec {p : Int} (hp : 1 < p) (n i : Nat) : isVec p n (eiR n i) = true := by
  refine isVec_iff.2 ⟨mkR_len _ _, ?_⟩
  rw [List.all_eq_true]
  intro y hy
  obtain ⟨j, hj, rfl⟩ := List.getElem_of_mem hy
  rw [← getD_at hj]
  have hj' : j < n := by unfold eiR at hj; rw [mkR_len] at hj; exact hj
  unfold eiR
  rw [mkR_at _ hj']
  exact inr_iff.2 (by split <;> omega)
theorem pow_one : ∀ j, j < 64 → (gr j = 1 ↔ ∃ i, i < 6 ∧ j = 2 ^ i) := by decide +kernel
theorem pow_ne {i k : Nat} (h : i ≠ k) : 2 ^ i ≠ 2 ^ k := fun e => by
  rcases Nat.lt_or_gt_of_ne h with h1 | h1
  · have := Nat.pow_lt_pow_right (show 1 < 2 by decide) h1; omega
  · have := Nat.pow_lt_pow_right (show 1 < 2 by decide) h1; omega
theorem vecF_at {v : List Int} : ∀ k i, i < k → vecF v k (2 ^ i) = v.getD i 0
  | 0, i, h => by omega
  | k + 1, i, h => by
    show (if 2 ^ i = 2 ^ k then v.getD k 0 else vecF v k (2 ^ i)) = _
    by_cases e : i = k
    · subst e; rw [if_pos rfl]
    · rw [if_neg (pow_ne e)]
      exact vecF_at k i (by omega)
theorem vecF_off {v : List Int} {j : Nat} : ∀ k, (∀ i, i < k → j ≠ 2 ^ i) → vecF v k j = 0
  | 0, _ => rfl
  | k + 1, h => by
    show (if j = 2 ^ k then v.getD k 0 else vecF v k j) = 0
    rw [if_neg (h k (by omega))]
    exact vecF_off k fun i hi => h i (by omega)
/-- The part of grade 1 is the vector of the numbers of the basis vectors. -/
theorem vec_part {S z : List Int} (h6 : S.length ≤ 6) (hl : z.length = bl S) : vecM S (vnM S.length z) = partM z 1 := by
  unfold vecM partM
  rw [hl, vnM_len]
  refine mkR_congr fun j hj => ?_
  have hj64 : j < 64 := Nat.lt_of_lt_of_le hj (bl_le h6)
  by_cases h : gr j = 1
  · obtain ⟨i, _, rfl⟩ := (pow_one j hj64).1 h
    have hi : i < S.length := by
      refine Classical.byContradiction fun hk => ?_
      have : 2 ^ S.length ≤ 2 ^ i := Nat.pow_le_pow_right (by decide) (by omega)
      have : 2 ^ i < 2 ^ S.length := hj
      omega
    rw [vecF_at _ _ hi, if_pos (by rw [h]; rfl)]
    exact mkR_at _ hi
  · rw [if_neg (fun e => h (by omega))]
    exact vecF_off _ fun i hi e => h ((pow_one j hj64).2 ⟨i, by omega, e⟩)
def ldB (p : Int) (S x : List Int) (i : Nat) : Bool := decide (arM p S x (eiR S.length i) = partM (arM p S x (eiR S.length i)) 1)
/-- What a versor is. -/
def isVr (p : Int) (S x : List Int) : Bool := decide (nrF p S x ≠ 0) && scB (nrM p S x) && (parB x 0 || parB x 1) && (List.range S.length).all (ldB p S x)
theorem isVr_iff {p : Int} {S x : List Int} : isVr p S x = true ↔ nrF p S x ≠ 0 ∧ scB (nrM p S x) = true ∧ (parB x 0 = true ∨ parB x 1 = true) ∧ ∀ i, i < S.length → ldB p S x i = true := by
  unfold isVr
  simp only [Bool.and_eq_true, Bool.or_eq_true, decide_eq_true_eq, List.all_eq_true, List.mem_range, and_assoc]
theorem isVr_no {p : Int} {S x : List Int} (h : ¬ (nrF p S x ≠ 0 ∧ scB (nrM p S x) = true ∧ (parB x 0 = true ∨ parB x 1 = true) ∧ ∀ i, i < S.length → ldB p S x i = true)) : isVr p S x = false := by
  cases e : isVr p S x with
  | false => rfl
  | true => exact absurd (isVr_iff.1 e) h
/-- The way the tests go. -/
theorem isVr_cases (p : Int) (S x : List Int) : (nrF p S x = 0 ∧ isVr p S x = false) ∨ (nrF p S x ≠ 0 ∧ scB (nrM p S x) = false ∧ isVr p S x = false) ∨ (nrF p S x ≠ 0 ∧ scB (nrM p S x) = true ∧ (parB x 0 || parB x 1) = false ∧ isVr p S x = false) ∨ (nrF p S x ≠ 0 ∧ scB (nrM p S x) = true ∧ (parB x 0 || parB x 1) = true ∧ isVr p S x = (List.range S.length).all (ldB p S x)) := by
  by_cases h0 : nrF p S x = 0
  · exact .inl ⟨h0, isVr_no fun h => h.1 h0⟩
  · right
    cases h1 : scB (nrM p S x) with
    | false => exact .inl ⟨h0, rfl, isVr_no fun h => by rw [h1] at h; cases h.2.1⟩
    | true =>
      right
      cases h2 : (parB x 0 || parB x 1) with
      | false => exact .inl ⟨h0, rfl, rfl, isVr_no fun h => by
          rw [← Bool.or_eq_true, h2] at h; cases h.2.2.1⟩
      | true => exact .inr ⟨h0, rfl, rfl, by unfold isVr; rw [h1, h2, decide_eq_true h0]; rfl⟩
/-- The product with a multiple. -/
theorem gpz_mul (S : List Int) (n : Nat) (x y : Nat → Int) (k : Int) (c : Nat) : gpz S n x (fun j => y j * k) c = gpz S n x y c * k := by
  unfold gpz
  rw [Int.mul_comm, ← sm_mul]
  apply sm_congr
  intro a _
  rw [← Int.mul_assoc, Int.mul_comm]
theorem prod_scl (p : Int) (S a b : List Int) (k : Int) (hb : b.length = bl S) : prodM p S a (sclV p b k) = sclV p (prodM p S a b) k := by
  unfold sclV
  rw [prodM_len]
  refine mkR_congr fun c hc => ?_
  rw [prodM_at p S a b hc]
  show gpz _ _ _ _ c % p = gpz _ _ _ _ c % p * k % p
  rw [em_l, ← gpz_mul]
  exact gpz_mod S S.length hc (fun _ _ => rfl) fun j hj => by
    show (mkR b.length fun j => b.getD j 0 * k % p).getD j 0 % p = _
    rw [mkR_at _ (by rw [hb]; exact hj), Int.emod_emod]
/-- The inverse of a versor. -/
def viM (p : Int) (S x : List Int) : List Int := sclV p (revM p x) (inv p (nrF p S x))
theorem sclV_mv {p k : Int} {S x : List Int} (hs : isSp p S = true) (hx : isMv p S x = true) : isMv p S (sclV p x k) = true :=
  isMv_of (by unfold sclV; rw [mkR_len]; exact Mv.len hx) fun j hj => by
    have hp := prm_bd (isSp_iff.1 hs).prime
    unfold sclV at hj ⊢
    rw [mkR_len] at hj
    rw [mkR_at _ hj]
    exact ⟨Int.emod_nonneg _ (by omega), Int.emod_lt_of_pos _ (by omega)⟩
theorem vi_mv {p : Int} {S x : List Int} (hs : isSp p S = true) (hx : isMv p S x = true) : isMv p S (viM p S x) = true := sclV_mv hs (rev_mv hs hx)
/-- What the sandwich makes of a vector. -/
def sdF (p : Int) (S x v : List Int) (i : Nat) : Int := vnF (arM p S x v) i * inv p (nrF p S x) % p
def sdM (p : Int) (S x v : List Int) : List Int := mkR S.length (sdF p S x v)
/-- The product of the first k vectors. -/
def vrM (p : Int) (S : List Int) (m : List (List Int)) : Nat → List Int
  | 0 => mOne S
  | k + 1 => prodM p S (vrM p S m k) (vecM S (rw' m k))
theorem vr_mv {p : Int} {S : List Int} (hs : isSp p S = true) (m : List (List Int)) : ∀ k, isMv p S (vrM p S m k) = true
  | 0 => one_mv' hs
  | k + 1 => prod_mv hs _ _
theorem vr_len {p : Int} {S : List Int} (m : List (List Int)) : ∀ k, (vrM p S m k).length = bl S
  | 0 => mkR_len _ _
  | k + 1 => prodM_len _ _ _ _
/-- The product of the norms of the first k vectors. -/
def vsF (p : Int) (S : List Int) (m : List (List Int)) : Nat → Int
  | 0 => 1
  | k + 1 => vsF p S m k * pairN p S (rw' m k) (rw' m k) % p
theorem vs_bd {p : Int} (hp : 1 < p) (S : List Int) (m : List (List Int)) : ∀ k, 0 ≤ vsF p S m k ∧ vsF p S m k < p
  | 0 => by show 0 ≤ (1 : Int) ∧ (1 : Int) < p; omega
  | k + 1 => ⟨Int.emod_nonneg _ (by omega), Int.emod_lt_of_pos _ (by omega)⟩
/-- The reflection's factor: the program's and the model's. -/
def rfK (p a n : Int) : Int := (-2 * a) % p * inv p n % p
theorem rf_bd {p : Int} (hp : 0 < p) (a n : Int) : 0 ≤ rfK p a n ∧ rfK p a n < p := ⟨Int.emod_nonneg _ (by omega), Int.emod_lt_of_pos _ hp⟩

end Go.Proofs.YthbkfpkeofpocaaGreat

namespace Go.Proofs.YthbkfpkeofpocaaGreat
open Go.RowKit
set_option linter.unusedVariables false

theorem prm_odd {p : Int} (h : prm p = true) : p % 2 = 1 := by
  unfold prm at h
  simp at h
  omega
end Go.Proofs.YthbkfpkeofpocaaGreat

namespace Go.Proofs.YthbkfpkeofpocaaGreat
open Go.RowKit
set_option linter.unusedVariables false

theorem ss2s {w : World} {b i j : Nat} {u v : Value} {g : Nat} {u0 u1 : Value} (l : g ≠ b) (h0 : w.cell? ⟨g, 0, none⟩ = some u0 ∧ w.cell? ⟨g, 1, none⟩ = some u1) : ((w.setCell ⟨b, i, none⟩ u).setCell ⟨b, j, none⟩ v).cell? ⟨g, 0, none⟩ = some u0 ∧ ((w.setCell ⟨b, i, none⟩ u).setCell ⟨b, j, none⟩ v).cell? ⟨g, 1, none⟩ = some u1 := by
  have e : ∀ (W : World) (i k : Nat) (v : Value), (W.setCell ⟨b, i, none⟩ v).cell? ⟨g, k, none⟩ = W.cell? ⟨g, k, none⟩ := fun W i k v => World.cell?_setCell_other W ⟨b, i, none⟩ ⟨g, k, none⟩ v (fun h => by injection h with h1; omega)
  rw [e, e, e, e]; exact h0

end Go.Proofs.YthbkfpkeofpocaaGreat
