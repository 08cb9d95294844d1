/-
  The model's determinant, step by step. No Go in sight.
  No conditions.
-/
import Derived.Test.YtkibkkdeaojjoabGreatQg15
import Derived.Test.YtkibkkdeaojjoabGreatQg11
namespace Go.Proofs.YtkibkkdeaojjoabGreat
set_option linter.unusedVariables false

theorem dt_addall {n l r : Nat} (hl : l < n) (hr : r ≤ n) (f : Nat → Nat → Int) (x : Nat → Int) : dt n (fun i => if i < r ∧ i ≠ l then fun j => f i j + x i * f l j else f i) = dt n f := by
  induction r with
  | zero => exact dt_congr (fun i _ j _ => by rw [if_neg (by omega)])
  | succ r ih =>
    rw [← ih (by omega)]
    by_cases e : r = l
    · apply dt_congr
      intro i _ j _
      by_cases h : i < r ∧ i ≠ l
      · rw [if_pos (by omega)]
        show f i j + x i * f l j = (if i < r ∧ i ≠ l then fun j => f i j + x i * f l j else f i) j
        rw [if_pos h]
      · rw [if_neg (by omega)]
        show f i j = (if i < r ∧ i ≠ l then fun j => f i j + x i * f l j else f i) j
        rw [if_neg h]
    · have h := dt_addrow (k := r) (l := l) (by omega) hl e (fun i => if i < r ∧ i ≠ l then fun j => f i j + x i * f l j else f i) (x r)
      rw [← h]
      apply dt_congr
      intro i _ j _
      unfold upd
      by_cases e' : i = r
      · subst e'; rw [if_pos (by omega), if_pos rfl, if_neg (by omega), if_neg (by omega)]
      · rw [if_neg e']
        by_cases h' : i < r ∧ i ≠ l
        · rw [if_pos (by omega)]
          show f i j + x i * f l j = (if i < r ∧ i ≠ l then fun j => f i j + x i * f l j else f i) j
          rw [if_pos h']
        · rw [if_neg (by omega)]
          show f i j = (if i < r ∧ i ≠ l then fun j => f i j + x i * f l j else f i) j
          rw [if_neg h']

/-- Where the model's determinant stands: k columns are done. -/
structure DetAt (p : Int) (n : Nat) (A m : List (List Int)) (k : Nat) (out : Int) : Prop where
  ml : m.length = n
  kn : k ≤ n
  len : ∀ i, i < n → (rw' m i).length = n
  rng : ∀ i, i < n → ∀ j, j < n → 0 ≤ at' m i j ∧ at' m i j < p
  ob : 0 ≤ out ∧ out < p
  val : detP p A = out * dt (n - k) (fun r c => at' m (k + r) (k + c)) % p
theorem DetAt.start {p : Int} {A : List (List Int)} (hp : prm p = true) (hl : ∀ i, i < A.length → (rw' A i).length = A.length) (hr : ∀ i, i < A.length → ∀ j, j < A.length → 0 ≤ at' A i j ∧ at' A i j < p) : DetAt p A.length A A 0 1 where
  ml := rfl
  kn := Nat.zero_le _
  len := hl
  rng := hr
  ob := by have := prm_bd hp; omega
  val := by
    rw [Int.one_mul]
    unfold detP
    congr 1
    exact dt_congr (fun i _ j _ => by rw [Nat.zero_add, Nat.zero_add])
theorem DetAt.done {p : Int} {n : Nat} {A m : List (List Int)} {out : Int} (h : DetAt p n A m n out) : detP p A = out := by
  rw [h.val, Nat.sub_self]
  show out * 1 % p = out
  rw [Int.mul_one]
  exact Int.emod_eq_of_lt h.ob.1 h.ob.2
theorem DetAt.none {p : Int} {n : Nat} {A m : List (List Int)} {k : Nat} {out : Int} (h : DetAt p n A m k out) (hk : k < n) (hz : ∀ i, k ≤ i → i < n → at' m i k = 0) : detP p A = 0 := by
  obtain ⟨q, hq⟩ : ∃ q, n - k = q + 1 := ⟨n - k - 1, by omega⟩
  rw [h.val, hq, dt_col0 (fun i hi => hz (k + i) (by omega) (by omega)), Int.mul_zero]
  rfl
def swapL (m : List (List Int)) (k f : Nat) : List (List Int) := (m.set f (rw' m k)).set k (rw' m f)
theorem swapL_len (m : List (List Int)) (k f : Nat) : (swapL m k f).length = m.length := by simp [swapL]
theorem swapL_row {m : List (List Int)} {k f : Nat} (hk : k < m.length) (hf : f < m.length) (i : Nat) : rw' (swapL m k f) i = if i = k then rw' m f else if i = f then rw' m k else rw' m i := by
  unfold swapL
  rw [rw_set _ (by simpa using hk), rw_set _ hf]
theorem DetAt.swap {p : Int} {n : Nat} {A m : List (List Int)} {k f : Nat} {out : Int} (hp : prm p = true) (h : DetAt p n A m k out) (hk : k < f) (hf : f < n) : DetAt p n A (swapL m k f) k (-out % p) := by
  have hn := h.ml
  have hat : ∀ i, at' (swapL m k f) i = if i = k then at' m f else if i = f then at' m k else at' m i := fun i => by
    funext j
    unfold at'
    rw [swapL_row (by omega) (by omega)]
    by_cases e : i = k
    · rw [if_pos e, if_pos e]
    · rw [if_neg e, if_neg e]
      by_cases e' : i = f
      · rw [if_pos e', if_pos e']
      · rw [if_neg e', if_neg e']
  refine ⟨by rw [swapL_len, hn], h.kn, fun i hi => ?_, fun i hi j hj => ?_, mod_bd hp _, ?_⟩
  · rw [swapL_row (by omega) (by omega)]
    split
    · exact h.len f hf
    · split
      · exact h.len k (by omega)
      · exact h.len i hi
  · rw [hat]
    split
    · exact h.rng f hf j hj
    · split
      · exact h.rng k (by omega) j hj
      · exact h.rng i hi j hj
  · have e := dt_swap (n := n - k) (k := 0) (l := f - k) (by omega) (by omega) (fun r c => at' m (k + r) (k + c))
    have e2 : dt (n - k) (fun r c => at' (swapL m k f) (k + r) (k + c)) = - dt (n - k) (fun r c => at' m (k + r) (k + c)) := by
      rw [← e]
      apply dt_congr
      intro i hi j hj
      rw [hat]
      unfold upd
      by_cases e0 : i = 0
      · subst e0
        rw [if_pos (by omega), if_neg (by omega), if_pos rfl]
        have : k + (f - k) = f := by omega
        rw [this]
      · rw [if_neg (by omega)]
        by_cases e1 : i = f - k
        · rw [if_pos (by omega), if_pos e1]; rfl
        · rw [if_neg (by omega), if_neg e1, if_neg e0]
    rw [h.val, e2, emod_mul, Int.neg_mul_neg]
theorem elim_zero {p a v x : Int} (h : v * x % p = 1 % p) : (a + (p - a) * v % p * x) % p = 0 := by
  have e : (p - a) * v % p * x % p = (p - a) % p := by
    rw [emod_mul, Int.mul_assoc, ← mul_emod_r, h, mul_emod_r, Int.mul_one]
  rw [Int.add_emod, e, ← Int.add_emod]
  have : a + (p - a) = p := by omega
  rw [this, Int.emod_self]
theorem DetAt.step {p : Int} {n : Nat} {A m m2 : List (List Int)} {k : Nat} {out : Int} (hp : prm p = true) (h : DetAt p n A m k out) (hk : k < n) (hx : 1 ≤ at' m k k) (hn2 : m2.length = n) (hl2 : ∀ i, i < n → (rw' m2 i).length = n)
    (h2 : ∀ i, i < n → ∀ j, j < n → at' m2 i j = if k < i then (at' m i j + (p - at' m i k) * inv p (at' m k k) % p * at' m k j) % p else at' m i j) : DetAt p n A m2 (k + 1) (out * at' m k k % p) := by
  have hxr := h.rng k hk k hk
  have hinv := inv_mul hp hx hxr.2
  have hpb := prm_bd hp
  obtain ⟨q, hq⟩ : ∃ q, n - k = q + 1 := ⟨n - k - 1, by omega⟩
  have hq1 : n - (k + 1) = q := by omega
  refine ⟨hn2, hk, hl2, fun i hi j hj => ?_, mod_bd hp _, ?_⟩
  · rw [h2 i hi j hj]
    split
    · exact mod_bd hp _
    · exact h.rng i hi j hj
  · rw [h.val, hq, hq1]
    have e1 := dt_addall (n := q + 1) (l := 0) (r := q + 1) (by omega) (Nat.le_refl _) (fun r c => at' m (k + r) (k + c)) (fun r => (p - at' m (k + r) k) * inv p (at' m k k) % p)
    have e2 : dt (q + 1) (fun r c => at' m (k + r) (k + c)) % p = dt (q + 1) (fun r c => at' m2 (k + r) (k + c)) % p := by
      rw [← e1]
      apply dt_mod
      intro i hi j hj
      rw [h2 (k + i) (by omega) (k + j) (by omega)]
      by_cases e : i = 0
      · subst e
        rw [if_neg (by omega), if_neg (by omega)]
      · rw [if_pos (by omega), if_pos (by omega), Int.emod_emod, Nat.add_zero]
    have e3 : dt (q + 1) (fun r c => at' m2 (k + r) (k + c)) = at' m k k * dt q (fun r c => at' m2 (k + 1 + r) (k + 1 + c)) := by
      rw [dt_col (fun i h1 hi => by
        show at' m2 (k + i) (k + 0) = 0
        rw [h2 _ (by omega) _ (by omega), if_pos (by omega)]
        exact elim_zero (by rw [Nat.add_zero, Int.mul_comm, hinv, Int.emod_eq_of_lt (by omega) (by omega)]))]
      have e4 : at' m2 (k + 0) (k + 0) = at' m k k := by rw [h2 _ (by omega) _ (by omega), if_neg (by omega)]; rfl
      rw [e4]
      congr 1
      apply dt_congr
      intro i _ j _
      have a1 : k + (i + 1) = k + 1 + i := by omega
      have a2 : k + (j + 1) = k + 1 + j := by omega
      show at' m2 (k + (i + 1)) (k + (j + 1)) = _
      rw [a1, a2]
    rw [Int.mul_emod, e2, ← Int.mul_emod, e3, emod_mul, Int.mul_assoc]

/-- The rows below row k, up to i, are reduced. -/
def rowD (p : Int) (m : List (List Int)) (k i j : Nat) : List Int := if k < j ∧ j < i then plusR p (rw' m j) (rw' m k) ((p - at' m j k) * inv p (at' m k k) % p) else rw' m j
def rowsD (p : Int) (m : List (List Int)) (k i : Nat) : List (List Int) := (List.range m.length).map (rowD p m k i)
theorem rowsD_len (p : Int) (m : List (List Int)) (k i : Nat) : (rowsD p m k i).length = m.length := by simp [rowsD]
theorem rowsD_row {p : Int} {m : List (List Int)} {k i j : Nat} (h : j < m.length) : rw' (rowsD p m k i) j = rowD p m k i j := by simp [rowsD, rw', List.getD, h]
theorem rowsD_start (p : Int) (m : List (List Int)) (k : Nat) : rowsD p m k (k + 1) = m := by
  refine mat_ext (rowsD_len _ _ _ _) (fun j hj => ?_)
  rw [rowsD_len] at hj
  rw [rowsD_row hj]; unfold rowD; rw [if_neg (by omega)]
theorem rowsD_next {p : Int} {m : List (List Int)} {k i : Nat} (hi : i < m.length) (hk : k < i) : (rowsD p m k i).set i (plusR p (rw' m i) (rw' m k) ((p - at' m i k) * inv p (at' m k k) % p)) = rowsD p m k (i + 1) := by
  refine mat_ext (by simp [rowsD_len]) (fun j hj => ?_)
  simp only [List.length_set, rowsD_len] at hj
  rw [rw_set _ (by rw [rowsD_len]; exact hi), rowsD_row hj, rowsD_row hj]
  unfold rowD
  by_cases e : j = i
  · subst e; rw [if_pos rfl, if_pos (by omega)]
  · rw [if_neg e]
    by_cases h : k < j ∧ j < i
    · rw [if_pos h, if_pos (by omega)]
    · rw [if_neg h, if_neg (by omega)]
theorem DetAt.rows {p : Int} {n : Nat} {A m : List (List Int)} {k : Nat} {out : Int} (hp : prm p = true) (h : DetAt p n A m k out) (hk : k < n) (hx : 1 ≤ at' m k k) : DetAt p n A (rowsD p m k n) (k + 1) (out * at' m k k % p) := by
  have hn := h.ml
  have hrow : ∀ i, i < n → rw' (rowsD p m k n) i = rowD p m k n i := fun i hi => rowsD_row (by omega)
  refine h.step hp hk hx (by rw [rowsD_len, hn]) (fun i hi => ?_) (fun i hi j hj => ?_)
  · rw [hrow i hi]
    unfold rowD
    split
    · unfold plusR; rw [mkR_len]; exact h.len i hi
    · exact h.len i hi
  · show (rw' (rowsD p m k n) i).getD j 0 = _
    rw [hrow i hi]
    unfold rowD
    by_cases e : k < i
    · rw [if_pos ⟨e, hi⟩, if_pos e]
      unfold plusR
      rw [mkR_at _ (by rw [h.len i hi]; exact hj)]
      rfl
    · rw [if_neg (by omega), if_neg e]; rfl

end Go.Proofs.YtkibkkdeaojjoabGreat
