/-
  Reduced rows modulo a prime: what vanishes on them, and that this tells them wholly. No Go in sight.
  No conditions.
-/
import Derived.Test.YtcmedhkamjclmaaMk
namespace Go.Proofs.Ytcmedhkamjclmaa
set_option linter.unusedVariables false

/-- All n rows with c numbers vanish at x. -/
def nul (p : Int) (n c : Nat) (R : Nat → Nat → Int) (x : Nat → Int) : Prop := ∀ i, i < n → sm c (fun j => R i j * x j) % p = 0

/-- Reduced rows, with their pivots. -/
structure Rref (p : Int) (n c : Nat) (R : Nat → Nat → Int) (P : Nat → Nat) : Prop where
  pv : ∀ i, i < n → P i < c
  mono : ∀ i i', i < i' → i' < n → P i < P i'
  one : ∀ i, i < n → R i (P i) = 1
  zer : ∀ i, i < n → ∀ i', i' < n → i ≠ i' → R i' (P i) = 0
  fst : ∀ i, i < n → ∀ j, j < P i → R i j = 0
  rng : ∀ i, i < n → ∀ j, j < c → 0 ≤ R i j ∧ R i j < p

/-- The vector that belongs to column k. -/
def kv (n : Nat) (R : Nat → Nat → Int) (P : Nat → Nat) (k j : Nat) : Int := (if j = k then 1 else 0) + sm n (fun i => if j = P i then - R i k else 0)

theorem sm_neg (n : Nat) (f : Nat → Int) : sm n (fun j => - f j) = - sm n f := by
  induction n with
  | zero => rfl
  | succ n ih => simp only [sm]; rw [ih]; omega
theorem ite_mul' (q : Prop) [Decidable q] (a x : Int) : a * (if q then x else 0) = if q then a * x else 0 := by split <;> simp

/-- A row of any rows times that vector. -/
theorem kv_row {p : Int} {n c : Nat} {R : Nat → Nat → Int} {P : Nat → Nat} (h : Rref p n c R P) (S : Nat → Int) {k : Nat} (hk : k < c) :
    sm c (fun j => S j * kv n R P k j) = S k - sm n (fun i => R i k * S (P i)) := by
  have e1 : sm c (fun j => S j * kv n R P k j) = sm c (fun j => (if j = k then S k else 0) + sm n (fun i => if j = P i then - (R i k * S (P i)) else 0)) := by
    apply sm_congr
    intro j hj
    unfold kv
    rw [Int.mul_add, ite_mul', Int.mul_one, ← sm_mul]
    congr 1
    · by_cases e : j = k
      · subst e; simp
      · simp [e]
    · apply sm_congr
      intro i hi
      rw [ite_mul']
      by_cases e : j = P i
      · subst e; simp only [if_pos]; rw [Int.mul_neg, Int.mul_comm]
      · simp [e]
  rw [e1, sm_add, sm_single, if_pos hk, sm_swap]
  have e2 : sm n (fun i => sm c (fun j => if j = P i then - (R i k * S (P i)) else 0)) = sm n (fun i => - (R i k * S (P i))) := by
    apply sm_congr
    intro i hi
    rw [sm_single, if_pos (h.pv i hi)]
  rw [e2, sm_neg]
  omega

theorem Rref.pick {p : Int} {n c : Nat} {R : Nat → Nat → Int} {P : Nat → Nat} (h : Rref p n c R P) {i : Nat} (hi : i < n) (f : Nat → Int) : sm n (fun i' => f i' * R i (P i')) = f i := by
  have e : sm n (fun i' => f i' * R i (P i')) = sm n (fun i' => if i' = i then f i else 0) := by
    apply sm_congr
    intro i' hi'
    by_cases e : i' = i
    · subst e; rw [h.one i' hi', if_pos rfl, Int.mul_one]
    · rw [h.zer i' hi' i hi e, if_neg e, Int.mul_zero]
  rw [e, sm_single, if_pos hi]

theorem kv_nul {p : Int} {n c : Nat} {R : Nat → Nat → Int} {P : Nat → Nat} (h : Rref p n c R P) {k : Nat} (hk : k < c) : nul p n c R (kv n R P k) := by
  intro i hi
  rw [kv_row h (R i) hk, h.pick hi (fun i' => R i' k)]
  simp

theorem kv_top {p : Int} {n c : Nat} {R : Nat → Nat → Int} {P : Nat → Nat} (h : Rref p n c R P) {k : Nat} (hnp : ∀ i, i < n → P i ≠ k) : kv n R P k k = 1 := by
  unfold kv
  have e : sm n (fun i => if k = P i then - R i k else 0) = sm n (fun _ => 0) := by
    apply sm_congr; intro i hi; rw [if_neg (fun e => hnp i hi e.symm)]
  rw [e, sm_zero]; simp
theorem kv_over {p : Int} {n c : Nat} {R : Nat → Nat → Int} {P : Nat → Nat} (h : Rref p n c R P) {k j : Nat} (hkj : k < j) : kv n R P k j = 0 := by
  unfold kv
  have e : sm n (fun i => if j = P i then - R i k else 0) = sm n (fun _ => 0) := by
    apply sm_congr; intro i hi
    by_cases e : j = P i
    · rw [if_pos e, h.fst i hi k (by omega)]; rfl
    · rw [if_neg e]
  rw [e, sm_zero, if_neg (by omega)]; rfl

/-- A column is a pivot exactly if nothing that vanishes ends there with 1. -/
theorem Rref.pivot {p : Int} {n c : Nat} {R : Nat → Nat → Int} {P : Nat → Nat} (h : Rref p n c R P) (hp : 1 < p) {k : Nat} (hk : k < c) :
    (∃ i, i < n ∧ P i = k) ↔ ¬ ∃ x : Nat → Int, nul p n c R x ∧ x k = 1 ∧ ∀ j, k < j → x j = 0 := by
  constructor
  · rintro ⟨i, hi, rfl⟩ ⟨x, hx, h1, h2⟩
    have e : sm c (fun j => R i j * x j) = sm c (fun j => if j = P i then 1 else 0) := by
      apply sm_congr
      intro j hj
      rcases Nat.lt_trichotomy j (P i) with l | l | l
      · rw [h.fst i hi j l, if_neg (by omega)]; simp
      · subst l; rw [h.one i hi, h1, if_pos rfl]; rfl
      · rw [h2 j l, if_neg (by omega)]; simp
    have := hx i hi
    rw [e, sm_single, if_pos hk, Int.emod_eq_of_lt (by omega) hp] at this
    omega
  · intro hno
    rcases Classical.em (∃ i, i < n ∧ P i = k) with h1 | h1
    · exact h1
    · exact absurd ⟨kv n R P k, kv_nul h hk, kv_top h (fun i hi e => h1 ⟨i, hi, e⟩), fun j hj => kv_over h hj⟩ hno

theorem enum_eq {n n' : Nat} {P P' : Nat → Nat} (m : ∀ i i', i < i' → i' < n → P i < P i') (m' : ∀ i i', i < i' → i' < n' → P' i < P' i')
    (h : ∀ i, i < n → ∃ k, k < n' ∧ P' k = P i) (h' : ∀ i, i < n' → ∃ k, k < n ∧ P k = P' i) : ∀ i, i < n → i < n' ∧ P i = P' i := by
  intro i
  induction i using Nat.strongRecOn with
  | ind i ih =>
    intro hi
    obtain ⟨k, hk, e⟩ := h i hi
    rcases Nat.lt_trichotomy k i with l | l | l
    · have := ih k l (by omega)
      have := m k i l hi
      omega
    · subst l; exact ⟨hk, e.symm⟩
    · obtain ⟨q, hq, e2⟩ := h' i (by omega)
      have l1 := m' i k l hk
      have l2 : q < i := by
        rcases Nat.lt_trichotomy q i with r | r | r
        · exact r
        · subst r; omega
        · have := m i q r hq; omega
      have l3 := ih q l2 (by omega)
      have l4 := m' q i l2 (by omega)
      omega

/-- Reduced rows are told by what vanishes on them. -/
theorem Rref.unique {p : Int} {n n' c : Nat} {R R' : Nat → Nat → Int} {P P' : Nat → Nat} (hp : 1 < p) (h : Rref p n c R P) (h' : Rref p n' c R' P') (hn : ∀ x, nul p n c R x ↔ nul p n' c R' x) :
    n = n' ∧ (∀ i, i < n → P i = P' i) ∧ ∀ i, i < n → ∀ j, j < c → R i j = R' i j := by
  have piv : ∀ k, k < c → ((∃ i, i < n ∧ P i = k) ↔ ∃ i, i < n' ∧ P' i = k) := by
    intro k hk
    rw [h.pivot hp hk, h'.pivot hp hk]
    constructor
    · intro g ⟨x, hx, r⟩; exact g ⟨x, (hn x).2 hx, r⟩
    · intro g ⟨x, hx, r⟩; exact g ⟨x, (hn x).1 hx, r⟩
  have a := enum_eq h.mono h'.mono (fun i hi => by obtain ⟨k, hk, e⟩ := (piv (P i) (h.pv i hi)).1 ⟨i, hi, rfl⟩; exact ⟨k, hk, e⟩) (fun i hi => by obtain ⟨k, hk, e⟩ := (piv (P' i) (h'.pv i hi)).2 ⟨i, hi, rfl⟩; exact ⟨k, hk, e⟩)
  have b := enum_eq h'.mono h.mono (fun i hi => by obtain ⟨k, hk, e⟩ := (piv (P' i) (h'.pv i hi)).2 ⟨i, hi, rfl⟩; exact ⟨k, hk, e⟩) (fun i hi => by obtain ⟨k, hk, e⟩ := (piv (P i) (h.pv i hi)).1 ⟨i, hi, rfl⟩; exact ⟨k, hk, e⟩)
  have hnn : n = n' := by
    rcases Nat.lt_trichotomy n n' with l | l | l
    · have := (b n l).1; omega
    · exact l
    · have := (a n' l).1; omega
  subst hnn
  refine ⟨rfl, fun i hi => (a i hi).2, fun i hi k hk => ?_⟩
  have hz := (hn _).1 (kv_nul h hk) i hi
  rw [kv_row h (R' i) hk] at hz
  have e : sm n (fun i' => R i' k * R' i (P i')) = sm n (fun i' => R i' k * R' i (P' i')) := by
    apply sm_congr; intro i' hi'; rw [(a i' hi').2]
  rw [e, h'.pick hi (fun i' => R i' k)] at hz
  have r1 := h.rng i hi k hk
  have r2 := h'.rng i hi k hk
  have := Int.emod_emod_of_dvd (R' i k) (Int.dvd_refl p)
  have h3 : R' i k % p = R i k % p := Int.emod_eq_emod_iff_emod_sub_eq_zero.2 hz
  rw [Int.emod_eq_of_lt r1.1 r1.2, Int.emod_eq_of_lt r2.1 r2.2] at h3
  exact h3.symm

end Go.Proofs.Ytcmedhkamjclmaa
