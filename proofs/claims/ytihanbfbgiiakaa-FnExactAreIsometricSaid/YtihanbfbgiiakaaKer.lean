/-
  Vectors of a kernel out of reduced rows, column by column. No Go in sight.
  No conditions.
-/
import Derived.Test.YtihanbfbgiiakaaElim
namespace Go.Proofs.Ytihanbfbgiiakaa
set_option linter.unusedVariables false

/-- Where the first number other than 0 stands. -/
def fstN (z : List Int) : Nat := z.findIdx (fun x => x != 0)
theorem fstN_le (z : List Int) : fstN z ≤ z.length := List.findIdx_le_length
theorem fstN_eq {z : List Int} {q : Nat} (hq : q < z.length) (h1 : z.getD q 0 ≠ 0) (h0 : ∀ j, j < q → z.getD j 0 = 0) : fstN z = q := by
  unfold fstN
  rw [List.findIdx_eq hq]
  refine ⟨by simpa [List.getD, hq] using h1, fun j hj => ?_⟩
  have := h0 j hj
  have hj' : j < z.length := by omega
  simp [List.getD, hj'] at this
  simp [this]
theorem fstN_lt {z : List Int} (h : fstN z < z.length) : z.getD (fstN z) 0 ≠ 0 := by
  have h1 := List.findIdx_getElem (xs := z) (p := fun x => x != 0) (w := h)
  have h2 : z.getD (fstN z) 0 = z[z.findIdx (fun x => x != 0)]'h := by unfold fstN at h ⊢; simp [List.getD, h]
  rw [h2]
  exact (bne_iff_ne).1 h1
/-- The places of the first numbers of rows. -/
def pvs (B : List (List Int)) (i : Nat) : Nat := fstN (rw' B i)
theorem Rref.pvs {p : Int} {c : Nat} {B : List (List Int)} {P : Nat → Nat} (h : Rref p B.length c (at' B) P) (hl : ∀ i, i < B.length → (rw' B i).length = c) {i : Nat} (hi : i < B.length) : Go.Proofs.Ytihanbfbgiiakaa.pvs B i = P i := by
  unfold Go.Proofs.Ytihanbfbgiiakaa.pvs
  refine fstN_eq (by rw [hl i hi]; exact h.pv i hi) ?_ (fun j hj => h.fst i hi j hj)
  have := h.one i hi
  unfold at' at this
  rw [this]; decide
theorem Rref.congrP {p : Int} {n c : Nat} {R : Nat → Nat → Int} {P P' : Nat → Nat} (h : Rref p n c R P) (e : ∀ i, i < n → P' i = P i) : Rref p n c R P' where
  pv i hi := by rw [e i hi]; exact h.pv i hi
  mono i i' hi hi' := by rw [e i (by omega), e i' hi']; exact h.mono i i' hi hi'
  one i hi := by rw [e i hi]; exact h.one i hi
  zer i hi i' hi' hne := by rw [e i hi]; exact h.zer i hi i' hi' hne
  fst i hi j hj := by rw [e i hi] at hj; exact h.fst i hi j hj
  rng := h.rng
theorem IsBas.pivs {p : Int} {c : Nat} {A B : List (List Int)} (h : IsBas p c A B) : Rref p B.length c (at' B) (pvs B) := by
  obtain ⟨P, hP⟩ := h.red
  exact hP.congrP (fun i hi => hP.pvs h.len hi)

/-- Whether a column is a pivot. -/
def isPv (P : Nat → Nat) (n k : Nat) : Bool := (List.range n).any fun i => P i == k
theorem isPv_iff {P : Nat → Nat} {n k : Nat} : isPv P n k = true ↔ ∃ i, i < n ∧ P i = k := by
  unfold isPv
  rw [List.any_eq_true]
  constructor
  · rintro ⟨i, hi, h⟩; exact ⟨i, List.mem_range.1 hi, by simpa using h⟩
  · rintro ⟨i, hi, h⟩; exact ⟨i, List.mem_range.2 hi, by simpa using h⟩
theorem isPv_no {P : Nat → Nat} {n k : Nat} (h : isPv P n k = false) {i : Nat} (hi : i < n) : P i ≠ k := fun e => by
  rw [isPv_iff.2 ⟨i, hi, e⟩] at h; cases h

/-- The vector of column k after i of the rows. -/
def kvec (p : Int) (B : List (List Int)) (P : Nat → Nat) (c i k : Nat) : List Int := mkR c fun j => kv i (at' B) P k j % p
theorem kv_zero (R : Nat → Nat → Int) (P : Nat → Nat) (k j : Nat) : kv 0 R P k j = if j = k then 1 else 0 := by simp [kv, sm]
theorem kv_succ (i : Nat) (R : Nat → Nat → Int) (P : Nat → Nat) (k j : Nat) : kv (i + 1) R P k j = kv i R P k j + (if j = P i then - R i k else 0) := by
  simp only [kv, sm]; omega
theorem kv_before {p : Int} {n c : Nat} {R : Nat → Nat → Int} {P : Nat → Nat} (h : Rref p n c R P) {i k : Nat} (hi : i < n) (hk : P i ≠ k) : kv i R P k (P i) = 0 := by
  have e : sm i (fun i' => if P i = P i' then - R i' k else 0) = sm i (fun _ => 0) := sm_congr (fun i' hi' => by
    have := h.mono i' i hi' hi
    rw [if_neg (by omega)])
  unfold kv
  rw [e, sm_zero, if_neg hk]; rfl
theorem kvec_step {p : Int} {c : Nat} {B : List (List Int)} {P : Nat → Nat} {n i k : Nat} (h : Rref p n c (at' B) P) (hi : i < n) (hk : P i ≠ k) {j : Nat} (hj : j < c) :
    kv (i + 1) (at' B) P k j % p = if j = P i then (p - at' B i k) % p else kv i (at' B) P k j % p := by
  rw [kv_succ]
  by_cases e : j = P i
  · subst e
    rw [if_pos rfl, if_pos rfl, kv_before h hi hk, Int.zero_add, Int.sub_eq_add_neg, Int.add_emod p, Int.emod_self, Int.zero_add, Int.emod_emod]
  · rw [if_neg e, if_neg e, Int.add_zero]
/-- The vectors of the first k columns that are no pivots. -/
def kerN (p : Int) (B : List (List Int)) (P : Nat → Nat) (c n : Nat) : Nat → List (List Int)
  | 0 => []
  | k + 1 => if isPv P n k = true then kerN p B P c n k else kerN p B P c n k ++ [kvec p B P c n k]
theorem kerN_pv {p : Int} {B : List (List Int)} {P : Nat → Nat} {c n k : Nat} (h : isPv P n k = true) : kerN p B P c n (k + 1) = kerN p B P c n k := if_pos h
theorem kerN_no {p : Int} {B : List (List Int)} {P : Nat → Nat} {c n k : Nat} (h : isPv P n k = false) : kerN p B P c n (k + 1) = kerN p B P c n k ++ [kvec p B P c n k] := if_neg (by simp [h])
theorem kerN_len (p : Int) (B : List (List Int)) (P : Nat → Nat) (c n k : Nat) : (kerN p B P c n k).length ≤ k := by
  induction k with
  | zero => simp [kerN]
  | succ k ih =>
    cases h : isPv P n k with
    | true => rw [kerN_pv h]; omega
    | false => rw [kerN_no h]; simp; omega
theorem kerN_mem {p : Int} {B : List (List Int)} {P : Nat → Nat} {c n k : Nat} {z : List Int} (h : z ∈ kerN p B P c n k) : ∃ k', k' < k ∧ z = kvec p B P c n k' := by
  induction k with
  | zero => simp [kerN] at h
  | succ k ih =>
    cases e : isPv P n k with
    | true => rw [kerN_pv e] at h; obtain ⟨k', h1, h2⟩ := ih h; exact ⟨k', by omega, h2⟩
    | false =>
      rw [kerN_no e] at h
      rcases List.mem_append.1 h with h | h
      · obtain ⟨k', h1, h2⟩ := ih h; exact ⟨k', by omega, h2⟩
      · exact ⟨k, by omega, by simpa using h⟩
theorem kerN_congr {p : Int} {B : List (List Int)} {P P' : Nat → Nat} {c n : Nat} (e : ∀ i, i < n → P i = P' i) (k : Nat) : kerN p B P c n k = kerN p B P' c n k := by
  have e1 : ∀ k, isPv P n k = isPv P' n k := fun k => by
    unfold isPv
    apply Bool.eq_iff_iff.2
    rw [List.any_eq_true, List.any_eq_true]
    constructor <;> rintro ⟨i, hi, h⟩ <;> refine ⟨i, hi, ?_⟩
    · rw [← e i (List.mem_range.1 hi)]; exact h
    · rw [e i (List.mem_range.1 hi)]; exact h
  have e2 : ∀ k, kvec p B P c n k = kvec p B P' c n k := fun k => by
    unfold kvec
    apply mkR_congr
    intro j _
    unfold kv
    rw [sm_congr (fun i hi => by rw [e i hi])]
  induction k with
  | zero => rfl
  | succ k ih => simp only [kerN]; rw [ih, e1, e2]
theorem kerN_lst {p : Int} {B : List (List Int)} {P : Nat → Nat} {c n k : Nat} (hp : prm p = true) (hc : 1 ≤ c) (hc2 : c ≤ 16) (hk : k ≤ c) : Lst 0 p (kerN p B P c n k) := by
  have hpb := prm_bd hp
  have hl := kerN_len p B P c n k
  have key : ∀ i, i < (kerN p B P c n k).length → ∃ k', rw' (kerN p B P c n k) i = kvec p B P c n k' := fun i hi => by
    obtain ⟨k', _, h⟩ := kerN_mem (mem_row hi)
    exact ⟨k', h⟩
  have hlen : ∀ i, i < (kerN p B P c n k).length → (rw' (kerN p B P c n k) i).length = c := fun i hi => by
    obtain ⟨k', h⟩ := key i hi
    rw [h]; exact mkR_len _ _
  refine ⟨hp, Nat.zero_le _, by omega, fun i hi => ?_, fun i hi => ?_, fun i hi => ?_, fun i hi => ?_⟩
  · rw [hlen i hi, hlen 0 (by omega)]
  · rw [hlen i hi]; exact hc
  · rw [hlen i hi]; exact hc2
  · obtain ⟨k', h⟩ := key i hi
    rw [h, List.all_eq_true]
    intro x hx
    unfold kvec mkR at hx
    obtain ⟨j, _, rfl⟩ := List.mem_map.1 hx
    have h0 := Int.emod_nonneg (kv n (at' B) P k' j) (by omega : p ≠ 0)
    have h1 := Int.emod_lt_of_pos (kv n (at' B) P k' j) (by omega : 0 < p)
    simp [inr, h0, h1]

end Go.Proofs.Ytihanbfbgiiakaa
