/-
  Matrices as lists of lists: made of a function, their rows and numbers, sums of products, and what chapter 2 makes of them. No Go in sight.
  No conditions.
-/
import Derived.Test.YtcamegdjdjacpaaMat
namespace Go.Proofs.Ytcamegdjdjacpaa
set_option linter.unusedVariables false

/-- A list made of a function. -/
def mkR (c : Nat) (f : Nat → Int) : List Int := (List.range c).map f
/-- A matrix made of a function. -/
def mk (n c : Nat) (f : Nat → Nat → Int) : List (List Int) := (List.range n).map fun i => mkR c (f i)
theorem mkR_len (c : Nat) (f : Nat → Int) : (mkR c f).length = c := by simp [mkR]
theorem mkR_at {c : Nat} (f : Nat → Int) {j : Nat} (h : j < c) : (mkR c f).getD j 0 = f j := by simp [mkR, List.getD, h]
theorem mk_len (n c : Nat) (f : Nat → Nat → Int) : (mk n c f).length = n := by simp [mk]
theorem mk_row {n c : Nat} (f : Nat → Nat → Int) {i : Nat} (h : i < n) : rw' (mk n c f) i = mkR c (f i) := by simp [mk, rw', List.getD, h]
theorem mk_rowLen {n c : Nat} (f : Nat → Nat → Int) {i : Nat} (h : i < n) : (rw' (mk n c f) i).length = c := by rw [mk_row f h, mkR_len]
theorem mk_at {n c : Nat} (f : Nat → Nat → Int) {i j : Nat} (h : i < n) (k : j < c) : at' (mk n c f) i j = f i j := by rw [at', mk_row f h, mkR_at _ k]
theorem mkR_congr {c : Nat} {f g : Nat → Int} (h : ∀ j, j < c → f j = g j) : mkR c f = mkR c g := by
  unfold mkR; apply List.map_congr_left; intro j hj; exact h j (List.mem_range.1 hj)
theorem mk_congr {n c : Nat} {f g : Nat → Nat → Int} (h : ∀ i, i < n → ∀ j, j < c → f i j = g i j) : mk n c f = mk n c g := by
  unfold mk; apply List.map_congr_left; intro i hi; exact mkR_congr (h i (List.mem_range.1 hi))
/-- A matrix with rows of one length is made of its numbers. -/
theorem eq_mk {m : List (List Int)} {c : Nat} (h : ∀ i, i < m.length → (rw' m i).length = c) : m = mk m.length c (at' m) := by
  apply mat_ext (by rw [mk_len])
  intro i hi
  rw [mk_row _ hi]
  apply row_ext (by rw [mkR_len]; exact h i hi)
  intro j hj
  rw [mkR_at _ (by rw [h i hi] at hj; exact hj)]
  rfl
theorem mkR_self (z : List Int) : mkR z.length (fun j => z.getD j 0) = z := by
  apply row_ext (by rw [mkR_len])
  intro j hj
  rw [mkR_at _ (by rwa [mkR_len] at hj)]

/-- A sum of the first n. -/
def sm : Nat → (Nat → Int) → Int
  | 0, _ => 0
  | n + 1, f => sm n f + f n
theorem sm_congr {n : Nat} {f g : Nat → Int} (h : ∀ j, j < n → f j = g j) : sm n f = sm n g := by
  induction n with
  | zero => rfl
  | succ n ih => simp only [sm]; rw [ih (fun j hj => h j (by omega)), h n (by omega)]
theorem sm_add (n : Nat) (f g : Nat → Int) : sm n (fun j => f j + g j) = sm n f + sm n g := by
  induction n with
  | zero => rfl
  | succ n ih => simp only [sm]; rw [ih]; omega
theorem sm_mul (n : Nat) (c : Int) (f : Nat → Int) : sm n (fun j => c * f j) = c * sm n f := by
  induction n with
  | zero => simp [sm]
  | succ n ih => simp only [sm]; rw [ih, Int.mul_add]
theorem sm_zero (n : Nat) : sm n (fun _ => 0) = 0 := by
  induction n with
  | zero => rfl
  | succ n ih => simp only [sm]; rw [ih]; rfl
theorem sm_single (n k : Nat) (x : Int) : sm n (fun j => if j = k then x else 0) = if k < n then x else 0 := by
  induction n with
  | zero => rfl
  | succ n ih =>
    simp only [sm]; rw [ih]
    by_cases h : n = k
    · subst h; rw [if_neg (by omega), if_pos rfl, if_pos (by omega)]; omega
    · rw [if_neg h]
      by_cases k' : k < n
      · rw [if_pos k', if_pos (by omega)]; omega
      · rw [if_neg k', if_neg (by omega)]; omega
theorem sm_swap (n m : Nat) (f : Nat → Nat → Int) : sm n (fun i => sm m (fun j => f i j)) = sm m (fun j => sm n (fun i => f i j)) := by
  induction n with
  | zero => simp only [sm]; rw [sm_zero]
  | succ n ih => simp only [sm]; rw [ih, ← sm_add]
theorem sm_mod (n : Nat) (p : Int) (f : Nat → Int) : sm n (fun j => f j % p) % p = sm n f % p := by
  induction n with
  | zero => rfl
  | succ n ih => simp only [sm]; rw [Int.add_emod, ih, Int.emod_emod, ← Int.add_emod]
theorem sm_bd {n : Nat} {f : Nat → Int} {b : Int} (h : ∀ j, j < n → 0 ≤ f j ∧ f j ≤ b) : 0 ≤ sm n f ∧ sm n f ≤ n * b := by
  induction n with
  | zero => simp [sm]
  | succ n ih =>
    have h1 := ih (fun j hj => h j (by omega))
    have h2 := h n (by omega)
    simp only [sm]
    have e : ((n + 1 : Nat) : Int) * b = n * b + b := by rw [Int.natCast_add, Int.add_mul]; simp
    rw [e]; omega

/-! ### Matrices of chapter 2 -/
/-- Whether p is a prime and m a matrix with at least n rows (n is 0 or 1). -/
def isL (n : Nat) (p : Int) (m : List (List Int)) : Bool :=
  prm p && decide (n ≤ m.length ∧ m.length ≤ 16) && m.all fun r => decide (1 ≤ r.length ∧ r.length ≤ 16 ∧ r.length = (rw' m 0).length) && r.all (inr p)
def isM (p : Int) (m : List (List Int)) : Bool := isL 1 p m

/-- What is known of a list of vectors. -/
structure Lst (n : Nat) (p : Int) (m : List (List Int)) : Prop where
  prime : prm p = true
  lo : n ≤ m.length
  hi : m.length ≤ 16
  len : ∀ i, i < m.length → (rw' m i).length = (rw' m 0).length
  c0 : ∀ i, i < m.length → 1 ≤ (rw' m i).length
  c1 : ∀ i, i < m.length → (rw' m i).length ≤ 16
  all : ∀ i, i < m.length → (rw' m i).all (inr p) = true
theorem mem_row {m : List (List Int)} {i : Nat} (h : i < m.length) : rw' m i ∈ m := by simp [rw', List.getD, h]
theorem isL_iff {n : Nat} {p : Int} {m : List (List Int)} : isL n p m = true ↔ Lst n p m := by
  unfold isL
  simp only [Bool.and_eq_true, decide_eq_true_eq, List.all_eq_true]
  constructor
  · rintro ⟨⟨hp, h0, h1⟩, h2⟩
    have g := fun i (hi : i < m.length) => h2 _ (mem_row hi)
    exact ⟨hp, h0, h1, fun i hi => (g i hi).1.2.2, fun i hi => (g i hi).1.1, fun i hi => (g i hi).1.2.1, fun i hi => by rw [List.all_eq_true]; exact (g i hi).2⟩
  · rintro ⟨hp, h0, h1, h2, h3, h4, h5⟩
    refine ⟨⟨hp, h0, h1⟩, fun r hr => ?_⟩
    obtain ⟨i, hi, rfl⟩ := List.getElem_of_mem hr
    have e : rw' m i = m[i] := by simp [rw', List.getD, hi]
    have := h5 i hi
    rw [List.all_eq_true, e] at this
    rw [← e]
    exact ⟨⟨h3 i hi, h4 i hi, h2 i hi⟩, by rw [e]; exact this⟩
theorem isL_not {n : Nat} {p : Int} {m : List (List Int)} (h : isL n p m = false) : ¬ Lst n p m := by
  intro k; rw [isL_iff.2 k] at h; cases h
theorem not_isL {n : Nat} {p : Int} {m : List (List Int)} (h : ¬ Lst n p m) : isL n p m = false := by
  cases e : isL n p m with
  | false => rfl
  | true => exact absurd (isL_iff.1 e) h
theorem Lst.cols {n : Nat} {p : Int} {m : List (List Int)} (h : Lst n p m) {i : Nat} (hi : i < m.length) : (rw' m i).length = (rw' m 0).length := h.len i hi
theorem Lst.at {n : Nat} {p : Int} {m : List (List Int)} (h : Lst n p m) {i j : Nat} (hi : i < m.length) (hj : j < (rw' m 0).length) : 0 ≤ at' m i j ∧ at' m i j < p := by
  have ha := h.all i hi
  rw [List.all_eq_true] at ha
  have hl : j < (rw' m i).length := by rw [h.len i hi]; exact hj
  exact inr_iff.1 (ha _ (by unfold at'; rw [getD_at hl]; exact List.getElem_mem hl))

def mulM (p : Int) (a b : List (List Int)) : List (List Int) := mk a.length (rw' b 0).length fun i k => sm b.length (fun j => at' a i j * at' b j k) % p
def addM (p : Int) (a b : List (List Int)) : List (List Int) := mk a.length (rw' a 0).length fun i j => (at' a i j + at' b i j) % p
def sclM (p : Int) (a : List (List Int)) (k : Int) : List (List Int) := mk a.length (rw' a 0).length fun i j => at' a i j * k % p
def trM (a : List (List Int)) : List (List Int) := mk (rw' a 0).length a.length fun k i => at' a i k
def appM (p : Int) (a : List (List Int)) (v : List Int) : List Int := mkR a.length fun i => sm v.length (fun j => at' a i j * v.getD j 0) % p
def trcM (p : Int) (a : List (List Int)) : Int := sm a.length (fun i => at' a i i) % p
def oneM (n : Nat) : List (List Int) := mk n n fun i j => if i = j then 1 else 0

end Go.Proofs.Ytcamegdjdjacpaa
