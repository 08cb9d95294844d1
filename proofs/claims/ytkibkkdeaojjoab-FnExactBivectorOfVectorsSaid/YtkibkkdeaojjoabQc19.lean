/-
  What is around vectors, parities, numbers of basis vectors (program): contracts of the program and of the model.
  Conditions: the lists are nil or rows of known cells, of at most 1048576 numbers.
  What the program's and the model's checks of lists of numbers, matrices and lists of vectors return.
  Conditions: they are nil or rows of known cells.
  Checks of lists of vectors under one bound on all numbers.
  Conditions: they are nil or rows of known cells, of at most 1048576 numbers.
  What the program's checks of matrices return, and its new matrices of zeros.
  Conditions: the matrices are nil or rows of known cells.
  What the model's turned matrices are: a contract.
  Conditions: the matrix is a row of rows of known cells, all of one length.
  Products of matrices, in the program and in the model: contracts.
  Conditions: the matrices are rows of rows of known cells with numbers of the prime; their sizes fit.
  The model's products of matrices: a contract.
  Conditions: the matrices are rows of rows of known cells with numbers of the prime; their sizes fit.
  Sizes of matrices.
  No conditions.
  TransposeMatrix, in the program and in the model.
  Conditions: the arguments are nil or rows of known cells, of at most 1048576 numbers.
  Square matrices, in the model.
  Conditions: the arguments are nil or rows of known cells, of at most 1048576 numbers.
  Traces, in the program and in the model.
  Conditions: the arguments are nil or rows of known cells, of at most 1048576 numbers.
  Powers of matrices, in the program and in the model.
  Conditions: the matrix is nil or a row of rows of known cells.
  Whether what is around vectors is vectors (program): contracts of the program and of the model.
  Conditions: the lists are nil or rows of known cells, of at most 1048576 numbers.
  Multivectors as versors (program): contracts of the program and of the model.
  Conditions: the lists are nil or rows of known cells, of at most 1048576 numbers.
  Reduced rows modulo a prime: what vanishes on them, and that this tells them wholly. No Go in sight.
  No conditions.
-/
import Derived.Test.YtkibkkdeaojjoabQc18
import Derived.Deep.RegionHeld3
import Derived.Deep.DeepCutAuto
import Derived.Test.YtkibkkdeaojjoabQc4
import Derived.Test.YtkibkkdeaojjoabQc9
import Derived.RegionTactic
import Derived.ChangeAlike
import Derived.Test.YtkibkkdeaojjoabQc17
import Derived.Deep.AppendLies
import Derived.StillTailTactics
import Derived.Test.YtkibkkdeaojjoabQc3
namespace Go.Proofs.Ytkibkkdeaojjoab
open Go.RowKit
set_option linter.unusedVariables false

/-- The cells of the box of a multivector. -/
def BoxM (g : Nat) (p : Int) (aS : Option Addr) (n cS : Nat) (ax : Option Addr) (l cx : Nat) (W : World) : Prop :=
  W.cell? ⟨g, 0, none⟩ = some (.int .i64 p) ∧ W.cell? ⟨g, 1, none⟩ = some (.slice aS n cS) ∧ W.cell? ⟨g, 2, none⟩ = some (.slice ax l cx)
theorem BoxM.below {g : Nat} {p : Int} {aS ax : Option Addr} {n cS l cx B : Nat} {w w' : World} (h : BoxM g p aS n cS ax l cx w) (hb : Below B w w') (hg : g < B) : BoxM g p aS n cS ax l cx w' :=
  ⟨(hb.cell (p := ⟨g, 0, none⟩) hg).trans h.1, (hb.cell (p := ⟨g, 1, none⟩) hg).trans h.2.1, (hb.cell (p := ⟨g, 2, none⟩) hg).trans h.2.2⟩
theorem BoxM.new (w : World) (p : Int) (aS : Option Addr) (n cS : Nat) (ax : Option Addr) (l cx : Nat) (T : TypeId) : BoxM w.heap.size p aS n cS ax l cx (w.alloc (.cells #[.int .i64 p, .slice aS n cS, .slice ax l cx] T)) :=
  ⟨by simp [go_sem], by simp [go_sem], by simp [go_sem]⟩
/-- The box of a multivector and that of its space. -/
def BoxV (g gs : Nat) (p : Int) (aS : Option Addr) (n cS : Nat) (ax : Option Addr) (l cx : Nat) (W : World) : Prop :=
  W.cell? ⟨g, 0, none⟩ = some (.int .i64 p) ∧ W.cell? ⟨g, 1, none⟩ = some (.slice aS n cS) ∧ W.cell? ⟨g, 2, none⟩ = some (.slice ax l cx) ∧ W.cell? ⟨gs, 0, none⟩ = some (.int .i64 p) ∧ W.cell? ⟨gs, 1, none⟩ = some (.slice aS n cS)
theorem BoxV.below {g gs : Nat} {p : Int} {aS ax : Option Addr} {n cS l cx B : Nat} {w w' : World} (h : BoxV g gs p aS n cS ax l cx w) (hb : Below B w w') (hg : g < B ∧ gs < B) : BoxV g gs p aS n cS ax l cx w' :=
  ⟨(hb.cell (p := ⟨g, 0, none⟩) hg.1).trans h.1, (hb.cell (p := ⟨g, 1, none⟩) hg.1).trans h.2.1, (hb.cell (p := ⟨g, 2, none⟩) hg.1).trans h.2.2.1, (hb.cell (p := ⟨gs, 0, none⟩) hg.2).trans h.2.2.2.1, (hb.cell (p := ⟨gs, 1, none⟩) hg.2).trans h.2.2.2.2⟩
end Go.Proofs.Ytkibkkdeaojjoab

namespace Go.Proofs.Ytkibkkdeaojjoab
open Go.RowKit Go.ChangeShapes Go.WideShapes
set_option linter.unusedVariables false

/-- What has been seen of the first i rows. -/
def Seen (p : Int) (m : List (List Int)) (i : Nat) : Prop := ∀ i', i' < i → (rw' m i').length = (rw' m 0).length ∧ (1 ≤ (rw' m i').length ∧ (rw' m i').length ≤ 16) ∧ (rw' m i').all (inr p) = true
theorem Seen.zero (p : Int) (m : List (List Int)) : Seen p m 0 := fun i' h => by omega
theorem Seen.next {p : Int} {m : List (List Int)} {i : Nat} (h : Seen p m i) (h1 : (rw' m i).length = (rw' m 0).length) (h2 : 1 ≤ (rw' m i).length ∧ (rw' m i).length ≤ 16) (h3 : (rw' m i).all (inr p) = true) : Seen p m (i + 1) := by
  intro i' hi'
  by_cases e : i' = i
  · subst e; exact ⟨h1, h2, h3⟩
  · exact h i' (by omega)
end Go.Proofs.Ytkibkkdeaojjoab

namespace Go.Proofs.Ytkibkkdeaojjoab
set_option linter.unusedVariables false

theorem rect_of {n : Nat} {p : Int} {m : List (List Int)} (h : Lst n p m) : Rect p m (rw' m 0).length where
  rows := by have := h.hi; omega
  cols := by
    by_cases h0 : 0 < m.length
    · have := h.c1 0 h0; omega
    · have e : m = [] := List.eq_nil_of_length_eq_zero (by omega)
      rw [e]; simp [rw']
  len := h.len
  num i hi := Nums.of (h.all i hi)

theorem tot_const {m : List (List Int)} {c : Nat} (h : ∀ i, i < m.length → (rw' m i).length = c) : ∀ {k : Nat}, k ≤ m.length → tot m k = k * c := by
  intro k
  induction k with
  | zero => intro _; simp [tot]
  | succ k ih => intro hk; simp only [tot]; rw [ih (by omega), h k (by omega), Nat.succ_mul]
end Go.Proofs.Ytkibkkdeaojjoab

namespace Go.Proofs.Ytkibkkdeaojjoab
open Go.RowKit
set_option linter.unusedVariables false

/-! ### Powers -/
def pwF (p : Int) : Nat → Nat → List (List Int) → List (List Int) → List (List Int)
  | 0, _, out, _ => out
  | f + 1, k, out, step => if k = 0 then out else pwF p f (k / 2) (if k % 2 = 1 then mulM p out step else out) (mulM p step step)
def powM (p : Int) (m : List (List Int)) (k : Nat) : List (List Int) := pwF p 11 k (oneM m.length) m
/-- A square matrix with n rows of numbers. -/
def Sq (p : Int) (m : List (List Int)) (n : Nat) : Prop := Rect p m n ∧ m.length = n
theorem Sq.one {p : Int} (hp : prm p = true) {n : Nat} (hn : n ≤ 1024) : Sq p (oneM n) n := by
  have := prm_bd hp
  refine ⟨⟨by unfold oneM; rw [mk_len]; exact hn, hn, fun i hi => ?_, fun i hi j hj => ?_⟩, by unfold oneM; rw [mk_len]⟩
  · unfold oneM at hi ⊢; rw [mk_len] at hi; exact mk_rowLen _ hi
  · unfold oneM at hi hj ⊢
    rw [mk_len] at hi
    rw [mk_rowLen _ hi] at hj
    have e : (rw' (mk n n fun i j => if i = j then 1 else 0) i).getD j 0 = if i = j then 1 else 0 := mk_at _ hi hj
    rw [e]; split <;> omega
theorem Sq.size {p : Int} {m : List (List Int)} {n : Nat} (h : Sq p m n) (hn : n ≤ 16) : m.length + tot m m.length ≤ 1048576 := by
  rw [tot_const h.1.len (Nat.le_refl _), h.2]
  have : n * n ≤ 16 * 16 := Nat.mul_le_mul hn hn
  omega
theorem Sq.of {p : Int} {m : List (List Int)} (h : Lst 1 p m) (k : m.length = (rw' m 0).length) : Sq p m m.length := ⟨by rw [k]; have := rect_of h; exact this, rfl⟩
/-- Where a loop of powers stands: f rounds may come. -/
def PwAt (p : Int) (m : List (List Int)) (k0 k f : Nat) (out step : List (List Int)) : Prop :=
  k < 2 ^ f ∧ f ≤ 11 ∧ pwF p f k out step = powM p m k0 ∧ Sq p out m.length ∧ Sq p step m.length
theorem PwAt.start {p : Int} {m : List (List Int)} {k : Nat} (h : Lst 1 p m) (hq : m.length = (rw' m 0).length) (hk : k ≤ 1000) : PwAt p m k k 11 (oneM m.length) m :=
  ⟨by omega, Nat.le_refl _, rfl, Sq.one h.prime (by have := h.hi; omega), Sq.of h hq⟩
theorem Sq.r2 {p : Int} {a b : List (List Int)} {n : Nat} (ha : Sq p a n) (hb : Sq p b n) : Rect p a b.length := by rw [hb.2]; exact ha.1
end Go.Proofs.Ytkibkkdeaojjoab

namespace Go.Proofs.Ytkibkkdeaojjoab
open Go.RowKit
set_option linter.unusedVariables false

/-- Five cells that may be written. -/
def V5 (g : Nat) (v0 v1 v2 v3 v4 : Value) (W : World) : Prop :=
  (W.cell? ⟨g, 0, none⟩ = some v0 ∧ W.cell? ⟨g, 1, none⟩ = some v1 ∧ W.cell? ⟨g, 2, none⟩ = some v2 ∧ W.cell? ⟨g, 3, none⟩ = some v3 ∧ W.cell? ⟨g, 4, none⟩ = some v4) ∧ W.frozen? ⟨g, 0, none⟩ = false ∧ W.frozen? ⟨g, 1, none⟩ = false ∧ W.frozen? ⟨g, 2, none⟩ = false ∧ W.frozen? ⟨g, 3, none⟩ = false ∧ W.frozen? ⟨g, 4, none⟩ = false
theorem V5.below {g B : Nat} {v0 v1 v2 v3 v4 : Value} {w w' : World} (h : V5 g v0 v1 v2 v3 v4 w) (b : Below B w w') (l : g < B) : V5 g v0 v1 v2 v3 v4 w' :=
  ⟨⟨(b.cell (p := ⟨g, 0, none⟩) l).trans h.1.1, (b.cell (p := ⟨g, 1, none⟩) l).trans h.1.2.1, (b.cell (p := ⟨g, 2, none⟩) l).trans h.1.2.2.1, (b.cell (p := ⟨g, 3, none⟩) l).trans h.1.2.2.2.1, (b.cell (p := ⟨g, 4, none⟩) l).trans h.1.2.2.2.2⟩,
    (b.frozen (p := ⟨g, 0, none⟩) l).trans h.2.1, (b.frozen (p := ⟨g, 1, none⟩) l).trans h.2.2.1, (b.frozen (p := ⟨g, 2, none⟩) l).trans h.2.2.2.1, (b.frozen (p := ⟨g, 3, none⟩) l).trans h.2.2.2.2.1, (b.frozen (p := ⟨g, 4, none⟩) l).trans h.2.2.2.2.2⟩
theorem V5.new (w : World) (v0 v1 v2 v3 v4 : Value) (T : TypeId) : V5 w.heap.size v0 v1 v2 v3 v4 (w.alloc (.cells #[v0, v1, v2, v3, v4] T)) :=
  ⟨⟨by simp [go_sem], by simp [go_sem], by simp [go_sem], by simp [go_sem], by simp [go_sem]⟩, by simp [go_sem], by simp [go_sem], by simp [go_sem], by simp [go_sem], by simp [go_sem]⟩
end Go.Proofs.Ytkibkkdeaojjoab

namespace Go.Proofs.Ytkibkkdeaojjoab
set_option linter.unusedVariables false

/-- All n rows with c numbers vanish at x. -/
def nul (p : Int) (n c : Nat) (R : Nat → Nat → Int) (x : Nat → Int) : Prop := ∀ i, i < n → sm c (fun j => R i j * x j) % p = 0

/-- Reduced rows, with their pivots. -/
structure Rref (p : Int) (n c : Nat) (R : Nat → Nat → Int) (P : Nat → Nat) : Prop where
  pv : ∀ i, i < n → P i < c
  mono : ∀ i i', i < i' → i' < n → P i < P i'
  one : ∀ i, i < n → R i (P i) = 1
  zer : ∀ i, i < n → ∀ i', i' < n → i ≠ i' → R i' (P i) = 0
  fst : ∀ i, i < n → ∀ j, j < P i → R i j = 0
  rng : ∀ i, i < n → ∀ j, j < c → 0 ≤ R i j ∧ R i j < p

/-- The vector that belongs to column k. -/
def kv (n : Nat) (R : Nat → Nat → Int) (P : Nat → Nat) (k j : Nat) : Int := (if j = k then 1 else 0) + sm n (fun i => if j = P i then - R i k else 0)

theorem sm_neg (n : Nat) (f : Nat → Int) : sm n (fun j => - f j) = - sm n f := by
  induction n with
  | zero => rfl
  | succ n ih => simp only [sm]; rw [ih]; omega
theorem ite_mul' (q : Prop) [Decidable q] (a x : Int) : a * (if q then x else 0) = if q then a * x else 0 := by split <;> simp

/-- A row of any rows times that vector. -/
theorem kv_row {p : Int} {n c : Nat} {R : Nat → Nat → Int} {P : Nat → Nat} (h : Rref p n c R P) (S : Nat → Int) {k : Nat} (hk : k < c) :
    sm c (fun j => S j * kv n R P k j) = S k - sm n (fun i => R i k * S (P i)) := by
  have e1 : sm c (fun j => S j * kv n R P k j) = sm c (fun j => (if j = k then S k else 0) + sm n (fun i => if j = P i then - (R i k * S (P i)) else 0)) := by
    apply sm_congr
    intro j hj
    unfold kv
    rw [Int.mul_add, ite_mul', Int.mul_one, ← sm_mul]
    congr 1
    · by_cases e : j = k
      · subst e; simp
      · simp [e]
    · apply sm_congr
      intro i hi
      rw [ite_mul']
      by_cases e : j = P i
      · subst e; simp only [if_pos]; rw [Int.mul_neg, Int.mul_comm]
      · simp [e]
  rw [e1, sm_add, sm_single, if_pos hk, sm_swap]
  have e2 : sm n (fun i => sm c (fun j => if j = P i then - (R i k * S (P i)) else 0)) = sm n (fun i => - (R i k * S (P i))) := by
    apply sm_congr
    intro i hi
    rw [sm_single, if_pos (h.pv i hi)]
  rw [e2, sm_neg]
  omega

theorem Rref.pick {p : Int} {n c : Nat} {R : Nat → Nat → Int} {P : Nat → Nat} (h : Rref p n c R P) {i : Nat} (hi : i < n) (f : Nat → Int) : sm n (fun i' => f i' * R i (P i')) = f i := by
  have e : sm n (fun i' => f i' * R i (P i')) = sm n (fun i' => if i' = i then f i else 0) := by
    apply sm_congr
    intro i' hi'
    by_cases e : i' = i
    · subst e; rw [h.one i' hi', if_pos rfl, Int.mul_one]
    · rw [h.zer i' hi' i hi e, if_neg e, Int.mul_zero]
  rw [e, sm_single, if_pos hi]

theorem kv_nul {p : Int} {n c : Nat} {R : Nat → Nat → Int} {P : Nat → Nat} (h : Rref p n c R P) {k : Nat} (hk : k < c) : nul p n c R (kv n R P k) := by
  intro i hi
  rw [kv_row h (R i) hk, h.pick hi (fun i' => R i' k)]
  simp

theorem kv_top {p : Int} {n c : Nat} {R : Nat → Nat → Int} {P : Nat → Nat} (h : Rref p n c R P) {k : Nat} (hnp : ∀ i, i < n → P i ≠ k) : kv n R P k k = 1 := by
  unfold kv
  have e : sm n (fun i => if k = P i then - R i k else 0) = sm n (fun _ => 0) := by
    apply sm_congr; intro i hi; rw [if_neg (fun e => hnp i hi e.symm)]
  rw [e, sm_zero]; simp
theorem kv_over {p : Int} {n c : Nat} {R : Nat → Nat → Int} {P : Nat → Nat} (h : Rref p n c R P) {k j : Nat} (hkj : k < j) : kv n R P k j = 0 := by
  unfold kv
  have e : sm n (fun i => if j = P i then - R i k else 0) = sm n (fun _ => 0) := by
    apply sm_congr; intro i hi
    by_cases e : j = P i
    · rw [if_pos e, h.fst i hi k (by omega)]; rfl
    · rw [if_neg e]
  rw [e, sm_zero, if_neg (by omega)]; rfl

/-- A column is a pivot exactly if nothing that vanishes ends there with 1. -/
theorem Rref.pivot {p : Int} {n c : Nat} {R : Nat → Nat → Int} {P : Nat → Nat} (h : Rref p n c R P) (hp : 1 < p) {k : Nat} (hk : k < c) :
    (∃ i, i < n ∧ P i = k) ↔ ¬ ∃ x : Nat → Int, nul p n c R x ∧ x k = 1 ∧ ∀ j, k < j → x j = 0 := by
  constructor
  · rintro ⟨i, hi, rfl⟩ ⟨x, hx, h1, h2⟩
    have e : sm c (fun j => R i j * x j) = sm c (fun j => if j = P i then 1 else 0) := by
      apply sm_congr
      intro j hj
      rcases Nat.lt_trichotomy j (P i) with l | l | l
      · rw [h.fst i hi j l, if_neg (by omega)]; simp
      · subst l; rw [h.one i hi, h1, if_pos rfl]; rfl
      · rw [h2 j l, if_neg (by omega)]; simp
    have := hx i hi
    rw [e, sm_single, if_pos hk, Int.emod_eq_of_lt (by omega) hp] at this
    omega
  · intro hno
    rcases Classical.em (∃ i, i < n ∧ P i = k) with h1 | h1
    · exact h1
    · exact absurd ⟨kv n R P k, kv_nul h hk, kv_top h (fun i hi e => h1 ⟨i, hi, e⟩), fun j hj => kv_over h hj⟩ hno

end Go.Proofs.Ytkibkkdeaojjoab
