/-
  Matrices with rows of one length, and their products with vectors in the program: contracts.
  Conditions: the matrices are rows of rows of known cells with numbers of the prime; their sizes fit.
-/
import Derived.Test.YtcamegdjdjacpaaDots
namespace Go.Proofs.Ytcamegdjdjacpaa
open Go.RowKit Go.ChangeShapes Go.WideShapes
set_option linter.unusedVariables false

/-- Rows of c numbers of the prime, at most 1024 of at most 1024. -/
structure Rect (p : Int) (m : List (List Int)) (c : Nat) : Prop where
  rows : m.length ≤ 1024
  cols : c ≤ 1024
  len : ∀ i, i < m.length → (rw' m i).length = c
  num : ∀ i, i < m.length → Nums p (rw' m i)
theorem Rect.at {p : Int} {m : List (List Int)} {c : Nat} (h : Rect p m c) {i j : Nat} (hi : i < m.length) (hj : j < c) : 0 ≤ at' m i j ∧ at' m i j < p := h.num i hi j (by rw [h.len i hi]; exact hj)
theorem Rect.tr {p : Int} {m : List (List Int)} {c : Nat} (h : Rect p m c) (hc : c = (rw' m 0).length) : Rect p (trM m) m.length where
  rows := by unfold trM; rw [mk_len, ← hc]; exact h.cols
  cols := h.rows
  len i hi := by unfold trM at hi ⊢; rw [mk_len] at hi; exact mk_rowLen _ hi
  num i hi j hj := by
    unfold trM at hi hj ⊢
    rw [mk_len] at hi
    rw [mk_rowLen _ hi] at hj
    have : (rw' (Go.Proofs.Ytcamegdjdjacpaa.mk (rw' m 0).length m.length fun k i => at' m i k) i).getD j 0 = at' m j i := mk_at _ hi hj
    rw [this]; exact h.at hj (by rw [hc]; exact hi)

theorem mul_row {p : Int} {a b : List (List Int)} {i : Nat} (hi : i < a.length) (hb : Rect p b (rw' b 0).length) : rw' (mulM p a b) i = appV p (trM b) (rw' a i) := by
  unfold mulM appV
  rw [mk_row _ hi]
  have e : (trM b).length = (rw' b 0).length := by unfold trM; rw [mk_len]
  rw [e]
  apply mkR_congr
  intro k hk
  have e2 : (rw' (trM b) k).length = b.length := by unfold trM; rw [mk_rowLen _ hk]
  rw [e2]
  congr 1
  unfold sdot
  apply sm_congr
  intro j hj
  have e3 : (rw' (trM b) k).getD j 0 = at' b j k := by unfold trM; exact mk_at _ hk hj
  rw [e3, Int.mul_comm]; rfl

end Go.Proofs.Ytcamegdjdjacpaa
