/-
  Sizes of matrices.
  No conditions.
-/
import Derived.Test.YtcamegdjdjacpaaRect
namespace Go.Proofs.Ytcamegdjdjacpaa
set_option linter.unusedVariables false

theorem rect_of {n : Nat} {p : Int} {m : List (List Int)} (h : Lst n p m) : Rect p m (rw' m 0).length where
  rows := by have := h.hi; omega
  cols := by
    by_cases h0 : 0 < m.length
    · have := h.c1 0 h0; omega
    · have e : m = [] := List.eq_nil_of_length_eq_zero (by omega)
      rw [e]; simp [rw']
  len := h.len
  num i hi := Nums.of (h.all i hi)

theorem tot_const {m : List (List Int)} {c : Nat} (h : ∀ i, i < m.length → (rw' m i).length = c) : ∀ {k : Nat}, k ≤ m.length → tot m k = k * c := by
  intro k
  induction k with
  | zero => intro _; simp [tot]
  | succ k ih => intro hk; simp only [tot]; rw [ih (by omega), h k (by omega), Nat.succ_mul]
theorem mk_size {n c : Nat} {f : Nat → Nat → Int} (hn : n ≤ 1024) (hc : c ≤ 1023) : (mk n c f).length + tot (mk n c f) (mk n c f).length ≤ 1048576 := by
  have h := tot_const (m := mk n c f) (c := c) (fun i hi => mk_rowLen f (by rwa [mk_len] at hi)) (k := n) (by rw [mk_len]; exact Nat.le_refl _)
  rw [mk_len, h]
  have : n * c ≤ 1024 * 1023 := Nat.mul_le_mul hn hc
  omega
theorem Lst.c16 {n : Nat} {p : Int} {m : List (List Int)} (h : Lst n p m) : (rw' m 0).length ≤ 16 := by
  by_cases h0 : 0 < m.length
  · exact h.c1 0 h0
  · have e : m = [] := List.eq_nil_of_length_eq_zero (by omega)
    rw [e]; simp [rw']
end Go.Proofs.Ytcamegdjdjacpaa
