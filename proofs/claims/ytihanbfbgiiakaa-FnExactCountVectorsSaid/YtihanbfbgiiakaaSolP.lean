/-
  Solutions of linear equations out of reduced rows. No Go in sight.
  No conditions.
-/
import Derived.Test.YtihanbfbgiiakaaKer
import Derived.Test.YtihanbfbgiiakaaSpan
namespace Go.Proofs.Ytihanbfbgiiakaa
set_option linter.unusedVariables false

/-- Rows with the rows of others behind them. -/
def bes (A O : List (List Int)) : List (List Int) := (List.range A.length).map fun i => rw' A i ++ rw' O i
theorem bes_len (A O : List (List Int)) : (bes A O).length = A.length := by simp [bes]
theorem bes_row {A O : List (List Int)} {i : Nat} (h : i < A.length) : rw' (bes A O) i = rw' A i ++ rw' O i := by simp [bes, rw', List.getD, h]
theorem bes_at {A O : List (List Int)} {i j c : Nat} (h : i < A.length) (hc : (rw' A i).length = c) : at' (bes A O) i j = if j < c then at' A i j else at' O i (j - c) := by
  unfold at'
  rw [bes_row h]
  simp only [List.getD_eq_getElem?_getD]
  split
  · rename_i e; rw [List.getElem?_append_left (by omega)]
  · rename_i e; rw [List.getElem?_append_right (by omega), hc]
/-- A column behind the rows. -/
def col (v : List Int) : List (List Int) := (List.range v.length).map fun i => [v.getD i 0]
theorem col_len (v : List Int) : (col v).length = v.length := by simp [col]
theorem col_row {v : List Int} {i : Nat} (h : i < v.length) : rw' (col v) i = [v.getD i 0] := by simp [col, rw', List.getD, h]
theorem col_tr (v : List Int) : trM [v] = col v := by
  unfold trM col mk
  show (List.range v.length).map _ = _
  apply List.map_congr_left
  intro i _
  simp [mkR, at', rw']
/-- Rows of one length with numbers of the prime, at least one, longer ones too. -/
structure RowsX (p : Int) (c : Nat) (A : List (List Int)) : Prop where
  prime : prm p = true
  lo : 0 < A.length
  hi : A.length ≤ 1024
  c0 : 1 ≤ c
  c1 : c ≤ 1024
  len : ∀ i, i < A.length → (rw' A i).length = c
  rng : ∀ i, i < A.length → ∀ j, j < c → 0 ≤ at' A i j ∧ at' A i j < p
theorem RowsX.len0 {p : Int} {c : Nat} {A : List (List Int)} (h : RowsX p c A) : (rw' A 0).length = c := h.len 0 h.lo
theorem bes_rows {p : Int} {A O : List (List Int)} {d : Nat} (h : Lst 1 p A) (hO : ∀ i, i < A.length → (rw' O i).length = d) (hd : d ≤ 64) (hr : ∀ i, i < A.length → ∀ j, j < d → 0 ≤ at' O i j ∧ at' O i j < p) : RowsX p ((rw' A 0).length + d) (bes A O) where
  prime := h.prime
  lo := by rw [bes_len]; exact h.lo
  hi := by rw [bes_len]; have := h.hi; omega
  c0 := by have := h.c0 0 h.lo; omega
  c1 := by have := h.c1 0 h.lo; omega
  len i hi := by
    rw [bes_len] at hi
    rw [bes_row hi, List.length_append, h.len i hi, hO i hi]
  rng i hi j hj := by
    rw [bes_len] at hi
    have hl : (rw' A i).length = (rw' A 0).length := h.len i hi
    rw [bes_at hi hl]
    split
    · rename_i e; exact h.at hi e
    · exact hr i hi _ (by omega)
theorem col_rows {p : Int} {A : List (List Int)} {v : List Int} (h : Lst 1 p A) (hl : v.length = A.length) (hv : v.all (inr p) = true) : RowsX p ((rw' A 0).length + 1) (bes A (col v)) := by
  refine bes_rows h (fun i hi => by rw [col_row (by omega)]; rfl) (by omega) (fun i hi j hj => ?_)
  have e : at' (col v) i j = v.getD i 0 := by
    have : j = 0 := by omega
    subst this
    unfold at'; rw [col_row (by omega)]; rfl
  rw [e]
  rw [List.all_eq_true] at hv
  have hi' : i < v.length := by omega
  have hm : v.getD i 0 ∈ v := by simp [List.getD, hi']
  exact inr_iff.1 (hv _ hm)

/-- The numbers of a solution after i rows: c is the place of the right side. -/
def solvec (B : List (List Int)) (P : Nat → Nat) (c i : Nat) : List Int := mkR c fun j => sm i fun i' => if j = P i' then at' B i' c else 0
theorem solvec_len (B : List (List Int)) (P : Nat → Nat) (c i : Nat) : (solvec B P c i).length = c := mkR_len _ _
theorem solvec_zero (B : List (List Int)) (P : Nat → Nat) (c : Nat) : solvec B P c 0 = mkR c fun _ => 0 := rfl
noncomputable def solB (p : Int) (A : List (List Int)) (v : List Int) : List (List Int) := bas p (bes A (col v))
noncomputable def solOk (p : Int) (A : List (List Int)) (v : List Int) : Bool := !isPv (pvs (solB p A v)) (solB p A v).length (rw' A 0).length
noncomputable def solL (p : Int) (A : List (List Int)) (v : List Int) : List Int := if solOk p A v = true then solvec (solB p A v) (pvs (solB p A v)) (rw' A 0).length (solB p A v).length else []

end Go.Proofs.Ytihanbfbgiiakaa
