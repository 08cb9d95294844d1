/-
  What the program's and the model's checks of lists of numbers, matrices and lists of vectors return.
  Conditions: they are nil or rows of known cells.
-/
import Derived.Test.YtcmedhkamjclmaaRowC
namespace Go.Proofs.Ytcmedhkamjclmaa
open Go.RowKit Go.ChangeShapes Go.WideShapes
set_option linter.unusedVariables false

theorem isM_nprime {p : Int} {n : Nat} {m : List (List Int)} (h : prm p = false) : isL n p m = false := not_isL fun k => by rw [k.prime] at h; cases h
theorem isM_nlen {p : Int} {n : Nat} {m : List (List Int)} (h : ¬ (n ≤ m.length ∧ m.length ≤ 16)) : isL n p m = false := not_isL fun k => h ⟨k.lo, k.hi⟩
theorem isM_nrow {p : Int} {n : Nat} {m : List (List Int)} {i : Nat} (hi : i < m.length) (h : ¬ (1 ≤ (rw' m i).length ∧ (rw' m i).length ≤ 16)) : isL n p m = false := not_isL fun k => h ⟨k.c0 i hi, k.c1 i hi⟩
theorem isM_ncol {p : Int} {n : Nat} {m : List (List Int)} {i : Nat} (hi : i < m.length) (h : ¬ (rw' m i).length = (rw' m 0).length) : isL n p m = false := not_isL fun k => h (k.len i hi)
theorem isM_nall {p : Int} {n : Nat} {m : List (List Int)} {i : Nat} (hi : i < m.length) (h : (rw' m i).all (inr p) = false) : isL n p m = false := not_isL fun k => by rw [k.all i hi] at h; cases h
/-- What has been seen of the first i rows. -/
def Seen (p : Int) (m : List (List Int)) (i : Nat) : Prop := ∀ i', i' < i → (rw' m i').length = (rw' m 0).length ∧ (1 ≤ (rw' m i').length ∧ (rw' m i').length ≤ 16) ∧ (rw' m i').all (inr p) = true
theorem Seen.zero (p : Int) (m : List (List Int)) : Seen p m 0 := fun i' h => by omega
theorem Seen.next {p : Int} {m : List (List Int)} {i : Nat} (h : Seen p m i) (h1 : (rw' m i).length = (rw' m 0).length) (h2 : 1 ≤ (rw' m i).length ∧ (rw' m i).length ≤ 16) (h3 : (rw' m i).all (inr p) = true) : Seen p m (i + 1) := by
  intro i' hi'
  by_cases e : i' = i
  · subst e; exact ⟨h1, h2, h3⟩
  · exact h i' (by omega)
theorem Seen.yes {p : Int} {n : Nat} {m : List (List Int)} {i : Nat} (h : Seen p m i) (hi : m.length ≤ i) (hp : prm p = true) (h1 : n ≤ m.length ∧ m.length ≤ 16) : isL n p m = true :=
  isL_iff.2 ⟨hp, h1.1, h1.2, fun j hj => (h j (by omega)).1, fun j hj => (h j (by omega)).2.1.1, fun j hj => (h j (by omega)).2.1.2, fun j hj => (h j (by omega)).2.2⟩
theorem neq_spell {a b : Nat} (h : ¬ a = b) : ((a : Int) == (b : Int)) = false ∧ ((a : Int) != (b : Int)) = true := by
  have : ¬ (a : Int) = (b : Int) := by omega
  simp [this]
theorem codeOf_all {p : Int} {zs : List Int} (hp : prm p = true) : codeOf p zs = if zs.all (inr p) = true then 0 else 2 := by simp [codeOf, hp]

end Go.Proofs.Ytcmedhkamjclmaa
