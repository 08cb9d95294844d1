/-
  Multivectors: sizes, codes, grades; what chapter 4 makes of them. No Go in sight.
  No conditions.
-/
import Derived.Test.YtcmedhkamjclmaaChV
namespace Go.Proofs.Ytcmedhkamjclmaa
open Go.RowKit
set_option linter.unusedVariables false

/-- How many blades there are. -/
def bl (S : List Int) : Nat := 2 ^ S.length
theorem bl_le {S : List Int} (h : S.length ≤ 6) : bl S ≤ 64 := Nat.pow_le_pow_right (by decide) h
theorem bl_pos (S : List Int) : 0 < bl S := Nat.two_pow_pos _
def isMv (p : Int) (S x : List Int) : Bool := isVec p (bl S) x
def codeMv (p : Int) (S : List Int) (m : List (List Int)) : Int := if isSp p S = true then (if m.all (isMv p S) = true then 0 else 2) else 1
theorem codeMv_sp {p : Int} {S : List Int} {m : List (List Int)} (h : isSp p S = false) : codeMv p S m = 1 := if_neg (by simp [h])
theorem codeMv_ok {p : Int} {S : List Int} {m : List (List Int)} (h : isSp p S = true) (k : m.all (isMv p S) = true) : codeMv p S m = 0 := by unfold codeMv; rw [if_pos h, if_pos k]
theorem codeMv_no {p : Int} {S : List Int} {m : List (List Int)} (h : isSp p S = true) (k : m.all (isMv p S) = false) : codeMv p S m = 2 := by unfold codeMv; rw [if_pos h, if_neg (by simp [k])]
theorem codeMv_cases (p : Int) (S : List Int) (m : List (List Int)) : (isSp p S = false ∧ codeMv p S m = 1) ∨ (isSp p S = true ∧ m.all (isMv p S) = true ∧ codeMv p S m = 0) ∨ (isSp p S = true ∧ m.all (isMv p S) = false ∧ codeMv p S m = 2) := by
  by_cases h : isSp p S = true
  · by_cases k : m.all (isMv p S) = true
    · exact .inr (.inl ⟨h, k, codeMv_ok h k⟩)
    · have k' : m.all (isMv p S) = false := by simpa using k
      exact .inr (.inr ⟨h, k', codeMv_no h k'⟩)
  · have h' : isSp p S = false := by simpa using h
    exact .inl ⟨h', codeMv_sp h'⟩
theorem codeMv_zero {p : Int} {S : List Int} {m : List (List Int)} : codeMv p S m = 0 ↔ isSp p S = true ∧ m.all (isMv p S) = true := by
  rcases codeMv_cases p S m with ⟨h, c⟩ | ⟨h, k, c⟩ | ⟨h, k, c⟩ <;> rw [c]
  · exact ⟨fun e => (by cases e), fun e => (by have e1 := e.1; rw [h] at e1; cases e1)⟩
  · exact ⟨fun _ => ⟨h, k⟩, fun _ => rfl⟩
  · exact ⟨fun e => (by cases e), fun e => (by have e1 := e.2; rw [k] at e1; cases e1)⟩
theorem mv_all1 (f : List Int → Bool) (x : List Int) : [x].all f = f x := by simp
theorem mv_all2 (f : List Int → Bool) (x y : List Int) : [x, y].all f = (f x && f y) := by simp

/-- The grade of a blade. -/
def gr (m : Nat) : Nat := m % 2 + m / 2 % 2 + m / 4 % 2 + m / 8 % 2 + m / 16 % 2 + m / 32 % 2
theorem gr_step {m : Nat} (h : m < 64) : gr m = m % 2 + gr (m / 2) := by unfold gr; omega
theorem gr_le (m : Nat) : gr m ≤ 6 := by unfold gr; omega
theorem gr_zero : gr 0 = 0 := rfl
theorem gr_le_of {n : Nat} (hn : n ≤ 6) {m : Nat} (h : m < 2 ^ n) : gr m ≤ n := by
  have : n = 0 ∨ n = 1 ∨ n = 2 ∨ n = 3 ∨ n = 4 ∨ n = 5 ∨ n = 6 := by omega
  unfold gr
  rcases this with rfl | rfl | rfl | rfl | rfl | rfl | rfl <;> omega

/-- What chapter 4 makes of multivectors. -/
def vecF (v : List Int) : Nat → Nat → Int
  | 0, _ => 0
  | i + 1, m => if m = 2 ^ i then v.getD i 0 else vecF v i m
def vecM (S v : List Int) : List Int := mkR (bl S) (vecF v v.length)
def bladeM (S : List Int) (k : Nat) : List Int := mkR (bl S) fun j => if j = k then 1 else 0
def addV (p : Int) (x y : List Int) : List Int := mkR x.length fun j => (x.getD j 0 + 1 * y.getD j 0) % p
def sclV (p : Int) (x : List Int) (k : Int) : List Int := mkR x.length fun j => x.getD j 0 * k % p
def partM (x : List Int) (k : Int) : List Int := mkR x.length fun j => if ((gr j : Nat) : Int) = k then x.getD j 0 else 0
def sgF (p : Int) (c : Nat → Nat) (x : List Int) (j : Nat) : Int := if c (gr j) % 2 = 1 then (p - x.getD j 0) % p else x.getD j 0
/-- Signs changed as often as told. -/
def sgnM (p : Int) (c : Nat → Nat) (x : List Int) : List Int := mkR x.length fun j => if c (gr j) % 2 = 1 then (p - x.getD j 0) % p else x.getD j 0
def hasGr (x : List Int) (k : Nat) : Bool := (List.range x.length).any fun j => decide (gr j = k) && decide (x.getD j 0 ≠ 0)
def grades (S x : List Int) : List Int := ((List.range (S.length + 1)).filter (hasGr x)).map fun (k : Nat) => (k : Int)
def isEv (x : List Int) : Bool := (List.range x.length).all fun j => decide (gr j % 2 = 0) || decide (x.getD j 0 = 0)
theorem hasGr_iff {x : List Int} {k : Nat} : hasGr x k = true ↔ ∃ j, j < x.length ∧ gr j = k ∧ x.getD j 0 ≠ 0 := by
  unfold hasGr
  simp only [List.any_eq_true, List.mem_range, Bool.and_eq_true, decide_eq_true_eq]
theorem isEv_iff {x : List Int} : isEv x = true ↔ ∀ j, j < x.length → x.getD j 0 ≠ 0 → gr j % 2 = 0 := by
  unfold isEv
  simp only [List.all_eq_true, List.mem_range]
  constructor
  · intro h j hj hx
    have h2 := h j hj
    rw [Bool.or_eq_true, decide_eq_true_eq, decide_eq_true_eq] at h2
    exact h2.resolve_right hx
  · intro h j hj
    rw [Bool.or_eq_true, decide_eq_true_eq, decide_eq_true_eq]
    by_cases e : x.getD j 0 = 0
    · exact .inr e
    · exact .inl (h j hj e)

end Go.Proofs.Ytcmedhkamjclmaa
