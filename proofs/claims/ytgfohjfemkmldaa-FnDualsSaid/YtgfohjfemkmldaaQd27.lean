/-
  Products of a kind: wedge product, left and right contraction: sums. No Go in sight.
  No conditions.
-/
import Derived.Test.YtgfohjfemkmldaaQd20
namespace Go.Proofs.Ytgfohjfemkmldaa
open Go.RowKit
set_option linter.unusedVariables false

/-- Whether the product of two blades is kept: 0 the wedge product, 1 the left contraction, else the right one. -/
def kp (κ a b : Nat) : Bool := if κ = 0 then a &&& b == 0 else if κ = 1 then a &&& b == a else a &&& b == b
def tk (p : Int) (S : List Int) (κ : Nat) (x y : List Int) (c a : Nat) : Int := if kp κ a (a ^^^ c) = true then tm p S x y c a else 0
/-- The number at c of the product of a kind. -/
def kF (p : Int) (S : List Int) (κ : Nat) (x y : List Int) (c : Nat) : Int := sm (bl S) (tk p S κ x y c) % p
def kM (p : Int) (S : List Int) (κ : Nat) (x y : List Int) : List Int := mkR (bl S) (kF p S κ x y)
theorem kM_len (p : Int) (S : List Int) (κ : Nat) (x y : List Int) : (kM p S κ x y).length = bl S := mkR_len _ _
theorem kM_at (p : Int) (S : List Int) (κ : Nat) (x y : List Int) {c : Nat} (hc : c < bl S) : (kM p S κ x y).getD c 0 = kF p S κ x y c := mkR_at _ hc
theorem kF_bd {p : Int} (hp : 0 < p) (S : List Int) (κ : Nat) (x y : List Int) (c : Nat) : 0 ≤ kF p S κ x y c ∧ kF p S κ x y c < p := ⟨Int.emod_nonneg _ (by omega), Int.emod_lt_of_pos _ hp⟩
theorem tk_yes {p : Int} {S : List Int} {κ : Nat} {x y : List Int} {a b : Nat} (h : kp κ a b = true) : tk p S κ x y (a ^^^ b) a = tm p S x y (a ^^^ b) a := by unfold tk; rw [xor_back, if_pos h]
theorem tk_no {p : Int} {S : List Int} {κ : Nat} {x y : List Int} {a b : Nat} (h : kp κ a b = false) : tk p S κ x y (a ^^^ b) a = 0 := by unfold tk; rw [xor_back, if_neg (by simp [h])]

/-- The number at c, when the products of the first i numbers, and those of the number i with the first k of the other one, have been added. -/
def pk (p : Int) (S : List Int) (κ : Nat) (x y : List Int) (i k c : Nat) : Int := (sm i (tk p S κ x y c) + if i ^^^ c < k then tk p S κ x y c i else 0) % p
theorem pk_bd {p : Int} (hp : 0 < p) (S : List Int) (κ : Nat) (x y : List Int) (i k c : Nat) : 0 ≤ pk p S κ x y i k c ∧ pk p S κ x y i k c < p := ⟨Int.emod_nonneg _ (by omega), Int.emod_lt_of_pos _ hp⟩
theorem pk_start (p : Int) (S : List Int) (κ : Nat) (x y : List Int) (i c : Nat) : pk p S κ x y i 0 c = sm i (tk p S κ x y c) % p := by
  unfold pk; rw [if_neg (Nat.not_lt_zero _), Int.add_zero]
theorem pk_end (p : Int) (S : List Int) (κ : Nat) (x y : List Int) {i c : Nat} (hi : i < bl S) (hc : c < bl S) : pk p S κ x y i (bl S) c = sm (i + 1) (tk p S κ x y c) % p := by
  unfold pk; rw [if_pos (show i ^^^ c < bl S from Nat.xor_lt_two_pow hi hc)]; rfl
theorem pk_skip {p : Int} {S : List Int} {κ : Nat} {x y : List Int} {i k : Nat} (h : kp κ i k = false) (c : Nat) : pk p S κ x y i k c = pk p S κ x y i (k + 1) c := by
  unfold pk
  by_cases e : i ^^^ c = k
  · have e2 : c = i ^^^ k := by rw [← e, xor_back]
    rw [if_neg (by omega), if_pos (by omega), e2, tk_no h]
  · by_cases e2 : i ^^^ c < k
    · rw [if_pos e2, if_pos (by omega)]
    · rw [if_neg e2, if_neg (by omega)]
theorem pk_here (p : Int) (S : List Int) (κ : Nat) (x y : List Int) (i k : Nat) : pk p S κ x y i k (i ^^^ k) = sm i (tk p S κ x y (i ^^^ k)) % p := by
  unfold pk; rw [xor_back, if_neg (Nat.lt_irrefl _), Int.add_zero]
theorem pk_put (p : Int) (S : List Int) (κ : Nat) (x y : List Int) {i k : Nat} (hk : kp κ i k = true) {v : Int} (hv : v = (pk p S κ x y i k (i ^^^ k) + x.getD i 0 * y.getD k 0 % p * fm p S i k S.length) % p) (c : Nat) : (if c = i ^^^ k then v else pk p S κ x y i k c) = pk p S κ x y i (k + 1) c := by
  by_cases e : c = i ^^^ k
  · rw [if_pos e, hv, e, pk_here]
    unfold pk
    rw [xor_back, if_pos (Nat.lt_succ_self k), tk_yes hk]
    unfold tm
    rw [xor_back, Int.add_emod, em_l, Int.emod_emod, ← Int.add_emod]
    congr 2
    rw [Int.mul_assoc, Int.mul_assoc, Int.mul_comm (y.getD k 0)]
  · rw [if_neg e]
    have e3 : ¬ i ^^^ c = k := fun h => e (by rw [← h, xor_back])
    unfold pk
    by_cases e2 : i ^^^ c < k
    · rw [if_pos e2, if_pos (by omega)]
    · rw [if_neg e2, if_neg (by omega)]
theorem and_64 {a b : Nat} (ha : a < 64) (hb : b < 64) : bits .and .i64 (a : Int) (b : Int) = ((a &&& b : Nat) : Int) := by
  have h : ∀ a : Nat, a < 64 → ∀ b : Nat, b < 64 → bits .and .i64 (a : Int) (b : Int) = ((a &&& b : Nat) : Int) := by decide +kernel
  exact h a ha b hb
theorem beq_nat (a b : Nat) : ((a : Int) == (b : Int)) = (a == b) := by
  by_cases h : a = b
  · subst h; simp
  · have h2 : ¬ (a : Int) = (b : Int) := by omega
    rw [beq_eq_false_iff_ne.2 h2, beq_eq_false_iff_ne.2 h]
theorem bne_nat (a b : Nat) : ((a : Int) != (b : Int)) = !(a == b) := by unfold bne; rw [beq_nat]
theorem beq_nat0 (a : Nat) : ((a : Int) == 0) = (a == 0) := beq_nat a 0
theorem bne_nat0 (a : Nat) : ((a : Int) != 0) = !(a == 0) := bne_nat a 0

end Go.Proofs.Ytgfohjfemkmldaa
