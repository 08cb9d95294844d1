/-
  Products of a kind: wedge product, left and right contraction: sums. No Go in sight.
  No conditions.
  Products of a kind, over the integers: how they go together. No Go in sight.
  No conditions.
-/
import Derived.Test.YtbnegbpapjcmhaaGreatQy10
namespace Go.Proofs.YtbnegbpapjcmhaaGreat
open Go.RowKit
set_option linter.unusedVariables false

/-- Whether the product of two blades is kept: 0 the wedge product, 1 the left contraction, else the right one. -/
def kp (κ a b : Nat) : Bool := if κ = 0 then a &&& b == 0 else if κ = 1 then a &&& b == a else a &&& b == b
def tk (p : Int) (S : List Int) (κ : Nat) (x y : List Int) (c a : Nat) : Int := if kp κ a (a ^^^ c) = true then tm p S x y c a else 0
/-- The number at c of the product of a kind. -/
def kF (p : Int) (S : List Int) (κ : Nat) (x y : List Int) (c : Nat) : Int := sm (bl S) (tk p S κ x y c) % p
def kM (p : Int) (S : List Int) (κ : Nat) (x y : List Int) : List Int := mkR (bl S) (kF p S κ x y)
theorem kM_len (p : Int) (S : List Int) (κ : Nat) (x y : List Int) : (kM p S κ x y).length = bl S := mkR_len _ _
theorem kM_at (p : Int) (S : List Int) (κ : Nat) (x y : List Int) {c : Nat} (hc : c < bl S) : (kM p S κ x y).getD c 0 = kF p S κ x y c := mkR_at _ hc
theorem kF_bd {p : Int} (hp : 0 < p) (S : List Int) (κ : Nat) (x y : List Int) (c : Nat) : 0 ≤ kF p S κ x y c ∧ kF p S κ x y c < p := ⟨Int.emod_nonneg _ (by omega), Int.emod_lt_of_pos _ hp⟩
theorem tk_yes {p : Int} {S : List Int} {κ : Nat} {x y : List Int} {a b : Nat} (h : kp κ a b = true) : tk p S κ x y (a ^^^ b) a = tm p S x y (a ^^^ b) a := by unfold tk; rw [xor_back, if_pos h]
theorem tk_no {p : Int} {S : List Int} {κ : Nat} {x y : List Int} {a b : Nat} (h : kp κ a b = false) : tk p S κ x y (a ^^^ b) a = 0 := by unfold tk; rw [xor_back, if_neg (by simp [h])]

/-- The number at c, when the products of the first i numbers, and those of the number i with the first k of the other one, have been added. -/
def pk (p : Int) (S : List Int) (κ : Nat) (x y : List Int) (i k c : Nat) : Int := (sm i (tk p S κ x y c) + if i ^^^ c < k then tk p S κ x y c i else 0) % p
theorem pk_bd {p : Int} (hp : 0 < p) (S : List Int) (κ : Nat) (x y : List Int) (i k c : Nat) : 0 ≤ pk p S κ x y i k c ∧ pk p S κ x y i k c < p := ⟨Int.emod_nonneg _ (by omega), Int.emod_lt_of_pos _ hp⟩
theorem pk_start (p : Int) (S : List Int) (κ : Nat) (x y : List Int) (i c : Nat) : pk p S κ x y i 0 c = sm i (tk p S κ x y c) % p := by
  unfold pk; rw [if_neg (Nat.not_lt_zero _), Int.add_zero]
theorem pk_end (p : Int) (S : List Int) (κ : Nat) (x y : List Int) {i c : Nat} (hi : i < bl S) (hc : c < bl S) : pk p S κ x y i (bl S) c = sm (i + 1) (tk p S κ x y c) % p := by
  unfold pk; rw [if_pos (show i ^^^ c < bl S from Nat.xor_lt_two_pow hi hc)]; rfl
theorem pk_skip {p : Int} {S : List Int} {κ : Nat} {x y : List Int} {i k : Nat} (h : kp κ i k = false) (c : Nat) : pk p S κ x y i k c = pk p S κ x y i (k + 1) c := by
  unfold pk
  by_cases e : i ^^^ c = k
  · have e2 : c = i ^^^ k := by rw [← e, xor_back]
    rw [if_neg (by omega), if_pos (by omega), e2, tk_no h]
  · by_cases e2 : i ^^^ c < k
    · rw [if_pos e2, if_pos (by omega)]
    · rw [if_neg e2, if_neg (by omega)]
theorem pk_here (p : Int) (S : List Int) (κ : Nat) (x y : List Int) (i k : Nat) : pk p S κ x y i k (i ^^^ k) = sm i (tk p S κ x y (i ^^^ k)) % p := by
  unfold pk; rw [xor_back, if_neg (Nat.lt_irrefl _), Int.add_zero]
theorem pk_put (p : Int) (S : List Int) (κ : Nat) (x y : List Int) {i k : Nat} (hk : kp κ i k = true) {v : Int} (hv : v = (pk p S κ x y i k (i ^^^ k) + x.getD i 0 * y.getD k 0 % p * fm p S i k S.length) % p) (c : Nat) : (if c = i ^^^ k then v else pk p S κ x y i k c) = pk p S κ x y i (k + 1) c := by
  by_cases e : c = i ^^^ k
  · rw [if_pos e, hv, e, pk_here]
    unfold pk
    rw [xor_back, if_pos (Nat.lt_succ_self k), tk_yes hk]
    unfold tm
    rw [xor_back, Int.add_emod, em_l, Int.emod_emod, ← Int.add_emod]
    congr 2
    rw [Int.mul_assoc, Int.mul_assoc, Int.mul_comm (y.getD k 0)]
  · rw [if_neg e]
    have e3 : ¬ i ^^^ c = k := fun h => e (by rw [← h, xor_back])
    unfold pk
    by_cases e2 : i ^^^ c < k
    · rw [if_pos e2, if_pos (by omega)]
    · rw [if_neg e2, if_neg (by omega)]
theorem and_64 {a b : Nat} (ha : a < 64) (hb : b < 64) : bits .and .i64 (a : Int) (b : Int) = ((a &&& b : Nat) : Int) := by
  have h : ∀ a : Nat, a < 64 → ∀ b : Nat, b < 64 → bits .and .i64 (a : Int) (b : Int) = ((a &&& b : Nat) : Int) := by decide +kernel
  exact h a ha b hb
theorem beq_nat (a b : Nat) : ((a : Int) == (b : Int)) = (a == b) := by
  by_cases h : a = b
  · subst h; simp
  · have h2 : ¬ (a : Int) = (b : Int) := by omega
    rw [beq_eq_false_iff_ne.2 h2, beq_eq_false_iff_ne.2 h]
theorem bne_nat (a b : Nat) : ((a : Int) != (b : Int)) = !(a == b) := by unfold bne; rw [beq_nat]
theorem beq_nat0 (a : Nat) : ((a : Int) == 0) = (a == 0) := beq_nat a 0
theorem bne_nat0 (a : Nat) : ((a : Int) != 0) = !(a == 0) := bne_nat a 0

end Go.Proofs.YtbnegbpapjcmhaaGreat

namespace Go.Proofs.YtbnegbpapjcmhaaGreat
open Go.RowKit
set_option linter.unusedVariables false

theorem kp0_iff {a b : Nat} : kp 0 a b = true ↔ ∀ i, (a.testBit i && b.testBit i) = false := by
  unfold kp
  rw [if_pos rfl, beq_iff_eq]
  constructor
  · intro h i
    rw [← Nat.testBit_and, h, Nat.zero_testBit]
  · intro h
    exact Nat.eq_of_testBit_eq fun i => by rw [Nat.testBit_and, h i, Nat.zero_testBit]
theorem kp_wedge (a b e : Nat) : (kp 0 a b && kp 0 (a ^^^ b) e) = (kp 0 a (b ^^^ e) && kp 0 b e) := by
  rw [Bool.eq_iff_iff, Bool.and_eq_true, Bool.and_eq_true, kp0_iff, kp0_iff, kp0_iff, kp0_iff]
  constructor
  · rintro ⟨h, k⟩
    refine ⟨fun i => ?_, fun i => ?_⟩ <;>
    · have h1 := h i
      have k1 := k i
      rw [Nat.testBit_xor] at *
      revert h1 k1
      cases a.testBit i <;> cases b.testBit i <;> cases e.testBit i <;> simp
  · rintro ⟨h, k⟩
    refine ⟨fun i => ?_, fun i => ?_⟩ <;>
    · have h1 := h i
      have k1 := k i
      rw [Nat.testBit_xor] at *
      revert h1 k1
      cases a.testBit i <;> cases b.testBit i <;> cases e.testBit i <;> simp
/-- The factor of the product of two blades, where it is kept. -/
def fk (S : List Int) (κ a b n : Nat) : Int := if kp κ a b = true then fz S a b n else 0
def kpz (S : List Int) (n κ : Nat) (x y : Nat → Int) (c : Nat) : Int := sm (2 ^ n) fun a => x a * fk S κ a (a ^^^ c) n * y (a ^^^ c)
theorem fk_coc (S : List Int) {κ1 κ2 κ3 κ4 : Nat} (h : ∀ a b e, (kp κ1 a b && kp κ2 (a ^^^ b) e) = (kp κ3 a (b ^^^ e) && kp κ4 b e)) (a b e n : Nat) : fk S κ1 a b n * fk S κ2 (a ^^^ b) e n = fk S κ3 a (b ^^^ e) n * fk S κ4 b e n := by
  have hk := h a b e
  have hf := fz_coc S a b e n
  unfold fk
  revert hk
  cases kp κ1 a b <;> cases kp κ2 (a ^^^ b) e <;> cases kp κ3 a (b ^^^ e) <;> cases kp κ4 b e <;> simp [hf]
theorem kpz_assoc (S : List Int) (n : Nat) {κ1 κ2 κ3 κ4 : Nat} (hk : ∀ a b e, (kp κ1 a b && kp κ2 (a ^^^ b) e) = (kp κ3 a (b ^^^ e) && kp κ4 b e)) (x y z : Nat → Int) {d : Nat} (hd : d < 2 ^ n) : kpz S n κ2 (kpz S n κ1 x y) z d = kpz S n κ3 x (kpz S n κ4 y z) d := by
  unfold kpz
  have h1 : ∀ c, c < 2 ^ n → (sm (2 ^ n) fun a => x a * fk S κ1 a (a ^^^ c) n * y (a ^^^ c)) * fk S κ2 c (c ^^^ d) n * z (c ^^^ d) = sm (2 ^ n) fun a => x a * (fk S κ3 a (a ^^^ d) n * fk S κ4 (a ^^^ c) (c ^^^ d) n) * (y (a ^^^ c) * z (c ^^^ d)) := fun c _ => by
    rw [Int.mul_assoc, Int.mul_comm, ← sm_mul]
    apply sm_congr
    intro a _
    have h := fk_coc S hk a (a ^^^ c) (c ^^^ d) n
    rw [xor_back, show (a ^^^ c) ^^^ (c ^^^ d) = a ^^^ d by rw [Nat.xor_assoc, xor_back]] at h
    rw [← h]
    ac_rfl
  rw [sm_congr h1, sm_swap]
  apply sm_congr
  intro a ha
  have h2 : x a * fk S κ3 a (a ^^^ d) n * (sm (2 ^ n) fun b => y b * fk S κ4 b (b ^^^ (a ^^^ d)) n * z (b ^^^ (a ^^^ d))) = sm (2 ^ n) fun b => x a * fk S κ3 a (a ^^^ d) n * (y b * fk S κ4 b (b ^^^ (a ^^^ d)) n * z (b ^^^ (a ^^^ d))) := by rw [sm_mul]
  rw [h2, ← sm_xor n a ha (fun b => x a * fk S κ3 a (a ^^^ d) n * (y b * fk S κ4 b (b ^^^ (a ^^^ d)) n * z (b ^^^ (a ^^^ d))))]
  apply sm_congr
  intro c _
  show _ = x a * fk S κ3 a (a ^^^ d) n * (y (c ^^^ a) * fk S κ4 (c ^^^ a) (c ^^^ a ^^^ (a ^^^ d)) n * z (c ^^^ a ^^^ (a ^^^ d)))
  rw [Nat.xor_comm c a, xor_mid]
  ac_rfl
theorem kpz_mod {p : Int} (S : List Int) (n κ : Nat) {x x' y y' : Nat → Int} {c : Nat} (hc : c < 2 ^ n) (hx : ∀ j, j < 2 ^ n → x j % p = x' j % p) (hy : ∀ j, j < 2 ^ n → y j % p = y' j % p) : kpz S n κ x y c % p = kpz S n κ x' y' c % p :=
  sm_congr_p fun a ha => by
    rw [Int.mul_emod, Int.mul_emod (x a), hx a ha, hy _ (Nat.xor_lt_two_pow ha hc), ← Int.mul_emod (x' a), ← Int.mul_emod]
theorem kF_eq (p : Int) (S : List Int) (κ : Nat) (x y : List Int) (c : Nat) : kF p S κ x y c = kpz S S.length κ (fun j => x.getD j 0) (fun j => y.getD j 0) c % p := by
  unfold kF kpz
  exact sm_congr_p fun a _ => by
    unfold tk fk tm fm
    by_cases h : kp κ a (a ^^^ c) = true
    · rw [if_pos h, if_pos h, Int.mul_emod, Int.mul_emod (x.getD a 0), Int.emod_emod, ← Int.mul_emod (x.getD a 0), ← Int.mul_emod]
    · rw [if_neg h, if_neg h, Int.mul_zero, Int.zero_mul]
theorem kM_assoc (p : Int) (S : List Int) {κ1 κ2 κ3 κ4 : Nat} (hk : ∀ a b e, (kp κ1 a b && kp κ2 (a ^^^ b) e) = (kp κ3 a (b ^^^ e) && kp κ4 b e)) (x y z : List Int) : kM p S κ2 (kM p S κ1 x y) z = kM p S κ3 x (kM p S κ4 y z) :=
  mkR_congr fun d hd => by
    have hd' : d < 2 ^ S.length := hd
    rw [kF_eq, kF_eq]
    rw [kpz_mod S S.length κ2 hd' (x' := kpz S S.length κ1 (fun j => x.getD j 0) (fun j => y.getD j 0)) (y' := fun j => z.getD j 0) (fun j hj => by rw [kM_at p S κ1 x y hj, kF_eq]; exact Int.emod_emod _ _) (fun j _ => rfl), kpz_assoc S S.length hk _ _ _ hd',
      kpz_mod S S.length κ3 hd' (x' := fun j => x.getD j 0) (y' := fun j => (kM p S κ4 y z).getD j 0) (fun j _ => rfl) (fun j hj => by rw [kM_at p S κ4 y z hj, kF_eq]; exact (Int.emod_emod _ _).symm)]
theorem wedge_assoc (p : Int) (S x y z : List Int) : kM p S 0 (kM p S 0 x y) z = kM p S 0 x (kM p S 0 y z) := kM_assoc p S kp_wedge x y z
end Go.Proofs.YtbnegbpapjcmhaaGreat
