/-
  Products of a kind, over the integers: how they go together. No Go in sight.
  No conditions.
  Contractions: turned round by reversals, and by vectors. No Go in sight.
  No conditions.
-/
import Derived.Test.YthifnhekmenjaaaQc32
import Derived.Test.YthifnhekmenjaaaQc29
import Derived.Test.YthifnhekmenjaaaQc17
namespace Go.Proofs.Ythifnhekmenjaaa
open Go.RowKit
set_option linter.unusedVariables false

theorem kp0_iff {a b : Nat} : kp 0 a b = true ↔ ∀ i, (a.testBit i && b.testBit i) = false := by
  unfold kp
  rw [if_pos rfl, beq_iff_eq]
  constructor
  · intro h i
    rw [← Nat.testBit_and, h, Nat.zero_testBit]
  · intro h
    exact Nat.eq_of_testBit_eq fun i => by rw [Nat.testBit_and, h i, Nat.zero_testBit]
theorem kp1_iff {a b : Nat} : kp 1 a b = true ↔ ∀ i, (a.testBit i && b.testBit i) = a.testBit i := by
  unfold kp
  rw [if_neg (by decide), if_pos rfl, beq_iff_eq]
  constructor
  · intro h i
    rw [← Nat.testBit_and, h]
  · intro h
    exact Nat.eq_of_testBit_eq fun i => by rw [Nat.testBit_and, h i]
theorem kp_left (a b e : Nat) : (kp 0 a b && kp 1 (a ^^^ b) e) = (kp 1 a (b ^^^ e) && kp 1 b e) := by
  rw [Bool.eq_iff_iff, Bool.and_eq_true, Bool.and_eq_true, kp0_iff, kp1_iff, kp1_iff, kp1_iff]
  constructor
  · rintro ⟨h, k⟩
    refine ⟨fun i => ?_, fun i => ?_⟩ <;>
    · have h1 := h i
      have k1 := k i
      simp only [Nat.testBit_xor] at *
      revert h1 k1
      cases a.testBit i <;> cases b.testBit i <;> cases e.testBit i <;> simp
  · rintro ⟨h, k⟩
    refine ⟨fun i => ?_, fun i => ?_⟩ <;>
    · have h1 := h i
      have k1 := k i
      simp only [Nat.testBit_xor] at *
      revert h1 k1
      cases a.testBit i <;> cases b.testBit i <;> cases e.testBit i <;> simp
/-- The factor of the product of two blades, where it is kept. -/
def fk (S : List Int) (κ a b n : Nat) : Int := if kp κ a b = true then fz S a b n else 0
def kpz (S : List Int) (n κ : Nat) (x y : Nat → Int) (c : Nat) : Int := sm (2 ^ n) fun a => x a * fk S κ a (a ^^^ c) n * y (a ^^^ c)
theorem fk_coc (S : List Int) {κ1 κ2 κ3 κ4 : Nat} (h : ∀ a b e, (kp κ1 a b && kp κ2 (a ^^^ b) e) = (kp κ3 a (b ^^^ e) && kp κ4 b e)) (a b e n : Nat) : fk S κ1 a b n * fk S κ2 (a ^^^ b) e n = fk S κ3 a (b ^^^ e) n * fk S κ4 b e n := by
  have hk := h a b e
  have hf := fz_coc S a b e n
  unfold fk
  revert hk
  cases kp κ1 a b <;> cases kp κ2 (a ^^^ b) e <;> cases kp κ3 a (b ^^^ e) <;> cases kp κ4 b e <;> simp [hf]
theorem kpz_assoc (S : List Int) (n : Nat) {κ1 κ2 κ3 κ4 : Nat} (hk : ∀ a b e, (kp κ1 a b && kp κ2 (a ^^^ b) e) = (kp κ3 a (b ^^^ e) && kp κ4 b e)) (x y z : Nat → Int) {d : Nat} (hd : d < 2 ^ n) : kpz S n κ2 (kpz S n κ1 x y) z d = kpz S n κ3 x (kpz S n κ4 y z) d := by
  unfold kpz
  have h1 : ∀ c, c < 2 ^ n → (sm (2 ^ n) fun a => x a * fk S κ1 a (a ^^^ c) n * y (a ^^^ c)) * fk S κ2 c (c ^^^ d) n * z (c ^^^ d) = sm (2 ^ n) fun a => x a * (fk S κ3 a (a ^^^ d) n * fk S κ4 (a ^^^ c) (c ^^^ d) n) * (y (a ^^^ c) * z (c ^^^ d)) := fun c _ => by
    rw [Int.mul_assoc, Int.mul_comm, ← sm_mul]
    apply sm_congr
    intro a _
    have h := fk_coc S hk a (a ^^^ c) (c ^^^ d) n
    rw [xor_back, show (a ^^^ c) ^^^ (c ^^^ d) = a ^^^ d by rw [Nat.xor_assoc, xor_back]] at h
    rw [← h]
    ac_rfl
  rw [sm_congr h1, sm_swap]
  apply sm_congr
  intro a ha
  have h2 : x a * fk S κ3 a (a ^^^ d) n * (sm (2 ^ n) fun b => y b * fk S κ4 b (b ^^^ (a ^^^ d)) n * z (b ^^^ (a ^^^ d))) = sm (2 ^ n) fun b => x a * fk S κ3 a (a ^^^ d) n * (y b * fk S κ4 b (b ^^^ (a ^^^ d)) n * z (b ^^^ (a ^^^ d))) := by rw [sm_mul]
  rw [h2, ← sm_xor n a ha (fun b => x a * fk S κ3 a (a ^^^ d) n * (y b * fk S κ4 b (b ^^^ (a ^^^ d)) n * z (b ^^^ (a ^^^ d))))]
  apply sm_congr
  intro c _
  show _ = x a * fk S κ3 a (a ^^^ d) n * (y (c ^^^ a) * fk S κ4 (c ^^^ a) (c ^^^ a ^^^ (a ^^^ d)) n * z (c ^^^ a ^^^ (a ^^^ d)))
  rw [Nat.xor_comm c a, xor_mid]
  ac_rfl
theorem kpz_mod {p : Int} (S : List Int) (n κ : Nat) {x x' y y' : Nat → Int} {c : Nat} (hc : c < 2 ^ n) (hx : ∀ j, j < 2 ^ n → x j % p = x' j % p) (hy : ∀ j, j < 2 ^ n → y j % p = y' j % p) : kpz S n κ x y c % p = kpz S n κ x' y' c % p :=
  sm_congr_p fun a ha => by
    rw [Int.mul_emod, Int.mul_emod (x a), hx a ha, hy _ (Nat.xor_lt_two_pow ha hc), ← Int.mul_emod (x' a), ← Int.mul_emod]
theorem kF_eq (p : Int) (S : List Int) (κ : Nat) (x y : List Int) (c : Nat) : kF p S κ x y c = kpz S S.length κ (fun j => x.getD j 0) (fun j => y.getD j 0) c % p := by
  unfold kF kpz
  exact sm_congr_p fun a _ => by
    unfold tk fk tm fm
    by_cases h : kp κ a (a ^^^ c) = true
    · rw [if_pos h, if_pos h, Int.mul_emod, Int.mul_emod (x.getD a 0), Int.emod_emod, ← Int.mul_emod (x.getD a 0), ← Int.mul_emod]
    · rw [if_neg h, if_neg h, Int.mul_zero, Int.zero_mul]
theorem kM_assoc (p : Int) (S : List Int) {κ1 κ2 κ3 κ4 : Nat} (hk : ∀ a b e, (kp κ1 a b && kp κ2 (a ^^^ b) e) = (kp κ3 a (b ^^^ e) && kp κ4 b e)) (x y z : List Int) : kM p S κ2 (kM p S κ1 x y) z = kM p S κ3 x (kM p S κ4 y z) :=
  mkR_congr fun d hd => by
    have hd' : d < 2 ^ S.length := hd
    rw [kF_eq, kF_eq]
    rw [kpz_mod S S.length κ2 hd' (x' := kpz S S.length κ1 (fun j => x.getD j 0) (fun j => y.getD j 0)) (y' := fun j => z.getD j 0) (fun j hj => by rw [kM_at p S κ1 x y hj, kF_eq]; exact Int.emod_emod _ _) (fun j _ => rfl), kpz_assoc S S.length hk _ _ _ hd',
      kpz_mod S S.length κ3 hd' (x' := fun j => x.getD j 0) (y' := fun j => (kM p S κ4 y z).getD j 0) (fun j _ => rfl) (fun j hj => by rw [kM_at p S κ4 y z hj, kF_eq]; exact (Int.emod_emod _ _).symm)]
theorem left_wedge (p : Int) (S x y z : List Int) : kM p S 1 (kM p S 0 x y) z = kM p S 1 x (kM p S 1 y z) := kM_assoc p S kp_left x y z

end Go.Proofs.Ythifnhekmenjaaa

namespace Go.Proofs.Ythifnhekmenjaaa
open Go.RowKit
set_option linter.unusedVariables false

theorem kp_turn (a b : Nat) : kp 2 b a = kp 1 a b := by
  unfold kp
  rw [if_neg (by decide), if_neg (by decide), if_neg (by decide), if_pos rfl, Nat.and_comm]
theorem fk_turn (S : List Int) {n a b : Nat} (hn : n ≤ 6) (ha : a < 2 ^ n) (hb : b < 2 ^ n) :
    eps (c_reversal (gr (a ^^^ b))) * fk S 1 a b n = eps (c_reversal (gr a)) * eps (c_reversal (gr b)) * fk S 2 b a n := by
  unfold fk
  rw [kp_turn]
  by_cases h : kp 1 a b = true
  · rw [if_pos h, if_pos h]; exact fz_turn S hn ha hb
  · rw [if_neg h, if_neg h, Int.mul_zero, Int.mul_zero]
theorem kpz_turn (S : List Int) (h6 : S.length ≤ 6) (x y : Nat → Int) {d : Nat} (hd : d < 2 ^ S.length) :
    eps (c_reversal (gr d)) * kpz S S.length 1 x y d = kpz S S.length 2 (fun j => eps (c_reversal (gr j)) * y j) (fun j => eps (c_reversal (gr j)) * x j) d := by
  unfold kpz
  rw [← sm_xor S.length d hd (fun a => eps (c_reversal (gr a)) * y a * fk S 2 a (a ^^^ d) S.length * (eps (c_reversal (gr (a ^^^ d))) * x (a ^^^ d))), ← sm_mul]
  apply sm_congr
  intro a ha
  have hb : a ^^^ d < 2 ^ S.length := Nat.xor_lt_two_pow ha hd
  have e2 : a ^^^ d ^^^ d = a := by rw [Nat.xor_assoc, Nat.xor_self, Nat.xor_zero]
  have h := fk_turn S h6 ha hb
  rw [xor_back] at h
  simp only [e2]
  generalize eps (c_reversal (gr d)) = t1 at *
  generalize eps (c_reversal (gr a)) = t2 at *
  generalize eps (c_reversal (gr (a ^^^ d))) = t3 at *
  generalize fk S 1 a (a ^^^ d) S.length = f1 at *
  generalize fk S 2 (a ^^^ d) a S.length = f2 at *
  generalize x a = u
  generalize y (a ^^^ d) = v
  calc t1 * (u * f1 * v) = (t1 * f1) * u * v := by ac_rfl
    _ = (t2 * t3 * f2) * u * v := by rw [h]
    _ = t3 * v * f2 * (t2 * u) := by ac_rfl
/-- The right contraction of the reverses, turned round, is the reverse of the left contraction. -/
theorem rev_left {p : Int} (hp : 0 < p) {S x y : List Int} (h6 : S.length ≤ 6) (hx : x.length = bl S) (hy : y.length = bl S) (nx : ∀ j, j < x.length → 0 ≤ x.getD j 0 ∧ x.getD j 0 < p) (ny : ∀ j, j < y.length → 0 ≤ y.getD j 0 ∧ y.getD j 0 < p) :
    kM p S 2 (mkR y.length (sgF p c_reversal y)) (mkR x.length (sgF p c_reversal x)) = mkR (kM p S 1 x y).length (sgF p c_reversal (kM p S 1 x y)) := by
  rw [kM_len]
  exact mkR_congr fun d hd => by
    have hb := kF_bd hp S 1 x y d
    rw [sgR_eq (x := kM p S 1 x y) (by rw [kM_at _ _ _ _ _ hd]; exact hb), kM_at _ _ _ _ _ hd, kF_eq, kF_eq, Int.mul_emod, Int.emod_emod, ← Int.mul_emod, kpz_turn S h6 _ _ hd]
    exact kpz_mod S S.length 2 hd (fun j hj => sg_mod ny (by rw [hy]; exact hj)) (fun j hj => sg_mod nx (by rw [hx]; exact hj))
theorem kp_vec (i b : Nat) : kp 1 (2 ^ i) b = !kp 0 (2 ^ i) b := by
  cases hb : b.testBit i with
  | true =>
    have h1 : kp 1 (2 ^ i) b = true := kp1_iff.2 fun k => by
      rw [Nat.testBit_two_pow]
      by_cases e : i = k
      · subst e; simp [hb]
      · simp [e]
    have h0 : kp 0 (2 ^ i) b = false := by
      cases e : kp 0 (2 ^ i) b with
      | false => rfl
      | true =>
        have := kp0_iff.1 e i
        rw [Nat.testBit_two_pow_self, hb] at this
        cases this
    rw [h1, h0]; rfl
  | false =>
    have h0 : kp 0 (2 ^ i) b = true := kp0_iff.2 fun k => by
      rw [Nat.testBit_two_pow]
      by_cases e : i = k
      · subst e; simp [hb]
      · simp [e]
    have h1 : kp 1 (2 ^ i) b = false := by
      cases e : kp 1 (2 ^ i) b with
      | false => rfl
      | true =>
        have := kp1_iff.1 e i
        rw [Nat.testBit_two_pow_self, hb] at this
        cases this
    rw [h1, h0]; rfl
theorem fk_vec (S : List Int) (i b n : Nat) : fz S (2 ^ i) b n = fk S 1 (2 ^ i) b n + fk S 0 (2 ^ i) b n := by
  unfold fk
  rw [kp_vec]
  cases kp 0 (2 ^ i) b <;> simp
/-- The product with a vector is the left contraction and the wedge product together. -/
theorem prod_split {p : Int} {S v y : List Int} (hv : ∀ a, a < bl S → v.getD a 0 ≠ 0 → ∃ i, a = 2 ^ i) : prodM p S v y = plusR p (kM p S 1 v y) (kM p S 0 v y) 1 := by
  unfold plusR
  rw [kM_len]
  apply mkR_congr
  intro c hc
  rw [kM_at _ _ _ _ _ hc, kM_at _ _ _ _ _ hc, Int.one_mul, kF_eq, kF_eq, ← Int.add_emod]
  unfold prodF
  congr 1
  unfold gpz kpz
  rw [← sm_add]
  apply sm_congr
  intro a ha
  show v.getD a 0 * _ * _ = v.getD a 0 * _ * _ + v.getD a 0 * _ * _
  by_cases h0 : v.getD a 0 = 0
  · rw [h0]; simp
  · obtain ⟨i, rfl⟩ := hv a ha h0
    rw [fk_vec, Int.mul_add, Int.add_mul]
theorem vecF_pow {v : List Int} {j : Nat} : ∀ k, vecF v k j ≠ 0 → ∃ i, j = 2 ^ i
  | 0, h => absurd rfl h
  | k + 1, h => by
    by_cases e : j = 2 ^ k
    · exact ⟨k, e⟩
    · exact vecF_pow k (by
        intro h2
        apply h
        show (if j = 2 ^ k then v.getD k 0 else vecF v k j) = 0
        rw [if_neg e]; exact h2)

end Go.Proofs.Ythifnhekmenjaaa
