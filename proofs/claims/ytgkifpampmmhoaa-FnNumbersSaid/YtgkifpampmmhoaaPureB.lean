/-
  Plain facts on powers with whole exponents, quotients and orders modulo the five primes. No Go in sight.
  No conditions.
-/
import Derived.Test.YtgkifpampmmhoaaPure
namespace Go.Proofs.Ytgkifpampmmhoaa

/-- A power with a whole exponent. -/
def pz (p b m : Int) : Int := if m < 0 then pw p (inv p b) (-m).toNat else pw p b m.toNat
theorem pz_bd {p b m : Int} (hp : prm p = true) : 0 ≤ pz p b m ∧ pz p b m < p := by
  unfold pz; split <;> exact pw_bd hp _
theorem pz_mod {p b m : Int} (hp : prm p = true) (b0 : 1 ≤ b) (b1 : b < p) (m0 : -40 ≤ m) (m1 : m ≤ 40) : pz p b m = pw p b (m % (p - 1)).toNat := by
  have := every_at (Q := fun p b => decide (1 ≤ b → (List.range 81).all (fun k : Nat => decide (pz p b ((k : Int) - 40) = pw p b (((k : Int) - 40) % (p - 1)).toNat)) = true)) (by decide +kernel) hp (by omega : 0 ≤ b) b1
  simp only [decide_eq_true_eq, List.all_eq_true, List.mem_range] at this
  have h := this b0 (m + 40).toNat (by omega)
  rwa [Int.toNat_of_nonneg (by omega : 0 ≤ m + 40), show m + 40 - 40 = m by omega] at h
theorem pw_mul {p b : Int} {i j : Nat} (hp : prm p = true) (b0 : 1 ≤ b) (b1 : b < p) (hi : (i : Int) < p - 1) (hj : (j : Int) < p - 1) : pw p b i * pw p b j % p = pw p b (((i : Int) + j) % (p - 1)).toNat := by
  have hb := prm_bd hp
  have := every_at (Q := fun p b => decide (1 ≤ b → (List.range 12).all (fun i : Nat => (List.range 12).all fun j : Nat => decide (pw p b i * pw p b j % p = pw p b (((i : Int) + j) % (p - 1)).toNat)) = true)) (by decide +kernel) hp (by omega : 0 ≤ b) b1
  simp only [decide_eq_true_eq, List.all_eq_true, List.mem_range] at this
  exact this b0 i (by omega) j (by omega)
theorem pz_mul {p b m n : Int} (hp : prm p = true) (b0 : 1 ≤ b) (b1 : b < p) (m0 : -20 ≤ m) (m1 : m ≤ 20) (n0 : -20 ≤ n) (n1 : n ≤ 20) : pz p b m * pz p b n % p = pz p b (m + n) := by
  have hb := prm_bd hp
  rw [pz_mod hp b0 b1 (by omega) (by omega), pz_mod hp b0 b1 (by omega) (by omega), pz_mod hp b0 b1 (by omega) (by omega)]
  have h1 := Int.emod_nonneg m (by omega : p - 1 ≠ 0)
  have h2 := Int.emod_lt_of_pos m (by omega : 0 < p - 1)
  have h3 := Int.emod_nonneg n (by omega : p - 1 ≠ 0)
  have h4 := Int.emod_lt_of_pos n (by omega : 0 < p - 1)
  rw [pw_mul hp b0 b1 (by omega) (by omega), Int.toNat_of_nonneg h1, Int.toNat_of_nonneg h3, ← Int.add_emod]

theorem back_mul {p a b : Int} (hp : prm p = true) (a0 : 0 ≤ a) (a1 : a < p) (b0 : 1 ≤ b) (b1 : b < p) : a * inv p b % p * b % p = a := by
  have := every2_at (Q := fun p a b => decide (1 ≤ b → a * inv p b % p * b % p = a)) (by decide +kernel) hp a0 a1 (by omega : 0 ≤ b) b1
  simp only [decide_eq_true_eq] at this
  exact this b0
theorem back_sub {p a b : Int} (a0 : 0 ≤ a) (a1 : a < p) : ((a + b) % p - b) % p = a := by
  rw [Int.sub_emod, Int.emod_emod, ← Int.sub_emod, Int.add_sub_cancel, Int.emod_eq_of_lt a0 a1]
theorem left_is {p a b c : Int} : (a + b) % p * c % p = (a * c + b * c - 7 * p) % p := by
  rw [Int.mul_emod, Int.emod_emod, ← Int.mul_emod, Int.add_mul, Int.sub_emod, Int.mul_emod_left, Int.sub_zero, Int.emod_emod]
theorem ord_div {p b : Int} (hp : prm p = true) (b0 : 1 ≤ b) (b1 : b < p) : (p - 1) % (ord p b : Int) = 0 := by
  have := every_at (Q := fun p b => decide (1 ≤ b → (p - 1) % (ord p b : Int) = 0)) (by decide +kernel) hp (by omega : 0 ≤ b) b1
  simp only [decide_eq_true_eq] at this
  exact this b0

end Go.Proofs.Ytgkifpampmmhoaa
