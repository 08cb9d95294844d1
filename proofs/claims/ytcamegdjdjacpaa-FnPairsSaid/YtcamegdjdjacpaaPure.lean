/-
  Plain facts on the five primes and their remainders: powers, inverses, square roots, orders. No Go in sight.
  No conditions.
-/
import Derived.Below
namespace Go.Proofs.Ytcamegdjdjacpaa

/-! ### Primes, numbers, codes -/
def prm (p : Int) : Bool := p == 3 || p == 5 || p == 7 || p == 11 || p == 13
def inr (p a : Int) : Bool := decide (0 ≤ a ∧ a < p)
def codeOf (p : Int) (zs : List Int) : Int := if prm p then (if zs.all (inr p) then 0 else 2) else 1

theorem prm_or {p : Int} (h : prm p = true) : p = 3 ∨ p = 5 ∨ p = 7 ∨ p = 11 ∨ p = 13 := by
  simp [prm] at h; omega
theorem prm_of {p : Int} (h : p = 3 ∨ p = 5 ∨ p = 7 ∨ p = 11 ∨ p = 13) : prm p = true := by
  simp [prm]; omega
theorem prm_not {p : Int} (h : prm p = false) : p ≠ 3 ∧ p ≠ 5 ∧ p ≠ 7 ∧ p ≠ 11 ∧ p ≠ 13 := by
  simp [prm] at h; omega
theorem prm_bd {p : Int} (h : prm p = true) : 3 ≤ p ∧ p ≤ 13 := by
  have := prm_or h; omega
theorem inr_iff {p a : Int} : inr p a = true ↔ 0 ≤ a ∧ a < p := by simp [inr]
theorem inr_not {p a : Int} : inr p a = false ↔ ¬ (0 ≤ a ∧ a < p) := by simp [inr]

theorem code_np {p : Int} {zs : List Int} (h : prm p = false) : codeOf p zs = 1 := by simp [codeOf, h]
theorem code_ok {p : Int} {zs : List Int} (h : prm p = true) (ha : zs.all (inr p) = true) : codeOf p zs = 0 := by simp [codeOf, h, ha]
theorem code_bad {p : Int} {zs : List Int} (h : prm p = true) (ha : zs.all (inr p) = false) : codeOf p zs = 2 := by simp [codeOf, h, ha]
theorem code_cases (p : Int) (zs : List Int) : (prm p = false ∧ codeOf p zs = 1) ∨ (prm p = true ∧ zs.all (inr p) = true ∧ codeOf p zs = 0) ∨ (prm p = true ∧ zs.all (inr p) = false ∧ codeOf p zs = 2) := by
  by_cases h : prm p = true
  · by_cases ha : zs.all (inr p) = true
    · exact .inr (.inl ⟨h, ha, code_ok h ha⟩)
    · have ha' : zs.all (inr p) = false := by simpa using ha
      exact .inr (.inr ⟨h, ha', code_bad h ha'⟩)
  · have h' : prm p = false := by simpa using h
    exact .inl ⟨h', code_np h'⟩
theorem code_one (p a : Int) : (codeOf p [a] = 0 ∧ prm p = true ∧ 0 ≤ a ∧ a < p) ∨ (codeOf p [a] = 1 ∧ prm p = false) ∨ (codeOf p [a] = 2 ∧ prm p = true ∧ ¬ (0 ≤ a ∧ a < p)) := by
  rcases code_cases p [a] with ⟨h, hc⟩ | ⟨h, ha, hc⟩ | ⟨h, ha, hc⟩
  · exact .inr (.inl ⟨hc, h⟩)
  · simp [inr] at ha; exact .inl ⟨hc, h, ha.1, ha.2⟩
  · simp [inr] at ha; exact .inr (.inr ⟨hc, h, by omega⟩)
theorem code_two (p a b : Int) : (codeOf p [a, b] = 0 ∧ prm p = true ∧ (0 ≤ a ∧ a < p) ∧ 0 ≤ b ∧ b < p) ∨ (codeOf p [a, b] = 1 ∧ prm p = false) ∨ (codeOf p [a, b] = 2 ∧ prm p = true ∧ ¬ ((0 ≤ a ∧ a < p) ∧ 0 ≤ b ∧ b < p)) := by
  rcases code_cases p [a, b] with ⟨h, hc⟩ | ⟨h, ha, hc⟩ | ⟨h, ha, hc⟩
  · exact .inr (.inl ⟨hc, h⟩)
  · simp [inr] at ha; exact .inl ⟨hc, h, ha.1, ha.2⟩
  · refine .inr (.inr ⟨hc, h, fun hx => ?_⟩)
    have : inr p a = true := inr_iff.2 hx.1
    have : inr p b = true := inr_iff.2 hx.2
    simp_all

/-! ### All numbers of all primes, by the kernel -/
def every (Q : Int → Int → Bool) : Bool := [3, 5, 7, 11, 13].all fun p : Int => (List.range p.toNat).all fun a => Q p a
theorem every_at {Q : Int → Int → Bool} (h : every Q = true) {p a : Int} (hp : prm p = true) (h0 : 0 ≤ a) (h1 : a < p) : Q p a = true := by
  unfold every at h
  rw [List.all_eq_true] at h
  have h2 := h p (by rcases prm_or hp with rfl | rfl | rfl | rfl | rfl <;> simp)
  rw [List.all_eq_true] at h2
  have h3 := h2 a.toNat (by simp; omega)
  rwa [Int.toNat_of_nonneg h0] at h3
def every2 (Q : Int → Int → Int → Bool) : Bool := every fun p a => (List.range p.toNat).all fun b => Q p a b
theorem every2_at {Q : Int → Int → Int → Bool} (h : every2 Q = true) {p a b : Int} (hp : prm p = true) (h0 : 0 ≤ a) (h1 : a < p) (k0 : 0 ≤ b) (k1 : b < p) : Q p a b = true := by
  have h2 := every_at h hp h0 h1
  rw [List.all_eq_true] at h2
  have h3 := h2 b.toNat (by simp; omega)
  rwa [Int.toNat_of_nonneg k0] at h3

/-! ### Products -/
theorem mul_bd {p a b : Int} (hp : prm p = true) (h0 : 0 ≤ a) (h1 : a < p) (k0 : 0 ≤ b) (k1 : b < p) : 0 ≤ a * b ∧ a * b ≤ 144 := by
  have := every2_at (Q := fun _ a b => decide (0 ≤ a * b ∧ a * b ≤ 144)) (by decide +kernel) hp h0 h1 k0 k1
  simpa using this
theorem mod_bd {p : Int} (hp : prm p = true) (n : Int) : 0 ≤ n % p ∧ n % p < p := by
  have := prm_bd hp
  exact ⟨Int.emod_nonneg _ (by omega), Int.emod_lt_of_pos _ (by omega)⟩

/-! ### Powers and inverses -/
def pw (p a : Int) : Nat → Int
  | 0 => 1
  | k + 1 => pw p a k * a % p
theorem pw_bd {p a : Int} (hp : prm p = true) (k : Nat) : 0 ≤ pw p a k ∧ pw p a k < p := by
  cases k with
  | zero => have := prm_bd hp; simp [pw]; omega
  | succ k => exact mod_bd hp _
def inv (p a : Int) : Int := pw p a (p - 2).toNat
theorem inv_bd {p : Int} (hp : prm p = true) (a : Int) : 0 ≤ inv p a ∧ inv p a < p := pw_bd hp _
theorem inv_pos {p a : Int} (hp : prm p = true) (h0 : 1 ≤ a) (h1 : a < p) : 1 ≤ inv p a := by
  have := every_at (Q := fun p a => decide (1 ≤ a → 1 ≤ inv p a)) (by decide +kernel) hp (by omega) h1
  simpa [h0] using this
theorem inv_iff {p a b : Int} (hp : prm p = true) (h0 : 1 ≤ a) (h1 : a < p) (k0 : 1 ≤ b) (k1 : b ≤ inv p a) : a * b % p = 1 ↔ b = inv p a := by
  have := every2_at (Q := fun p a b => decide (1 ≤ a → 1 ≤ b → b ≤ inv p a → (a * b % p = 1 ↔ b = inv p a))) (by decide +kernel) hp (by omega : 0 ≤ a) h1 (by omega : 0 ≤ b) (by have := inv_bd hp a; omega)
  simp only [decide_eq_true_eq] at this
  exact this h0 k0 k1

/-! ### Square roots: the least one, or -1 -/
def rtF (p a : Int) : Nat → Int → Int
  | 0, _ => -1
  | f + 1, r => if r * r % p = a then r else rtF p a f (r + 1)
def rt (p a : Int) : Int := rtF p a p.toNat 0
/-- Where the search ends. -/
def rtEnd (p a : Int) : Int := if rt p a < 0 then p else rt p a
theorem rt_bd {p a : Int} (hp : prm p = true) (h0 : 0 ≤ a) (h1 : a < p) : -1 ≤ rt p a ∧ rt p a < p := by
  have := every_at (Q := fun p a => decide (-1 ≤ rt p a ∧ rt p a < p)) (by decide +kernel) hp h0 h1
  simpa using this
theorem rtEnd_bd {p a : Int} (hp : prm p = true) (h0 : 0 ≤ a) (h1 : a < p) : 0 ≤ rtEnd p a ∧ rtEnd p a ≤ p := by
  have := rt_bd hp h0 h1
  unfold rtEnd; split <;> omega
theorem rt_iff {p a r : Int} (hp : prm p = true) (h0 : 0 ≤ a) (h1 : a < p) (k0 : 0 ≤ r) (k1 : r < p) (k2 : r ≤ rtEnd p a) : r * r % p = a ↔ r = rt p a := by
  have := every2_at (Q := fun p a r => decide (r ≤ rtEnd p a → (r * r % p = a ↔ r = rt p a))) (by decide +kernel) hp h0 h1 k0 k1
  simp only [decide_eq_true_eq] at this
  exact this k2

/-! ### Orders -/
def ordF (p a : Int) : Nat → Nat → Nat
  | 0, k => k
  | f + 1, k => if pw p a k = 1 then k else ordF p a f (k + 1)
def ord (p a : Int) : Nat := ordF p a 12 1
theorem ord_bd {p a : Int} (hp : prm p = true) (h0 : 1 ≤ a) (h1 : a < p) : 1 ≤ ord p a ∧ (ord p a : Int) ≤ p - 1 := by
  have := every_at (Q := fun p a => decide (1 ≤ a → 1 ≤ ord p a ∧ (ord p a : Int) ≤ p - 1)) (by decide +kernel) hp (by omega) h1
  simp only [decide_eq_true_eq] at this
  exact this h0
theorem ord_iff {p a : Int} {k : Nat} (hp : prm p = true) (h0 : 1 ≤ a) (h1 : a < p) (k0 : 1 ≤ k) (k1 : k ≤ ord p a) : pw p a k = 1 ↔ k = ord p a := by
  have hb := ord_bd hp h0 h1
  have := every2_at (Q := fun p a k => decide (1 ≤ a → 1 ≤ k.toNat → k.toNat ≤ ord p a → (pw p a k.toNat = 1 ↔ k.toNat = ord p a))) (by decide +kernel) hp (by omega : 0 ≤ a) h1 (by omega : (0 : Int) ≤ (k : Int)) (by omega)
  simp only [decide_eq_true_eq, Int.toNat_natCast] at this
  exact this h0 k0 k1
theorem pw_one {p a : Int} (h0 : 0 ≤ a) (h1 : a < p) : pw p a 1 = a := by
  show 1 * a % p = a
  rw [Int.one_mul, Int.emod_eq_of_lt h0 h1]
theorem pw_pos {p a : Int} (hp : prm p = true) (h0 : 1 ≤ a) (h1 : a < p) {k : Nat} (hk : k ≤ 12) : 1 ≤ pw p a k := by
  have := every_at (Q := fun p a => decide (1 ≤ a → (List.range 13).all (fun k => decide (1 ≤ pw p a k)) = true)) (by decide +kernel) hp (by omega) h1
  simp only [decide_eq_true_eq, List.all_eq_true, List.mem_range] at this
  exact this h0 k (by omega)

/-! ### Sums of two squares; primitive numbers -/
def sxF (p a : Int) : Nat → Int → Int
  | 0, x => x
  | f + 1, x => if 0 ≤ rt p ((a - x * x) % p) then x else sxF p a f (x + 1)
def sx (p a : Int) : Int := sxF p a 12 0
theorem sx_bd {p a : Int} (hp : prm p = true) (h0 : 0 ≤ a) (h1 : a < p) : 0 ≤ sx p a ∧ sx p a < p := by
  have := every_at (Q := fun p a => decide (0 ≤ sx p a ∧ sx p a < p)) (by decide +kernel) hp h0 h1
  simpa using this
theorem sx_iff {p a x : Int} (hp : prm p = true) (h0 : 0 ≤ a) (h1 : a < p) (k0 : 0 ≤ x) (k1 : x ≤ sx p a) : 0 ≤ rt p ((a - x * x) % p) ↔ x = sx p a := by
  have hb := sx_bd hp h0 h1
  have := every2_at (Q := fun p a x => decide (x ≤ sx p a → (0 ≤ rt p ((a - x * x) % p) ↔ x = sx p a))) (by decide +kernel) hp h0 h1 k0 (by omega)
  simp only [decide_eq_true_eq] at this
  exact this k1
theorem rt_zero (p : Int) (hp : prm p = true) : rt p 0 = 0 := by
  rcases prm_or hp with rfl | rfl | rfl | rfl | rfl <;> decide +kernel
def primF (p : Int) : Nat → Int → Int
  | 0, x => x
  | f + 1, x => if (ord p x : Int) = p - 1 then x else primF p f (x + 1)
def prim (p : Int) : Int := primF p 12 1
theorem prim_bd {p : Int} (hp : prm p = true) : 1 ≤ prim p ∧ prim p < p := by
  rcases prm_or hp with rfl | rfl | rfl | rfl | rfl <;> decide +kernel
theorem prim_iff {p x : Int} (hp : prm p = true) (k0 : 1 ≤ x) (k1 : x ≤ prim p) : (ord p x : Int) = p - 1 ↔ x = prim p := by
  have hb := prim_bd hp
  have := every_at (Q := fun p x => decide (1 ≤ x → x ≤ prim p → ((ord p x : Int) = p - 1 ↔ x = prim p))) (by decide +kernel) hp (by omega : 0 ≤ x) (by omega)
  simp only [decide_eq_true_eq] at this
  exact this k0 k1

end Go.Proofs.Ytcamegdjdjacpaa
