/-
  Geometric products: signs and factors of blades, their sums, associativity, the unit. No Go in sight.
  No conditions.
  The terms of a multivector as a map of the program's, and what is still to come of them when they are ranged over in any order.
  No conditions.
-/
import Derived.Test.YtndneccgomfkdaaQm8
import Derived.Test.YtndneccgomfkdaaQm4
import Derived.Maps.RangeWalk
namespace Go.Proofs.Ytndneccgomfkdaa
open Go.RowKit
set_option linter.unusedVariables false

theorem xor_bit (a b i : Nat) : (a ^^^ b) / 2 ^ i % 2 = (a / 2 ^ i % 2 + b / 2 ^ i % 2) % 2 := by
  rw [← Nat.toNat_testBit, ← Nat.toNat_testBit, ← Nat.toNat_testBit, Nat.testBit_xor]
  cases a.testBit i <;> cases b.testBit i <;> rfl
theorem par_step {X U u a b : Nat} (h : X = (a + b) % 2) (hu : U % 2 = u % 2) : (U + X) % 2 = (u + (a + b)) % 2 := by omega
theorem gr_xor (a b : Nat) : gr (a ^^^ b) % 2 = (gr a + gr b) % 2 := by
  have h0 := xor_bit a b 0
  have h1 := xor_bit a b 1
  have h2 := xor_bit a b 2
  have h3 := xor_bit a b 3
  have h4 := xor_bit a b 4
  have h5 := xor_bit a b 5
  simp only [Nat.pow_zero, Nat.div_one, Nat.pow_one, show (2 : Nat) ^ 2 = 4 from rfl, show (2 : Nat) ^ 3 = 8 from rfl, show (2 : Nat) ^ 4 = 16 from rfl, show (2 : Nat) ^ 5 = 32 from rfl] at h0 h1 h2 h3 h4 h5
  unfold gr
  rw [par_step h5 (par_step h4 (par_step h3 (par_step h2 (par_step (u := a % 2 + b % 2) h1 (by rw [h0, Nat.mod_mod])))))]
  congr 1
  ac_rfl
/-- A sign. -/
def eps (k : Nat) : Int := if k % 2 = 1 then -1 else 1
theorem eps_cases (k : Nat) : eps k = 1 ∨ eps k = -1 := by unfold eps; split <;> simp
theorem eps_sq (k : Nat) : eps k * eps k = 1 := by rcases eps_cases k with h | h <;> rw [h] <;> rfl
theorem eps_xor (a b : Nat) : eps (gr (a ^^^ b)) = eps (gr a) * eps (gr b) := by
  have h := gr_xor a b
  unfold eps
  rw [h]
  rcases Nat.mod_two_eq_zero_or_one (gr a) with ha | ha <;> rcases Nat.mod_two_eq_zero_or_one (gr b) with hb | hb <;> simp [ha, hb, Nat.add_mod]

/-- What the basis vector i of a blade b brings with it behind the blade a. -/
def gi (S : List Int) (a b i : Nat) : Int := if b / 2 ^ i % 2 = 1 then eps (gr (a / 2 ^ (i + 1))) * (if a / 2 ^ i % 2 = 1 then S.getD i 0 else 1) else 1
/-- The factor of the product of two blades, over the first n basis vectors of the second one. -/
def fz (S : List Int) (a b : Nat) : Nat → Int
  | 0 => 1
  | n + 1 => fz S a b n * gi S a b n
theorem gi_coc (S : List Int) (a b e i : Nat) : gi S a b i * gi S (a ^^^ b) e i = gi S a (b ^^^ e) i * gi S b e i := by
  unfold gi
  rw [xor_bit b e i, xor_bit a b i, Nat.xor_div_two_pow, eps_xor]
  have hs := eps_sq (gr (a / 2 ^ (i + 1)))
  obtain ⟨α, hα⟩ : ∃ α, α = eps (gr (a / 2 ^ (i + 1))) := ⟨_, rfl⟩
  obtain ⟨β, hβ⟩ : ∃ β, β = eps (gr (b / 2 ^ (i + 1))) := ⟨_, rfl⟩
  rw [← hα] at hs ⊢
  rw [← hβ]
  generalize S.getD i 0 = s
  rcases Nat.mod_two_eq_zero_or_one (a / 2 ^ i) with ha | ha <;> rcases Nat.mod_two_eq_zero_or_one (b / 2 ^ i) with hb | hb <;> rcases Nat.mod_two_eq_zero_or_one (e / 2 ^ i) with he | he <;> simp [ha, hb, he] <;> grind
theorem fz_coc (S : List Int) (a b e n : Nat) : fz S a b n * fz S (a ^^^ b) e n = fz S a (b ^^^ e) n * fz S b e n := by
  induction n with
  | zero => rfl
  | succ n ih =>
    simp only [fz]
    have h := gi_coc S a b e n
    generalize fz S a b n = x1 at *
    generalize fz S (a ^^^ b) e n = x2 at *
    generalize fz S a (b ^^^ e) n = x3 at *
    generalize fz S b e n = x4 at *
    generalize gi S a b n = y1 at *
    generalize gi S (a ^^^ b) e n = y2 at *
    generalize gi S a (b ^^^ e) n = y3 at *
    generalize gi S b e n = y4 at *
    calc x1 * y1 * (x2 * y2) = (x1 * x2) * (y1 * y2) := by ac_rfl
      _ = (x3 * x4) * (y3 * y4) := by rw [ih, h]
      _ = x3 * y3 * (x4 * y4) := by ac_rfl
theorem bit_add {b i n : Nat} (h : i < n) : (b + 2 ^ n) / 2 ^ i % 2 = b / 2 ^ i % 2 := by
  obtain ⟨d, rfl⟩ : ∃ d, n = i + 1 + d := ⟨n - i - 1, by omega⟩
  have e : (2 : Nat) ^ (i + 1 + d) = 2 ^ d * 2 * 2 ^ i := by rw [Nat.pow_add, Nat.pow_succ, Nat.mul_comm (2 ^ i * 2), Nat.mul_comm (2 ^ i), Nat.mul_assoc]
  rw [e, Nat.add_mul_div_right _ _ (Nat.two_pow_pos i)]
  omega
theorem fz_add (S : List Int) (a b N : Nat) : ∀ n, n ≤ N → fz S a (b + 2 ^ N) n = fz S a b n
  | 0, _ => rfl
  | n + 1, h => by simp only [fz]; rw [fz_add S a b N n (by omega)]; unfold gi; rw [bit_add (by omega)]

/-- Sums over all masks, turned round by a mask. -/
theorem sm_xor (k c : Nat) (hc : c < 2 ^ k) (f : Nat → Int) : sm (2 ^ k) (fun a => f (a ^^^ c)) = sm (2 ^ k) f := by
  have h1 : ∀ a, a < 2 ^ k → f (a ^^^ c) = sm (2 ^ k) (fun b => if b = a ^^^ c then f (a ^^^ c) else 0) := fun a ha => by
    rw [sm_single, if_pos (Nat.xor_lt_two_pow ha hc)]
  rw [sm_congr h1, sm_swap]
  apply sm_congr
  intro b hb
  have h2 : ∀ a, a < 2 ^ k → (if b = a ^^^ c then f (a ^^^ c) else 0) = if a = b ^^^ c then f b else 0 := fun a _ => by
    by_cases e : b = a ^^^ c
    · have e2 : a = b ^^^ c := by rw [e, Nat.xor_assoc, Nat.xor_self, Nat.xor_zero]
      rw [if_pos e, if_pos e2, ← e]
    · have e2 : ¬ a = b ^^^ c := fun h => e (by rw [h, Nat.xor_assoc, Nat.xor_self, Nat.xor_zero])
      rw [if_neg e, if_neg e2]
  rw [sm_congr h2, sm_single, if_pos (Nat.xor_lt_two_pow hb hc)]
/-- The number at c of the product, over the integers. -/
def gpz (S : List Int) (n : Nat) (x y : Nat → Int) (c : Nat) : Int := sm (2 ^ n) fun a => x a * fz S a (a ^^^ c) n * y (a ^^^ c)
theorem xor_mid (a c d : Nat) : (a ^^^ c) ^^^ (a ^^^ d) = c ^^^ d := by
  rw [Nat.xor_comm a c, Nat.xor_assoc, ← Nat.xor_assoc a a d, Nat.xor_self, Nat.zero_xor]
theorem xor_back (a c : Nat) : a ^^^ (a ^^^ c) = c := by rw [← Nat.xor_assoc, Nat.xor_self, Nat.zero_xor]
theorem gpz_assoc (S : List Int) (n : Nat) (x y z : Nat → Int) {d : Nat} (hd : d < 2 ^ n) : gpz S n (gpz S n x y) z d = gpz S n x (gpz S n y z) d := by
  unfold gpz
  have h1 : ∀ c, c < 2 ^ n → (sm (2 ^ n) fun a => x a * fz S a (a ^^^ c) n * y (a ^^^ c)) * fz S c (c ^^^ d) n * z (c ^^^ d) = sm (2 ^ n) fun a => x a * (fz S a (a ^^^ d) n * fz S (a ^^^ c) (c ^^^ d) n) * (y (a ^^^ c) * z (c ^^^ d)) := fun c _ => by
    rw [Int.mul_assoc, Int.mul_comm, ← sm_mul]
    apply sm_congr
    intro a _
    have h := fz_coc S a (a ^^^ c) (c ^^^ d) n
    rw [xor_back, show (a ^^^ c) ^^^ (c ^^^ d) = a ^^^ d by rw [Nat.xor_assoc, xor_back]] at h
    rw [← h]
    ac_rfl
  rw [sm_congr h1, sm_swap]
  apply sm_congr
  intro a ha
  have h2 : x a * fz S a (a ^^^ d) n * (sm (2 ^ n) fun b => y b * fz S b (b ^^^ (a ^^^ d)) n * z (b ^^^ (a ^^^ d))) = sm (2 ^ n) fun b => x a * fz S a (a ^^^ d) n * (y b * fz S b (b ^^^ (a ^^^ d)) n * z (b ^^^ (a ^^^ d))) := by rw [sm_mul]
  rw [h2, ← sm_xor n a ha (fun b => x a * fz S a (a ^^^ d) n * (y b * fz S b (b ^^^ (a ^^^ d)) n * z (b ^^^ (a ^^^ d))))]
  apply sm_congr
  intro c _
  show _ = x a * fz S a (a ^^^ d) n * (y (c ^^^ a) * fz S (c ^^^ a) (c ^^^ a ^^^ (a ^^^ d)) n * z (c ^^^ a ^^^ (a ^^^ d)))
  rw [Nat.xor_comm c a, xor_mid]
  ac_rfl
theorem sm_congr_p {p : Int} {n : Nat} {f g : Nat → Int} (h : ∀ j, j < n → f j % p = g j % p) : sm n f % p = sm n g % p := by
  rw [← sm_mod n p f, ← sm_mod n p g, sm_congr h]
theorem em_l (a b p : Int) : (a % p * b) % p = (a * b) % p := by rw [Int.mul_emod, Int.emod_emod, ← Int.mul_emod]
theorem em_r (a b p : Int) : (a * (b % p)) % p = (a * b) % p := by rw [Int.mul_emod, Int.emod_emod, ← Int.mul_emod]
theorem em_sub (a p : Int) : (p - a % p) % p = (-a) % p := by
  rw [Int.sub_emod, Int.emod_self, Int.emod_emod, ← Int.zero_sub a, Int.sub_emod 0 a, Int.zero_emod]
theorem em_congr {p a a' : Int} (h : a % p = a' % p) (b : Int) : (a * b) % p = (a' * b) % p := by rw [← em_l, h, em_l]
theorem gpz_mod {p : Int} (S : List Int) (n : Nat) {x x' y y' : Nat → Int} {c : Nat} (hc : c < 2 ^ n) (hx : ∀ j, j < 2 ^ n → x j % p = x' j % p) (hy : ∀ j, j < 2 ^ n → y j % p = y' j % p) : gpz S n x y c % p = gpz S n x' y' c % p := by
  apply sm_congr_p
  intro a ha
  have h1 := hx a ha
  have h2 := hy _ (Nat.xor_lt_two_pow ha hc)
  rw [Int.mul_assoc, Int.mul_assoc, em_congr h1, Int.mul_comm, Int.mul_comm (x' a), em_congr (a' := fz S a (a ^^^ c) n * y' (a ^^^ c))]
  rw [Int.mul_comm, Int.mul_comm (fz _ _ _ _), em_congr h2]
def oneF : Nat → Int := fun j => if j = 0 then 1 else 0
/-- The geometric product of two lists of numbers. -/
def prodF (p : Int) (S x y : List Int) (c : Nat) : Int := gpz S S.length (fun j => x.getD j 0) (fun j => y.getD j 0) c % p
def prodM (p : Int) (S x y : List Int) : List Int := mkR (bl S) (prodF p S x y)
theorem prodM_len (p : Int) (S x y : List Int) : (prodM p S x y).length = bl S := mkR_len _ _
theorem prodM_at (p : Int) (S x y : List Int) {c : Nat} (hc : c < bl S) : (prodM p S x y).getD c 0 = prodF p S x y c := mkR_at _ hc
theorem prodM_assoc (p : Int) (S x y z : List Int) : prodM p S (prodM p S x y) z = prodM p S x (prodM p S y z) :=
  mkR_congr fun d hd => by
    have hd' : d < 2 ^ S.length := hd
    show gpz _ _ _ _ d % p = gpz _ _ _ _ d % p
    rw [gpz_mod S S.length hd' (x' := gpz S S.length (fun j => x.getD j 0) (fun j => y.getD j 0)) (y' := fun j => z.getD j 0) (fun j hj => by rw [prodM_at p S x y hj]; exact Int.emod_emod _ _) (fun j _ => rfl), gpz_assoc S S.length _ _ _ hd',
      gpz_mod S S.length hd' (x' := fun j => x.getD j 0) (y' := fun j => (prodM p S y z).getD j 0) (fun j _ => rfl) (fun j hj => by rw [prodM_at p S y z hj]; exact (Int.emod_emod _ _).symm)]
theorem prodF_bd {p : Int} (hp : 0 < p) (S x y : List Int) (c : Nat) : 0 ≤ prodF p S x y c ∧ prodF p S x y c < p := ⟨Int.emod_nonneg _ (by omega), Int.emod_lt_of_pos _ hp⟩
theorem prodM_num {p : Int} (hp : 0 < p) (S x y : List Int) : ∀ j, j < (prodM p S x y).length → 0 ≤ (prodM p S x y).getD j 0 ∧ (prodM p S x y).getD j 0 < p := fun j hj => by
  rw [prodM_len] at hj
  rw [prodM_at p S x y hj]
  exact prodF_bd hp S x y j

/-- The factor, as a number of the prime. -/
def fm (p : Int) (S : List Int) (a b n : Nat) : Int := fz S a b n % p
theorem fm_bd {p : Int} (hp : 0 < p) (S : List Int) (a b n : Nat) : 0 ≤ fm p S a b n ∧ fm p S a b n < p := ⟨Int.emod_nonneg _ (by omega), Int.emod_lt_of_pos _ hp⟩
theorem fm_zero {p : Int} (hp : 1 < p) (S : List Int) (a b : Nat) : fm p S a b 0 = 1 := Int.emod_eq_of_lt (by show (0 : Int) ≤ 1; decide) hp
theorem fm_skip (p : Int) (S : List Int) {a b n : Nat} (h : b / 2 ^ n % 2 = 0) : fm p S a b (n + 1) = fm p S a b n := by
  show fz S a b n * gi S a b n % p = fz S a b n % p
  unfold gi
  rw [if_neg (by omega), Int.mul_one]
theorem fm_add (p : Int) (S : List Int) (a b n : Nat) : fm p S a (b + 2 ^ n) n = fm p S a b n := by
  unfold fm; rw [fz_add S a b n n (Nat.le_refl _)]
/-- What the program multiplies by. -/
def fi (p : Int) (S : List Int) (a i : Nat) : Int := if a / 2 ^ i % 2 = 1 then (if gr (a / 2 ^ (i + 1)) % 2 = 1 then p - 1 else 1) * S.getD i 0 % p else (if gr (a / 2 ^ (i + 1)) % 2 = 1 then p - 1 else 1)
theorem fm_step (p : Int) (S : List Int) {a b n : Nat} (h : b / 2 ^ n % 2 = 1) : fm p S a b (n + 1) = fm p S a b n * fi p S a n % p := by
  show fz S a b n * gi S a b n % p = fz S a b n % p * fi p S a n % p
  rw [em_l]
  unfold gi fi eps
  rw [if_pos h]
  have e : ∀ s : Int, (p - 1) * s = -1 * s + p * s := fun s => by rw [Int.sub_mul]; omega
  by_cases h1 : gr (a / 2 ^ (n + 1)) % 2 = 1 <;> by_cases h2 : a / 2 ^ n % 2 = 1
  · rw [if_pos h1, if_pos h1, if_pos h2, if_pos h2, em_r, ← em_r _ ((p - 1) * _), e, Int.add_mul_emod_self_left, em_r]
  · rw [if_pos h1, if_pos h1, if_neg h2, if_neg h2, ← em_r _ (p - 1), Int.sub_emod_left, em_r]; rfl
  · rw [if_neg h1, if_neg h1, if_pos h2, if_pos h2, em_r]
  · rw [if_neg h1, if_neg h1, if_neg h2, if_neg h2]; congr 1
/-- What the model makes of it. -/
def fo (p : Int) (S : List Int) (a i : Nat) (o : Int) : Int := if a / 2 ^ i % 2 = 1 then (if gr (a / 2 ^ (i + 1)) % 2 = 1 then (p - o) % p else o) * S.getD i 0 % p else (if gr (a / 2 ^ (i + 1)) % 2 = 1 then (p - o) % p else o)
theorem fm_model (p : Int) (S : List Int) {a b n : Nat} (h : b / 2 ^ n % 2 = 1) : fo p S a n (fm p S a b n) = fm p S a b (n + 1) := by
  show _ = fz S a b n * gi S a b n % p
  unfold gi fo eps fm
  rw [if_pos h]
  by_cases h1 : gr (a / 2 ^ (n + 1)) % 2 = 1 <;> by_cases h2 : a / 2 ^ n % 2 = 1
  · rw [if_pos h1, if_pos h1, if_pos h2, if_pos h2, em_l, ← em_l, em_sub, em_l]; congr 1; rw [← Int.mul_assoc]; congr 1; omega
  · rw [if_pos h1, if_pos h1, if_neg h2, if_neg h2, em_sub]; congr 1; omega
  · rw [if_neg h1, if_neg h1, if_pos h2, if_pos h2, em_l, Int.one_mul]
  · rw [if_neg h1, if_neg h1, if_neg h2, if_neg h2]; congr 1; omega

/-- One product of three numbers. -/
def tm (p : Int) (S x y : List Int) (c a : Nat) : Int := x.getD a 0 * fm p S a (a ^^^ c) S.length * y.getD (a ^^^ c) 0
theorem tm_sum (p : Int) (S x y : List Int) (c : Nat) : sm (bl S) (tm p S x y c) % p = prodF p S x y c := by
  apply sm_congr_p
  intro a _
  unfold tm fm
  rw [Int.mul_assoc, Int.mul_assoc, ← em_r, em_l, em_r]

end Go.Proofs.Ytndneccgomfkdaa

namespace Go.Proofs.Ytndneccgomfkdaa
open Go.RowKit Go.Maps
set_option linter.unusedVariables false

/-- The map has the numbers of x up to k that are not 0. -/
structure Tm (D : DataW Unit) (x : List Int) (k : Nat) : Prop where
  only : ∀ kl, has D kl = true → ∃ j : Nat, j < k ∧ kl = .int .i64 j
  val : ∀ j : Nat, j < k → x.getD j 0 ≠ 0 → has D (.int .i64 j) = true ∧ ∀ z, D.atKey (.int .i64 j) z = .lit (.int .i64 (x.getD j 0))
  no : ∀ j : Nat, j < k → x.getD j 0 = 0 → has D (.int .i64 j) = false
theorem key_ne {i j : Nat} (h : i ≠ j) : (Lit.int .i64 (i : Int)) ≠ .int .i64 (j : Int) := fun e => by injection e with _ e; omega
theorem Tm.start (x : List Int) : Tm (.map []) x 0 := ⟨fun kl h => by simp [has] at h, fun j h => by omega, fun j h => by omega⟩
theorem Tm.fresh {D : DataW Unit} {x : List Int} {k : Nat} (h : Tm D x k) : has D (.int .i64 (k : Int)) = false := by
  cases e : has D (.int .i64 (k : Int)) with
  | false => rfl
  | true =>
    obtain ⟨j, hj, e2⟩ := h.only _ e
    exact absurd e2 (key_ne (by omega))
theorem Tm.skip {D : DataW Unit} {x : List Int} {k : Nat} (h : Tm D x k) (hx : x.getD k 0 = 0) : Tm D x (k + 1) where
  only kl hk := by
    obtain ⟨j, hj, e⟩ := h.only kl hk
    exact ⟨j, by omega, e⟩
  val j hj hne := h.val j (by
    by_cases e : j = k
    · subst e; exact absurd hx hne
    · omega) hne
  no j hj h0 := by
    by_cases e : j = k
    · subst e; exact h.fresh
    · exact h.no j (by omega) h0
theorem Tm.put {D : DataW Unit} {x : List Int} {k : Nat} (h : Tm D x k) (hm : IsMap D) (hx : x.getD k 0 ≠ 0) : Tm (D.put (.int .i64 (k : Int)) (.lit (.int .i64 (x.getD k 0)))) x (k + 1) where
  only kl hk := by
    by_cases e : kl = .int .i64 (k : Int)
    · exact ⟨k, by omega, e⟩
    · rw [has_put_other e] at hk
      obtain ⟨j, hj, e⟩ := h.only kl hk
      exact ⟨j, by omega, e⟩
  val j hj hne := by
    by_cases e : j = k
    · subst e; exact ⟨has_put_same hm (show WideAt.IsKeyLit (.int .i64 (j : Int)) from trivial) _, fun z => atKey_put_same hm (show WideAt.IsKeyLit (.int .i64 (j : Int)) from trivial) _ z⟩
    · obtain ⟨h1, h2⟩ := h.val j (by omega) hne
      exact ⟨by rw [has_put_other (key_ne e)]; exact h1, fun z => by rw [atKey_put_other (key_ne e)]; exact h2 z⟩
  no j hj h0 := by
    by_cases e : j = k
    · subst e; exact absurd h0 hx
    · rw [has_put_other (key_ne e)]; exact h.no j (by omega) h0

/-- Whether the term at j is still to come. -/
def td (left : Lit → Bool) (j : Nat) : Bool := left (.int .i64 (j : Int))
def Sub (left : Lit → Bool) (D : DataW Unit) : Prop := ∀ kl, left kl = true → has D kl = true
theorem sub_refl (D : DataW Unit) : Sub (has D) D := fun _ h => h
/-- An entry that comes is a term. -/
theorem Tm.come {D : DataW Unit} {x : List Int} {n : Nat} {left : Lit → Bool} {k c : Int} (h : Tm D x n) (hs : Sub left D) (hl : left (.int .i64 k) = true) (hat : ∀ zd, D.atKey (.int .i64 k) zd = .lit (.int .i64 c)) :
    ∃ j : Nat, j < n ∧ k = j ∧ c = x.getD j 0 ∧ x.getD j 0 ≠ 0 ∧ td left j = true := by
  obtain ⟨j, hj, e⟩ := h.only _ (hs _ hl)
  injection e with _ e
  subst e
  have hne : x.getD j 0 ≠ 0 := fun e0 => by
    have h1 := h.no j hj e0
    rw [hs _ hl] at h1; cases h1
  have h2 := (h.val j hj hne).2 (.lit (.int .i64 0))
  rw [hat] at h2
  injection h2 with h2
  injection h2 with _ h2
  exact ⟨j, hj, rfl, h2, hne, hl⟩
theorem sub_strike {left : Lit → Bool} {D : DataW Unit} (h : Sub left D) (kl : Lit) : Sub (fun z => left z && !z.sameKey kl) D := fun z hz => h z (by simp only [Bool.and_eq_true] at hz; exact hz.1)
theorem td_same (left : Lit → Bool) (j : Nat) : td (fun z => left z && !z.sameKey (.int .i64 (j : Int))) j = false := by
  show (left _ && !(Lit.sameKey _ _)) = false
  rw [WideAt.sameKey_self (a := .int .i64 (j : Int)) trivial]; simp
theorem td_other (left : Lit → Bool) {i j : Nat} (h : i ≠ j) : td (fun z => left z && !z.sameKey (.int .i64 (j : Int))) i = td left i := by
  show (left _ && !(Lit.sameKey _ _)) = left _
  rw [sameKey_ne (key_ne h)]; simp
theorem td_none {left : Lit → Bool} (h : ∀ kl, left kl = false) (j : Nat) : td left j = false := h _
theorem td_all {D : DataW Unit} {x : List Int} {n : Nat} (h : Tm D x n) {j : Nat} (hj : j < n) : x.getD j 0 ≠ 0 → td (has D) j = true := fun hne => (h.val j hj hne).1

/-- A row filled term by term: those that have come have their number. -/
def fl (x : List Int) (left : Lit → Bool) (g : Nat → Int) (j : Nat) : Int := if x.getD j 0 ≠ 0 ∧ td left j = false then g j else 0
theorem RowOwn.put {w : World} {b o n : Nat} {f : Nat → Int} (h : RowOwn w b o n f) {j : Nat} (hj : j < n) (v : Int) : RowOwn (w.setCell ⟨b, o + j, none⟩ (.int .i64 v)) b o n (fun i => if i = j then v else f i) where
  cell i hi := by
    by_cases e : i = j
    · subst e; rw [if_pos rfl]; exact World.cell?_setCell_same w _ _ (h.cell i hi)
    · rw [if_neg e]; exact (World.cell?_setCell_other _ _ _ _ (by first | (simp; done) | (simp; omega))).trans (h.cell i hi)
  free i hi := by simp [go_sem, h.free i hi]
theorem RowOwn.congr {w : World} {b o n : Nat} {f g : Nat → Int} (h : RowOwn w b o n f) (e : ∀ j, j < n → f j = g j) : RowOwn w b o n g := ⟨fun j hj => by rw [← e j hj]; exact h.cell j hj, h.free⟩
theorem fl_start {D : DataW Unit} {x : List Int} {n : Nat} (h : Tm D x n) (g : Nat → Int) {j : Nat} (hj : j < n) : fl x (has D) g j = 0 := by
  unfold fl
  rw [if_neg (fun k => by rw [td_all h hj k.1] at k; cases k.2)]
theorem fl_end {x : List Int} {left : Lit → Bool} (h : ∀ kl, left kl = false) (g : Nat → Int) (j : Nat) : fl x left g j = if x.getD j 0 ≠ 0 then g j else 0 := by
  unfold fl
  by_cases e : x.getD j 0 ≠ 0
  · rw [if_pos ⟨e, td_none h j⟩, if_pos e]
  · rw [if_neg (fun k => e k.1), if_neg e]
theorem fl_step {x : List Int} {left : Lit → Bool} {g : Nat → Int} {k : Nat} (hne : x.getD k 0 ≠ 0) (j : Nat) : (if j = k then g k else fl x left g j) = fl x (fun z => left z && !z.sameKey (.int .i64 (k : Int))) g j := by
  unfold fl
  by_cases e : j = k
  · subst e; rw [if_pos rfl, if_pos ⟨hne, td_same left j⟩]
  · rw [if_neg e, td_other left e]
theorem RowOwn.start (w : World) (n : Nat) (t : TypeId) : RowOwn (w.alloc (.cells (madeCells #[.int .i64 0] n) t)) w.heap.size 0 n (fun _ => 0) where
  cell j hj := by
    rw [Nat.zero_add]
    exact made_cell w (.int .i64 0) n t hj
  free j hj := by simp [go_sem]

theorem ranges_below {B : Nat} {w w' : World} {P : Program} {k : TypeId} {R : Value → Option (DataW Unit × List MemPlace)} {b r n : Nat} {D : DataW Unit} {left : Lit → Bool} {cnt : Nat} (h : w.ranges P k R b r n D left cnt) (hb : Below B w w') (h0 : b < B) (h1 : r < B) : w'.ranges P k R b r n D left cnt := by
  obtain ⟨es, clock, since, seen, c0, k1, h2, h3, h4, k5, h6⟩ := h
  exact ⟨es, clock, since, seen, c0, (hb.block b h0).trans k1, h2, h3, h4, (hb.block r h1).trans k5, h6⟩
end Go.Proofs.Ytndneccgomfkdaa
