/-
  Bivectors and their matrices: the definitions of chapter 10's answers, and what a matrix of a bivector is. No Go in sight.
  No conditions.
  Lists of vectors of a space, in the program and in the model.
  Conditions: the lists are nil or rows of known cells, of at most 1048576 numbers.
  WedgeOfVectors: contracts of the program and of the model.
  Conditions: the lists are nil or rows of known cells, of at most 1048576 numbers.
  The signs of those grades of which a multivector has blades: contracts of the program and of the model.
  Conditions: the lists are nil or rows of known cells, of at most 1048576 numbers.
-/
import Derived.Test.YtkibkkdeaojjoabGreatQg35
import Derived.Test.YtkibkkdeaojjoabGreatQg39
import Derived.Test.YtkibkkdeaojjoabGreatQg40
import Derived.Test.YtkibkkdeaojjoabGreatQg6
import Derived.Test.YtkibkkdeaojjoabGreatQg38
import Derived.Deep.RegionHeld3
import Derived.Deep.DeepCutAuto
namespace Go.Proofs.YtkibkkdeaojjoabGreat
open Go.RowKit
set_option linter.unusedVariables false

theorem bp_bit (i n : Nat) : 2 ^ i / 2 ^ n % 2 = if i = n then 1 else 0 := by
  rcases Nat.lt_trichotomy i n with h | h | h
  · rw [if_neg (by omega), Nat.div_eq_of_lt (Nat.pow_lt_pow_right (by decide) h)]
  · subst h; rw [if_pos rfl, Nat.div_self (Nat.two_pow_pos i)]
  · obtain ⟨k, rfl⟩ : ∃ k, i = n + (k + 1) := ⟨i - n - 1, by omega⟩
    rw [if_neg (by omega), Nat.pow_add, Nat.mul_div_cancel_left _ (Nat.two_pow_pos n), Nat.pow_succ, Nat.mul_mod_left]
theorem bp_shr (S : List Int) {a i : Nat} (ha : a / 2 ^ i % 2 = 1) : ∀ n, shr S a (2 ^ i) n = if i < n then S.getD i 0 else 1
  | 0 => by rw [if_neg (by omega)]; rfl
  | n + 1 => by
    simp only [shr]
    rw [bp_shr S ha n, bp_bit]
    by_cases h : i = n
    · subst h; rw [if_neg (Nat.lt_irrefl _), if_pos rfl, if_pos ⟨rfl, ha⟩, if_pos (Nat.lt_succ_self _), Int.one_mul]
    · rw [if_neg h, if_neg (show ¬ ((0 : Nat) = 1 ∧ a / 2 ^ n % 2 = 1) from fun k => absurd k.1 (by decide)), Int.mul_one]
      by_cases h2 : i < n
      · rw [if_pos h2, if_pos (show i < n + 1 by omega)]
      · rw [if_neg h2, if_neg (show ¬ i < n + 1 by omega)]
theorem bp_e_r (S : List Int) (n : Nat) (x y : Nat → Int) {i d : Nat} (hd : d < 2 ^ n) (hi : 2 ^ i < 2 ^ n) (hy : ∀ b, b < 2 ^ n → y b = if b = 2 ^ i then 1 else 0) : gpz S n x y d = x (d ^^^ 2 ^ i) * fz S (d ^^^ 2 ^ i) (2 ^ i) n := by
  unfold gpz
  have h : ∀ a, a < 2 ^ n → x a * fz S a (a ^^^ d) n * y (a ^^^ d) = if a = d ^^^ 2 ^ i then x (d ^^^ 2 ^ i) * fz S (d ^^^ 2 ^ i) (2 ^ i) n else 0 := fun a ha => by
    rw [hy _ (Nat.xor_lt_two_pow ha hd)]
    by_cases e : a = d ^^^ 2 ^ i
    · have e2 : a ^^^ d = 2 ^ i := by rw [e, Nat.xor_comm d, Nat.xor_assoc, Nat.xor_self, Nat.xor_zero]
      rw [if_pos e, if_pos e2, e2, Int.mul_one, ← e]
    · have e2 : ¬ a ^^^ d = 2 ^ i := fun k => e (by rw [← k, Nat.xor_comm a d, ← Nat.xor_assoc, Nat.xor_self, Nat.zero_xor])
      rw [if_neg e, if_neg e2, Int.mul_zero]
  rw [sm_congr h, sm_single, if_pos (Nat.xor_lt_two_pow hd hi)]
theorem bp_e_l (S : List Int) (n : Nat) (x y : Nat → Int) {i d : Nat} (hd : d < 2 ^ n) (hi : 2 ^ i < 2 ^ n) (hx : ∀ b, b < 2 ^ n → x b = if b = 2 ^ i then 1 else 0) : gpz S n x y d = fz S (2 ^ i) (d ^^^ 2 ^ i) n * y (d ^^^ 2 ^ i) := by
  unfold gpz
  have h : ∀ a, a < 2 ^ n → x a * fz S a (a ^^^ d) n * y (a ^^^ d) = if a = 2 ^ i then fz S (2 ^ i) (d ^^^ 2 ^ i) n * y (d ^^^ 2 ^ i) else 0 := fun a ha => by
    rw [hx _ ha]
    by_cases e : a = 2 ^ i
    · rw [if_pos e, if_pos e, Int.one_mul, e, Nat.xor_comm (2 ^ i) d]
    · rw [if_neg e, if_neg e, Int.zero_mul, Int.zero_mul]
  rw [sm_congr h, sm_single, if_pos hi]
theorem bp_two {p s z : Int} (hp : prm p = true) (s0 : 0 ≤ s) (s1 : s < p) (z0 : 0 ≤ z) (z1 : z < p) (hs : s ≠ 0) (h : (2 * (z * s)) % p = 0) : z = 0 := by
  have h2 := every2_at (Q := fun p s z => decide (s ≠ 0 → (2 * (z * s)) % p = 0 → z = 0)) (by decide +kernel) hp s0 s1 z0 z1
  simp only [decide_eq_true_eq] at h2
  exact h2 hs h
def hfR (p : Int) (z : List Int) : List Int := sclV p z (inv p 2)
def hbM (p : Int) (S x y : List Int) : List Int := hfR p (brM p S x y)
theorem hfR_len (p : Int) (z : List Int) : (hfR p z).length = z.length := mkR_len _ _
theorem hbM_len (p : Int) (S x y : List Int) : (hbM p S x y).length = bl S := by unfold hbM; rw [hfR_len, brM_len]
/-- The matrix of a bivector. -/
def bmF (p : Int) (S x : List Int) (i j : Nat) : Int := (hbM p S x (bladeM S (2 ^ j))).getD (2 ^ i) 0
def bmM (p : Int) (S x : List Int) : List (List Int) := mk S.length S.length (bmF p S x)
def skB (p : Int) (S : List Int) (m : List (List Int)) : Bool := (List.range m.length).all fun i => (List.range m.length).all fun k => decide ((at' m k i * S.getD k 0 + at' m i k * S.getD i 0) % p = 0)
theorem skB_iff {p : Int} {S : List Int} {m : List (List Int)} : skB p S m = true ↔ ∀ i k, i < m.length → k < m.length → (at' m k i * S.getD k 0 + at' m i k * S.getD i 0) % p = 0 := by
  unfold skB
  rw [List.all_eq_true]
  constructor
  · intro h i k hi hk
    have := List.all_eq_true.1 (h i (List.mem_range.2 hi)) k (List.mem_range.2 hk)
    simpa using this
  · intro h i hi
    rw [List.all_eq_true]
    intro k hk
    simpa using h i k (List.mem_range.1 hi) (List.mem_range.1 hk)
/-- Both bits of a mask of grade 2. -/
def hiB (c : Nat) : Nat := Nat.log2 c
def loB (c : Nat) : Nat := Nat.log2 (c - 2 ^ Nat.log2 c)
def bits2 : Bool := (List.range 6).all fun k => (List.range k).all fun i => gr (2 ^ i + 2 ^ k) == 2 && hiB (2 ^ i + 2 ^ k) == k && loB (2 ^ i + 2 ^ k) == i && decide (2 ^ i + 2 ^ k < 64) && decide (2 ^ i ||| 2 ^ k = 2 ^ i + 2 ^ k) && decide (2 ^ i ^^^ 2 ^ k = 2 ^ i + 2 ^ k) && decide (2 ^ k ^^^ 2 ^ i = 2 ^ i + 2 ^ k)
theorem bits2_all : bits2 = true := by decide +kernel
theorem bits2_at {i k : Nat} (h : i < k) (hk : k < 6) : gr (2 ^ i + 2 ^ k) = 2 ∧ hiB (2 ^ i + 2 ^ k) = k ∧ loB (2 ^ i + 2 ^ k) = i ∧ 2 ^ i + 2 ^ k < 64 ∧ 2 ^ i ||| 2 ^ k = 2 ^ i + 2 ^ k ∧ 2 ^ i ^^^ 2 ^ k = 2 ^ i + 2 ^ k ∧ 2 ^ k ^^^ 2 ^ i = 2 ^ i + 2 ^ k := by
  have h0 := bits2_all
  unfold bits2 at h0
  rw [List.all_eq_true] at h0
  have h1 := h0 k (List.mem_range.2 hk)
  rw [List.all_eq_true] at h1
  have h2 := h1 i (List.mem_range.2 h)
  simp only [Bool.and_eq_true, beq_iff_eq, decide_eq_true_eq] at h2
  exact ⟨h2.1.1.1.1.1.1, h2.1.1.1.1.1.2, h2.1.1.1.1.2, h2.1.1.1.2, h2.1.1.2, h2.1.2, h2.2⟩
def back2 : Bool := (List.range 64).all fun c => !(gr c == 2) || (decide (loB c < hiB c) && 2 ^ loB c + 2 ^ hiB c == c)
theorem back2_all : back2 = true := by decide +kernel
theorem back2_at {c : Nat} (hc : c < 64) (h : gr c = 2) : loB c < hiB c ∧ 2 ^ loB c + 2 ^ hiB c = c := by
  have h0 := back2_all
  unfold back2 at h0
  rw [List.all_eq_true] at h0
  have h1 := h0 c (List.mem_range.2 hc)
  simpa [h] using h1
/-- The bivector whose matrix has the given numbers above the diagonal. -/
def bbF (p : Int) (S : List Int) (m : List (List Int)) (c : Nat) : Int := if gr c = 2 then at' m (loB c) (hiB c) * inv p (S.getD (hiB c) 0) % p else 0
def bbR (p : Int) (S : List Int) (m : List (List Int)) : List Int := mkR (bl S) (bbF p S m)
/-- What is there of it behind the rows 0 .. i - 1 and the places below k of row i. -/
def bbS (p : Int) (S : List Int) (m : List (List Int)) (i k c : Nat) : Int := if loB c < i ∨ (loB c = i ∧ hiB c < k) then bbF p S m c else 0
theorem bbF_pair (p : Int) (S : List Int) (m : List (List Int)) {i k : Nat} (h : i < k) (hk : k < 6) : bbF p S m (2 ^ i + 2 ^ k) = at' m i k * inv p (S.getD k 0) % p := by
  have hb := bits2_at h hk
  unfold bbF
  rw [if_pos hb.1, hb.2.1, hb.2.2.1]
theorem pair_bl {S : List Int} {i k : Nat} (h : i < k) (hk : k < S.length) : 2 ^ i + 2 ^ k < bl S := by
  unfold bl
  have h1 : 2 ^ i < 2 ^ k := Nat.pow_lt_pow_right (by decide) h
  have h2 : 2 ^ (k + 1) ≤ 2 ^ S.length := Nat.pow_le_pow_right (by decide) hk
  rw [Nat.pow_succ] at h2
  omega
theorem bbS_put (p : Int) (S : List Int) (m : List (List Int)) {i k : Nat} (h : i < k) (hk : k < S.length) (h6 : S.length ≤ 6) (c : Nat) (hc : c < bl S) : bbS p S m i (k + 1) c = if c = 2 ^ i + 2 ^ k then at' m i k * inv p (S.getD k 0) % p else bbS p S m i k c := by
  have hb := bits2_at h (show k < 6 by omega)
  have h64 : c < 64 := by have := bl_le h6; omega
  unfold bbS
  by_cases e : c = 2 ^ i + 2 ^ k
  · subst e
    rw [if_pos rfl, hb.2.1, hb.2.2.1, if_pos (.inr ⟨rfl, Nat.lt_succ_self k⟩)]
    exact bbF_pair p S m h (by omega)
  · rw [if_neg e]
    by_cases g : gr c = 2
    · have hv := back2_at h64 g
      by_cases q : loB c = i ∧ hiB c = k
      · exfalso; exact e (by rw [← hv.2, q.1, q.2])
      · by_cases r : loB c < i ∨ (loB c = i ∧ hiB c < k)
        · rw [if_pos r, if_pos (by omega)]
        · rw [if_neg r, if_neg (by omega)]
    · have : bbF p S m c = 0 := by unfold bbF; rw [if_neg g]
      rw [this]; split <;> split <;> rfl
theorem bbS_row (p : Int) (S : List Int) (m : List (List Int)) (h6 : S.length ≤ 6) (i c : Nat) (hc : c < bl S) : bbS p S m i S.length c = bbS p S m (i + 1) (i + 1 + 1) c := by
  have h64 : c < 64 := by have := bl_le h6; omega
  unfold bbS
  by_cases g : gr c = 2
  · have hv := back2_at h64 g
    have hh : hiB c < S.length := by
      by_cases q : hiB c < S.length
      · exact q
      · exfalso
        have : 2 ^ S.length ≤ 2 ^ hiB c := Nat.pow_le_pow_right (by decide) (by omega)
        unfold bl at hc
        have := hv.2
        have := Nat.two_pow_pos (loB c)
        omega
    by_cases r : loB c < i + 1
    · rw [if_pos (by omega), if_pos (by omega)]
    · rw [if_neg (by omega), if_neg (by omega)]
  · have : bbF p S m c = 0 := by unfold bbF; rw [if_neg g]
    rw [this]; split <;> split <;> rfl
theorem bbS_none (p : Int) (S : List Int) (m : List (List Int)) (h6 : S.length ≤ 6) (c : Nat) (hc : c < bl S) : bbS p S m 0 1 c = 0 := by
  have h64 : c < 64 := by have := bl_le h6; omega
  unfold bbS
  by_cases g : gr c = 2
  · have hv := back2_at h64 g
    rw [if_neg (by omega)]
  · have : bbF p S m c = 0 := by unfold bbF; rw [if_neg g]
    rw [this]; split <;> rfl
theorem bbS_whole (p : Int) (S : List Int) (m : List (List Int)) (h6 : S.length ≤ 6) (k c : Nat) (hc : c < bl S) : bbS p S m S.length k c = bbF p S m c := by
  have h64 : c < 64 := by have := bl_le h6; omega
  unfold bbS
  by_cases g : gr c = 2
  · have hv := back2_at h64 g
    have hh : hiB c < S.length := by
      by_cases q : hiB c < S.length
      · exact q
      · exfalso
        have : 2 ^ S.length ≤ 2 ^ hiB c := Nat.pow_le_pow_right (by decide) (by omega)
        unfold bl at hc
        have := hv.2
        have := Nat.two_pow_pos (loB c)
        omega
    rw [if_pos (.inl (by omega))]
  · have : bbF p S m c = 0 := by unfold bbF; rw [if_neg g]
    rw [this]; split <;> rfl
/-- Signs of a pair against one of its vectors. -/
def pairs2 : Bool := (List.range 7).all fun n => (List.range n).all fun i => (List.range n).all fun j => sgn (2 ^ i ^^^ 2 ^ j) (2 ^ j) n % 2 == (if j < i then 1 else 0) && sgn (2 ^ j) (2 ^ i ^^^ 2 ^ j) n % 2 == (if i < j then 1 else 0) && (decide (i = j) || (2 ^ i ^^^ 2 ^ j) / 2 ^ j % 2 == 1)
theorem pairs2_all : pairs2 = true := by decide +kernel
theorem pairs2_at {n i j : Nat} (hn : n ≤ 6) (hi : i < n) (hj : j < n) : sgn (2 ^ i ^^^ 2 ^ j) (2 ^ j) n % 2 = (if j < i then 1 else 0) ∧ sgn (2 ^ j) (2 ^ i ^^^ 2 ^ j) n % 2 = (if i < j then 1 else 0) ∧ (i = j ∨ (2 ^ i ^^^ 2 ^ j) / 2 ^ j % 2 = 1) := by
  have h0 := pairs2_all
  unfold pairs2 at h0
  rw [List.all_eq_true] at h0
  have h1 := h0 n (List.mem_range.2 (by omega))
  rw [List.all_eq_true] at h1
  have h2 := h1 i (List.mem_range.2 hi)
  rw [List.all_eq_true] at h2
  have h3 := h2 j (List.mem_range.2 hj)
  simp only [Bool.and_eq_true, Bool.or_eq_true, beq_iff_eq, decide_eq_true_eq] at h3
  exact ⟨h3.1.1, h3.1.2, h3.2⟩
theorem b_get {S : List Int} {a b : Nat} (hb : b < bl S) : (bladeM S a).getD b 0 = if b = a then 1 else 0 := mkR_at _ hb
theorem b_r {p : Int} {S x : List Int} {i d : Nat} (hi : i < S.length) (hd : d < bl S) : prodF p S x (bladeM S (2 ^ i)) d = x.getD (d ^^^ 2 ^ i) 0 * fz S (d ^^^ 2 ^ i) (2 ^ i) S.length % p := by
  unfold prodF
  rw [bp_e_r S S.length _ _ hd (Nat.pow_lt_pow_right (by decide) hi) (fun b hb => b_get hb)]
theorem b_l {p : Int} {S x : List Int} {i d : Nat} (hi : i < S.length) (hd : d < bl S) : prodF p S (bladeM S (2 ^ i)) x d = fz S (2 ^ i) (d ^^^ 2 ^ i) S.length * x.getD (d ^^^ 2 ^ i) 0 % p := by
  unfold prodF
  rw [bp_e_l S S.length _ _ hd (Nat.pow_lt_pow_right (by decide) hi) (fun b hb => b_get hb)]
theorem half_two {p : Int} (hp : prm p = true) (t : Int) : (2 * t) % p * inv p 2 % p = t % p := by
  have hpb := prm_bd hp
  have h := inv_mul hp (show (1 : Int) ≤ 2 by decide) (show (2 : Int) < p by omega)
  rw [Int.mul_emod, Int.emod_emod, ← Int.mul_emod, Int.mul_right_comm, Int.mul_emod, h, Int.one_mul, Int.emod_emod]
/-- A number of the half bracket with a basis vector. -/
theorem hb_at {p : Int} {S x : List Int} (hp : prm p = true) (h6 : S.length ≤ 6) {i j : Nat} (hi : i < S.length) (hj : j < S.length) :
    bmF p S x i j = if i = j then 0 else if i < j then x.getD (2 ^ i + 2 ^ j) 0 * S.getD j 0 % p else (-(x.getD (2 ^ j + 2 ^ i) 0 * S.getD j 0)) % p := by
  have hpb := prm_bd hp
  have hib : 2 ^ i < bl S := pow_lt hi
  have hs := pairs2_at h6 hi hj
  unfold bmF hbM hfR sclV
  rw [brM_len, mkR_at _ hib, ← brM_eq, mkR_at _ hib, prodM_at p S _ _ hib, b_r hj hib, b_l hj hib, fz_split, fz_split, shr_comm S (2 ^ j) _ S.length]
  obtain ⟨Y, hY⟩ : ∃ Y, Y = x.getD (2 ^ i ^^^ 2 ^ j) 0 := ⟨_, rfl⟩
  obtain ⟨T, hT⟩ : ∃ T, T = shr S (2 ^ i ^^^ 2 ^ j) (2 ^ j) S.length := ⟨_, rfl⟩
  obtain ⟨a, ha⟩ : ∃ a, a = eps (sgn (2 ^ i ^^^ 2 ^ j) (2 ^ j) S.length) := ⟨_, rfl⟩
  obtain ⟨b, hb⟩ : ∃ b, b = eps (sgn (2 ^ j) (2 ^ i ^^^ 2 ^ j) S.length) := ⟨_, rfl⟩
  rw [← hY, ← hT, ← ha, ← hb]
  have e : (Y * (a * T) % p + (p - 1) * (b * T * Y % p)) % p = ((a - b) * (Y * T)) % p := by
    have e1 : (p - 1) * (b * T * Y % p) % p = (-(b * T * Y)) % p := by
      rw [Int.mul_emod, Int.emod_emod, ← Int.mul_emod, Int.sub_mul, Int.one_mul, show p * (b * T * Y) - b * T * Y = -(b * T * Y) + p * (b * T * Y) by omega, Int.add_mul_emod_self_left]
    rw [Int.add_emod, e1, Int.emod_emod, ← Int.add_emod]
    congr 1
    rw [Int.sub_mul, show Y * (a * T) = a * (Y * T) by ac_rfl, show b * T * Y = b * (Y * T) by ac_rfl]
    omega
  rw [e]
  by_cases hij : i = j
  · subst hij
    rw [if_pos rfl]
    have h1 := hs.1
    have h2 := hs.2.1
    rw [if_neg (Nat.lt_irrefl _)] at h1 h2
    have ea : a = b := by rw [ha, hb]; exact eps_mod (h1.trans h2.symm)
    rw [ea, Int.sub_self, Int.zero_mul, Int.zero_emod, Int.zero_mul, Int.zero_emod]
  · rw [if_neg hij]
    have hbit : (2 ^ i ^^^ 2 ^ j) / 2 ^ j % 2 = 1 := hs.2.2.resolve_left hij
    have hTS : T = S.getD j 0 := by rw [hT, bp_shr S hbit, if_pos hj]
    by_cases hlt : i < j
    · rw [if_pos hlt]
      have h1 := hs.1
      have h2 := hs.2.1
      rw [if_neg (by omega)] at h1
      rw [if_pos hlt] at h2
      have ea : a = 1 := by rw [ha]; unfold eps; rw [if_neg (by omega)]
      have eb : b = -1 := by rw [hb]; unfold eps; rw [if_pos h2]
      rw [ea, eb, show ((1 : Int) - -1) = 2 by decide, half_two hp, hTS, hY, (bits2_at hlt (by omega)).2.2.2.2.2.1]
    · rw [if_neg hlt]
      have hgt : j < i := by omega
      have h1 := hs.1
      have h2 := hs.2.1
      rw [if_pos hgt] at h1
      rw [if_neg hlt] at h2
      have ea : a = -1 := by rw [ha]; unfold eps; rw [if_pos h1]
      have eb : b = 1 := by rw [hb]; unfold eps; rw [if_neg (by omega)]
      rw [ea, eb, show ((-1 - 1 : Int)) * (Y * T) = 2 * (-(Y * T)) by omega, half_two hp, hTS, hY, (bits2_at hgt (by omega)).2.2.2.2.2.2]
theorem bm_len (p : Int) (S x : List Int) : (bmM p S x).length = S.length := mk_len _ _ _
theorem bm_rl {p : Int} {S x : List Int} {i : Nat} (h : i < S.length) : (rw' (bmM p S x) i).length = S.length := mk_rowLen _ h
theorem bm_at {p : Int} {S x : List Int} {i j : Nat} (hi : i < S.length) (hj : j < S.length) : at' (bmM p S x) i j = bmF p S x i j := mk_at _ hi hj
theorem neg_mod9 {p t : Int} : (-(t % p)) % p = (-t) % p := by
  have h := Int.emod_add_mul_ediv t p
  have : -t = -(t % p) + p * (-(t / p)) := by rw [Int.mul_neg]; omega
  rw [this, Int.add_mul_emod_self_left]
/-- The matrix of a bivector is skew. -/
theorem bm_skew {p : Int} {S x : List Int} (hs : isSp p S = true) : skB p S (bmM p S x) = true := by
  have hp := (isSp_iff.1 hs).prime
  have h6 := (isSp_iff.1 hs).hi
  rw [skB_iff]
  have key : ∀ i k, i < S.length → k < S.length → i < k → (at' (bmM p S x) k i * S.getD k 0 + at' (bmM p S x) i k * S.getD i 0) % p = 0 := fun i k hi hk h => by
    rw [bm_at hk hi, bm_at hi hk, hb_at hp h6 hk hi, hb_at hp h6 hi hk, if_neg (by omega), if_neg (by omega), if_neg (by omega), if_pos h]
    rw [Int.add_emod, Int.mul_emod, Int.emod_emod, ← Int.mul_emod, Int.mul_emod (_ % p), Int.emod_emod, ← Int.mul_emod, ← Int.add_emod]
    rw [Int.neg_mul, show x.getD (2 ^ i + 2 ^ k) 0 * S.getD i 0 * S.getD k 0 = x.getD (2 ^ i + 2 ^ k) 0 * S.getD k 0 * S.getD i 0 by ac_rfl, Int.add_comm, Int.add_right_neg, Int.zero_emod]
  intro i k hi hk
  rw [bm_len] at hi hk
  rcases Nat.lt_trichotomy i k with h | h | h
  · exact key i k hi hk h
  · subst h
    rw [bm_at hi hi, hb_at hp h6 hi hi, if_pos rfl, Int.zero_mul]; rfl
  · rw [Int.add_comm]; exact key k i hk hi h
theorem bbR_len (p : Int) (S : List Int) (m : List (List Int)) : (bbR p S m).length = bl S := mkR_len _ _
theorem dvd_of_mod {p t : Int} (h : t % p = 0) : p ∣ t := Int.dvd_of_emod_eq_zero h
/-- A matrix is that of the bivector which it tells above the diagonal exactly if it is skew. -/
theorem bb_back {p : Int} {S : List Int} {m : List (List Int)} (hs : isSp p S = true) (hd : discN p S ≠ 0) (hl : m.length = S.length) (hr : ∀ i, i < m.length → (rw' m i).length = S.length) (hm : ∀ i j, i < m.length → j < S.length → 0 ≤ at' m i j ∧ at' m i j < p) (sq : ∀ i, i < S.length → 1 ≤ S.getD i 0 ∧ S.getD i 0 < p) : bmM p S (bbR p S m) = m ↔ skB p S m = true := by
  have hp := (isSp_iff.1 hs).prime
  have hpb := prm_bd hp
  have h6 := (isSp_iff.1 hs).hi
  constructor
  · intro h; rw [← h]; exact bm_skew hs
  · intro h
    rw [skB_iff] at h
    refine Eq.trans ?_ (eq_mk hr).symm
    rw [hl]
    refine mk_congr fun i hi j hj => ?_
    rw [hb_at hp h6 hi hj]
    have hij := hm i j (by omega) hj
    by_cases e : i = j
    · subst e
      rw [if_pos rfl]
      have h2 := h i i (by omega) (by omega)
      rw [show at' m i i * S.getD i 0 + at' m i i * S.getD i 0 = 2 * (at' m i i * S.getD i 0) by omega] at h2
      exact (bp_two hp (by have := sq i hi; omega) (sq i hi).2 hij.1 hij.2 (by have := sq i hi; omega) h2).symm
    · rw [if_neg e]
      by_cases hlt : i < j
      · rw [if_pos hlt]
        unfold bbR
        rw [mkR_at _ (pair_bl hlt hj), bbF_pair p S m hlt (by omega)]
        have hI := inv_mul hp (sq j hj).1 (sq j hj).2
        rw [Int.mul_emod, Int.emod_emod, ← Int.mul_emod, Int.mul_assoc, Int.mul_comm (inv p _), Int.mul_emod, hI, Int.mul_one, Int.emod_emod, Int.emod_eq_of_lt hij.1 hij.2]
      · have hgt : j < i := by omega
        rw [if_neg hlt]
        unfold bbR
        rw [mkR_at _ (pair_bl hgt hi), bbF_pair p S m hgt (by omega)]
        have hI := inv_mul hp (sq i hi).1 (sq i hi).2
        have h2 := dvd_of_mod (h i j (by omega) (by omega))
        rw [← neg_mod9, Int.mul_emod, Int.emod_emod, ← Int.mul_emod, neg_mod9]
        have hI2 : p ∣ S.getD i 0 * inv p (S.getD i 0) - 1 := by
          apply dvd_of_mod
          rw [Int.sub_emod, hI, Int.emod_eq_of_lt (by omega : (0 : Int) ≤ 1) (by omega)]; rfl
        have h3 : p ∣ at' m i j - -(at' m j i * inv p (S.getD i 0) * S.getD j 0) := by
          have h4 : at' m i j - -(at' m j i * inv p (S.getD i 0) * S.getD j 0) = (at' m j i * S.getD j 0 + at' m i j * S.getD i 0) * inv p (S.getD i 0) - at' m i j * (S.getD i 0 * inv p (S.getD i 0) - 1) := by
            rw [Int.add_mul, Int.mul_sub, Int.mul_one, show at' m j i * S.getD j 0 * inv p (S.getD i 0) = at' m j i * inv p (S.getD i 0) * S.getD j 0 by ac_rfl, show at' m i j * S.getD i 0 * inv p (S.getD i 0) = at' m i j * (S.getD i 0 * inv p (S.getD i 0)) by ac_rfl]
            omega
          rw [h4]
          exact Int.dvd_sub (Int.dvd_trans h2 (Int.dvd_mul_right _ _)) (Int.dvd_trans hI2 (Int.dvd_mul_left _ _))
        have h5 := Int.emod_emod_of_dvd (at' m i j) (Int.dvd_refl p)
        have h6' := Int.emod_eq_emod_iff_emod_sub_eq_zero.2 (Int.emod_eq_zero_of_dvd h3)
        rw [Int.emod_eq_of_lt hij.1 hij.2] at h6'
        exact h6'.symm
end Go.Proofs.YtkibkkdeaojjoabGreat

namespace Go.Proofs.YtkibkkdeaojjoabGreat
open Go.RowKit
set_option linter.unusedVariables false

/-- Whether a term of grade g has come. -/
def cm (x : List Int) (left : Lit → Bool) (g : Nat) : Bool := (List.range x.length).any fun j => decide (gr j = g) && decide (x.getD j 0 ≠ 0) && !(td left j)
end Go.Proofs.YtkibkkdeaojjoabGreat
