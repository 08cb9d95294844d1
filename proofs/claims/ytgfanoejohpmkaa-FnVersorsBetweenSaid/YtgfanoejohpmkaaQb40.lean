/-
  Geometric products of vectors: twice their product, squares are norms. No Go in sight.
  No conditions.
  BracketOf: contracts of the program and of the model.
  Conditions: the lists are nil or rows of known cells, of at most 1048576 numbers.
  size5, times5, vector5, plus5: contracts of the program and of the model.
  Conditions: the lists are nil or rows of known cells, of at most 1048576 numbers.
  Products of multivectors: they distribute, and their scalars don't depend on the order of two factors.
  Conditions: none.
  Reversals and involutions of products: mathematics.
  Conditions: none.
  Versors: products of vectors are versors, and their sandwiches the reflections. No Go in sight.
  No conditions.
-/
import Derived.Test.YtgfanoejohpmkaaQb12
import Derived.Test.YtgfanoejohpmkaaQb39
import Derived.Test.YtgfanoejohpmkaaQb19
import Derived.Deep.RegionHeld3
import Derived.Deep.DeepCutAuto
import Derived.Test.YtgfanoejohpmkaaQb9
import Derived.Test.YtgfanoejohpmkaaQb14
import Derived.Test.YtgfanoejohpmkaaQb37
import Derived.Test.YtgfanoejohpmkaaQb33
namespace Go.Proofs.Ytgfanoejohpmkaa
open Go.RowKit
set_option linter.unusedVariables false

theorem pow_bit' (i j : Nat) : 2 ^ i / 2 ^ j % 2 = if i = j then 1 else 0 := by
  rw [← Nat.toNat_testBit, Nat.testBit_two_pow]
  by_cases h : i = j <;> simp [h]
theorem pow_inj' {i j : Nat} (h : 2 ^ i = 2 ^ j) : i = j := (Nat.pow_right_inj (by decide)).1 h
theorem fz_pow' (S : List Int) (a i : Nat) : ∀ n, fz S a (2 ^ i) n = if i < n then eps (gr (a / 2 ^ (i + 1))) * (if a / 2 ^ i % 2 = 1 then S.getD i 0 else 1) else 1
  | 0 => rfl
  | n + 1 => by
    show fz S a (2 ^ i) n * gi S a (2 ^ i) n = _
    rw [fz_pow' S a i n]
    unfold gi
    rw [pow_bit']
    by_cases e : i = n
    · subst e
      rw [if_pos rfl, if_pos rfl, if_neg (Nat.lt_irrefl _), if_pos (Nat.lt_succ_self _), Int.one_mul]
    · rw [if_neg e, if_neg (show ¬ (0 : Nat) = 1 by decide), Int.mul_one]
      by_cases h : i < n
      · rw [if_pos h, if_pos (show i < n + 1 by omega)]
      · rw [if_neg h, if_neg (show ¬ i < n + 1 by omega)]
theorem vecF_sum' (v : List Int) (b : Nat) : ∀ k, vecF v k b = sm k (fun i => if b = 2 ^ i then v.getD i 0 else 0)
  | 0 => rfl
  | k + 1 => by
    show (if b = 2 ^ k then v.getD k 0 else vecF v k b) = sm k _ + (if b = 2 ^ k then v.getD k 0 else 0)
    by_cases e : b = 2 ^ k
    · rw [if_pos e, if_pos e, sm_congr (g := fun _ => 0) (fun i hi => if_neg (fun h => by have := pow_inj' (e.symm.trans h); omega)), sm_zero, Int.zero_add]
    · rw [if_neg e, if_neg e, Int.add_zero, vecF_sum' v b k]
def eF (S : List Int) (i j : Nat) : Int := fz S (2 ^ i) (2 ^ j) S.length
theorem gr_pow2 : ∀ i, i < 6 → ∀ j, j < 6 → gr (2 ^ i / 2 ^ (j + 1)) = if j < i then 1 else 0 := by decide +kernel
theorem eF_sum {S : List Int} (h6 : S.length ≤ 6) {i j : Nat} (hi : i < S.length) (hj : j < S.length) : eF S i j + eF S j i = if i = j then 2 * S.getD i 0 else 0 := by
  unfold eF
  rw [fz_pow', fz_pow', if_pos hi, if_pos hj, gr_pow2 i (by omega) j (by omega), gr_pow2 j (by omega) i (by omega), pow_bit', pow_bit']
  by_cases e : i = j
  · subst e
    simp [eps]
    omega
  · have e' : ¬ j = i := fun h => e h.symm
    by_cases h : j < i
    · have h' : ¬ i < j := by omega
      simp [e, e', h, h', eps]
    · have h' : i < j := by omega
      simp [e, e', h, h', eps]
theorem gp_vec (S v w : List Int) (hv : v.length = S.length) (hw : w.length = S.length) {c : Nat} (hc : c < bl S) :
    gpz S S.length (vecF v v.length) (vecF w w.length) c = sm S.length (fun i => sm S.length (fun j => if c = 2 ^ i ^^^ 2 ^ j then v.getD i 0 * w.getD j 0 * eF S i j else 0)) := by
  unfold gpz
  have h1 : ∀ a, a < 2 ^ S.length → vecF v v.length a * fz S a (a ^^^ c) S.length * vecF w w.length (a ^^^ c) = sm S.length (fun i => if a = 2 ^ i then (sm S.length (fun j => if c = 2 ^ i ^^^ 2 ^ j then v.getD i 0 * w.getD j 0 * eF S i j else 0)) else 0) := fun a ha => by
    rw [vecF_sum', vecF_sum', hv, hw, Int.mul_assoc, Int.mul_comm, ← sm_mul]
    apply sm_congr
    intro i hi
    by_cases e : a = 2 ^ i
    · rw [if_pos e, if_pos e, Int.mul_comm, ← Int.mul_assoc, ← sm_mul]
      apply sm_congr
      intro j hj
      by_cases e2 : a ^^^ c = 2 ^ j
      · have e3 : c = 2 ^ i ^^^ 2 ^ j := by rw [← e2, e, ← Nat.xor_assoc, Nat.xor_self, Nat.zero_xor]
        rw [if_pos e2, if_pos e3, e2, e]
        unfold eF
        ac_rfl
      · have e3 : ¬ c = 2 ^ i ^^^ 2 ^ j := fun h => e2 (by rw [h, e, ← Nat.xor_assoc, Nat.xor_self, Nat.zero_xor])
        rw [if_neg e2, if_neg e3, Int.mul_zero]
    · rw [if_neg e, if_neg e, Int.mul_zero]
  rw [sm_congr h1, sm_swap]
  apply sm_congr
  intro i hi
  rw [sm_single, if_pos (Nat.pow_lt_pow_right (by decide) hi)]
/-- v w and w v are together twice their product. -/
theorem gp_both {S v w : List Int} (h6 : S.length ≤ 6) (hv : v.length = S.length) (hw : w.length = S.length) {c : Nat} (hc : c < bl S) :
    gpz S S.length (vecF v v.length) (vecF w w.length) c + gpz S S.length (vecF w w.length) (vecF v v.length) c = if c = 0 then 2 * psum S v w S.length else 0 := by
  rw [gp_vec S v w hv hw hc, gp_vec S w v hw hv hc]
  have hs : sm S.length (fun i => sm S.length (fun j => if c = 2 ^ i ^^^ 2 ^ j then w.getD i 0 * v.getD j 0 * eF S i j else 0)) = sm S.length (fun i => sm S.length (fun j => if c = 2 ^ i ^^^ 2 ^ j then v.getD i 0 * w.getD j 0 * eF S j i else 0)) := by
    rw [sm_swap]
    exact sm_congr fun i _ => sm_congr fun j _ => by rw [Nat.xor_comm, Int.mul_comm (w.getD j 0)]
  rw [hs, ← sm_add]
  have h2 : ∀ i, i < S.length → (sm S.length (fun j => if c = 2 ^ i ^^^ 2 ^ j then v.getD i 0 * w.getD j 0 * eF S i j else 0) + sm S.length (fun j => if c = 2 ^ i ^^^ 2 ^ j then v.getD i 0 * w.getD j 0 * eF S j i else 0)) = if c = 0 then 2 * (v.getD i 0 * w.getD i 0 * S.getD i 0) else 0 := fun i hi => by
    rw [← sm_add]
    have h3 : ∀ j, j < S.length → ((if c = 2 ^ i ^^^ 2 ^ j then v.getD i 0 * w.getD j 0 * eF S i j else 0) + (if c = 2 ^ i ^^^ 2 ^ j then v.getD i 0 * w.getD j 0 * eF S j i else 0)) = if j = i then (if c = 0 then 2 * (v.getD i 0 * w.getD i 0 * S.getD i 0) else 0) else 0 := fun j hj => by
      by_cases e : j = i
      · subst e
        rw [if_pos rfl, Nat.xor_self]
        by_cases h0 : c = 0
        · rw [if_pos h0, if_pos h0, ← Int.mul_add, eF_sum h6 hj hj, if_pos rfl]
          ac_rfl
        · rw [if_neg h0, if_neg h0]; rfl
      · rw [if_neg e]
        by_cases h0 : c = 2 ^ i ^^^ 2 ^ j
        · rw [if_pos h0, if_pos h0, ← Int.mul_add, eF_sum h6 hi hj, if_neg (fun h => e h.symm), Int.mul_zero]
        · rw [if_neg h0, if_neg h0]; rfl
    rw [sm_congr h3, sm_single, if_pos hi]
  rw [sm_congr h2]
  by_cases h0 : c = 0
  · rw [if_pos h0, sm_congr (g := fun i => 2 * (v.getD i 0 * w.getD i 0 * S.getD i 0)) (fun i _ => if_pos h0), sm_mul]
    rfl
  · rw [if_neg h0, sm_congr (g := fun _ => 0) (fun i _ => if_neg h0), sm_zero]
def unitR (S : List Int) (z : Int) : List Int := mkR (bl S) (fun j => if j = 0 then z else 0)
theorem prod_vec (p : Int) (S v w : List Int) {c : Nat} (hc : c < bl S) : prodF p S (vecM S v) (vecM S w) c = gpz S S.length (vecF v v.length) (vecF w w.length) c % p := by
  unfold prodF
  rw [gpz_congr S S.length hc (x' := vecF v v.length) (y' := vecF w w.length) (fun j hj => by unfold vecM; exact mkR_at _ hj) (fun j hj => by unfold vecM; exact mkR_at _ hj)]
theorem both_eq {p : Int} {S v w : List Int} (h6 : S.length ≤ 6) (hv : v.length = S.length) (hw : w.length = S.length) :
    plusR p (prodM p S (vecM S v) (vecM S w)) (prodM p S (vecM S w) (vecM S v)) 1 = unitR S (2 * pairN p S v w % p) := by
  unfold plusR unitR
  rw [prodM_len]
  apply mkR_congr
  intro c hc
  rw [prodM_at _ _ _ _ hc, prodM_at _ _ _ _ hc, prod_vec _ _ _ _ hc, prod_vec _ _ _ _ hc, Int.one_mul, ← Int.add_emod, gp_both h6 hv hw hc]
  by_cases h0 : c = 0
  · rw [if_pos h0, if_pos h0]; unfold pairN; rw [er_mod]
  · rw [if_neg h0, if_neg h0, Int.zero_emod]
theorem square_eq {p : Int} {S v : List Int} (h6 : S.length ≤ 6) (hv : v.length = S.length) : prodM p S (vecM S v) (vecM S v) = unitR S (pairN p S v v) := by
  unfold prodM unitR
  apply mkR_congr
  intro c hc
  rw [prod_vec _ _ _ _ hc]
  have h := gp_both h6 hv hv hc
  by_cases h0 : c = 0
  · rw [if_pos h0] at h ⊢
    unfold pairN
    congr 1
    omega
  · rw [if_neg h0] at h ⊢
    rw [show gpz S S.length (vecF v v.length) (vecF v v.length) c = 0 by omega, Int.zero_emod]
end Go.Proofs.Ytgfanoejohpmkaa

namespace Go.Proofs.Ytgfanoejohpmkaa
open Go.RowKit
set_option linter.unusedVariables false

theorem gpz_add_r (S : List Int) (n : Nat) (x y u : Nat → Int) (c : Nat) : gpz S n x (fun j => y j + u j) c = gpz S n x y c + gpz S n x u c := by
  unfold gpz
  rw [← sm_add]
  exact sm_congr fun a _ => by rw [Int.mul_add]
theorem prod_dist {p : Int} {S x y u : List Int} (hy : y.length = bl S) : prodM p S x (addV p y u) = plusR p (prodM p S x y) (prodM p S x u) 1 := by
  unfold plusR
  rw [prodM_len]
  apply mkR_congr
  intro c hc
  rw [prodM_at _ _ _ _ hc, prodM_at _ _ _ _ hc, Int.one_mul]
  unfold prodF
  rw [← Int.add_emod, ← gpz_add_r]
  exact gpz_mod S S.length hc (fun j _ => rfl) (fun j hj => by
    have h : j < y.length := by rw [hy]; exact hj
    show (addV p y u).getD j 0 % p = _
    unfold addV
    rw [mkR_at _ h, Int.emod_emod, Int.one_mul])
end Go.Proofs.Ytgfanoejohpmkaa

namespace Go.Proofs.Ytgfanoejohpmkaa
open Go.RowKit
set_option linter.unusedVariables false

theorem eps_add (a b : Nat) : eps (a + b) = eps a * eps b := by
  unfold eps
  rcases Nat.mod_two_eq_zero_or_one a with ha | ha <;> rcases Nat.mod_two_eq_zero_or_one b with hb | hb <;> simp [ha, hb, Nat.add_mod]
theorem eps_mod {a b : Nat} (h : a % 2 = b % 2) : eps a = eps b := by unfold eps; rw [h]
/-- How often basis vectors of the second blade pass later ones of the first. -/
def sgn (a b : Nat) : Nat → Nat
  | 0 => 0
  | n + 1 => sgn a b n + b / 2 ^ n % 2 * gr (a / 2 ^ (n + 1))
/-- The squares of the basis vectors that two blades share. -/
def shr (S : List Int) (a b : Nat) : Nat → Int
  | 0 => 1
  | n + 1 => shr S a b n * (if b / 2 ^ n % 2 = 1 ∧ a / 2 ^ n % 2 = 1 then S.getD n 0 else 1)
theorem shr_comm (S : List Int) (a b : Nat) : ∀ n, shr S a b n = shr S b a n
  | 0 => rfl
  | n + 1 => by
    simp only [shr]
    rw [shr_comm S a b n]
    congr 1
    by_cases h : b / 2 ^ n % 2 = 1 ∧ a / 2 ^ n % 2 = 1
    · rw [if_pos h, if_pos ⟨h.2, h.1⟩]
    · rw [if_neg h, if_neg (fun k => h ⟨k.2, k.1⟩)]
theorem fz_split (S : List Int) (a b : Nat) : ∀ n, fz S a b n = eps (sgn a b n) * shr S a b n
  | 0 => rfl
  | n + 1 => by
    simp only [fz, sgn, shr]
    rw [fz_split S a b n, eps_add]
    have h : gi S a b n = eps (b / 2 ^ n % 2 * gr (a / 2 ^ (n + 1))) * (if b / 2 ^ n % 2 = 1 ∧ a / 2 ^ n % 2 = 1 then S.getD n 0 else 1) := by
      unfold gi
      rcases Nat.mod_two_eq_zero_or_one (b / 2 ^ n) with hb | hb
      · rw [hb]; simp [eps]
      · rw [hb]; simp
    rw [h]
    generalize eps (sgn a b n) = x1
    generalize shr S a b n = x2
    generalize eps (b / 2 ^ n % 2 * gr (a / 2 ^ (n + 1))) = x3
    ac_rfl
def passes : Bool := (List.range 7).all fun n => (List.range (2 ^ n)).all fun a => (List.range (2 ^ n)).all fun b => (c_reversal (gr (a ^^^ b)) + sgn a b n) % 2 == (c_reversal (gr a) + c_reversal (gr b) + sgn b a n) % 2
set_option maxRecDepth 100000 in
theorem passes_all : passes = true := by decide +kernel
theorem passes_at {n a b : Nat} (hn : n ≤ 6) (ha : a < 2 ^ n) (hb : b < 2 ^ n) : (c_reversal (gr (a ^^^ b)) + sgn a b n) % 2 = (c_reversal (gr a) + c_reversal (gr b) + sgn b a n) % 2 := by
  have h := passes_all
  unfold passes at h
  rw [List.all_eq_true] at h
  have h1 := h n (List.mem_range.2 (by omega))
  rw [List.all_eq_true] at h1
  have h2 := h1 a (List.mem_range.2 ha)
  rw [List.all_eq_true] at h2
  have h3 := h2 b (List.mem_range.2 hb)
  simpa using h3
theorem fz_turn (S : List Int) {n a b : Nat} (hn : n ≤ 6) (ha : a < 2 ^ n) (hb : b < 2 ^ n) :
    eps (c_reversal (gr (a ^^^ b))) * fz S a b n = eps (c_reversal (gr a)) * eps (c_reversal (gr b)) * fz S b a n := by
  rw [fz_split, fz_split, shr_comm S a b n, ← Int.mul_assoc, ← Int.mul_assoc, ← eps_add, ← eps_add, ← eps_add, eps_mod (passes_at hn ha hb)]
/-- A multivector with the sign that a grade has. -/
theorem sgR_eq {p : Int} {c : Nat → Nat} {x : List Int} {j : Nat} (h : 0 ≤ x.getD j 0 ∧ x.getD j 0 < p) : sgF p c x j = eps (c (gr j)) * x.getD j 0 % p := by
  unfold sgF eps
  split
  · rw [Int.neg_one_mul, Int.sub_eq_add_neg, Int.add_comm, Int.add_emod_right]
  · rw [Int.one_mul, Int.emod_eq_of_lt h.1 h.2]
theorem sgM_at (p : Int) (c : Nat → Nat) (x : List Int) {j : Nat} (hj : j < x.length) : (mkR x.length (sgF p c x)).getD j 0 = sgF p c x j := mkR_at _ hj
theorem sg_mod {p : Int} {c : Nat → Nat} {x : List Int} (hn : ∀ j, j < x.length → 0 ≤ x.getD j 0 ∧ x.getD j 0 < p) {j : Nat} (hj : j < x.length) : (mkR x.length (sgF p c x)).getD j 0 % p = (eps (c (gr j)) * x.getD j 0) % p := by
  rw [sgM_at _ _ _ hj, sgR_eq (hn j hj), Int.emod_emod]
theorem sg_prod {p : Int} {c : Nat → Nat} {S x y : List Int} (hp : 0 < p) {d : Nat} (hd : d < bl S) : sgF p c (prodM p S x y) d = (eps (c (gr d)) * gpz S S.length (fun j => x.getD j 0) (fun j => y.getD j 0) d) % p := by
  have h := prodM_num hp S x y d (by rw [prodM_len]; exact hd)
  rw [sgR_eq h, prodM_at _ _ _ _ hd]
  unfold prodF
  rw [Int.mul_emod, Int.emod_emod, ← Int.mul_emod]
theorem gpz_turn (S : List Int) (h6 : S.length ≤ 6) (x y : Nat → Int) {d : Nat} (hd : d < 2 ^ S.length) :
    eps (c_reversal (gr d)) * gpz S S.length x y d = gpz S S.length (fun j => eps (c_reversal (gr j)) * y j) (fun j => eps (c_reversal (gr j)) * x j) d := by
  unfold gpz
  rw [← sm_xor S.length d hd (fun a => eps (c_reversal (gr a)) * y a * fz S a (a ^^^ d) S.length * (eps (c_reversal (gr (a ^^^ d))) * x (a ^^^ d))), ← sm_mul]
  apply sm_congr
  intro a ha
  have hb : a ^^^ d < 2 ^ S.length := Nat.xor_lt_two_pow ha hd
  have e : a ^^^ (a ^^^ d) = d := by rw [← Nat.xor_assoc, Nat.xor_self, Nat.zero_xor]
  have e2 : a ^^^ d ^^^ d = a := by rw [Nat.xor_assoc, Nat.xor_self, Nat.xor_zero]
  have h := fz_turn S h6 ha hb
  rw [e] at h
  simp only [e2]
  generalize eps (c_reversal (gr d)) = t1 at *
  generalize eps (c_reversal (gr a)) = t2 at *
  generalize eps (c_reversal (gr (a ^^^ d))) = t3 at *
  generalize fz S a (a ^^^ d) S.length = f1 at *
  generalize fz S (a ^^^ d) a S.length = f2 at *
  generalize x a = u
  generalize y (a ^^^ d) = v
  calc t1 * (u * f1 * v) = (t1 * f1) * u * v := by ac_rfl
    _ = (t2 * t3 * f2) * u * v := by rw [h]
    _ = t3 * v * f2 * (t2 * u) := by ac_rfl
theorem gpz_inv (S : List Int) (x y : Nat → Int) {d : Nat} (hd : d < 2 ^ S.length) :
    eps (c_involution (gr d)) * gpz S S.length x y d = gpz S S.length (fun j => eps (c_involution (gr j)) * x j) (fun j => eps (c_involution (gr j)) * y j) d := by
  unfold gpz
  rw [← sm_mul]
  apply sm_congr
  intro a ha
  have e : a ^^^ (a ^^^ d) = d := by rw [← Nat.xor_assoc, Nat.xor_self, Nat.zero_xor]
  have h := eps_xor a (a ^^^ d)
  rw [e] at h
  show eps (gr d) * _ = eps (gr a) * x a * _ * (eps (gr (a ^^^ d)) * y (a ^^^ d))
  rw [h]
  generalize eps (gr a) = t2 at *
  generalize eps (gr (a ^^^ d)) = t3 at *
  generalize fz S a (a ^^^ d) S.length = f1 at *
  generalize x a = u
  generalize y (a ^^^ d) = v
  ac_rfl
/-- The reverse of a product is the product of the reverses, turned round. -/
theorem rev_prod {p : Int} (hp : 0 < p) {S x y : List Int} (h6 : S.length ≤ 6) (hx : x.length = bl S) (hy : y.length = bl S) (nx : ∀ j, j < x.length → 0 ≤ x.getD j 0 ∧ x.getD j 0 < p) (ny : ∀ j, j < y.length → 0 ≤ y.getD j 0 ∧ y.getD j 0 < p) :
    prodM p S (mkR y.length (sgF p c_reversal y)) (mkR x.length (sgF p c_reversal x)) = mkR (prodM p S x y).length (sgF p c_reversal (prodM p S x y)) := by
  rw [prodM_len]
  exact mkR_congr fun d hd => by
    rw [sg_prod hp hd, gpz_turn S h6 _ _ hd]
    exact gpz_mod S S.length hd (fun j hj => sg_mod ny (by rw [hy]; exact hj)) (fun j hj => sg_mod nx (by rw [hx]; exact hj))
theorem inv_prod {p : Int} (hp : 0 < p) {S x y : List Int} (hx : x.length = bl S) (hy : y.length = bl S) (nx : ∀ j, j < x.length → 0 ≤ x.getD j 0 ∧ x.getD j 0 < p) (ny : ∀ j, j < y.length → 0 ≤ y.getD j 0 ∧ y.getD j 0 < p) :
    prodM p S (mkR x.length (sgF p c_involution x)) (mkR y.length (sgF p c_involution y)) = mkR (prodM p S x y).length (sgF p c_involution (prodM p S x y)) := by
  rw [prodM_len]
  exact mkR_congr fun d hd => by
    rw [sg_prod hp hd, gpz_inv S _ _ hd]
    exact gpz_mod S S.length hd (fun j hj => sg_mod nx (by rw [hx]; exact hj)) (fun j hj => sg_mod ny (by rw [hy]; exact hj))

end Go.Proofs.Ytgfanoejohpmkaa

namespace Go.Proofs.Ytgfanoejohpmkaa
open Go.RowKit
set_option linter.unusedVariables false

theorem gpz_mul_l (S : List Int) (n : Nat) (x y : Nat → Int) (k : Int) (c : Nat) : gpz S n (fun j => x j * k) y c = gpz S n x y c * k := by
  unfold gpz
  rw [Int.mul_comm, ← sm_mul]
  apply sm_congr
  intro a _
  show x a * k * fz S a (a ^^^ c) n * y (a ^^^ c) = k * (x a * fz S a (a ^^^ c) n * y (a ^^^ c))
  rw [Int.mul_comm (x a) k, Int.mul_assoc, Int.mul_assoc, Int.mul_assoc]
theorem prod_scl_l (p : Int) (S a b : List Int) (k : Int) (ha : a.length = bl S) : prodM p S (sclV p a k) b = sclV p (prodM p S a b) k := by
  unfold sclV
  rw [prodM_len]
  refine mkR_congr fun c hc => ?_
  rw [prodM_at p S a b hc]
  show gpz _ _ _ _ c % p = gpz _ _ _ _ c % p * k % p
  rw [em_l, ← gpz_mul_l]
  exact gpz_mod S S.length hc (fun j hj => by
    show (mkR a.length fun j => a.getD j 0 * k % p).getD j 0 % p = _
    rw [mkR_at _ (by rw [ha]; exact hj), Int.emod_emod]) (fun _ _ => rfl)
theorem one_len (S : List Int) : (mOne S).length = bl S := mkR_len _ _
theorem unit_scl {p k : Int} (S : List Int) (k0 : 0 ≤ k) (k1 : k < p) : unitR S k = sclV p (mOne S) k := by
  unfold unitR sclV
  rw [one_len]
  refine mkR_congr fun j hj => ?_
  unfold mOne
  rw [mkR_at _ hj]
  unfold oneF
  split
  · rw [Int.one_mul, Int.emod_eq_of_lt k0 k1]
  · rw [Int.zero_mul, Int.zero_emod]
theorem prod_unit {p k : Int} {S x : List Int} (hx : isMv p S x = true) (k0 : 0 ≤ k) (k1 : k < p) : prodM p S x (unitR S k) = sclV p x k := by
  rw [unit_scl S k0 k1, prod_scl _ _ _ _ _ (one_len S)]
  exact congrArg (sclV p · k) (prodM_one_r p S x (Mv.len hx) (Mv.num hx))
theorem unit_prod {p k : Int} {S x : List Int} (hx : isMv p S x = true) (k0 : 0 ≤ k) (k1 : k < p) : prodM p S (unitR S k) x = sclV p x k := by
  rw [unit_scl S k0 k1, prod_scl_l _ _ _ _ _ (one_len S)]
  exact congrArg (sclV p · k) (prodM_one_l p S x (Mv.len hx) (Mv.num hx))
theorem vecM_len (S v : List Int) : (vecM S v).length = bl S := mkR_len _ _
theorem vecM_at (S v : List Int) {c : Nat} (hc : c < bl S) : (vecM S v).getD c 0 = vecF v v.length c := mkR_at _ hc
theorem vecM_pow {S v : List Int} (hv : v.length = S.length) {i : Nat} (hi : i < S.length) : (vecM S v).getD (2 ^ i) 0 = v.getD i 0 := by
  rw [vecM_at _ _ (pow_lt hi)]
  exact vecF_at _ _ (by omega)
theorem vecM_off {S v : List Int} (hv : v.length = S.length) {c : Nat} (hc : c < bl S) (h : ∀ i, i < S.length → c ≠ 2 ^ i) : (vecM S v).getD c 0 = 0 := by
  rw [vecM_at _ _ hc]
  exact vecF_off _ fun i hi => h i (by omega)
theorem gr_pow : ∀ i, i < 6 → gr (2 ^ i) = 1 := by decide +kernel
theorem rev_vec {p : Int} {S v : List Int} (hs : isSp p S = true) (hv : v.length = S.length) : revM p (vecM S v) = vecM S v := by
  have h6 := (isSp_iff.1 hs).hi
  refine row_ext (by rw [revM_len]) fun c hc => ?_
  rw [revM_len, vecM_len] at hc
  unfold revM
  rw [mkR_at _ (by rw [vecM_len]; exact hc)]
  unfold sgF
  by_cases h : ∃ i, i < S.length ∧ c = 2 ^ i
  · obtain ⟨i, hi, rfl⟩ := h
    rw [gr_pow i (by omega), if_neg (by decide)]
  · rw [vecM_off hv hc fun i hi e => h ⟨i, hi, e⟩]
    split
    · rw [Int.sub_zero, Int.emod_self]
    · rfl
theorem iv_vec {p : Int} {S v : List Int} (hs : isSp p S = true) (hv : isVec p S.length v = true) : ivM p (vecM S v) = sclV p (vecM S v) (p - 1) := by
  have h6 := (isSp_iff.1 hs).hi
  have hl := (isVec_iff.1 hv).len
  refine row_ext (by rw [ivM_len]; unfold sclV; rw [mkR_len]) fun c hc => ?_
  rw [ivM_len, vecM_len] at hc
  unfold ivM sclV
  rw [mkR_at _ (by rw [vecM_len]; exact hc), mkR_at _ (by rw [vecM_len]; exact hc)]
  unfold sgF
  by_cases h : ∃ i, i < S.length ∧ c = 2 ^ i
  · obtain ⟨i, hi, rfl⟩ := h
    rw [gr_pow i (by omega), if_pos (by decide), show (vecM S v).getD (2 ^ i) 0 * (p - 1) = (p - (vecM S v).getD (2 ^ i) 0) + p * ((vecM S v).getD (2 ^ i) 0 - 1) by rw [Int.mul_sub, Int.mul_sub, Int.mul_comm p]; omega, Int.add_mul_emod_self_left]
  · rw [vecM_off hl hc fun i hi e => h ⟨i, hi, e⟩, Int.zero_mul, Int.zero_emod, Int.sub_zero, Int.emod_self, ite_self]
theorem neg_of_sum {p a b t : Int} (h : (a % p + t) % p = b % p) : t * (p - 1) % p = (a - b) % p := by
  have h1 : (a + t) % p = b % p := by rw [← h, Int.emod_add_emod]
  obtain ⟨k, hk⟩ := Int.dvd_of_emod_eq_zero (Int.emod_eq_emod_iff_emod_sub_eq_zero.1 h1)
  refine Int.emod_eq_emod_iff_emod_sub_eq_zero.2 ?_
  rw [show t * (p - 1) - (a - b) = p * (t - k) by rw [Int.mul_sub, Int.mul_sub, ← hk, Int.mul_comm p t]; omega, Int.mul_emod_right]
/-- What is around v by a vector u: the reflection times the norm. -/
def wV (p : Int) (S u v : List Int) : List Int := mkR S.length fun i => (pairN p S u u * v.getD i 0 - 2 * pairN p S u v % p * u.getD i 0) % p
theorem wV_len (p : Int) (S u v : List Int) : (wV p S u v).length = S.length := mkR_len _ _
theorem wV_vec {p : Int} {S : List Int} (hp : 0 < p) (u v : List Int) : isVec p S.length (wV p S u v) = true := by
  refine isVec_iff.2 ⟨wV_len _ _ _ _, ?_⟩
  rw [List.all_eq_true]
  intro y hy
  obtain ⟨j, hj, rfl⟩ := List.getElem_of_mem hy
  rw [← getD_at hj]
  rw [wV_len] at hj
  unfold wV
  rw [mkR_at _ hj]
  exact inr_iff.2 ⟨Int.emod_nonneg _ (by omega), Int.emod_lt_of_pos _ hp⟩
theorem ar_vec {p : Int} {S u v : List Int} (hs : isSp p S = true) (hu : isVec p S.length u = true) (hv : isVec p S.length v = true) : arM p S (vecM S u) v = vecM S (wV p S u v) := by
  have h6 := (isSp_iff.1 hs).hi
  have hp := prm_bd (isSp_iff.1 hs).prime
  have hul := (isVec_iff.1 hu).len
  have hvl := (isVec_iff.1 hv).len
  have hN := pairN_bd7 (p := p) (S := S) (u := u) (v := u) (by omega)
  have hK : 0 ≤ 2 * pairN p S u v % p ∧ 2 * pairN p S u v % p < p := ⟨Int.emod_nonneg _ (by omega), Int.emod_lt_of_pos _ (by omega)⟩
  unfold arM
  rw [iv_vec hs hu, rev_vec hs hul, prod_scl_l _ _ _ _ _ (vecM_len S u), prod_scl_l _ _ _ _ _ (prodM_len _ _ _ _), prodM_assoc]
  have h1 : plusR p (prodM p S (vecM S u) (prodM p S (vecM S u) (vecM S v))) (prodM p S (vecM S u) (prodM p S (vecM S v) (vecM S u))) 1 = sclV p (vecM S u) (2 * pairN p S u v % p) := by
    rw [← prod_dist (prodM_len _ _ _ _), ← prod_unit (vec_mv hs hu) hK.1 hK.2]
    exact congrArg _ (both_eq h6 hul hvl)
  rw [← prodM_assoc, square_eq h6 hul, unit_prod (vec_mv hs hv) hN.1 hN.2] at h1
  refine row_ext (by unfold sclV; rw [mkR_len, prodM_len, vecM_len]) fun c hc => ?_
  have hc' : c < bl S := by unfold sclV at hc; rw [mkR_len, prodM_len] at hc; exact hc
  have h2 := congrArg (List.getD · c 0) h1
  obtain ⟨t, ht⟩ : ∃ t, t = (prodM p S (vecM S u) (prodM p S (vecM S v) (vecM S u))).getD c 0 := ⟨_, rfl⟩
  unfold plusR sclV at h2
  rw [mkR_at _ (by rw [mkR_len, vecM_len]; exact hc'), mkR_at _ (by rw [vecM_len]; exact hc'), mkR_at _ (by rw [vecM_len]; exact hc'), ← ht, Int.one_mul] at h2
  have h3 := neg_of_sum h2
  unfold sclV
  rw [mkR_at _ (by rw [prodM_len]; exact hc'), ← ht, h3]
  by_cases h : ∃ i, i < S.length ∧ c = 2 ^ i
  · obtain ⟨i, hi, rfl⟩ := h
    rw [vecM_pow (wV_len _ _ _ _) hi, vecM_pow hul hi, vecM_pow hvl hi]
    unfold wV
    rw [mkR_at _ hi, Int.mul_comm (v.getD i 0), Int.mul_comm (u.getD i 0)]
  · have h4 : ∀ i, i < S.length → c ≠ 2 ^ i := fun i hi e => h ⟨i, hi, e⟩
    rw [vecM_off (wV_len _ _ _ _) hc' h4, vecM_off hul hc' h4, vecM_off hvl hc' h4, Int.zero_mul, Int.zero_mul, Int.sub_zero, Int.zero_emod]

end Go.Proofs.Ytgfanoejohpmkaa
