/-
  Products of a kind, over the integers: how they go together. No Go in sight.
  No conditions.
  Contractions: turned round by reversals, and by vectors. No Go in sight.
  No conditions.
  Duals undone, meets with the pseudoscalar, the pseudoscalar's square and the discriminant. No Go in sight.
  No conditions.
-/
import Derived.Test.YtgfohjfemkmldaaQd27
import Derived.Test.YtgfohjfemkmldaaQd24
import Derived.Test.YtgfohjfemkmldaaQd15
import Derived.Test.YtgfohjfemkmldaaQd36
import Derived.Test.YtgfohjfemkmldaaQd25
namespace Go.Proofs.Ytgfohjfemkmldaa
open Go.RowKit
set_option linter.unusedVariables false

theorem kp0_iff {a b : Nat} : kp 0 a b = true ↔ ∀ i, (a.testBit i && b.testBit i) = false := by
  unfold kp
  rw [if_pos rfl, beq_iff_eq]
  constructor
  · intro h i
    rw [← Nat.testBit_and, h, Nat.zero_testBit]
  · intro h
    exact Nat.eq_of_testBit_eq fun i => by rw [Nat.testBit_and, h i, Nat.zero_testBit]
theorem kp1_iff {a b : Nat} : kp 1 a b = true ↔ ∀ i, (a.testBit i && b.testBit i) = a.testBit i := by
  unfold kp
  rw [if_neg (by decide), if_pos rfl, beq_iff_eq]
  constructor
  · intro h i
    rw [← Nat.testBit_and, h]
  · intro h
    exact Nat.eq_of_testBit_eq fun i => by rw [Nat.testBit_and, h i]
end Go.Proofs.Ytgfohjfemkmldaa

namespace Go.Proofs.Ytgfohjfemkmldaa
open Go.RowKit
set_option linter.unusedVariables false

/-- A number, as a multivector. -/
def scM (S : List Int) (k : Int) : List Int := mkR (bl S) fun j => if j = 0 then k else 0
theorem kp1_full {n a : Nat} (h : a < 2 ^ n) : kp 1 a (2 ^ n - 1) = true := kp1_iff.2 fun i => by
  rw [Nat.testBit_two_pow_sub_one]
  cases hb : a.testBit i with
  | false => rfl
  | true =>
    by_cases hi : i < n
    · simp [hi]
    · have := Nat.testBit_lt_two_pow (Nat.lt_of_lt_of_le h (Nat.pow_le_pow_right (by decide) (Nat.le_of_not_lt hi)))
      rw [hb] at this; cases this
theorem kp0_zero (b : Nat) : kp 0 0 b = true := kp0_iff.2 fun i => by simp
/-- The left contraction into the pseudoscalar is the product with it. -/
theorem left_top (p : Int) (S x : List Int) (k : Int) : kM p S 1 x (topM S k) = prodM p S x (topM S k) := by
  unfold kM prodM
  apply mkR_congr
  intro c hc
  unfold kF
  rw [← tm_sum]
  congr 1
  apply sm_congr
  intro a ha
  unfold tk
  by_cases h : kp 1 a (a ^^^ c) = true
  · rw [if_pos h]
  · rw [if_neg h]
    have hb : a ^^^ c < bl S := Nat.xor_lt_two_pow ha hc
    unfold tm
    rw [topM_at S k hb]
    unfold topF
    rw [if_neg (fun e => h (by rw [e]; exact kp1_full ha)), Int.mul_zero]
theorem scM_at (S : List Int) (k : Int) {j : Nat} (h : j < bl S) : (scM S k).getD j 0 = if j = 0 then k else 0 := mkR_at _ h
theorem wedge_one (p : Int) (S y : List Int) (k : Int) : kM p S 0 (scM S k) y = prodM p S (scM S k) y := by
  unfold kM prodM
  apply mkR_congr
  intro c hc
  unfold kF
  rw [← tm_sum]
  congr 1
  apply sm_congr
  intro a ha
  unfold tk
  by_cases h : kp 0 a (a ^^^ c) = true
  · rw [if_pos h]
  · rw [if_neg h]
    unfold tm
    rw [scM_at S k ha, if_neg (fun e => h (by rw [e]; exact kp0_zero _)), Int.zero_mul, Int.zero_mul]
theorem prod_sc (p : Int) (S x : List Int) (k : Int) : prodM p S x (scM S k) = mkR (bl S) fun c => x.getD c 0 * k % p := by
  unfold prodM
  apply mkR_congr
  intro c hc
  rw [← tm_sum]
  have h : ∀ a, a < bl S → tm p S x (scM S k) c a = if a = c then x.getD c 0 * fm p S c 0 S.length * k else 0 := fun a ha => by
    have hb : a ^^^ c < bl S := Nat.xor_lt_two_pow ha hc
    unfold tm
    rw [scM_at S k hb]
    by_cases e : a = c
    · subst e; rw [Nat.xor_self, if_pos rfl, if_pos rfl]
    · rw [if_neg (fun h0 => e (by have := xor_back a c; rw [h0, Nat.xor_zero] at this; exact this)), if_neg e, Int.mul_zero]
  rw [sm_congr h, sm_single, if_pos hc]
  unfold fm
  rw [fz_one, Int.mul_assoc, ← em_r, em_l, Int.one_mul, em_r]
theorem top_top (p : Int) (S : List Int) (k1 k2 : Int) : prodM p S (topM S k1) (topM S k2) = scM S (k1 * k2 * sqT p S % p) := by
  unfold prodM scM
  apply mkR_congr
  intro c hc
  rw [← tm_sum]
  have h : ∀ a, a < bl S → tm p S (topM S k1) (topM S k2) c a = if a = bl S - 1 then (if c = 0 then k1 * sqT p S * k2 else 0) else 0 := fun a ha => by
    have hb : a ^^^ c < bl S := Nat.xor_lt_two_pow ha hc
    unfold tm
    rw [topM_at S k1 ha, topM_at S k2 hb]
    unfold topF
    by_cases e : a = bl S - 1
    · rw [if_pos e, if_pos e]
      by_cases e2 : c = 0
      · rw [e2, Nat.xor_zero, if_pos e, if_pos rfl, e]; rfl
      · rw [if_neg e2, if_neg (fun h3 => e2 (by have := xor_back a c; rw [h3, e, Nat.xor_self] at this; exact this.symm)), Int.mul_zero]
    · rw [if_neg e, if_neg e, Int.zero_mul, Int.zero_mul]
  rw [sm_congr h, sm_single, if_pos (top_last S)]
  by_cases e2 : c = 0
  · rw [if_pos e2, if_pos e2]; congr 1; ac_rfl
  · rw [if_neg e2, if_neg e2, Int.zero_emod]
theorem sc_one {p : Int} {S x : List Int} (hx : isMv p S x = true) : prodM p S x (scM S 1) = x := prodM_one_r p S x (Mv.len hx) (Mv.num hx)
theorem one_sc {p : Int} {S x : List Int} (hx : isMv p S x = true) : prodM p S (scM S 1) x = x := prodM_one_l p S x (Mv.len hx) (Mv.num hx)
theorem sq_inv {p : Int} {S : List Int} (hs : isSp p S = true) (hd : discN p S ≠ 0) : sqT p S * invT p S % p = 1 := by
  have h1 := sq_pos hs hd
  have hb := sqT_bd hs
  have k := every_at (Q := fun p a => decide (a < 1) || decide (a * inv p a % p = 1)) (by decide +kernel) (isSp_iff.1 hs).prime hb.1 hb.2
  unfold invT
  simp only [Bool.or_eq_true, decide_eq_true_eq] at k
  rcases k with k | k
  · omega
  · exact k
theorem und_dual {p : Int} {S x : List Int} (hs : isSp p S = true) (hd : discN p S ≠ 0) (hx : isMv p S x = true) : undM p S (dualM p S x) = x := by
  unfold undM dualM lcM
  rw [left_top, left_top, prodM_assoc, top_top, show invT p S * 1 * sqT p S % p = 1 by rw [Int.mul_one, Int.mul_comm]; exact sq_inv hs hd]
  exact sc_one hx
theorem dual_und {p : Int} {S x : List Int} (hs : isSp p S = true) (hd : discN p S ≠ 0) (hx : isMv p S x = true) : dualM p S (undM p S x) = x := by
  unfold undM dualM lcM
  rw [left_top, left_top, prodM_assoc, top_top, show 1 * invT p S * sqT p S % p = 1 by rw [Int.one_mul, Int.mul_comm]; exact sq_inv hs hd]
  exact sc_one hx
theorem meet_top {p : Int} {S x : List Int} (hs : isSp p S = true) (hd : discN p S ≠ 0) (hx : isMv p S x = true) : meetM p S (topM S 1) x = x := by
  have h : dualM p S (topM S 1) = scM S 1 := by
    unfold dualM lcM
    rw [left_top, top_top, show 1 * invT p S * sqT p S % p = 1 by rw [Int.one_mul, Int.mul_comm]; exact sq_inv hs hd]
  unfold meetM wgM
  rw [h, wedge_one, one_sc (dual_mv hs x)]
  exact und_dual hs hd hx
theorem dual_meet {p : Int} {S : List Int} (hs : isSp p S = true) (hd : discN p S ≠ 0) (x y : List Int) : dualM p S (meetM p S x y) = wgM p S (dualM p S x) (dualM p S y) := by
  unfold meetM
  exact dual_und hs hd (wg_mv hs _ _)
theorem scl_sc {p : Int} {S x : List Int} (hx : x.length = bl S) (k : Int) : sclV p x k = prodM p S x (scM S k) := by
  rw [prod_sc]; unfold sclV; rw [hx]
/-- The dual, times the square of the pseudoscalar, is the product with it. -/
theorem scl_dual {p : Int} {S x : List Int} (hs : isSp p S = true) (hd : discN p S ≠ 0) : sclV p (dualM p S x) (sqT p S) = prodM p S x (topM S 1) := by
  rw [scl_sc (Mv.len (dual_mv hs x))]
  unfold dualM lcM
  rw [left_top, prodM_assoc]
  congr 1
  rw [prod_sc]
  unfold topM
  apply mkR_congr
  intro c hc
  show (mkR (bl S) (topF S (invT p S))).getD c 0 * sqT p S % p = topF S 1 c
  rw [mkR_at _ hc]
  unfold topF
  by_cases e : c = bl S - 1
  · rw [if_pos e, if_pos e, Int.mul_comm]; exact sq_inv hs hd
  · rw [if_neg e, if_neg e, Int.zero_mul, Int.zero_emod]
/-- The signs of the square of the pseudoscalar, up to the k-th vector. -/
def es (n : Nat) : Nat → Int
  | 0 => 1
  | k + 1 => es n k * eps (gr ((2 ^ n - 1) / 2 ^ (k + 1)))
theorem es_all {n : Nat} (h : n ≤ 6) : es n n = if n * (n - 1) / 2 % 2 = 1 then -1 else 1 := by
  have h2 : n = 0 ∨ n = 1 ∨ n = 2 ∨ n = 3 ∨ n = 4 ∨ n = 5 ∨ n = 6 := by omega
  rcases h2 with rfl | rfl | rfl | rfl | rfl | rfl | rfl <;> decide +kernel
theorem fz_full (p : Int) (S : List Int) : ∀ k, k ≤ S.length → fz S (bl S - 1) (bl S - 1) k % p = es S.length k * disN p S k % p := fun k => by
  induction k with
  | zero => intro _; rfl
  | succ k ih =>
    intro h
    have hb : (bl S - 1) / 2 ^ k % 2 = 1 := whole_bit (n := S.length) (by omega)
    show fz S (bl S - 1) (bl S - 1) k * gi S (bl S - 1) (bl S - 1) k % p = es S.length k * eps (gr ((2 ^ S.length - 1) / 2 ^ (k + 1))) * (disN p S k * S.getD k 0 % p) % p
    unfold gi
    rw [if_pos hb, if_pos hb, em_r, ← em_l, ih (by omega), em_l]
    show es S.length k * disN p S k * (eps (gr ((2 ^ S.length - 1) / 2 ^ (k + 1))) * S.getD k 0) % p = _
    congr 1
    ac_rfl
/-- The square of the pseudoscalar is the discriminant, up to the sign. -/
theorem sq_disc {p : Int} {S : List Int} (hs : isSp p S = true) : sqT p S = if S.length * (S.length - 1) / 2 % 2 = 1 then (-discN p S) % p else discN p S := by
  have hdb := discN_bd (isSp_iff.1 hs).prime S
  have h := fz_full p S S.length (Nat.le_refl _)
  rw [es_all (isSp_iff.1 hs).hi] at h
  have h2 : sqT p S = (if S.length * (S.length - 1) / 2 % 2 = 1 then -1 else 1) * discN p S % p := h
  rw [h2]
  split
  · congr 1; omega
  · rw [Int.one_mul]; exact Int.emod_eq_of_lt hdb.1 hdb.2

end Go.Proofs.Ytgfohjfemkmldaa
