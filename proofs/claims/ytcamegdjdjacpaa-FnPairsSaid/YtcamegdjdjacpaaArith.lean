/-
  What the program's operations on numbers return: contracts of remainderOf, plus, minus, times.
  Conditions: the prime is one, and the numbers are remainders by it.
-/
import Derived.Test.YtcamegdjdjacpaaCheck
import Derived.Outline
namespace Go.Proofs.Ytcamegdjdjacpaa
open Go.RowKit
set_option linter.unusedVariables false

theorem tmod_neg {n p : Int} (hn : n < 0) (hp : 0 < p) : n.tmod p = -((-n) % p) := by
  have h : n = -(-n) := by omega
  rw [h, Int.neg_tmod, Int.tmod_eq_emod_of_nonneg (by omega)]
  simp
theorem tmod_facts {n p : Int} (hn : n < 0) (hp : 0 < p) : -p < n.tmod p ∧ n.tmod p ≤ 0 ∧ (n.tmod p < 0 → n.tmod p + p = n % p) ∧ (n.tmod p = 0 → n % p = 0) := by
  rw [tmod_neg hn hp]
  have h1 := Int.emod_nonneg (-n) (by omega : p ≠ 0)
  have h2 := Int.emod_lt_of_pos (-n) hp
  have h3 := Int.emod_nonneg n (by omega : p ≠ 0)
  have h4 := Int.emod_lt_of_pos n hp
  have h5 := Int.mul_ediv_add_emod (-n) p
  have h6 := Int.mul_ediv_add_emod n p
  have key : ∀ q : Int, (0 < (-n) % p + n % p - 0 → True) := fun _ _ => trivial
  have h7 : ((-n) % p + n % p) % p = 0 := by rw [← Int.add_emod, Int.add_left_neg]; simp
  refine ⟨by omega, by omega, fun h => ?_, fun h => ?_⟩
  · have h8 : (-n) % p + n % p = p := by
      by_cases hlt : (-n) % p + n % p < p
      · rw [Int.emod_eq_of_lt (by omega) hlt] at h7; omega
      · have h9 : ((-n) % p + n % p - p) % p = 0 := by rw [Int.sub_emod, h7]; simp
        rw [Int.emod_eq_of_lt (by omega) (by omega)] at h9; omega
    omega
  · have h8 : (-n) % p = 0 := by omega
    rw [h8, Int.zero_add, Int.emod_eq_of_lt h3 h4] at h7
    exact h7

set_option maxHeartbeats 400000 in
theorem remainderOf_any (p n : Int) (w : World) (hp : prm p = true) (n0 : -9223372036854775808 ≤ n) (n1 : n ≤ 9223372036854775807) :
    Calls Try.prog 178 #[.int .i64 p, .int .i64 n] w fun e w' => e = .returned (.agg #[.int .i64 p, .int .i64 (n % p)]) ∧ Below w.heap.size w w' := by
  have hb := prm_bd hp
  have hm := mod_bd hp n
  clear hp
  by_cases hn : 0 ≤ n
  · go_enter Try.func178, Try.ntmps178
    go_wp2
    exact bodyPost_ret (v := .agg #[.int .i64 p, .int .i64 (n % p)]) (by simp [results, Try.results178, go_sem]) rfl ⟨rfl, (Below.refl _ _).alloc (Nat.le_refl _) _⟩
  · obtain ⟨t1, t2, t3, t4⟩ := tmod_facts (n := n) (p := p) (by omega) (by omega)
    by_cases ht : n.tmod p < 0
    · have H := Lib.hid (t3 ht)
      clear t3 t4
      go_enter Try.func178, Try.ntmps178
      go_wp2
      rw [H.out]
      exact bodyPost_ret (v := .agg #[.int .i64 p, .int .i64 (n % p)]) (by simp [results, Try.results178, go_sem]) rfl ⟨rfl, (Below.refl _ _).alloc (Nat.le_refl _) _⟩
    · have H0 : Hid (n.tmod p = n % p) := by show n.tmod p = n % p; have : n.tmod p = 0 := by omega
                                             rw [t4 this, this]
      clear t3 t4
      go_enter Try.func178, Try.ntmps178
      go_wp2
      rw [H0.out]
      exact bodyPost_ret (v := .agg #[.int .i64 p, .int .i64 (n % p)]) (by simp [results, Try.results178, go_sem]) rfl ⟨rfl, (Below.refl _ _).alloc (Nat.le_refl _) _⟩

set_option maxHeartbeats 400000 in
theorem times_any (p a b : Int) (w : World) (hp : prm p = true) (a0 : 0 ≤ a) (a1 : a < p) (b0 : 0 ≤ b) (b1 : b < p) :
    Calls Try.prog 186 #[.agg #[.int .i64 p, .int .i64 a], .agg #[.int .i64 p, .int .i64 b]] w fun e w' => e = .returned (.agg #[.int .i64 p, .int .i64 (a * b % p)]) ∧ Below w.heap.size w w' := by
  have hb := prm_bd hp
  obtain ⟨m0, m1⟩ := mul_bd hp a0 a1 b0 b1
  have HP := Lib.hid hp
  clear hp
  go_enter Try.func186, Try.ntmps186
  go_wp2_with (go_at_call 178; refine (remainderOf_any _ _ _ HP.out (by omega) (by omega)).mono ?_; rintro e w1 ⟨rfl, hb1⟩; obtain ⟨hc, hf⟩ := bcell hb1)
  refine bodyPost_ret (v := .agg #[.int .i64 p, .int .i64 (a * b % p)]) (by simp [results, Try.results186, go_sem, hc]) rfl ⟨rfl, ?_⟩
  (have hs_hb1 := hb1.size; (repeat' (first | with_reducible exact Below.refl _ _ | (with_reducible refine Below.setCell ?_ ?_ _) | (with_reducible refine Below.alloc ?_ ?_ _) | (with_reducible refine Below.drew ?_) | (with_reducible refine below_step ?_ ?_ hb1))); all_goals (first | (simp; done) | omega | (simp; omega) | (simp at hs_hb1 ⊢; omega)))

end Go.Proofs.Ytcamegdjdjacpaa
