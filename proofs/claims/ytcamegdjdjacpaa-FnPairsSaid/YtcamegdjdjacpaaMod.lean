/-
  Bounds of whole numbers of 64 bits, and what the model's remainder is.
  Conditions: the prime is one.
-/
import Derived.Test.YtcamegdjdjacpaaArith
namespace Go.Proofs.Ytcamegdjdjacpaa
open Go.RowKit
set_option linter.unusedVariables false

theorem wf_bd {n : Int} (h : (Lit.int .i64 n).wf = true) : -9223372036854775808 ≤ n ∧ n ≤ 9223372036854775807 := by
  simp [Lit.wf, IntKind.min, IntKind.max, IntKind.signed, IntKind.bits] at h
  omega

theorem mod_twice {n p : Int} (hn : 0 ≤ n) (hp : 0 < p) : (n % p + p) % p = n % p := by
  rw [Int.add_emod_right, Int.emod_emod]
theorem mod_twice_neg {n p : Int} (hn : n < 0) (hp : 0 < p) : (n.tmod p + p) % p = n % p := by
  obtain ⟨t1, t2, t3, t4⟩ := tmod_facts hn hp
  by_cases h : n.tmod p < 0
  · rw [t3 h, Int.emod_emod]
  · have : n.tmod p = 0 := by omega
    rw [this, t4 this]; simp

end Go.Proofs.Ytcamegdjdjacpaa
