/-
  Bounds of whole numbers of 64 bits, and what the model's remainder is.
  Conditions: the prime is one.
-/
import Derived.Test.YtgkifpampmmhoaaArith
namespace Go.Proofs.Ytgkifpampmmhoaa
open Go.RowKit
set_option linter.unusedVariables false

theorem wf_bd {n : Int} (h : (Lit.int .i64 n).wf = true) : -9223372036854775808 ≤ n ∧ n ≤ 9223372036854775807 := by
  simp [Lit.wf, IntKind.min, IntKind.max, IntKind.signed, IntKind.bits] at h
  omega

theorem mod_twice {n p : Int} (hn : 0 ≤ n) (hp : 0 < p) : (n % p + p) % p = n % p := by
  rw [Int.add_emod_right, Int.emod_emod]
theorem mod_twice_neg {n p : Int} (hn : n < 0) (hp : 0 < p) : (n.tmod p + p) % p = n % p := by
  obtain ⟨t1, t2, t3, t4⟩ := tmod_facts hn hp
  by_cases h : n.tmod p < 0
  · rw [t3 h, Int.emod_emod]
  · have : n.tmod p = 0 := by omega
    rw [this, t4 this]; simp

theorem l01Mod_any (p n : Int) (w : World) (hp : prm p = true) (n0 : -9223372036854775808 ≤ n) (n1 : n ≤ 9223372036854775807) :
    Calls Try.prog 57 #[.int .i64 p, .int .i64 n] w fun e w' => e = .returned (.int .i64 (n % p)) ∧ w = w' := by
  have hb := prm_bd hp
  obtain ⟨hm0, hm1⟩ := mod_bd hp n
  clear hp
  by_cases hn : 0 ≤ n
  · have H := Lib.hid (mod_twice (n := n) (p := p) hn (by omega))
    go_enter Try.func57, Try.ntmps57
    go_wp2
    go_ret
    exact ⟨by first | rfl | (show Ending.returned (.int .i64 ((n % p + p) % p)) = _; rw [H.out]), rfl⟩
  · obtain ⟨t1, t2, _, _⟩ := tmod_facts (n := n) (p := p) (by omega) (by omega)
    have H := mod_twice_neg (n := n) (p := p) (by omega) (by omega)
    rw [Int.add_emod_right] at H
    have H1 := Lib.hid H
    clear H
    go_enter Try.func57, Try.ntmps57
    go_wp2
    go_ret
    exact ⟨by show Ending.returned (.int .i64 (n.tmod p % p)) = _; rw [H1.out], rfl⟩

end Go.Proofs.Ytgkifpampmmhoaa
