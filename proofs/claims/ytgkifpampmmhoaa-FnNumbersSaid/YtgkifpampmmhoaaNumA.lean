/-
  What IsPrime and NumberOf return, in the program and in the model; remainders of whole numbers.
  No conditions but that the arguments are whole numbers of 64 bits.
-/
import Derived.Test.YtgkifpampmmhoaaMod
import Derived.Test.YtgkifpampmmhoaaNumAt
namespace Go.Proofs.Ytgkifpampmmhoaa
open Go.RowKit
set_option linter.unusedVariables false

theorem isPrime_spec (p : Int) (w : World) :
    Calls Try.prog 19 #[.int .i64 p] w fun e w' => e = .returned (.bool (prm p)) ∧ w = w' := by
  go_enter Try.func19, Try.ntmps19
  go_wp2_with (go_at_call 47; refine (l01Prime_any p _).mono ?_; rintro e w1 ⟨rfl, rfl⟩)
  go_ret
  exact ⟨rfl, rfl⟩

def numV (p n : Int) : Int := if prm p then n % p else 0
def primeCode (p : Int) : Int := if prm p then 0 else 1
theorem numV_yes {p n : Int} (h : prm p = true) : numV p n = n % p := by simp [numV, h]
theorem numV_no {p n : Int} (h : prm p = false) : numV p n = 0 := by simp [numV, h]
theorem primeCode_yes {p : Int} (h : prm p = true) : primeCode p = 0 := by simp [primeCode, h]
theorem primeCode_no {p : Int} (h : prm p = false) : primeCode p = 1 := by simp [primeCode, h]

theorem numberOf_spec (p n : Int) (w : World) (n0 : -9223372036854775808 ≤ n) (n1 : n ≤ 9223372036854775807) :
    Calls Try.prog 37 #[.int .i64 p, .int .i64 n] w fun e w' => e = .returned (.tuple #[.int .i64 (numV p n), .int .i64 (primeCode p)]) ∧ w = w' := by
  by_cases hp : prm p = true
  · have HP := Lib.hid hp
    clear hp
    go_enter Try.func37, Try.ntmps37
    go_wp2_with (first | (go_at_call 47; refine (l01Prime_any p _).mono ?_; rintro e w1 ⟨rfl, rfl⟩; rw [HP.out]) | (go_at_call 57; refine (l01Mod_any p n _ HP.out n0 n1).mono ?_; rintro e w1 ⟨rfl, rfl⟩))
    go_ret2
    exact ⟨by rw [numV_yes HP.out, primeCode_yes HP.out]; rfl, rfl⟩
  · have HP := Lib.hid (show prm p = false by simpa using hp)
    clear hp
    go_enter Try.func37, Try.ntmps37
    go_wp2_with (go_at_call 47; refine (l01Prime_any p _).mono ?_; rintro e w1 ⟨rfl, rfl⟩; rw [HP.out])
    go_ret2
    exact ⟨by rw [numV_no HP.out, primeCode_no HP.out]; rfl, rfl⟩

theorem numberOf_impl (p n : Int) (w : World) (n0 : -9223372036854775808 ≤ n) (n1 : n ≤ 9223372036854775807) :
    Calls Try.prog 26 #[.int .i64 p, .int .i64 n] w fun e w' => e = .returned (.tuple #[.int .i64 (numV p n), .int .i64 (primeCode p)]) ∧ Below w.heap.size w w' := by
  by_cases hp : prm p = true
  · have HP := Lib.hid hp
    clear hp
    have fv := field_value
    go_enter Try.func26, Try.ntmps26
    go_wp2_with (first | (go_at_call 18; refine (isPrime_any p _).mono ?_; rintro e w1 ⟨rfl, rfl⟩; rw [HP.out]) | (go_at_call 53; refine (remainderOf_any p n _ HP.out n0 n1).mono ?_; rintro e w1 ⟨rfl, hb1⟩))
    go_ret2
    clear fv
    exact ⟨by rw [numV_yes HP.out, primeCode_yes HP.out]; rfl, hb1⟩
  · have HP := Lib.hid (show prm p = false by simpa using hp)
    clear hp
    go_enter Try.func26, Try.ntmps26
    go_wp2_with (go_at_call 18; refine (isPrime_any p _).mono ?_; rintro e w1 ⟨rfl, rfl⟩; rw [HP.out])
    go_ret2
    exact ⟨by rw [numV_no HP.out, primeCode_no HP.out]; rfl, Below.refl _ _⟩

/-! ### The laws -/
theorem law_isPrime (p : Int) (w : World) :
    Calls Try.prog 5 #[.int .i64 p] w fun e w' => e = .returned (.bool true) ∧ Below w.heap.size w w' := by
  go_enter Try.func5, Try.ntmps5
  go_wp2_with (first | (go_at_call 19; refine (isPrime_spec p _).mono ?_; rintro e w1 ⟨rfl, rfl⟩) | (go_at_call 18; refine (isPrime_any p _).mono ?_; rintro e w1 ⟨rfl, rfl⟩))
  go_ret
  exact ⟨rfl, Below.refl _ _⟩

theorem law_numberOf (p n : Int) (w : World) (hn : (Lit.int .i64 n).wf = true) :
    Calls Try.prog 6 #[.int .i64 p, .int .i64 n] w fun e w' => e = .returned (.bool true) ∧ Below w.heap.size w w' := by
  obtain ⟨n0, n1⟩ := wf_bd hn
  clear hn
  go_enter Try.func6, Try.ntmps6
  go_wp2_with (first | (go_at_call 37; refine (numberOf_spec p n _ n0 n1).mono ?_; rintro e w1 ⟨rfl, rfl⟩) | (go_at_call 26; refine (numberOf_impl p n _ n0 n1).mono ?_; rintro e w1 ⟨rfl, hb1⟩))
  go_ret
  exact ⟨rfl, hb1⟩

end Go.Proofs.Ytgkifpampmmhoaa
