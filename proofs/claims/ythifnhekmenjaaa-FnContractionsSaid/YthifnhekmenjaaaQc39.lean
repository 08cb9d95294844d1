/-
  Discriminants, in the program and in the model.
  Conditions: the squares are nil or a row of known cells.
  What powers, inverses and quotients of numbers return: contracts of the program's methods and of the model's helpers.
  Conditions: the prime is one, the numbers are remainders by it, an exponent is at most 1000.
  What inverses, powers with negative exponents and quotients of numbers return, in the program.
  Conditions: the prime is one, the numbers are remainders by it, a divisor is not 0, an exponent is from -1000000 to 1000000.
  Pseudoscalars, their squares, duals, meets: numbers. No Go in sight.
  No conditions.
-/
import Derived.Test.YthifnhekmenjaaaQc12
import Derived.Test.YthifnhekmenjaaaQc9
import Derived.Test.YthifnhekmenjaaaQc29
import Derived.Test.YthifnhekmenjaaaQc1
import Derived.BigQuiet
import Derived.Deep.QuietTactic
import Derived.Deep.RegionHeld3
import Derived.RegionTactic
import Derived.Test.YthifnhekmenjaaaQc38
import Derived.Test.YthifnhekmenjaaaQc25
import Derived.Test.YthifnhekmenjaaaQc31
namespace Go.Proofs.Ythifnhekmenjaaa
open Go.RowKit
set_option linter.unusedVariables false

def revM (p : Int) (x : List Int) : List Int := mkR x.length (sgF p c_reversal x)
theorem rev_mv {p : Int} {S x : List Int} (hs : isSp p S = true) (h : isMv p S x = true) : isMv p S (revM p x) = true :=
  isMv_of (by unfold revM; rw [mkR_len]; exact Mv.len h) fun j hj => by
    have hp := prm_bd (isSp_iff.1 hs).prime
    unfold revM at hj ⊢
    rw [mkR_len] at hj
    rw [mkR_at _ hj]
    unfold sgF
    have hx := Mv.num h j hj
    split
    · exact ⟨Int.emod_nonneg _ (by omega), Int.emod_lt_of_pos _ (by omega)⟩
    · exact hx
def scalT (p : Int) (S x y : List Int) : Int := prodF p S (revM p x) y 0
end Go.Proofs.Ythifnhekmenjaaa
