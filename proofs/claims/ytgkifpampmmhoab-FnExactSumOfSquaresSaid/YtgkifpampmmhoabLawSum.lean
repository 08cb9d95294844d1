/-
  The walk of the law on sums of two squares.
  No conditions.
-/
import Derived.Test.YtgkifpampmmhoabSum
namespace Go.Proofs.Ytgkifpampmmhoab
open Go.RowKit
set_option linter.unusedVariables false

theorem law_sumOfSquares (p a : Int) (w : World) :
    Calls Try.prog 3 #[.int .i64 p, .int .i64 a] w fun e w' => e = .returned (.bool true) ∧ Below w.heap.size w w' := by
  go_enter Try.func3, Try.ntmps3
  go_wp2_with (first | (go_at_call 7; refine (sumOfSquares_spec p a _).mono ?_; rintro e w1 ⟨rfl, hb1⟩) | (go_at_call 8; refine (sumOfSquares_impl p a _).mono ?_; rintro e w2 ⟨rfl, hb2⟩))
  go_ret
  exact ⟨rfl, by (have hs_hb2 := hb2.size; have hs_hb1 := hb1.size; (repeat' (first | with_reducible exact Below.refl _ _ | (with_reducible refine Below.setCell ?_ ?_ _) | (with_reducible refine Below.alloc ?_ ?_ _) | (with_reducible refine Below.drew ?_) | (with_reducible refine below_step ?_ ?_ hb2) | (with_reducible refine below_step ?_ ?_ hb1))); all_goals (first | (simp; done) | omega | (simp; omega) | (simp at hs_hb2 hs_hb1 ⊢; omega)))⟩

end Go.Proofs.Ytgkifpampmmhoab
