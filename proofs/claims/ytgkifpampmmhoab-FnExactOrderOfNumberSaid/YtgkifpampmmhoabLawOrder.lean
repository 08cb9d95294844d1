/-
  The walks of the laws on orders and primitive numbers.
  No conditions.
-/
import Derived.Test.YtgkifpampmmhoabOrder
namespace Go.Proofs.Ytgkifpampmmhoab
open Go.RowKit
set_option linter.unusedVariables false

theorem law_orderOfNumber (p a : Int) (w : World) :
    Calls Try.prog 4 #[.int .i64 p, .int .i64 a] w fun e w' => e = .returned (.bool true) ∧ Below w.heap.size w w' := by
  go_enter Try.func4, Try.ntmps4
  go_wp2_with (first | (go_at_call 9; refine (orderOfNumber_spec p a _).mono ?_; rintro e w1 ⟨rfl, hb1⟩) | (go_at_call 10; refine (orderOfNumber_impl p a _).mono ?_; rintro e w2 ⟨rfl, hb2⟩))
  go_ret
  exact ⟨rfl, by (have hs_hb2 := hb2.size; have hs_hb1 := hb1.size; (repeat' (first | with_reducible exact Below.refl _ _ | (with_reducible refine Below.setCell ?_ ?_ _) | (with_reducible refine Below.alloc ?_ ?_ _) | (with_reducible refine Below.drew ?_) | (with_reducible refine below_step ?_ ?_ hb2) | (with_reducible refine below_step ?_ ?_ hb1))); all_goals (first | (simp; done) | omega | (simp; omega) | (simp at hs_hb2 hs_hb1 ⊢; omega)))⟩

theorem law_primitiveNumber (p : Int) (w : World) :
    Calls Try.prog 5 #[.int .i64 p] w fun e w' => e = .returned (.bool true) ∧ Below w.heap.size w w' := by
  go_enter Try.func5, Try.ntmps5
  go_wp2_with (first | (go_at_call 11; refine (primitiveNumber_spec p _).mono ?_; rintro e w1 ⟨rfl, rfl⟩) | (go_at_call 12; refine (primitiveNumber_impl p _).mono ?_; rintro e w2 ⟨rfl, hb2⟩))
  go_ret
  exact ⟨rfl, hb2⟩

end Go.Proofs.Ytgkifpampmmhoab
