/-
  The walks of the laws on sums, differences and products of numbers.
  No conditions.
-/
import Derived.Test.YtgkifpampmmhoaaOps
namespace Go.Proofs.Ytgkifpampmmhoaa
open Go.RowKit
set_option linter.unusedVariables false

theorem law_addNumbers (p a b : Int) (w : World) :
    Calls Try.prog 7 #[.int .i64 p, .int .i64 a, .int .i64 b] w fun e w' => e = .returned (.bool true) ∧ Below w.heap.size w w' := by
  go_enter Try.func7, Try.ntmps7
  go_wp2_with (first | (go_at_call 38; refine (addNumbers_spec p a b _).mono ?_; rintro e w1 ⟨rfl, hb1⟩) | (go_at_call 23; refine (addNumbers_impl p a b _).mono ?_; rintro e w2 ⟨rfl, hb2⟩))
  go_ret
  exact ⟨rfl, by (have hs_hb2 := hb2.size; have hs_hb1 := hb1.size; (repeat' (first | with_reducible exact Below.refl _ _ | (with_reducible refine Below.setCell ?_ ?_ _) | (with_reducible refine Below.alloc ?_ ?_ _) | (with_reducible refine below_step ?_ ?_ hb2) | (with_reducible refine below_step ?_ ?_ hb1))); all_goals (first | (simp; done) | omega | (simp; omega) | (simp at hs_hb2 hs_hb1 ⊢; omega)))⟩

theorem law_subtractNumbers (p a b : Int) (w : World) :
    Calls Try.prog 8 #[.int .i64 p, .int .i64 a, .int .i64 b] w fun e w' => e = .returned (.bool true) ∧ Below w.heap.size w w' := by
  go_enter Try.func8, Try.ntmps8
  go_wp2_with (first | (go_at_call 39; refine (subtractNumbers_spec p a b _).mono ?_; rintro e w1 ⟨rfl, hb1⟩) | (go_at_call 24; refine (subtractNumbers_impl p a b _).mono ?_; rintro e w2 ⟨rfl, hb2⟩))
  go_ret
  exact ⟨rfl, by (have hs_hb2 := hb2.size; have hs_hb1 := hb1.size; (repeat' (first | with_reducible exact Below.refl _ _ | (with_reducible refine Below.setCell ?_ ?_ _) | (with_reducible refine Below.alloc ?_ ?_ _) | (with_reducible refine below_step ?_ ?_ hb2) | (with_reducible refine below_step ?_ ?_ hb1))); all_goals (first | (simp; done) | omega | (simp; omega) | (simp at hs_hb2 hs_hb1 ⊢; omega)))⟩

theorem law_multiplyNumbers (p a b : Int) (w : World) :
    Calls Try.prog 9 #[.int .i64 p, .int .i64 a, .int .i64 b] w fun e w' => e = .returned (.bool true) ∧ Below w.heap.size w w' := by
  go_enter Try.func9, Try.ntmps9
  go_wp2_with (first | (go_at_call 40; refine (multiplyNumbers_spec p a b _).mono ?_; rintro e w1 ⟨rfl, hb1⟩) | (go_at_call 22; refine (multiplyNumbers_impl p a b _).mono ?_; rintro e w2 ⟨rfl, hb2⟩))
  go_ret
  exact ⟨rfl, by (have hs_hb2 := hb2.size; have hs_hb1 := hb1.size; (repeat' (first | with_reducible exact Below.refl _ _ | (with_reducible refine Below.setCell ?_ ?_ _) | (with_reducible refine Below.alloc ?_ ?_ _) | (with_reducible refine below_step ?_ ?_ hb2) | (with_reducible refine below_step ?_ ?_ hb1))); all_goals (first | (simp; done) | omega | (simp; omega) | (simp at hs_hb2 hs_hb1 ⊢; omega)))⟩

end Go.Proofs.Ytgkifpampmmhoaa
