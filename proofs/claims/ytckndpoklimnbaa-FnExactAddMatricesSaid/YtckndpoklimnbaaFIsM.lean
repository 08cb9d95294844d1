/-
  IsMatrix, in the program and in the model.
  Conditions: the matrix is nil or a row of rows of known cells.
-/
import Derived.Test.YtckndpoklimnbaaKit
import Derived.Test.YtckndpoklimnbaaIsM
namespace Go.Proofs.Ytckndpoklimnbaa
open Go.RowKit
set_option linter.unusedVariables false

theorem len_of {m : List (List Int)} (h : m.length + tot m m.length ≤ 1048576) : m.length ≤ 9223372036854775807 ∧ ∀ i, i < m.length → (rw' m i).length ≤ 9223372036854775807 :=
  ⟨by omega, fun i hi => by have := tot_row (m := m) hi; omega⟩

theorem isRows_one (p : Int) (a : Option Addr) (m : List (List Int)) (cap lo tp : Nat) (w : World) (hm : MatIn lo tp w a m) (hs : m.length + tot m m.length ≤ 1048576) :
    Calls Try.prog 61 #[.int .i64 p, .slice a m.length cap, .int .i64 1] w fun e w' => e = .returned (.bool (isM p m)) ∧ w = w' :=
  isRows_any p a m 1 cap lo tp w (by omega) hm (len_of hs).1 (len_of hs).2
theorem isRows_none (p : Int) (a : Option Addr) (m : List (List Int)) (cap lo tp : Nat) (w : World) (hm : MatIn lo tp w a m) (hs : m.length + tot m m.length ≤ 1048576) :
    Calls Try.prog 61 #[.int .i64 p, .slice a m.length cap, .int .i64 0] w fun e w' => e = .returned (.bool (isL 0 p m)) ∧ w = w' :=
  isRows_any p a m 0 cap lo tp w (by omega) hm (len_of hs).1 (len_of hs).2

theorem spec_IsMatrix (p : Int) (a : Option Addr) (m : List (List Int)) (cap lo tp : Nat) (w : World) (hm : MatIn lo tp w a m) (ht : tp ≤ w.heap.size) (hs : m.length + tot m m.length ≤ 1048576) :
    Calls Try.prog 16 #[.int .i64 p, .slice a m.length cap] w (Ret1 (isM p m) w) := by
  have HM := Lib.hid hm
  have HS := Lib.hid hs
  clear hm hs
  go_enter Try.func16, Try.ntmps16
  go_wp2_with (go_at_call 60; (with_reducible refine (l02Is_any _ _ _ _ lo tp _ HM.out (len_of HS.out).1 (len_of HS.out).2).mono ?_); rintro e w1 ⟨rfl, hq⟩; have HQ := Lib.hid hq; clear hq)
  go_ret
  exact ⟨rfl, HQ.out.below _⟩
theorem impl_IsMatrix (p : Int) (a : Option Addr) (m : List (List Int)) (cap lo tp : Nat) (w : World) (hm : MatIn lo tp w a m) (ht : tp ≤ w.heap.size) (hs : m.length + tot m m.length ≤ 1048576) :
    Calls Try.prog 18 #[.int .i64 p, .slice a m.length cap] w (Ret1 (isM p m) w) := by
  have HM := Lib.hid hm
  have HS := Lib.hid hs
  clear hm hs
  go_enter Try.func18, Try.ntmps18
  go_wp2_with (go_at_call 61; (with_reducible refine (isRows_one _ _ _ _ lo tp _ HM.out HS.out).mono ?_); rintro e w1 ⟨rfl, rfl⟩)
  go_ret
  exact ⟨rfl, Below.refl _ _⟩

end Go.Proofs.Ytckndpoklimnbaa
