/-
  The walk of the exact law of Determinant.
  No conditions but that the arguments are nil or rows of known cells.
-/
import Derived.Test.YtihanbfbgiiakaaKit
import Derived.Test.YtihanbfbgiiakaaFDet
namespace Go.Proofs.Ytihanbfbgiiakaa
open Go.RowKit
set_option linter.unusedVariables false

set_option maxRecDepth 100000 in
set_option maxHeartbeats 4000000 in
theorem law_Determinant (p : Int) (am : Option Addr) (m : List (List Int)) (cm : Nat) (w : World) (hm : MatIn 0 w.heap.size w am m) (lm : m.length ≤ 9223372036854775807) (rm : ∀ i, i < m.length → (rw' m i).length ≤ 9223372036854775807) :
    Calls Try.prog 3 #[.int .i64 p, .slice am m.length cm] w fun e w' => e = .returned (.bool true) ∧ Below w.heap.size w w' := by
  have Hm := Lib.hid hm
  have Lm := Lib.hid lm
  have Rm := Lib.hid rm
  clear rm
  clear hm
  obtain ⟨nm, hnm⟩ : ∃ zq, zq = m.length + tot m m.length := ⟨_, rfl⟩
  have HNm := Lib.hid hnm
  obtain ⟨tm, htm⟩ : ∃ zq, zq = tot m m.length := ⟨_, rfl⟩
  have Tm := Lib.hid htm
  have lnm : tm ≤ nm := by omega
  clear hnm htm
  by_cases sm : nm ≤ 1048576
  · have HSm : Hid (m.length + tot m m.length ≤ 1048576) := by show _ ≤ _; rw [← HNm.out]; omega
    go_enter Try.func3, Try.ntmps3
    go_wp2_with (first | (go_at_call 15; (with_reducible refine (szMat_n am m cm 0 w.heap.size nm (1048576) _ Hm.out HNm.out (by omega) (by omega)).mono ?_); rintro e w' ⟨rfl, rfl⟩) | (go_at_call 17; (with_reducible refine (copyMat am m cm 0 w.heap.size _ Hm.out (Nat.le_refl _) HSm.out).mono ?_); rintro e w1 ⟨rfl, b1, -, o1⟩; have F1 := Lib.hid o1; clear o1; have B1 := Lib.hid b1; have Z1 := Lib.hid b1.size; clear b1) | (go_at_call 16; (with_reducible refine (spec_Determinant p (some ⟨w.heap.size, 0, none⟩) m m.length w.heap.size w1.heap.size _ (F1.out.mat) (Nat.le_refl _) HSm.out).mono ?_); rintro e w2 ⟨rfl, b2⟩; have B2 := Lib.hid b2; have Z2 := Lib.hid b2.size; clear b2) | (go_at_call 17; (with_reducible refine (copyMat am m cm 0 w.heap.size _ (Hm.out.same (Same.trans (same_below B1.out (Nat.le_refl _)) (same_below B2.out Z1.out))) (Nat.le_trans Z1.out Z2.out) HSm.out).mono ?_); rintro e w3 ⟨rfl, b3, -, o3⟩; have F3 := Lib.hid o3; clear o3; have B3 := Lib.hid b3; have Z3 := Lib.hid b3.size; clear b3) | (go_at_call 18; (with_reducible refine (impl_Determinant p (some ⟨w2.heap.size, 0, none⟩) m m.length w2.heap.size w3.heap.size _ (F3.out.mat) (Nat.le_refl _) HSm.out).mono ?_); rintro e w4 ⟨rfl, b4⟩; have B4 := Lib.hid b4; have Z4 := Lib.hid b4.size; clear b4) | (go_at_call 17; (with_reducible refine (copyMat am m cm 0 w.heap.size _ (Hm.out.same (Same.trans (Same.trans (Same.trans (same_below B1.out (Nat.le_refl _)) (same_below B2.out Z1.out)) (same_below B3.out (Nat.le_trans Z1.out Z2.out))) (same_below B4.out (Nat.le_trans Z1.out (Nat.le_trans Z2.out Z3.out))))) (Nat.le_trans Z1.out (Nat.le_trans Z2.out (Nat.le_trans Z3.out Z4.out))) HSm.out).mono ?_); rintro e w5 ⟨rfl, b5, -, o5⟩; have F5 := Lib.hid o5; clear o5; have B5 := Lib.hid b5; have Z5 := Lib.hid b5.size; clear b5) | (go_at_call 19; (with_reducible refine (sameMat (some ⟨w2.heap.size, 0, none⟩) (some ⟨w4.heap.size, 0, none⟩) m m.length m.length w2.heap.size w3.heap.size w4.heap.size w5.heap.size _ ((F3.out.mat).same (Same.trans (same_below B4.out (Nat.le_refl _)) (same_below B5.out Z4.out))) (F5.out.mat) HSm.out).mono ?_); rintro e w6 ⟨rfl, q6⟩; have Q6 := Lib.hid q6; have Z6 := Lib.hid (quiet_z q6); clear q6))
    go_ret
    exact ⟨rfl, ((below_step (below_step (below_step (below_step (below_step (Below.refl _ _) (Nat.le_refl _) B1.out) Z1.out B2.out) (Nat.le_trans Z1.out Z2.out) B3.out) (Nat.le_trans Z1.out (Nat.le_trans Z2.out Z3.out)) B4.out) (Nat.le_trans Z1.out (Nat.le_trans Z2.out (Nat.le_trans Z3.out Z4.out))) B5.out).trans (Q6.out.below _))⟩
  · go_enter Try.func3, Try.ntmps3
    go_wp2_with (first | (go_at_call 15; (with_reducible refine (szMat_x am m cm 0 w.heap.size nm (1048576) _ Hm.out HNm.out (by omega) (by omega) (by omega) Lm.out Rm.out).mono ?_); rintro e w' ⟨rfl, rfl⟩))
    go_ret
    exact ⟨rfl, Below.refl _ _⟩

theorem law_Determinant_all (p : Int) (am : Option Addr) (lenm cm : Nat) (w : World) (hm : IsMat w am lenm) :
    Calls Try.prog 3 #[.int .i64 p, .slice am lenm cm] w fun e w' => e = .returned (.bool true) ∧ Below w.heap.size w w' := by
  obtain ⟨m, rfl, hm, lm, rm⟩ := hm
  exact law_Determinant p am m cm w hm lm rm

end Go.Proofs.Ytihanbfbgiiakaa
