/-
  The walk of the exact law of InSpan.
  No conditions but that the arguments are nil or rows of known cells.
-/
import Derived.Test.YtihanbfbgiiakaaKit
import Derived.Test.YtihanbfbgiiakaaFIns
namespace Go.Proofs.Ytihanbfbgiiakaa
open Go.RowKit
set_option linter.unusedVariables false

set_option maxRecDepth 100000 in
set_option maxHeartbeats 4000000 in
theorem law_InSpan (p : Int) (am : Option Addr) (m : List (List Int)) (cm : Nat) (av : Option Addr) (v : List Int) (cv : Nat) (w : World) (hm : MatIn 0 w.heap.size w am m) (lm : m.length ≤ 9223372036854775807) (rm : ∀ i, i < m.length → (rw' m i).length ≤ 9223372036854775807) (hv : RowIn 0 w.heap.size w av v) (lv : v.length ≤ 9223372036854775807) :
    Calls Try.prog 6 #[.int .i64 p, .slice am m.length cm, .slice av v.length cv] w fun e w' => e = .returned (.bool true) ∧ Below w.heap.size w w' := by
  have Hm := Lib.hid hm
  have Lm := Lib.hid lm
  have Rm := Lib.hid rm
  clear rm
  clear hm
  have Hv := Lib.hid hv
  have Lv := Lib.hid lv
  clear hv
  obtain ⟨nm, hnm⟩ : ∃ zq, zq = m.length + tot m m.length := ⟨_, rfl⟩
  have HNm := Lib.hid hnm
  obtain ⟨tm, htm⟩ : ∃ zq, zq = tot m m.length := ⟨_, rfl⟩
  have Tm := Lib.hid htm
  have lnm : tm ≤ nm := by omega
  clear hnm htm
  by_cases sv : v.length ≤ 1048576
  · have HSv := Lib.hid sv
    by_cases sm : nm ≤ 1048576
    · have HSm : Hid (m.length + tot m m.length ≤ 1048576) := by show _ ≤ _; rw [← HNm.out]; omega
      go_enter Try.func6, Try.ntmps6
      go_wp2_with (first | (go_at_call 15; (with_reducible refine (szMat_n am m cm 0 w.heap.size nm (1048576) _ Hm.out HNm.out (by omega) (by omega)).mono ?_); rintro e w' ⟨rfl, rfl⟩) | (go_at_call 17; (with_reducible refine (copyMat am m cm 0 w.heap.size _ Hm.out (Nat.le_refl _) HSm.out).mono ?_); rintro e w1 ⟨rfl, b1, -, o1⟩; have F1 := Lib.hid o1; clear o1; have B1 := Lib.hid b1; have Z1 := Lib.hid b1.size; clear b1) | (go_at_call 25; (with_reducible refine (copyRow av v cv 0 w.heap.size _ (Hv.out.same (same_below B1.out (Nat.le_refl _))) Z1.out HSv.out).mono ?_); rintro e w2 ⟨rfl, b2, -, o2⟩; have F2 := Lib.hid o2; clear o2; have B2 := Lib.hid b2; have Z2 := Lib.hid b2.size; clear b2) | (go_at_call 30; (with_reducible refine (spec_InSpan p (some ⟨w.heap.size, 0, none⟩) m m.length w.heap.size w1.heap.size (some ⟨w1.heap.size, 0, none⟩) v v.length w1.heap.size w2.heap.size _ ((F1.out.mat).same (same_below B2.out (Nat.le_refl _))) Z2.out HSm.out (F2.out.row) (Nat.le_refl _) HSv.out).mono ?_); rintro e w3 ⟨rfl, b3⟩; have B3 := Lib.hid b3; have Z3 := Lib.hid b3.size; clear b3) | (go_at_call 17; (with_reducible refine (copyMat am m cm 0 w.heap.size _ (Hm.out.same (Same.trans (Same.trans (same_below B1.out (Nat.le_refl _)) (same_below B2.out Z1.out)) (same_below B3.out (Nat.le_trans Z1.out Z2.out)))) (Nat.le_trans Z1.out (Nat.le_trans Z2.out Z3.out)) HSm.out).mono ?_); rintro e w4 ⟨rfl, b4, -, o4⟩; have F4 := Lib.hid o4; clear o4; have B4 := Lib.hid b4; have Z4 := Lib.hid b4.size; clear b4) | (go_at_call 25; (with_reducible refine (copyRow av v cv 0 w.heap.size _ (Hv.out.same (Same.trans (Same.trans (Same.trans (same_below B1.out (Nat.le_refl _)) (same_below B2.out Z1.out)) (same_below B3.out (Nat.le_trans Z1.out Z2.out))) (same_below B4.out (Nat.le_trans Z1.out (Nat.le_trans Z2.out Z3.out))))) (Nat.le_trans Z1.out (Nat.le_trans Z2.out (Nat.le_trans Z3.out Z4.out))) HSv.out).mono ?_); rintro e w5 ⟨rfl, b5, -, o5⟩; have F5 := Lib.hid o5; clear o5; have B5 := Lib.hid b5; have Z5 := Lib.hid b5.size; clear b5) | (go_at_call 31; (with_reducible refine (impl_InSpan p (some ⟨w3.heap.size, 0, none⟩) m m.length w3.heap.size w4.heap.size (some ⟨w4.heap.size, 0, none⟩) v v.length w4.heap.size w5.heap.size _ ((F4.out.mat).same (same_below B5.out (Nat.le_refl _))) Z5.out HSm.out (F5.out.row) (Nat.le_refl _) HSv.out).mono ?_); rintro e w6 ⟨rfl, b6⟩; have B6 := Lib.hid b6; have Z6 := Lib.hid b6.size; clear b6) | (go_at_call 17; (with_reducible refine (copyMat am m cm 0 w.heap.size _ (Hm.out.same (Same.trans (Same.trans (Same.trans (Same.trans (Same.trans (same_below B1.out (Nat.le_refl _)) (same_below B2.out Z1.out)) (same_below B3.out (Nat.le_trans Z1.out Z2.out))) (same_below B4.out (Nat.le_trans Z1.out (Nat.le_trans Z2.out Z3.out)))) (same_below B5.out (Nat.le_trans Z1.out (Nat.le_trans Z2.out (Nat.le_trans Z3.out Z4.out))))) (same_below B6.out (Nat.le_trans Z1.out (Nat.le_trans Z2.out (Nat.le_trans Z3.out (Nat.le_trans Z4.out Z5.out))))))) (Nat.le_trans Z1.out (Nat.le_trans Z2.out (Nat.le_trans Z3.out (Nat.le_trans Z4.out (Nat.le_trans Z5.out Z6.out))))) HSm.out).mono ?_); rintro e w7 ⟨rfl, b7, -, o7⟩; have F7 := Lib.hid o7; clear o7; have B7 := Lib.hid b7; have Z7 := Lib.hid b7.size; clear b7) | (go_at_call 19; (with_reducible refine (sameMat (some ⟨w3.heap.size, 0, none⟩) (some ⟨w6.heap.size, 0, none⟩) m m.length m.length w3.heap.size w4.heap.size w6.heap.size w7.heap.size _ ((F4.out.mat).same (Same.trans (Same.trans (same_below B5.out (Nat.le_refl _)) (same_below B6.out Z5.out)) (same_below B7.out (Nat.le_trans Z5.out Z6.out)))) (F7.out.mat) HSm.out).mono ?_); rintro e w8 ⟨rfl, q8⟩; have Q8 := Lib.hid q8; have Z8 := Lib.hid (quiet_z q8); clear q8) | (go_at_call 25; (with_reducible refine (copyRow av v cv 0 w.heap.size _ (Hv.out.same (Same.trans (Same.trans (Same.trans (Same.trans (Same.trans (Same.trans (Same.trans (same_below B1.out (Nat.le_refl _)) (same_below B2.out Z1.out)) (same_below B3.out (Nat.le_trans Z1.out Z2.out))) (same_below B4.out (Nat.le_trans Z1.out (Nat.le_trans Z2.out Z3.out)))) (same_below B5.out (Nat.le_trans Z1.out (Nat.le_trans Z2.out (Nat.le_trans Z3.out Z4.out))))) (same_below B6.out (Nat.le_trans Z1.out (Nat.le_trans Z2.out (Nat.le_trans Z3.out (Nat.le_trans Z4.out Z5.out)))))) (same_below B7.out (Nat.le_trans Z1.out (Nat.le_trans Z2.out (Nat.le_trans Z3.out (Nat.le_trans Z4.out (Nat.le_trans Z5.out Z6.out))))))) (Q8.out.same _ _))) (Nat.le_trans Z1.out (Nat.le_trans Z2.out (Nat.le_trans Z3.out (Nat.le_trans Z4.out (Nat.le_trans Z5.out (Nat.le_trans Z6.out (Nat.le_trans Z7.out Z8.out))))))) HSv.out).mono ?_); rintro e w9 ⟨rfl, b9, -, o9⟩; have F9 := Lib.hid o9; clear o9; have B9 := Lib.hid b9; have Z9 := Lib.hid b9.size; clear b9) | (go_at_call 27; (with_reducible refine (sameRow (some ⟨w4.heap.size, 0, none⟩) (some ⟨w8.heap.size, 0, none⟩) v v.length v.length w4.heap.size w5.heap.size w8.heap.size w9.heap.size _ ((F5.out.row).same (Same.trans (Same.trans (Same.trans (same_below B6.out (Nat.le_refl _)) (same_below B7.out Z6.out)) (Q8.out.same _ _)) (same_below B9.out (Nat.le_trans Z6.out (Nat.le_trans Z7.out Z8.out))))) (F9.out.row) HSv.out).mono ?_); rintro e w10 ⟨rfl, q10⟩; have Q10 := Lib.hid q10; have Z10 := Lib.hid (quiet_z q10); clear q10))
      go_ret
      exact ⟨rfl, ((below_step ((below_step (below_step (below_step (below_step (below_step (below_step (below_step (Below.refl _ _) (Nat.le_refl _) B1.out) Z1.out B2.out) (Nat.le_trans Z1.out Z2.out) B3.out) (Nat.le_trans Z1.out (Nat.le_trans Z2.out Z3.out)) B4.out) (Nat.le_trans Z1.out (Nat.le_trans Z2.out (Nat.le_trans Z3.out Z4.out))) B5.out) (Nat.le_trans Z1.out (Nat.le_trans Z2.out (Nat.le_trans Z3.out (Nat.le_trans Z4.out Z5.out)))) B6.out) (Nat.le_trans Z1.out (Nat.le_trans Z2.out (Nat.le_trans Z3.out (Nat.le_trans Z4.out (Nat.le_trans Z5.out Z6.out))))) B7.out).trans (Q8.out.below _)) (Nat.le_trans Z1.out (Nat.le_trans Z2.out (Nat.le_trans Z3.out (Nat.le_trans Z4.out (Nat.le_trans Z5.out (Nat.le_trans Z6.out (Nat.le_trans Z7.out Z8.out))))))) B9.out).trans (Q10.out.below _))⟩
    · go_enter Try.func6, Try.ntmps6
      go_wp2_with (first | (go_at_call 15; (with_reducible refine (szMat_x am m cm 0 w.heap.size nm (1048576) _ Hm.out HNm.out (by omega) (by omega) (by omega) Lm.out Rm.out).mono ?_); rintro e w' ⟨rfl, rfl⟩))
      go_ret
      exact ⟨rfl, Below.refl _ _⟩
  · go_enter Try.func6, Try.ntmps6
    go_wp2
    go_ret
    exact ⟨rfl, Below.refl _ _⟩

theorem law_InSpan_all (p : Int) (am : Option Addr) (lenm cm : Nat) (av : Option Addr) (lenv cv : Nat) (w : World) (hm : IsMat w am lenm) (hv : IsLst w av lenv) :
    Calls Try.prog 6 #[.int .i64 p, .slice am lenm cm, .slice av lenv cv] w fun e w' => e = .returned (.bool true) ∧ Below w.heap.size w w' := by
  obtain ⟨m, rfl, hm, lm, rm⟩ := hm
  obtain ⟨v, rfl, hv, lv⟩ := hv
  exact law_InSpan p am m cm av v cv w hm lm rm hv lv

end Go.Proofs.Ytihanbfbgiiakaa
