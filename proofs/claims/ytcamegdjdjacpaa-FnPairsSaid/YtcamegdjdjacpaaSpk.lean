/-
  Spaces: what they are, and their checks in the program and in the model.
  Conditions: the list of squares is nil or a row of known cells, of at most 1048576 numbers.
-/
import Derived.Test.YtcamegdjdjacpaaRowC
import Derived.Test.YtcamegdjdjacpaaSpc
namespace Go.Proofs.Ytcamegdjdjacpaa
open Go.RowKit
set_option linter.unusedVariables false

def isSp (p : Int) (S : List Int) : Bool := prm p && decide (1 ≤ S.length ∧ S.length ≤ 6) && S.all (inr p)
structure Spa (p : Int) (S : List Int) : Prop where
  prime : prm p = true
  lo : 1 ≤ S.length
  hi : S.length ≤ 6
  all : S.all (inr p) = true
theorem isSp_iff {p : Int} {S : List Int} : isSp p S = true ↔ Spa p S := by
  unfold isSp
  simp only [Bool.and_eq_true, decide_eq_true_eq]
  exact ⟨fun h => ⟨h.1.1, h.1.2.1, h.1.2.2, h.2⟩, fun h => ⟨⟨h.prime, h.lo, h.hi⟩, h.all⟩⟩
theorem isSp_no {p : Int} {S : List Int} (h : ¬ Spa p S) : isSp p S = false := by
  cases e : isSp p S with
  | false => rfl
  | true => exact absurd (isSp_iff.1 e) h
theorem Spa.num {p : Int} {S : List Int} (h : Spa p S) {j : Nat} (hj : j < S.length) : 0 ≤ S.getD j 0 ∧ S.getD j 0 < p := by
  have ha := h.all
  rw [List.all_eq_true] at ha
  exact inr_iff.1 (ha _ (by rw [getD_at hj]; exact List.getElem_mem hj))

set_option maxHeartbeats 800000 in
theorem isSpace_any (p : Int) (a : Option Addr) (S : List Int) (c lo tp : Nat) (w : World) (h : RowIn lo tp w a S) (ht : tp ≤ w.heap.size) (hs : S.length ≤ 1048576) :
    Calls Try.prog 61 #[.agg #[.int .i64 p, .slice a S.length c]] w fun e w' => e = .returned (.bool (isSp p S)) ∧ Below w.heap.size w w' := by
  have H := Lib.hid h
  clear h
  by_cases h1 : 1 ≤ S.length
  · by_cases h2 : S.length ≤ 6
    · rcases code_cases p S with ⟨hp, hc⟩ | ⟨hp, ha, hc⟩ | ⟨hp, ha, hc⟩
      · have HC := Lib.hid hc
        have HV : Hid (isSp p S = false) := isSp_no (fun k => by have := k.prime; rw [hp] at this; cases this)
        clear hc hp
        go_enter Try.func61, Try.ntmps61
        go_wp2_with (go_at_call 129; (with_reducible refine (checkRow_any p a S c lo tp _ (H.out.below ((Below.refl _ _).alloc (Nat.le_refl _) _) ht) (by omega)).mono ?_); rintro e w1 ⟨rfl, rfl⟩; rw [HC.out])
        go_ret
        exact ⟨by rw [HV.out]; rfl, by ((repeat' (first | with_reducible exact Below.refl _ _ | (with_reducible refine Below.setCell ?_ ?_ _) | (with_reducible refine Below.alloc ?_ ?_ _) | (with_reducible refine Below.drew ?_))); all_goals (first | (simp; done) | omega | (simp; omega)))⟩
      · have HC := Lib.hid hc
        have HV : Hid (isSp p S = true) := isSp_iff.2 ⟨hp, h1, h2, ha⟩
        clear hc hp ha
        go_enter Try.func61, Try.ntmps61
        go_wp2_with (go_at_call 129; (with_reducible refine (checkRow_any p a S c lo tp _ (H.out.below ((Below.refl _ _).alloc (Nat.le_refl _) _) ht) (by omega)).mono ?_); rintro e w1 ⟨rfl, rfl⟩; rw [HC.out])
        go_ret
        exact ⟨by rw [HV.out]; rfl, by ((repeat' (first | with_reducible exact Below.refl _ _ | (with_reducible refine Below.setCell ?_ ?_ _) | (with_reducible refine Below.alloc ?_ ?_ _) | (with_reducible refine Below.drew ?_))); all_goals (first | (simp; done) | omega | (simp; omega)))⟩
      · have HC := Lib.hid hc
        have HV : Hid (isSp p S = false) := isSp_no (fun k => by have := k.all; rw [ha] at this; cases this)
        clear hc hp ha
        go_enter Try.func61, Try.ntmps61
        go_wp2_with (go_at_call 129; (with_reducible refine (checkRow_any p a S c lo tp _ (H.out.below ((Below.refl _ _).alloc (Nat.le_refl _) _) ht) (by omega)).mono ?_); rintro e w1 ⟨rfl, rfl⟩; rw [HC.out])
        go_ret
        exact ⟨by rw [HV.out]; rfl, by ((repeat' (first | with_reducible exact Below.refl _ _ | (with_reducible refine Below.setCell ?_ ?_ _) | (with_reducible refine Below.alloc ?_ ?_ _) | (with_reducible refine Below.drew ?_))); all_goals (first | (simp; done) | omega | (simp; omega)))⟩
    · have HV : Hid (isSp p S = false) := isSp_no (fun k => h2 k.hi)
      go_enter Try.func61, Try.ntmps61
      go_wp2
      go_ret
      exact ⟨by rw [HV.out]; rfl, by ((repeat' (first | with_reducible exact Below.refl _ _ | (with_reducible refine Below.setCell ?_ ?_ _) | (with_reducible refine Below.alloc ?_ ?_ _) | (with_reducible refine Below.drew ?_))); all_goals (first | (simp; done) | omega | (simp; omega)))⟩
  · have HV : Hid (isSp p S = false) := isSp_no (fun k => h1 k.lo)
    go_enter Try.func61, Try.ntmps61
    go_wp2
    go_ret
    exact ⟨by rw [HV.out]; rfl, by ((repeat' (first | with_reducible exact Below.refl _ _ | (with_reducible refine Below.setCell ?_ ?_ _) | (with_reducible refine Below.alloc ?_ ?_ _) | (with_reducible refine Below.drew ?_))); all_goals (first | (simp; done) | omega | (simp; omega)))⟩

set_option maxHeartbeats 800000 in
theorem l03Is_any (p : Int) (a : Option Addr) (S : List Int) (c lo tp : Nat) (w : World) (h : RowIn lo tp w a S) (ht : tp ≤ w.heap.size) (hs : S.length ≤ 1048576) :
    Calls Try.prog 92 #[.agg #[.int .i64 p, .slice a S.length c]] w fun e w' => e = .returned (.bool (isSp p S)) ∧ Below w.heap.size w w' := by
  have H := Lib.hid h
  clear h
  by_cases hp : prm p = true
  · have HP := Lib.hid hp
    clear hp
    by_cases h1 : 1 ≤ S.length ∧ S.length ≤ 6
    · have hb : (1 : Int) ≤ (S.length : Int) ∧ (S.length : Int) ≤ 6 := by omega
      by_cases ha : S.all (inr p) = true
      · have HA := Lib.hid ha
        have HV : Hid (isSp p S = true) := isSp_iff.2 ⟨HP.out, h1.1, h1.2, ha⟩
        clear ha h1
        go_enter Try.func92, Try.ntmps92
        go_wp2_with (first | (go_at_call 170; refine (l01Prime_any _ _).mono ?_; rintro e w1 ⟨rfl, rfl⟩; rw [HP.out]) | (go_at_call 151; refine (l01In_yes _ _ _ _ hb.1 hb.2).mono ?_; rintro e w1 ⟨rfl, rfl⟩) | (go_at_call 164; (with_reducible refine (numsRow p a S c lo tp _ HP.out (H.out.below ((Below.refl _ _).alloc (Nat.le_refl _) _) ht) (by omega)).mono ?_); rintro e w1 ⟨rfl, rfl⟩; rw [HA.out]))
        go_ret
        exact ⟨by rw [HV.out]; rfl, by ((repeat' (first | with_reducible exact Below.refl _ _ | (with_reducible refine Below.setCell ?_ ?_ _) | (with_reducible refine Below.alloc ?_ ?_ _) | (with_reducible refine Below.drew ?_))); all_goals (first | (simp; done) | omega | (simp; omega)))⟩
      · have HA : Hid (S.all (inr p) = false) := by show _ = _; simpa using ha
        have HV : Hid (isSp p S = false) := isSp_no (fun k => ha k.all)
        clear ha h1
        go_enter Try.func92, Try.ntmps92
        go_wp2_with (first | (go_at_call 170; refine (l01Prime_any _ _).mono ?_; rintro e w1 ⟨rfl, rfl⟩; rw [HP.out]) | (go_at_call 151; refine (l01In_yes _ _ _ _ hb.1 hb.2).mono ?_; rintro e w1 ⟨rfl, rfl⟩) | (go_at_call 164; (with_reducible refine (numsRow p a S c lo tp _ HP.out (H.out.below ((Below.refl _ _).alloc (Nat.le_refl _) _) ht) (by omega)).mono ?_); rintro e w1 ⟨rfl, rfl⟩; rw [HA.out]))
        go_ret
        exact ⟨by rw [HV.out]; rfl, by ((repeat' (first | with_reducible exact Below.refl _ _ | (with_reducible refine Below.setCell ?_ ?_ _) | (with_reducible refine Below.alloc ?_ ?_ _) | (with_reducible refine Below.drew ?_))); all_goals (first | (simp; done) | omega | (simp; omega)))⟩
    · have hb : ¬ ((1 : Int) ≤ (S.length : Int) ∧ (S.length : Int) ≤ 6) := by omega
      have HB := Lib.hid hb
      have HV : Hid (isSp p S = false) := isSp_no (fun k => h1 ⟨k.lo, k.hi⟩)
      clear h1 hb
      go_enter Try.func92, Try.ntmps92
      go_wp2_with (first | (go_at_call 170; refine (l01Prime_any _ _).mono ?_; rintro e w1 ⟨rfl, rfl⟩; rw [HP.out]) | (go_at_call 151; refine (l01In_no _ _ _ _ HB.out).mono ?_; rintro e w1 ⟨rfl, rfl⟩))
      go_ret
      exact ⟨by rw [HV.out]; rfl, by ((repeat' (first | with_reducible exact Below.refl _ _ | (with_reducible refine Below.setCell ?_ ?_ _) | (with_reducible refine Below.alloc ?_ ?_ _) | (with_reducible refine Below.drew ?_))); all_goals (first | (simp; done) | omega | (simp; omega)))⟩
  · have HP : Hid (prm p = false) := by show _ = _; simpa using hp
    have HV : Hid (isSp p S = false) := isSp_no (fun k => hp k.prime)
    clear hp
    go_enter Try.func92, Try.ntmps92
    go_wp2_with (first | (go_at_call 170; refine (l01Prime_any _ _).mono ?_; rintro e w1 ⟨rfl, rfl⟩; rw [HP.out]))
    go_ret
    exact ⟨by rw [HV.out]; rfl, by ((repeat' (first | with_reducible exact Below.refl _ _ | (with_reducible refine Below.setCell ?_ ?_ _) | (with_reducible refine Below.alloc ?_ ?_ _) | (with_reducible refine Below.drew ?_))); all_goals (first | (simp; done) | omega | (simp; omega)))⟩

theorem spec_IsSpace (pS : Int) (aS : Option Addr) (S : List Int) (cS loS tpS : Nat) (w : World) (hS : RowIn loS tpS w aS S) (tS : tpS ≤ w.heap.size) (sS : S.length ≤ 1048576) :
    Calls Try.prog 62 #[.agg #[.int .i64 pS, .slice aS S.length cS]] w (Ret1 (isSp pS S) w) := by
  have H := Lib.hid hS
  clear hS
  go_enter Try.func62, Try.ntmps62
  go_wp2_with (go_at_call 92; (with_reducible refine (l03Is_any pS aS S cS loS tpS _ (H.out.below ((Below.refl _ _).alloc (Nat.le_refl _) _) tS) (by simp; omega) sS).mono ?_); rintro e w1 ⟨rfl, hb1⟩)
  go_ret
  exact ⟨rfl, by (have hs_hb1 := hb1.size; (repeat' (first | with_reducible exact Below.refl _ _ | (with_reducible refine Below.setCell ?_ ?_ _) | (with_reducible refine Below.alloc ?_ ?_ _) | (with_reducible refine Below.drew ?_) | (with_reducible refine below_step ?_ ?_ hb1))); all_goals (first | (simp; done) | omega | (simp; omega) | (simp at hs_hb1 ⊢; omega)))⟩
theorem impl_IsSpace (pS : Int) (aS : Option Addr) (S : List Int) (cS loS tpS : Nat) (w : World) (hS : RowIn loS tpS w aS S) (tS : tpS ≤ w.heap.size) (sS : S.length ≤ 1048576) :
    Calls Try.prog 61 #[.agg #[.int .i64 pS, .slice aS S.length cS]] w (Ret1 (isSp pS S) w) := isSpace_any pS aS S cS loS tpS w hS tS sS

end Go.Proofs.Ytcamegdjdjacpaa
