/-
  DualOf, UndualOf, MeetOf: contracts of the program and of the model.
  Conditions: the lists are nil or rows of known cells, of at most 1048576 numbers.
-/
import Derived.Test.YtgfanoejohpmkaaQb23
import Derived.Test.YtgfanoejohpmkaaQb28
import Derived.Deep.RegionHeld3
import Derived.Deep.DeepCutAuto
namespace Go.Proofs.Ytgfanoejohpmkaa
open Go.RowKit
set_option linter.unusedVariables false

def regC (p : Int) (S : List Int) (m : List (List Int)) : Int := if codeMv p S m = 0 then (if discN p S = 0 then 5 else 0) else codeMv p S m
theorem regC_cases (p : Int) (S : List Int) (m : List (List Int)) : (isSp p S = false ∧ codeMv p S m = 1 ∧ regC p S m = 1) ∨ (isSp p S = true ∧ codeMv p S m = 2 ∧ regC p S m = 2) ∨ (isSp p S = true ∧ m.all (isMv p S) = true ∧ codeMv p S m = 0 ∧ discN p S = 0 ∧ regC p S m = 5) ∨ (isSp p S = true ∧ m.all (isMv p S) = true ∧ codeMv p S m = 0 ∧ discN p S ≠ 0 ∧ regC p S m = 0) := by
  unfold regC
  rcases codeMv_cases p S m with ⟨hi, hc⟩ | ⟨hi, ha, hc⟩ | ⟨hi, ha, hc⟩
  · exact .inl ⟨hi, hc, by rw [hc]; rfl⟩
  · by_cases hd : discN p S = 0
    · exact .inr (.inr (.inl ⟨hi, ha, hc, hd, by rw [if_pos hc, if_pos hd]⟩))
    · exact .inr (.inr (.inr ⟨hi, ha, hc, hd, by rw [if_pos hc, if_neg hd]⟩))
  · exact .inr (.inl ⟨hi, hc, by rw [hc]; rfl⟩)
theorem regC_zero {p : Int} {S : List Int} {m : List (List Int)} (h : regC p S m = 0) : isSp p S = true ∧ m.all (isMv p S) = true := by
  rcases regC_cases p S m with ⟨_, _, h2⟩ | ⟨_, _, h2⟩ | ⟨_, _, _, _, h2⟩ | ⟨h0, h1, _, _, _⟩
  · rw [h] at h2; cases h2
  · rw [h] at h2; cases h2
  · rw [h] at h2; cases h2
  · exact ⟨h0, h1⟩
set_option maxRecDepth 100000 in
set_option maxHeartbeats 1600000 in
theorem checkRegular_any (pS : Int) (aS : Option Addr) (S : List Int) (cS loS tpS : Nat) (am : Option Addr) (m : List (List Int)) (cm lom tpm : Nat) (w : World) (hS : RowIn loS tpS w aS S) (tS : tpS ≤ w.heap.size) (sS : S.length ≤ 1048576) (hm : MatIn lom tpm w am m) (tm : tpm ≤ w.heap.size) (sm : m.length ≤ 1048576) (sr : ∀ i, i < m.length → (rw' m i).length ≤ 1048576) :
    Calls Try.prog 36 #[.agg #[.int .i64 pS, .slice aS S.length cS], .slice am m.length cm] w fun e w' => e = .returned (.int .i64 (regC pS S m)) ∧ Below w.heap.size w w' := by
  have HS := Lib.hid hS
  have Hm := Lib.hid hm
  have HSR := Lib.hid sr
  clear hS hm sr
  rcases regC_cases pS S m with ⟨hi, hc, hr⟩ | ⟨hi, hc, hr⟩ | ⟨hi, ha, hc, hd, hr⟩ | ⟨hi, ha, hc, hd, hr⟩
  · have HC := Lib.hid hc
    have HR := Lib.hid hr
    clear hi hc hr
    go_enter Try.func36, Try.ntmps36
    go_wp2_with (first | (go_at_call 59; (with_reducible refine (checkMultivectors_any pS aS S cS loS tpS am m cm lom tpm _ (HS.out.below ((Below.refl _ _).alloc (Nat.le_refl _) (.cells #[.int .i64 pS, .slice aS S.length cS] 26)) tS) (Nat.le_trans tS (((Below.refl _ _).alloc (Nat.le_refl _) (.cells #[.int .i64 pS, .slice aS S.length cS] 26))).size) sS (Hm.out.below ((Below.refl _ _).alloc (Nat.le_refl _) (.cells #[.int .i64 pS, .slice aS S.length cS] 26)) tm) (Nat.le_trans tm (((Below.refl _ _).alloc (Nat.le_refl _) (.cells #[.int .i64 pS, .slice aS S.length cS] 26))).size) sm HSR.out).mono ?_); rintro e w2 ⟨rfl, b2⟩; rw [HC.out]; have B2 := Lib.hid b2; have K2_0_0 := (b2.cell (p := ⟨w.heap.size, 0, none⟩) (Nat.lt_of_lt_of_le (show w.heap.size < (w.alloc (.cells #[.int .i64 pS, .slice aS S.length cS] 26)).heap.size by simp) (Nat.le_refl _))).trans (show (w.alloc (.cells #[.int .i64 pS, .slice aS S.length cS] 26)).cell? ⟨w.heap.size, 0, none⟩ = some (.int .i64 pS) by simp [go_sem]); have K2_0_1 := (b2.cell (p := ⟨w.heap.size, 1, none⟩) (Nat.lt_of_lt_of_le (show w.heap.size < (w.alloc (.cells #[.int .i64 pS, .slice aS S.length cS] 26)).heap.size by simp) (Nat.le_refl _))).trans (show (w.alloc (.cells #[.int .i64 pS, .slice aS S.length cS] 26)).cell? ⟨w.heap.size, 1, none⟩ = some (.slice aS S.length cS) by simp [go_sem]); clear b2))
    go_ret
    exact ⟨by rw [HR.out]; rfl, (below_step ((Below.refl _ _).alloc (Nat.le_refl _) (.cells #[.int .i64 pS, .slice aS S.length cS] 26)) (show w.heap.size ≤ (w.alloc (.cells #[.int .i64 pS, .slice aS S.length cS] 26)).heap.size from (((Below.refl _ _).alloc (Nat.le_refl _) (.cells #[.int .i64 pS, .slice aS S.length cS] 26))).size) B2.out)⟩
  · have HC := Lib.hid hc
    have HR := Lib.hid hr
    clear hi hc hr
    go_enter Try.func36, Try.ntmps36
    go_wp2_with (first | (go_at_call 59; (with_reducible refine (checkMultivectors_any pS aS S cS loS tpS am m cm lom tpm _ (HS.out.below ((Below.refl _ _).alloc (Nat.le_refl _) (.cells #[.int .i64 pS, .slice aS S.length cS] 26)) tS) (Nat.le_trans tS (((Below.refl _ _).alloc (Nat.le_refl _) (.cells #[.int .i64 pS, .slice aS S.length cS] 26))).size) sS (Hm.out.below ((Below.refl _ _).alloc (Nat.le_refl _) (.cells #[.int .i64 pS, .slice aS S.length cS] 26)) tm) (Nat.le_trans tm (((Below.refl _ _).alloc (Nat.le_refl _) (.cells #[.int .i64 pS, .slice aS S.length cS] 26))).size) sm HSR.out).mono ?_); rintro e w2 ⟨rfl, b2⟩; rw [HC.out]; have B2 := Lib.hid b2; have K2_0_0 := (b2.cell (p := ⟨w.heap.size, 0, none⟩) (Nat.lt_of_lt_of_le (show w.heap.size < (w.alloc (.cells #[.int .i64 pS, .slice aS S.length cS] 26)).heap.size by simp) (Nat.le_refl _))).trans (show (w.alloc (.cells #[.int .i64 pS, .slice aS S.length cS] 26)).cell? ⟨w.heap.size, 0, none⟩ = some (.int .i64 pS) by simp [go_sem]); have K2_0_1 := (b2.cell (p := ⟨w.heap.size, 1, none⟩) (Nat.lt_of_lt_of_le (show w.heap.size < (w.alloc (.cells #[.int .i64 pS, .slice aS S.length cS] 26)).heap.size by simp) (Nat.le_refl _))).trans (show (w.alloc (.cells #[.int .i64 pS, .slice aS S.length cS] 26)).cell? ⟨w.heap.size, 1, none⟩ = some (.slice aS S.length cS) by simp [go_sem]); clear b2))
    go_ret
    exact ⟨by rw [HR.out]; rfl, (below_step ((Below.refl _ _).alloc (Nat.le_refl _) (.cells #[.int .i64 pS, .slice aS S.length cS] 26)) (show w.heap.size ≤ (w.alloc (.cells #[.int .i64 pS, .slice aS S.length cS] 26)).heap.size from (((Below.refl _ _).alloc (Nat.le_refl _) (.cells #[.int .i64 pS, .slice aS S.length cS] 26))).size) B2.out)⟩
  · have HC := Lib.hid hc
    have HR := Lib.hid hr
    have HI := Lib.hid hi
    have HD : Hid ((discN pS S != 0) = false) := by show _ = _; simp [hd]
    clear hi hc hr ha hd
    go_enter Try.func36, Try.ntmps36
    go_wp2_with (first | (go_at_call 59; (with_reducible refine (checkMultivectors_any pS aS S cS loS tpS am m cm lom tpm _ (HS.out.below ((Below.refl _ _).alloc (Nat.le_refl _) (.cells #[.int .i64 pS, .slice aS S.length cS] 26)) tS) (Nat.le_trans tS (((Below.refl _ _).alloc (Nat.le_refl _) (.cells #[.int .i64 pS, .slice aS S.length cS] 26))).size) sS (Hm.out.below ((Below.refl _ _).alloc (Nat.le_refl _) (.cells #[.int .i64 pS, .slice aS S.length cS] 26)) tm) (Nat.le_trans tm (((Below.refl _ _).alloc (Nat.le_refl _) (.cells #[.int .i64 pS, .slice aS S.length cS] 26))).size) sm HSR.out).mono ?_); rintro e w2 ⟨rfl, b2⟩; rw [HC.out]; have B2 := Lib.hid b2; have K2_0_0 := (b2.cell (p := ⟨w.heap.size, 0, none⟩) (Nat.lt_of_lt_of_le (show w.heap.size < (w.alloc (.cells #[.int .i64 pS, .slice aS S.length cS] 26)).heap.size by simp) (Nat.le_refl _))).trans (show (w.alloc (.cells #[.int .i64 pS, .slice aS S.length cS] 26)).cell? ⟨w.heap.size, 0, none⟩ = some (.int .i64 pS) by simp [go_sem]); have K2_0_1 := (b2.cell (p := ⟨w.heap.size, 1, none⟩) (Nat.lt_of_lt_of_le (show w.heap.size < (w.alloc (.cells #[.int .i64 pS, .slice aS S.length cS] 26)).heap.size by simp) (Nat.le_refl _))).trans (show (w.alloc (.cells #[.int .i64 pS, .slice aS S.length cS] 26)).cell? ⟨w.heap.size, 1, none⟩ = some (.slice aS S.length cS) by simp [go_sem]); clear b2) | (go_at_call 32; (with_reducible refine (isRegular_any pS aS S cS loS tpS _ (HS.out.below (below_step ((Below.refl _ _).alloc (Nat.le_refl _) (.cells #[.int .i64 pS, .slice aS S.length cS] 26)) (show w.heap.size ≤ (w.alloc (.cells #[.int .i64 pS, .slice aS S.length cS] 26)).heap.size from (((Below.refl _ _).alloc (Nat.le_refl _) (.cells #[.int .i64 pS, .slice aS S.length cS] 26))).size) B2.out) tS) (Nat.le_trans tS ((below_step ((Below.refl _ _).alloc (Nat.le_refl _) (.cells #[.int .i64 pS, .slice aS S.length cS] 26)) (show w.heap.size ≤ (w.alloc (.cells #[.int .i64 pS, .slice aS S.length cS] 26)).heap.size from (((Below.refl _ _).alloc (Nat.le_refl _) (.cells #[.int .i64 pS, .slice aS S.length cS] 26))).size) B2.out)).size) HI.out).mono ?_); rintro e w3 ⟨rfl, b3⟩; rw [HD.out]; have B3 := Lib.hid b3; have K3_0_0 := (b3.cell (p := ⟨w.heap.size, 0, none⟩) (Nat.lt_of_lt_of_le (show w.heap.size < (w.alloc (.cells #[.int .i64 pS, .slice aS S.length cS] 26)).heap.size by simp) (Nat.le_trans (Nat.le_refl _) B2.out.size))).trans K2_0_0; clear K2_0_0; have K3_0_1 := (b3.cell (p := ⟨w.heap.size, 1, none⟩) (Nat.lt_of_lt_of_le (show w.heap.size < (w.alloc (.cells #[.int .i64 pS, .slice aS S.length cS] 26)).heap.size by simp) (Nat.le_trans (Nat.le_refl _) B2.out.size))).trans K2_0_1; clear K2_0_1; clear b3))
    go_ret
    exact ⟨by rw [HR.out]; rfl, (below_step (below_step ((Below.refl _ _).alloc (Nat.le_refl _) (.cells #[.int .i64 pS, .slice aS S.length cS] 26)) (show w.heap.size ≤ (w.alloc (.cells #[.int .i64 pS, .slice aS S.length cS] 26)).heap.size from (((Below.refl _ _).alloc (Nat.le_refl _) (.cells #[.int .i64 pS, .slice aS S.length cS] 26))).size) B2.out) (show w.heap.size ≤ w2.heap.size from ((below_step ((Below.refl _ _).alloc (Nat.le_refl _) (.cells #[.int .i64 pS, .slice aS S.length cS] 26)) (show w.heap.size ≤ (w.alloc (.cells #[.int .i64 pS, .slice aS S.length cS] 26)).heap.size from (((Below.refl _ _).alloc (Nat.le_refl _) (.cells #[.int .i64 pS, .slice aS S.length cS] 26))).size) B2.out)).size) B3.out)⟩
  · have HC := Lib.hid hc
    have HR := Lib.hid hr
    have HI := Lib.hid hi
    have HD : Hid ((discN pS S != 0) = true) := by show _ = _; simp [hd]
    clear hi hc hr ha hd
    go_enter Try.func36, Try.ntmps36
    go_wp2_with (first | (go_at_call 59; (with_reducible refine (checkMultivectors_any pS aS S cS loS tpS am m cm lom tpm _ (HS.out.below ((Below.refl _ _).alloc (Nat.le_refl _) (.cells #[.int .i64 pS, .slice aS S.length cS] 26)) tS) (Nat.le_trans tS (((Below.refl _ _).alloc (Nat.le_refl _) (.cells #[.int .i64 pS, .slice aS S.length cS] 26))).size) sS (Hm.out.below ((Below.refl _ _).alloc (Nat.le_refl _) (.cells #[.int .i64 pS, .slice aS S.length cS] 26)) tm) (Nat.le_trans tm (((Below.refl _ _).alloc (Nat.le_refl _) (.cells #[.int .i64 pS, .slice aS S.length cS] 26))).size) sm HSR.out).mono ?_); rintro e w2 ⟨rfl, b2⟩; rw [HC.out]; have B2 := Lib.hid b2; have K2_0_0 := (b2.cell (p := ⟨w.heap.size, 0, none⟩) (Nat.lt_of_lt_of_le (show w.heap.size < (w.alloc (.cells #[.int .i64 pS, .slice aS S.length cS] 26)).heap.size by simp) (Nat.le_refl _))).trans (show (w.alloc (.cells #[.int .i64 pS, .slice aS S.length cS] 26)).cell? ⟨w.heap.size, 0, none⟩ = some (.int .i64 pS) by simp [go_sem]); have K2_0_1 := (b2.cell (p := ⟨w.heap.size, 1, none⟩) (Nat.lt_of_lt_of_le (show w.heap.size < (w.alloc (.cells #[.int .i64 pS, .slice aS S.length cS] 26)).heap.size by simp) (Nat.le_refl _))).trans (show (w.alloc (.cells #[.int .i64 pS, .slice aS S.length cS] 26)).cell? ⟨w.heap.size, 1, none⟩ = some (.slice aS S.length cS) by simp [go_sem]); clear b2) | (go_at_call 32; (with_reducible refine (isRegular_any pS aS S cS loS tpS _ (HS.out.below (below_step ((Below.refl _ _).alloc (Nat.le_refl _) (.cells #[.int .i64 pS, .slice aS S.length cS] 26)) (show w.heap.size ≤ (w.alloc (.cells #[.int .i64 pS, .slice aS S.length cS] 26)).heap.size from (((Below.refl _ _).alloc (Nat.le_refl _) (.cells #[.int .i64 pS, .slice aS S.length cS] 26))).size) B2.out) tS) (Nat.le_trans tS ((below_step ((Below.refl _ _).alloc (Nat.le_refl _) (.cells #[.int .i64 pS, .slice aS S.length cS] 26)) (show w.heap.size ≤ (w.alloc (.cells #[.int .i64 pS, .slice aS S.length cS] 26)).heap.size from (((Below.refl _ _).alloc (Nat.le_refl _) (.cells #[.int .i64 pS, .slice aS S.length cS] 26))).size) B2.out)).size) HI.out).mono ?_); rintro e w3 ⟨rfl, b3⟩; rw [HD.out]; have B3 := Lib.hid b3; have K3_0_0 := (b3.cell (p := ⟨w.heap.size, 0, none⟩) (Nat.lt_of_lt_of_le (show w.heap.size < (w.alloc (.cells #[.int .i64 pS, .slice aS S.length cS] 26)).heap.size by simp) (Nat.le_trans (Nat.le_refl _) B2.out.size))).trans K2_0_0; clear K2_0_0; have K3_0_1 := (b3.cell (p := ⟨w.heap.size, 1, none⟩) (Nat.lt_of_lt_of_le (show w.heap.size < (w.alloc (.cells #[.int .i64 pS, .slice aS S.length cS] 26)).heap.size by simp) (Nat.le_trans (Nat.le_refl _) B2.out.size))).trans K2_0_1; clear K2_0_1; clear b3))
    go_ret
    exact ⟨by rw [HR.out]; rfl, (below_step (below_step ((Below.refl _ _).alloc (Nat.le_refl _) (.cells #[.int .i64 pS, .slice aS S.length cS] 26)) (show w.heap.size ≤ (w.alloc (.cells #[.int .i64 pS, .slice aS S.length cS] 26)).heap.size from (((Below.refl _ _).alloc (Nat.le_refl _) (.cells #[.int .i64 pS, .slice aS S.length cS] 26))).size) B2.out) (show w.heap.size ≤ w2.heap.size from ((below_step ((Below.refl _ _).alloc (Nat.le_refl _) (.cells #[.int .i64 pS, .slice aS S.length cS] 26)) (show w.heap.size ≤ (w.alloc (.cells #[.int .i64 pS, .slice aS S.length cS] 26)).heap.size from (((Below.refl _ _).alloc (Nat.le_refl _) (.cells #[.int .i64 pS, .slice aS S.length cS] 26))).size) B2.out)).size) B3.out)⟩

theorem checkR1 (p : Int) (aS : Option Addr) (S : List Int) (cS loS tpS : Nat) (av : Option Addr) (v : List Int) (cv lov tpv b cap : Nat) (W : World) (T : TypeId) (hb : b = W.heap.size)
    (hS : RowIn loS tpS W aS S) (tS : tpS ≤ W.heap.size) (sS : S.length ≤ 1048576) (hv : RowIn lov tpv W av v) (tv : tpv ≤ W.heap.size) (sv : v.length ≤ 1048576) :
    Calls Try.prog 36 #[.agg #[.int .i64 p, .slice aS S.length cS], .slice (some ⟨b, 0, none⟩) 1 cap] (W.alloc (.cells #[.slice av v.length cv] T)) fun e w' => e = .returned (.int .i64 (regC p S [v])) ∧ Below (W.alloc (.cells #[.slice av v.length cv] T)).heap.size (W.alloc (.cells #[.slice av v.length cv] T)) w' :=
  checkRegular_any p aS S cS loS tpS (some ⟨b, 0, none⟩) [v] cap 0 _ _ (hS.below (below_alloc W _) tS) (Nat.le_trans tS (size_alloc W _)) sS (mv_one hb hv tv T) (Nat.le_refl _) (by show 1 ≤ 1048576; omega) (fun i hi => by match i, hi with | 0, _ => exact sv)
end Go.Proofs.Ytgfanoejohpmkaa
