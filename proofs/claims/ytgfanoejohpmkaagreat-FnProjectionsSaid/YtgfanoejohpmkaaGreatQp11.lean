/-
  Contracts and facts that the walk of the law rests on.
  Conditions: those that each theorem names.
-/
import Derived.Test.YtgfanoejohpmkaaGreatQp10
import Derived.Test.YtgfanoejohpmkaaGreatQp2
import Derived.Test.YtgfanoejohpmkaaGreatQp5
import Derived.Test.YtgfanoejohpmkaaGreatQp7
import Derived.Test.YtgfanoejohpmkaaGreatQp9
import Derived.Test.YtgfanoejohpmkaaGreatQp3
import Derived.Test.YtgfanoejohpmkaaGreatQp8
import Derived.Deep.RegionHeld3
namespace Go.Proofs.YtgfanoejohpmkaaGreat
open Go.RowKit
set_option linter.unusedVariables false
theorem checkV1 (p : Int) (aS : Option Addr) (S : List Int) (cS loS tpS : Nat) (av : Option Addr) (v : List Int) (cv lov tpv b cap : Nat) (W : World) (T : TypeId) (hb : b = W.heap.size)
 (hS : RowIn loS tpS W aS S) (tS : tpS ≤ W.heap.size) (sS : S.length ≤ 1048576) (hv : RowIn lov tpv W av v) (tv : tpv ≤ W.heap.size) (sv : v.length ≤ 1048576) :
 Calls Tryz.prog 104 #[.agg #[.int .i64 p, .slice aS S.length cS], .slice (some ⟨b, 0, none⟩) 1 cap] (W.alloc (.cells #[.slice av v.length cv] T)) fun e w' => e = .returned (.int .i64 (codeVs p S [v, v])) ∧ Below (W.alloc (.cells #[.slice av v.length cv] T)).heap.size (W.alloc (.cells #[.slice av v.length cv] T)) w' := by
 rw [← codeVs_one]
 exact checkVectors_any p aS S cS loS tpS (some ⟨b, 0, none⟩) [v] cap 0 _ _ (hS.below (below_alloc W _) tS) (Nat.le_trans tS (size_alloc W _)) sS (mat_one hb hv tv T) (Nat.le_refl _) (by show 1 ≤ 1048576; omega) (fun i hi => by match i, hi with | 0, _ => exact sv)
theorem norm_any (pS : Int) (aS : Option Addr) (S : List Int) (cS loS tpS : Nat) (av : Option Addr) (v : List Int) (cv lov tpv : Nat) (w : World)
 (hS : RowIn loS tpS w aS S) (tS : tpS ≤ w.heap.size) (hv : RowIn lov tpv w av v) (tv : tpv ≤ w.heap.size) (hs : isSp pS S = true) (h1 : isVec pS S.length v = true) :
 Calls Tryz.prog 89 #[.agg #[.int .i64 pS, .slice aS S.length cS], .slice av v.length cv] w fun e w' => e = .returned (.int .i64 (pairN pS S v v)) ∧ Below w.heap.size w w' := by
 have HS := Lib.hid hS
 have Hv := Lib.hid hv
 have HI := Lib.hid hs
 have HV1 := Lib.hid h1
 clear hS hv hs h1
 go_enter Tryz.func89, Tryz.ntmps89
 go_wp2_with (first | (go_at_call 137; (with_reducible refine (pair_any pS aS S cS loS tpS av v cv lov tpv av v cv lov tpv _ (HS.out.below ((Below.refl _ _).alloc (Nat.le_refl _) (.cells #[.int .i64 pS, .slice aS S.length cS] 26)) tS) (Nat.le_trans tS (((Below.refl _ _).alloc (Nat.le_refl _) (.cells #[.int .i64 pS, .slice aS S.length cS] 26))).size) (Hv.out.below ((Below.refl _ _).alloc (Nat.le_refl _) (.cells #[.int .i64 pS, .slice aS S.length cS] 26)) tv) (Nat.le_trans tv (((Below.refl _ _).alloc (Nat.le_refl _) (.cells #[.int .i64 pS, .slice aS S.length cS] 26))).size) (Hv.out.below ((Below.refl _ _).alloc (Nat.le_refl _) (.cells #[.int .i64 pS, .slice aS S.length cS] 26)) tv) (Nat.le_trans tv (((Below.refl _ _).alloc (Nat.le_refl _) (.cells #[.int .i64 pS, .slice aS S.length cS] 26))).size) HI.out HV1.out HV1.out).mono ?_); rintro e w2 ⟨rfl, b2⟩; have B2 := Lib.hid b2; have K2_0_0 := (b2.cell (p := ⟨w.heap.size, 0, none⟩) (Nat.lt_of_lt_of_le (show w.heap.size < (w.alloc (.cells #[.int .i64 pS, .slice aS S.length cS] 26)).heap.size by simp) (Nat.le_refl _))).trans (show (w.alloc (.cells #[.int .i64 pS, .slice aS S.length cS] 26)).cell? ⟨w.heap.size, 0, none⟩ = some (.int .i64 pS) by simp [go_sem]); have K2_0_1 := (b2.cell (p := ⟨w.heap.size, 1, none⟩) (Nat.lt_of_lt_of_le (show w.heap.size < (w.alloc (.cells #[.int .i64 pS, .slice aS S.length cS] 26)).heap.size by simp) (Nat.le_refl _))).trans (show (w.alloc (.cells #[.int .i64 pS, .slice aS S.length cS] 26)).cell? ⟨w.heap.size, 1, none⟩ = some (.slice aS S.length cS) by simp [go_sem]); clear b2))
 go_ret
 exact ⟨rfl, (below_step ((Below.refl _ _).alloc (Nat.le_refl _) (.cells #[.int .i64 pS, .slice aS S.length cS] 26)) (show w.heap.size ≤ (w.alloc (.cells #[.int .i64 pS, .slice aS S.length cS] 26)).heap.size from (((Below.refl _ _).alloc (Nat.le_refl _) (.cells #[.int .i64 pS, .slice aS S.length cS] 26))).size) B2.out)⟩
set_option maxRecDepth 100000 in
set_option maxHeartbeats 1600000 in
theorem impl_NormOf (pS : Int) (aS : Option Addr) (S : List Int) (cS loS tpS : Nat) (av : Option Addr) (v : List Int) (cv lov tpv : Nat) (w : World) (hS : RowIn loS tpS w aS S) (tS : tpS ≤ w.heap.size) (sS : S.length ≤ 1048576) (hv : RowIn lov tpv w av v) (tv : tpv ≤ w.heap.size) (sv : v.length ≤ 1048576) :
 Calls Tryz.prog 23 #[.agg #[.int .i64 pS, .slice aS S.length cS], .slice av v.length cv] w (RetI (pairV pS S v v) (codeVs pS S [v, v]) w) := by
 have HS := Lib.hid hS
 have Hv := Lib.hid hv
 clear hS hv
 rcases codeVs_cases pS S [v, v] with ⟨hi, hc⟩ | ⟨hi, ha, hc⟩ | ⟨hi, ha, hc⟩
 · have HI := Lib.hid hi
   have HC := Lib.hid hc
   have HV : Hid (pairV pS S v v = 0) := by show _ = _; unfold pairV; rw [if_neg (by rw [hc]; decide)]
   clear hi hc
   go_enter Tryz.func23, Tryz.ntmps23
   go_wp2_with (first | (go_at_call 104; (with_reducible refine (checkV1 pS aS S cS loS tpS av v cv lov tpv (w.heap.size + 1) _ _ _ (by simp) (HS.out.below ((Below.refl _ _).alloc (Nat.le_refl _) (.cells #[.int .i64 pS, .slice aS S.length cS] 26)) tS) (Nat.le_trans tS (((Below.refl _ _).alloc (Nat.le_refl _) (.cells #[.int .i64 pS, .slice aS S.length cS] 26))).size) sS (Hv.out.below ((Below.refl _ _).alloc (Nat.le_refl _) (.cells #[.int .i64 pS, .slice aS S.length cS] 26)) tv) (Nat.le_trans tv (((Below.refl _ _).alloc (Nat.le_refl _) (.cells #[.int .i64 pS, .slice aS S.length cS] 26))).size) sv).mono ?_); rintro e w3 ⟨rfl, b3⟩; rw [HC.out]; have B3 := Lib.hid b3; have K3_0_0 := (b3.cell (p := ⟨w.heap.size, 0, none⟩) (Nat.lt_of_lt_of_le (show w.heap.size < (w.alloc (.cells #[.int .i64 pS, .slice aS S.length cS] 26)).heap.size by simp) (Nat.le_trans (Nat.le_refl _) (size_alloc (w.alloc (.cells #[.int .i64 pS, .slice aS S.length cS] 26)) (.cells #[.slice av v.length cv] 24))))).trans (show ((w.alloc (.cells #[.int .i64 pS, .slice aS S.length cS] 26)).alloc (.cells #[.slice av v.length cv] 24)).cell? ⟨w.heap.size, 0, none⟩ = some (.int .i64 pS) from (World.cell?_alloc_old _ _ _ (by simp)).trans (by simp [go_sem])); have K3_0_1 := (b3.cell (p := ⟨w.heap.size, 1, none⟩) (Nat.lt_of_lt_of_le (show w.heap.size < (w.alloc (.cells #[.int .i64 pS, .slice aS S.length cS] 26)).heap.size by simp) (Nat.le_trans (Nat.le_refl _) (size_alloc (w.alloc (.cells #[.int .i64 pS, .slice aS S.length cS] 26)) (.cells #[.slice av v.length cv] 24))))).trans (show ((w.alloc (.cells #[.int .i64 pS, .slice aS S.length cS] 26)).alloc (.cells #[.slice av v.length cv] 24)).cell? ⟨w.heap.size, 1, none⟩ = some (.slice aS S.length cS) from (World.cell?_alloc_old _ _ _ (by simp)).trans (by simp [go_sem])); clear b3))
   go_ret2
   exact ⟨by rw [HV.out, HC.out]; rfl, (below_step (((Below.refl _ _).alloc (Nat.le_refl _) (.cells #[.int .i64 pS, .slice aS S.length cS] 26)).alloc (show w.heap.size ≤ (w.alloc (.cells #[.int .i64 pS, .slice aS S.length cS] 26)).heap.size from (((Below.refl _ _).alloc (Nat.le_refl _) (.cells #[.int .i64 pS, .slice aS S.length cS] 26))).size) (.cells #[.slice av v.length cv] 24)) (show w.heap.size ≤ ((w.alloc (.cells #[.int .i64 pS, .slice aS S.length cS] 26)).alloc (.cells #[.slice av v.length cv] 24)).heap.size from ((((Below.refl _ _).alloc (Nat.le_refl _) (.cells #[.int .i64 pS, .slice aS S.length cS] 26)).alloc (show w.heap.size ≤ (w.alloc (.cells #[.int .i64 pS, .slice aS S.length cS] 26)).heap.size from (((Below.refl _ _).alloc (Nat.le_refl _) (.cells #[.int .i64 pS, .slice aS S.length cS] 26))).size) (.cells #[.slice av v.length cv] 24))).size) B3.out)⟩
 · have HI := Lib.hid hi
   have HC := Lib.hid hc
   rw [two_all, Bool.and_eq_true] at ha
   have HV1 := Lib.hid ha.1
   have HV : Hid (pairV pS S v v = pairN pS S v v) := by show _ = _; unfold pairV; rw [if_pos hc]
   clear hi hc ha
   go_enter Tryz.func23, Tryz.ntmps23
   go_wp2_with (first | (go_at_call 104; (with_reducible refine (checkV1 pS aS S cS loS tpS av v cv lov tpv (w.heap.size + 1) _ _ _ (by simp) (HS.out.below ((Below.refl _ _).alloc (Nat.le_refl _) (.cells #[.int .i64 pS, .slice aS S.length cS] 26)) tS) (Nat.le_trans tS (((Below.refl _ _).alloc (Nat.le_refl _) (.cells #[.int .i64 pS, .slice aS S.length cS] 26))).size) sS (Hv.out.below ((Below.refl _ _).alloc (Nat.le_refl _) (.cells #[.int .i64 pS, .slice aS S.length cS] 26)) tv) (Nat.le_trans tv (((Below.refl _ _).alloc (Nat.le_refl _) (.cells #[.int .i64 pS, .slice aS S.length cS] 26))).size) sv).mono ?_); rintro e w3 ⟨rfl, b3⟩; rw [HC.out]; have B3 := Lib.hid b3; have K3_0_0 := (b3.cell (p := ⟨w.heap.size, 0, none⟩) (Nat.lt_of_lt_of_le (show w.heap.size < (w.alloc (.cells #[.int .i64 pS, .slice aS S.length cS] 26)).heap.size by simp) (Nat.le_trans (Nat.le_refl _) (size_alloc (w.alloc (.cells #[.int .i64 pS, .slice aS S.length cS] 26)) (.cells #[.slice av v.length cv] 24))))).trans (show ((w.alloc (.cells #[.int .i64 pS, .slice aS S.length cS] 26)).alloc (.cells #[.slice av v.length cv] 24)).cell? ⟨w.heap.size, 0, none⟩ = some (.int .i64 pS) from (World.cell?_alloc_old _ _ _ (by simp)).trans (by simp [go_sem])); have K3_0_1 := (b3.cell (p := ⟨w.heap.size, 1, none⟩) (Nat.lt_of_lt_of_le (show w.heap.size < (w.alloc (.cells #[.int .i64 pS, .slice aS S.length cS] 26)).heap.size by simp) (Nat.le_trans (Nat.le_refl _) (size_alloc (w.alloc (.cells #[.int .i64 pS, .slice aS S.length cS] 26)) (.cells #[.slice av v.length cv] 24))))).trans (show ((w.alloc (.cells #[.int .i64 pS, .slice aS S.length cS] 26)).alloc (.cells #[.slice av v.length cv] 24)).cell? ⟨w.heap.size, 1, none⟩ = some (.slice aS S.length cS) from (World.cell?_alloc_old _ _ _ (by simp)).trans (by simp [go_sem])); clear b3) | (go_at_call 89; (with_reducible refine (norm_any pS aS S cS loS tpS av v cv lov tpv _ (HS.out.below (below_step (((Below.refl _ _).alloc (Nat.le_refl _) (.cells #[.int .i64 pS, .slice aS S.length cS] 26)).alloc (show w.heap.size ≤ (w.alloc (.cells #[.int .i64 pS, .slice aS S.length cS] 26)).heap.size from (((Below.refl _ _).alloc (Nat.le_refl _) (.cells #[.int .i64 pS, .slice aS S.length cS] 26))).size) (.cells #[.slice av v.length cv] 24)) (show w.heap.size ≤ ((w.alloc (.cells #[.int .i64 pS, .slice aS S.length cS] 26)).alloc (.cells #[.slice av v.length cv] 24)).heap.size from ((((Below.refl _ _).alloc (Nat.le_refl _) (.cells #[.int .i64 pS, .slice aS S.length cS] 26)).alloc (show w.heap.size ≤ (w.alloc (.cells #[.int .i64 pS, .slice aS S.length cS] 26)).heap.size from (((Below.refl _ _).alloc (Nat.le_refl _) (.cells #[.int .i64 pS, .slice aS S.length cS] 26))).size) (.cells #[.slice av v.length cv] 24))).size) B3.out) tS) (Nat.le_trans tS ((below_step (((Below.refl _ _).alloc (Nat.le_refl _) (.cells #[.int .i64 pS, .slice aS S.length cS] 26)).alloc (show w.heap.size ≤ (w.alloc (.cells #[.int .i64 pS, .slice aS S.length cS] 26)).heap.size from (((Below.refl _ _).alloc (Nat.le_refl _) (.cells #[.int .i64 pS, .slice aS S.length cS] 26))).size) (.cells #[.slice av v.length cv] 24)) (show w.heap.size ≤ ((w.alloc (.cells #[.int .i64 pS, .slice aS S.length cS] 26)).alloc (.cells #[.slice av v.length cv] 24)).heap.size from ((((Below.refl _ _).alloc (Nat.le_refl _) (.cells #[.int .i64 pS, .slice aS S.length cS] 26)).alloc (show w.heap.size ≤ (w.alloc (.cells #[.int .i64 pS, .slice aS S.length cS] 26)).heap.size from (((Below.refl _ _).alloc (Nat.le_refl _) (.cells #[.int .i64 pS, .slice aS S.length cS] 26))).size) (.cells #[.slice av v.length cv] 24))).size) B3.out)).size) (Hv.out.below (below_step (((Below.refl _ _).alloc (Nat.le_refl _) (.cells #[.int .i64 pS, .slice aS S.length cS] 26)).alloc (show w.heap.size ≤ (w.alloc (.cells #[.int .i64 pS, .slice aS S.length cS] 26)).heap.size from (((Below.refl _ _).alloc (Nat.le_refl _) (.cells #[.int .i64 pS, .slice aS S.length cS] 26))).size) (.cells #[.slice av v.length cv] 24)) (show w.heap.size ≤ ((w.alloc (.cells #[.int .i64 pS, .slice aS S.length cS] 26)).alloc (.cells #[.slice av v.length cv] 24)).heap.size from ((((Below.refl _ _).alloc (Nat.le_refl _) (.cells #[.int .i64 pS, .slice aS S.length cS] 26)).alloc (show w.heap.size ≤ (w.alloc (.cells #[.int .i64 pS, .slice aS S.length cS] 26)).heap.size from (((Below.refl _ _).alloc (Nat.le_refl _) (.cells #[.int .i64 pS, .slice aS S.length cS] 26))).size) (.cells #[.slice av v.length cv] 24))).size) B3.out) tv) (Nat.le_trans tv ((below_step (((Below.refl _ _).alloc (Nat.le_refl _) (.cells #[.int .i64 pS, .slice aS S.length cS] 26)).alloc (show w.heap.size ≤ (w.alloc (.cells #[.int .i64 pS, .slice aS S.length cS] 26)).heap.size from (((Below.refl _ _).alloc (Nat.le_refl _) (.cells #[.int .i64 pS, .slice aS S.length cS] 26))).size) (.cells #[.slice av v.length cv] 24)) (show w.heap.size ≤ ((w.alloc (.cells #[.int .i64 pS, .slice aS S.length cS] 26)).alloc (.cells #[.slice av v.length cv] 24)).heap.size from ((((Below.refl _ _).alloc (Nat.le_refl _) (.cells #[.int .i64 pS, .slice aS S.length cS] 26)).alloc (show w.heap.size ≤ (w.alloc (.cells #[.int .i64 pS, .slice aS S.length cS] 26)).heap.size from (((Below.refl _ _).alloc (Nat.le_refl _) (.cells #[.int .i64 pS, .slice aS S.length cS] 26))).size) (.cells #[.slice av v.length cv] 24))).size) B3.out)).size) HI.out HV1.out).mono ?_); rintro e w4 ⟨rfl, b4⟩; have B4 := Lib.hid b4; have K4_0_0 := (b4.cell (p := ⟨w.heap.size, 0, none⟩) (Nat.lt_of_lt_of_le (show w.heap.size < (w.alloc (.cells #[.int .i64 pS, .slice aS S.length cS] 26)).heap.size by simp) (Nat.le_trans (Nat.le_trans (Nat.le_refl _) (size_alloc (w.alloc (.cells #[.int .i64 pS, .slice aS S.length cS] 26)) (.cells #[.slice av v.length cv] 24))) B3.out.size))).trans K3_0_0; clear K3_0_0; have K4_0_1 := (b4.cell (p := ⟨w.heap.size, 1, none⟩) (Nat.lt_of_lt_of_le (show w.heap.size < (w.alloc (.cells #[.int .i64 pS, .slice aS S.length cS] 26)).heap.size by simp) (Nat.le_trans (Nat.le_trans (Nat.le_refl _) (size_alloc (w.alloc (.cells #[.int .i64 pS, .slice aS S.length cS] 26)) (.cells #[.slice av v.length cv] 24))) B3.out.size))).trans K3_0_1; clear K3_0_1; clear b4))
   go_ret2
   exact ⟨by rw [HV.out, HC.out]; rfl, (below_step (below_step (((Below.refl _ _).alloc (Nat.le_refl _) (.cells #[.int .i64 pS, .slice aS S.length cS] 26)).alloc (show w.heap.size ≤ (w.alloc (.cells #[.int .i64 pS, .slice aS S.length cS] 26)).heap.size from (((Below.refl _ _).alloc (Nat.le_refl _) (.cells #[.int .i64 pS, .slice aS S.length cS] 26))).size) (.cells #[.slice av v.length cv] 24)) (show w.heap.size ≤ ((w.alloc (.cells #[.int .i64 pS, .slice aS S.length cS] 26)).alloc (.cells #[.slice av v.length cv] 24)).heap.size from ((((Below.refl _ _).alloc (Nat.le_refl _) (.cells #[.int .i64 pS, .slice aS S.length cS] 26)).alloc (show w.heap.size ≤ (w.alloc (.cells #[.int .i64 pS, .slice aS S.length cS] 26)).heap.size from (((Below.refl _ _).alloc (Nat.le_refl _) (.cells #[.int .i64 pS, .slice aS S.length cS] 26))).size) (.cells #[.slice av v.length cv] 24))).size) B3.out) (show w.heap.size ≤ w3.heap.size from ((below_step (((Below.refl _ _).alloc (Nat.le_refl _) (.cells #[.int .i64 pS, .slice aS S.length cS] 26)).alloc (show w.heap.size ≤ (w.alloc (.cells #[.int .i64 pS, .slice aS S.length cS] 26)).heap.size from (((Below.refl _ _).alloc (Nat.le_refl _) (.cells #[.int .i64 pS, .slice aS S.length cS] 26))).size) (.cells #[.slice av v.length cv] 24)) (show w.heap.size ≤ ((w.alloc (.cells #[.int .i64 pS, .slice aS S.length cS] 26)).alloc (.cells #[.slice av v.length cv] 24)).heap.size from ((((Below.refl _ _).alloc (Nat.le_refl _) (.cells #[.int .i64 pS, .slice aS S.length cS] 26)).alloc (show w.heap.size ≤ (w.alloc (.cells #[.int .i64 pS, .slice aS S.length cS] 26)).heap.size from (((Below.refl _ _).alloc (Nat.le_refl _) (.cells #[.int .i64 pS, .slice aS S.length cS] 26))).size) (.cells #[.slice av v.length cv] 24))).size) B3.out)).size) B4.out)⟩
 · have HI := Lib.hid hi
   have HC := Lib.hid hc
   have HV : Hid (pairV pS S v v = 0) := by show _ = _; unfold pairV; rw [if_neg (by rw [hc]; decide)]
   clear hi hc ha
   go_enter Tryz.func23, Tryz.ntmps23
   go_wp2_with (first | (go_at_call 104; (with_reducible refine (checkV1 pS aS S cS loS tpS av v cv lov tpv (w.heap.size + 1) _ _ _ (by simp) (HS.out.below ((Below.refl _ _).alloc (Nat.le_refl _) (.cells #[.int .i64 pS, .slice aS S.length cS] 26)) tS) (Nat.le_trans tS (((Below.refl _ _).alloc (Nat.le_refl _) (.cells #[.int .i64 pS, .slice aS S.length cS] 26))).size) sS (Hv.out.below ((Below.refl _ _).alloc (Nat.le_refl _) (.cells #[.int .i64 pS, .slice aS S.length cS] 26)) tv) (Nat.le_trans tv (((Below.refl _ _).alloc (Nat.le_refl _) (.cells #[.int .i64 pS, .slice aS S.length cS] 26))).size) sv).mono ?_); rintro e w3 ⟨rfl, b3⟩; rw [HC.out]; have B3 := Lib.hid b3; have K3_0_0 := (b3.cell (p := ⟨w.heap.size, 0, none⟩) (Nat.lt_of_lt_of_le (show w.heap.size < (w.alloc (.cells #[.int .i64 pS, .slice aS S.length cS] 26)).heap.size by simp) (Nat.le_trans (Nat.le_refl _) (size_alloc (w.alloc (.cells #[.int .i64 pS, .slice aS S.length cS] 26)) (.cells #[.slice av v.length cv] 24))))).trans (show ((w.alloc (.cells #[.int .i64 pS, .slice aS S.length cS] 26)).alloc (.cells #[.slice av v.length cv] 24)).cell? ⟨w.heap.size, 0, none⟩ = some (.int .i64 pS) from (World.cell?_alloc_old _ _ _ (by simp)).trans (by simp [go_sem])); have K3_0_1 := (b3.cell (p := ⟨w.heap.size, 1, none⟩) (Nat.lt_of_lt_of_le (show w.heap.size < (w.alloc (.cells #[.int .i64 pS, .slice aS S.length cS] 26)).heap.size by simp) (Nat.le_trans (Nat.le_refl _) (size_alloc (w.alloc (.cells #[.int .i64 pS, .slice aS S.length cS] 26)) (.cells #[.slice av v.length cv] 24))))).trans (show ((w.alloc (.cells #[.int .i64 pS, .slice aS S.length cS] 26)).alloc (.cells #[.slice av v.length cv] 24)).cell? ⟨w.heap.size, 1, none⟩ = some (.slice aS S.length cS) from (World.cell?_alloc_old _ _ _ (by simp)).trans (by simp [go_sem])); clear b3))
   go_ret2
   exact ⟨by rw [HV.out, HC.out]; rfl, (below_step (((Below.refl _ _).alloc (Nat.le_refl _) (.cells #[.int .i64 pS, .slice aS S.length cS] 26)).alloc (show w.heap.size ≤ (w.alloc (.cells #[.int .i64 pS, .slice aS S.length cS] 26)).heap.size from (((Below.refl _ _).alloc (Nat.le_refl _) (.cells #[.int .i64 pS, .slice aS S.length cS] 26))).size) (.cells #[.slice av v.length cv] 24)) (show w.heap.size ≤ ((w.alloc (.cells #[.int .i64 pS, .slice aS S.length cS] 26)).alloc (.cells #[.slice av v.length cv] 24)).heap.size from ((((Below.refl _ _).alloc (Nat.le_refl _) (.cells #[.int .i64 pS, .slice aS S.length cS] 26)).alloc (show w.heap.size ≤ (w.alloc (.cells #[.int .i64 pS, .slice aS S.length cS] 26)).heap.size from (((Below.refl _ _).alloc (Nat.le_refl _) (.cells #[.int .i64 pS, .slice aS S.length cS] 26))).size) (.cells #[.slice av v.length cv] 24))).size) B3.out)⟩
def listB (p : Int) (S : List Int) (m : List (List Int)) : Bool := m.all (isVec p S.length) && decide (m.length ≤ 16)
theorem listB_iff {p : Int} {S : List Int} {m : List (List Int)} (h : listB p S m = true) : m.length ≤ 16 ∧ ∀ i, i < m.length → isVec p S.length (rw' m i) = true := by
 unfold listB at h
 rw [Bool.and_eq_true, List.all_eq_true] at h
 exact ⟨of_decide_eq_true h.2, fun i hi => h.1 _ (mem_row hi)⟩
theorem rect_of {n : Nat} {p : Int} {m : List (List Int)} (h : Lst n p m) : Rect p m (rw' m 0).length where
 rows := by have := h.hi; omega
 cols := by
  by_cases h0 : 0 < m.length
  · have := h.c1 0 h0; omega
  · have e : m = [] := List.eq_nil_of_length_eq_zero (by omega)
    rw [e]; simp [rw']
 len := h.len
 num i hi := Nums.of (h.all i hi)
theorem Lst.c16 {n : Nat} {p : Int} {m : List (List Int)} (h : Lst n p m) : (rw' m 0).length ≤ 16 := by
 by_cases h0 : 0 < m.length
 · exact h.c1 0 h0
 · have e : m = [] := List.eq_nil_of_length_eq_zero (by omega)
   rw [e]; simp [rw']
theorem pairN_comm (p : Int) (S v w : List Int) : pairN p S v w = pairN p S w v := by
 unfold pairN psum
 congr 1
 exact sm_congr fun j _ => by rw [Int.mul_comm (v.getD j 0)]
theorem el_mod (a b p : Int) : (a % p * b) % p = (a * b) % p := by rw [Int.mul_emod, Int.emod_emod, ← Int.mul_emod]
theorem er_mod (a b p : Int) : (a * (b % p)) % p = (a * b) % p := by rw [Int.mul_emod, Int.emod_emod, ← Int.mul_emod]
theorem sm_cong_p {p : Int} {n : Nat} {f g : Nat → Int} (h : ∀ j, j < n → f j % p = g j % p) : sm n f % p = sm n g % p := by
 rw [← sm_mod n p f, ← sm_mod n p g, sm_congr h]
theorem plusR_at (p k : Int) (v u : List Int) {j : Nat} (h : j < v.length) : (plusR p v u k).getD j 0 = (v.getD j 0 + k * u.getD j 0) % p := by unfold plusR; exact mkR_at _ h
theorem pairN_lin {p k : Int} {S v u w : List Int} (hl : v.length = S.length) : pairN p S (plusR p v u k) w = (pairN p S v w + k * pairN p S u w) % p := by
 have h : psum S (plusR p v u k) w S.length % p = (psum S v w S.length + k * psum S u w S.length) % p := by
  unfold psum
  rw [← sm_mul, ← sm_add]
  apply sm_cong_p
  intro j hj
  rw [plusR_at p k v u (by omega), Int.mul_assoc, el_mod, Int.add_mul]
  congr 1
  rw [← Int.mul_assoc]
  congr 1
  rw [Int.mul_assoc k, ← Int.mul_assoc (u.getD j 0)]
 show _ % p = (psum S v w S.length % p + k * (psum S u w S.length % p)) % p
 rw [h, Int.add_emod (psum S v w S.length % p), Int.emod_emod, er_mod, ← Int.add_emod]
theorem pairN_bd {p : Int} (hp : 0 < p) (S v w : List Int) : 0 ≤ pairN p S v w ∧ pairN p S v w < p := ⟨Int.emod_nonneg _ (by omega), Int.emod_lt_of_pos _ hp⟩
theorem code_vec2 {p : Int} {S v w : List Int} (hs : isSp p S = true) (hv : isVec p S.length v = true) (hw : isVec p S.length w = true) : codeVs p S [v, w] = 0 ∧ pairV p S v w = pairN p S v w := by
 have h : codeVs p S [v, w] = 0 := by unfold codeVs; rw [if_pos hs, if_pos (by simp [hv, hw])]
 exact ⟨h, by unfold pairV; rw [if_pos h]⟩
def eF (S : List Int) (i j : Nat) : Int := fz S (2 ^ i) (2 ^ j) S.length
def minusR (p : Int) (a b : List Int) : List Int := mkR a.length fun j => (a.getD j 0 + -1 * b.getD j 0) % p
def OwnE (R : List Int) (w : World) (e : Ending) (w' : World) : Prop := ∃ r c, e = .returned (.slice r R.length c) ∧ OwnR w.heap.size w'.heap.size w' r R ∧ Below w.heap.size w w'
theorem Mv.num {p : Int} {S x : List Int} (h : isMv p S x = true) : ∀ j, j < x.length → 0 ≤ x.getD j 0 ∧ x.getD j 0 < p := fun j hj => (isVec_iff.1 h).num (by rw [← (isVec_iff.1 h).len]; exact hj)
theorem Mv.len {p : Int} {S x : List Int} (h : isMv p S x = true) : x.length = bl S := (isVec_iff.1 h).len
theorem Mv.nums {p : Int} {S x : List Int} (h : isMv p S x = true) : Nums p x := Mv.num h
def pg (x : List Int) (k : Int) (j : Nat) : Int := if ((gr j : Nat) : Int) = k then x.getD j 0 else 0
set_option maxRecDepth 100000 in
set_option maxHeartbeats 1600000 in
theorem l04Part_any (a : Option Addr) (x : List Int) (c lo tp : Nat) (k : Int) (w : World) (hx : RowIn lo tp w a x) (tx : tp ≤ w.heap.size) (sx : x.length ≤ 64) :
 Calls Tryz.prog 207 #[.slice a x.length c, .int .i64 k] w (NewRow x.length (pg x k) w) := by
 have hmk := fun W => run_make_row' (P := Tryz.prog) 24 2 (.int .i64 0) 8 Tryz.underlying24 info64 rfl .i64 .i64 x.length (by omega) (by omega) W
 have HX := Lib.hid hx
 clear hx
 go_enter Tryz.func207, Tryz.ntmps207
 go_wp2
 obtain ⟨W1, hW1⟩ : ∃ W1, W1 = w.alloc (.cells (madeCells #[.int .i64 0] x.length) 2) := ⟨_, rfl⟩
 have HO1 : Hid (RowOwn W1 w.heap.size 0 x.length (fun _ => 0)) := by show RowOwn _ _ _ _ _; rw [hW1]; exact RowOwn.start w x.length _
 have HB1 : Hid (Below w.heap.size w W1) := by show Below _ _ _; rw [hW1]; exact below_alloc w _
 have hu1 : w.heap.size < W1.heap.size := by rw [hW1]; simp
 rw [← hW1]
 clear hmk hW1
 go_loopw [6] (fun t wr => ∃ i : Nat, i ≤ x.length ∧ t = .int .i64 i ∧ RowOwn wr w.heap.size 0 x.length (fun j => if j < i then pg x k j else 0) ∧ Wrote w.heap.size 0 x.length W1 wr) (fun t _ => x.length - (intOf t).toNat)
 case atStart => exact ⟨0, Nat.zero_le _, rfl, row_zero HO1.out, Wrote.refl _ _ _ _⟩
 case round =>
  obtain ⟨i, hi, rfl, hr, hw⟩ := hrel
  have HR := Lib.hid hr
  have HW := Lib.hid hw
  by_cases hlt : i < x.length
  · obtain ⟨b2, o2, ha2, l2, t2, hc2⟩ := ((HX.out.below HB1.out tx).same (hw.same (by omega : w.heap.size < lo ∨ tp ≤ w.heap.size))).num hlt
    subst ha2
    have c0 := hr.cell i hlt
    have f0 := hr.free i hlt
    rw [Nat.zero_add] at c0 f0
    rw [if_neg (Nat.lt_irrefl _)] at c0
    have hi1 : (i : Int) < (x.length : Int) := by omega
    obtain ⟨y, hy⟩ : ∃ y, y = x.getD i 0 := ⟨_, rfl⟩
    have HY := Lib.hid hy
    rw [← hy] at hc2
    clear hr hw hy
    by_cases hk : ((gr i : Nat) : Int) = k
    · have HG : Hid (y = pg x k i) := by show _ = _; unfold pg; rw [if_pos hk, HY.out]
      have e1 : (((gr i : Nat) : Int) == k) = true := by simpa using hk
      clear hk
      go_wp2_with (go_at_call 247; refine (l04Grade_any i (by omega) _).mono ?_; rintro e w3 ⟨rfl, rfl⟩)
      go_roundw
      case rel => exact ⟨i + 1, by omega, by go_num, row_fill HR.out hlt HG.out, wrote_put0 HW.out hlt _⟩
      case measure => simp [intOf]; omega
    · have HG : Hid (pg x k i = 0) := by show _ = _; unfold pg; rw [if_neg hk]
      have e1 : (((gr i : Nat) : Int) == k) = false := by simpa using hk
      clear hk
      go_wp2_with (go_at_call 247; refine (l04Grade_any i (by omega) _).mono ?_; rintro e w3 ⟨rfl, rfl⟩)
      go_roundw
      case rel => exact ⟨i + 1, by omega, by go_num, row_leave HR.out HG.out, HW.out⟩
      case measure => simp [intOf]; omega
  · have hn : i = x.length := by omega
    subst hn
    clear hr hw
    go_wp2
    go_ret
    exact ⟨w.heap.size, rfl, Nat.le_refl _, by rw [HW.out.size]; exact hu1, row_done HR.out, HB1.out.trans (HW.out.belowB (Nat.le_refl _))⟩
end Go.Proofs.YtgfanoejohpmkaaGreat