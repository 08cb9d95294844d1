/-
  PairOf and NormOf: contracts of the program and of the model.
  Conditions: the lists are nil or rows of known cells, of at most 1048576 numbers.
  Lists of vectors of a space, in the program and in the model.
  Conditions: the lists are nil or rows of known cells, of at most 1048576 numbers.
-/
import Derived.Test.YtdfkpbmccmbjmaaQg14
namespace Go.Proofs.Ytdfkpbmccmbjmaa
open Go.RowKit
set_option linter.unusedVariables false

def pairV (p : Int) (S v u : List Int) : Int := if codeVs p S [v, u] = 0 then pairN p S v u else 0
theorem two_all {f : List Int → Bool} {v u : List Int} : [v, u].all f = (f v && f u) := by simp
theorem mat_two {W : World} {lo tp lo' tp' cv cu b : Nat} {a a' : Option Addr} {v u : List Int} (hb' : b = W.heap.size) (hv : RowIn lo tp W a v) (tv : tp ≤ W.heap.size) (hu : RowIn lo' tp' W a' u) (tu : tp' ≤ W.heap.size) (T : TypeId) :
    MatIn 0 (W.alloc (.cells #[.slice a v.length cv, .slice a' u.length cu] T)).heap.size (W.alloc (.cells #[.slice a v.length cv, .slice a' u.length cu] T)) (some ⟨b, 0, none⟩) [v, u] := by
  subst hb'
  refine .inr ⟨W.heap.size, 0, rfl, Nat.zero_le _, lt_alloc W _, fun i hi => ?_⟩
  have hb := below_alloc W (.cells #[.slice a v.length cv, .slice a' u.length cu] T)
  match i, hi with
  | 0, _ => exact ⟨a, cv, nw0 W _ _ T, (hv.below hb tv).mono (Nat.zero_le _) (Nat.le_trans tv (size_alloc W _))⟩
  | 1, _ => exact ⟨a', cu, nw1 W _ _ T, (hu.below hb tu).mono (Nat.zero_le _) (Nat.le_trans tu (size_alloc W _))⟩
theorem checkV2 (p : Int) (aS : Option Addr) (S : List Int) (cS loS tpS : Nat) (av au : Option Addr) (v u : List Int) (cv cu lov tpv lou tpu b cap : Nat) (W : World) (T : TypeId) (hb : b = W.heap.size)
    (hS : RowIn loS tpS W aS S) (tS : tpS ≤ W.heap.size) (sS : S.length ≤ 1048576) (hv : RowIn lov tpv W av v) (tv : tpv ≤ W.heap.size) (sv : v.length ≤ 1048576) (hu : RowIn lou tpu W au u) (tu : tpu ≤ W.heap.size) (su : u.length ≤ 1048576) :
    Calls Try.prog 24 #[.agg #[.int .i64 p, .slice aS S.length cS], .slice (some ⟨b, 0, none⟩) 2 cap] (W.alloc (.cells #[.slice av v.length cv, .slice au u.length cu] T)) fun e w' => e = .returned (.int .i64 (codeVs p S [v, u])) ∧ Below (W.alloc (.cells #[.slice av v.length cv, .slice au u.length cu] T)).heap.size (W.alloc (.cells #[.slice av v.length cv, .slice au u.length cu] T)) w' :=
  checkVectors_any p aS S cS loS tpS (some ⟨b, 0, none⟩) [v, u] cap 0 _ _ (hS.below (below_alloc W _) tS) (Nat.le_trans tS (size_alloc W _)) sS (mat_two hb hv tv hu tu T) (Nat.le_refl _) (by show 2 ≤ 1048576; omega) (fun i hi => by match i, hi with | 0, _ => exact sv | 1, _ => exact su)

set_option maxRecDepth 100000 in
set_option maxHeartbeats 1600000 in
theorem impl_PairOf (pS : Int) (aS : Option Addr) (S : List Int) (cS loS tpS : Nat) (av : Option Addr) (v : List Int) (cv lov tpv : Nat) (au : Option Addr) (u : List Int) (cu lou tpu : Nat) (w : World) (hS : RowIn loS tpS w aS S) (tS : tpS ≤ w.heap.size) (sS : S.length ≤ 1048576) (hv : RowIn lov tpv w av v) (tv : tpv ≤ w.heap.size) (sv : v.length ≤ 1048576) (hu : RowIn lou tpu w au u) (tu : tpu ≤ w.heap.size) (su : u.length ≤ 1048576) :
    Calls Try.prog 9 #[.agg #[.int .i64 pS, .slice aS S.length cS], .slice av v.length cv, .slice au u.length cu] w (RetI (pairV pS S v u) (codeVs pS S [v, u]) w) := by
  have HS := Lib.hid hS
  have Hv := Lib.hid hv
  have Hu := Lib.hid hu
  clear hS hv hu
  rcases codeVs_cases pS S [v, u] with ⟨hi, hc⟩ | ⟨hi, ha, hc⟩ | ⟨hi, ha, hc⟩
  · have HI := Lib.hid hi
    have HC := Lib.hid hc
    have HV : Hid (pairV pS S v u = 0) := by show _ = _; unfold pairV; rw [if_neg (by rw [hc]; decide)]
    clear hi hc
    go_enter Try.func9, Try.ntmps9
    go_wp2_with (first | (go_at_call 24; (with_reducible refine (checkV2 pS aS S cS loS tpS av au v u cv cu lov tpv lou tpu (w.heap.size + 1) _ _ _ (by simp) (HS.out.below ((Below.refl _ _).alloc (Nat.le_refl _) (.cells #[.int .i64 pS, .slice aS S.length cS] 26)) tS) (Nat.le_trans tS (((Below.refl _ _).alloc (Nat.le_refl _) (.cells #[.int .i64 pS, .slice aS S.length cS] 26))).size) sS (Hv.out.below ((Below.refl _ _).alloc (Nat.le_refl _) (.cells #[.int .i64 pS, .slice aS S.length cS] 26)) tv) (Nat.le_trans tv (((Below.refl _ _).alloc (Nat.le_refl _) (.cells #[.int .i64 pS, .slice aS S.length cS] 26))).size) sv (Hu.out.below ((Below.refl _ _).alloc (Nat.le_refl _) (.cells #[.int .i64 pS, .slice aS S.length cS] 26)) tu) (Nat.le_trans tu (((Below.refl _ _).alloc (Nat.le_refl _) (.cells #[.int .i64 pS, .slice aS S.length cS] 26))).size) su).mono ?_); rintro e w3 ⟨rfl, b3⟩; rw [HC.out]; have B3 := Lib.hid b3; have K3_0_0 := (b3.cell (p := ⟨w.heap.size, 0, none⟩) (Nat.lt_of_lt_of_le (show w.heap.size < (w.alloc (.cells #[.int .i64 pS, .slice aS S.length cS] 26)).heap.size by simp) (Nat.le_trans (Nat.le_refl _) (size_alloc (w.alloc (.cells #[.int .i64 pS, .slice aS S.length cS] 26)) (.cells #[.slice av v.length cv, .slice au u.length cu] 24))))).trans (show ((w.alloc (.cells #[.int .i64 pS, .slice aS S.length cS] 26)).alloc (.cells #[.slice av v.length cv, .slice au u.length cu] 24)).cell? ⟨w.heap.size, 0, none⟩ = some (.int .i64 pS) from (World.cell?_alloc_old _ _ _ (by simp)).trans (by simp [go_sem])); have K3_0_1 := (b3.cell (p := ⟨w.heap.size, 1, none⟩) (Nat.lt_of_lt_of_le (show w.heap.size < (w.alloc (.cells #[.int .i64 pS, .slice aS S.length cS] 26)).heap.size by simp) (Nat.le_trans (Nat.le_refl _) (size_alloc (w.alloc (.cells #[.int .i64 pS, .slice aS S.length cS] 26)) (.cells #[.slice av v.length cv, .slice au u.length cu] 24))))).trans (show ((w.alloc (.cells #[.int .i64 pS, .slice aS S.length cS] 26)).alloc (.cells #[.slice av v.length cv, .slice au u.length cu] 24)).cell? ⟨w.heap.size, 1, none⟩ = some (.slice aS S.length cS) from (World.cell?_alloc_old _ _ _ (by simp)).trans (by simp [go_sem])); clear b3))
    go_ret2
    exact ⟨by rw [HV.out, HC.out]; rfl, (below_step (((Below.refl _ _).alloc (Nat.le_refl _) (.cells #[.int .i64 pS, .slice aS S.length cS] 26)).alloc (show w.heap.size ≤ (w.alloc (.cells #[.int .i64 pS, .slice aS S.length cS] 26)).heap.size from (((Below.refl _ _).alloc (Nat.le_refl _) (.cells #[.int .i64 pS, .slice aS S.length cS] 26))).size) (.cells #[.slice av v.length cv, .slice au u.length cu] 24)) (show w.heap.size ≤ ((w.alloc (.cells #[.int .i64 pS, .slice aS S.length cS] 26)).alloc (.cells #[.slice av v.length cv, .slice au u.length cu] 24)).heap.size from ((((Below.refl _ _).alloc (Nat.le_refl _) (.cells #[.int .i64 pS, .slice aS S.length cS] 26)).alloc (show w.heap.size ≤ (w.alloc (.cells #[.int .i64 pS, .slice aS S.length cS] 26)).heap.size from (((Below.refl _ _).alloc (Nat.le_refl _) (.cells #[.int .i64 pS, .slice aS S.length cS] 26))).size) (.cells #[.slice av v.length cv, .slice au u.length cu] 24))).size) B3.out)⟩
  · have HI := Lib.hid hi
    have HC := Lib.hid hc
    rw [two_all, Bool.and_eq_true] at ha
    have HV1 := Lib.hid ha.1
    have HV2 := Lib.hid ha.2
    have HV : Hid (pairV pS S v u = pairN pS S v u) := by show _ = _; unfold pairV; rw [if_pos hc]
    clear hi hc ha
    go_enter Try.func9, Try.ntmps9
    go_wp2_with (first | (go_at_call 24; (with_reducible refine (checkV2 pS aS S cS loS tpS av au v u cv cu lov tpv lou tpu (w.heap.size + 1) _ _ _ (by simp) (HS.out.below ((Below.refl _ _).alloc (Nat.le_refl _) (.cells #[.int .i64 pS, .slice aS S.length cS] 26)) tS) (Nat.le_trans tS (((Below.refl _ _).alloc (Nat.le_refl _) (.cells #[.int .i64 pS, .slice aS S.length cS] 26))).size) sS (Hv.out.below ((Below.refl _ _).alloc (Nat.le_refl _) (.cells #[.int .i64 pS, .slice aS S.length cS] 26)) tv) (Nat.le_trans tv (((Below.refl _ _).alloc (Nat.le_refl _) (.cells #[.int .i64 pS, .slice aS S.length cS] 26))).size) sv (Hu.out.below ((Below.refl _ _).alloc (Nat.le_refl _) (.cells #[.int .i64 pS, .slice aS S.length cS] 26)) tu) (Nat.le_trans tu (((Below.refl _ _).alloc (Nat.le_refl _) (.cells #[.int .i64 pS, .slice aS S.length cS] 26))).size) su).mono ?_); rintro e w3 ⟨rfl, b3⟩; rw [HC.out]; have B3 := Lib.hid b3; have K3_0_0 := (b3.cell (p := ⟨w.heap.size, 0, none⟩) (Nat.lt_of_lt_of_le (show w.heap.size < (w.alloc (.cells #[.int .i64 pS, .slice aS S.length cS] 26)).heap.size by simp) (Nat.le_trans (Nat.le_refl _) (size_alloc (w.alloc (.cells #[.int .i64 pS, .slice aS S.length cS] 26)) (.cells #[.slice av v.length cv, .slice au u.length cu] 24))))).trans (show ((w.alloc (.cells #[.int .i64 pS, .slice aS S.length cS] 26)).alloc (.cells #[.slice av v.length cv, .slice au u.length cu] 24)).cell? ⟨w.heap.size, 0, none⟩ = some (.int .i64 pS) from (World.cell?_alloc_old _ _ _ (by simp)).trans (by simp [go_sem])); have K3_0_1 := (b3.cell (p := ⟨w.heap.size, 1, none⟩) (Nat.lt_of_lt_of_le (show w.heap.size < (w.alloc (.cells #[.int .i64 pS, .slice aS S.length cS] 26)).heap.size by simp) (Nat.le_trans (Nat.le_refl _) (size_alloc (w.alloc (.cells #[.int .i64 pS, .slice aS S.length cS] 26)) (.cells #[.slice av v.length cv, .slice au u.length cu] 24))))).trans (show ((w.alloc (.cells #[.int .i64 pS, .slice aS S.length cS] 26)).alloc (.cells #[.slice av v.length cv, .slice au u.length cu] 24)).cell? ⟨w.heap.size, 1, none⟩ = some (.slice aS S.length cS) from (World.cell?_alloc_old _ _ _ (by simp)).trans (by simp [go_sem])); clear b3) | (go_at_call 25; (with_reducible refine (pair_any pS aS S cS loS tpS av v cv lov tpv au u cu lou tpu _ (HS.out.below (below_step (((Below.refl _ _).alloc (Nat.le_refl _) (.cells #[.int .i64 pS, .slice aS S.length cS] 26)).alloc (show w.heap.size ≤ (w.alloc (.cells #[.int .i64 pS, .slice aS S.length cS] 26)).heap.size from (((Below.refl _ _).alloc (Nat.le_refl _) (.cells #[.int .i64 pS, .slice aS S.length cS] 26))).size) (.cells #[.slice av v.length cv, .slice au u.length cu] 24)) (show w.heap.size ≤ ((w.alloc (.cells #[.int .i64 pS, .slice aS S.length cS] 26)).alloc (.cells #[.slice av v.length cv, .slice au u.length cu] 24)).heap.size from ((((Below.refl _ _).alloc (Nat.le_refl _) (.cells #[.int .i64 pS, .slice aS S.length cS] 26)).alloc (show w.heap.size ≤ (w.alloc (.cells #[.int .i64 pS, .slice aS S.length cS] 26)).heap.size from (((Below.refl _ _).alloc (Nat.le_refl _) (.cells #[.int .i64 pS, .slice aS S.length cS] 26))).size) (.cells #[.slice av v.length cv, .slice au u.length cu] 24))).size) B3.out) tS) (Nat.le_trans tS ((below_step (((Below.refl _ _).alloc (Nat.le_refl _) (.cells #[.int .i64 pS, .slice aS S.length cS] 26)).alloc (show w.heap.size ≤ (w.alloc (.cells #[.int .i64 pS, .slice aS S.length cS] 26)).heap.size from (((Below.refl _ _).alloc (Nat.le_refl _) (.cells #[.int .i64 pS, .slice aS S.length cS] 26))).size) (.cells #[.slice av v.length cv, .slice au u.length cu] 24)) (show w.heap.size ≤ ((w.alloc (.cells #[.int .i64 pS, .slice aS S.length cS] 26)).alloc (.cells #[.slice av v.length cv, .slice au u.length cu] 24)).heap.size from ((((Below.refl _ _).alloc (Nat.le_refl _) (.cells #[.int .i64 pS, .slice aS S.length cS] 26)).alloc (show w.heap.size ≤ (w.alloc (.cells #[.int .i64 pS, .slice aS S.length cS] 26)).heap.size from (((Below.refl _ _).alloc (Nat.le_refl _) (.cells #[.int .i64 pS, .slice aS S.length cS] 26))).size) (.cells #[.slice av v.length cv, .slice au u.length cu] 24))).size) B3.out)).size) (Hv.out.below (below_step (((Below.refl _ _).alloc (Nat.le_refl _) (.cells #[.int .i64 pS, .slice aS S.length cS] 26)).alloc (show w.heap.size ≤ (w.alloc (.cells #[.int .i64 pS, .slice aS S.length cS] 26)).heap.size from (((Below.refl _ _).alloc (Nat.le_refl _) (.cells #[.int .i64 pS, .slice aS S.length cS] 26))).size) (.cells #[.slice av v.length cv, .slice au u.length cu] 24)) (show w.heap.size ≤ ((w.alloc (.cells #[.int .i64 pS, .slice aS S.length cS] 26)).alloc (.cells #[.slice av v.length cv, .slice au u.length cu] 24)).heap.size from ((((Below.refl _ _).alloc (Nat.le_refl _) (.cells #[.int .i64 pS, .slice aS S.length cS] 26)).alloc (show w.heap.size ≤ (w.alloc (.cells #[.int .i64 pS, .slice aS S.length cS] 26)).heap.size from (((Below.refl _ _).alloc (Nat.le_refl _) (.cells #[.int .i64 pS, .slice aS S.length cS] 26))).size) (.cells #[.slice av v.length cv, .slice au u.length cu] 24))).size) B3.out) tv) (Nat.le_trans tv ((below_step (((Below.refl _ _).alloc (Nat.le_refl _) (.cells #[.int .i64 pS, .slice aS S.length cS] 26)).alloc (show w.heap.size ≤ (w.alloc (.cells #[.int .i64 pS, .slice aS S.length cS] 26)).heap.size from (((Below.refl _ _).alloc (Nat.le_refl _) (.cells #[.int .i64 pS, .slice aS S.length cS] 26))).size) (.cells #[.slice av v.length cv, .slice au u.length cu] 24)) (show w.heap.size ≤ ((w.alloc (.cells #[.int .i64 pS, .slice aS S.length cS] 26)).alloc (.cells #[.slice av v.length cv, .slice au u.length cu] 24)).heap.size from ((((Below.refl _ _).alloc (Nat.le_refl _) (.cells #[.int .i64 pS, .slice aS S.length cS] 26)).alloc (show w.heap.size ≤ (w.alloc (.cells #[.int .i64 pS, .slice aS S.length cS] 26)).heap.size from (((Below.refl _ _).alloc (Nat.le_refl _) (.cells #[.int .i64 pS, .slice aS S.length cS] 26))).size) (.cells #[.slice av v.length cv, .slice au u.length cu] 24))).size) B3.out)).size) (Hu.out.below (below_step (((Below.refl _ _).alloc (Nat.le_refl _) (.cells #[.int .i64 pS, .slice aS S.length cS] 26)).alloc (show w.heap.size ≤ (w.alloc (.cells #[.int .i64 pS, .slice aS S.length cS] 26)).heap.size from (((Below.refl _ _).alloc (Nat.le_refl _) (.cells #[.int .i64 pS, .slice aS S.length cS] 26))).size) (.cells #[.slice av v.length cv, .slice au u.length cu] 24)) (show w.heap.size ≤ ((w.alloc (.cells #[.int .i64 pS, .slice aS S.length cS] 26)).alloc (.cells #[.slice av v.length cv, .slice au u.length cu] 24)).heap.size from ((((Below.refl _ _).alloc (Nat.le_refl _) (.cells #[.int .i64 pS, .slice aS S.length cS] 26)).alloc (show w.heap.size ≤ (w.alloc (.cells #[.int .i64 pS, .slice aS S.length cS] 26)).heap.size from (((Below.refl _ _).alloc (Nat.le_refl _) (.cells #[.int .i64 pS, .slice aS S.length cS] 26))).size) (.cells #[.slice av v.length cv, .slice au u.length cu] 24))).size) B3.out) tu) (Nat.le_trans tu ((below_step (((Below.refl _ _).alloc (Nat.le_refl _) (.cells #[.int .i64 pS, .slice aS S.length cS] 26)).alloc (show w.heap.size ≤ (w.alloc (.cells #[.int .i64 pS, .slice aS S.length cS] 26)).heap.size from (((Below.refl _ _).alloc (Nat.le_refl _) (.cells #[.int .i64 pS, .slice aS S.length cS] 26))).size) (.cells #[.slice av v.length cv, .slice au u.length cu] 24)) (show w.heap.size ≤ ((w.alloc (.cells #[.int .i64 pS, .slice aS S.length cS] 26)).alloc (.cells #[.slice av v.length cv, .slice au u.length cu] 24)).heap.size from ((((Below.refl _ _).alloc (Nat.le_refl _) (.cells #[.int .i64 pS, .slice aS S.length cS] 26)).alloc (show w.heap.size ≤ (w.alloc (.cells #[.int .i64 pS, .slice aS S.length cS] 26)).heap.size from (((Below.refl _ _).alloc (Nat.le_refl _) (.cells #[.int .i64 pS, .slice aS S.length cS] 26))).size) (.cells #[.slice av v.length cv, .slice au u.length cu] 24))).size) B3.out)).size) HI.out HV1.out HV2.out).mono ?_); rintro e w4 ⟨rfl, b4⟩; have B4 := Lib.hid b4; have K4_0_0 := (b4.cell (p := ⟨w.heap.size, 0, none⟩) (Nat.lt_of_lt_of_le (show w.heap.size < (w.alloc (.cells #[.int .i64 pS, .slice aS S.length cS] 26)).heap.size by simp) (Nat.le_trans (Nat.le_trans (Nat.le_refl _) (size_alloc (w.alloc (.cells #[.int .i64 pS, .slice aS S.length cS] 26)) (.cells #[.slice av v.length cv, .slice au u.length cu] 24))) B3.out.size))).trans K3_0_0; clear K3_0_0; have K4_0_1 := (b4.cell (p := ⟨w.heap.size, 1, none⟩) (Nat.lt_of_lt_of_le (show w.heap.size < (w.alloc (.cells #[.int .i64 pS, .slice aS S.length cS] 26)).heap.size by simp) (Nat.le_trans (Nat.le_trans (Nat.le_refl _) (size_alloc (w.alloc (.cells #[.int .i64 pS, .slice aS S.length cS] 26)) (.cells #[.slice av v.length cv, .slice au u.length cu] 24))) B3.out.size))).trans K3_0_1; clear K3_0_1; clear b4))
    go_ret2
    exact ⟨by rw [HV.out, HC.out]; rfl, (below_step (below_step (((Below.refl _ _).alloc (Nat.le_refl _) (.cells #[.int .i64 pS, .slice aS S.length cS] 26)).alloc (show w.heap.size ≤ (w.alloc (.cells #[.int .i64 pS, .slice aS S.length cS] 26)).heap.size from (((Below.refl _ _).alloc (Nat.le_refl _) (.cells #[.int .i64 pS, .slice aS S.length cS] 26))).size) (.cells #[.slice av v.length cv, .slice au u.length cu] 24)) (show w.heap.size ≤ ((w.alloc (.cells #[.int .i64 pS, .slice aS S.length cS] 26)).alloc (.cells #[.slice av v.length cv, .slice au u.length cu] 24)).heap.size from ((((Below.refl _ _).alloc (Nat.le_refl _) (.cells #[.int .i64 pS, .slice aS S.length cS] 26)).alloc (show w.heap.size ≤ (w.alloc (.cells #[.int .i64 pS, .slice aS S.length cS] 26)).heap.size from (((Below.refl _ _).alloc (Nat.le_refl _) (.cells #[.int .i64 pS, .slice aS S.length cS] 26))).size) (.cells #[.slice av v.length cv, .slice au u.length cu] 24))).size) B3.out) (show w.heap.size ≤ w3.heap.size from ((below_step (((Below.refl _ _).alloc (Nat.le_refl _) (.cells #[.int .i64 pS, .slice aS S.length cS] 26)).alloc (show w.heap.size ≤ (w.alloc (.cells #[.int .i64 pS, .slice aS S.length cS] 26)).heap.size from (((Below.refl _ _).alloc (Nat.le_refl _) (.cells #[.int .i64 pS, .slice aS S.length cS] 26))).size) (.cells #[.slice av v.length cv, .slice au u.length cu] 24)) (show w.heap.size ≤ ((w.alloc (.cells #[.int .i64 pS, .slice aS S.length cS] 26)).alloc (.cells #[.slice av v.length cv, .slice au u.length cu] 24)).heap.size from ((((Below.refl _ _).alloc (Nat.le_refl _) (.cells #[.int .i64 pS, .slice aS S.length cS] 26)).alloc (show w.heap.size ≤ (w.alloc (.cells #[.int .i64 pS, .slice aS S.length cS] 26)).heap.size from (((Below.refl _ _).alloc (Nat.le_refl _) (.cells #[.int .i64 pS, .slice aS S.length cS] 26))).size) (.cells #[.slice av v.length cv, .slice au u.length cu] 24))).size) B3.out)).size) B4.out)⟩
  · have HI := Lib.hid hi
    have HC := Lib.hid hc
    have HV : Hid (pairV pS S v u = 0) := by show _ = _; unfold pairV; rw [if_neg (by rw [hc]; decide)]
    clear hi hc ha
    go_enter Try.func9, Try.ntmps9
    go_wp2_with (first | (go_at_call 24; (with_reducible refine (checkV2 pS aS S cS loS tpS av au v u cv cu lov tpv lou tpu (w.heap.size + 1) _ _ _ (by simp) (HS.out.below ((Below.refl _ _).alloc (Nat.le_refl _) (.cells #[.int .i64 pS, .slice aS S.length cS] 26)) tS) (Nat.le_trans tS (((Below.refl _ _).alloc (Nat.le_refl _) (.cells #[.int .i64 pS, .slice aS S.length cS] 26))).size) sS (Hv.out.below ((Below.refl _ _).alloc (Nat.le_refl _) (.cells #[.int .i64 pS, .slice aS S.length cS] 26)) tv) (Nat.le_trans tv (((Below.refl _ _).alloc (Nat.le_refl _) (.cells #[.int .i64 pS, .slice aS S.length cS] 26))).size) sv (Hu.out.below ((Below.refl _ _).alloc (Nat.le_refl _) (.cells #[.int .i64 pS, .slice aS S.length cS] 26)) tu) (Nat.le_trans tu (((Below.refl _ _).alloc (Nat.le_refl _) (.cells #[.int .i64 pS, .slice aS S.length cS] 26))).size) su).mono ?_); rintro e w3 ⟨rfl, b3⟩; rw [HC.out]; have B3 := Lib.hid b3; have K3_0_0 := (b3.cell (p := ⟨w.heap.size, 0, none⟩) (Nat.lt_of_lt_of_le (show w.heap.size < (w.alloc (.cells #[.int .i64 pS, .slice aS S.length cS] 26)).heap.size by simp) (Nat.le_trans (Nat.le_refl _) (size_alloc (w.alloc (.cells #[.int .i64 pS, .slice aS S.length cS] 26)) (.cells #[.slice av v.length cv, .slice au u.length cu] 24))))).trans (show ((w.alloc (.cells #[.int .i64 pS, .slice aS S.length cS] 26)).alloc (.cells #[.slice av v.length cv, .slice au u.length cu] 24)).cell? ⟨w.heap.size, 0, none⟩ = some (.int .i64 pS) from (World.cell?_alloc_old _ _ _ (by simp)).trans (by simp [go_sem])); have K3_0_1 := (b3.cell (p := ⟨w.heap.size, 1, none⟩) (Nat.lt_of_lt_of_le (show w.heap.size < (w.alloc (.cells #[.int .i64 pS, .slice aS S.length cS] 26)).heap.size by simp) (Nat.le_trans (Nat.le_refl _) (size_alloc (w.alloc (.cells #[.int .i64 pS, .slice aS S.length cS] 26)) (.cells #[.slice av v.length cv, .slice au u.length cu] 24))))).trans (show ((w.alloc (.cells #[.int .i64 pS, .slice aS S.length cS] 26)).alloc (.cells #[.slice av v.length cv, .slice au u.length cu] 24)).cell? ⟨w.heap.size, 1, none⟩ = some (.slice aS S.length cS) from (World.cell?_alloc_old _ _ _ (by simp)).trans (by simp [go_sem])); clear b3))
    go_ret2
    exact ⟨by rw [HV.out, HC.out]; rfl, (below_step (((Below.refl _ _).alloc (Nat.le_refl _) (.cells #[.int .i64 pS, .slice aS S.length cS] 26)).alloc (show w.heap.size ≤ (w.alloc (.cells #[.int .i64 pS, .slice aS S.length cS] 26)).heap.size from (((Below.refl _ _).alloc (Nat.le_refl _) (.cells #[.int .i64 pS, .slice aS S.length cS] 26))).size) (.cells #[.slice av v.length cv, .slice au u.length cu] 24)) (show w.heap.size ≤ ((w.alloc (.cells #[.int .i64 pS, .slice aS S.length cS] 26)).alloc (.cells #[.slice av v.length cv, .slice au u.length cu] 24)).heap.size from ((((Below.refl _ _).alloc (Nat.le_refl _) (.cells #[.int .i64 pS, .slice aS S.length cS] 26)).alloc (show w.heap.size ≤ (w.alloc (.cells #[.int .i64 pS, .slice aS S.length cS] 26)).heap.size from (((Below.refl _ _).alloc (Nat.le_refl _) (.cells #[.int .i64 pS, .slice aS S.length cS] 26))).size) (.cells #[.slice av v.length cv, .slice au u.length cu] 24))).size) B3.out)⟩

end Go.Proofs.Ytdfkpbmccmbjmaa

namespace Go.Proofs.Ytdfkpbmccmbjmaa
open Go.RowKit
set_option linter.unusedVariables false

def listB (p : Int) (S : List Int) (m : List (List Int)) : Bool := m.all (isVec p S.length) && decide (m.length ≤ 16)
def codeL (p : Int) (S : List Int) (m : List (List Int)) : Int := if isSp p S = true then (if listB p S m = true then 0 else 2) else 1
theorem codeL_sp {p : Int} {S : List Int} {m : List (List Int)} (h : isSp p S = false) : codeL p S m = 1 := if_neg (by simp [h])
theorem codeL_ok {p : Int} {S : List Int} {m : List (List Int)} (h : isSp p S = true) (k : listB p S m = true) : codeL p S m = 0 := by unfold codeL; rw [if_pos h, if_pos k]
theorem codeL_no {p : Int} {S : List Int} {m : List (List Int)} (h : isSp p S = true) (k : listB p S m = false) : codeL p S m = 2 := by unfold codeL; rw [if_pos h, if_neg (by simp [k])]
theorem codeL_cases (p : Int) (S : List Int) (m : List (List Int)) : (isSp p S = false ∧ codeL p S m = 1) ∨ (isSp p S = true ∧ listB p S m = true ∧ codeL p S m = 0) ∨ (isSp p S = true ∧ listB p S m = false ∧ codeL p S m = 2) := by
  by_cases h : isSp p S = true
  · by_cases k : listB p S m = true
    · exact .inr (.inl ⟨h, k, codeL_ok h k⟩)
    · have k' : listB p S m = false := by simpa using k
      exact .inr (.inr ⟨h, k', codeL_no h k'⟩)
  · have h' : isSp p S = false := by simpa using h
    exact .inl ⟨h', codeL_sp h'⟩
/-- What a list of vectors is. -/
theorem listB_iff {p : Int} {S : List Int} {m : List (List Int)} (h : listB p S m = true) : m.length ≤ 16 ∧ ∀ i, i < m.length → isVec p S.length (rw' m i) = true := by
  unfold listB at h
  rw [Bool.and_eq_true, List.all_eq_true] at h
  exact ⟨of_decide_eq_true h.2, fun i hi => h.1 _ (mem_row hi)⟩

set_option maxRecDepth 100000 in
set_option maxHeartbeats 3200000 in
theorem l03List_any (p : Int) (aS : Option Addr) (S : List Int) (cS : Nat) (am : Option Addr) (m : List (List Int)) (cm lom tpm : Nat) (w : World) (hp : prm p = true) (sS : S.length ≤ 1048576)
    (hm : MatIn lom tpm w am m) (tm : tpm ≤ w.heap.size) (sm : m.length ≤ 1048576) (sr : ∀ i, i < m.length → (rw' m i).length ≤ 1048576) :
    Calls Try.prog 21 #[.agg #[.int .i64 p, .slice aS S.length cS], .slice am m.length cm] w fun e w' => e = .returned (.bool (listB p S m)) ∧ Below w.heap.size w w' := by
  have HM := Lib.hid hm
  have HP := Lib.hid hp
  have HT := Lib.hid sr
  clear hm hp sr
  go_enter Try.func21, Try.ntmps21
  go_wp2
  go_loopw [5] (fun t wr => ∃ i : Nat, i ≤ m.length ∧ t = .int .i64 i ∧ (m.take i).all (isVec p S.length) = true ∧ wr.cell? ⟨w.heap.size, 0, none⟩ = some (.int .i64 p) ∧ wr.cell? ⟨w.heap.size, 1, none⟩ = some (.slice aS S.length cS) ∧ Below w.heap.size w wr ∧ w.heap.size < wr.heap.size) (fun t _ => m.length - (intOf t).toNat)
  case atStart => exact ⟨0, Nat.zero_le _, rfl, rfl, nw0 w _ _ _, nw1 w _ _ _, below_alloc w _, lt_alloc w _⟩
  case round =>
    obtain ⟨i, hi, rfl, hA, k0, k1, hbel, hlw⟩ := hrel
    have HA := Lib.hid hA
    have HB := Lib.hid hbel
    clear hA
    by_cases hlt : i < m.length
    · obtain ⟨b1, o1, r, c1, ha1, _, hb1, hr, hrow⟩ := (HM.out.below hbel tm).row hlt
      subst ha1
      have hl := HT.out i hlt
      have hwz := hbel.size
      have HR := Lib.hid (hrow.below (below_drew wr) (Nat.le_trans tm hwz))
      have HTD : Hid (tpm ≤ wr.drew.heap.size) := Nat.le_trans tm hwz
      have hi1 : (i : Int) < (m.length : Int) := by omega
      have hb1w : b1 < wr.heap.size := Nat.lt_of_lt_of_le hb1 (Nat.le_trans tm hwz)
      clear hrow hbel
      by_cases hv : isVec p S.length (rw' m i) = true
      · have HV := Lib.hid hv
        clear hv
        go_wp2
        go_region_held3 (fun w' => w'.cell? ⟨w.heap.size, 0, none⟩ = some (.int .i64 p) ∧ w'.cell? ⟨w.heap.size, 1, none⟩ = some (.slice aS S.length cS) ∧ w'.cell? ⟨b1, o1 + i, none⟩ = some (.slice r (rw' m i).length c1)) (first | go_keep | exact SS3.out) (first | (go_at_call 40; (with_reducible refine (l03Vector_any p aS S cS r (rw' m i) c1 lom tpm wr.drew HP.out sS HR.out HTD.out hl).mono ?_); rintro e w3 ⟨rfl, hb3⟩; rw [HV.out]; have HB3 : Hid (Below wr.heap.size wr w3) := (below_drew wr).trans hb3; have SS3 := Lib.hid (And.intro ((HB3.out.cell (p := ⟨w.heap.size, 0, none⟩) hlw).trans k0) (And.intro ((HB3.out.cell (p := ⟨w.heap.size, 1, none⟩) hlw).trans k1) ((HB3.out.cell (p := ⟨b1, o1 + i, none⟩) hb1w).trans hr))); clear hb3))
        go_wp2
        go_roundw
        case rel => exact ⟨i + 1, by omega, by go_num, by rw [all_take_vec hlt, HA.out, HV.out]; rfl, SS3.out.1, SS3.out.2.1, HB.out.trans (HB3.out.mono hwz), Nat.lt_of_lt_of_le hlw HB3.out.size⟩
        case measure => simp [intOf]; omega
      · have HV : Hid (isVec p S.length (rw' m i) = false) := by show _ = _; simpa using hv
        have HCV : Hid (listB p S m = false) := by show _ = _; unfold listB; rw [all_false_vec hlt HV.out]; rfl
        clear hv
        go_wp2
        go_region_held3 (fun w' => w'.cell? ⟨w.heap.size, 0, none⟩ = some (.int .i64 p) ∧ w'.cell? ⟨w.heap.size, 1, none⟩ = some (.slice aS S.length cS) ∧ w'.cell? ⟨b1, o1 + i, none⟩ = some (.slice r (rw' m i).length c1)) (first | go_keep | exact SS3.out) (first | (go_at_call 40; (with_reducible refine (l03Vector_any p aS S cS r (rw' m i) c1 lom tpm wr.drew HP.out sS HR.out HTD.out hl).mono ?_); rintro e w3 ⟨rfl, hb3⟩; rw [HV.out]; have HB3 : Hid (Below wr.heap.size wr w3) := (below_drew wr).trans hb3; have SS3 := Lib.hid (And.intro ((HB3.out.cell (p := ⟨w.heap.size, 0, none⟩) hlw).trans k0) (And.intro ((HB3.out.cell (p := ⟨w.heap.size, 1, none⟩) hlw).trans k1) ((HB3.out.cell (p := ⟨b1, o1 + i, none⟩) hb1w).trans hr))); clear hb3))
        go_wp2
        go_ret
        exact ⟨by rw [HCV.out]; rfl, HB.out.trans (HB3.out.mono hwz)⟩
    · have HAll : Hid (m.all (isVec p S.length) = true) := by have h := HA.out; rwa [List.take_of_length_le (by omega)] at h
      by_cases h16 : m.length ≤ 16
      · have e1 : (m.length : Int) ≤ 16 := by omega
        have HCV : Hid (listB p S m = true) := by show _ = _; unfold listB; rw [HAll.out]; simp [h16]
        go_wp2
        go_ret
        exact ⟨by rw [HCV.out]; rfl, HB.out⟩
      · have e1 : ¬ (m.length : Int) ≤ 16 := by omega
        have HCV : Hid (listB p S m = false) := by show _ = _; unfold listB; rw [HAll.out]; simp; omega
        go_wp2
        go_ret
        exact ⟨by rw [HCV.out]; rfl, HB.out⟩

theorem checkList_any (pS : Int) (aS : Option Addr) (S : List Int) (cS loS tpS : Nat) (am : Option Addr) (m : List (List Int)) (cm lom tpm : Nat) (w : World)
    (hS : RowIn loS tpS w aS S) (tS : tpS ≤ w.heap.size) (sS : S.length ≤ 1048576) (hm : MatIn lom tpm w am m) (tm : tpm ≤ w.heap.size) (sm : m.length ≤ 1048576) (sr : ∀ i, i < m.length → (rw' m i).length ≤ 1048576) :
    Calls Try.prog 16 #[.agg #[.int .i64 pS, .slice aS S.length cS], .slice am m.length cm] w fun e w' => e = .returned (.int .i64 (codeL pS S m)) ∧ Below w.heap.size w w' := by
  have HS := Lib.hid hS
  have HM := Lib.hid hm
  have HT := Lib.hid sr
  have HBB := Lib.hid (below_alloc w (.cells #[.int .i64 pS, .slice aS S.length cS] 26))
  have HSA := Lib.hid (hS.below HBB.out tS)
  have HMA := Lib.hid (hm.below HBB.out tm)
  have HZ := Lib.hid HBB.out.size
  clear hS hm sr
  rcases codeVs_cases pS S m with ⟨hi, hc⟩ | ⟨hi, ha, hc⟩ | ⟨hi, ha, hc⟩
  · have HC := Lib.hid hc
    have HV := Lib.hid (codeL_sp (m := m) hi)
    clear hi hc
    go_enter Try.func16, Try.ntmps16
    go_wp2_with (go_at_call 24; (with_reducible refine (checkVectors_any pS aS S cS loS tpS am m cm lom tpm _ HSA.out (Nat.le_trans tS HZ.out) sS HMA.out (Nat.le_trans tm HZ.out) sm HT.out).mono ?_); rintro e w2 ⟨rfl, hb⟩; rw [HC.out]; have HB := Lib.hid hb; clear hb)
    go_ret
    exact ⟨by rw [HV.out]; rfl, HBB.out.trans (HB.out.mono HZ.out)⟩
  · by_cases h16 : m.length ≤ 16
    · have e1 : (m.length : Int) ≤ 16 := by omega
      have HC := Lib.hid hc
      have HV := Lib.hid (codeL_ok (m := m) hi (by unfold listB; rw [ha]; simp [h16]))
      clear hi hc ha
      go_enter Try.func16, Try.ntmps16
      go_wp2_with (go_at_call 24; (with_reducible refine (checkVectors_any pS aS S cS loS tpS am m cm lom tpm _ HSA.out (Nat.le_trans tS HZ.out) sS HMA.out (Nat.le_trans tm HZ.out) sm HT.out).mono ?_); rintro e w2 ⟨rfl, hb⟩; rw [HC.out]; have HB := Lib.hid hb; clear hb)
      go_ret
      exact ⟨by rw [HV.out]; rfl, HBB.out.trans (HB.out.mono HZ.out)⟩
    · have e1 : ¬ (m.length : Int) ≤ 16 := by omega
      have e2 : (16 : Int) < (m.length : Int) := by omega
      have HC := Lib.hid hc
      have HV := Lib.hid (codeL_no (m := m) hi (by unfold listB; rw [ha]; simp; omega))
      clear hi hc ha
      go_enter Try.func16, Try.ntmps16
      go_wp2_with (go_at_call 24; (with_reducible refine (checkVectors_any pS aS S cS loS tpS am m cm lom tpm _ HSA.out (Nat.le_trans tS HZ.out) sS HMA.out (Nat.le_trans tm HZ.out) sm HT.out).mono ?_); rintro e w2 ⟨rfl, hb⟩; rw [HC.out]; have HB := Lib.hid hb; clear hb)
      go_ret
      exact ⟨by rw [HV.out]; rfl, HBB.out.trans (HB.out.mono HZ.out)⟩
  · have HC := Lib.hid hc
    have HV := Lib.hid (codeL_no (m := m) hi (by unfold listB; rw [ha]; rfl))
    clear hi hc ha
    go_enter Try.func16, Try.ntmps16
    go_wp2_with (go_at_call 24; (with_reducible refine (checkVectors_any pS aS S cS loS tpS am m cm lom tpm _ HSA.out (Nat.le_trans tS HZ.out) sS HMA.out (Nat.le_trans tm HZ.out) sm HT.out).mono ?_); rintro e w2 ⟨rfl, hb⟩; rw [HC.out]; have HB := Lib.hid hb; clear hb)
    go_ret
    exact ⟨by rw [HV.out]; rfl, HBB.out.trans (HB.out.mono HZ.out)⟩

end Go.Proofs.Ytdfkpbmccmbjmaa
