/-
  Checks of multivectors, in the program and in the model.
  Conditions: the lists are nil or rows of known cells, of at most 1048576 numbers.
  Checks of multivectors in the model; IsMultivector in both.
  Conditions: the lists are nil or rows of known cells, of at most 1048576 numbers.
  The terms of a multivector as a map of the program's, and what is still to come of them when they are ranged over in any order.
  No conditions.
-/
import Derived.Test.YtijklpcelbnnjaaGreatQk8
import Derived.Test.YtijklpcelbnnjaaGreatQk4
import Derived.Maps.RangeWalk
namespace Go.Proofs.YtijklpcelbnnjaaGreat
open Go.RowKit
set_option linter.unusedVariables false

set_option maxHeartbeats 800000 in
theorem blades_any (p : Int) (a : Option Addr) (S : List Int) (c : Nat) (w : World) (h : S.length ≤ 6) :
    Calls Tryz.prog 74 #[.agg #[.int .i64 p, .slice a S.length c]] w fun e w' => e = .returned (.int .i64 (bl S)) ∧ Below w.heap.size w w' := by
  have hb : S.length = 0 ∨ S.length = 1 ∨ S.length = 2 ∨ S.length = 3 ∨ S.length = 4 ∨ S.length = 5 ∨ S.length = 6 := by omega
  unfold bl
  obtain ⟨n, hn⟩ : ∃ n, n = S.length := ⟨_, rfl⟩
  rw [← hn] at hb ⊢
  clear hn h
  rcases hb with rfl | rfl | rfl | rfl | rfl | rfl | rfl <;>
  · go_enter Tryz.func74, Tryz.ntmps74
    go_wp2
    go_ret
    exact ⟨by first | rfl | simp, by ((repeat' (first | with_reducible exact Below.refl _ _ | (with_reducible refine Below.setCell ?_ ?_ _) | (with_reducible refine Below.alloc ?_ ?_ _) | (with_reducible refine Below.drew ?_))); all_goals (first | (simp; done) | omega | (simp; omega)))⟩
set_option maxHeartbeats 800000 in
theorem l04Size_any (p : Int) (a : Option Addr) (S : List Int) (c : Nat) (w : World) (h : S.length ≤ 6) :
    Calls Tryz.prog 47 #[.agg #[.int .i64 p, .slice a S.length c]] w fun e w' => e = .returned (.int .i64 (bl S)) ∧ Below w.heap.size w w' := by
  have hb : S.length = 0 ∨ S.length = 1 ∨ S.length = 2 ∨ S.length = 3 ∨ S.length = 4 ∨ S.length = 5 ∨ S.length = 6 := by omega
  unfold bl
  obtain ⟨n, hn⟩ : ∃ n, n = S.length := ⟨_, rfl⟩
  rw [← hn] at hb ⊢
  clear hn h
  rcases hb with rfl | rfl | rfl | rfl | rfl | rfl | rfl <;>
  · go_enter Tryz.func47, Tryz.ntmps47
    go_wp2
    go_ret
    exact ⟨by first | rfl | simp, by ((repeat' (first | with_reducible exact Below.refl _ _ | (with_reducible refine Below.setCell ?_ ?_ _) | (with_reducible refine Below.alloc ?_ ?_ _) | (with_reducible refine Below.drew ?_))); all_goals (first | (simp; done) | omega | (simp; omega)))⟩

set_option maxRecDepth 100000 in
set_option maxHeartbeats 1600000 in
theorem checkMultivectors_any (p : Int) (aS : Option Addr) (S : List Int) (cS loS tpS : Nat) (am : Option Addr) (m : List (List Int)) (cm lom tpm : Nat) (w : World)
    (hS : RowIn loS tpS w aS S) (tS : tpS ≤ w.heap.size) (sS : S.length ≤ 1048576) (hm : MatIn lom tpm w am m) (tm : tpm ≤ w.heap.size) (sm : m.length ≤ 1048576) (sr : ∀ i, i < m.length → (rw' m i).length ≤ 1048576) :
    Calls Tryz.prog 40 #[.agg #[.int .i64 p, .slice aS S.length cS], .slice am m.length cm] w fun e w' => e = .returned (.int .i64 (codeMv p S m)) ∧ Below w.heap.size w w' := by
  have HS := Lib.hid hS
  have HM := Lib.hid hm
  have HT := Lib.hid sr
  clear hS hm sr
  by_cases h : isSp p S = true
  · have HI := Lib.hid h
    have HC := Lib.hid (code1_yes h)
    have h6 := (isSp_iff.1 h).hi
    have hbl := bl_le h6
    clear h
    go_enter Tryz.func40, Tryz.ntmps40
    go_wp2_with (go_at_call 72; (with_reducible refine (checkSp1 p aS S cS loS tpS _ (w.heap.size + 1) _ _ (by simp) (HS.out.below (below_alloc _ _) tS) (by simp; omega) sS).mono ?_); rintro e w2 ⟨rfl, hb2⟩; rw [HC.out]; have HB := Lib.hid hb2; clear hb2)
    have HBW : Hid (Below w.heap.size w w2) := below_step (((below_alloc _ _)).alloc (by simp) _) (by simp; omega) HB.out
    have HC0 := Lib.hid ((HB.out.cell (p := ⟨w.heap.size, 0, none⟩) (by simp; omega)).trans ((World.cell?_alloc_old _ _ _ (by simp)).trans (nw0 w _ _ _)))
    have HC1 := Lib.hid ((HB.out.cell (p := ⟨w.heap.size, 1, none⟩) (by simp; omega)).trans ((World.cell?_alloc_old _ _ _ (by simp)).trans (nw1 w _ _ _)))
    have hwz := HBW.out.size
    have hwlt : w.heap.size < w2.heap.size := by have := HB.out.size; simp at this; omega
    have HM2 := Lib.hid (HM.out.below HBW.out tm)
    clear HB
    go_loopw [16] (fun t wr => ∃ i : Nat, i ≤ m.length ∧ t = .int .i64 i ∧ (m.take i).all (isMv p S) = true ∧ Below w2.heap.size w2 wr) (fun t _ => m.length - (intOf t).toNat)
    case atStart => exact ⟨0, Nat.zero_le _, rfl, rfl, Below.refl _ _⟩
    case round =>
      obtain ⟨i, hi, rfl, hA, hbel⟩ := hrel
      have HA := Lib.hid hA
      have HBEL := Lib.hid hbel
      have hwz2 := hbel.size
      have l0 : w.heap.size < wr.heap.size := by omega
      have hc0 := (hbel.cell (p := ⟨w.heap.size, 0, none⟩) hwlt).trans HC0.out
      have hc1 := (hbel.cell (p := ⟨w.heap.size, 1, none⟩) hwlt).trans HC1.out
      clear hA
      by_cases hlt : i < m.length
      · obtain ⟨b1, o1, r, c1, ha1, _, hb1, hr, hrow⟩ := (HM2.out.below hbel (by omega)).row hlt
        subst ha1
        have hl := HT.out i hlt
        have HR := Lib.hid hrow
        have hi1 : (i : Int) < (m.length : Int) := by omega
        clear hrow hbel
        by_cases hv : isMv p S (rw' m i) = true
        · have HV := Lib.hid hv
          have HVV : Hid ((decide ((rw' m i).length = bl S) && (rw' m i).all (inr p)) = true) := hv
          clear hv
          go_wp2
          go_region_held3 (fun w' => w'.cell? ⟨w.heap.size, 0, none⟩ = some (.int .i64 p) ∧ w'.cell? ⟨w.heap.size, 1, none⟩ = some (.slice aS S.length cS)) (first | go_keep | exact SS3.out) (first | (go_at_call 74; (with_reducible refine (blades_any p aS S cS wr.drew h6).mono ?_); rintro e w3 ⟨rfl, hb3⟩; have HB3 : Hid (Below wr.heap.size wr w3) := (below_drew wr).trans hb3; have SS3 := Lib.hid (And.intro ((HB3.out.cell (p := ⟨w.heap.size, 0, none⟩) l0).trans hc0) ((HB3.out.cell (p := ⟨w.heap.size, 1, none⟩) l0).trans hc1)); clear hb3) | (go_at_call 73; (with_reducible refine (isVector_any p r (rw' m i) c1 (bl S) lom tpm _ (isSp_iff.1 HI.out).prime (HR.out.below HB3.out (by omega)) hl (by omega)).mono ?_); rintro e w4 ⟨rfl, rfl⟩; rw [HVV.out]))
          go_wp2
          go_roundw
          case rel => exact ⟨i + 1, by omega, by go_num, by rw [all_take_vec hlt, HA.out, HV.out]; rfl, below_step HBEL.out hwz2 HB3.out⟩
          case measure => simp [intOf]; omega
        · have HV : Hid (isMv p S (rw' m i) = false) := by show _ = _; simpa using hv
          have HVV : Hid ((decide ((rw' m i).length = bl S) && (rw' m i).all (inr p)) = false) := HV.out
          have HCV := Lib.hid (codeMv_no HI.out (all_false_vec hlt HV.out))
          clear hv
          go_wp2
          go_region_held3 (fun w' => w'.cell? ⟨w.heap.size, 0, none⟩ = some (.int .i64 p) ∧ w'.cell? ⟨w.heap.size, 1, none⟩ = some (.slice aS S.length cS)) (first | go_keep | exact SS3.out) (first | (go_at_call 74; (with_reducible refine (blades_any p aS S cS wr.drew h6).mono ?_); rintro e w3 ⟨rfl, hb3⟩; have HB3 : Hid (Below wr.heap.size wr w3) := (below_drew wr).trans hb3; have SS3 := Lib.hid (And.intro ((HB3.out.cell (p := ⟨w.heap.size, 0, none⟩) l0).trans hc0) ((HB3.out.cell (p := ⟨w.heap.size, 1, none⟩) l0).trans hc1)); clear hb3) | (go_at_call 73; (with_reducible refine (isVector_any p r (rw' m i) c1 (bl S) lom tpm _ (isSp_iff.1 HI.out).prime (HR.out.below HB3.out (by omega)) hl (by omega)).mono ?_); rintro e w4 ⟨rfl, rfl⟩; rw [HVV.out]))
          go_wp2
          go_ret
          exact ⟨by rw [HCV.out]; rfl, HBW.out.trans ((below_step HBEL.out hwz2 HB3.out).mono hwz)⟩
      · have HCV : Hid (codeMv p S m = 0) := codeMv_ok HI.out (by have h := HA.out; rwa [List.take_of_length_le (by omega)] at h)
        clear hbel
        go_wp2
        go_ret
        exact ⟨by rw [HCV.out]; rfl, HBW.out.trans (HBEL.out.mono hwz)⟩
  · have HI : Hid (isSp p S = false) := by show _ = _; simpa using h
    have HC := Lib.hid (code1_no HI.out)
    have HCV : Hid (codeMv p S m = 1) := codeMv_sp HI.out
    clear h
    go_enter Tryz.func40, Tryz.ntmps40
    go_wp2_with (go_at_call 72; (with_reducible refine (checkSp1 p aS S cS loS tpS _ (w.heap.size + 1) _ _ (by simp) (HS.out.below (below_alloc _ _) tS) (by simp; omega) sS).mono ?_); rintro e w2 ⟨rfl, hb2⟩; rw [HC.out]; have HB := Lib.hid hb2; clear hb2)
    go_ret
    exact ⟨by rw [HCV.out]; rfl, below_step (((below_alloc _ _)).alloc (by simp) _) (by simp; omega) HB.out⟩

theorem mv_two {W : World} {lo tp lo' tp' cv cu b : Nat} {a a' : Option Addr} {v u : List Int} (hb' : b = W.heap.size) (hv : RowIn lo tp W a v) (tv : tp ≤ W.heap.size) (hu : RowIn lo' tp' W a' u) (tu : tp' ≤ W.heap.size) (T : TypeId) :
    MatIn 0 (W.alloc (.cells #[.slice a v.length cv, .slice a' u.length cu] T)).heap.size (W.alloc (.cells #[.slice a v.length cv, .slice a' u.length cu] T)) (some ⟨b, 0, none⟩) [v, u] := by
  subst hb'
  refine .inr ⟨W.heap.size, 0, rfl, Nat.zero_le _, lt_alloc W _, fun i hi => ?_⟩
  have hb := below_alloc W (.cells #[.slice a v.length cv, .slice a' u.length cu] T)
  match i, hi with
  | 0, _ => exact ⟨a, cv, nw0 W _ _ T, (hv.below hb tv).mono (Nat.zero_le _) (Nat.le_trans tv (size_alloc W _))⟩
  | 1, _ => exact ⟨a', cu, nw1 W _ _ T, (hu.below hb tu).mono (Nat.zero_le _) (Nat.le_trans tu (size_alloc W _))⟩
theorem mv_one {W : World} {lo tp cv b : Nat} {a : Option Addr} {v : List Int} (hb' : b = W.heap.size) (hv : RowIn lo tp W a v) (tv : tp ≤ W.heap.size) (T : TypeId) :
    MatIn 0 (W.alloc (.cells #[.slice a v.length cv] T)).heap.size (W.alloc (.cells #[.slice a v.length cv] T)) (some ⟨b, 0, none⟩) [v] := by
  subst hb'
  refine .inr ⟨W.heap.size, 0, rfl, Nat.zero_le _, lt_alloc W _, fun i hi => ?_⟩
  have hb := below_alloc W (.cells #[.slice a v.length cv] T)
  match i, hi with
  | 0, _ => exact ⟨a, cv, by simp [go_sem, rw'], (hv.below hb tv).mono (Nat.zero_le _) (Nat.le_trans tv (size_alloc W _))⟩

theorem checkM2 (p : Int) (aS : Option Addr) (S : List Int) (cS loS tpS : Nat) (av : Option Addr) (v : List Int) (cv lov tpv : Nat) (au : Option Addr) (u : List Int) (cu lou tpu b cap : Nat) (W : World) (T : TypeId) (hb : b = W.heap.size)
    (hS : RowIn loS tpS W aS S) (tS : tpS ≤ W.heap.size) (sS : S.length ≤ 1048576) (hv : RowIn lov tpv W av v) (tv : tpv ≤ W.heap.size) (sv : v.length ≤ 1048576) (hu : RowIn lou tpu W au u) (tu : tpu ≤ W.heap.size) (su : u.length ≤ 1048576) :
    Calls Tryz.prog 40 #[.agg #[.int .i64 p, .slice aS S.length cS], .slice (some ⟨b, 0, none⟩) 2 cap] (W.alloc (.cells #[.slice av v.length cv, .slice au u.length cu] T)) fun e w' => e = .returned (.int .i64 (codeMv p S [v, u])) ∧ Below (W.alloc (.cells #[.slice av v.length cv, .slice au u.length cu] T)).heap.size (W.alloc (.cells #[.slice av v.length cv, .slice au u.length cu] T)) w' :=
  checkMultivectors_any p aS S cS loS tpS (some ⟨b, 0, none⟩) [v, u] cap 0 _ _ (hS.below (below_alloc W _) tS) (Nat.le_trans tS (size_alloc W _)) sS (mv_two hb hv tv hu tu T) (Nat.le_refl _) (by show 2 ≤ 1048576; omega) (fun i hi => by match i, hi with | 0, _ => exact sv | 1, _ => exact su)

end Go.Proofs.YtijklpcelbnnjaaGreat

namespace Go.Proofs.YtijklpcelbnnjaaGreat
open Go.RowKit
set_option linter.unusedVariables false

def mvB (p : Int) (S x : List Int) : Bool := isSp p S && isMv p S x
set_option maxHeartbeats 1600000 in
theorem l04Is_any (p : Int) (aS : Option Addr) (S : List Int) (cS loS tpS : Nat) (av : Option Addr) (v : List Int) (cv lov tpv : Nat) (w : World)
    (hS : RowIn loS tpS w aS S) (tS : tpS ≤ w.heap.size) (sS : S.length ≤ 1048576) (hv : RowIn lov tpv w av v) (tv : tpv ≤ w.heap.size) (sv : v.length ≤ 1048576) :
    Calls Tryz.prog 36 #[.agg #[.int .i64 p, .slice aS S.length cS], .slice av v.length cv] w fun e w' => e = .returned (.bool (mvB p S v)) ∧ Below w.heap.size w w' := by
  have HS := Lib.hid hS
  have HV := Lib.hid hv
  clear hS hv
  by_cases h : isSp p S = true
  · have HI := Lib.hid h
    have h6 := (isSp_iff.1 h).hi
    have HP := Lib.hid (isSp_iff.1 h).prime
    clear h
    by_cases hl : v.length = bl S
    · have e1 : ((v.length : Int) == (bl S : Int)) = true := by simp [hl]
      have HR : Hid (mvB p S v = v.all (inr p)) := by show _ = _; unfold mvB isMv isVec; rw [HI.out]; simp [hl]
      rw [HR.out]
      clear hl
      by_cases ha : v.all (inr p) = true
      · have HA := Lib.hid ha
        clear ha
        go_enter Tryz.func36, Tryz.ntmps36
        go_wp2_with (first | (go_at_call 70; ((with_reducible refine (l03Is_any p aS S cS loS tpS _ (HS.out.below (below_alloc _ _) tS) (by simp; omega) sS).mono ?_); rintro e w1 ⟨rfl, hb1⟩; rw [HI.out]; have HB1 := Lib.hid hb1; have hz1 := hb1.size; have hc0 := (hb1.cell (p := ⟨w.heap.size, 0, none⟩) (by simp)).trans (nw0 w _ _ _); have hc1 := (hb1.cell (p := ⟨w.heap.size, 1, none⟩) (by simp)).trans (nw1 w _ _ _); clear hb1)) | (go_at_call 47; ((with_reducible refine (l04Size_any p aS S cS _ h6).mono ?_); rintro e w2 ⟨rfl, hb2⟩; have HB2 := Lib.hid hb2; have hz2 := hb2.size; have hd0 := (hb2.cell (p := ⟨w.heap.size, 0, none⟩) (by simp at hz1; show w.heap.size < _; omega)).trans hc0; have hd1 := (hb2.cell (p := ⟨w.heap.size, 1, none⟩) (by simp at hz1; show w.heap.size < _; omega)).trans hc1; clear hb2)) | (go_at_call 71; ((with_reducible refine (numsRow p av v cv lov tpv _ HP.out ((HV.out.below ((below_alloc _ _).trans (HB1.out.mono (by simp))) tv).below HB2.out (by simp at hz1; omega)) (by omega)).mono ?_); rintro e w3 ⟨rfl, rfl⟩; rw [HA.out])))
        go_ret
        exact ⟨by rw [HA.out]; rfl, below_step (below_step (below_alloc _ _) (by simp) HB1.out) (by simp at hz1; omega) HB2.out⟩
      · have HA : Hid (v.all (inr p) = false) := by show _ = _; simpa using ha
        clear ha
        go_enter Tryz.func36, Tryz.ntmps36
        go_wp2_with (first | (go_at_call 70; ((with_reducible refine (l03Is_any p aS S cS loS tpS _ (HS.out.below (below_alloc _ _) tS) (by simp; omega) sS).mono ?_); rintro e w1 ⟨rfl, hb1⟩; rw [HI.out]; have HB1 := Lib.hid hb1; have hz1 := hb1.size; have hc0 := (hb1.cell (p := ⟨w.heap.size, 0, none⟩) (by simp)).trans (nw0 w _ _ _); have hc1 := (hb1.cell (p := ⟨w.heap.size, 1, none⟩) (by simp)).trans (nw1 w _ _ _); clear hb1)) | (go_at_call 47; ((with_reducible refine (l04Size_any p aS S cS _ h6).mono ?_); rintro e w2 ⟨rfl, hb2⟩; have HB2 := Lib.hid hb2; have hz2 := hb2.size; have hd0 := (hb2.cell (p := ⟨w.heap.size, 0, none⟩) (by simp at hz1; show w.heap.size < _; omega)).trans hc0; have hd1 := (hb2.cell (p := ⟨w.heap.size, 1, none⟩) (by simp at hz1; show w.heap.size < _; omega)).trans hc1; clear hb2)) | (go_at_call 71; ((with_reducible refine (numsRow p av v cv lov tpv _ HP.out ((HV.out.below ((below_alloc _ _).trans (HB1.out.mono (by simp))) tv).below HB2.out (by simp at hz1; omega)) (by omega)).mono ?_); rintro e w3 ⟨rfl, rfl⟩; rw [HA.out])))
        go_ret
        exact ⟨by rw [HA.out]; rfl, below_step (below_step (below_alloc _ _) (by simp) HB1.out) (by simp at hz1; omega) HB2.out⟩
    · have e1 : ((v.length : Int) == (bl S : Int)) = false := by simp; omega
      have e2 : decide ((v.length : Int) = (bl S : Int)) = false := by simp; omega
      have HR : Hid (mvB p S v = false) := by show _ = _; unfold mvB isMv isVec; simp [hl]
      rw [HR.out]
      clear hl
      go_enter Tryz.func36, Tryz.ntmps36
      go_wp2_with (first | (go_at_call 70; ((with_reducible refine (l03Is_any p aS S cS loS tpS _ (HS.out.below (below_alloc _ _) tS) (by simp; omega) sS).mono ?_); rintro e w1 ⟨rfl, hb1⟩; rw [HI.out]; have HB1 := Lib.hid hb1; have hz1 := hb1.size; have hc0 := (hb1.cell (p := ⟨w.heap.size, 0, none⟩) (by simp)).trans (nw0 w _ _ _); have hc1 := (hb1.cell (p := ⟨w.heap.size, 1, none⟩) (by simp)).trans (nw1 w _ _ _); clear hb1)) | (go_at_call 47; ((with_reducible refine (l04Size_any p aS S cS _ h6).mono ?_); rintro e w2 ⟨rfl, hb2⟩; have HB2 := Lib.hid hb2; have hz2 := hb2.size; have hd0 := (hb2.cell (p := ⟨w.heap.size, 0, none⟩) (by simp at hz1; show w.heap.size < _; omega)).trans hc0; have hd1 := (hb2.cell (p := ⟨w.heap.size, 1, none⟩) (by simp at hz1; show w.heap.size < _; omega)).trans hc1; clear hb2)))
      go_ret
      exact ⟨rfl, below_step (below_step (below_alloc _ _) (by simp) HB1.out) (by simp at hz1; omega) HB2.out⟩
  · have HI : Hid (isSp p S = false) := by show _ = _; simpa using h
    have HR : Hid (mvB p S v = false) := by show _ = _; unfold mvB; rw [HI.out]; rfl
    rw [HR.out]
    clear h
    go_enter Tryz.func36, Tryz.ntmps36
    go_wp2_with (first | (go_at_call 70; (with_reducible refine (l03Is_any p aS S cS loS tpS _ (HS.out.below (below_alloc _ _) tS) (by simp; omega) sS).mono ?_); rintro e w1 ⟨rfl, hb1⟩; rw [HI.out]; have HB1 := Lib.hid hb1; clear hb1))
    go_ret
    exact ⟨rfl, below_step (below_alloc _ _) (by simp) HB1.out⟩

set_option maxRecDepth 100000 in
set_option maxHeartbeats 1600000 in
theorem l04Code_any (p : Int) (aS : Option Addr) (S : List Int) (cS loS tpS : Nat) (am : Option Addr) (m : List (List Int)) (cm lom tpm : Nat) (w : World)
    (hS : RowIn loS tpS w aS S) (tS : tpS ≤ w.heap.size) (sS : S.length ≤ 1048576) (hm : MatIn lom tpm w am m) (tm : tpm ≤ w.heap.size) (sm : m.length ≤ 1048576) (sr : ∀ i, i < m.length → (rw' m i).length ≤ 1048576) :
    Calls Tryz.prog 46 #[.agg #[.int .i64 p, .slice aS S.length cS], .slice am m.length cm] w fun e w' => e = .returned (.int .i64 (codeMv p S m)) ∧ Below w.heap.size w w' := by
  have HS := Lib.hid hS
  have HM := Lib.hid hm
  have HT := Lib.hid sr
  clear hS hm sr
  by_cases h : isSp p S = true
  · have HI := Lib.hid h
    clear h
    go_enter Tryz.func46, Tryz.ntmps46
    go_wp2_with (go_at_call 70; (with_reducible refine (l03Is_any p aS S cS loS tpS _ (HS.out.below (below_alloc _ _) tS) (by simp; omega) sS).mono ?_); rintro e w2 ⟨rfl, hb2⟩; rw [HI.out]; have HB := Lib.hid hb2; clear hb2)
    have HBW : Hid (Below w.heap.size w w2) := below_step (below_alloc _ _) (by simp) HB.out
    have hwz := HBW.out.size
    have hwlt : w.heap.size < w2.heap.size := by have := HB.out.size; simp at this; omega
    have HC0 := Lib.hid ((HB.out.cell (p := ⟨w.heap.size, 0, none⟩) (by simp)).trans (nw0 w _ _ _))
    have HC1 := Lib.hid ((HB.out.cell (p := ⟨w.heap.size, 1, none⟩) (by simp)).trans (nw1 w _ _ _))
    have HM2 := Lib.hid (HM.out.below HBW.out tm)
    have HS2 := Lib.hid (HS.out.below HBW.out tS)
    clear HB
    go_loopw [5] (fun t wr => ∃ i : Nat, i ≤ m.length ∧ t = .int .i64 i ∧ (m.take i).all (isMv p S) = true ∧ Below w2.heap.size w2 wr) (fun t _ => m.length - (intOf t).toNat)
    case atStart => exact ⟨0, Nat.zero_le _, rfl, rfl, Below.refl _ _⟩
    case round =>
      obtain ⟨i, hi, rfl, hA, hbel⟩ := hrel
      have HA := Lib.hid hA
      have HBEL := Lib.hid hbel
      have hwz2 := hbel.size
      have l0 : w.heap.size < wr.heap.size := by omega
      have hc0 := (hbel.cell (p := ⟨w.heap.size, 0, none⟩) hwlt).trans HC0.out
      have hc1 := (hbel.cell (p := ⟨w.heap.size, 1, none⟩) hwlt).trans HC1.out
      clear hA
      by_cases hlt : i < m.length
      · obtain ⟨b1, o1, r, c1, ha1, _, hb1, hr, hrow⟩ := (HM2.out.below hbel (by omega)).row hlt
        subst ha1
        have hl := HT.out i hlt
        have HRd : Hid (RowIn lom tpm wr.drew r (rw' m i)) := hrow.same (fun _ _ _ => rfl)
        have HSd : Hid (RowIn loS tpS wr.drew aS S) := (HS2.out.below HBEL.out (by omega)).same (fun _ _ _ => rfl)
        have HTd : Hid (tpS ≤ wr.drew.heap.size) := by show tpS ≤ wr.heap.size; omega
        have HTM : Hid (tpm ≤ wr.drew.heap.size) := by show tpm ≤ wr.heap.size; omega
        have hi1 : (i : Int) < (m.length : Int) := by omega
        have l1 : b1 < wr.heap.size := by omega
        clear hrow hbel
        by_cases hv : isMv p S (rw' m i) = true
        · have HV := Lib.hid hv
          have HVV : Hid (mvB p S (rw' m i) = true) := by show _ = _; unfold mvB; rw [HI.out, HV.out]; rfl
          clear hv
          go_wp2
          go_region_held3 (fun w' => w'.cell? ⟨w.heap.size, 0, none⟩ = some (.int .i64 p) ∧ w'.cell? ⟨w.heap.size, 1, none⟩ = some (.slice aS S.length cS) ∧ w'.cell? ⟨b1, o1 + i, none⟩ = some (.slice r (rw' m i).length c1)) (first | go_keep | exact SS3.out) (first | (go_at_call 36; (with_reducible refine (l04Is_any p aS S cS loS tpS r (rw' m i) c1 lom tpm wr.drew HSd.out HTd.out sS HRd.out HTM.out hl).mono ?_); rintro e w3 ⟨rfl, hb3⟩; rw [HVV.out]; have HB3 : Hid (Below wr.heap.size wr w3) := (below_drew wr).trans hb3; have SS3 := Lib.hid (And.intro ((HB3.out.cell (p := ⟨w.heap.size, 0, none⟩) l0).trans hc0) (And.intro ((HB3.out.cell (p := ⟨w.heap.size, 1, none⟩) l0).trans hc1) ((HB3.out.cell (p := ⟨b1, o1 + i, none⟩) l1).trans hr))); clear hb3))
          go_wp2
          go_roundw
          case rel => exact ⟨i + 1, by omega, by go_num, by rw [all_take_vec hlt, HA.out, HV.out]; rfl, below_step HBEL.out hwz2 HB3.out⟩
          case measure => simp [intOf]; omega
        · have HV : Hid (isMv p S (rw' m i) = false) := by show _ = _; simpa using hv
          have HVV : Hid (mvB p S (rw' m i) = false) := by show _ = _; unfold mvB; rw [HV.out]; simp
          have HCV := Lib.hid (codeMv_no HI.out (all_false_vec hlt HV.out))
          clear hv
          go_wp2
          go_region_held3 (fun w' => w'.cell? ⟨w.heap.size, 0, none⟩ = some (.int .i64 p) ∧ w'.cell? ⟨w.heap.size, 1, none⟩ = some (.slice aS S.length cS) ∧ w'.cell? ⟨b1, o1 + i, none⟩ = some (.slice r (rw' m i).length c1)) (first | go_keep | exact SS3.out) (first | (go_at_call 36; (with_reducible refine (l04Is_any p aS S cS loS tpS r (rw' m i) c1 lom tpm wr.drew HSd.out HTd.out sS HRd.out HTM.out hl).mono ?_); rintro e w3 ⟨rfl, hb3⟩; rw [HVV.out]; have HB3 : Hid (Below wr.heap.size wr w3) := (below_drew wr).trans hb3; have SS3 := Lib.hid (And.intro ((HB3.out.cell (p := ⟨w.heap.size, 0, none⟩) l0).trans hc0) (And.intro ((HB3.out.cell (p := ⟨w.heap.size, 1, none⟩) l0).trans hc1) ((HB3.out.cell (p := ⟨b1, o1 + i, none⟩) l1).trans hr))); clear hb3))
          go_wp2
          go_ret
          exact ⟨by rw [HCV.out]; rfl, HBW.out.trans ((below_step HBEL.out hwz2 HB3.out).mono hwz)⟩
      · have HCV : Hid (codeMv p S m = 0) := codeMv_ok HI.out (by have h := HA.out; rwa [List.take_of_length_le (by omega)] at h)
        clear hbel
        go_wp2
        go_ret
        exact ⟨by rw [HCV.out]; rfl, HBW.out.trans (HBEL.out.mono hwz)⟩
  · have HI : Hid (isSp p S = false) := by show _ = _; simpa using h
    have HCV : Hid (codeMv p S m = 1) := codeMv_sp HI.out
    clear h
    go_enter Tryz.func46, Tryz.ntmps46
    go_wp2_with (go_at_call 70; (with_reducible refine (l03Is_any p aS S cS loS tpS _ (HS.out.below (below_alloc _ _) tS) (by simp; omega) sS).mono ?_); rintro e w2 ⟨rfl, hb2⟩; rw [HI.out]; have HB := Lib.hid hb2; clear hb2)
    go_ret
    exact ⟨by rw [HCV.out]; rfl, below_step (below_alloc _ _) (by simp) HB.out⟩

end Go.Proofs.YtijklpcelbnnjaaGreat

namespace Go.Proofs.YtijklpcelbnnjaaGreat
open Go.RowKit Go.Maps
set_option linter.unusedVariables false

/-- The map has the numbers of x up to k that are not 0. -/
structure Tm (D : DataW Unit) (x : List Int) (k : Nat) : Prop where
  only : ∀ kl, has D kl = true → ∃ j : Nat, j < k ∧ kl = .int .i64 j
  val : ∀ j : Nat, j < k → x.getD j 0 ≠ 0 → has D (.int .i64 j) = true ∧ ∀ z, D.atKey (.int .i64 j) z = .lit (.int .i64 (x.getD j 0))
  no : ∀ j : Nat, j < k → x.getD j 0 = 0 → has D (.int .i64 j) = false
theorem key_ne {i j : Nat} (h : i ≠ j) : (Lit.int .i64 (i : Int)) ≠ .int .i64 (j : Int) := fun e => by injection e with _ e; omega
theorem Tm.start (x : List Int) : Tm (.map []) x 0 := ⟨fun kl h => by simp [has] at h, fun j h => by omega, fun j h => by omega⟩
theorem Tm.fresh {D : DataW Unit} {x : List Int} {k : Nat} (h : Tm D x k) : has D (.int .i64 (k : Int)) = false := by
  cases e : has D (.int .i64 (k : Int)) with
  | false => rfl
  | true =>
    obtain ⟨j, hj, e2⟩ := h.only _ e
    exact absurd e2 (key_ne (by omega))
theorem Tm.skip {D : DataW Unit} {x : List Int} {k : Nat} (h : Tm D x k) (hx : x.getD k 0 = 0) : Tm D x (k + 1) where
  only kl hk := by
    obtain ⟨j, hj, e⟩ := h.only kl hk
    exact ⟨j, by omega, e⟩
  val j hj hne := h.val j (by
    by_cases e : j = k
    · subst e; exact absurd hx hne
    · omega) hne
  no j hj h0 := by
    by_cases e : j = k
    · subst e; exact h.fresh
    · exact h.no j (by omega) h0
theorem Tm.put {D : DataW Unit} {x : List Int} {k : Nat} (h : Tm D x k) (hm : IsMap D) (hx : x.getD k 0 ≠ 0) : Tm (D.put (.int .i64 (k : Int)) (.lit (.int .i64 (x.getD k 0)))) x (k + 1) where
  only kl hk := by
    by_cases e : kl = .int .i64 (k : Int)
    · exact ⟨k, by omega, e⟩
    · rw [has_put_other e] at hk
      obtain ⟨j, hj, e⟩ := h.only kl hk
      exact ⟨j, by omega, e⟩
  val j hj hne := by
    by_cases e : j = k
    · subst e; exact ⟨has_put_same hm (show WideAt.IsKeyLit (.int .i64 (j : Int)) from trivial) _, fun z => atKey_put_same hm (show WideAt.IsKeyLit (.int .i64 (j : Int)) from trivial) _ z⟩
    · obtain ⟨h1, h2⟩ := h.val j (by omega) hne
      exact ⟨by rw [has_put_other (key_ne e)]; exact h1, fun z => by rw [atKey_put_other (key_ne e)]; exact h2 z⟩
  no j hj h0 := by
    by_cases e : j = k
    · subst e; exact absurd h0 hx
    · rw [has_put_other (key_ne e)]; exact h.no j (by omega) h0

/-- Whether the term at j is still to come. -/
def td (left : Lit → Bool) (j : Nat) : Bool := left (.int .i64 (j : Int))
def Sub (left : Lit → Bool) (D : DataW Unit) : Prop := ∀ kl, left kl = true → has D kl = true
theorem sub_refl (D : DataW Unit) : Sub (has D) D := fun _ h => h
/-- An entry that comes is a term. -/
theorem Tm.come {D : DataW Unit} {x : List Int} {n : Nat} {left : Lit → Bool} {k c : Int} (h : Tm D x n) (hs : Sub left D) (hl : left (.int .i64 k) = true) (hat : ∀ zd, D.atKey (.int .i64 k) zd = .lit (.int .i64 c)) :
    ∃ j : Nat, j < n ∧ k = j ∧ c = x.getD j 0 ∧ x.getD j 0 ≠ 0 ∧ td left j = true := by
  obtain ⟨j, hj, e⟩ := h.only _ (hs _ hl)
  injection e with _ e
  subst e
  have hne : x.getD j 0 ≠ 0 := fun e0 => by
    have h1 := h.no j hj e0
    rw [hs _ hl] at h1; cases h1
  have h2 := (h.val j hj hne).2 (.lit (.int .i64 0))
  rw [hat] at h2
  injection h2 with h2
  injection h2 with _ h2
  exact ⟨j, hj, rfl, h2, hne, hl⟩
theorem sub_strike {left : Lit → Bool} {D : DataW Unit} (h : Sub left D) (kl : Lit) : Sub (fun z => left z && !z.sameKey kl) D := fun z hz => h z (by simp only [Bool.and_eq_true] at hz; exact hz.1)
theorem td_same (left : Lit → Bool) (j : Nat) : td (fun z => left z && !z.sameKey (.int .i64 (j : Int))) j = false := by
  show (left _ && !(Lit.sameKey _ _)) = false
  rw [WideAt.sameKey_self (a := .int .i64 (j : Int)) trivial]; simp
theorem td_other (left : Lit → Bool) {i j : Nat} (h : i ≠ j) : td (fun z => left z && !z.sameKey (.int .i64 (j : Int))) i = td left i := by
  show (left _ && !(Lit.sameKey _ _)) = left _
  rw [sameKey_ne (key_ne h)]; simp
theorem td_none {left : Lit → Bool} (h : ∀ kl, left kl = false) (j : Nat) : td left j = false := h _
theorem td_all {D : DataW Unit} {x : List Int} {n : Nat} (h : Tm D x n) {j : Nat} (hj : j < n) : x.getD j 0 ≠ 0 → td (has D) j = true := fun hne => (h.val j hj hne).1

/-- A row filled term by term: those that have come have their number. -/
def fl (x : List Int) (left : Lit → Bool) (g : Nat → Int) (j : Nat) : Int := if x.getD j 0 ≠ 0 ∧ td left j = false then g j else 0
theorem RowOwn.put {w : World} {b o n : Nat} {f : Nat → Int} (h : RowOwn w b o n f) {j : Nat} (hj : j < n) (v : Int) : RowOwn (w.setCell ⟨b, o + j, none⟩ (.int .i64 v)) b o n (fun i => if i = j then v else f i) where
  cell i hi := by
    by_cases e : i = j
    · subst e; rw [if_pos rfl]; exact World.cell?_setCell_same w _ _ (h.cell i hi)
    · rw [if_neg e]; exact (World.cell?_setCell_other _ _ _ _ (by first | (simp; done) | (simp; omega))).trans (h.cell i hi)
  free i hi := by simp [go_sem, h.free i hi]
theorem RowOwn.congr {w : World} {b o n : Nat} {f g : Nat → Int} (h : RowOwn w b o n f) (e : ∀ j, j < n → f j = g j) : RowOwn w b o n g := ⟨fun j hj => by rw [← e j hj]; exact h.cell j hj, h.free⟩
theorem fl_start {D : DataW Unit} {x : List Int} {n : Nat} (h : Tm D x n) (g : Nat → Int) {j : Nat} (hj : j < n) : fl x (has D) g j = 0 := by
  unfold fl
  rw [if_neg (fun k => by rw [td_all h hj k.1] at k; cases k.2)]
theorem fl_end {x : List Int} {left : Lit → Bool} (h : ∀ kl, left kl = false) (g : Nat → Int) (j : Nat) : fl x left g j = if x.getD j 0 ≠ 0 then g j else 0 := by
  unfold fl
  by_cases e : x.getD j 0 ≠ 0
  · rw [if_pos ⟨e, td_none h j⟩, if_pos e]
  · rw [if_neg (fun k => e k.1), if_neg e]
theorem fl_step {x : List Int} {left : Lit → Bool} {g : Nat → Int} {k : Nat} (hne : x.getD k 0 ≠ 0) (j : Nat) : (if j = k then g k else fl x left g j) = fl x (fun z => left z && !z.sameKey (.int .i64 (k : Int))) g j := by
  unfold fl
  by_cases e : j = k
  · subst e; rw [if_pos rfl, if_pos ⟨hne, td_same left j⟩]
  · rw [if_neg e, td_other left e]
theorem RowOwn.start (w : World) (n : Nat) (t : TypeId) : RowOwn (w.alloc (.cells (madeCells #[.int .i64 0] n) t)) w.heap.size 0 n (fun _ => 0) where
  cell j hj := by
    rw [Nat.zero_add]
    exact made_cell w (.int .i64 0) n t hj
  free j hj := by simp [go_sem]

theorem ranges_below {B : Nat} {w w' : World} {P : Program} {k : TypeId} {R : Value → Option (DataW Unit × List MemPlace)} {b r n : Nat} {D : DataW Unit} {left : Lit → Bool} {cnt : Nat} (h : w.ranges P k R b r n D left cnt) (hb : Below B w w') (h0 : b < B) (h1 : r < B) : w'.ranges P k R b r n D left cnt := by
  obtain ⟨es, clock, since, seen, c0, k1, h2, h3, h4, k5, h6⟩ := h
  exact ⟨es, clock, since, seen, c0, (hb.block b h0).trans k1, h2, h3, h4, (hb.block r h1).trans k5, h6⟩
end Go.Proofs.YtijklpcelbnnjaaGreat
