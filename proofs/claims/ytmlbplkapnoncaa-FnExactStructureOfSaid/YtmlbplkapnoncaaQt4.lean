/-
  Checks of multivectors, in the program and in the model.
  Conditions: the lists are nil or rows of known cells, of at most 1048576 numbers.
  Checks of multivectors in the model; IsMultivector in both.
  Conditions: the lists are nil or rows of known cells, of at most 1048576 numbers.
  Geometric products: signs and factors of blades, their sums, associativity, the unit. No Go in sight.
  No conditions.
-/
import Derived.Test.YtmlbplkapnoncaaQt3
namespace Go.Proofs.Ytmlbplkapnoncaa
open Go.RowKit
set_option linter.unusedVariables false

set_option maxHeartbeats 800000 in
theorem blades_any (p : Int) (a : Option Addr) (S : List Int) (c : Nat) (w : World) (h : S.length ≤ 6) :
    Calls Try.prog 58 #[.agg #[.int .i64 p, .slice a S.length c]] w fun e w' => e = .returned (.int .i64 (bl S)) ∧ Below w.heap.size w w' := by
  have hb : S.length = 0 ∨ S.length = 1 ∨ S.length = 2 ∨ S.length = 3 ∨ S.length = 4 ∨ S.length = 5 ∨ S.length = 6 := by omega
  unfold bl
  obtain ⟨n, hn⟩ : ∃ n, n = S.length := ⟨_, rfl⟩
  rw [← hn] at hb ⊢
  clear hn h
  rcases hb with rfl | rfl | rfl | rfl | rfl | rfl | rfl <;>
  · go_enter Try.func58, Try.ntmps58
    go_wp2
    go_ret
    exact ⟨by first | rfl | simp, by ((repeat' (first | with_reducible exact Below.refl _ _ | (with_reducible refine Below.setCell ?_ ?_ _) | (with_reducible refine Below.alloc ?_ ?_ _) | (with_reducible refine Below.drew ?_))); all_goals (first | (simp; done) | omega | (simp; omega)))⟩
set_option maxHeartbeats 800000 in
theorem l04Size_any (p : Int) (a : Option Addr) (S : List Int) (c : Nat) (w : World) (h : S.length ≤ 6) :
    Calls Try.prog 55 #[.agg #[.int .i64 p, .slice a S.length c]] w fun e w' => e = .returned (.int .i64 (bl S)) ∧ Below w.heap.size w w' := by
  have hb : S.length = 0 ∨ S.length = 1 ∨ S.length = 2 ∨ S.length = 3 ∨ S.length = 4 ∨ S.length = 5 ∨ S.length = 6 := by omega
  unfold bl
  obtain ⟨n, hn⟩ : ∃ n, n = S.length := ⟨_, rfl⟩
  rw [← hn] at hb ⊢
  clear hn h
  rcases hb with rfl | rfl | rfl | rfl | rfl | rfl | rfl <;>
  · go_enter Try.func55, Try.ntmps55
    go_wp2
    go_ret
    exact ⟨by first | rfl | simp, by ((repeat' (first | with_reducible exact Below.refl _ _ | (with_reducible refine Below.setCell ?_ ?_ _) | (with_reducible refine Below.alloc ?_ ?_ _) | (with_reducible refine Below.drew ?_))); all_goals (first | (simp; done) | omega | (simp; omega)))⟩

set_option maxRecDepth 100000 in
set_option maxHeartbeats 1600000 in
theorem checkMultivectors_any (p : Int) (aS : Option Addr) (S : List Int) (cS loS tpS : Nat) (am : Option Addr) (m : List (List Int)) (cm lom tpm : Nat) (w : World)
    (hS : RowIn loS tpS w aS S) (tS : tpS ≤ w.heap.size) (sS : S.length ≤ 1048576) (hm : MatIn lom tpm w am m) (tm : tpm ≤ w.heap.size) (sm : m.length ≤ 1048576) (sr : ∀ i, i < m.length → (rw' m i).length ≤ 1048576) :
    Calls Try.prog 102 #[.agg #[.int .i64 p, .slice aS S.length cS], .slice am m.length cm] w fun e w' => e = .returned (.int .i64 (codeMv p S m)) ∧ Below w.heap.size w w' := by
  have HS := Lib.hid hS
  have HM := Lib.hid hm
  have HT := Lib.hid sr
  clear hS hm sr
  by_cases h : isSp p S = true
  · have HI := Lib.hid h
    have HC := Lib.hid (code1_yes h)
    have h6 := (isSp_iff.1 h).hi
    have hbl := bl_le h6
    clear h
    go_enter Try.func102, Try.ntmps102
    go_wp2_with (go_at_call 132; (with_reducible refine (checkSp1 p aS S cS loS tpS _ (w.heap.size + 1) _ _ (by simp) (HS.out.below (below_alloc _ _) tS) (by simp; omega) sS).mono ?_); rintro e w2 ⟨rfl, hb2⟩; rw [HC.out]; have HB := Lib.hid hb2; clear hb2)
    have HBW : Hid (Below w.heap.size w w2) := below_step (((below_alloc _ _)).alloc (by simp) _) (by simp; omega) HB.out
    have HC0 := Lib.hid ((HB.out.cell (p := ⟨w.heap.size, 0, none⟩) (by simp; omega)).trans ((World.cell?_alloc_old _ _ _ (by simp)).trans (nw0 w _ _ _)))
    have HC1 := Lib.hid ((HB.out.cell (p := ⟨w.heap.size, 1, none⟩) (by simp; omega)).trans ((World.cell?_alloc_old _ _ _ (by simp)).trans (nw1 w _ _ _)))
    have hwz := HBW.out.size
    have hwlt : w.heap.size < w2.heap.size := by have := HB.out.size; simp at this; omega
    have HM2 := Lib.hid (HM.out.below HBW.out tm)
    clear HB
    go_loopw [16] (fun t wr => ∃ i : Nat, i ≤ m.length ∧ t = .int .i64 i ∧ (m.take i).all (isMv p S) = true ∧ Below w2.heap.size w2 wr) (fun t _ => m.length - (intOf t).toNat)
    case atStart => exact ⟨0, Nat.zero_le _, rfl, rfl, Below.refl _ _⟩
    case round =>
      obtain ⟨i, hi, rfl, hA, hbel⟩ := hrel
      have HA := Lib.hid hA
      have HBEL := Lib.hid hbel
      have hwz2 := hbel.size
      have l0 : w.heap.size < wr.heap.size := by omega
      have hc0 := (hbel.cell (p := ⟨w.heap.size, 0, none⟩) hwlt).trans HC0.out
      have hc1 := (hbel.cell (p := ⟨w.heap.size, 1, none⟩) hwlt).trans HC1.out
      clear hA
      by_cases hlt : i < m.length
      · obtain ⟨b1, o1, r, c1, ha1, _, hb1, hr, hrow⟩ := (HM2.out.below hbel (by omega)).row hlt
        subst ha1
        have hl := HT.out i hlt
        have HR := Lib.hid hrow
        have hi1 : (i : Int) < (m.length : Int) := by omega
        clear hrow hbel
        by_cases hv : isMv p S (rw' m i) = true
        · have HV := Lib.hid hv
          have HVV : Hid ((decide ((rw' m i).length = bl S) && (rw' m i).all (inr p)) = true) := hv
          clear hv
          go_wp2
          go_region_held3 (fun w' => w'.cell? ⟨w.heap.size, 0, none⟩ = some (.int .i64 p) ∧ w'.cell? ⟨w.heap.size, 1, none⟩ = some (.slice aS S.length cS)) (first | go_keep | exact SS3.out) (first | (go_at_call 58; (with_reducible refine (blades_any p aS S cS wr.drew h6).mono ?_); rintro e w3 ⟨rfl, hb3⟩; have HB3 : Hid (Below wr.heap.size wr w3) := (below_drew wr).trans hb3; have SS3 := Lib.hid (And.intro ((HB3.out.cell (p := ⟨w.heap.size, 0, none⟩) l0).trans hc0) ((HB3.out.cell (p := ⟨w.heap.size, 1, none⟩) l0).trans hc1)); clear hb3) | (go_at_call 133; (with_reducible refine (isVector_any p r (rw' m i) c1 (bl S) lom tpm _ (isSp_iff.1 HI.out).prime (HR.out.below HB3.out (by omega)) hl (by omega)).mono ?_); rintro e w4 ⟨rfl, rfl⟩; rw [HVV.out]))
          go_wp2
          go_roundw
          case rel => exact ⟨i + 1, by omega, by go_num, by rw [all_take_vec hlt, HA.out, HV.out]; rfl, below_step HBEL.out hwz2 HB3.out⟩
          case measure => simp [intOf]; omega
        · have HV : Hid (isMv p S (rw' m i) = false) := by show _ = _; simpa using hv
          have HVV : Hid ((decide ((rw' m i).length = bl S) && (rw' m i).all (inr p)) = false) := HV.out
          have HCV := Lib.hid (codeMv_no HI.out (all_false_vec hlt HV.out))
          clear hv
          go_wp2
          go_region_held3 (fun w' => w'.cell? ⟨w.heap.size, 0, none⟩ = some (.int .i64 p) ∧ w'.cell? ⟨w.heap.size, 1, none⟩ = some (.slice aS S.length cS)) (first | go_keep | exact SS3.out) (first | (go_at_call 58; (with_reducible refine (blades_any p aS S cS wr.drew h6).mono ?_); rintro e w3 ⟨rfl, hb3⟩; have HB3 : Hid (Below wr.heap.size wr w3) := (below_drew wr).trans hb3; have SS3 := Lib.hid (And.intro ((HB3.out.cell (p := ⟨w.heap.size, 0, none⟩) l0).trans hc0) ((HB3.out.cell (p := ⟨w.heap.size, 1, none⟩) l0).trans hc1)); clear hb3) | (go_at_call 133; (with_reducible refine (isVector_any p r (rw' m i) c1 (bl S) lom tpm _ (isSp_iff.1 HI.out).prime (HR.out.below HB3.out (by omega)) hl (by omega)).mono ?_); rintro e w4 ⟨rfl, rfl⟩; rw [HVV.out]))
          go_wp2
          go_ret
          exact ⟨by rw [HCV.out]; rfl, HBW.out.trans ((below_step HBEL.out hwz2 HB3.out).mono hwz)⟩
      · have HCV : Hid (codeMv p S m = 0) := codeMv_ok HI.out (by have h := HA.out; rwa [List.take_of_length_le (by omega)] at h)
        clear hbel
        go_wp2
        go_ret
        exact ⟨by rw [HCV.out]; rfl, HBW.out.trans (HBEL.out.mono hwz)⟩
  · have HI : Hid (isSp p S = false) := by show _ = _; simpa using h
    have HC := Lib.hid (code1_no HI.out)
    have HCV : Hid (codeMv p S m = 1) := codeMv_sp HI.out
    clear h
    go_enter Try.func102, Try.ntmps102
    go_wp2_with (go_at_call 132; (with_reducible refine (checkSp1 p aS S cS loS tpS _ (w.heap.size + 1) _ _ (by simp) (HS.out.below (below_alloc _ _) tS) (by simp; omega) sS).mono ?_); rintro e w2 ⟨rfl, hb2⟩; rw [HC.out]; have HB := Lib.hid hb2; clear hb2)
    go_ret
    exact ⟨by rw [HCV.out]; rfl, below_step (((below_alloc _ _)).alloc (by simp) _) (by simp; omega) HB.out⟩

end Go.Proofs.Ytmlbplkapnoncaa

namespace Go.Proofs.Ytmlbplkapnoncaa
open Go.RowKit
set_option linter.unusedVariables false

def mvB (p : Int) (S x : List Int) : Bool := isSp p S && isMv p S x
set_option maxHeartbeats 1600000 in
theorem l04Is_any (p : Int) (aS : Option Addr) (S : List Int) (cS loS tpS : Nat) (av : Option Addr) (v : List Int) (cv lov tpv : Nat) (w : World)
    (hS : RowIn loS tpS w aS S) (tS : tpS ≤ w.heap.size) (sS : S.length ≤ 1048576) (hv : RowIn lov tpv w av v) (tv : tpv ≤ w.heap.size) (sv : v.length ≤ 1048576) :
    Calls Try.prog 131 #[.agg #[.int .i64 p, .slice aS S.length cS], .slice av v.length cv] w fun e w' => e = .returned (.bool (mvB p S v)) ∧ Below w.heap.size w w' := by
  have HS := Lib.hid hS
  have HV := Lib.hid hv
  clear hS hv
  by_cases h : isSp p S = true
  · have HI := Lib.hid h
    have h6 := (isSp_iff.1 h).hi
    have HP := Lib.hid (isSp_iff.1 h).prime
    clear h
    by_cases hl : v.length = bl S
    · have e1 : ((v.length : Int) == (bl S : Int)) = true := by simp [hl]
      have HR : Hid (mvB p S v = v.all (inr p)) := by show _ = _; unfold mvB isMv isVec; rw [HI.out]; simp [hl]
      rw [HR.out]
      clear hl
      by_cases ha : v.all (inr p) = true
      · have HA := Lib.hid ha
        clear ha
        go_enter Try.func131, Try.ntmps131
        go_wp2_with (first | (go_at_call 130; ((with_reducible refine (l03Is_any p aS S cS loS tpS _ (HS.out.below (below_alloc _ _) tS) (by simp; omega) sS).mono ?_); rintro e w1 ⟨rfl, hb1⟩; rw [HI.out]; have HB1 := Lib.hid hb1; have hz1 := hb1.size; have hc0 := (hb1.cell (p := ⟨w.heap.size, 0, none⟩) (by simp)).trans (nw0 w _ _ _); have hc1 := (hb1.cell (p := ⟨w.heap.size, 1, none⟩) (by simp)).trans (nw1 w _ _ _); clear hb1)) | (go_at_call 55; ((with_reducible refine (l04Size_any p aS S cS _ h6).mono ?_); rintro e w2 ⟨rfl, hb2⟩; have HB2 := Lib.hid hb2; have hz2 := hb2.size; have hd0 := (hb2.cell (p := ⟨w.heap.size, 0, none⟩) (by simp at hz1; show w.heap.size < _; omega)).trans hc0; have hd1 := (hb2.cell (p := ⟨w.heap.size, 1, none⟩) (by simp at hz1; show w.heap.size < _; omega)).trans hc1; clear hb2)) | (go_at_call 155; ((with_reducible refine (numsRow p av v cv lov tpv _ HP.out ((HV.out.below ((below_alloc _ _).trans (HB1.out.mono (by simp))) tv).below HB2.out (by simp at hz1; omega)) (by omega)).mono ?_); rintro e w3 ⟨rfl, rfl⟩; rw [HA.out])))
        go_ret
        exact ⟨by rw [HA.out]; rfl, below_step (below_step (below_alloc _ _) (by simp) HB1.out) (by simp at hz1; omega) HB2.out⟩
      · have HA : Hid (v.all (inr p) = false) := by show _ = _; simpa using ha
        clear ha
        go_enter Try.func131, Try.ntmps131
        go_wp2_with (first | (go_at_call 130; ((with_reducible refine (l03Is_any p aS S cS loS tpS _ (HS.out.below (below_alloc _ _) tS) (by simp; omega) sS).mono ?_); rintro e w1 ⟨rfl, hb1⟩; rw [HI.out]; have HB1 := Lib.hid hb1; have hz1 := hb1.size; have hc0 := (hb1.cell (p := ⟨w.heap.size, 0, none⟩) (by simp)).trans (nw0 w _ _ _); have hc1 := (hb1.cell (p := ⟨w.heap.size, 1, none⟩) (by simp)).trans (nw1 w _ _ _); clear hb1)) | (go_at_call 55; ((with_reducible refine (l04Size_any p aS S cS _ h6).mono ?_); rintro e w2 ⟨rfl, hb2⟩; have HB2 := Lib.hid hb2; have hz2 := hb2.size; have hd0 := (hb2.cell (p := ⟨w.heap.size, 0, none⟩) (by simp at hz1; show w.heap.size < _; omega)).trans hc0; have hd1 := (hb2.cell (p := ⟨w.heap.size, 1, none⟩) (by simp at hz1; show w.heap.size < _; omega)).trans hc1; clear hb2)) | (go_at_call 155; ((with_reducible refine (numsRow p av v cv lov tpv _ HP.out ((HV.out.below ((below_alloc _ _).trans (HB1.out.mono (by simp))) tv).below HB2.out (by simp at hz1; omega)) (by omega)).mono ?_); rintro e w3 ⟨rfl, rfl⟩; rw [HA.out])))
        go_ret
        exact ⟨by rw [HA.out]; rfl, below_step (below_step (below_alloc _ _) (by simp) HB1.out) (by simp at hz1; omega) HB2.out⟩
    · have e1 : ((v.length : Int) == (bl S : Int)) = false := by simp; omega
      have e2 : decide ((v.length : Int) = (bl S : Int)) = false := by simp; omega
      have HR : Hid (mvB p S v = false) := by show _ = _; unfold mvB isMv isVec; simp [hl]
      rw [HR.out]
      clear hl
      go_enter Try.func131, Try.ntmps131
      go_wp2_with (first | (go_at_call 130; ((with_reducible refine (l03Is_any p aS S cS loS tpS _ (HS.out.below (below_alloc _ _) tS) (by simp; omega) sS).mono ?_); rintro e w1 ⟨rfl, hb1⟩; rw [HI.out]; have HB1 := Lib.hid hb1; have hz1 := hb1.size; have hc0 := (hb1.cell (p := ⟨w.heap.size, 0, none⟩) (by simp)).trans (nw0 w _ _ _); have hc1 := (hb1.cell (p := ⟨w.heap.size, 1, none⟩) (by simp)).trans (nw1 w _ _ _); clear hb1)) | (go_at_call 55; ((with_reducible refine (l04Size_any p aS S cS _ h6).mono ?_); rintro e w2 ⟨rfl, hb2⟩; have HB2 := Lib.hid hb2; have hz2 := hb2.size; have hd0 := (hb2.cell (p := ⟨w.heap.size, 0, none⟩) (by simp at hz1; show w.heap.size < _; omega)).trans hc0; have hd1 := (hb2.cell (p := ⟨w.heap.size, 1, none⟩) (by simp at hz1; show w.heap.size < _; omega)).trans hc1; clear hb2)))
      go_ret
      exact ⟨rfl, below_step (below_step (below_alloc _ _) (by simp) HB1.out) (by simp at hz1; omega) HB2.out⟩
  · have HI : Hid (isSp p S = false) := by show _ = _; simpa using h
    have HR : Hid (mvB p S v = false) := by show _ = _; unfold mvB; rw [HI.out]; rfl
    rw [HR.out]
    clear h
    go_enter Try.func131, Try.ntmps131
    go_wp2_with (first | (go_at_call 130; (with_reducible refine (l03Is_any p aS S cS loS tpS _ (HS.out.below (below_alloc _ _) tS) (by simp; omega) sS).mono ?_); rintro e w1 ⟨rfl, hb1⟩; rw [HI.out]; have HB1 := Lib.hid hb1; clear hb1))
    go_ret
    exact ⟨rfl, below_step (below_alloc _ _) (by simp) HB1.out⟩

set_option maxRecDepth 100000 in
set_option maxHeartbeats 1600000 in
theorem l04Code_any (p : Int) (aS : Option Addr) (S : List Int) (cS loS tpS : Nat) (am : Option Addr) (m : List (List Int)) (cm lom tpm : Nat) (w : World)
    (hS : RowIn loS tpS w aS S) (tS : tpS ≤ w.heap.size) (sS : S.length ≤ 1048576) (hm : MatIn lom tpm w am m) (tm : tpm ≤ w.heap.size) (sm : m.length ≤ 1048576) (sr : ∀ i, i < m.length → (rw' m i).length ≤ 1048576) :
    Calls Try.prog 101 #[.agg #[.int .i64 p, .slice aS S.length cS], .slice am m.length cm] w fun e w' => e = .returned (.int .i64 (codeMv p S m)) ∧ Below w.heap.size w w' := by
  have HS := Lib.hid hS
  have HM := Lib.hid hm
  have HT := Lib.hid sr
  clear hS hm sr
  by_cases h : isSp p S = true
  · have HI := Lib.hid h
    clear h
    go_enter Try.func101, Try.ntmps101
    go_wp2_with (go_at_call 130; (with_reducible refine (l03Is_any p aS S cS loS tpS _ (HS.out.below (below_alloc _ _) tS) (by simp; omega) sS).mono ?_); rintro e w2 ⟨rfl, hb2⟩; rw [HI.out]; have HB := Lib.hid hb2; clear hb2)
    have HBW : Hid (Below w.heap.size w w2) := below_step (below_alloc _ _) (by simp) HB.out
    have hwz := HBW.out.size
    have hwlt : w.heap.size < w2.heap.size := by have := HB.out.size; simp at this; omega
    have HC0 := Lib.hid ((HB.out.cell (p := ⟨w.heap.size, 0, none⟩) (by simp)).trans (nw0 w _ _ _))
    have HC1 := Lib.hid ((HB.out.cell (p := ⟨w.heap.size, 1, none⟩) (by simp)).trans (nw1 w _ _ _))
    have HM2 := Lib.hid (HM.out.below HBW.out tm)
    have HS2 := Lib.hid (HS.out.below HBW.out tS)
    clear HB
    go_loopw [5] (fun t wr => ∃ i : Nat, i ≤ m.length ∧ t = .int .i64 i ∧ (m.take i).all (isMv p S) = true ∧ Below w2.heap.size w2 wr) (fun t _ => m.length - (intOf t).toNat)
    case atStart => exact ⟨0, Nat.zero_le _, rfl, rfl, Below.refl _ _⟩
    case round =>
      obtain ⟨i, hi, rfl, hA, hbel⟩ := hrel
      have HA := Lib.hid hA
      have HBEL := Lib.hid hbel
      have hwz2 := hbel.size
      have l0 : w.heap.size < wr.heap.size := by omega
      have hc0 := (hbel.cell (p := ⟨w.heap.size, 0, none⟩) hwlt).trans HC0.out
      have hc1 := (hbel.cell (p := ⟨w.heap.size, 1, none⟩) hwlt).trans HC1.out
      clear hA
      by_cases hlt : i < m.length
      · obtain ⟨b1, o1, r, c1, ha1, _, hb1, hr, hrow⟩ := (HM2.out.below hbel (by omega)).row hlt
        subst ha1
        have hl := HT.out i hlt
        have HRd : Hid (RowIn lom tpm wr.drew r (rw' m i)) := hrow.same (fun _ _ _ => rfl)
        have HSd : Hid (RowIn loS tpS wr.drew aS S) := (HS2.out.below HBEL.out (by omega)).same (fun _ _ _ => rfl)
        have HTd : Hid (tpS ≤ wr.drew.heap.size) := by show tpS ≤ wr.heap.size; omega
        have HTM : Hid (tpm ≤ wr.drew.heap.size) := by show tpm ≤ wr.heap.size; omega
        have hi1 : (i : Int) < (m.length : Int) := by omega
        have l1 : b1 < wr.heap.size := by omega
        clear hrow hbel
        by_cases hv : isMv p S (rw' m i) = true
        · have HV := Lib.hid hv
          have HVV : Hid (mvB p S (rw' m i) = true) := by show _ = _; unfold mvB; rw [HI.out, HV.out]; rfl
          clear hv
          go_wp2
          go_region_held3 (fun w' => w'.cell? ⟨w.heap.size, 0, none⟩ = some (.int .i64 p) ∧ w'.cell? ⟨w.heap.size, 1, none⟩ = some (.slice aS S.length cS) ∧ w'.cell? ⟨b1, o1 + i, none⟩ = some (.slice r (rw' m i).length c1)) (first | go_keep | exact SS3.out) (first | (go_at_call 131; (with_reducible refine (l04Is_any p aS S cS loS tpS r (rw' m i) c1 lom tpm wr.drew HSd.out HTd.out sS HRd.out HTM.out hl).mono ?_); rintro e w3 ⟨rfl, hb3⟩; rw [HVV.out]; have HB3 : Hid (Below wr.heap.size wr w3) := (below_drew wr).trans hb3; have SS3 := Lib.hid (And.intro ((HB3.out.cell (p := ⟨w.heap.size, 0, none⟩) l0).trans hc0) (And.intro ((HB3.out.cell (p := ⟨w.heap.size, 1, none⟩) l0).trans hc1) ((HB3.out.cell (p := ⟨b1, o1 + i, none⟩) l1).trans hr))); clear hb3))
          go_wp2
          go_roundw
          case rel => exact ⟨i + 1, by omega, by go_num, by rw [all_take_vec hlt, HA.out, HV.out]; rfl, below_step HBEL.out hwz2 HB3.out⟩
          case measure => simp [intOf]; omega
        · have HV : Hid (isMv p S (rw' m i) = false) := by show _ = _; simpa using hv
          have HVV : Hid (mvB p S (rw' m i) = false) := by show _ = _; unfold mvB; rw [HV.out]; simp
          have HCV := Lib.hid (codeMv_no HI.out (all_false_vec hlt HV.out))
          clear hv
          go_wp2
          go_region_held3 (fun w' => w'.cell? ⟨w.heap.size, 0, none⟩ = some (.int .i64 p) ∧ w'.cell? ⟨w.heap.size, 1, none⟩ = some (.slice aS S.length cS) ∧ w'.cell? ⟨b1, o1 + i, none⟩ = some (.slice r (rw' m i).length c1)) (first | go_keep | exact SS3.out) (first | (go_at_call 131; (with_reducible refine (l04Is_any p aS S cS loS tpS r (rw' m i) c1 lom tpm wr.drew HSd.out HTd.out sS HRd.out HTM.out hl).mono ?_); rintro e w3 ⟨rfl, hb3⟩; rw [HVV.out]; have HB3 : Hid (Below wr.heap.size wr w3) := (below_drew wr).trans hb3; have SS3 := Lib.hid (And.intro ((HB3.out.cell (p := ⟨w.heap.size, 0, none⟩) l0).trans hc0) (And.intro ((HB3.out.cell (p := ⟨w.heap.size, 1, none⟩) l0).trans hc1) ((HB3.out.cell (p := ⟨b1, o1 + i, none⟩) l1).trans hr))); clear hb3))
          go_wp2
          go_ret
          exact ⟨by rw [HCV.out]; rfl, HBW.out.trans ((below_step HBEL.out hwz2 HB3.out).mono hwz)⟩
      · have HCV : Hid (codeMv p S m = 0) := codeMv_ok HI.out (by have h := HA.out; rwa [List.take_of_length_le (by omega)] at h)
        clear hbel
        go_wp2
        go_ret
        exact ⟨by rw [HCV.out]; rfl, HBW.out.trans (HBEL.out.mono hwz)⟩
  · have HI : Hid (isSp p S = false) := by show _ = _; simpa using h
    have HCV : Hid (codeMv p S m = 1) := codeMv_sp HI.out
    clear h
    go_enter Try.func101, Try.ntmps101
    go_wp2_with (go_at_call 130; (with_reducible refine (l03Is_any p aS S cS loS tpS _ (HS.out.below (below_alloc _ _) tS) (by simp; omega) sS).mono ?_); rintro e w2 ⟨rfl, hb2⟩; rw [HI.out]; have HB := Lib.hid hb2; clear hb2)
    go_ret
    exact ⟨by rw [HCV.out]; rfl, below_step (below_alloc _ _) (by simp) HB.out⟩

end Go.Proofs.Ytmlbplkapnoncaa

namespace Go.Proofs.Ytmlbplkapnoncaa
open Go.RowKit
set_option linter.unusedVariables false

/-- A sign. -/
def eps (k : Nat) : Int := if k % 2 = 1 then -1 else 1
/-- What the basis vector i of a blade b brings with it behind the blade a. -/
def gi (S : List Int) (a b i : Nat) : Int := if b / 2 ^ i % 2 = 1 then eps (gr (a / 2 ^ (i + 1))) * (if a / 2 ^ i % 2 = 1 then S.getD i 0 else 1) else 1
/-- The factor of the product of two blades, over the first n basis vectors of the second one. -/
def fz (S : List Int) (a b : Nat) : Nat → Int
  | 0 => 1
  | n + 1 => fz S a b n * gi S a b n
theorem bit_add {b i n : Nat} (h : i < n) : (b + 2 ^ n) / 2 ^ i % 2 = b / 2 ^ i % 2 := by
  obtain ⟨d, rfl⟩ : ∃ d, n = i + 1 + d := ⟨n - i - 1, by omega⟩
  have e : (2 : Nat) ^ (i + 1 + d) = 2 ^ d * 2 * 2 ^ i := by rw [Nat.pow_add, Nat.pow_succ, Nat.mul_comm (2 ^ i * 2), Nat.mul_comm (2 ^ i), Nat.mul_assoc]
  rw [e, Nat.add_mul_div_right _ _ (Nat.two_pow_pos i)]
  omega
theorem fz_add (S : List Int) (a b N : Nat) : ∀ n, n ≤ N → fz S a (b + 2 ^ N) n = fz S a b n
  | 0, _ => rfl
  | n + 1, h => by simp only [fz]; rw [fz_add S a b N n (by omega)]; unfold gi; rw [bit_add (by omega)]

/-- The number at c of the product, over the integers. -/
def gpz (S : List Int) (n : Nat) (x y : Nat → Int) (c : Nat) : Int := sm (2 ^ n) fun a => x a * fz S a (a ^^^ c) n * y (a ^^^ c)
theorem xor_back (a c : Nat) : a ^^^ (a ^^^ c) = c := by rw [← Nat.xor_assoc, Nat.xor_self, Nat.zero_xor]
theorem sm_congr_p {p : Int} {n : Nat} {f g : Nat → Int} (h : ∀ j, j < n → f j % p = g j % p) : sm n f % p = sm n g % p := by
  rw [← sm_mod n p f, ← sm_mod n p g, sm_congr h]
theorem em_l (a b p : Int) : (a % p * b) % p = (a * b) % p := by rw [Int.mul_emod, Int.emod_emod, ← Int.mul_emod]
theorem em_r (a b p : Int) : (a * (b % p)) % p = (a * b) % p := by rw [Int.mul_emod, Int.emod_emod, ← Int.mul_emod]
theorem em_sub (a p : Int) : (p - a % p) % p = (-a) % p := by
  rw [Int.sub_emod, Int.emod_self, Int.emod_emod, ← Int.zero_sub a, Int.sub_emod 0 a, Int.zero_emod]
/-- The geometric product of two lists of numbers. -/
def prodF (p : Int) (S x y : List Int) (c : Nat) : Int := gpz S S.length (fun j => x.getD j 0) (fun j => y.getD j 0) c % p
/-- The factor, as a number of the prime. -/
def fm (p : Int) (S : List Int) (a b n : Nat) : Int := fz S a b n % p
theorem fm_bd {p : Int} (hp : 0 < p) (S : List Int) (a b n : Nat) : 0 ≤ fm p S a b n ∧ fm p S a b n < p := ⟨Int.emod_nonneg _ (by omega), Int.emod_lt_of_pos _ hp⟩
theorem fm_zero {p : Int} (hp : 1 < p) (S : List Int) (a b : Nat) : fm p S a b 0 = 1 := Int.emod_eq_of_lt (by show (0 : Int) ≤ 1; decide) hp
theorem fm_skip (p : Int) (S : List Int) {a b n : Nat} (h : b / 2 ^ n % 2 = 0) : fm p S a b (n + 1) = fm p S a b n := by
  show fz S a b n * gi S a b n % p = fz S a b n % p
  unfold gi
  rw [if_neg (by omega), Int.mul_one]
theorem fm_add (p : Int) (S : List Int) (a b n : Nat) : fm p S a (b + 2 ^ n) n = fm p S a b n := by
  unfold fm; rw [fz_add S a b n n (Nat.le_refl _)]
/-- What the program multiplies by. -/
def fi (p : Int) (S : List Int) (a i : Nat) : Int := if a / 2 ^ i % 2 = 1 then (if gr (a / 2 ^ (i + 1)) % 2 = 1 then p - 1 else 1) * S.getD i 0 % p else (if gr (a / 2 ^ (i + 1)) % 2 = 1 then p - 1 else 1)
theorem fm_step (p : Int) (S : List Int) {a b n : Nat} (h : b / 2 ^ n % 2 = 1) : fm p S a b (n + 1) = fm p S a b n * fi p S a n % p := by
  show fz S a b n * gi S a b n % p = fz S a b n % p * fi p S a n % p
  rw [em_l]
  unfold gi fi eps
  rw [if_pos h]
  have e : ∀ s : Int, (p - 1) * s = -1 * s + p * s := fun s => by rw [Int.sub_mul]; omega
  by_cases h1 : gr (a / 2 ^ (n + 1)) % 2 = 1 <;> by_cases h2 : a / 2 ^ n % 2 = 1
  · rw [if_pos h1, if_pos h1, if_pos h2, if_pos h2, em_r, ← em_r _ ((p - 1) * _), e, Int.add_mul_emod_self_left, em_r]
  · rw [if_pos h1, if_pos h1, if_neg h2, if_neg h2, ← em_r _ (p - 1), Int.sub_emod_left, em_r]; rfl
  · rw [if_neg h1, if_neg h1, if_pos h2, if_pos h2, em_r]
  · rw [if_neg h1, if_neg h1, if_neg h2, if_neg h2]; congr 1
/-- What the model makes of it. -/
def fo (p : Int) (S : List Int) (a i : Nat) (o : Int) : Int := if a / 2 ^ i % 2 = 1 then (if gr (a / 2 ^ (i + 1)) % 2 = 1 then (p - o) % p else o) * S.getD i 0 % p else (if gr (a / 2 ^ (i + 1)) % 2 = 1 then (p - o) % p else o)
theorem fm_model (p : Int) (S : List Int) {a b n : Nat} (h : b / 2 ^ n % 2 = 1) : fo p S a n (fm p S a b n) = fm p S a b (n + 1) := by
  show _ = fz S a b n * gi S a b n % p
  unfold gi fo eps fm
  rw [if_pos h]
  by_cases h1 : gr (a / 2 ^ (n + 1)) % 2 = 1 <;> by_cases h2 : a / 2 ^ n % 2 = 1
  · rw [if_pos h1, if_pos h1, if_pos h2, if_pos h2, em_l, ← em_l, em_sub, em_l]; congr 1; rw [← Int.mul_assoc]; congr 1; omega
  · rw [if_pos h1, if_pos h1, if_neg h2, if_neg h2, em_sub]; congr 1; omega
  · rw [if_neg h1, if_neg h1, if_pos h2, if_pos h2, em_l, Int.one_mul]
  · rw [if_neg h1, if_neg h1, if_neg h2, if_neg h2]; congr 1; omega

/-- One product of three numbers. -/
def tm (p : Int) (S x y : List Int) (c a : Nat) : Int := x.getD a 0 * fm p S a (a ^^^ c) S.length * y.getD (a ^^^ c) 0
theorem tm_sum (p : Int) (S x y : List Int) (c : Nat) : sm (bl S) (tm p S x y c) % p = prodF p S x y c := by
  apply sm_congr_p
  intro a _
  unfold tm fm
  rw [Int.mul_assoc, Int.mul_assoc, ← em_r, em_l, em_r]

end Go.Proofs.Ytmlbplkapnoncaa
