/-
  Checks of multivectors in the model; IsMultivector in both.
  Conditions: the lists are nil or rows of known cells, of at most 1048576 numbers.
-/
import Derived.Test.YtkibkkdeaojjoabQc7
namespace Go.Proofs.Ytkibkkdeaojjoab
open Go.RowKit
set_option linter.unusedVariables false

def mvB (p : Int) (S x : List Int) : Bool := isSp p S && isMv p S x
set_option maxHeartbeats 1600000 in
theorem l04Is_any (p : Int) (aS : Option Addr) (S : List Int) (cS loS tpS : Nat) (av : Option Addr) (v : List Int) (cv lov tpv : Nat) (w : World)
    (hS : RowIn loS tpS w aS S) (tS : tpS ≤ w.heap.size) (sS : S.length ≤ 1048576) (hv : RowIn lov tpv w av v) (tv : tpv ≤ w.heap.size) (sv : v.length ≤ 1048576) :
    Calls Try.prog 112 #[.agg #[.int .i64 p, .slice aS S.length cS], .slice av v.length cv] w fun e w' => e = .returned (.bool (mvB p S v)) ∧ Below w.heap.size w w' := by
  have HS := Lib.hid hS
  have HV := Lib.hid hv
  clear hS hv
  by_cases h : isSp p S = true
  · have HI := Lib.hid h
    have h6 := (isSp_iff.1 h).hi
    have HP := Lib.hid (isSp_iff.1 h).prime
    clear h
    by_cases hl : v.length = bl S
    · have e1 : ((v.length : Int) == (bl S : Int)) = true := by simp [hl]
      have HR : Hid (mvB p S v = v.all (inr p)) := by show _ = _; unfold mvB isMv isVec; rw [HI.out]; simp [hl]
      rw [HR.out]
      clear hl
      by_cases ha : v.all (inr p) = true
      · have HA := Lib.hid ha
        clear ha
        go_enter Try.func112, Try.ntmps112
        go_wp2_with (first | (go_at_call 61; ((with_reducible refine (l03Is_any p aS S cS loS tpS _ (HS.out.below (below_alloc _ _) tS) (by simp; omega) sS).mono ?_); rintro e w1 ⟨rfl, hb1⟩; rw [HI.out]; have HB1 := Lib.hid hb1; have hz1 := hb1.size; have hc0 := (hb1.cell (p := ⟨w.heap.size, 0, none⟩) (by simp)).trans (nw0 w _ _ _); have hc1 := (hb1.cell (p := ⟨w.heap.size, 1, none⟩) (by simp)).trans (nw1 w _ _ _); clear hb1)) | (go_at_call 107; ((with_reducible refine (l04Size_any p aS S cS _ h6).mono ?_); rintro e w2 ⟨rfl, hb2⟩; have HB2 := Lib.hid hb2; have hz2 := hb2.size; have hd0 := (hb2.cell (p := ⟨w.heap.size, 0, none⟩) (by simp at hz1; show w.heap.size < _; omega)).trans hc0; have hd1 := (hb2.cell (p := ⟨w.heap.size, 1, none⟩) (by simp at hz1; show w.heap.size < _; omega)).trans hc1; clear hb2)) | (go_at_call 97; ((with_reducible refine (numsRow p av v cv lov tpv _ HP.out ((HV.out.below ((below_alloc _ _).trans (HB1.out.mono (by simp))) tv).below HB2.out (by simp at hz1; omega)) (by omega)).mono ?_); rintro e w3 ⟨rfl, rfl⟩; rw [HA.out])))
        go_ret
        exact ⟨by rw [HA.out]; rfl, below_step (below_step (below_alloc _ _) (by simp) HB1.out) (by simp at hz1; omega) HB2.out⟩
      · have HA : Hid (v.all (inr p) = false) := by show _ = _; simpa using ha
        clear ha
        go_enter Try.func112, Try.ntmps112
        go_wp2_with (first | (go_at_call 61; ((with_reducible refine (l03Is_any p aS S cS loS tpS _ (HS.out.below (below_alloc _ _) tS) (by simp; omega) sS).mono ?_); rintro e w1 ⟨rfl, hb1⟩; rw [HI.out]; have HB1 := Lib.hid hb1; have hz1 := hb1.size; have hc0 := (hb1.cell (p := ⟨w.heap.size, 0, none⟩) (by simp)).trans (nw0 w _ _ _); have hc1 := (hb1.cell (p := ⟨w.heap.size, 1, none⟩) (by simp)).trans (nw1 w _ _ _); clear hb1)) | (go_at_call 107; ((with_reducible refine (l04Size_any p aS S cS _ h6).mono ?_); rintro e w2 ⟨rfl, hb2⟩; have HB2 := Lib.hid hb2; have hz2 := hb2.size; have hd0 := (hb2.cell (p := ⟨w.heap.size, 0, none⟩) (by simp at hz1; show w.heap.size < _; omega)).trans hc0; have hd1 := (hb2.cell (p := ⟨w.heap.size, 1, none⟩) (by simp at hz1; show w.heap.size < _; omega)).trans hc1; clear hb2)) | (go_at_call 97; ((with_reducible refine (numsRow p av v cv lov tpv _ HP.out ((HV.out.below ((below_alloc _ _).trans (HB1.out.mono (by simp))) tv).below HB2.out (by simp at hz1; omega)) (by omega)).mono ?_); rintro e w3 ⟨rfl, rfl⟩; rw [HA.out])))
        go_ret
        exact ⟨by rw [HA.out]; rfl, below_step (below_step (below_alloc _ _) (by simp) HB1.out) (by simp at hz1; omega) HB2.out⟩
    · have e1 : ((v.length : Int) == (bl S : Int)) = false := by simp; omega
      have e2 : decide ((v.length : Int) = (bl S : Int)) = false := by simp; omega
      have HR : Hid (mvB p S v = false) := by show _ = _; unfold mvB isMv isVec; simp [hl]
      rw [HR.out]
      clear hl
      go_enter Try.func112, Try.ntmps112
      go_wp2_with (first | (go_at_call 61; ((with_reducible refine (l03Is_any p aS S cS loS tpS _ (HS.out.below (below_alloc _ _) tS) (by simp; omega) sS).mono ?_); rintro e w1 ⟨rfl, hb1⟩; rw [HI.out]; have HB1 := Lib.hid hb1; have hz1 := hb1.size; have hc0 := (hb1.cell (p := ⟨w.heap.size, 0, none⟩) (by simp)).trans (nw0 w _ _ _); have hc1 := (hb1.cell (p := ⟨w.heap.size, 1, none⟩) (by simp)).trans (nw1 w _ _ _); clear hb1)) | (go_at_call 107; ((with_reducible refine (l04Size_any p aS S cS _ h6).mono ?_); rintro e w2 ⟨rfl, hb2⟩; have HB2 := Lib.hid hb2; have hz2 := hb2.size; have hd0 := (hb2.cell (p := ⟨w.heap.size, 0, none⟩) (by simp at hz1; show w.heap.size < _; omega)).trans hc0; have hd1 := (hb2.cell (p := ⟨w.heap.size, 1, none⟩) (by simp at hz1; show w.heap.size < _; omega)).trans hc1; clear hb2)))
      go_ret
      exact ⟨rfl, below_step (below_step (below_alloc _ _) (by simp) HB1.out) (by simp at hz1; omega) HB2.out⟩
  · have HI : Hid (isSp p S = false) := by show _ = _; simpa using h
    have HR : Hid (mvB p S v = false) := by show _ = _; unfold mvB; rw [HI.out]; rfl
    rw [HR.out]
    clear h
    go_enter Try.func112, Try.ntmps112
    go_wp2_with (first | (go_at_call 61; (with_reducible refine (l03Is_any p aS S cS loS tpS _ (HS.out.below (below_alloc _ _) tS) (by simp; omega) sS).mono ?_); rintro e w1 ⟨rfl, hb1⟩; rw [HI.out]; have HB1 := Lib.hid hb1; clear hb1))
    go_ret
    exact ⟨rfl, below_step (below_alloc _ _) (by simp) HB1.out⟩

set_option maxRecDepth 100000 in
set_option maxHeartbeats 1600000 in
theorem l04Code_any (p : Int) (aS : Option Addr) (S : List Int) (cS loS tpS : Nat) (am : Option Addr) (m : List (List Int)) (cm lom tpm : Nat) (w : World)
    (hS : RowIn loS tpS w aS S) (tS : tpS ≤ w.heap.size) (sS : S.length ≤ 1048576) (hm : MatIn lom tpm w am m) (tm : tpm ≤ w.heap.size) (sm : m.length ≤ 1048576) (sr : ∀ i, i < m.length → (rw' m i).length ≤ 1048576) :
    Calls Try.prog 79 #[.agg #[.int .i64 p, .slice aS S.length cS], .slice am m.length cm] w fun e w' => e = .returned (.int .i64 (codeMv p S m)) ∧ Below w.heap.size w w' := by
  have HS := Lib.hid hS
  have HM := Lib.hid hm
  have HT := Lib.hid sr
  clear hS hm sr
  by_cases h : isSp p S = true
  · have HI := Lib.hid h
    clear h
    go_enter Try.func79, Try.ntmps79
    go_wp2_with (go_at_call 61; (with_reducible refine (l03Is_any p aS S cS loS tpS _ (HS.out.below (below_alloc _ _) tS) (by simp; omega) sS).mono ?_); rintro e w2 ⟨rfl, hb2⟩; rw [HI.out]; have HB := Lib.hid hb2; clear hb2)
    have HBW : Hid (Below w.heap.size w w2) := below_step (below_alloc _ _) (by simp) HB.out
    have hwz := HBW.out.size
    have hwlt : w.heap.size < w2.heap.size := by have := HB.out.size; simp at this; omega
    have HC0 := Lib.hid ((HB.out.cell (p := ⟨w.heap.size, 0, none⟩) (by simp)).trans (nw0 w _ _ _))
    have HC1 := Lib.hid ((HB.out.cell (p := ⟨w.heap.size, 1, none⟩) (by simp)).trans (nw1 w _ _ _))
    have HM2 := Lib.hid (HM.out.below HBW.out tm)
    have HS2 := Lib.hid (HS.out.below HBW.out tS)
    clear HB
    go_loopw [5] (fun t wr => ∃ i : Nat, i ≤ m.length ∧ t = .int .i64 i ∧ (m.take i).all (isMv p S) = true ∧ Below w2.heap.size w2 wr) (fun t _ => m.length - (intOf t).toNat)
    case atStart => exact ⟨0, Nat.zero_le _, rfl, rfl, Below.refl _ _⟩
    case round =>
      obtain ⟨i, hi, rfl, hA, hbel⟩ := hrel
      have HA := Lib.hid hA
      have HBEL := Lib.hid hbel
      have hwz2 := hbel.size
      have l0 : w.heap.size < wr.heap.size := by omega
      have hc0 := (hbel.cell (p := ⟨w.heap.size, 0, none⟩) hwlt).trans HC0.out
      have hc1 := (hbel.cell (p := ⟨w.heap.size, 1, none⟩) hwlt).trans HC1.out
      clear hA
      by_cases hlt : i < m.length
      · obtain ⟨b1, o1, r, c1, ha1, _, hb1, hr, hrow⟩ := (HM2.out.below hbel (by omega)).row hlt
        subst ha1
        have hl := HT.out i hlt
        have HRd : Hid (RowIn lom tpm wr.drew r (rw' m i)) := hrow.same (fun _ _ _ => rfl)
        have HSd : Hid (RowIn loS tpS wr.drew aS S) := (HS2.out.below HBEL.out (by omega)).same (fun _ _ _ => rfl)
        have HTd : Hid (tpS ≤ wr.drew.heap.size) := by show tpS ≤ wr.heap.size; omega
        have HTM : Hid (tpm ≤ wr.drew.heap.size) := by show tpm ≤ wr.heap.size; omega
        have hi1 : (i : Int) < (m.length : Int) := by omega
        have l1 : b1 < wr.heap.size := by omega
        clear hrow hbel
        by_cases hv : isMv p S (rw' m i) = true
        · have HV := Lib.hid hv
          have HVV : Hid (mvB p S (rw' m i) = true) := by show _ = _; unfold mvB; rw [HI.out, HV.out]; rfl
          clear hv
          go_wp2
          go_region_held3 (fun w' => w'.cell? ⟨w.heap.size, 0, none⟩ = some (.int .i64 p) ∧ w'.cell? ⟨w.heap.size, 1, none⟩ = some (.slice aS S.length cS) ∧ w'.cell? ⟨b1, o1 + i, none⟩ = some (.slice r (rw' m i).length c1)) (first | go_keep | exact SS3.out) (first | (go_at_call 112; (with_reducible refine (l04Is_any p aS S cS loS tpS r (rw' m i) c1 lom tpm wr.drew HSd.out HTd.out sS HRd.out HTM.out hl).mono ?_); rintro e w3 ⟨rfl, hb3⟩; rw [HVV.out]; have HB3 : Hid (Below wr.heap.size wr w3) := (below_drew wr).trans hb3; have SS3 := Lib.hid (And.intro ((HB3.out.cell (p := ⟨w.heap.size, 0, none⟩) l0).trans hc0) (And.intro ((HB3.out.cell (p := ⟨w.heap.size, 1, none⟩) l0).trans hc1) ((HB3.out.cell (p := ⟨b1, o1 + i, none⟩) l1).trans hr))); clear hb3))
          go_wp2
          go_roundw
          case rel => exact ⟨i + 1, by omega, by go_num, by rw [all_take_vec hlt, HA.out, HV.out]; rfl, below_step HBEL.out hwz2 HB3.out⟩
          case measure => simp [intOf]; omega
        · have HV : Hid (isMv p S (rw' m i) = false) := by show _ = _; simpa using hv
          have HVV : Hid (mvB p S (rw' m i) = false) := by show _ = _; unfold mvB; rw [HV.out]; simp
          have HCV := Lib.hid (codeMv_no HI.out (all_false_vec hlt HV.out))
          clear hv
          go_wp2
          go_region_held3 (fun w' => w'.cell? ⟨w.heap.size, 0, none⟩ = some (.int .i64 p) ∧ w'.cell? ⟨w.heap.size, 1, none⟩ = some (.slice aS S.length cS) ∧ w'.cell? ⟨b1, o1 + i, none⟩ = some (.slice r (rw' m i).length c1)) (first | go_keep | exact SS3.out) (first | (go_at_call 112; (with_reducible refine (l04Is_any p aS S cS loS tpS r (rw' m i) c1 lom tpm wr.drew HSd.out HTd.out sS HRd.out HTM.out hl).mono ?_); rintro e w3 ⟨rfl, hb3⟩; rw [HVV.out]; have HB3 : Hid (Below wr.heap.size wr w3) := (below_drew wr).trans hb3; have SS3 := Lib.hid (And.intro ((HB3.out.cell (p := ⟨w.heap.size, 0, none⟩) l0).trans hc0) (And.intro ((HB3.out.cell (p := ⟨w.heap.size, 1, none⟩) l0).trans hc1) ((HB3.out.cell (p := ⟨b1, o1 + i, none⟩) l1).trans hr))); clear hb3))
          go_wp2
          go_ret
          exact ⟨by rw [HCV.out]; rfl, HBW.out.trans ((below_step HBEL.out hwz2 HB3.out).mono hwz)⟩
      · have HCV : Hid (codeMv p S m = 0) := codeMv_ok HI.out (by have h := HA.out; rwa [List.take_of_length_le (by omega)] at h)
        clear hbel
        go_wp2
        go_ret
        exact ⟨by rw [HCV.out]; rfl, HBW.out.trans (HBEL.out.mono hwz)⟩
  · have HI : Hid (isSp p S = false) := by show _ = _; simpa using h
    have HCV : Hid (codeMv p S m = 1) := codeMv_sp HI.out
    clear h
    go_enter Try.func79, Try.ntmps79
    go_wp2_with (go_at_call 61; (with_reducible refine (l03Is_any p aS S cS loS tpS _ (HS.out.below (below_alloc _ _) tS) (by simp; omega) sS).mono ?_); rintro e w2 ⟨rfl, hb2⟩; rw [HI.out]; have HB := Lib.hid hb2; clear hb2)
    go_ret
    exact ⟨by rw [HCV.out]; rfl, below_step (below_alloc _ _) (by simp) HB.out⟩

end Go.Proofs.Ytkibkkdeaojjoab
