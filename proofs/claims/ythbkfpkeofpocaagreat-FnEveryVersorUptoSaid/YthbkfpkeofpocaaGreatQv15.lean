/-
  Lists of vectors of a space, in the program and in the model.
  Conditions: the lists are nil or rows of known cells, of at most 1048576 numbers.
  WedgeOfVectors: contracts of the program and of the model.
  Conditions: the lists are nil or rows of known cells, of at most 1048576 numbers.
  The signs of those grades of which a multivector has blades: contracts of the program and of the model.
  Conditions: the lists are nil or rows of known cells, of at most 1048576 numbers.
  GradesOf: contracts of the program and of the model.
  Conditions: the lists are nil or rows of known cells, of at most 1048576 numbers.
  slices.Max and slices.Equal of lists of numbers.
  Conditions: rows of known cells, of at most 1048576 numbers.
-/
import Derived.Test.YthbkfpkeofpocaaGreatQv14
import Derived.Test.YthbkfpkeofpocaaGreatQv11
import Derived.Deep.RegionHeld3
import Derived.Deep.DeepCutAuto
import Derived.Test.YthbkfpkeofpocaaGreatQv6
import Derived.Test.YthbkfpkeofpocaaGreatQv12
import Derived.Test.YthbkfpkeofpocaaGreatQv13
import Derived.Laws.AppendOwn
import Derived.Test.YthbkfpkeofpocaaGreatQv5
import Derived.BigQuiet
namespace Go.Proofs.YthbkfpkeofpocaaGreat
open Go.RowKit
set_option linter.unusedVariables false

def listB (p : Int) (S : List Int) (m : List (List Int)) : Bool := m.all (isVec p S.length) && decide (m.length ≤ 16)
def codeL (p : Int) (S : List Int) (m : List (List Int)) : Int := if isSp p S = true then (if listB p S m = true then 0 else 2) else 1
theorem codeL_sp {p : Int} {S : List Int} {m : List (List Int)} (h : isSp p S = false) : codeL p S m = 1 := if_neg (by simp [h])
theorem codeL_ok {p : Int} {S : List Int} {m : List (List Int)} (h : isSp p S = true) (k : listB p S m = true) : codeL p S m = 0 := by unfold codeL; rw [if_pos h, if_pos k]
theorem codeL_no {p : Int} {S : List Int} {m : List (List Int)} (h : isSp p S = true) (k : listB p S m = false) : codeL p S m = 2 := by unfold codeL; rw [if_pos h, if_neg (by simp [k])]
theorem codeL_cases (p : Int) (S : List Int) (m : List (List Int)) : (isSp p S = false ∧ codeL p S m = 1) ∨ (isSp p S = true ∧ listB p S m = true ∧ codeL p S m = 0) ∨ (isSp p S = true ∧ listB p S m = false ∧ codeL p S m = 2) := by
  by_cases h : isSp p S = true
  · by_cases k : listB p S m = true
    · exact .inr (.inl ⟨h, k, codeL_ok h k⟩)
    · have k' : listB p S m = false := by simpa using k
      exact .inr (.inr ⟨h, k', codeL_no h k'⟩)
  · have h' : isSp p S = false := by simpa using h
    exact .inl ⟨h', codeL_sp h'⟩
/-- What a list of vectors is. -/
theorem listB_iff {p : Int} {S : List Int} {m : List (List Int)} (h : listB p S m = true) : m.length ≤ 16 ∧ ∀ i, i < m.length → isVec p S.length (rw' m i) = true := by
  unfold listB at h
  rw [Bool.and_eq_true, List.all_eq_true] at h
  exact ⟨of_decide_eq_true h.2, fun i hi => h.1 _ (mem_row hi)⟩

set_option maxRecDepth 100000 in
set_option maxHeartbeats 3200000 in
theorem l03List_any (p : Int) (aS : Option Addr) (S : List Int) (cS : Nat) (am : Option Addr) (m : List (List Int)) (cm lom tpm : Nat) (w : World) (hp : prm p = true) (sS : S.length ≤ 1048576)
    (hm : MatIn lom tpm w am m) (tm : tpm ≤ w.heap.size) (sm : m.length ≤ 1048576) (sr : ∀ i, i < m.length → (rw' m i).length ≤ 1048576) :
    Calls Tryz.prog 48 #[.agg #[.int .i64 p, .slice aS S.length cS], .slice am m.length cm] w fun e w' => e = .returned (.bool (listB p S m)) ∧ Below w.heap.size w w' := by
  have HM := Lib.hid hm
  have HP := Lib.hid hp
  have HT := Lib.hid sr
  clear hm hp sr
  go_enter Tryz.func48, Tryz.ntmps48
  go_wp2
  go_loopw [5] (fun t wr => ∃ i : Nat, i ≤ m.length ∧ t = .int .i64 i ∧ (m.take i).all (isVec p S.length) = true ∧ wr.cell? ⟨w.heap.size, 0, none⟩ = some (.int .i64 p) ∧ wr.cell? ⟨w.heap.size, 1, none⟩ = some (.slice aS S.length cS) ∧ Below w.heap.size w wr ∧ w.heap.size < wr.heap.size) (fun t _ => m.length - (intOf t).toNat)
  case atStart => exact ⟨0, Nat.zero_le _, rfl, rfl, nw0 w _ _ _, nw1 w _ _ _, below_alloc w _, lt_alloc w _⟩
  case round =>
    obtain ⟨i, hi, rfl, hA, k0, k1, hbel, hlw⟩ := hrel
    have HA := Lib.hid hA
    have HB := Lib.hid hbel
    clear hA
    by_cases hlt : i < m.length
    · obtain ⟨b1, o1, r, c1, ha1, _, hb1, hr, hrow⟩ := (HM.out.below hbel tm).row hlt
      subst ha1
      have hl := HT.out i hlt
      have hwz := hbel.size
      have HR := Lib.hid (hrow.below (below_drew wr) (Nat.le_trans tm hwz))
      have HTD : Hid (tpm ≤ wr.drew.heap.size) := Nat.le_trans tm hwz
      have hi1 : (i : Int) < (m.length : Int) := by omega
      have hb1w : b1 < wr.heap.size := Nat.lt_of_lt_of_le hb1 (Nat.le_trans tm hwz)
      clear hrow hbel
      by_cases hv : isVec p S.length (rw' m i) = true
      · have HV := Lib.hid hv
        clear hv
        go_wp2
        go_region_held3 (fun w' => w'.cell? ⟨w.heap.size, 0, none⟩ = some (.int .i64 p) ∧ w'.cell? ⟨w.heap.size, 1, none⟩ = some (.slice aS S.length cS) ∧ w'.cell? ⟨b1, o1 + i, none⟩ = some (.slice r (rw' m i).length c1)) (first | go_keep | exact SS3.out) (first | (go_at_call 41; (with_reducible refine (l03Vector_any p aS S cS r (rw' m i) c1 lom tpm wr.drew HP.out sS HR.out HTD.out hl).mono ?_); rintro e w3 ⟨rfl, hb3⟩; rw [HV.out]; have HB3 : Hid (Below wr.heap.size wr w3) := (below_drew wr).trans hb3; have SS3 := Lib.hid (And.intro ((HB3.out.cell (p := ⟨w.heap.size, 0, none⟩) hlw).trans k0) (And.intro ((HB3.out.cell (p := ⟨w.heap.size, 1, none⟩) hlw).trans k1) ((HB3.out.cell (p := ⟨b1, o1 + i, none⟩) hb1w).trans hr))); clear hb3))
        go_wp2
        go_roundw
        case rel => exact ⟨i + 1, by omega, by go_num, by rw [all_take_vec hlt, HA.out, HV.out]; rfl, SS3.out.1, SS3.out.2.1, HB.out.trans (HB3.out.mono hwz), Nat.lt_of_lt_of_le hlw HB3.out.size⟩
        case measure => simp [intOf]; omega
      · have HV : Hid (isVec p S.length (rw' m i) = false) := by show _ = _; simpa using hv
        have HCV : Hid (listB p S m = false) := by show _ = _; unfold listB; rw [all_false_vec hlt HV.out]; rfl
        clear hv
        go_wp2
        go_region_held3 (fun w' => w'.cell? ⟨w.heap.size, 0, none⟩ = some (.int .i64 p) ∧ w'.cell? ⟨w.heap.size, 1, none⟩ = some (.slice aS S.length cS) ∧ w'.cell? ⟨b1, o1 + i, none⟩ = some (.slice r (rw' m i).length c1)) (first | go_keep | exact SS3.out) (first | (go_at_call 41; (with_reducible refine (l03Vector_any p aS S cS r (rw' m i) c1 lom tpm wr.drew HP.out sS HR.out HTD.out hl).mono ?_); rintro e w3 ⟨rfl, hb3⟩; rw [HV.out]; have HB3 : Hid (Below wr.heap.size wr w3) := (below_drew wr).trans hb3; have SS3 := Lib.hid (And.intro ((HB3.out.cell (p := ⟨w.heap.size, 0, none⟩) hlw).trans k0) (And.intro ((HB3.out.cell (p := ⟨w.heap.size, 1, none⟩) hlw).trans k1) ((HB3.out.cell (p := ⟨b1, o1 + i, none⟩) hb1w).trans hr))); clear hb3))
        go_wp2
        go_ret
        exact ⟨by rw [HCV.out]; rfl, HB.out.trans (HB3.out.mono hwz)⟩
    · have HAll : Hid (m.all (isVec p S.length) = true) := by have h := HA.out; rwa [List.take_of_length_le (by omega)] at h
      by_cases h16 : m.length ≤ 16
      · have e1 : (m.length : Int) ≤ 16 := by omega
        have HCV : Hid (listB p S m = true) := by show _ = _; unfold listB; rw [HAll.out]; simp [h16]
        go_wp2
        go_ret
        exact ⟨by rw [HCV.out]; rfl, HB.out⟩
      · have e1 : ¬ (m.length : Int) ≤ 16 := by omega
        have HCV : Hid (listB p S m = false) := by show _ = _; unfold listB; rw [HAll.out]; simp; omega
        go_wp2
        go_ret
        exact ⟨by rw [HCV.out]; rfl, HB.out⟩

theorem checkList_any (pS : Int) (aS : Option Addr) (S : List Int) (cS loS tpS : Nat) (am : Option Addr) (m : List (List Int)) (cm lom tpm : Nat) (w : World)
    (hS : RowIn loS tpS w aS S) (tS : tpS ≤ w.heap.size) (sS : S.length ≤ 1048576) (hm : MatIn lom tpm w am m) (tm : tpm ≤ w.heap.size) (sm : m.length ≤ 1048576) (sr : ∀ i, i < m.length → (rw' m i).length ≤ 1048576) :
    Calls Tryz.prog 17 #[.agg #[.int .i64 pS, .slice aS S.length cS], .slice am m.length cm] w fun e w' => e = .returned (.int .i64 (codeL pS S m)) ∧ Below w.heap.size w w' := by
  have HS := Lib.hid hS
  have HM := Lib.hid hm
  have HT := Lib.hid sr
  have HBB := Lib.hid (below_alloc w (.cells #[.int .i64 pS, .slice aS S.length cS] 24))
  have HSA := Lib.hid (hS.below HBB.out tS)
  have HMA := Lib.hid (hm.below HBB.out tm)
  have HZ := Lib.hid HBB.out.size
  clear hS hm sr
  rcases codeVs_cases pS S m with ⟨hi, hc⟩ | ⟨hi, ha, hc⟩ | ⟨hi, ha, hc⟩
  · have HC := Lib.hid hc
    have HV := Lib.hid (codeL_sp (m := m) hi)
    clear hi hc
    go_enter Tryz.func17, Tryz.ntmps17
    go_wp2_with (go_at_call 14; (with_reducible refine (checkVectors_any pS aS S cS loS tpS am m cm lom tpm _ HSA.out (Nat.le_trans tS HZ.out) sS HMA.out (Nat.le_trans tm HZ.out) sm HT.out).mono ?_); rintro e w2 ⟨rfl, hb⟩; rw [HC.out]; have HB := Lib.hid hb; clear hb)
    go_ret
    exact ⟨by rw [HV.out]; rfl, HBB.out.trans (HB.out.mono HZ.out)⟩
  · by_cases h16 : m.length ≤ 16
    · have e1 : (m.length : Int) ≤ 16 := by omega
      have HC := Lib.hid hc
      have HV := Lib.hid (codeL_ok (m := m) hi (by unfold listB; rw [ha]; simp [h16]))
      clear hi hc ha
      go_enter Tryz.func17, Tryz.ntmps17
      go_wp2_with (go_at_call 14; (with_reducible refine (checkVectors_any pS aS S cS loS tpS am m cm lom tpm _ HSA.out (Nat.le_trans tS HZ.out) sS HMA.out (Nat.le_trans tm HZ.out) sm HT.out).mono ?_); rintro e w2 ⟨rfl, hb⟩; rw [HC.out]; have HB := Lib.hid hb; clear hb)
      go_ret
      exact ⟨by rw [HV.out]; rfl, HBB.out.trans (HB.out.mono HZ.out)⟩
    · have e1 : ¬ (m.length : Int) ≤ 16 := by omega
      have e2 : (16 : Int) < (m.length : Int) := by omega
      have HC := Lib.hid hc
      have HV := Lib.hid (codeL_no (m := m) hi (by unfold listB; rw [ha]; simp; omega))
      clear hi hc ha
      go_enter Tryz.func17, Tryz.ntmps17
      go_wp2_with (go_at_call 14; (with_reducible refine (checkVectors_any pS aS S cS loS tpS am m cm lom tpm _ HSA.out (Nat.le_trans tS HZ.out) sS HMA.out (Nat.le_trans tm HZ.out) sm HT.out).mono ?_); rintro e w2 ⟨rfl, hb⟩; rw [HC.out]; have HB := Lib.hid hb; clear hb)
      go_ret
      exact ⟨by rw [HV.out]; rfl, HBB.out.trans (HB.out.mono HZ.out)⟩
  · have HC := Lib.hid hc
    have HV := Lib.hid (codeL_no (m := m) hi (by unfold listB; rw [ha]; rfl))
    clear hi hc ha
    go_enter Tryz.func17, Tryz.ntmps17
    go_wp2_with (go_at_call 14; (with_reducible refine (checkVectors_any pS aS S cS loS tpS am m cm lom tpm _ HSA.out (Nat.le_trans tS HZ.out) sS HMA.out (Nat.le_trans tm HZ.out) sm HT.out).mono ?_); rintro e w2 ⟨rfl, hb⟩; rw [HC.out]; have HB := Lib.hid hb; clear hb)
    go_ret
    exact ⟨by rw [HV.out]; rfl, HBB.out.trans (HB.out.mono HZ.out)⟩

end Go.Proofs.YthbkfpkeofpocaaGreat

namespace Go.Proofs.YthbkfpkeofpocaaGreat
open Go.RowKit
set_option linter.unusedVariables false

theorem one_mv' {p : Int} {S : List Int} (hs : isSp p S = true) : isMv p S (mOne S) = true :=
  isMv_of (by unfold mOne; rw [mkR_len]) fun j hj => by
    have hp := prm_bd (isSp_iff.1 hs).prime
    unfold mOne at hj ⊢
    rw [mkR_len] at hj
    rw [mkR_at _ hj]
    unfold oneF
    split <;> omega
theorem vecF_bd {p : Int} (hp : 0 < p) {v : List Int} (hn : ∀ j, j < v.length → 0 ≤ v.getD j 0 ∧ v.getD j 0 < p) (b : Nat) : ∀ k, k ≤ v.length → 0 ≤ vecF v k b ∧ vecF v k b < p
  | 0, _ => by show 0 ≤ (0 : Int) ∧ (0 : Int) < p; omega
  | k + 1, h => by
    show 0 ≤ (if b = 2 ^ k then v.getD k 0 else vecF v k b) ∧ (if b = 2 ^ k then v.getD k 0 else vecF v k b) < p
    have h1 := hn k (by omega)
    have h2 := vecF_bd hp hn b k (by omega)
    split
    · exact h1
    · exact h2
theorem vec_mv' {p : Int} {S v : List Int} (hs : isSp p S = true) (hv : isVec p S.length v = true) : isMv p S (mkR (bl S) (vecF v v.length)) = true :=
  isMv_of (mkR_len _ _) fun j hj => by
    have hp := prm_bd (isSp_iff.1 hs).prime
    rw [mkR_len] at hj
    rw [mkR_at _ hj]
    exact vecF_bd (by omega) (fun i hi => (isVec_iff.1 hv).num (by rw [← (isVec_iff.1 hv).len]; exact hi)) j v.length (Nat.le_refl _)
theorem ss3 {B : Nat} {w w' : World} (h : Below B w w') {g b o : Nat} {u0 u1 u2 : Value} (l : g < B) (l2 : b < B) (h0 : w.cell? ⟨g, 0, none⟩ = some u0 ∧ w.cell? ⟨g, 1, none⟩ = some u1 ∧ w.cell? ⟨b, o, none⟩ = some u2) : w'.cell? ⟨g, 0, none⟩ = some u0 ∧ w'.cell? ⟨g, 1, none⟩ = some u1 ∧ w'.cell? ⟨b, o, none⟩ = some u2 :=
  ⟨(h.cell (p := ⟨g, 0, none⟩) l).trans h0.1, (h.cell (p := ⟨g, 1, none⟩) l).trans h0.2.1, (h.cell (p := ⟨b, o, none⟩) l2).trans h0.2.2⟩
set_option maxRecDepth 100000 in
set_option maxHeartbeats 1600000 in
theorem l05List_any (pS : Int) (aS : Option Addr) (S : List Int) (cS loS tpS : Nat) (am : Option Addr) (m : List (List Int)) (cm lom tpm : Nat) (w : World) (hS : RowIn loS tpS w aS S) (tS : tpS ≤ w.heap.size) (sS : S.length ≤ 1048576) (hm : MatIn lom tpm w am m) (tm : tpm ≤ w.heap.size) (sm : m.length ≤ 1048576) (sr : ∀ i, i < m.length → (rw' m i).length ≤ 1048576) :
    Calls Tryz.prog 22 #[.agg #[.int .i64 pS, .slice aS S.length cS], .slice am m.length cm] w fun e w' => e = .returned (.int .i64 (codeL pS S m)) ∧ Below w.heap.size w w' := by
  have HS := Lib.hid hS
  have Hm := Lib.hid hm
  have HSR := Lib.hid sr
  clear hS hm sr
  rcases codeL_cases pS S m with ⟨hi, hc⟩ | ⟨hi, hl, hc⟩ | ⟨hi, hl, hc⟩
  · have HI := Lib.hid hi
    have HC := Lib.hid hc
    clear hi hc
    go_enter Tryz.func22, Tryz.ntmps22
    go_wp2_with (first | (go_at_call 40; (with_reducible refine (l03Is_any pS aS S cS loS tpS _ (HS.out.below ((Below.refl _ _).alloc (Nat.le_refl _) (.cells #[.int .i64 pS, .slice aS S.length cS] 24)) tS) (Nat.le_trans tS (((Below.refl _ _).alloc (Nat.le_refl _) (.cells #[.int .i64 pS, .slice aS S.length cS] 24))).size) sS).mono ?_); rintro e w2 ⟨rfl, b2⟩; rw [HI.out]; have B2 := Lib.hid b2; have K2_0_0 := (b2.cell (p := ⟨w.heap.size, 0, none⟩) (Nat.lt_of_lt_of_le (show w.heap.size < (w.alloc (.cells #[.int .i64 pS, .slice aS S.length cS] 24)).heap.size by simp) (Nat.le_refl _))).trans (show (w.alloc (.cells #[.int .i64 pS, .slice aS S.length cS] 24)).cell? ⟨w.heap.size, 0, none⟩ = some (.int .i64 pS) by simp [go_sem]); have K2_0_1 := (b2.cell (p := ⟨w.heap.size, 1, none⟩) (Nat.lt_of_lt_of_le (show w.heap.size < (w.alloc (.cells #[.int .i64 pS, .slice aS S.length cS] 24)).heap.size by simp) (Nat.le_refl _))).trans (show (w.alloc (.cells #[.int .i64 pS, .slice aS S.length cS] 24)).cell? ⟨w.heap.size, 1, none⟩ = some (.slice aS S.length cS) by simp [go_sem]); clear b2))
    go_ret
    exact ⟨by rw [HC.out]; rfl, (below_step ((Below.refl _ _).alloc (Nat.le_refl _) (.cells #[.int .i64 pS, .slice aS S.length cS] 24)) (show w.heap.size ≤ (w.alloc (.cells #[.int .i64 pS, .slice aS S.length cS] 24)).heap.size from (((Below.refl _ _).alloc (Nat.le_refl _) (.cells #[.int .i64 pS, .slice aS S.length cS] 24))).size) B2.out)⟩
  · have HI := Lib.hid hi
    have HC := Lib.hid hc
    have HL := Lib.hid hl
    clear hi hc hl
    go_enter Tryz.func22, Tryz.ntmps22
    go_wp2_with (first | (go_at_call 40; (with_reducible refine (l03Is_any pS aS S cS loS tpS _ (HS.out.below ((Below.refl _ _).alloc (Nat.le_refl _) (.cells #[.int .i64 pS, .slice aS S.length cS] 24)) tS) (Nat.le_trans tS (((Below.refl _ _).alloc (Nat.le_refl _) (.cells #[.int .i64 pS, .slice aS S.length cS] 24))).size) sS).mono ?_); rintro e w2 ⟨rfl, b2⟩; rw [HI.out]; have B2 := Lib.hid b2; have K2_0_0 := (b2.cell (p := ⟨w.heap.size, 0, none⟩) (Nat.lt_of_lt_of_le (show w.heap.size < (w.alloc (.cells #[.int .i64 pS, .slice aS S.length cS] 24)).heap.size by simp) (Nat.le_refl _))).trans (show (w.alloc (.cells #[.int .i64 pS, .slice aS S.length cS] 24)).cell? ⟨w.heap.size, 0, none⟩ = some (.int .i64 pS) by simp [go_sem]); have K2_0_1 := (b2.cell (p := ⟨w.heap.size, 1, none⟩) (Nat.lt_of_lt_of_le (show w.heap.size < (w.alloc (.cells #[.int .i64 pS, .slice aS S.length cS] 24)).heap.size by simp) (Nat.le_refl _))).trans (show (w.alloc (.cells #[.int .i64 pS, .slice aS S.length cS] 24)).cell? ⟨w.heap.size, 1, none⟩ = some (.slice aS S.length cS) by simp [go_sem]); clear b2) | (go_at_call 48; (with_reducible refine (l03List_any pS aS S cS am m cm lom tpm _ (isSp_iff.1 HI.out).prime sS (Hm.out.below (below_step ((Below.refl _ _).alloc (Nat.le_refl _) (.cells #[.int .i64 pS, .slice aS S.length cS] 24)) (show w.heap.size ≤ (w.alloc (.cells #[.int .i64 pS, .slice aS S.length cS] 24)).heap.size from (((Below.refl _ _).alloc (Nat.le_refl _) (.cells #[.int .i64 pS, .slice aS S.length cS] 24))).size) B2.out) tm) (Nat.le_trans tm ((below_step ((Below.refl _ _).alloc (Nat.le_refl _) (.cells #[.int .i64 pS, .slice aS S.length cS] 24)) (show w.heap.size ≤ (w.alloc (.cells #[.int .i64 pS, .slice aS S.length cS] 24)).heap.size from (((Below.refl _ _).alloc (Nat.le_refl _) (.cells #[.int .i64 pS, .slice aS S.length cS] 24))).size) B2.out)).size) sm HSR.out).mono ?_); rintro e w3 ⟨rfl, b3⟩; rw [HL.out]; have B3 := Lib.hid b3; have K3_0_0 := (b3.cell (p := ⟨w.heap.size, 0, none⟩) (Nat.lt_of_lt_of_le (show w.heap.size < (w.alloc (.cells #[.int .i64 pS, .slice aS S.length cS] 24)).heap.size by simp) (Nat.le_trans (Nat.le_refl _) B2.out.size))).trans K2_0_0; clear K2_0_0; have K3_0_1 := (b3.cell (p := ⟨w.heap.size, 1, none⟩) (Nat.lt_of_lt_of_le (show w.heap.size < (w.alloc (.cells #[.int .i64 pS, .slice aS S.length cS] 24)).heap.size by simp) (Nat.le_trans (Nat.le_refl _) B2.out.size))).trans K2_0_1; clear K2_0_1; clear b3))
    go_ret
    exact ⟨by rw [HC.out]; rfl, (below_step (below_step ((Below.refl _ _).alloc (Nat.le_refl _) (.cells #[.int .i64 pS, .slice aS S.length cS] 24)) (show w.heap.size ≤ (w.alloc (.cells #[.int .i64 pS, .slice aS S.length cS] 24)).heap.size from (((Below.refl _ _).alloc (Nat.le_refl _) (.cells #[.int .i64 pS, .slice aS S.length cS] 24))).size) B2.out) (show w.heap.size ≤ w2.heap.size from ((below_step ((Below.refl _ _).alloc (Nat.le_refl _) (.cells #[.int .i64 pS, .slice aS S.length cS] 24)) (show w.heap.size ≤ (w.alloc (.cells #[.int .i64 pS, .slice aS S.length cS] 24)).heap.size from (((Below.refl _ _).alloc (Nat.le_refl _) (.cells #[.int .i64 pS, .slice aS S.length cS] 24))).size) B2.out)).size) B3.out)⟩
  · have HI := Lib.hid hi
    have HC := Lib.hid hc
    have HL := Lib.hid hl
    clear hi hc hl
    go_enter Tryz.func22, Tryz.ntmps22
    go_wp2_with (first | (go_at_call 40; (with_reducible refine (l03Is_any pS aS S cS loS tpS _ (HS.out.below ((Below.refl _ _).alloc (Nat.le_refl _) (.cells #[.int .i64 pS, .slice aS S.length cS] 24)) tS) (Nat.le_trans tS (((Below.refl _ _).alloc (Nat.le_refl _) (.cells #[.int .i64 pS, .slice aS S.length cS] 24))).size) sS).mono ?_); rintro e w2 ⟨rfl, b2⟩; rw [HI.out]; have B2 := Lib.hid b2; have K2_0_0 := (b2.cell (p := ⟨w.heap.size, 0, none⟩) (Nat.lt_of_lt_of_le (show w.heap.size < (w.alloc (.cells #[.int .i64 pS, .slice aS S.length cS] 24)).heap.size by simp) (Nat.le_refl _))).trans (show (w.alloc (.cells #[.int .i64 pS, .slice aS S.length cS] 24)).cell? ⟨w.heap.size, 0, none⟩ = some (.int .i64 pS) by simp [go_sem]); have K2_0_1 := (b2.cell (p := ⟨w.heap.size, 1, none⟩) (Nat.lt_of_lt_of_le (show w.heap.size < (w.alloc (.cells #[.int .i64 pS, .slice aS S.length cS] 24)).heap.size by simp) (Nat.le_refl _))).trans (show (w.alloc (.cells #[.int .i64 pS, .slice aS S.length cS] 24)).cell? ⟨w.heap.size, 1, none⟩ = some (.slice aS S.length cS) by simp [go_sem]); clear b2) | (go_at_call 48; (with_reducible refine (l03List_any pS aS S cS am m cm lom tpm _ (isSp_iff.1 HI.out).prime sS (Hm.out.below (below_step ((Below.refl _ _).alloc (Nat.le_refl _) (.cells #[.int .i64 pS, .slice aS S.length cS] 24)) (show w.heap.size ≤ (w.alloc (.cells #[.int .i64 pS, .slice aS S.length cS] 24)).heap.size from (((Below.refl _ _).alloc (Nat.le_refl _) (.cells #[.int .i64 pS, .slice aS S.length cS] 24))).size) B2.out) tm) (Nat.le_trans tm ((below_step ((Below.refl _ _).alloc (Nat.le_refl _) (.cells #[.int .i64 pS, .slice aS S.length cS] 24)) (show w.heap.size ≤ (w.alloc (.cells #[.int .i64 pS, .slice aS S.length cS] 24)).heap.size from (((Below.refl _ _).alloc (Nat.le_refl _) (.cells #[.int .i64 pS, .slice aS S.length cS] 24))).size) B2.out)).size) sm HSR.out).mono ?_); rintro e w3 ⟨rfl, b3⟩; rw [HL.out]; have B3 := Lib.hid b3; have K3_0_0 := (b3.cell (p := ⟨w.heap.size, 0, none⟩) (Nat.lt_of_lt_of_le (show w.heap.size < (w.alloc (.cells #[.int .i64 pS, .slice aS S.length cS] 24)).heap.size by simp) (Nat.le_trans (Nat.le_refl _) B2.out.size))).trans K2_0_0; clear K2_0_0; have K3_0_1 := (b3.cell (p := ⟨w.heap.size, 1, none⟩) (Nat.lt_of_lt_of_le (show w.heap.size < (w.alloc (.cells #[.int .i64 pS, .slice aS S.length cS] 24)).heap.size by simp) (Nat.le_trans (Nat.le_refl _) B2.out.size))).trans K2_0_1; clear K2_0_1; clear b3))
    go_ret
    exact ⟨by rw [HC.out]; rfl, (below_step (below_step ((Below.refl _ _).alloc (Nat.le_refl _) (.cells #[.int .i64 pS, .slice aS S.length cS] 24)) (show w.heap.size ≤ (w.alloc (.cells #[.int .i64 pS, .slice aS S.length cS] 24)).heap.size from (((Below.refl _ _).alloc (Nat.le_refl _) (.cells #[.int .i64 pS, .slice aS S.length cS] 24))).size) B2.out) (show w.heap.size ≤ w2.heap.size from ((below_step ((Below.refl _ _).alloc (Nat.le_refl _) (.cells #[.int .i64 pS, .slice aS S.length cS] 24)) (show w.heap.size ≤ (w.alloc (.cells #[.int .i64 pS, .slice aS S.length cS] 24)).heap.size from (((Below.refl _ _).alloc (Nat.le_refl _) (.cells #[.int .i64 pS, .slice aS S.length cS] 24))).size) B2.out)).size) B3.out)⟩

theorem codeL_sp' {p : Int} {S : List Int} {m : List (List Int)} (h : codeL p S m = 0) : S.length ≤ 6 := by
  rcases codeL_cases p S m with ⟨_, hc⟩ | ⟨hi, _, _⟩ | ⟨hi, _, _⟩
  · rw [hc] at h; cases h
  · exact (isSp_iff.1 hi).hi
  · exact (isSp_iff.1 hi).hi
end Go.Proofs.YthbkfpkeofpocaaGreat

namespace Go.Proofs.YthbkfpkeofpocaaGreat
open Go.RowKit
set_option linter.unusedVariables false

/-- Whether a term of grade g has come. -/
def cm (x : List Int) (left : Lit → Bool) (g : Nat) : Bool := (List.range x.length).any fun j => decide (gr j = g) && decide (x.getD j 0 ≠ 0) && !(td left j)
end Go.Proofs.YthbkfpkeofpocaaGreat

namespace Go.Proofs.YthbkfpkeofpocaaGreat
open Go.RowKit
set_option linter.unusedVariables false

theorem OutR.more {B : Nat} {w1 : World} {v' : Value} {zs ys : List Int} {N : Nat} {X : List Value} {k : Int} (hX : X = zs.map (Value.int .i64)) (hN : N = zs.length) (hs : ys = zs ++ [k]) (h1 : w1.ownsRow B 2 1 v' (N + 1) (X ++ [.int .i64 k])) : OutR B w1 v' ys := by
  subst hs hN hX
  unfold OutR
  rw [List.length_append, List.map_append]
  exact h1
end Go.Proofs.YthbkfpkeofpocaaGreat

namespace Go.Proofs.YthbkfpkeofpocaaGreat
open Go.RowKit
set_option linter.unusedVariables false

/-- The greatest of the first numbers. -/
def mxF (z : List Int) : Nat → Int
  | 0 => z.getD 0 0
  | k + 1 => if mxF z k < z.getD (k + 1) 0 then z.getD (k + 1) 0 else mxF z k
theorem mxF_le (z : List Int) : ∀ k j, j ≤ k → z.getD j 0 ≤ mxF z k
  | 0, j, h => by rw [show j = 0 by omega]; exact Int.le_refl _
  | k + 1, j, h => by
    show _ ≤ if mxF z k < z.getD (k + 1) 0 then z.getD (k + 1) 0 else mxF z k
    by_cases e : j = k + 1
    · subst e; split <;> omega
    · have := mxF_le z k j (by omega)
      split <;> omega
theorem mxF_at (z : List Int) : ∀ k, ∃ j, j ≤ k ∧ mxF z k = z.getD j 0
  | 0 => ⟨0, Nat.le_refl _, rfl⟩
  | k + 1 => by
    obtain ⟨j, h1, h2⟩ := mxF_at z k
    by_cases e : mxF z k < z.getD (k + 1) 0
    · exact ⟨k + 1, Nat.le_refl _, if_pos e⟩
    · exact ⟨j, by omega, by rw [← h2]; exact if_neg e⟩
def allZ (z : List Int) : Bool := (List.range z.length).all fun j => decide (z.getD j 0 = 0)
theorem allZ_iff {z : List Int} : allZ z = true ↔ ∀ j, j < z.length → z.getD j 0 = 0 := by
  unfold allZ; simp only [List.all_eq_true, List.mem_range, decide_eq_true_eq]
theorem mx_zero {z : List Int} (h0 : 0 < z.length) (hn : ∀ j, j < z.length → 0 ≤ z.getD j 0) : (mxF z (z.length - 1) == 0) = allZ z := by
  rw [Bool.eq_iff_iff, beq_iff_eq, allZ_iff]
  constructor
  · intro h j hj
    have := mxF_le z (z.length - 1) j (by omega)
    have := hn j hj
    omega
  · intro h
    obtain ⟨j, h1, h2⟩ := mxF_at z (z.length - 1)
    rw [h2]; exact h j (by omega)
set_option maxHeartbeats 1600000 in
theorem max_any (a : Option Addr) (z : List Int) (ca lo tp : Nat) (w : World) (hz : RowIn lo tp w a z) (h0 : 0 < z.length) (hl : z.length ≤ 1048576) :
    Calls Tryz.prog 71 #[.slice a z.length ca] w fun e w' => e = .returned (.int .i64 (mxF z (z.length - 1))) ∧ w = w' := by
  have HZ := Lib.hid hz
  obtain ⟨b1, o1, ha1, _, _, hc1⟩ := hz.num h0
  subst ha1
  have hi0 : ¬ ((z.length : Int) < 1) := by omega
  have hi1 : (0 : Int) < (z.length : Int) := by omega
  rw [Nat.add_zero] at hc1
  obtain ⟨X0, hX0⟩ : ∃ x, x = z.getD 0 0 := ⟨_, rfl⟩
  rw [← hX0] at hc1
  have HX0 := Lib.hid hX0
  clear hz hX0
  go_enter Tryz.func71, Tryz.ntmps71
  go_wp2
  clear hc1
  go_loop [3, 4] (fun u t => ∃ i : Nat, i < z.length ∧ u = .int .i64 (mxF z i) ∧ t = .int .i64 ((i + 1 : Nat) : Int)) (fun _ t => z.length - (intOf t).toNat)
  case atStart => exact ⟨0, h0, by rw [HX0.out]; rfl, by simp⟩
  case round =>
    obtain ⟨i, hi, rfl, rfl⟩ := hrel
    by_cases hlt : i + 1 < z.length
    · have hi2 : ((i + 1 : Nat) : Int) < (z.length : Int) := by omega
      obtain ⟨b2, o2, ha2, _, _, hc2⟩ := HZ.out.num hlt
      cases ha2
      obtain ⟨x, hx⟩ : ∃ x, x = mxF z i := ⟨_, rfl⟩
      obtain ⟨y, hy⟩ : ∃ y, y = z.getD (i + 1) 0 := ⟨_, rfl⟩
      have HS : Hid (mxF z (i + 1) = if x < y then y else x) := by show _ = _; rw [hx, hy]; rfl
      rw [← hy] at hc2
      rw [← hx]
      clear hx hy
      go_wp2
      go_round
      case rel => exact ⟨i + 1, hlt, by (rw [HS.out]; try (congr 1; split <;> omega)), by go_num⟩
      case measure => simp [intOf]; omega
    · have hin : i = z.length - 1 := by omega
      have hi2 : ¬ (((i + 1 : Nat) : Int) < (z.length : Int)) := by omega
      have HIN := Lib.hid hin
      clear hin
      go_wp2
      go_ret
      exact ⟨by rw [← HIN.out]; rfl, rfl⟩

set_option maxHeartbeats 1600000 in
theorem equal_any (a b : Option Addr) (za zb : List Int) (ca cb lo tp lo' tp' : Nat) (w : World) (ha : RowIn lo tp w a za) (hb : RowIn lo' tp' w b zb) (sa : za.length ≤ 1048576) :
    Calls Tryz.prog 78 #[.slice a za.length ca, .slice b zb.length cb] w fun e w' => e = .returned (.bool (decide (za = zb))) ∧ Quiet w w' := by
  have HA := Lib.hid ha
  have HB := Lib.hid hb
  clear ha hb
  by_cases hl : za.length = zb.length
  · have HL := Lib.hid hl
    obtain ⟨n, hn⟩ : ∃ n, n = zb.length := ⟨_, rfl⟩
    have HN := Lib.hid hn
    rw [hl] at sa ⊢
    rw [← hn] at sa ⊢
    clear hl hn
    go_enter Tryz.func78, Tryz.ntmps78
    go_wp2
    go_loopw [13] (fun t wr => ∃ i : Nat, i ≤ n ∧ t = .int .i64 i ∧ (∀ j, j < i → za.getD j 0 = zb.getD j 0) ∧ Quiet w wr) (fun t _ => n - (intOf t).toNat)
    case atStart => exact ⟨0, Nat.zero_le _, rfl, fun j hj => by omega, Quiet.refl _⟩
    case round =>
      obtain ⟨i, hi, rfl, hall, hq⟩ := hrel
      have HQ := Lib.hid hq
      have HALL := Lib.hid hall
      by_cases hlt : i < n
      · obtain ⟨b1, o1, ha1, _, _, hc1⟩ := (HA.out.same (hq.same _ _)).num (show i < za.length by rw [HL.out, ← HN.out]; exact hlt)
        obtain ⟨b2, o2, ha2, _, _, hc2⟩ := (HB.out.same (hq.same _ _)).num (show i < zb.length by rw [← HN.out]; exact hlt)
        subst ha1
        subst ha2
        have hi1 : (i : Int) < (n : Int) := by omega
        obtain ⟨x, hx⟩ : ∃ x, x = za.getD i 0 := ⟨_, rfl⟩
        obtain ⟨y, hy⟩ : ∃ y, y = zb.getD i 0 := ⟨_, rfl⟩
        have HX := Lib.hid hx
        have HY := Lib.hid hy
        rw [← hx] at hc1
        rw [← hy] at hc2
        clear hx hy hall hq
        by_cases hxy : x = y
        · have e1 : (x != y) = false := by simp [hxy]
          have HXY := Lib.hid hxy
          clear hxy
          go_wp2
          go_quiet (fail)
          go_wp2
          go_roundw
          case rel => exact ⟨i + 1, by omega, by go_num, fun j hj => by
            by_cases e : j = i
            · subst e; rw [← HX.out, ← HY.out, HXY.out]
            · exact HALL.out j (by omega), HQ.out.next _⟩
          case measure => simp [intOf]; omega
        · have e1 : (x != y) = true := by simp [hxy]
          have HR : Hid (decide (za = zb) = false) := decide_eq_false fun e => hxy (by rw [HX.out, HY.out, e])
          clear hxy
          go_wp2
          go_quiet (fail)
          go_wp2
          go_ret
          exact ⟨by rw [HR.out]; rfl, HQ.out.next _⟩
      · have hin : i = n := by omega
        subst hin
        have HR : Hid (decide (za = zb) = true) := decide_eq_true (row_ext HL.out (fun j hj => hall j (by rw [HN.out, ← HL.out]; exact hj)))
        clear hall hq
        go_wp2
        go_ret
        exact ⟨by rw [HR.out]; rfl, HQ.out⟩
  · have HR : Hid (decide (za = zb) = false) := decide_eq_false fun e => hl (by rw [e])
    obtain ⟨n, hn⟩ : ∃ n, n = za.length := ⟨_, rfl⟩
    obtain ⟨m, hm⟩ : ∃ m, m = zb.length := ⟨_, rfl⟩
    rw [← hn, ← hm] at hl ⊢
    have hl2 : ((n : Int) != (m : Int)) = true := by simp; omega
    go_enter Tryz.func78, Tryz.ntmps78
    go_wp2
    go_ret
    exact ⟨by rw [HR.out]; rfl, Quiet.refl _⟩

end Go.Proofs.YthbkfpkeofpocaaGreat
