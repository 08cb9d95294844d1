/-
  Lists of vectors of a space, in the program and in the model.
  Conditions: the lists are nil or rows of known cells, of at most 1048576 numbers.
-/
import Derived.Test.YtcamegdjdjacpaaPof
namespace Go.Proofs.Ytcamegdjdjacpaa
open Go.RowKit
set_option linter.unusedVariables false

def listB (p : Int) (S : List Int) (m : List (List Int)) : Bool := m.all (isVec p S.length) && decide (m.length ≤ 16)
def codeL (p : Int) (S : List Int) (m : List (List Int)) : Int := if isSp p S = true then (if listB p S m = true then 0 else 2) else 1
theorem codeL_sp {p : Int} {S : List Int} {m : List (List Int)} (h : isSp p S = false) : codeL p S m = 1 := if_neg (by simp [h])
theorem codeL_ok {p : Int} {S : List Int} {m : List (List Int)} (h : isSp p S = true) (k : listB p S m = true) : codeL p S m = 0 := by unfold codeL; rw [if_pos h, if_pos k]
theorem codeL_no {p : Int} {S : List Int} {m : List (List Int)} (h : isSp p S = true) (k : listB p S m = false) : codeL p S m = 2 := by unfold codeL; rw [if_pos h, if_neg (by simp [k])]
theorem codeL_cases (p : Int) (S : List Int) (m : List (List Int)) : (isSp p S = false ∧ codeL p S m = 1) ∨ (isSp p S = true ∧ listB p S m = true ∧ codeL p S m = 0) ∨ (isSp p S = true ∧ listB p S m = false ∧ codeL p S m = 2) := by
  by_cases h : isSp p S = true
  · by_cases k : listB p S m = true
    · exact .inr (.inl ⟨h, k, codeL_ok h k⟩)
    · have k' : listB p S m = false := by simpa using k
      exact .inr (.inr ⟨h, k', codeL_no h k'⟩)
  · have h' : isSp p S = false := by simpa using h
    exact .inl ⟨h', codeL_sp h'⟩
/-- What a list of vectors is. -/
theorem listB_iff {p : Int} {S : List Int} {m : List (List Int)} (h : listB p S m = true) : m.length ≤ 16 ∧ ∀ i, i < m.length → isVec p S.length (rw' m i) = true := by
  unfold listB at h
  rw [Bool.and_eq_true, List.all_eq_true] at h
  exact ⟨of_decide_eq_true h.2, fun i hi => h.1 _ (mem_row hi)⟩

theorem checkList_any (pS : Int) (aS : Option Addr) (S : List Int) (cS loS tpS : Nat) (am : Option Addr) (m : List (List Int)) (cm lom tpm : Nat) (w : World)
    (hS : RowIn loS tpS w aS S) (tS : tpS ≤ w.heap.size) (sS : S.length ≤ 1048576) (hm : MatIn lom tpm w am m) (tm : tpm ≤ w.heap.size) (sm : m.length ≤ 1048576) (sr : ∀ i, i < m.length → (rw' m i).length ≤ 1048576) :
    Calls Try.prog 132 #[.agg #[.int .i64 pS, .slice aS S.length cS], .slice am m.length cm] w fun e w' => e = .returned (.int .i64 (codeL pS S m)) ∧ Below w.heap.size w w' := by
  have HS := Lib.hid hS
  have HM := Lib.hid hm
  have HT := Lib.hid sr
  have HBB := Lib.hid (below_alloc w (.cells #[.int .i64 pS, .slice aS S.length cS] 26))
  have HSA := Lib.hid (hS.below HBB.out tS)
  have HMA := Lib.hid (hm.below HBB.out tm)
  have HZ := Lib.hid HBB.out.size
  clear hS hm sr
  rcases codeVs_cases pS S m with ⟨hi, hc⟩ | ⟨hi, ha, hc⟩ | ⟨hi, ha, hc⟩
  · have HC := Lib.hid hc
    have HV := Lib.hid (codeL_sp (m := m) hi)
    clear hi hc
    go_enter Try.func132, Try.ntmps132
    go_wp2_with (go_at_call 95; (with_reducible refine (checkVectors_any pS aS S cS loS tpS am m cm lom tpm _ HSA.out (Nat.le_trans tS HZ.out) sS HMA.out (Nat.le_trans tm HZ.out) sm HT.out).mono ?_); rintro e w2 ⟨rfl, hb⟩; rw [HC.out]; have HB := Lib.hid hb; clear hb)
    go_ret
    exact ⟨by rw [HV.out]; rfl, HBB.out.trans (HB.out.mono HZ.out)⟩
  · by_cases h16 : m.length ≤ 16
    · have e1 : (m.length : Int) ≤ 16 := by omega
      have HC := Lib.hid hc
      have HV := Lib.hid (codeL_ok (m := m) hi (by unfold listB; rw [ha]; simp [h16]))
      clear hi hc ha
      go_enter Try.func132, Try.ntmps132
      go_wp2_with (go_at_call 95; (with_reducible refine (checkVectors_any pS aS S cS loS tpS am m cm lom tpm _ HSA.out (Nat.le_trans tS HZ.out) sS HMA.out (Nat.le_trans tm HZ.out) sm HT.out).mono ?_); rintro e w2 ⟨rfl, hb⟩; rw [HC.out]; have HB := Lib.hid hb; clear hb)
      go_ret
      exact ⟨by rw [HV.out]; rfl, HBB.out.trans (HB.out.mono HZ.out)⟩
    · have e1 : ¬ (m.length : Int) ≤ 16 := by omega
      have e2 : (16 : Int) < (m.length : Int) := by omega
      have HC := Lib.hid hc
      have HV := Lib.hid (codeL_no (m := m) hi (by unfold listB; rw [ha]; simp; omega))
      clear hi hc ha
      go_enter Try.func132, Try.ntmps132
      go_wp2_with (go_at_call 95; (with_reducible refine (checkVectors_any pS aS S cS loS tpS am m cm lom tpm _ HSA.out (Nat.le_trans tS HZ.out) sS HMA.out (Nat.le_trans tm HZ.out) sm HT.out).mono ?_); rintro e w2 ⟨rfl, hb⟩; rw [HC.out]; have HB := Lib.hid hb; clear hb)
      go_ret
      exact ⟨by rw [HV.out]; rfl, HBB.out.trans (HB.out.mono HZ.out)⟩
  · have HC := Lib.hid hc
    have HV := Lib.hid (codeL_no (m := m) hi (by unfold listB; rw [ha]; rfl))
    clear hi hc ha
    go_enter Try.func132, Try.ntmps132
    go_wp2_with (go_at_call 95; (with_reducible refine (checkVectors_any pS aS S cS loS tpS am m cm lom tpm _ HSA.out (Nat.le_trans tS HZ.out) sS HMA.out (Nat.le_trans tm HZ.out) sm HT.out).mono ?_); rintro e w2 ⟨rfl, hb⟩; rw [HC.out]; have HB := Lib.hid hb; clear hb)
    go_ret
    exact ⟨by rw [HV.out]; rfl, HBB.out.trans (HB.out.mono HZ.out)⟩

end Go.Proofs.Ytcamegdjdjacpaa
