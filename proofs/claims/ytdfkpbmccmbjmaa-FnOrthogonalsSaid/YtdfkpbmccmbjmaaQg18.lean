/-
  OrthogonalTo: contracts of the program and of the model.
  Conditions: the lists are nil or rows of known cells, of at most 1048576 numbers.
-/
import Derived.Test.YtdfkpbmccmbjmaaQg16
import Derived.Test.YtdfkpbmccmbjmaaQg17
import Derived.Test.YtdfkpbmccmbjmaaQg15
namespace Go.Proofs.Ytdfkpbmccmbjmaa
open Go.RowKit
set_option linter.unusedVariables false

noncomputable def ortV (p : Int) (S : List Int) (m : List (List Int)) : List (List Int) := if codeL p S m = 0 then ortB p S m else []
theorem ortV_size (p : Int) (S : List Int) (m : List (List Int)) : (ortV p S m).length + tot (ortV p S m) (ortV p S m).length ≤ 1048576 := by
  unfold ortV
  split
  · rename_i h
    rcases codeL_cases p S m with ⟨hs, hc⟩ | ⟨hs, hl, hc⟩ | ⟨hs, hl, hc⟩
    · omega
    · have K := isSp_iff.1 hs
      have s0 := K.lo
      have s1 := K.hi
      unfold ortB
      split
      · exact mk_size (by omega) (by omega)
      · rename_i h0
        have h2 := kerP_lst (ort_lst K.prime s0 s1 (show 0 < m.length by omega) (listB_iff hl).1)
        have e : kerB p (ortM p S m) = basV p (kerP p (ortM p S m)) := by unfold basV; rw [if_pos h2]; rfl
        rw [e]; exact basV_size p _
    · omega
  · simp [tot]
theorem ort_wide {p : Int} {S : List Int} {m : List (List Int)} (hs : isSp p S = true) (hl : listB p S m = true) : RowsW p (zrow S.length :: ortM p S m) := by
  have K := isSp_iff.1 hs
  have s0 := K.lo
  have s1 := K.hi
  have h16 := (listB_iff hl).1
  have el : (ortM p S m).length = m.length := mk_len _ _ _
  have e0 : (rw' (zrow S.length :: ortM p S m) 0).length = S.length := zrow_len _
  have hp := prm_bd K.prime
  refine ⟨K.prime, by simp, by simp [el]; omega, by omega, by omega, fun i hi => ?_, fun i hi j hj => ?_⟩
  · rw [e0]
    cases i with
    | zero => exact zrow_len _
    | succ i => exact mk_rowLen (n := m.length) _ (by simp [el] at hi; omega)
  · rw [e0] at hj
    cases i with
    | zero =>
      rw [at_cons0]
      have : num (zrow S.length) j = 0 := mkR_at _ hj
      rw [this]; omega
    | succ i =>
      rw [at_cons]
      have hi' : i < m.length := by simp [el] at hi; omega
      have : at' (ortM p S m) i j = ortF p S m i j := mk_at _ hi' hj
      rw [this]
      exact mod_bd K.prime _
theorem ort_ker {p : Int} {S : List Int} {m : List (List Int)} (hs : isSp p S = true) : kerB p (zrow S.length :: ortM p S m) = ortB p S m := by
  have K := isSp_iff.1 hs
  have s0 := K.lo
  have hp := prm_bd K.prime
  unfold ortB
  split
  · rename_i h
    have : ortM p S m = [] := List.eq_nil_of_length_eq_zero (by rw [ortM, mk_len]; exact h)
    rw [this]
    exact ker_zrow (by omega) s0
  · rename_i h
    exact ker_zero (by omega) (mk_rowLen _ (by omega))

set_option maxRecDepth 100000 in
set_option maxHeartbeats 1600000 in
theorem spec_OrthogonalTo (pS : Int) (aS : Option Addr) (S : List Int) (cS loS tpS : Nat) (am : Option Addr) (m : List (List Int)) (cm lom tpm : Nat) (w : World)
    (hS : RowIn loS tpS w aS S) (tS : tpS ≤ w.heap.size) (sS : S.length ≤ 1048576) (hm : MatIn lom tpm w am m) (tm : tpm ≤ w.heap.size) (sm : m.length + tot m m.length ≤ 1048576) :
    Calls Try.prog 7 #[.agg #[.int .i64 pS, .slice aS S.length cS], .slice am m.length cm] w (SpecM (ortV pS S m) (codeL pS S m) w) := by
  have HS := Lib.hid hS
  have Hm := Lib.hid hm
  have sm1 : m.length ≤ 1048576 := by omega
  have SR : Hid (∀ i, i < m.length → (rw' m i).length ≤ 1048576) := fun i hi => by have := tot_row hi; omega
  clear hS hm sm
  rcases codeL_cases pS S m with ⟨hs, hc⟩ | ⟨hs, hl, hc⟩ | ⟨hs, hl, hc⟩
  · have HI := Lib.hid hs
    have HC := Lib.hid hc
    have HV : Hid (ortV pS S m = []) := by show _ = _; unfold ortV; rw [if_neg (by rw [hc]; decide)]
    clear hs hc
    go_enter Try.func7, Try.ntmps7
    go_wp2_with (first | (go_at_call 20; (with_reducible refine (l03Is_any pS aS S cS loS tpS _ (HS.out.below ((Below.refl _ _).alloc (Nat.le_refl _) (.cells #[.int .i64 pS, .slice aS S.length cS] 26)) tS) (Nat.le_trans tS (((Below.refl _ _).alloc (Nat.le_refl _) (.cells #[.int .i64 pS, .slice aS S.length cS] 26))).size) sS).mono ?_); rintro e w2 ⟨rfl, b2⟩; rw [HI.out]; have B2 := Lib.hid b2; have K2_0_0 := (b2.cell (p := ⟨w.heap.size, 0, none⟩) (Nat.lt_of_lt_of_le (show w.heap.size < (w.alloc (.cells #[.int .i64 pS, .slice aS S.length cS] 26)).heap.size by simp) (Nat.le_refl _))).trans (show (w.alloc (.cells #[.int .i64 pS, .slice aS S.length cS] 26)).cell? ⟨w.heap.size, 0, none⟩ = some (.int .i64 pS) by simp [go_sem]); have K2_0_1 := (b2.cell (p := ⟨w.heap.size, 1, none⟩) (Nat.lt_of_lt_of_le (show w.heap.size < (w.alloc (.cells #[.int .i64 pS, .slice aS S.length cS] 26)).heap.size by simp) (Nat.le_refl _))).trans (show (w.alloc (.cells #[.int .i64 pS, .slice aS S.length cS] 26)).cell? ⟨w.heap.size, 1, none⟩ = some (.slice aS S.length cS) by simp [go_sem]); clear b2))
    go_ret2
    rw [HV.out, HC.out]
    exact ⟨none, 0, rfl, .inl rfl, (below_step ((Below.refl _ _).alloc (Nat.le_refl _) (.cells #[.int .i64 pS, .slice aS S.length cS] 26)) (show w.heap.size ≤ (w.alloc (.cells #[.int .i64 pS, .slice aS S.length cS] 26)).heap.size from (((Below.refl _ _).alloc (Nat.le_refl _) (.cells #[.int .i64 pS, .slice aS S.length cS] 26))).size) B2.out)⟩
  · have HI := Lib.hid hs
    have HC := Lib.hid hc
    have HL := Lib.hid hl
    have HP := Lib.hid (isSp_iff.1 hs).prime
    have HV : Hid (ortV pS S m = ortB pS S m) := by show _ = _; unfold ortV; rw [if_pos hc]
    clear hs hc hl
    go_enter Try.func7, Try.ntmps7
    go_wp2_with (first | (go_at_call 20; (with_reducible refine (l03Is_any pS aS S cS loS tpS _ (HS.out.below ((Below.refl _ _).alloc (Nat.le_refl _) (.cells #[.int .i64 pS, .slice aS S.length cS] 26)) tS) (Nat.le_trans tS (((Below.refl _ _).alloc (Nat.le_refl _) (.cells #[.int .i64 pS, .slice aS S.length cS] 26))).size) sS).mono ?_); rintro e w2 ⟨rfl, b2⟩; rw [HI.out]; have B2 := Lib.hid b2; have K2_0_0 := (b2.cell (p := ⟨w.heap.size, 0, none⟩) (Nat.lt_of_lt_of_le (show w.heap.size < (w.alloc (.cells #[.int .i64 pS, .slice aS S.length cS] 26)).heap.size by simp) (Nat.le_refl _))).trans (show (w.alloc (.cells #[.int .i64 pS, .slice aS S.length cS] 26)).cell? ⟨w.heap.size, 0, none⟩ = some (.int .i64 pS) by simp [go_sem]); have K2_0_1 := (b2.cell (p := ⟨w.heap.size, 1, none⟩) (Nat.lt_of_lt_of_le (show w.heap.size < (w.alloc (.cells #[.int .i64 pS, .slice aS S.length cS] 26)).heap.size by simp) (Nat.le_refl _))).trans (show (w.alloc (.cells #[.int .i64 pS, .slice aS S.length cS] 26)).cell? ⟨w.heap.size, 1, none⟩ = some (.slice aS S.length cS) by simp [go_sem]); clear b2) | (go_at_call 21; (with_reducible refine (l03List_any pS aS S cS am m cm lom tpm _ HP.out sS (Hm.out.below (below_step ((Below.refl _ _).alloc (Nat.le_refl _) (.cells #[.int .i64 pS, .slice aS S.length cS] 26)) (show w.heap.size ≤ (w.alloc (.cells #[.int .i64 pS, .slice aS S.length cS] 26)).heap.size from (((Below.refl _ _).alloc (Nat.le_refl _) (.cells #[.int .i64 pS, .slice aS S.length cS] 26))).size) B2.out) tm) (Nat.le_trans tm ((below_step ((Below.refl _ _).alloc (Nat.le_refl _) (.cells #[.int .i64 pS, .slice aS S.length cS] 26)) (show w.heap.size ≤ (w.alloc (.cells #[.int .i64 pS, .slice aS S.length cS] 26)).heap.size from (((Below.refl _ _).alloc (Nat.le_refl _) (.cells #[.int .i64 pS, .slice aS S.length cS] 26))).size) B2.out)).size) sm1 SR.out).mono ?_); rintro e w3 ⟨rfl, b3⟩; rw [HL.out]; have B3 := Lib.hid b3; have K3_0_0 := (b3.cell (p := ⟨w.heap.size, 0, none⟩) (Nat.lt_of_lt_of_le (show w.heap.size < (w.alloc (.cells #[.int .i64 pS, .slice aS S.length cS] 26)).heap.size by simp) (Nat.le_trans (Nat.le_refl _) B2.out.size))).trans K2_0_0; clear K2_0_0; have K3_0_1 := (b3.cell (p := ⟨w.heap.size, 1, none⟩) (Nat.lt_of_lt_of_le (show w.heap.size < (w.alloc (.cells #[.int .i64 pS, .slice aS S.length cS] 26)).heap.size by simp) (Nat.le_trans (Nat.le_refl _) B2.out.size))).trans K2_0_1; clear K2_0_1; clear b3) | (go_at_call 22; (with_reducible refine (l03Orthogonal_any pS aS S cS loS tpS am m cm lom tpm _ (HS.out.below (below_step (below_step ((Below.refl _ _).alloc (Nat.le_refl _) (.cells #[.int .i64 pS, .slice aS S.length cS] 26)) (show w.heap.size ≤ (w.alloc (.cells #[.int .i64 pS, .slice aS S.length cS] 26)).heap.size from (((Below.refl _ _).alloc (Nat.le_refl _) (.cells #[.int .i64 pS, .slice aS S.length cS] 26))).size) B2.out) (show w.heap.size ≤ w2.heap.size from ((below_step ((Below.refl _ _).alloc (Nat.le_refl _) (.cells #[.int .i64 pS, .slice aS S.length cS] 26)) (show w.heap.size ≤ (w.alloc (.cells #[.int .i64 pS, .slice aS S.length cS] 26)).heap.size from (((Below.refl _ _).alloc (Nat.le_refl _) (.cells #[.int .i64 pS, .slice aS S.length cS] 26))).size) B2.out)).size) B3.out) tS) (Nat.le_trans tS ((below_step (below_step ((Below.refl _ _).alloc (Nat.le_refl _) (.cells #[.int .i64 pS, .slice aS S.length cS] 26)) (show w.heap.size ≤ (w.alloc (.cells #[.int .i64 pS, .slice aS S.length cS] 26)).heap.size from (((Below.refl _ _).alloc (Nat.le_refl _) (.cells #[.int .i64 pS, .slice aS S.length cS] 26))).size) B2.out) (show w.heap.size ≤ w2.heap.size from ((below_step ((Below.refl _ _).alloc (Nat.le_refl _) (.cells #[.int .i64 pS, .slice aS S.length cS] 26)) (show w.heap.size ≤ (w.alloc (.cells #[.int .i64 pS, .slice aS S.length cS] 26)).heap.size from (((Below.refl _ _).alloc (Nat.le_refl _) (.cells #[.int .i64 pS, .slice aS S.length cS] 26))).size) B2.out)).size) B3.out)).size) (Hm.out.below (below_step (below_step ((Below.refl _ _).alloc (Nat.le_refl _) (.cells #[.int .i64 pS, .slice aS S.length cS] 26)) (show w.heap.size ≤ (w.alloc (.cells #[.int .i64 pS, .slice aS S.length cS] 26)).heap.size from (((Below.refl _ _).alloc (Nat.le_refl _) (.cells #[.int .i64 pS, .slice aS S.length cS] 26))).size) B2.out) (show w.heap.size ≤ w2.heap.size from ((below_step ((Below.refl _ _).alloc (Nat.le_refl _) (.cells #[.int .i64 pS, .slice aS S.length cS] 26)) (show w.heap.size ≤ (w.alloc (.cells #[.int .i64 pS, .slice aS S.length cS] 26)).heap.size from (((Below.refl _ _).alloc (Nat.le_refl _) (.cells #[.int .i64 pS, .slice aS S.length cS] 26))).size) B2.out)).size) B3.out) tm) (Nat.le_trans tm ((below_step (below_step ((Below.refl _ _).alloc (Nat.le_refl _) (.cells #[.int .i64 pS, .slice aS S.length cS] 26)) (show w.heap.size ≤ (w.alloc (.cells #[.int .i64 pS, .slice aS S.length cS] 26)).heap.size from (((Below.refl _ _).alloc (Nat.le_refl _) (.cells #[.int .i64 pS, .slice aS S.length cS] 26))).size) B2.out) (show w.heap.size ≤ w2.heap.size from ((below_step ((Below.refl _ _).alloc (Nat.le_refl _) (.cells #[.int .i64 pS, .slice aS S.length cS] 26)) (show w.heap.size ≤ (w.alloc (.cells #[.int .i64 pS, .slice aS S.length cS] 26)).heap.size from (((Below.refl _ _).alloc (Nat.le_refl _) (.cells #[.int .i64 pS, .slice aS S.length cS] 26))).size) B2.out)).size) B3.out)).size) HI.out HL.out).mono ?_); rintro e w4 ⟨r4, k4, rfl, o4, b4⟩; have B4 := Lib.hid b4; have K4_0_0 := (b4.cell (p := ⟨w.heap.size, 0, none⟩) (Nat.lt_of_lt_of_le (show w.heap.size < (w.alloc (.cells #[.int .i64 pS, .slice aS S.length cS] 26)).heap.size by simp) (Nat.le_trans (Nat.le_trans (Nat.le_refl _) B2.out.size) B3.out.size))).trans K3_0_0; clear K3_0_0; have K4_0_1 := (b4.cell (p := ⟨w.heap.size, 1, none⟩) (Nat.lt_of_lt_of_le (show w.heap.size < (w.alloc (.cells #[.int .i64 pS, .slice aS S.length cS] 26)).heap.size by simp) (Nat.le_trans (Nat.le_trans (Nat.le_refl _) B2.out.size) B3.out.size))).trans K3_0_1; clear K3_0_1; have O4 := Lib.hid o4; clear o4; clear b4))
    go_ret2
    rw [HV.out, HC.out]
    exact ⟨_, _, rfl, O4.out.mono (show w.heap.size ≤ w3.heap.size from ((below_step (below_step ((Below.refl _ _).alloc (Nat.le_refl _) (.cells #[.int .i64 pS, .slice aS S.length cS] 26)) (show w.heap.size ≤ (w.alloc (.cells #[.int .i64 pS, .slice aS S.length cS] 26)).heap.size from (((Below.refl _ _).alloc (Nat.le_refl _) (.cells #[.int .i64 pS, .slice aS S.length cS] 26))).size) B2.out) (show w.heap.size ≤ w2.heap.size from ((below_step ((Below.refl _ _).alloc (Nat.le_refl _) (.cells #[.int .i64 pS, .slice aS S.length cS] 26)) (show w.heap.size ≤ (w.alloc (.cells #[.int .i64 pS, .slice aS S.length cS] 26)).heap.size from (((Below.refl _ _).alloc (Nat.le_refl _) (.cells #[.int .i64 pS, .slice aS S.length cS] 26))).size) B2.out)).size) B3.out)).size) (Nat.le_refl _), (below_step (below_step (below_step ((Below.refl _ _).alloc (Nat.le_refl _) (.cells #[.int .i64 pS, .slice aS S.length cS] 26)) (show w.heap.size ≤ (w.alloc (.cells #[.int .i64 pS, .slice aS S.length cS] 26)).heap.size from (((Below.refl _ _).alloc (Nat.le_refl _) (.cells #[.int .i64 pS, .slice aS S.length cS] 26))).size) B2.out) (show w.heap.size ≤ w2.heap.size from ((below_step ((Below.refl _ _).alloc (Nat.le_refl _) (.cells #[.int .i64 pS, .slice aS S.length cS] 26)) (show w.heap.size ≤ (w.alloc (.cells #[.int .i64 pS, .slice aS S.length cS] 26)).heap.size from (((Below.refl _ _).alloc (Nat.le_refl _) (.cells #[.int .i64 pS, .slice aS S.length cS] 26))).size) B2.out)).size) B3.out) (show w.heap.size ≤ w3.heap.size from ((below_step (below_step ((Below.refl _ _).alloc (Nat.le_refl _) (.cells #[.int .i64 pS, .slice aS S.length cS] 26)) (show w.heap.size ≤ (w.alloc (.cells #[.int .i64 pS, .slice aS S.length cS] 26)).heap.size from (((Below.refl _ _).alloc (Nat.le_refl _) (.cells #[.int .i64 pS, .slice aS S.length cS] 26))).size) B2.out) (show w.heap.size ≤ w2.heap.size from ((below_step ((Below.refl _ _).alloc (Nat.le_refl _) (.cells #[.int .i64 pS, .slice aS S.length cS] 26)) (show w.heap.size ≤ (w.alloc (.cells #[.int .i64 pS, .slice aS S.length cS] 26)).heap.size from (((Below.refl _ _).alloc (Nat.le_refl _) (.cells #[.int .i64 pS, .slice aS S.length cS] 26))).size) B2.out)).size) B3.out)).size) B4.out)⟩
  · have HI := Lib.hid hs
    have HC := Lib.hid hc
    have HV : Hid (ortV pS S m = []) := by show _ = _; unfold ortV; rw [if_neg (by rw [hc]; decide)]
    have HL := Lib.hid hl
    have HP := Lib.hid (isSp_iff.1 hs).prime
    clear hs hc hl
    go_enter Try.func7, Try.ntmps7
    go_wp2_with (first | (go_at_call 20; (with_reducible refine (l03Is_any pS aS S cS loS tpS _ (HS.out.below ((Below.refl _ _).alloc (Nat.le_refl _) (.cells #[.int .i64 pS, .slice aS S.length cS] 26)) tS) (Nat.le_trans tS (((Below.refl _ _).alloc (Nat.le_refl _) (.cells #[.int .i64 pS, .slice aS S.length cS] 26))).size) sS).mono ?_); rintro e w2 ⟨rfl, b2⟩; rw [HI.out]; have B2 := Lib.hid b2; have K2_0_0 := (b2.cell (p := ⟨w.heap.size, 0, none⟩) (Nat.lt_of_lt_of_le (show w.heap.size < (w.alloc (.cells #[.int .i64 pS, .slice aS S.length cS] 26)).heap.size by simp) (Nat.le_refl _))).trans (show (w.alloc (.cells #[.int .i64 pS, .slice aS S.length cS] 26)).cell? ⟨w.heap.size, 0, none⟩ = some (.int .i64 pS) by simp [go_sem]); have K2_0_1 := (b2.cell (p := ⟨w.heap.size, 1, none⟩) (Nat.lt_of_lt_of_le (show w.heap.size < (w.alloc (.cells #[.int .i64 pS, .slice aS S.length cS] 26)).heap.size by simp) (Nat.le_refl _))).trans (show (w.alloc (.cells #[.int .i64 pS, .slice aS S.length cS] 26)).cell? ⟨w.heap.size, 1, none⟩ = some (.slice aS S.length cS) by simp [go_sem]); clear b2) | (go_at_call 21; (with_reducible refine (l03List_any pS aS S cS am m cm lom tpm _ HP.out sS (Hm.out.below (below_step ((Below.refl _ _).alloc (Nat.le_refl _) (.cells #[.int .i64 pS, .slice aS S.length cS] 26)) (show w.heap.size ≤ (w.alloc (.cells #[.int .i64 pS, .slice aS S.length cS] 26)).heap.size from (((Below.refl _ _).alloc (Nat.le_refl _) (.cells #[.int .i64 pS, .slice aS S.length cS] 26))).size) B2.out) tm) (Nat.le_trans tm ((below_step ((Below.refl _ _).alloc (Nat.le_refl _) (.cells #[.int .i64 pS, .slice aS S.length cS] 26)) (show w.heap.size ≤ (w.alloc (.cells #[.int .i64 pS, .slice aS S.length cS] 26)).heap.size from (((Below.refl _ _).alloc (Nat.le_refl _) (.cells #[.int .i64 pS, .slice aS S.length cS] 26))).size) B2.out)).size) sm1 SR.out).mono ?_); rintro e w3 ⟨rfl, b3⟩; rw [HL.out]; have B3 := Lib.hid b3; have K3_0_0 := (b3.cell (p := ⟨w.heap.size, 0, none⟩) (Nat.lt_of_lt_of_le (show w.heap.size < (w.alloc (.cells #[.int .i64 pS, .slice aS S.length cS] 26)).heap.size by simp) (Nat.le_trans (Nat.le_refl _) B2.out.size))).trans K2_0_0; clear K2_0_0; have K3_0_1 := (b3.cell (p := ⟨w.heap.size, 1, none⟩) (Nat.lt_of_lt_of_le (show w.heap.size < (w.alloc (.cells #[.int .i64 pS, .slice aS S.length cS] 26)).heap.size by simp) (Nat.le_trans (Nat.le_refl _) B2.out.size))).trans K2_0_1; clear K2_0_1; clear b3))
    go_ret2
    rw [HV.out, HC.out]
    exact ⟨none, 0, rfl, .inl rfl, (below_step (below_step ((Below.refl _ _).alloc (Nat.le_refl _) (.cells #[.int .i64 pS, .slice aS S.length cS] 26)) (show w.heap.size ≤ (w.alloc (.cells #[.int .i64 pS, .slice aS S.length cS] 26)).heap.size from (((Below.refl _ _).alloc (Nat.le_refl _) (.cells #[.int .i64 pS, .slice aS S.length cS] 26))).size) B2.out) (show w.heap.size ≤ w2.heap.size from ((below_step ((Below.refl _ _).alloc (Nat.le_refl _) (.cells #[.int .i64 pS, .slice aS S.length cS] 26)) (show w.heap.size ≤ (w.alloc (.cells #[.int .i64 pS, .slice aS S.length cS] 26)).heap.size from (((Below.refl _ _).alloc (Nat.le_refl _) (.cells #[.int .i64 pS, .slice aS S.length cS] 26))).size) B2.out)).size) B3.out)⟩

set_option maxRecDepth 100000 in
set_option maxHeartbeats 3200000 in
theorem impl_OrthogonalTo (pS : Int) (aS : Option Addr) (S : List Int) (cS loS tpS : Nat) (am : Option Addr) (m : List (List Int)) (cm lom tpm : Nat) (w : World)
    (hS : RowIn loS tpS w aS S) (tS : tpS ≤ w.heap.size) (sS : S.length ≤ 1048576) (hm : MatIn lom tpm w am m) (tm : tpm ≤ w.heap.size) (sm : m.length + tot m m.length ≤ 1048576) :
    Calls Try.prog 6 #[.agg #[.int .i64 pS, .slice aS S.length cS], .slice am m.length cm] w (ImplM (ortV pS S m) (codeL pS S m) w) := by
  obtain ⟨j0, kj, kz0, kz1, kz2⟩ := info_parts info_slice
  have HS := Lib.hid hS
  have Hm := Lib.hid hm
  have sm1 : m.length ≤ 1048576 := by omega
  have SR : Hid (∀ i, i < m.length → (rw' m i).length ≤ 1048576) := fun i hi => by have := tot_row hi; omega
  clear hS hm sm
  rcases codeL_cases pS S m with ⟨hs, hc⟩ | ⟨hs, hl, hc⟩ | ⟨hs, hl, hc⟩
  · have HI := Lib.hid hs
    have HC := Lib.hid hc
    have HV : Hid (ortV pS S m = []) := by show _ = _; unfold ortV; rw [if_neg (by rw [hc]; decide)]
    clear hs hc
    go_enter Try.func6, Try.ntmps6
    go_wp2_with (first | (go_at_call 16; (with_reducible refine (checkList_any pS aS S cS loS tpS am m cm lom tpm _ (HS.out.below ((Below.refl _ _).alloc (Nat.le_refl _) (.cells #[.int .i64 pS, .slice aS S.length cS] 26)) tS) (Nat.le_trans tS (((Below.refl _ _).alloc (Nat.le_refl _) (.cells #[.int .i64 pS, .slice aS S.length cS] 26))).size) sS (Hm.out.below ((Below.refl _ _).alloc (Nat.le_refl _) (.cells #[.int .i64 pS, .slice aS S.length cS] 26)) tm) (Nat.le_trans tm (((Below.refl _ _).alloc (Nat.le_refl _) (.cells #[.int .i64 pS, .slice aS S.length cS] 26))).size) sm1 SR.out).mono ?_); rintro e w2 ⟨rfl, b2⟩; rw [HC.out]; have B2 := Lib.hid b2; have K2_0_0 := (b2.cell (p := ⟨w.heap.size, 0, none⟩) (Nat.lt_of_lt_of_le (show w.heap.size < (w.alloc (.cells #[.int .i64 pS, .slice aS S.length cS] 26)).heap.size by simp) (Nat.le_refl _))).trans (show (w.alloc (.cells #[.int .i64 pS, .slice aS S.length cS] 26)).cell? ⟨w.heap.size, 0, none⟩ = some (.int .i64 pS) by simp [go_sem]); have K2_0_1 := (b2.cell (p := ⟨w.heap.size, 1, none⟩) (Nat.lt_of_lt_of_le (show w.heap.size < (w.alloc (.cells #[.int .i64 pS, .slice aS S.length cS] 26)).heap.size by simp) (Nat.le_refl _))).trans (show (w.alloc (.cells #[.int .i64 pS, .slice aS S.length cS] 26)).cell? ⟨w.heap.size, 1, none⟩ = some (.slice aS S.length cS) by simp [go_sem]); clear b2))
    go_ret2
    rw [HV.out, HC.out]
    exact ⟨none, 0, rfl, .inl rfl, (below_step ((Below.refl _ _).alloc (Nat.le_refl _) (.cells #[.int .i64 pS, .slice aS S.length cS] 26)) (show w.heap.size ≤ (w.alloc (.cells #[.int .i64 pS, .slice aS S.length cS] 26)).heap.size from (((Below.refl _ _).alloc (Nat.le_refl _) (.cells #[.int .i64 pS, .slice aS S.length cS] 26))).size) B2.out)⟩
  · have HI := Lib.hid hs
    have HC := Lib.hid hc
    have HL := Lib.hid hl
    have HP := Lib.hid (isSp_iff.1 hs).prime
    have HV : Hid (ortV pS S m = ortB pS S m) := by show _ = _; unfold ortV; rw [if_pos hc]
    have HVE : Hid (∀ i, i < m.length → isVec pS S.length (rw' m i) = true) := (listB_iff hl).2
    have h16 := (listB_iff hl).1
    have hS6 := (isSp_iff.1 hs).hi
    have hS1 := (isSp_iff.1 hs).lo
    have HRW := Lib.hid (ort_wide hs hl)
    have HKE := Lib.hid (ort_ker (m := m) hs)
    have HEM : Hid (zrow S.length :: mk m.length S.length (ortF pS S m) = zrow S.length :: ortM pS S m) := rfl
    obtain ⟨Z, hZ⟩ : ∃ Z, Z = zrow S.length :: ortM pS S m := ⟨_, rfl⟩
    rw [← hZ] at HRW HKE HEM
    clear hZ
    clear hs hc hl
    go_enter Try.func6, Try.ntmps6
    go_wp2_with (first | (go_at_call 16; (with_reducible refine (checkList_any pS aS S cS loS tpS am m cm lom tpm _ (HS.out.below ((Below.refl _ _).alloc (Nat.le_refl _) (.cells #[.int .i64 pS, .slice aS S.length cS] 26)) tS) (Nat.le_trans tS (((Below.refl _ _).alloc (Nat.le_refl _) (.cells #[.int .i64 pS, .slice aS S.length cS] 26))).size) sS (Hm.out.below ((Below.refl _ _).alloc (Nat.le_refl _) (.cells #[.int .i64 pS, .slice aS S.length cS] 26)) tm) (Nat.le_trans tm (((Below.refl _ _).alloc (Nat.le_refl _) (.cells #[.int .i64 pS, .slice aS S.length cS] 26))).size) sm1 SR.out).mono ?_); rintro e w2 ⟨rfl, b2⟩; rw [HC.out]; have B2 := Lib.hid b2; have K2_0_0 := (b2.cell (p := ⟨w.heap.size, 0, none⟩) (Nat.lt_of_lt_of_le (show w.heap.size < (w.alloc (.cells #[.int .i64 pS, .slice aS S.length cS] 26)).heap.size by simp) (Nat.le_refl _))).trans (show (w.alloc (.cells #[.int .i64 pS, .slice aS S.length cS] 26)).cell? ⟨w.heap.size, 0, none⟩ = some (.int .i64 pS) by simp [go_sem]); have K2_0_1 := (b2.cell (p := ⟨w.heap.size, 1, none⟩) (Nat.lt_of_lt_of_le (show w.heap.size < (w.alloc (.cells #[.int .i64 pS, .slice aS S.length cS] 26)).heap.size by simp) (Nat.le_refl _))).trans (show (w.alloc (.cells #[.int .i64 pS, .slice aS S.length cS] 26)).cell? ⟨w.heap.size, 1, none⟩ = some (.slice aS S.length cS) by simp [go_sem]); have KK0 := Lib.hid K2_0_0; have KK1 := Lib.hid K2_0_1; have lw2 : w.heap.size < w2.heap.size := (Nat.lt_of_lt_of_le (show w.heap.size < (w.alloc (.cells #[.int .i64 pS, .slice aS S.length cS] 26)).heap.size by simp) (Nat.le_trans (Nat.le_refl _) B2.out.size)); have HBW := Lib.hid (below_step ((Below.refl _ _).alloc (Nat.le_refl _) (.cells #[.int .i64 pS, .slice aS S.length cS] 26)) (show w.heap.size ≤ (w.alloc (.cells #[.int .i64 pS, .slice aS S.length cS] 26)).heap.size from (((Below.refl _ _).alloc (Nat.le_refl _) (.cells #[.int .i64 pS, .slice aS S.length cS] 26))).size) B2.out); clear b2) | (go_at_call 17; (with_reducible refine (newMatrix_one S.length _ (by omega) (by omega)).mono ?_); rintro e w3 ⟨g3, rfl, o3, b3⟩; have B3 := Lib.hid b3; have K3_0_0 := (b3.cell (p := ⟨w.heap.size, 0, none⟩) (Nat.lt_of_lt_of_le (show w.heap.size < (w.alloc (.cells #[.int .i64 pS, .slice aS S.length cS] 26)).heap.size by simp) (Nat.le_trans (Nat.le_refl _) B2.out.size))).trans K2_0_0; clear K2_0_0; have K3_0_1 := (b3.cell (p := ⟨w.heap.size, 1, none⟩) (Nat.lt_of_lt_of_le (show w.heap.size < (w.alloc (.cells #[.int .i64 pS, .slice aS S.length cS] 26)).heap.size by simp) (Nat.le_trans (Nat.le_refl _) B2.out.size))).trans K2_0_1; clear K2_0_1; have O3 := Lib.hid o3; clear o3; clear b3))
    go_loopw [7, 22] (fun v t wr => ∃ i : Nat, i ≤ m.length ∧ t = .int .i64 i ∧ OutM w2.heap.size wr v (zrow S.length :: mk i S.length (ortF pS S m)) ∧ Below w2.heap.size w2 wr) (fun _ t _ => m.length - (intOf t).toNat)
    case atStart => exact ⟨0, Nat.zero_le _, rfl, O3.out, B3.out⟩
    case round =>
      obtain ⟨i, hi', rfl, ho, hbel⟩ := hrel
      have HO := Lib.hid ho
      have HBEL := Lib.hid hbel
      have hwz := hbel.size
      have k0 := (hbel.cell (p := ⟨w.heap.size, 0, none⟩) lw2).trans KK0.out
      have k1 := (hbel.cell (p := ⟨w.heap.size, 1, none⟩) lw2).trans KK1.out
      have HBX : Hid (Below w.heap.size w wr) := HBW.out.trans (hbel.mono HBW.out.size)
      have HXZ := Lib.hid HBX.out.size
      clear ho hbel
      by_cases hlt : i < m.length
      · have hk1 : (i : Int) < (m.length : Int) := by omega
        obtain ⟨b1, o1, r1, c1, ha1, _, hb1, hr1, hrow1⟩ := (Hm.out.below HBX.out tm).row hlt
        cases ha1
        have v1 := HVE.out i hlt
        rw [(isVec_iff.1 v1).len] at hr1
        have HR1 := Lib.hid hrow1
        have HSd := Lib.hid (HS.out.below HBX.out tS)
        have HTS : Hid (tpS ≤ wr.heap.size) := Nat.le_trans tS HXZ.out
        have HTM : Hid (tpm ≤ wr.heap.size) := Nat.le_trans tm HXZ.out
        obtain ⟨vals, hvo, hvr⟩ := HO.out
        rw [List.length_cons, mk_len] at hvo hvr
        have HV1 := Lib.hid hvo
        have HVR := Lib.hid hvr
        have HKEEP : Hid (∀ W', Below wr.heap.size wr W' → W'.ownsRow w2.heap.size 24 1 u7 (i + 1) vals) := fun W' h => HV1.out.kept (below_grown h) (by cases hv : Value.ownBlock u7 <;> simp)
        have HMS : Hid (zrow S.length :: mk (i + 1) S.length (ortF pS S m) = (zrow S.length :: mk i S.length (ortF pS S m)) ++ [eqnL pS S (rw' m i)]) := by show _ = _; rw [mk_succ]; rfl
        have HML : Hid ((zrow S.length :: mk i S.length (ortF pS S m)).length = i + 1) := by show _ = _; rw [List.length_cons, mk_len]
        have HEL : Hid ((eqnL pS S (rw' m i)).length = S.length) := mkR_len _ _
        obtain ⟨z, hz⟩ : ∃ z, z = eqnL pS S (rw' m i) := ⟨_, rfl⟩
        have HZ := Lib.hid hz
        rw [← hz] at HMS HEL
        clear hvo hvr hrow1 hz
        go_wp2_with (first | (go_at_call 18; (with_reducible refine (equationOf_any pS aS S cS loS tpS r1 (rw' m i) S.length c1 lom tpm wr rfl HSd.out HTS.out HR1.out HTM.out HI.out v1).mono ?_); rintro e w5 ⟨g5, rfl, ht5, hb5⟩; rw [← HZ.out] at ht5; have HT5 := Lib.hid ht5; have HB5 := Lib.hid hb5; have hz5 := hb5.size; clear ht5 hb5) | (at_builtin; (refine wpList_append_lies _ rfl _ _ 27 rfl w2.heap.size 24 j0 (.slice none 0 0) 1 24 Try.underlying27 kj kz0 kz1 kz2 rfl (by decide) u7 (i + 1) vals rfl ((HKEEP.out _ HB5.out).alloc _) ⟨w5.heap.size, 0, none⟩ 1 1 [.slice (some ⟨g5, 0, none⟩) S.length S.length] rfl rfl (World.news_of_block (cs := #[.slice (some ⟨g5, 0, none⟩) S.length S.length]) (t := 24) (fr := (0, 0)) (heap_alloc_new w5 _)) (by simp [Value.oneCell']) (by omega) (by unfold maxLen; omega) (by omega) (by simp; omega) (w5.heap.size + 1) (by simp) ?_); intro gg cap w1 hown1 hgrow hat hlt1))
        go_roundw
        case rel => exact ⟨i + 1, by omega, by go_num, by rw [HMS.out]; exact OutM.pushW HML.out HEL.out HV1.out HVR.out HT5.out hwz HB5.out hown1 hgrow, ((HBEL.out.trans (HB5.out.mono hwz)).alloc (by omega) _).grown hgrow (by simp; omega) (fun _ hk => (HV1.out.lt _ hk).1)⟩
        case measure => simp [intOf]; omega
      · have hin : i = m.length := by omega
        subst hin
        have ho2 := HO.out
        rw [HEM.out] at ho2
        obtain ⟨r, c, hv, hmat⟩ := ho2.mat
        subst hv
        have HMT := Lib.hid hmat
        clear hmat ho2
        go_wp2_with (go_at_call 19; ((with_reducible refine (kernelOf_any pS r Z c _ _ wr HMT.out (Nat.le_refl _) HRW.out).mono ?_); rintro e w5 ⟨r5, k5, rfl, ho5, hb5⟩; rw [HKE.out] at ho5 ⊢; have HO5 := Lib.hid ho5; have HB5 := Lib.hid hb5; clear ho5 hb5))
        go_ret2
        rw [HV.out, HC.out]
        exact ⟨r5, k5, rfl, HO5.out.mono HXZ.out (Nat.le_refl _), HBX.out.trans (HB5.out.mono HXZ.out)⟩
  · have HI := Lib.hid hs
    have HC := Lib.hid hc
    have HV : Hid (ortV pS S m = []) := by show _ = _; unfold ortV; rw [if_neg (by rw [hc]; decide)]
    clear hs hc hl
    go_enter Try.func6, Try.ntmps6
    go_wp2_with (first | (go_at_call 16; (with_reducible refine (checkList_any pS aS S cS loS tpS am m cm lom tpm _ (HS.out.below ((Below.refl _ _).alloc (Nat.le_refl _) (.cells #[.int .i64 pS, .slice aS S.length cS] 26)) tS) (Nat.le_trans tS (((Below.refl _ _).alloc (Nat.le_refl _) (.cells #[.int .i64 pS, .slice aS S.length cS] 26))).size) sS (Hm.out.below ((Below.refl _ _).alloc (Nat.le_refl _) (.cells #[.int .i64 pS, .slice aS S.length cS] 26)) tm) (Nat.le_trans tm (((Below.refl _ _).alloc (Nat.le_refl _) (.cells #[.int .i64 pS, .slice aS S.length cS] 26))).size) sm1 SR.out).mono ?_); rintro e w2 ⟨rfl, b2⟩; rw [HC.out]; have B2 := Lib.hid b2; have K2_0_0 := (b2.cell (p := ⟨w.heap.size, 0, none⟩) (Nat.lt_of_lt_of_le (show w.heap.size < (w.alloc (.cells #[.int .i64 pS, .slice aS S.length cS] 26)).heap.size by simp) (Nat.le_refl _))).trans (show (w.alloc (.cells #[.int .i64 pS, .slice aS S.length cS] 26)).cell? ⟨w.heap.size, 0, none⟩ = some (.int .i64 pS) by simp [go_sem]); have K2_0_1 := (b2.cell (p := ⟨w.heap.size, 1, none⟩) (Nat.lt_of_lt_of_le (show w.heap.size < (w.alloc (.cells #[.int .i64 pS, .slice aS S.length cS] 26)).heap.size by simp) (Nat.le_refl _))).trans (show (w.alloc (.cells #[.int .i64 pS, .slice aS S.length cS] 26)).cell? ⟨w.heap.size, 1, none⟩ = some (.slice aS S.length cS) by simp [go_sem]); clear b2))
    go_ret2
    rw [HV.out, HC.out]
    exact ⟨none, 0, rfl, .inl rfl, (below_step ((Below.refl _ _).alloc (Nat.le_refl _) (.cells #[.int .i64 pS, .slice aS S.length cS] 26)) (show w.heap.size ≤ (w.alloc (.cells #[.int .i64 pS, .slice aS S.length cS] 26)).heap.size from (((Below.refl _ _).alloc (Nat.le_refl _) (.cells #[.int .i64 pS, .slice aS S.length cS] 26))).size) B2.out)⟩

end Go.Proofs.Ytdfkpbmccmbjmaa
