/-
  Decompositions: contracts of the program and of the model.
  Conditions: the lists are nil or rows of known cells, of at most 1048576 numbers.
-/
import Derived.Test.YtigdepahbnidjaaQr30
import Derived.Test.YtigdepahbnidjaaQr34
import Derived.Test.YtigdepahbnidjaaQr36
import Derived.Deep.RegionHeld3
import Derived.Deep.DeepCutAuto
namespace Go.Proofs.Ytigdepahbnidjaa
open Go.RowKit
set_option linter.unusedVariables false

def deV (p : Int) (S : List Int) (m : List (List Int)) : List (List Int) := if coC p S m = 0 then decL p S m else []
theorem deV_size (p : Int) (S : List Int) (m : List (List Int)) : (deV p S m).length + tot (deV p S m) (deV p S m).length ≤ 1048576 := by
  unfold deV; split
  · rename_i h
    obtain ⟨h1, h2⟩ := reg0 (coC_zero h).1
    have hh := dec_ok h1 h2 (coC_zero h).2
    have h6 := (isSp_iff.1 h1).hi
    have hr : ∀ i, i < (decL p S m).length → (rw' (decL p S m) i).length = S.length := fun i hi => by
      have hm : rw' (decL p S m) i ∈ decL p S m := by
        unfold rw'
        rw [List.getD_eq_getElem?_getD, List.getElem?_eq_getElem hi]
        exact List.getElem_mem hi
      exact (isVec_iff.1 (hh.1 _ hm).1).len
    rw [tot_const hr (Nat.le_refl _)]
    have : (decL p S m).length * S.length ≤ 12 * 6 := Nat.mul_le_mul hh.2 h6
    omega
  · simp [tot]

set_option maxRecDepth 100000 in
set_option maxHeartbeats 6400000 in
theorem impl_DecomposeOrthogonal (pS : Int) (aS : Option Addr) (S : List Int) (cS loS tpS : Nat) (am : Option Addr) (m : List (List Int)) (cm lom tpm : Nat) (w : World) (hS : RowIn loS tpS w aS S) (tS : tpS ≤ w.heap.size) (sS : S.length ≤ 1048576) (hm : MatIn lom tpm w am m) (tm : tpm ≤ w.heap.size) (sm' : m.length + tot m m.length ≤ 1048576) :
    Calls Try.prog 31 #[.agg #[.int .i64 pS, .slice aS S.length cS], .slice am m.length cm] w (ImplM (deV pS S m) (coC pS S m) w) := by
  have HS := Lib.hid hS
  have Hm := Lib.hid hm
  have HSM := Lib.hid sm'
  have k0 := nw0 w (.int .i64 pS) (.slice aS S.length cS) 30
  have k1 := nw1 w (.int .i64 pS) (.slice aS S.length cS) 30
  have HB0 := Lib.hid (below_alloc w (.cells #[.int .i64 pS, .slice aS S.length cS] 30))
  clear hS hm sm'
  by_cases h0 : coC pS S m = 0
  · have HC0 := Lib.hid h0
    have HI := Lib.hid (reg0 (coC_zero h0).1).1
    have HD := Lib.hid (reg0 (coC_zero h0).1).2
    have HO := Lib.hid (coC_zero h0).2
    have HV : Hid (deV pS S m = decL pS S m) := if_pos h0
    clear h0
    go_enter Try.func31, Try.ntmps31
    go_upto_region 1 with fail
    obtain ⟨w1, hw1⟩ : ∃ z, z = w.alloc (.cells #[.int .i64 pS, .slice aS S.length cS] 30) := ⟨_, rfl⟩
    rw [← hw1] at HB0 k0 k1 ⊢
    have hd1 : w.heap.size < w1.heap.size := by rw [hw1]; simp
    have HB1 := HB0
    clear hw1
    have SS1 := Lib.hid (And.intro k0 k1)
    go_wp2_with (first | (go_at_call 63; ((with_reducible refine (checkOrthogonal_any pS aS S cS loS tpS am m cm lom tpm w1 (HS.out.below HB1.out tS) (Nat.le_trans tS HB1.out.size) sS (Hm.out.below HB1.out tm) (Nat.le_trans tm HB1.out.size) HSM.out).mono ?_); rintro e w2 ⟨rfl, b_⟩; rw [HC0.out]; have SS2 := Lib.hid (ss2 b_ hd1 SS1.out); have HB2 := Lib.hid (below_step HB1.out HB1.out.size b_); have hd2 := Nat.lt_of_lt_of_le hd1 b_.size; clear k0 k1; obtain ⟨k0, k1⟩ := SS2.out; clear b_)) | (go_at_call 64; ((with_reducible refine (decomposition_own pS aS S cS loS tpS am m cm lom tpm w2 HI.out HD.out HO.out (HS.out.below HB2.out tS) (Nat.le_trans tS HB2.out.size) (Hm.out.below HB2.out tm) (Nat.le_trans tm HB2.out.size)).mono ?_); rintro e w3 ⟨r4, c4, rfl, o_, b_⟩; have SS3 := Lib.hid (ss2 b_ hd2 SS2.out); have HB3 := Lib.hid (below_step HB2.out HB2.out.size b_); have hd3 := Nat.lt_of_lt_of_le hd2 b_.size; have HO4 := Lib.hid (o_.mono HB2.out.size (Nat.le_refl _)); clear o_; clear k0 k1; obtain ⟨k0, k1⟩ := SS3.out; clear b_)))
    go_ret2
    rw [HV.out, HC0.out]
    exact ⟨r4, c4, rfl, HO4.out, HB3.out⟩
  · have HV : Hid (deV pS S m = []) := if_neg h0
    obtain ⟨C, hC⟩ : ∃ c, c = coC pS S m := ⟨_, rfl⟩
    have hc1 : (C != 0) = true := by rw [hC]; simpa using h0
    have hc2 : (C == 0) = false := by rw [hC]; simpa using h0
    have HCE := Lib.hid hC
    clear h0 hC
    go_enter Try.func31, Try.ntmps31
    go_upto_region 1 with fail
    obtain ⟨w1, hw1⟩ : ∃ z, z = w.alloc (.cells #[.int .i64 pS, .slice aS S.length cS] 30) := ⟨_, rfl⟩
    rw [← hw1] at HB0 k0 k1 ⊢
    have hd1 : w.heap.size < w1.heap.size := by rw [hw1]; simp
    have HB1 := HB0
    clear hw1
    have SS1 := Lib.hid (And.intro k0 k1)
    go_wp2_with (go_at_call 63; ((with_reducible refine (checkOrthogonal_any pS aS S cS loS tpS am m cm lom tpm w1 (HS.out.below HB1.out tS) (Nat.le_trans tS HB1.out.size) sS (Hm.out.below HB1.out tm) (Nat.le_trans tm HB1.out.size) HSM.out).mono ?_); rintro e w2 ⟨rfl, b_⟩; rw [← HCE.out]; have SS2 := Lib.hid (ss2 b_ hd1 SS1.out); have HB2 := Lib.hid (below_step HB1.out HB1.out.size b_); have hd2 := Nat.lt_of_lt_of_le hd1 b_.size; clear k0 k1; obtain ⟨k0, k1⟩ := SS2.out; clear b_))
    go_ret2
    rw [HV.out, ← HCE.out]
    exact ⟨none, 0, rfl, .inl rfl, HB2.out⟩

set_option maxRecDepth 100000 in
set_option maxHeartbeats 6400000 in
theorem spec_DecomposeOrthogonal (pS : Int) (aS : Option Addr) (S : List Int) (cS loS tpS : Nat) (am : Option Addr) (m : List (List Int)) (cm lom tpm : Nat) (w : World) (hS : RowIn loS tpS w aS S) (tS : tpS ≤ w.heap.size) (sS : S.length ≤ 1048576) (hm : MatIn lom tpm w am m) (tm : tpm ≤ w.heap.size) (sm' : m.length + tot m m.length ≤ 1048576) :
    Calls Try.prog 30 #[.agg #[.int .i64 pS, .slice aS S.length cS], .slice am m.length cm] w (SpecM (deV pS S m) (coC pS S m) w) := by
  have HS := Lib.hid hS
  have Hm := Lib.hid hm
  have HSM := Lib.hid sm'
  have k0 := nw0 w (.int .i64 pS) (.slice aS S.length cS) 30
  have k1 := nw1 w (.int .i64 pS) (.slice aS S.length cS) 30
  have HB0 := Lib.hid (below_alloc w (.cells #[.int .i64 pS, .slice aS S.length cS] 30))
  clear hS hm sm'
  by_cases h0 : coC pS S m = 0
  · have HC0 := Lib.hid h0
    have HI := Lib.hid (reg0 (coC_zero h0).1).1
    have HD := Lib.hid (reg0 (coC_zero h0).1).2
    have HO := Lib.hid (coC_zero h0).2
    have HV : Hid (deV pS S m = decL pS S m) := if_pos h0
    clear h0
    go_enter Try.func30, Try.ntmps30
    go_upto_region 1 with fail
    obtain ⟨w1, hw1⟩ : ∃ z, z = w.alloc (.cells #[.int .i64 pS, .slice aS S.length cS] 30) := ⟨_, rfl⟩
    rw [← hw1] at HB0 k0 k1 ⊢
    have hd1 : w.heap.size < w1.heap.size := by rw [hw1]; simp
    have HB1 := HB0
    clear hw1
    have SS1 := Lib.hid (And.intro k0 k1)
    go_wp2_with (first | (go_at_call 61; ((with_reducible refine (l08Code_any pS aS S cS loS tpS am m cm lom tpm w1 (HS.out.below HB1.out tS) (Nat.le_trans tS HB1.out.size) sS (Hm.out.below HB1.out tm) (Nat.le_trans tm HB1.out.size) HSM.out).mono ?_); rintro e w2 ⟨rfl, b_⟩; rw [HC0.out]; have SS2 := Lib.hid (ss2 b_ hd1 SS1.out); have HB2 := Lib.hid (below_step HB1.out HB1.out.size b_); have hd2 := Nat.lt_of_lt_of_le hd1 b_.size; clear k0 k1; obtain ⟨k0, k1⟩ := SS2.out; clear b_)) | (go_at_call 62; ((with_reducible refine (l08Decompose_any pS aS S cS loS tpS am m cm lom tpm w2 HI.out HD.out HO.out (HS.out.below HB2.out tS) (Nat.le_trans tS HB2.out.size) (Hm.out.below HB2.out tm) (Nat.le_trans tm HB2.out.size)).mono ?_); rintro e w3 ⟨r4, c4, rfl, o_, b_⟩; have SS3 := Lib.hid (ss2 b_ hd2 SS2.out); have HB3 := Lib.hid (below_step HB2.out HB2.out.size b_); have hd3 := Nat.lt_of_lt_of_le hd2 b_.size; have HO4 := Lib.hid (o_.mono HB2.out.size (Nat.le_refl _)); clear o_; clear k0 k1; obtain ⟨k0, k1⟩ := SS3.out; clear b_)))
    go_ret2
    rw [HV.out, HC0.out]
    exact ⟨r4, c4, rfl, HO4.out, HB3.out⟩
  · have HV : Hid (deV pS S m = []) := if_neg h0
    obtain ⟨C, hC⟩ : ∃ c, c = coC pS S m := ⟨_, rfl⟩
    have hc1 : (C != 0) = true := by rw [hC]; simpa using h0
    have hc2 : (C == 0) = false := by rw [hC]; simpa using h0
    have HCE := Lib.hid hC
    clear h0 hC
    go_enter Try.func30, Try.ntmps30
    go_upto_region 1 with fail
    obtain ⟨w1, hw1⟩ : ∃ z, z = w.alloc (.cells #[.int .i64 pS, .slice aS S.length cS] 30) := ⟨_, rfl⟩
    rw [← hw1] at HB0 k0 k1 ⊢
    have hd1 : w.heap.size < w1.heap.size := by rw [hw1]; simp
    have HB1 := HB0
    clear hw1
    have SS1 := Lib.hid (And.intro k0 k1)
    go_wp2_with (go_at_call 61; ((with_reducible refine (l08Code_any pS aS S cS loS tpS am m cm lom tpm w1 (HS.out.below HB1.out tS) (Nat.le_trans tS HB1.out.size) sS (Hm.out.below HB1.out tm) (Nat.le_trans tm HB1.out.size) HSM.out).mono ?_); rintro e w2 ⟨rfl, b_⟩; rw [← HCE.out]; have SS2 := Lib.hid (ss2 b_ hd1 SS1.out); have HB2 := Lib.hid (below_step HB1.out HB1.out.size b_); have hd2 := Nat.lt_of_lt_of_le hd1 b_.size; clear k0 k1; obtain ⟨k0, k1⟩ := SS2.out; clear b_))
    go_ret2
    rw [HV.out, ← HCE.out]
    exact ⟨none, 0, rfl, .inl rfl, HB2.out⟩

end Go.Proofs.Ytigdepahbnidjaa
