/-
  Orthogonal matrices, the model's side: contracts of the program and of the model.
  Conditions: the lists are nil or rows of known cells, of at most 1048576 numbers.
-/
import Derived.Test.YtigdepahbnidjaaGreatQz37
import Derived.Deep.RegionHeld3
import Derived.Deep.DeepCutAuto
namespace Go.Proofs.YtigdepahbnidjaaGreat
open Go.RowKit
set_option linter.unusedVariables false

set_option maxRecDepth 100000 in
set_option maxHeartbeats 6400000 in
theorem l08Is_any (pS : Int) (aS : Option Addr) (S : List Int) (cS loS tpS : Nat) (am : Option Addr) (m : List (List Int)) (cm lom tpm : Nat) (w : World) (hS : RowIn loS tpS w aS S) (tS : tpS ≤ w.heap.size) (sS : S.length ≤ 1048576) (hm : MatIn lom tpm w am m) (tm : tpm ≤ w.heap.size) (sm' : m.length + tot m m.length ≤ 1048576) (hs : isSp pS S = true) :
    Calls Tryz.prog 46 #[.agg #[.int .i64 pS, .slice aS S.length cS], .slice am m.length cm] w (fun e w' => e = .returned (.bool (orB pS S m)) ∧ Below w.heap.size w w') := by
  have HS := Lib.hid hS
  have Hm := Lib.hid hm
  have HSM := Lib.hid sm'
  have k0 := nw0 w (.int .i64 pS) (.slice aS S.length cS) 30
  have k1 := nw1 w (.int .i64 pS) (.slice aS S.length cS) 30
  have HB0 := Lib.hid (below_alloc w (.cells #[.int .i64 pS, .slice aS S.length cS] 30))
  clear hS hm sm'
  have HI := Lib.hid hs
  clear hs
  go_enter Tryz.func46, Tryz.ntmps46
  go_upto_region 1 with fail
  obtain ⟨w1, hw1⟩ : ∃ z, z = w.alloc (.cells #[.int .i64 pS, .slice aS S.length cS] 30) := ⟨_, rfl⟩
  rw [← hw1] at HB0 k0 k1 ⊢
  have hd1 : w.heap.size < w1.heap.size := by rw [hw1]; simp
  have HB1 := HB0
  clear hw1
  have SS1 := Lib.hid (And.intro k0 k1)
  go_wp2_with (go_at_call 65; ((with_reducible refine (l03Isometry_any pS aS S cS loS tpS pS aS S cS loS tpS am m cm lom tpm w1 HI.out HI.out (HS.out.below HB1.out tS) (Nat.le_trans tS HB1.out.size) (HS.out.below HB1.out tS) (Nat.le_trans tS HB1.out.size) (Hm.out.below HB1.out tm) (Nat.le_trans tm HB1.out.size) HSM.out).mono ?_); rintro e w2 ⟨rfl, b_⟩; have SS2 := Lib.hid (ss2 b_ hd1 SS1.out); have HB2 := Lib.hid (below_step HB1.out HB1.out.size b_); have hd2 := Nat.lt_of_lt_of_le hd1 b_.size; clear k0 k1; obtain ⟨k0, k1⟩ := SS2.out; clear b_))
  go_ret
  exact ⟨rfl, HB2.out⟩

set_option maxRecDepth 100000 in
set_option maxHeartbeats 6400000 in
theorem spec_IsOrthogonal (pS : Int) (aS : Option Addr) (S : List Int) (cS loS tpS : Nat) (am : Option Addr) (m : List (List Int)) (cm lom tpm : Nat) (w : World) (hS : RowIn loS tpS w aS S) (tS : tpS ≤ w.heap.size) (sS : S.length ≤ 1048576) (hm : MatIn lom tpm w am m) (tm : tpm ≤ w.heap.size) (sm' : m.length + tot m m.length ≤ 1048576) :
    Calls Tryz.prog 30 #[.agg #[.int .i64 pS, .slice aS S.length cS], .slice am m.length cm] w (RetB (orV pS S m) (regC pS S []) w) := by
  have HS := Lib.hid hS
  have Hm := Lib.hid hm
  have HSM := Lib.hid sm'
  have k0 := nw0 w (.int .i64 pS) (.slice aS S.length cS) 30
  have k1 := nw1 w (.int .i64 pS) (.slice aS S.length cS) 30
  have HB0 := Lib.hid (below_alloc w (.cells #[.int .i64 pS, .slice aS S.length cS] 30))
  clear hS hm sm'
  rcases reg_cases pS S with ⟨hi, hc⟩ | ⟨hi, hd, hc⟩ | ⟨hi, hd, hc⟩
  · have HI := Lib.hid hi
    have HC := Lib.hid hc
    have HV : Hid (orV pS S m = false) := orV_no (by rw [hc]; decide)
    clear hi hc
    go_enter Tryz.func30, Tryz.ntmps30
    go_upto_region 1 with fail
    obtain ⟨w1, hw1⟩ : ∃ z, z = w.alloc (.cells #[.int .i64 pS, .slice aS S.length cS] 30) := ⟨_, rfl⟩
    rw [← hw1] at HB0 k0 k1 ⊢
    have hd1 : w.heap.size < w1.heap.size := by rw [hw1]; simp
    have HB1 := HB0
    clear hw1
    have SS1 := Lib.hid (And.intro k0 k1)
    go_wp2_with (go_at_call 44; ((with_reducible refine (l03Is_any pS aS S cS loS tpS w1 (HS.out.below HB1.out tS) (Nat.le_trans tS HB1.out.size) sS).mono ?_); rintro e w2 ⟨rfl, b_⟩; rw [HI.out]; have SS2 := Lib.hid (ss2 b_ hd1 SS1.out); have HB2 := Lib.hid (below_step HB1.out HB1.out.size b_); have hd2 := Nat.lt_of_lt_of_le hd1 b_.size; clear k0 k1; obtain ⟨k0, k1⟩ := SS2.out; clear b_))
    go_ret2
    exact ⟨by rw [HV.out, HC.out]; rfl, HB2.out⟩
  · have HI := Lib.hid hi
    have HC := Lib.hid hc
    obtain ⟨D, hD⟩ : ∃ d, d = discN pS S := ⟨_, rfl⟩
    have HDE := Lib.hid hD
    rw [← hD] at hd
    have hd1_ : (D == 0) = true := by simpa using hd
    have HV : Hid (orV pS S m = false) := orV_no (by rw [hc]; decide)
    clear hi hc hd hD
    go_enter Tryz.func30, Tryz.ntmps30
    go_upto_region 1 with fail
    obtain ⟨w1, hw1⟩ : ∃ z, z = w.alloc (.cells #[.int .i64 pS, .slice aS S.length cS] 30) := ⟨_, rfl⟩
    rw [← hw1] at HB0 k0 k1 ⊢
    have hd1 : w.heap.size < w1.heap.size := by rw [hw1]; simp
    have HB1 := HB0
    clear hw1
    have SS1 := Lib.hid (And.intro k0 k1)
    go_wp2_with (first | (go_at_call 44; ((with_reducible refine (l03Is_any pS aS S cS loS tpS w1 (HS.out.below HB1.out tS) (Nat.le_trans tS HB1.out.size) sS).mono ?_); rintro e w2 ⟨rfl, b_⟩; rw [HI.out]; have SS2 := Lib.hid (ss2 b_ hd1 SS1.out); have HB2 := Lib.hid (below_step HB1.out HB1.out.size b_); have hd2 := Nat.lt_of_lt_of_le hd1 b_.size; clear k0 k1; obtain ⟨k0, k1⟩ := SS2.out; clear b_)) | (go_at_call 45; ((with_reducible refine (l03Disc_any pS aS S cS loS tpS w2 (HS.out.below HB2.out tS) (Nat.le_trans tS HB2.out.size) HI.out).mono ?_); rintro e w3 ⟨rfl, b_⟩; rw [← HDE.out]; have SS3 := Lib.hid (ss2 b_ hd2 SS2.out); have HB3 := Lib.hid (below_step HB2.out HB2.out.size b_); have hd3 := Nat.lt_of_lt_of_le hd2 b_.size; clear k0 k1; obtain ⟨k0, k1⟩ := SS3.out; clear b_)))
    go_ret2
    exact ⟨by rw [HV.out, HC.out]; rfl, HB3.out⟩
  · have HI := Lib.hid hi
    have HC := Lib.hid hc
    obtain ⟨D, hD⟩ : ∃ d, d = discN pS S := ⟨_, rfl⟩
    have HDE := Lib.hid hD
    rw [← hD] at hd
    have hd1_ : (D == 0) = false := by simpa using hd
    have HV : Hid (orV pS S m = orB pS S m) := orV_reg hc
    clear hi hc hd hD
    go_enter Tryz.func30, Tryz.ntmps30
    go_upto_region 1 with fail
    obtain ⟨w1, hw1⟩ : ∃ z, z = w.alloc (.cells #[.int .i64 pS, .slice aS S.length cS] 30) := ⟨_, rfl⟩
    rw [← hw1] at HB0 k0 k1 ⊢
    have hd1 : w.heap.size < w1.heap.size := by rw [hw1]; simp
    have HB1 := HB0
    clear hw1
    have SS1 := Lib.hid (And.intro k0 k1)
    go_wp2_with (first | (go_at_call 44; ((with_reducible refine (l03Is_any pS aS S cS loS tpS w1 (HS.out.below HB1.out tS) (Nat.le_trans tS HB1.out.size) sS).mono ?_); rintro e w2 ⟨rfl, b_⟩; rw [HI.out]; have SS2 := Lib.hid (ss2 b_ hd1 SS1.out); have HB2 := Lib.hid (below_step HB1.out HB1.out.size b_); have hd2 := Nat.lt_of_lt_of_le hd1 b_.size; clear k0 k1; obtain ⟨k0, k1⟩ := SS2.out; clear b_)) | (go_at_call 45; ((with_reducible refine (l03Disc_any pS aS S cS loS tpS w2 (HS.out.below HB2.out tS) (Nat.le_trans tS HB2.out.size) HI.out).mono ?_); rintro e w3 ⟨rfl, b_⟩; rw [← HDE.out]; have SS3 := Lib.hid (ss2 b_ hd2 SS2.out); have HB3 := Lib.hid (below_step HB2.out HB2.out.size b_); have hd3 := Nat.lt_of_lt_of_le hd2 b_.size; clear k0 k1; obtain ⟨k0, k1⟩ := SS3.out; clear b_)) | (go_at_call 46; ((with_reducible refine (l08Is_any pS aS S cS loS tpS am m cm lom tpm w3 (HS.out.below HB3.out tS) (Nat.le_trans tS HB3.out.size) sS (Hm.out.below HB3.out tm) (Nat.le_trans tm HB3.out.size) HSM.out HI.out).mono ?_); rintro e w4 ⟨rfl, b_⟩; have SS4 := Lib.hid (ss2 b_ hd3 SS3.out); have HB4 := Lib.hid (below_step HB3.out HB3.out.size b_); have hd4 := Nat.lt_of_lt_of_le hd3 b_.size; clear k0 k1; obtain ⟨k0, k1⟩ := SS4.out; clear b_)))
    go_ret2
    exact ⟨by rw [HV.out, HC.out]; rfl, HB4.out⟩

set_option maxRecDepth 100000 in
set_option maxHeartbeats 6400000 in
theorem l08Code_any (pS : Int) (aS : Option Addr) (S : List Int) (cS loS tpS : Nat) (am : Option Addr) (m : List (List Int)) (cm lom tpm : Nat) (w : World) (hS : RowIn loS tpS w aS S) (tS : tpS ≤ w.heap.size) (sS : S.length ≤ 1048576) (hm : MatIn lom tpm w am m) (tm : tpm ≤ w.heap.size) (sm' : m.length + tot m m.length ≤ 1048576) :
    Calls Tryz.prog 21 #[.agg #[.int .i64 pS, .slice aS S.length cS], .slice am m.length cm] w (fun e w' => e = .returned (.int .i64 (coC pS S m)) ∧ Below w.heap.size w w') := by
  have HS := Lib.hid hS
  have Hm := Lib.hid hm
  have HSM := Lib.hid sm'
  have k0 := nw0 w (.int .i64 pS) (.slice aS S.length cS) 30
  have k1 := nw1 w (.int .i64 pS) (.slice aS S.length cS) 30
  have HB0 := Lib.hid (below_alloc w (.cells #[.int .i64 pS, .slice aS S.length cS] 30))
  clear hS hm sm'
  by_cases h0 : regC pS S [] = 0
  · have HZ := Lib.hid h0
    cases ho : orB pS S m with
    | true =>
      have HV : Hid (coC pS S m = 0) := coC_yes h0 ho
      have HO : Hid (orV pS S m = true) := (orV_reg h0).trans ho
      clear ho h0
      go_enter Tryz.func21, Tryz.ntmps21
      go_upto_region 1 with fail
      obtain ⟨w1, hw1⟩ : ∃ z, z = w.alloc (.cells #[.int .i64 pS, .slice aS S.length cS] 30) := ⟨_, rfl⟩
      rw [← hw1] at HB0 k0 k1 ⊢
      have hd1 : w.heap.size < w1.heap.size := by rw [hw1]; simp
      have HB1 := HB0
      clear hw1
      have SS1 := Lib.hid (And.intro k0 k1)
      go_wp2_with (go_at_call 30; ((with_reducible refine (spec_IsOrthogonal pS aS S cS loS tpS am m cm lom tpm w1 (HS.out.below HB1.out tS) (Nat.le_trans tS HB1.out.size) sS (Hm.out.below HB1.out tm) (Nat.le_trans tm HB1.out.size) HSM.out).mono ?_); rintro e w2 ⟨rfl, b_⟩; rw [HO.out, HZ.out]; have SS2 := Lib.hid (ss2 b_ hd1 SS1.out); have HB2 := Lib.hid (below_step HB1.out HB1.out.size b_); have hd2 := Nat.lt_of_lt_of_le hd1 b_.size; clear k0 k1; obtain ⟨k0, k1⟩ := SS2.out; clear b_))
      go_ret
      exact ⟨by rw [HV.out]; rfl, HB2.out⟩
    | false =>
      have HV : Hid (coC pS S m = 2) := coC_out h0 ho
      have HO : Hid (orV pS S m = false) := (orV_reg h0).trans ho
      clear ho h0
      go_enter Tryz.func21, Tryz.ntmps21
      go_upto_region 1 with fail
      obtain ⟨w1, hw1⟩ : ∃ z, z = w.alloc (.cells #[.int .i64 pS, .slice aS S.length cS] 30) := ⟨_, rfl⟩
      rw [← hw1] at HB0 k0 k1 ⊢
      have hd1 : w.heap.size < w1.heap.size := by rw [hw1]; simp
      have HB1 := HB0
      clear hw1
      have SS1 := Lib.hid (And.intro k0 k1)
      go_wp2_with (go_at_call 30; ((with_reducible refine (spec_IsOrthogonal pS aS S cS loS tpS am m cm lom tpm w1 (HS.out.below HB1.out tS) (Nat.le_trans tS HB1.out.size) sS (Hm.out.below HB1.out tm) (Nat.le_trans tm HB1.out.size) HSM.out).mono ?_); rintro e w2 ⟨rfl, b_⟩; rw [HO.out, HZ.out]; have SS2 := Lib.hid (ss2 b_ hd1 SS1.out); have HB2 := Lib.hid (below_step HB1.out HB1.out.size b_); have hd2 := Nat.lt_of_lt_of_le hd1 b_.size; clear k0 k1; obtain ⟨k0, k1⟩ := SS2.out; clear b_))
      go_ret
      exact ⟨by rw [HV.out]; rfl, HB2.out⟩
  · have HV : Hid (coC pS S m = regC pS S []) := coC_no h0
    have HO : Hid (orV pS S m = false) := orV_no h0
    obtain ⟨C, hC⟩ : ∃ c, c = regC pS S [] := ⟨_, rfl⟩
    have hc1 : (C != 0) = true := by rw [hC]; simpa using h0
    have hc2 : (C == 0) = false := by rw [hC]; simpa using h0
    have HCE := Lib.hid hC
    clear h0 hC
    go_enter Tryz.func21, Tryz.ntmps21
    go_upto_region 1 with fail
    obtain ⟨w1, hw1⟩ : ∃ z, z = w.alloc (.cells #[.int .i64 pS, .slice aS S.length cS] 30) := ⟨_, rfl⟩
    rw [← hw1] at HB0 k0 k1 ⊢
    have hd1 : w.heap.size < w1.heap.size := by rw [hw1]; simp
    have HB1 := HB0
    clear hw1
    have SS1 := Lib.hid (And.intro k0 k1)
    go_wp2_with (go_at_call 30; ((with_reducible refine (spec_IsOrthogonal pS aS S cS loS tpS am m cm lom tpm w1 (HS.out.below HB1.out tS) (Nat.le_trans tS HB1.out.size) sS (Hm.out.below HB1.out tm) (Nat.le_trans tm HB1.out.size) HSM.out).mono ?_); rintro e w2 ⟨rfl, b_⟩; rw [HO.out, ← HCE.out]; have SS2 := Lib.hid (ss2 b_ hd1 SS1.out); have HB2 := Lib.hid (below_step HB1.out HB1.out.size b_); have hd2 := Nat.lt_of_lt_of_le hd1 b_.size; clear k0 k1; obtain ⟨k0, k1⟩ := SS2.out; clear b_))
    go_ret
    exact ⟨by rw [HV.out, ← HCE.out]; rfl, HB2.out⟩

end Go.Proofs.YtigdepahbnidjaaGreat
