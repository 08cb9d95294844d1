/-
  Contracts and facts that the walk of the law rests on.
  Conditions: those that each theorem names.
-/
import Derived.Test.YtgfanoejohpmkaaGreatQp23
import Derived.Test.YtgfanoejohpmkaaGreatQp24
import Derived.Test.YtgfanoejohpmkaaGreatQp11
import Derived.Deep.RegionHeld3
import Derived.Deep.DeepCutAuto
import Derived.Test.YtgfanoejohpmkaaGreatQp16
import Derived.Test.YtgfanoejohpmkaaGreatQp15
import Derived.Test.YtgfanoejohpmkaaGreatQp7
namespace Go.Proofs.YtgfanoejohpmkaaGreat
open Go.RowKit
set_option linter.unusedVariables false
def rvC (p : Int) (S : List Int) (m : List (List Int)) : Int := if codeVs p S m = 0 then (if discN p S = 0 then 5 else 0) else codeVs p S m
def rfC (p : Int) (S u v : List Int) : Int := if rvC p S [u, v] = 0 then (if pairN p S u u = 0 then 5 else 0) else rvC p S [u, v]
def rfV (p : Int) (S u v : List Int) : List Int := if rfC p S u v = 0 then rflM p S u v else []
theorem codeVs_all {p : Int} {S : List Int} {m : List (List Int)} (h : codeVs p S m = 0) : isSp p S = true ∧ m.all (isVec p S.length) = true := by
 rcases codeVs_cases p S m with ⟨_, hc⟩ | ⟨hi, ha, _⟩ | ⟨_, _, hc⟩
 · rw [hc] at h; cases h
 · exact ⟨hi, ha⟩
 · rw [hc] at h; cases h
theorem rvC_zero {p : Int} {S : List Int} {m : List (List Int)} (h : rvC p S m = 0) : codeVs p S m = 0 ∧ discN p S ≠ 0 := by
 unfold rvC at h
 split at h
 · rename_i h0
   split at h
   · cases h
   · rename_i h1; exact ⟨h0, h1⟩
 · rename_i h0; exact absurd h h0
theorem rvC_two {p : Int} {S u v : List Int} (h : rvC p S [u, v] = 0) : isSp p S = true ∧ isVec p S.length u = true ∧ isVec p S.length v = true := by
 have h1 := codeVs_all (rvC_zero h).1
 have h2 := h1.2
 rw [mv_all2, Bool.and_eq_true] at h2
 exact ⟨h1.1, h2.1, h2.2⟩
theorem regC_nil {p : Int} {S : List Int} (h : isSp p S = true) : regC p S [] = if discN p S = 0 then 5 else 0 := by
 unfold regC
 rw [if_pos (codeMv_zero.2 ⟨h, rfl⟩)]
theorem checkR0 (pS : Int) (aS : Option Addr) (S : List Int) (cS loS tpS : Nat) (w : World) (hS : RowIn loS tpS w aS S) (tS : tpS ≤ w.heap.size) (sS : S.length ≤ 1048576) :
 Calls Tryz.prog 97 #[.agg #[.int .i64 pS, .slice aS S.length cS], .slice none 0 0] w fun e w' => e = .returned (.int .i64 (regC pS S [])) ∧ Below w.heap.size w w' :=
 checkRegular_any pS aS S cS loS tpS none [] 0 0 0 w hS tS sS (.inl rfl) (Nat.zero_le _) (by show 0 ≤ 1048576; omega) (fun i hi => absurd hi (Nat.not_lt_zero i))
set_option maxRecDepth 100000 in
set_option maxHeartbeats 3200000 in
theorem checkRegularVectors_any (pS : Int) (aS : Option Addr) (S : List Int) (cS loS tpS : Nat) (am : Option Addr) (m : List (List Int)) (cm lom tpm : Nat) (w : World) (hS : RowIn loS tpS w aS S) (tS : tpS ≤ w.heap.size) (sS : S.length ≤ 1048576) (hm : MatIn lom tpm w am m) (tm : tpm ≤ w.heap.size) (sm : m.length ≤ 1048576) (sr : ∀ i, i < m.length → (rw' m i).length ≤ 1048576) :
 Calls Tryz.prog 106 #[.agg #[.int .i64 pS, .slice aS S.length cS], .slice am m.length cm] w fun e w' => e = .returned (.int .i64 (rvC pS S m)) ∧ Below w.heap.size w w' := by
 have HS := Lib.hid hS
 have Hm := Lib.hid hm
 have HSR := Lib.hid sr
 have k0 := nw0 w (.int .i64 pS) (.slice aS S.length cS) 26
 have k1 := nw1 w (.int .i64 pS) (.slice aS S.length cS) 26
 have HB0 := Lib.hid (below_alloc w (.cells #[.int .i64 pS, .slice aS S.length cS] 26))
 clear hS hm sr
 by_cases hc : codeVs pS S m = 0
 · have HC0 := Lib.hid hc
   have HRE : Hid (rvC pS S m = regC pS S []) := by show _ = _; rw [regC_nil (codeVs_all hc).1]; unfold rvC; rw [if_pos hc]
   clear hc
   go_enter Tryz.func106, Tryz.ntmps106
   go_upto_region 1 with fail
   obtain ⟨w1, hw1⟩ : ∃ z, z = w.alloc (.cells #[.int .i64 pS, .slice aS S.length cS] 26) := ⟨_, rfl⟩
   rw [← hw1] at HB0 k0 k1 ⊢
   have hd1 : w.heap.size < w1.heap.size := by rw [hw1]; simp
   have HB1 := HB0
   clear hw1
   have SS1 := Lib.hid (And.intro k0 k1)
   go_wp2_with (first | (go_at_call 104; ((with_reducible refine (checkVectors_any pS aS S cS loS tpS am m cm lom tpm w1 (HS.out.below HB1.out tS) (Nat.le_trans tS HB1.out.size) sS (Hm.out.below HB1.out tm) (Nat.le_trans tm HB1.out.size) sm HSR.out).mono ?_); rintro e w2 ⟨rfl, b_⟩; rw [HC0.out]; have SS2 := Lib.hid (ss2 b_ hd1 SS1.out); have HB2 := Lib.hid (below_step HB1.out HB1.out.size b_); have hd2 := Nat.lt_of_lt_of_le hd1 b_.size; clear k0 k1; obtain ⟨k0, k1⟩ := SS2.out; clear b_)) | (go_at_call 97; ((with_reducible refine (checkR0 pS aS S cS loS tpS w2 (HS.out.below HB2.out tS) (Nat.le_trans tS HB2.out.size) sS).mono ?_); rintro e w3 ⟨rfl, b_⟩; rw [← HRE.out]; have SS3 := Lib.hid (ss2 b_ hd2 SS2.out); have HB3 := Lib.hid (below_step HB2.out HB2.out.size b_); have hd3 := Nat.lt_of_lt_of_le hd2 b_.size; clear k0 k1; obtain ⟨k0, k1⟩ := SS3.out; clear b_)))
   go_ret
   exact ⟨rfl, HB3.out⟩
 · have HRE : Hid (rvC pS S m = codeVs pS S m) := by show _ = _; unfold rvC; rw [if_neg hc]
   obtain ⟨C, hC⟩ : ∃ c, c = codeVs pS S m := ⟨_, rfl⟩
   have hc1 : (C != 0) = true := by rw [hC]; simpa using hc
   have HCE := Lib.hid hC
   clear hc hC
   go_enter Tryz.func106, Tryz.ntmps106
   go_upto_region 1 with fail
   obtain ⟨w1, hw1⟩ : ∃ z, z = w.alloc (.cells #[.int .i64 pS, .slice aS S.length cS] 26) := ⟨_, rfl⟩
   rw [← hw1] at HB0 k0 k1 ⊢
   have hd1 : w.heap.size < w1.heap.size := by rw [hw1]; simp
   have HB1 := HB0
   clear hw1
   have SS1 := Lib.hid (And.intro k0 k1)
   go_wp2_with (go_at_call 104; ((with_reducible refine (checkVectors_any pS aS S cS loS tpS am m cm lom tpm w1 (HS.out.below HB1.out tS) (Nat.le_trans tS HB1.out.size) sS (Hm.out.below HB1.out tm) (Nat.le_trans tm HB1.out.size) sm HSR.out).mono ?_); rintro e w2 ⟨rfl, b_⟩; rw [← HCE.out]; have SS2 := Lib.hid (ss2 b_ hd1 SS1.out); have HB2 := Lib.hid (below_step HB1.out HB1.out.size b_); have hd2 := Nat.lt_of_lt_of_le hd1 b_.size; clear k0 k1; obtain ⟨k0, k1⟩ := SS2.out; clear b_))
   go_ret
   exact ⟨by rw [HRE.out, ← HCE.out]; rfl, HB2.out⟩
theorem checkRV2 (p : Int) (aS : Option Addr) (S : List Int) (cS loS tpS : Nat) (av : Option Addr) (v : List Int) (cv lov tpv : Nat) (au : Option Addr) (u : List Int) (cu lou tpu b cap : Nat) (W : World) (T : TypeId) (hb : b = W.heap.size)
 (hS : RowIn loS tpS W aS S) (tS : tpS ≤ W.heap.size) (sS : S.length ≤ 1048576) (hv : RowIn lov tpv W av v) (tv : tpv ≤ W.heap.size) (sv : v.length ≤ 1048576) (hu : RowIn lou tpu W au u) (tu : tpu ≤ W.heap.size) (su : u.length ≤ 1048576) :
 Calls Tryz.prog 106 #[.agg #[.int .i64 p, .slice aS S.length cS], .slice (some ⟨b, 0, none⟩) 2 cap] (W.alloc (.cells #[.slice av v.length cv, .slice au u.length cu] T)) fun e w' => e = .returned (.int .i64 (rvC p S [v, u])) ∧ Below (W.alloc (.cells #[.slice av v.length cv, .slice au u.length cu] T)).heap.size (W.alloc (.cells #[.slice av v.length cv, .slice au u.length cu] T)) w' :=
 checkRegularVectors_any p aS S cS loS tpS (some ⟨b, 0, none⟩) [v, u] cap 0 _ _ (hS.below (below_alloc W _) tS) (Nat.le_trans tS (size_alloc W _)) sS (mv_two hb hv tv hu tu T) (Nat.le_refl _) (by show 2 ≤ 1048576; omega) (fun i hi => by match i, hi with | 0, _ => exact sv | 1, _ => exact su)
set_option maxRecDepth 100000 in
set_option maxHeartbeats 6400000 in
theorem impl_ReflectIn (pS : Int) (aS : Option Addr) (S : List Int) (cS loS tpS : Nat) (au : Option Addr) (u : List Int) (cu lou tpu : Nat) (av : Option Addr) (v : List Int) (cv lov tpv : Nat) (w : World) (hS : RowIn loS tpS w aS S) (tS : tpS ≤ w.heap.size) (sS : S.length ≤ 1048576) (hu : RowIn lou tpu w au u) (tu : tpu ≤ w.heap.size) (su : u.length ≤ 1048576) (hv : RowIn lov tpv w av v) (tv : tpv ≤ w.heap.size) (sv : v.length ≤ 1048576) :
 Calls Tryz.prog 24 #[.agg #[.int .i64 pS, .slice aS S.length cS], .slice au u.length cu, .slice av v.length cv] w (ImplR (rfV pS S u v) (rfC pS S u v) w) := by
 have HS := Lib.hid hS
 have Hu := Lib.hid hu
 have Hv := Lib.hid hv
 have k0 := nw0 w (.int .i64 pS) (.slice aS S.length cS) 26
 have k1 := nw1 w (.int .i64 pS) (.slice aS S.length cS) 26
 have HB0 := Lib.hid (below_alloc w (.cells #[.int .i64 pS, .slice aS S.length cS] 26))
 clear hS hu hv
 by_cases hz0 : rvC pS S [u, v] = 0
 · have HZ := Lib.hid hz0
   by_cases hn0 : pairN pS S u u = 0
   · have HVC : Hid (rfV pS S u v = [] ∧ rfC pS S u v = 5) := by
      have e : rfC pS S u v = 5 := by unfold rfC; rw [if_pos hz0, if_pos hn0]
      exact ⟨by unfold rfV; rw [if_neg (by rw [e]; decide)], e⟩
     have h2_ := rvC_two hz0
     have HI := Lib.hid h2_.1
     have HVu := Lib.hid h2_.2.1
     have HVv := Lib.hid h2_.2.2
     obtain ⟨N, hN⟩ : ∃ a, a = pairN pS S u u := ⟨_, rfl⟩
     have HNE := Lib.hid hN
     rw [← hN] at hn0
     clear h2_ hN
     have e1 : (N == 0) = true := by simpa using hn0
     have h5 : ((5 : Int) != 0) = true := by decide
     clear hz0 hn0
     go_enter Tryz.func24, Tryz.ntmps24
     go_upto_region 1 with fail
     obtain ⟨w1, hw1⟩ : ∃ z, z = w.alloc (.cells #[.int .i64 pS, .slice aS S.length cS] 26) := ⟨_, rfl⟩
     rw [← hw1] at HB0 k0 k1 ⊢
     have hd1 : w.heap.size < w1.heap.size := by rw [hw1]; simp
     have HB1 := HB0
     clear hw1
     have SS1 := Lib.hid (And.intro k0 k1)
     go_wp2_with (first | (go_at_call 106; ((with_reducible refine (checkRV2 pS aS S cS loS tpS au u cu lou tpu av v cv lov tpv _ _ w1 _ rfl (HS.out.below HB1.out tS) (Nat.le_trans tS HB1.out.size) sS (Hu.out.below HB1.out tu) (Nat.le_trans tu HB1.out.size) su (Hv.out.below HB1.out tv) (Nat.le_trans tv HB1.out.size) sv).mono ?_); rintro e w2 ⟨rfl, b_⟩; rw [HZ.out]; have b2_ := below_step (below_alloc w1 (.cells #[.slice au u.length cu, .slice av v.length cv] 24)) (size_alloc w1 (.cells #[.slice au u.length cu, .slice av v.length cv] 24)) b_; have SS2 := Lib.hid (ss2 b2_ hd1 SS1.out); have HB2 := Lib.hid (below_step HB1.out HB1.out.size b2_); have hd2 := Nat.lt_of_lt_of_le hd1 b2_.size; clear k0 k1; obtain ⟨k0, k1⟩ := SS2.out; clear b_ b2_)) | (go_at_call 89; ((with_reducible refine (norm_any pS aS S cS loS tpS au u cu lou tpu w2 (HS.out.below HB2.out tS) (Nat.le_trans tS HB2.out.size) (Hu.out.below HB2.out tu) (Nat.le_trans tu HB2.out.size) HI.out HVu.out).mono ?_); rintro e w3 ⟨rfl, b_⟩; rw [← HNE.out]; have SS3 := Lib.hid (ss2 b_ hd2 SS2.out); have HB3 := Lib.hid (below_step HB2.out HB2.out.size b_); have hd3 := Nat.lt_of_lt_of_le hd2 b_.size; clear k0 k1; obtain ⟨k0, k1⟩ := SS3.out; clear b_)) | (go_at_call 105; ((with_reducible refine (leadVector_c _ av v.length cv 5 w3 h5).mono ?_); rintro e w' ⟨rfl, rfl⟩)))
     go_ret2
     rw [HVC.out.1, HVC.out.2]
     exact ⟨none, 0, rfl, .inl rfl, HB3.out⟩
   · have HVC : Hid (rfV pS S u v = rflM pS S u v ∧ rfC pS S u v = 0) := by
      have e : rfC pS S u v = 0 := by unfold rfC; rw [if_pos hz0, if_neg hn0]
      exact ⟨by unfold rfV; rw [if_pos e], e⟩
     have h2_ := rvC_two hz0
     have HI := Lib.hid h2_.1
     have HVu := Lib.hid h2_.2.1
     have HVv := Lib.hid h2_.2.2
     obtain ⟨N, hN⟩ : ∃ a, a = pairN pS S u u := ⟨_, rfl⟩
     have HNE := Lib.hid hN
     rw [← hN] at hn0
     clear h2_ hN
     have e1 : (N == 0) = false := by simpa using hn0
     clear hz0 hn0
     go_enter Tryz.func24, Tryz.ntmps24
     go_upto_region 1 with fail
     obtain ⟨w1, hw1⟩ : ∃ z, z = w.alloc (.cells #[.int .i64 pS, .slice aS S.length cS] 26) := ⟨_, rfl⟩
     rw [← hw1] at HB0 k0 k1 ⊢
     have hd1 : w.heap.size < w1.heap.size := by rw [hw1]; simp
     have HB1 := HB0
     clear hw1
     have SS1 := Lib.hid (And.intro k0 k1)
     go_wp2_with (first | (go_at_call 106; ((with_reducible refine (checkRV2 pS aS S cS loS tpS au u cu lou tpu av v cv lov tpv _ _ w1 _ rfl (HS.out.below HB1.out tS) (Nat.le_trans tS HB1.out.size) sS (Hu.out.below HB1.out tu) (Nat.le_trans tu HB1.out.size) su (Hv.out.below HB1.out tv) (Nat.le_trans tv HB1.out.size) sv).mono ?_); rintro e w2 ⟨rfl, b_⟩; rw [HZ.out]; have b2_ := below_step (below_alloc w1 (.cells #[.slice au u.length cu, .slice av v.length cv] 24)) (size_alloc w1 (.cells #[.slice au u.length cu, .slice av v.length cv] 24)) b_; have SS2 := Lib.hid (ss2 b2_ hd1 SS1.out); have HB2 := Lib.hid (below_step HB1.out HB1.out.size b2_); have hd2 := Nat.lt_of_lt_of_le hd1 b2_.size; clear k0 k1; obtain ⟨k0, k1⟩ := SS2.out; clear b_ b2_)) | (go_at_call 89; ((with_reducible refine (norm_any pS aS S cS loS tpS au u cu lou tpu w2 (HS.out.below HB2.out tS) (Nat.le_trans tS HB2.out.size) (Hu.out.below HB2.out tu) (Nat.le_trans tu HB2.out.size) HI.out HVu.out).mono ?_); rintro e w3 ⟨rfl, b_⟩; rw [← HNE.out]; have SS3 := Lib.hid (ss2 b_ hd2 SS2.out); have HB3 := Lib.hid (below_step HB2.out HB2.out.size b_); have hd3 := Nat.lt_of_lt_of_le hd2 b_.size; clear k0 k1; obtain ⟨k0, k1⟩ := SS3.out; clear b_)) | (go_at_call 105; ((with_reducible refine (leadVector_r pS aS S cS loS tpS au u cu lou tpu av v cv lov tpv w3 HI.out (HS.out.below HB3.out tS) (Nat.le_trans tS HB3.out.size) (Hu.out.below HB3.out tu) (Nat.le_trans tu HB3.out.size) HVu.out (Hv.out.below HB3.out tv) (Nat.le_trans tv HB3.out.size) HVv.out).mono ?_); rintro e w4 ⟨r, c, rfl, o_, b_⟩; have SS4 := Lib.hid (ss2 b_ hd3 SS3.out); have HB4 := Lib.hid (below_step HB3.out HB3.out.size b_); have hd4 := Nat.lt_of_lt_of_le hd3 b_.size; have OO := Lib.hid (OwnR.mono' o_ (Nat.le_of_lt hd3) (Nat.le_refl _)); clear o_; clear k0 k1; obtain ⟨k0, k1⟩ := SS4.out; clear b_)))
     go_ret2
     rw [HVC.out.1, HVC.out.2]
     exact ⟨r, c, rfl, OO.out, HB4.out⟩
 · have HVC : Hid (rfV pS S u v = [] ∧ rfC pS S u v = rvC pS S [u, v]) := by
    have e : rfC pS S u v = rvC pS S [u, v] := by unfold rfC; rw [if_neg hz0]
    exact ⟨by unfold rfV; rw [if_neg (by rw [e]; exact hz0)], e⟩
   obtain ⟨C, hC⟩ : ∃ c, c = rvC pS S [u, v] := ⟨_, rfl⟩
   have hc1 : (C != 0) = true := by rw [hC]; simpa using hz0
   have hc2 : (C == 0) = false := by rw [hC]; simpa using hz0
   have HCE := Lib.hid hC
   clear hz0 hC
   go_enter Tryz.func24, Tryz.ntmps24
   go_upto_region 1 with fail
   obtain ⟨w1, hw1⟩ : ∃ z, z = w.alloc (.cells #[.int .i64 pS, .slice aS S.length cS] 26) := ⟨_, rfl⟩
   rw [← hw1] at HB0 k0 k1 ⊢
   have hd1 : w.heap.size < w1.heap.size := by rw [hw1]; simp
   have HB1 := HB0
   clear hw1
   have SS1 := Lib.hid (And.intro k0 k1)
   go_wp2_with (first | (go_at_call 106; ((with_reducible refine (checkRV2 pS aS S cS loS tpS au u cu lou tpu av v cv lov tpv _ _ w1 _ rfl (HS.out.below HB1.out tS) (Nat.le_trans tS HB1.out.size) sS (Hu.out.below HB1.out tu) (Nat.le_trans tu HB1.out.size) su (Hv.out.below HB1.out tv) (Nat.le_trans tv HB1.out.size) sv).mono ?_); rintro e w2 ⟨rfl, b_⟩; rw [← HCE.out]; have b2_ := below_step (below_alloc w1 (.cells #[.slice au u.length cu, .slice av v.length cv] 24)) (size_alloc w1 (.cells #[.slice au u.length cu, .slice av v.length cv] 24)) b_; have SS2 := Lib.hid (ss2 b2_ hd1 SS1.out); have HB2 := Lib.hid (below_step HB1.out HB1.out.size b2_); have hd2 := Nat.lt_of_lt_of_le hd1 b2_.size; clear k0 k1; obtain ⟨k0, k1⟩ := SS2.out; clear b_ b2_)) | (go_at_call 105; ((with_reducible refine (leadVector_c _ av v.length cv C w2 hc1).mono ?_); rintro e w' ⟨rfl, rfl⟩)))
   go_ret2
   rw [HVC.out.1, HVC.out.2, ← HCE.out]
   exact ⟨none, 0, rfl, .inl rfl, HB2.out⟩
theorem kp0_iff {a b : Nat} : kp 0 a b = true ↔ ∀ i, (a.testBit i && b.testBit i) = false := by
 unfold kp
 rw [if_pos rfl, beq_iff_eq]
 constructor
 · intro h i
   rw [← Nat.testBit_and, h, Nat.zero_testBit]
 · intro h
   exact Nat.eq_of_testBit_eq fun i => by rw [Nat.testBit_and, h i, Nat.zero_testBit]
theorem kp1_iff {a b : Nat} : kp 1 a b = true ↔ ∀ i, (a.testBit i && b.testBit i) = a.testBit i := by
 unfold kp
 rw [if_neg (by decide), if_pos rfl, beq_iff_eq]
 constructor
 · intro h i
   rw [← Nat.testBit_and, h]
 · intro h
   exact Nat.eq_of_testBit_eq fun i => by rw [Nat.testBit_and, h i]
theorem kp_wedge (a b e : Nat) : (kp 0 a b && kp 0 (a ^^^ b) e) = (kp 0 a (b ^^^ e) && kp 0 b e) := by
 rw [Bool.eq_iff_iff, Bool.and_eq_true, Bool.and_eq_true, kp0_iff, kp0_iff, kp0_iff, kp0_iff]
 constructor
 · rintro ⟨h, k⟩
   refine ⟨fun i => ?_, fun i => ?_⟩ <;>
   · have h1 := h i
     have k1 := k i
     rw [Nat.testBit_xor] at *
     revert h1 k1
     cases a.testBit i <;> cases b.testBit i <;> cases e.testBit i <;> simp
 · rintro ⟨h, k⟩
   refine ⟨fun i => ?_, fun i => ?_⟩ <;>
   · have h1 := h i
     have k1 := k i
     rw [Nat.testBit_xor] at *
     revert h1 k1
     cases a.testBit i <;> cases b.testBit i <;> cases e.testBit i <;> simp
def fk (S : List Int) (κ a b n : Nat) : Int := if kp κ a b = true then fz S a b n else 0
def kpz (S : List Int) (n κ : Nat) (x y : Nat → Int) (c : Nat) : Int := sm (2 ^ n) fun a => x a * fk S κ a (a ^^^ c) n * y (a ^^^ c)
theorem fk_coc (S : List Int) {κ1 κ2 κ3 κ4 : Nat} (h : ∀ a b e, (kp κ1 a b && kp κ2 (a ^^^ b) e) = (kp κ3 a (b ^^^ e) && kp κ4 b e)) (a b e n : Nat) : fk S κ1 a b n * fk S κ2 (a ^^^ b) e n = fk S κ3 a (b ^^^ e) n * fk S κ4 b e n := by
 have hk := h a b e
 have hf := fz_coc S a b e n
 unfold fk
 revert hk
 cases kp κ1 a b <;> cases kp κ2 (a ^^^ b) e <;> cases kp κ3 a (b ^^^ e) <;> cases kp κ4 b e <;> simp [hf]
theorem kpz_assoc (S : List Int) (n : Nat) {κ1 κ2 κ3 κ4 : Nat} (hk : ∀ a b e, (kp κ1 a b && kp κ2 (a ^^^ b) e) = (kp κ3 a (b ^^^ e) && kp κ4 b e)) (x y z : Nat → Int) {d : Nat} (hd : d < 2 ^ n) : kpz S n κ2 (kpz S n κ1 x y) z d = kpz S n κ3 x (kpz S n κ4 y z) d := by
 unfold kpz
 have h1 : ∀ c, c < 2 ^ n → (sm (2 ^ n) fun a => x a * fk S κ1 a (a ^^^ c) n * y (a ^^^ c)) * fk S κ2 c (c ^^^ d) n * z (c ^^^ d) = sm (2 ^ n) fun a => x a * (fk S κ3 a (a ^^^ d) n * fk S κ4 (a ^^^ c) (c ^^^ d) n) * (y (a ^^^ c) * z (c ^^^ d)) := fun c _ => by
  rw [Int.mul_assoc, Int.mul_comm, ← sm_mul]
  apply sm_congr
  intro a _
  have h := fk_coc S hk a (a ^^^ c) (c ^^^ d) n
  rw [xor_back, show (a ^^^ c) ^^^ (c ^^^ d) = a ^^^ d by rw [Nat.xor_assoc, xor_back]] at h
  rw [← h]
  ac_rfl
 rw [sm_congr h1, sm_swap]
 apply sm_congr
 intro a ha
 have h2 : x a * fk S κ3 a (a ^^^ d) n * (sm (2 ^ n) fun b => y b * fk S κ4 b (b ^^^ (a ^^^ d)) n * z (b ^^^ (a ^^^ d))) = sm (2 ^ n) fun b => x a * fk S κ3 a (a ^^^ d) n * (y b * fk S κ4 b (b ^^^ (a ^^^ d)) n * z (b ^^^ (a ^^^ d))) := by rw [sm_mul]
 rw [h2, ← sm_xor n a ha (fun b => x a * fk S κ3 a (a ^^^ d) n * (y b * fk S κ4 b (b ^^^ (a ^^^ d)) n * z (b ^^^ (a ^^^ d))))]
 apply sm_congr
 intro c _
 show _ = x a * fk S κ3 a (a ^^^ d) n * (y (c ^^^ a) * fk S κ4 (c ^^^ a) (c ^^^ a ^^^ (a ^^^ d)) n * z (c ^^^ a ^^^ (a ^^^ d)))
 rw [Nat.xor_comm c a, xor_mid]
 ac_rfl
theorem kpz_mod {p : Int} (S : List Int) (n κ : Nat) {x x' y y' : Nat → Int} {c : Nat} (hc : c < 2 ^ n) (hx : ∀ j, j < 2 ^ n → x j % p = x' j % p) (hy : ∀ j, j < 2 ^ n → y j % p = y' j % p) : kpz S n κ x y c % p = kpz S n κ x' y' c % p :=
 sm_congr_p fun a ha => by
  rw [Int.mul_emod, Int.mul_emod (x a), hx a ha, hy _ (Nat.xor_lt_two_pow ha hc), ← Int.mul_emod (x' a), ← Int.mul_emod]
theorem kF_eq (p : Int) (S : List Int) (κ : Nat) (x y : List Int) (c : Nat) : kF p S κ x y c = kpz S S.length κ (fun j => x.getD j 0) (fun j => y.getD j 0) c % p := by
 unfold kF kpz
 exact sm_congr_p fun a _ => by
  unfold tk fk tm fm
  by_cases h : kp κ a (a ^^^ c) = true
  · rw [if_pos h, if_pos h, Int.mul_emod, Int.mul_emod (x.getD a 0), Int.emod_emod, ← Int.mul_emod (x.getD a 0), ← Int.mul_emod]
  · rw [if_neg h, if_neg h, Int.mul_zero, Int.zero_mul]
theorem kM_assoc (p : Int) (S : List Int) {κ1 κ2 κ3 κ4 : Nat} (hk : ∀ a b e, (kp κ1 a b && kp κ2 (a ^^^ b) e) = (kp κ3 a (b ^^^ e) && kp κ4 b e)) (x y z : List Int) : kM p S κ2 (kM p S κ1 x y) z = kM p S κ3 x (kM p S κ4 y z) :=
 mkR_congr fun d hd => by
  have hd' : d < 2 ^ S.length := hd
  rw [kF_eq, kF_eq]
  rw [kpz_mod S S.length κ2 hd' (x' := kpz S S.length κ1 (fun j => x.getD j 0) (fun j => y.getD j 0)) (y' := fun j => z.getD j 0) (fun j hj => by rw [kM_at p S κ1 x y hj, kF_eq]; exact Int.emod_emod _ _) (fun j _ => rfl), kpz_assoc S S.length hk _ _ _ hd',
   kpz_mod S S.length κ3 hd' (x' := fun j => x.getD j 0) (y' := fun j => (kM p S κ4 y z).getD j 0) (fun j _ => rfl) (fun j hj => by rw [kM_at p S κ4 y z hj, kF_eq]; exact (Int.emod_emod _ _).symm)]
theorem wedge_assoc (p : Int) (S x y z : List Int) : kM p S 0 (kM p S 0 x y) z = kM p S 0 x (kM p S 0 y z) := kM_assoc p S kp_wedge x y z
def dsg (i : Nat) : Int := if i % 2 = 0 then 1 else -1
def bitL (c : Nat) : List Nat := (List.range 6).filter fun i => decide (c / 2 ^ i % 2 = 1)
def posB (c i : Nat) : Nat := gr (c % 2 ^ i)
theorem bit_drop : ∀ c, c < 64 → ∀ i, i < 6 → c / 2 ^ i % 2 = 1 → bitL (c ^^^ 2 ^ i) = (bitL c).eraseIdx (posB c i) ∧ gr (c ^^^ 2 ^ i) + 1 = gr c ∧ gr (c / 2 ^ (i + 1)) + posB c i + 1 = gr c := by decide +kernel
theorem gr_none : ∀ c, c < 64 → gr c = 0 → c = 0 := by decide +kernel
def wD (f : Nat → Nat → Int) : Nat → Nat → Int
 | 0, c => if c = 0 then 1 else 0
 | k + 1, c => sm 6 fun i => if c / 2 ^ i % 2 = 1 then wD f k (c ^^^ 2 ^ i) * dsg (gr (c / 2 ^ (i + 1))) * f k i else 0
structure Kept (p : Int) (c : Nat) (A m : List (List Int)) (P : Nat → Nat) : Prop where
 len : ∀ i, i < m.length → (rw' m i).length = c
 red : Rref p m.length c (at' m) P
 nul : ∀ x, Go.Proofs.YtgfanoejohpmkaaGreat.nul p A.length c (at' A) x ↔ Go.Proofs.YtgfanoejohpmkaaGreat.nul p m.length c (at' m) x
theorem Kept.bas {p : Int} {c : Nat} {A m : List (List Int)} {P : Nat → Nat} (h : Kept p c A m P) : IsBas p c A m := ⟨h.len, ⟨P, h.red⟩, h.nul⟩
theorem Kept.start (p : Int) (c : Nat) (P : Nat → Nat) : Kept p c [] [] P where
 len i hi := by simp at hi
 red := ⟨fun i hi => by simp at hi, fun i i' _ hi => by simp at hi, fun i hi => by simp at hi, fun i hi => by simp at hi, fun i hi => by simp at hi, fun i hi => by simp at hi⟩
 nul x := by simp [Go.Proofs.YtgfanoejohpmkaaGreat.nul]
def num (z : List Int) (j : Nat) : Int := z.getD j 0
theorem at_append_old {m : List (List Int)} {z : List Int} {i : Nat} (h : i < m.length) : at' (m ++ [z]) i = at' m i := by
 funext j
 unfold at' rw'
 simp only [List.getD_eq_getElem?_getD]
 rw [List.getElem?_append_left h]
theorem at_append_new (m : List (List Int)) (z : List Int) : at' (m ++ [z]) m.length = num z := by
 funext j
 unfold at' rw' num
 simp
theorem nul_append {p : Int} {c : Nat} {A : List (List Int)} {r : List Int} {x : Nat → Int} : nul p (A ++ [r]).length c (at' (A ++ [r])) x ↔ nul p A.length c (at' A) x ∧ van p c (num r) x := by
 simp only [List.length_append, List.length_cons, List.length_nil]
 constructor
 · intro h
   refine ⟨fun i hi => ?_, ?_⟩
   · have := h i (by omega); rw [at_append_old hi] at this; exact this
   · have := h A.length (by omega); rw [at_append_new] at this; exact this
 · rintro ⟨h1, h2⟩ i hi
   by_cases e : i < A.length
   · rw [at_append_old e]; exact h1 i e
   · have : i = A.length := by omega
     subst this
     rw [at_append_new]; exact h2
theorem Kept.same {p : Int} {c : Nat} {A m : List (List Int)} {P : Nat → Nat} {r r' : List Int} (h : Kept p c A m P) (hr : ∀ x, Go.Proofs.YtgfanoejohpmkaaGreat.nul p m.length c (at' m) x → (van p c (num r') x ↔ van p c (num r) x)) (h0 : ∀ j, j < c → num r' j = 0) : Kept p c (A ++ [r]) m P :=
 ⟨h.len, h.red, fun x => by
  rw [nul_append, h.nul x]
  constructor
  · exact fun g => g.1
  · intro g
    refine ⟨g, (hr x g).1 ?_⟩
    unfold van
    have e : sm c (fun j => num r' j * x j) = sm c (fun _ => 0) := sm_congr (fun j hj => by rw [h0 j hj, Int.zero_mul])
    rw [e, sm_zero]; rfl⟩
def ins (α : Type) (l : List α) (t : Nat) (x : α) : List α := l.take t ++ x :: l.drop t
theorem ins_len {α : Type} {l : List α} {t : Nat} (x : α) (h : t ≤ l.length) : (ins α l t x).length = l.length + 1 := by
 simp [ins]; omega
theorem ins_lt {α : Type} {l : List α} {t i : Nat} (x d : α) (h : t ≤ l.length) (hi : i < t) : (ins α l t x).getD i d = l.getD i d := by
 simp only [ins, List.getD_eq_getElem?_getD]
 rw [List.getElem?_append_left (by rw [List.length_take]; omega), List.getElem?_take, if_pos hi]
theorem ins_eq {α : Type} {l : List α} {t : Nat} (x d : α) (h : t ≤ l.length) : (ins α l t x).getD t d = x := by
 simp only [ins, List.getD_eq_getElem?_getD]
 rw [List.getElem?_append_right (by rw [List.length_take]; omega), List.length_take, Nat.min_eq_left h]
 simp
theorem ins_gt {α : Type} {l : List α} {t i : Nat} (x d : α) (h : t ≤ l.length) (hi : t < i) : (ins α l t x).getD i d = l.getD (i - 1) d := by
 simp only [ins, List.getD_eq_getElem?_getD]
 rw [List.getElem?_append_right (by rw [List.length_take]; omega), List.length_take, Nat.min_eq_left h]
 obtain ⟨k, rfl⟩ : ∃ k, i = t + 1 + k := ⟨i - t - 1, by omega⟩
 have e1 : t + 1 + k - t = k + 1 := by omega
 have e2 : t + 1 + k - 1 = t + k := by omega
 rw [e1, e2, List.getElem?_cons_succ, List.getElem?_drop]
def old (t i : Nat) : Nat := if i < t then i else i - 1
theorem old_lt {n t i : Nat} (h : i < n + 1) (hne : i ≠ t) (ht : t ≤ n) : old t i < n := by unfold old; split <;> omega
theorem old_inj {t i i' : Nat} (h : i ≠ t) (h' : i' ≠ t) (hne : i ≠ i') : old t i ≠ old t i' := by unfold old; split <;> split <;> omega
theorem at_ins {m : List (List Int)} {t i : Nat} (z : List Int) (ht : t ≤ m.length) (hne : i ≠ t) : at' (ins _ m t z) i = at' m (old t i) := by
 funext j
 unfold at' rw' old
 rcases Nat.lt_trichotomy i t with l | l | l
 · rw [if_pos l, ins_lt z [] ht l]
 · exact absurd l hne
 · rw [if_neg (by omega), ins_gt z [] ht l]
theorem at_ins_new {m : List (List Int)} {t : Nat} (z : List Int) (ht : t ≤ m.length) : at' (ins _ m t z) t = num z := by
 funext j
 unfold at' rw' num
 rw [ins_eq z [] ht]
theorem rw_ins {m : List (List Int)} {t i : Nat} (z : List Int) (ht : t ≤ m.length) (hne : i ≠ t) : rw' (ins _ m t z) i = rw' m (old t i) := by
 unfold rw' old
 rcases Nat.lt_trichotomy i t with l | l | l
 · rw [if_pos l, ins_lt z [] ht l]
 · exact absurd l hne
 · rw [if_neg (by omega), ins_gt z [] ht l]
theorem rw_ins_new {m : List (List Int)} {t : Nat} (z : List Int) (ht : t ≤ m.length) : rw' (ins _ m t z) t = z := by unfold rw'; rw [ins_eq z [] ht]
theorem Kept.more {p : Int} {c : Nat} {A m m' : List (List Int)} {P : Nat → Nat} {r r' s : List Int} {q t : Nat} (hp : prm p = true) (h : Kept p c A m P)
 (hr : ∀ x, Go.Proofs.YtgfanoejohpmkaaGreat.nul p m.length c (at' m) x → (van p c (num r') x ↔ van p c (num r) x)) (hP : ∀ i, i < m.length → num r' (P i) = 0) (hrr : ∀ j, j < c → 0 ≤ num r' j ∧ num r' j < p)
 (hq : q < c) (hq0 : num r' q ≠ 0) (hql : ∀ j, j < q → num r' j = 0)
 (hs : ∀ j, j < c → num s j = num r' j * inv p (num r' q) % p) (hsl : s.length = c)
 (hm : m'.length = m.length) (hml : ∀ i, i < m.length → (rw' m' i).length = c) (hmr : ∀ i, i < m.length → ∀ j, j < c → at' m' i j = (at' m i j + (p - at' m i q) % p * num s j) % p)
 (ht : t ≤ m.length) (htl : ∀ i, i < t → P i < q) (htr : ∀ i, t ≤ i → i < m.length → q < P i) :
 Kept p c (A ++ [r]) (ins _ m' t s) (fun i => if i = t then q else P (old t i)) := by
 have hpb := prm_bd hp
 have hrq := hrr q hq
 have ht' : t ≤ m'.length := by omega
 have hlen : (ins _ m' t s).length = m.length + 1 := by rw [ins_len s ht', hm]
 have hsq : num s q = 1 := by rw [hs q hq]; exact inv_mul hp (by omega) hrq.2
 have hs0 : ∀ j, j < q → num s j = 0 := fun j hj => by rw [hs j (by omega), hql j hj]; simp
 have hsP : ∀ i, i < m.length → num s (P i) = 0 := fun i hi => by rw [hs _ (h.red.pv i hi), hP i hi]; simp
 have hmq : ∀ i, i < m.length → at' m' i q = 0 := fun i hi => by
  rw [hmr i hi q hq, hsq, Int.mul_one]
  have r1 := h.red.rng i hi q hq
  by_cases e : at' m i q = 0
  · rw [e]; simp
  · rw [Int.emod_eq_of_lt (a := p - at' m i q) (by omega) (by omega)]
    have : at' m i q + (p - at' m i q) = p := by omega
    rw [this]; simp
 have hkeep : ∀ i, i < m.length → ∀ j, j < c → num s j = 0 → at' m' i j = at' m i j := fun i hi j hj h0 => by
  rw [hmr i hi j hj, h0, Int.mul_zero, Int.add_zero]
  have r1 := h.red.rng i hi j hj
  exact Int.emod_eq_of_lt r1.1 r1.2
 have htq : ∀ i, i < m.length → (i < t ↔ P i < q) := fun i hi => ⟨htl i, fun g => by
  rcases Nat.lt_or_ge i t with l | l
  · exact l
  · have := htr i l hi; omega⟩
 have fstm : ∀ i, i < m.length → ∀ j, j < P i → at' m' i j = 0 := fun i hi j hj => by
  have hjc : j < c := Nat.lt_trans hj (h.red.pv i hi)
  rw [hmr i hi j hjc, h.red.fst i hi j hj, Int.zero_add]
  by_cases e : P i < q
  · rw [hs0 j (by omega)]; simp
  · have hPq : q < P i := by
     rcases Nat.lt_or_ge i t with l | l
     · exact absurd (htl i l) e
     · exact htr i l hi
    rw [h.red.fst i hi q hPq]; simp
 refine ⟨fun i hi => ?_, ?_, fun x => ?_⟩
 · rw [hlen] at hi
   by_cases e : i = t
   · subst e; rw [rw_ins_new s ht']; exact hsl
   · rw [rw_ins s ht' e]; exact hml _ (old_lt hi e ht)
 · rw [hlen]
   refine ⟨fun i hi => ?_, fun i i' hii hi' => ?_, fun i hi => ?_, fun i hi i' hi' hne => ?_, fun i hi j hj => ?_, fun i hi j hj => ?_⟩
   · show (if i = t then q else P (old t i)) < c
     by_cases e : i = t
     · rw [if_pos e]; exact hq
     · rw [if_neg e]; exact h.red.pv _ (old_lt hi e ht)
   · show (if i = t then q else P (old t i)) < if i' = t then q else P (old t i')
     by_cases e : i = t
     · rw [if_pos e, if_neg (by omega)]
       exact htr _ (by unfold old; rw [if_neg (by omega)]; omega) (old_lt hi' (by omega) ht)
     · rw [if_neg e]
       by_cases e' : i' = t
       · rw [if_pos e']
         exact htl _ (by unfold old; rw [if_pos (by omega)]; omega)
       · rw [if_neg e']
         exact h.red.mono _ _ (by unfold old; split <;> split <;> omega) (old_lt hi' e' ht)
   · show at' (ins _ m' t s) i (if i = t then q else P (old t i)) = 1
     by_cases e : i = t
     · rw [if_pos e, e, at_ins_new s ht']; exact hsq
     · have ho := old_lt hi e ht
       rw [if_neg e, at_ins s ht' e, hkeep _ ho _ (h.red.pv _ ho) (hsP _ ho)]
       exact h.red.one _ ho
   · show at' (ins _ m' t s) i' (if i = t then q else P (old t i)) = 0
     by_cases e : i = t
     · have e' : i' ≠ t := by omega
       rw [if_pos e, at_ins s ht' e']
       exact hmq _ (old_lt hi' e' ht)
     · have ho := old_lt hi e ht
       rw [if_neg e]
       by_cases e' : i' = t
       · rw [e', at_ins_new s ht']; exact hsP _ ho
       · have ho' := old_lt hi' e' ht
         rw [at_ins s ht' e', hkeep _ ho' _ (h.red.pv _ ho) (hsP _ ho)]
         exact h.red.zer _ ho _ ho' (old_inj e e' hne)
   · have hj' : j < (if i = t then q else P (old t i)) := hj
     by_cases e : i = t
     · rw [if_pos e] at hj'; rw [e, at_ins_new s ht']; exact hs0 j hj'
     · rw [if_neg e] at hj'; rw [at_ins s ht' e]; exact fstm _ (old_lt hi e ht) j hj'
   · by_cases e : i = t
     · rw [e, at_ins_new s ht', hs j hj]; exact mod_bd hp _
     · rw [at_ins s ht' e, hmr _ (old_lt hi e ht) j hj]; exact mod_bd hp _
 · rw [nul_append, h.nul x, hlen]
   have vs : van p c (num s) x ↔ van p c (num r') x := van_scale (g := num r' q) hs (by rw [Int.mul_comm, inv_mul hp (by omega) hrq.2, Int.emod_eq_of_lt (by omega) (by omega)])
   have vm : van p c (num s) x → ∀ i, i < m.length → (van p c (at' m' i) x ↔ van p c (at' m i) x) := fun hv i hi => van_add (hmr i hi) hv
   constructor
   · rintro ⟨g1, g2⟩ i hi
     have hv : van p c (num s) x := vs.2 ((hr x g1).2 g2)
     by_cases e : i = t
     · rw [e, at_ins_new s ht']; exact hv
     · have ho := old_lt hi e ht
       rw [at_ins s ht' e]; exact (vm hv _ ho).2 (g1 _ ho)
   · intro g
     have hv : van p c (num s) x := by have := g t (by omega); rw [at_ins_new s ht'] at this; exact this
     have g1 : Go.Proofs.YtgfanoejohpmkaaGreat.nul p m.length c (at' m) x := fun i hi => by
      by_cases e : i < t
      · have := g i (by omega)
        rw [at_ins s ht' (by omega)] at this
        have e2 : old t i = i := by unfold old; rw [if_pos e]
        rw [e2] at this
        exact (vm hv i hi).1 this
      · have := g (i + 1) (by omega)
        rw [at_ins s ht' (by omega)] at this
        have e2 : old t (i + 1) = i := by unfold old; rw [if_neg (by omega)]; omega
        rw [e2] at this
        exact (vm hv i hi).1 this
     exact ⟨g1, (hr x g1).1 (vs.1 hv)⟩
structure Redu (p : Int) (c : Nat) (m : List (List Int)) (P : Nat → Nat) (r r' : List Int) (k : Nat) : Prop where
 len : r'.length = c
 rng : ∀ j, j < c → 0 ≤ num r' j ∧ num r' j < p
 zer : ∀ i, i < k → num r' (P i) = 0
 van : ∀ x, Go.Proofs.YtgfanoejohpmkaaGreat.nul p m.length c (at' m) x → (Go.Proofs.YtgfanoejohpmkaaGreat.van p c (num r') x ↔ Go.Proofs.YtgfanoejohpmkaaGreat.van p c (num r) x)
theorem Redu.start {p : Int} {c : Nat} {m : List (List Int)} {P : Nat → Nat} {r : List Int} (hl : r.length = c) (hr : ∀ j, j < c → 0 ≤ num r j ∧ num r j < p) : Redu p c m P r r 0 :=
 ⟨hl, hr, fun i hi => by omega, fun x _ => Iff.rfl⟩
theorem Redu.next {p : Int} {c : Nat} {m : List (List Int)} {P : Nat → Nat} {r r' r'' : List Int} {k : Nat} (hp : prm p = true) (h : Redu p c m P r r' k) (hR : Rref p m.length c (at' m) P) (hk : k < m.length)
 (hl : r''.length = c) (hn : ∀ j, j < c → num r'' j = (num r' j + (p - num r' (P k)) % p * at' m k j) % p) : Redu p c m P r r'' (k + 1) := by
 have hpb := prm_bd hp
 refine ⟨hl, fun j hj => by rw [hn j hj]; exact mod_bd hp _, fun i hi => ?_, fun x hx => ?_⟩
 · have hik : i < m.length := by omega
   rw [hn _ (hR.pv i hik)]
   by_cases e : i = k
   · subst e
     rw [hR.one i hk, Int.mul_one]
     have r1 := h.rng _ (hR.pv i hk)
     by_cases e0 : num r' (P i) = 0
     · rw [e0]; simp
     · rw [Int.emod_eq_of_lt (a := p - num r' (P i)) (by omega) (by omega)]
       have : num r' (P i) + (p - num r' (P i)) = p := by omega
       rw [this]; simp
   · rw [hR.zer i hik k hk e, h.zer i (by omega)]; simp
 · exact (van_add hn (hx k hk)).trans (h.van x hx)
end Go.Proofs.YtgfanoejohpmkaaGreat