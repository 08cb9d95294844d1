/-
  VersorOf, ReflectIn (program): contracts of the program and of the model.
  Conditions: the lists are nil or rows of known cells, of at most 1048576 numbers.
-/
import Derived.Test.YtgfanoejohpmkaaGreatQs35
import Derived.Test.YtgfanoejohpmkaaGreatQs36
import Derived.Test.YtgfanoejohpmkaaGreatQs38
import Derived.Test.YtgfanoejohpmkaaGreatQs31
import Derived.Deep.RegionHeld3
import Derived.Deep.DeepCutAuto
namespace Go.Proofs.YtgfanoejohpmkaaGreat
open Go.RowKit
set_option linter.unusedVariables false

/-- The code of a regular space and vectors. -/
def rvC (p : Int) (S : List Int) (m : List (List Int)) : Int := if codeVs p S m = 0 then (if discN p S = 0 then 5 else 0) else codeVs p S m
def rfC (p : Int) (S u v : List Int) : Int := if rvC p S [u, v] = 0 then (if pairN p S u u = 0 then 5 else 0) else rvC p S [u, v]
def rfV (p : Int) (S u v : List Int) : List Int := if rfC p S u v = 0 then rflM p S u v else []
def nulB (p : Int) (S : List Int) (m : List (List Int)) (k : Nat) : Bool := (List.range k).any fun j => pairN p S (rw' m j) (rw' m j) == 0
def voC (p : Int) (S : List Int) (m : List (List Int)) : Int := if codeL p S m = 0 then (if discN p S = 0 then 5 else if nulB p S m m.length = true then 5 else 0) else codeL p S m
def voV (p : Int) (S : List Int) (m : List (List Int)) : List Int := if voC p S m = 0 then vrM p S m m.length else []
theorem nulB_yes {p : Int} {S : List Int} {m : List (List Int)} {k j : Nat} (hj : j < k) (h : pairN p S (rw' m j) (rw' m j) = 0) : nulB p S m k = true := List.any_eq_true.2 ⟨j, List.mem_range.2 hj, by simpa using h⟩
theorem nulB_no {p : Int} {S : List Int} {m : List (List Int)} {k : Nat} (h : ∀ j, j < k → pairN p S (rw' m j) (rw' m j) ≠ 0) : nulB p S m k = false := by
  cases e : nulB p S m k with
  | false => rfl
  | true =>
    obtain ⟨j, h1, h2⟩ := List.any_eq_true.1 e
    exact absurd (by simpa using h2) (h j (List.mem_range.1 h1))
theorem codeVs_all {p : Int} {S : List Int} {m : List (List Int)} (h : codeVs p S m = 0) : isSp p S = true ∧ m.all (isVec p S.length) = true := by
  rcases codeVs_cases p S m with ⟨_, hc⟩ | ⟨hi, ha, _⟩ | ⟨_, _, hc⟩
  · rw [hc] at h; cases h
  · exact ⟨hi, ha⟩
  · rw [hc] at h; cases h
theorem rvC_zero {p : Int} {S : List Int} {m : List (List Int)} (h : rvC p S m = 0) : codeVs p S m = 0 ∧ discN p S ≠ 0 := by
  unfold rvC at h
  split at h
  · rename_i h0
    split at h
    · cases h
    · rename_i h1; exact ⟨h0, h1⟩
  · rename_i h0; exact absurd h h0
theorem rvC_two {p : Int} {S u v : List Int} (h : rvC p S [u, v] = 0) : isSp p S = true ∧ isVec p S.length u = true ∧ isVec p S.length v = true := by
  have h1 := codeVs_all (rvC_zero h).1
  have h2 := h1.2
  rw [mv_all2, Bool.and_eq_true] at h2
  exact ⟨h1.1, h2.1, h2.2⟩
theorem voC_zero {p : Int} {S : List Int} {m : List (List Int)} (h : voC p S m = 0) : codeL p S m = 0 ∧ discN p S ≠ 0 ∧ nulB p S m m.length = false := by
  unfold voC at h
  split at h
  · rename_i h0
    split at h
    · cases h
    · rename_i h1
      split at h
      · cases h
      · rename_i h2; exact ⟨h0, h1, by simpa using h2⟩
  · rename_i h0; exact absurd h h0
theorem voV_size (p : Int) (S : List Int) (m : List (List Int)) : (voV p S m).length ≤ 1048576 := by
  unfold voV; split
  · rename_i h; have := bl_le (codeL_sp' (voC_zero h).1); rw [vr_len]; omega
  · simp
theorem regC_nil {p : Int} {S : List Int} (h : isSp p S = true) : regC p S [] = if discN p S = 0 then 5 else 0 := by
  unfold regC
  rw [if_pos (codeMv_zero.2 ⟨h, rfl⟩)]
theorem checkR0 (pS : Int) (aS : Option Addr) (S : List Int) (cS loS tpS : Nat) (w : World) (hS : RowIn loS tpS w aS S) (tS : tpS ≤ w.heap.size) (sS : S.length ≤ 1048576) :
    Calls Tryz.prog 97 #[.agg #[.int .i64 pS, .slice aS S.length cS], .slice none 0 0] w fun e w' => e = .returned (.int .i64 (regC pS S [])) ∧ Below w.heap.size w w' :=
  checkRegular_any pS aS S cS loS tpS none [] 0 0 0 w hS tS sS (.inl rfl) (Nat.zero_le _) (by show 0 ≤ 1048576; omega) (fun i hi => absurd hi (Nat.not_lt_zero i))

set_option maxRecDepth 100000 in
set_option maxHeartbeats 3200000 in
theorem checkRegularVectors_any (pS : Int) (aS : Option Addr) (S : List Int) (cS loS tpS : Nat) (am : Option Addr) (m : List (List Int)) (cm lom tpm : Nat) (w : World) (hS : RowIn loS tpS w aS S) (tS : tpS ≤ w.heap.size) (sS : S.length ≤ 1048576) (hm : MatIn lom tpm w am m) (tm : tpm ≤ w.heap.size) (sm : m.length ≤ 1048576) (sr : ∀ i, i < m.length → (rw' m i).length ≤ 1048576) :
    Calls Tryz.prog 106 #[.agg #[.int .i64 pS, .slice aS S.length cS], .slice am m.length cm] w fun e w' => e = .returned (.int .i64 (rvC pS S m)) ∧ Below w.heap.size w w' := by
  have HS := Lib.hid hS
  have Hm := Lib.hid hm
  have HSR := Lib.hid sr
  have k0 := nw0 w (.int .i64 pS) (.slice aS S.length cS) 26
  have k1 := nw1 w (.int .i64 pS) (.slice aS S.length cS) 26
  have HB0 := Lib.hid (below_alloc w (.cells #[.int .i64 pS, .slice aS S.length cS] 26))
  clear hS hm sr
  by_cases hc : codeVs pS S m = 0
  · have HC0 := Lib.hid hc
    have HRE : Hid (rvC pS S m = regC pS S []) := by show _ = _; rw [regC_nil (codeVs_all hc).1]; unfold rvC; rw [if_pos hc]
    clear hc
    go_enter Tryz.func106, Tryz.ntmps106
    go_upto_region 1 with fail
    obtain ⟨w1, hw1⟩ : ∃ z, z = w.alloc (.cells #[.int .i64 pS, .slice aS S.length cS] 26) := ⟨_, rfl⟩
    rw [← hw1] at HB0 k0 k1 ⊢
    have hd1 : w.heap.size < w1.heap.size := by rw [hw1]; simp
    have HB1 := HB0
    clear hw1
    have SS1 := Lib.hid (And.intro k0 k1)
    go_wp2_with (first | (go_at_call 104; ((with_reducible refine (checkVectors_any pS aS S cS loS tpS am m cm lom tpm w1 (HS.out.below HB1.out tS) (Nat.le_trans tS HB1.out.size) sS (Hm.out.below HB1.out tm) (Nat.le_trans tm HB1.out.size) sm HSR.out).mono ?_); rintro e w2 ⟨rfl, b_⟩; rw [HC0.out]; have SS2 := Lib.hid (ss2 b_ hd1 SS1.out); have HB2 := Lib.hid (below_step HB1.out HB1.out.size b_); have hd2 := Nat.lt_of_lt_of_le hd1 b_.size; clear k0 k1; obtain ⟨k0, k1⟩ := SS2.out; clear b_)) | (go_at_call 97; ((with_reducible refine (checkR0 pS aS S cS loS tpS w2 (HS.out.below HB2.out tS) (Nat.le_trans tS HB2.out.size) sS).mono ?_); rintro e w3 ⟨rfl, b_⟩; rw [← HRE.out]; have SS3 := Lib.hid (ss2 b_ hd2 SS2.out); have HB3 := Lib.hid (below_step HB2.out HB2.out.size b_); have hd3 := Nat.lt_of_lt_of_le hd2 b_.size; clear k0 k1; obtain ⟨k0, k1⟩ := SS3.out; clear b_)))
    go_ret
    exact ⟨rfl, HB3.out⟩
  · have HRE : Hid (rvC pS S m = codeVs pS S m) := by show _ = _; unfold rvC; rw [if_neg hc]
    obtain ⟨C, hC⟩ : ∃ c, c = codeVs pS S m := ⟨_, rfl⟩
    have hc1 : (C != 0) = true := by rw [hC]; simpa using hc
    have HCE := Lib.hid hC
    clear hc hC
    go_enter Tryz.func106, Tryz.ntmps106
    go_upto_region 1 with fail
    obtain ⟨w1, hw1⟩ : ∃ z, z = w.alloc (.cells #[.int .i64 pS, .slice aS S.length cS] 26) := ⟨_, rfl⟩
    rw [← hw1] at HB0 k0 k1 ⊢
    have hd1 : w.heap.size < w1.heap.size := by rw [hw1]; simp
    have HB1 := HB0
    clear hw1
    have SS1 := Lib.hid (And.intro k0 k1)
    go_wp2_with (go_at_call 104; ((with_reducible refine (checkVectors_any pS aS S cS loS tpS am m cm lom tpm w1 (HS.out.below HB1.out tS) (Nat.le_trans tS HB1.out.size) sS (Hm.out.below HB1.out tm) (Nat.le_trans tm HB1.out.size) sm HSR.out).mono ?_); rintro e w2 ⟨rfl, b_⟩; rw [← HCE.out]; have SS2 := Lib.hid (ss2 b_ hd1 SS1.out); have HB2 := Lib.hid (below_step HB1.out HB1.out.size b_); have hd2 := Nat.lt_of_lt_of_le hd1 b_.size; clear k0 k1; obtain ⟨k0, k1⟩ := SS2.out; clear b_))
    go_ret
    exact ⟨by rw [HRE.out, ← HCE.out]; rfl, HB2.out⟩

theorem checkRV2 (p : Int) (aS : Option Addr) (S : List Int) (cS loS tpS : Nat) (av : Option Addr) (v : List Int) (cv lov tpv : Nat) (au : Option Addr) (u : List Int) (cu lou tpu b cap : Nat) (W : World) (T : TypeId) (hb : b = W.heap.size)
    (hS : RowIn loS tpS W aS S) (tS : tpS ≤ W.heap.size) (sS : S.length ≤ 1048576) (hv : RowIn lov tpv W av v) (tv : tpv ≤ W.heap.size) (sv : v.length ≤ 1048576) (hu : RowIn lou tpu W au u) (tu : tpu ≤ W.heap.size) (su : u.length ≤ 1048576) :
    Calls Tryz.prog 106 #[.agg #[.int .i64 p, .slice aS S.length cS], .slice (some ⟨b, 0, none⟩) 2 cap] (W.alloc (.cells #[.slice av v.length cv, .slice au u.length cu] T)) fun e w' => e = .returned (.int .i64 (rvC p S [v, u])) ∧ Below (W.alloc (.cells #[.slice av v.length cv, .slice au u.length cu] T)).heap.size (W.alloc (.cells #[.slice av v.length cv, .slice au u.length cu] T)) w' :=
  checkRegularVectors_any p aS S cS loS tpS (some ⟨b, 0, none⟩) [v, u] cap 0 _ _ (hS.below (below_alloc W _) tS) (Nat.le_trans tS (size_alloc W _)) sS (mv_two hb hv tv hu tu T) (Nat.le_refl _) (by show 2 ≤ 1048576; omega) (fun i hi => by match i, hi with | 0, _ => exact sv | 1, _ => exact su)

set_option maxRecDepth 100000 in
set_option maxHeartbeats 6400000 in
theorem impl_ReflectIn (pS : Int) (aS : Option Addr) (S : List Int) (cS loS tpS : Nat) (au : Option Addr) (u : List Int) (cu lou tpu : Nat) (av : Option Addr) (v : List Int) (cv lov tpv : Nat) (w : World) (hS : RowIn loS tpS w aS S) (tS : tpS ≤ w.heap.size) (sS : S.length ≤ 1048576) (hu : RowIn lou tpu w au u) (tu : tpu ≤ w.heap.size) (su : u.length ≤ 1048576) (hv : RowIn lov tpv w av v) (tv : tpv ≤ w.heap.size) (sv : v.length ≤ 1048576) :
    Calls Tryz.prog 24 #[.agg #[.int .i64 pS, .slice aS S.length cS], .slice au u.length cu, .slice av v.length cv] w (ImplR (rfV pS S u v) (rfC pS S u v) w) := by
  have HS := Lib.hid hS
  have Hu := Lib.hid hu
  have Hv := Lib.hid hv
  have k0 := nw0 w (.int .i64 pS) (.slice aS S.length cS) 26
  have k1 := nw1 w (.int .i64 pS) (.slice aS S.length cS) 26
  have HB0 := Lib.hid (below_alloc w (.cells #[.int .i64 pS, .slice aS S.length cS] 26))
  clear hS hu hv
  by_cases hz0 : rvC pS S [u, v] = 0
  · have HZ := Lib.hid hz0
    by_cases hn0 : pairN pS S u u = 0
    · have HVC : Hid (rfV pS S u v = [] ∧ rfC pS S u v = 5) := by
        have e : rfC pS S u v = 5 := by unfold rfC; rw [if_pos hz0, if_pos hn0]
        exact ⟨by unfold rfV; rw [if_neg (by rw [e]; decide)], e⟩
      have h2_ := rvC_two hz0
      have HI := Lib.hid h2_.1
      have HVu := Lib.hid h2_.2.1
      have HVv := Lib.hid h2_.2.2
      obtain ⟨N, hN⟩ : ∃ a, a = pairN pS S u u := ⟨_, rfl⟩
      have HNE := Lib.hid hN
      rw [← hN] at hn0
      clear h2_ hN
      have e1 : (N == 0) = true := by simpa using hn0
      have h5 : ((5 : Int) != 0) = true := by decide
      clear hz0 hn0
      go_enter Tryz.func24, Tryz.ntmps24
      go_upto_region 1 with fail
      obtain ⟨w1, hw1⟩ : ∃ z, z = w.alloc (.cells #[.int .i64 pS, .slice aS S.length cS] 26) := ⟨_, rfl⟩
      rw [← hw1] at HB0 k0 k1 ⊢
      have hd1 : w.heap.size < w1.heap.size := by rw [hw1]; simp
      have HB1 := HB0
      clear hw1
      have SS1 := Lib.hid (And.intro k0 k1)
      go_wp2_with (first | (go_at_call 106; ((with_reducible refine (checkRV2 pS aS S cS loS tpS au u cu lou tpu av v cv lov tpv _ _ w1 _ rfl (HS.out.below HB1.out tS) (Nat.le_trans tS HB1.out.size) sS (Hu.out.below HB1.out tu) (Nat.le_trans tu HB1.out.size) su (Hv.out.below HB1.out tv) (Nat.le_trans tv HB1.out.size) sv).mono ?_); rintro e w2 ⟨rfl, b_⟩; rw [HZ.out]; have b2_ := below_step (below_alloc w1 (.cells #[.slice au u.length cu, .slice av v.length cv] 24)) (size_alloc w1 (.cells #[.slice au u.length cu, .slice av v.length cv] 24)) b_; have SS2 := Lib.hid (ss2 b2_ hd1 SS1.out); have HB2 := Lib.hid (below_step HB1.out HB1.out.size b2_); have hd2 := Nat.lt_of_lt_of_le hd1 b2_.size; clear k0 k1; obtain ⟨k0, k1⟩ := SS2.out; clear b_ b2_)) | (go_at_call 89; ((with_reducible refine (norm_any pS aS S cS loS tpS au u cu lou tpu w2 (HS.out.below HB2.out tS) (Nat.le_trans tS HB2.out.size) (Hu.out.below HB2.out tu) (Nat.le_trans tu HB2.out.size) HI.out HVu.out).mono ?_); rintro e w3 ⟨rfl, b_⟩; rw [← HNE.out]; have SS3 := Lib.hid (ss2 b_ hd2 SS2.out); have HB3 := Lib.hid (below_step HB2.out HB2.out.size b_); have hd3 := Nat.lt_of_lt_of_le hd2 b_.size; clear k0 k1; obtain ⟨k0, k1⟩ := SS3.out; clear b_)) | (go_at_call 105; ((with_reducible refine (leadVector_c _ av v.length cv 5 w3 h5).mono ?_); rintro e w' ⟨rfl, rfl⟩)))
      go_ret2
      rw [HVC.out.1, HVC.out.2]
      exact ⟨none, 0, rfl, .inl rfl, HB3.out⟩
    · have HVC : Hid (rfV pS S u v = rflM pS S u v ∧ rfC pS S u v = 0) := by
        have e : rfC pS S u v = 0 := by unfold rfC; rw [if_pos hz0, if_neg hn0]
        exact ⟨by unfold rfV; rw [if_pos e], e⟩
      have h2_ := rvC_two hz0
      have HI := Lib.hid h2_.1
      have HVu := Lib.hid h2_.2.1
      have HVv := Lib.hid h2_.2.2
      obtain ⟨N, hN⟩ : ∃ a, a = pairN pS S u u := ⟨_, rfl⟩
      have HNE := Lib.hid hN
      rw [← hN] at hn0
      clear h2_ hN
      have e1 : (N == 0) = false := by simpa using hn0
      clear hz0 hn0
      go_enter Tryz.func24, Tryz.ntmps24
      go_upto_region 1 with fail
      obtain ⟨w1, hw1⟩ : ∃ z, z = w.alloc (.cells #[.int .i64 pS, .slice aS S.length cS] 26) := ⟨_, rfl⟩
      rw [← hw1] at HB0 k0 k1 ⊢
      have hd1 : w.heap.size < w1.heap.size := by rw [hw1]; simp
      have HB1 := HB0
      clear hw1
      have SS1 := Lib.hid (And.intro k0 k1)
      go_wp2_with (first | (go_at_call 106; ((with_reducible refine (checkRV2 pS aS S cS loS tpS au u cu lou tpu av v cv lov tpv _ _ w1 _ rfl (HS.out.below HB1.out tS) (Nat.le_trans tS HB1.out.size) sS (Hu.out.below HB1.out tu) (Nat.le_trans tu HB1.out.size) su (Hv.out.below HB1.out tv) (Nat.le_trans tv HB1.out.size) sv).mono ?_); rintro e w2 ⟨rfl, b_⟩; rw [HZ.out]; have b2_ := below_step (below_alloc w1 (.cells #[.slice au u.length cu, .slice av v.length cv] 24)) (size_alloc w1 (.cells #[.slice au u.length cu, .slice av v.length cv] 24)) b_; have SS2 := Lib.hid (ss2 b2_ hd1 SS1.out); have HB2 := Lib.hid (below_step HB1.out HB1.out.size b2_); have hd2 := Nat.lt_of_lt_of_le hd1 b2_.size; clear k0 k1; obtain ⟨k0, k1⟩ := SS2.out; clear b_ b2_)) | (go_at_call 89; ((with_reducible refine (norm_any pS aS S cS loS tpS au u cu lou tpu w2 (HS.out.below HB2.out tS) (Nat.le_trans tS HB2.out.size) (Hu.out.below HB2.out tu) (Nat.le_trans tu HB2.out.size) HI.out HVu.out).mono ?_); rintro e w3 ⟨rfl, b_⟩; rw [← HNE.out]; have SS3 := Lib.hid (ss2 b_ hd2 SS2.out); have HB3 := Lib.hid (below_step HB2.out HB2.out.size b_); have hd3 := Nat.lt_of_lt_of_le hd2 b_.size; clear k0 k1; obtain ⟨k0, k1⟩ := SS3.out; clear b_)) | (go_at_call 105; ((with_reducible refine (leadVector_r pS aS S cS loS tpS au u cu lou tpu av v cv lov tpv w3 HI.out (HS.out.below HB3.out tS) (Nat.le_trans tS HB3.out.size) (Hu.out.below HB3.out tu) (Nat.le_trans tu HB3.out.size) HVu.out (Hv.out.below HB3.out tv) (Nat.le_trans tv HB3.out.size) HVv.out).mono ?_); rintro e w4 ⟨r, c, rfl, o_, b_⟩; have SS4 := Lib.hid (ss2 b_ hd3 SS3.out); have HB4 := Lib.hid (below_step HB3.out HB3.out.size b_); have hd4 := Nat.lt_of_lt_of_le hd3 b_.size; have OO := Lib.hid (OwnR.mono' o_ (Nat.le_of_lt hd3) (Nat.le_refl _)); clear o_; clear k0 k1; obtain ⟨k0, k1⟩ := SS4.out; clear b_)))
      go_ret2
      rw [HVC.out.1, HVC.out.2]
      exact ⟨r, c, rfl, OO.out, HB4.out⟩
  · have HVC : Hid (rfV pS S u v = [] ∧ rfC pS S u v = rvC pS S [u, v]) := by
      have e : rfC pS S u v = rvC pS S [u, v] := by unfold rfC; rw [if_neg hz0]
      exact ⟨by unfold rfV; rw [if_neg (by rw [e]; exact hz0)], e⟩
    obtain ⟨C, hC⟩ : ∃ c, c = rvC pS S [u, v] := ⟨_, rfl⟩
    have hc1 : (C != 0) = true := by rw [hC]; simpa using hz0
    have hc2 : (C == 0) = false := by rw [hC]; simpa using hz0
    have HCE := Lib.hid hC
    clear hz0 hC
    go_enter Tryz.func24, Tryz.ntmps24
    go_upto_region 1 with fail
    obtain ⟨w1, hw1⟩ : ∃ z, z = w.alloc (.cells #[.int .i64 pS, .slice aS S.length cS] 26) := ⟨_, rfl⟩
    rw [← hw1] at HB0 k0 k1 ⊢
    have hd1 : w.heap.size < w1.heap.size := by rw [hw1]; simp
    have HB1 := HB0
    clear hw1
    have SS1 := Lib.hid (And.intro k0 k1)
    go_wp2_with (first | (go_at_call 106; ((with_reducible refine (checkRV2 pS aS S cS loS tpS au u cu lou tpu av v cv lov tpv _ _ w1 _ rfl (HS.out.below HB1.out tS) (Nat.le_trans tS HB1.out.size) sS (Hu.out.below HB1.out tu) (Nat.le_trans tu HB1.out.size) su (Hv.out.below HB1.out tv) (Nat.le_trans tv HB1.out.size) sv).mono ?_); rintro e w2 ⟨rfl, b_⟩; rw [← HCE.out]; have b2_ := below_step (below_alloc w1 (.cells #[.slice au u.length cu, .slice av v.length cv] 24)) (size_alloc w1 (.cells #[.slice au u.length cu, .slice av v.length cv] 24)) b_; have SS2 := Lib.hid (ss2 b2_ hd1 SS1.out); have HB2 := Lib.hid (below_step HB1.out HB1.out.size b2_); have hd2 := Nat.lt_of_lt_of_le hd1 b2_.size; clear k0 k1; obtain ⟨k0, k1⟩ := SS2.out; clear b_ b2_)) | (go_at_call 105; ((with_reducible refine (leadVector_c _ av v.length cv C w2 hc1).mono ?_); rintro e w' ⟨rfl, rfl⟩)))
    go_ret2
    rw [HVC.out.1, HVC.out.2, ← HCE.out]
    exact ⟨none, 0, rfl, .inl rfl, HB2.out⟩

set_option maxRecDepth 100000 in
set_option maxHeartbeats 1600000 in
theorem nulClo_any (p : Int) (aS : Option Addr) (S : List Int) (cS loS tpS : Nat) (au : Option Addr) (u : List Int) (cu lou tpu gx : Nat) (w : World) (hs : isSp p S = true) (hS : RowIn loS tpS w aS S) (tS : tpS ≤ w.heap.size) (hu : RowIn lou tpu w au u) (tu : tpu ≤ w.heap.size) (mu : isVec p S.length u = true) (hb : w.cell? ⟨gx, 0, none⟩ = some (.int .i64 p) ∧ w.cell? ⟨gx, 1, none⟩ = some (.slice aS S.length cS)) :
    Calls Tryz.prog 88 #[.slice au u.length cu, .pointer (some ⟨gx, 0, none⟩)] w fun e w' => e = .returned (.bool (pairN p S u u == 0)) ∧ Below w.heap.size w w' := by
  have HI := Lib.hid hs
  have HS := Lib.hid hS
  have Hu := Lib.hid hu
  have HU := Lib.hid mu
  obtain ⟨k0, k1⟩ := hb
  clear hs hS hu mu
  go_enter Tryz.func88, Tryz.ntmps88
  go_wp2_with (go_at_call 89; ((with_reducible refine (norm_any p aS S cS loS tpS au u cu lou tpu w HS.out tS Hu.out tu HI.out HU.out).mono ?_); rintro e w' ⟨rfl, b_⟩; have B := Lib.hid b_; clear b_))
  go_ret
  exact ⟨rfl, B.out⟩

def IdxN (p : Int) (S : List Int) (m : List (List Int)) (w : World) (e : Ending) (w' : World) : Prop := ∃ r : Int, e = .returned (.int .i64 r) ∧ (nulB p S m m.length = true → 0 ≤ r) ∧ (nulB p S m m.length = false → r = -1) ∧ Below w.heap.size w w'

set_option maxRecDepth 100000 in
set_option maxHeartbeats 3200000 in
theorem nulIdx_any (p : Int) (aS : Option Addr) (S : List Int) (cS loS tpS : Nat) (am : Option Addr) (m : List (List Int)) (cm lom tpm gx : Nat) (w : World) (hs : isSp p S = true) (hS : RowIn loS tpS w aS S) (tS : tpS ≤ w.heap.size) (hm : MatIn lom tpm w am m) (tm : tpm ≤ w.heap.size) (hl : listB p S m = true) (hb : w.cell? ⟨gx, 0, none⟩ = some (.int .i64 p) ∧ w.cell? ⟨gx, 1, none⟩ = some (.slice aS S.length cS)) (lx : gx < w.heap.size) :
    Calls Tryz.prog 182 #[.slice am m.length cm, .func (.func 88) #[] #[.pointer (some ⟨gx, 0, none⟩)]] w (IdxN p S m w) := by
  have HI := Lib.hid hs
  have HS := Lib.hid hS
  have Hm := Lib.hid hm
  have HL := Lib.hid (listB_iff hl)
  have HB := Lib.hid hb
  have hm16 := HL.out.1
  clear hs hS hm hl hb
  go_enter Tryz.func182, Tryz.ntmps182
  go_wp2
  go_loopw [8] (fun t wr => ∃ i : Nat, i ≤ m.length ∧ t = .int .i64 i ∧ (∀ j, j < i → pairN p S (rw' m j) (rw' m j) ≠ 0) ∧ Below w.heap.size w wr) (fun t _ => m.length - (intOf t).toNat)
  case atStart => exact ⟨0, Nat.zero_le _, rfl, fun j hj => by omega, Below.refl _ _⟩
  case round =>
    obtain ⟨i, hi, rfl, hd, hbel⟩ := hrel
    have HD := Lib.hid hd
    have HBel := Lib.hid hbel
    have hz := hbel.size
    by_cases hlt : i < m.length
    · obtain ⟨b9, o9, rv, cv9, ha9, _, hb9, hr9, hrow⟩ := (Hm.out.below hbel tm).row hlt
      subst ha9
      have hi1 : (i : Int) < (m.length : Int) := Int.ofNat_lt.2 hlt
      have HROW := Lib.hid hrow
      have HVU := Lib.hid (HL.out.2 i hlt)
      have HBW := Lib.hid (ss2 hbel lx HB.out)
      clear hd hbel hrow
      by_cases hp0 : pairN p S (rw' m i) (rw' m i) = 0
      · have HP : Hid ((pairN p S (rw' m i) (rw' m i) == 0) = true) := by show _ = _; simpa using hp0
        have HA := Lib.hid (nulB_yes hlt hp0)
        clear hp0
        go_wp2_with (go_at_call 88; ((with_reducible refine (nulClo_any p aS S cS loS tpS rv (rw' m i) cv9 lom tpm gx wr HI.out (HS.out.below HBel.out tS) (Nat.le_trans tS hz) HROW.out (Nat.le_trans tm hz) HVU.out HBW.out).mono ?_); rintro e w5 ⟨rfl, b_⟩; rw [HP.out]; have B5 := Lib.hid b_; clear b_))
        go_ret
        exact ⟨i, rfl, fun _ => by omega, fun h => (by rw [HA.out] at h; cases h), below_step HBel.out hz B5.out⟩
      · have HP : Hid ((pairN p S (rw' m i) (rw' m i) == 0) = false) := by show _ = _; simpa using hp0
        have HPZ := Lib.hid hp0
        clear hp0
        go_wp2_with (go_at_call 88; ((with_reducible refine (nulClo_any p aS S cS loS tpS rv (rw' m i) cv9 lom tpm gx wr HI.out (HS.out.below HBel.out tS) (Nat.le_trans tS hz) HROW.out (Nat.le_trans tm hz) HVU.out HBW.out).mono ?_); rintro e w5 ⟨rfl, b_⟩; rw [HP.out]; have B5 := Lib.hid b_; clear b_))
        go_roundw
        case rel => exact ⟨i + 1, by omega, by go_num, fun j hj => by
          by_cases e : j = i
          · subst e; exact HPZ.out
          · exact HD.out j (by omega), below_step HBel.out hz B5.out⟩
        case measure => simp [intOf]; omega
    · have hin : i = m.length := by omega
      subst hin
      have HN := Lib.hid (nulB_no hd)
      clear hd hbel
      go_wp2
      go_ret
      exact ⟨-1, rfl, fun h => (by rw [HN.out] at h; cases h), fun _ => rfl, HBel.out⟩

set_option maxHeartbeats 1600000 in
theorem nulHas_any (p : Int) (aS : Option Addr) (S : List Int) (cS loS tpS : Nat) (am : Option Addr) (m : List (List Int)) (cm lom tpm gx : Nat) (w : World) (hs : isSp p S = true) (hS : RowIn loS tpS w aS S) (tS : tpS ≤ w.heap.size) (hm : MatIn lom tpm w am m) (tm : tpm ≤ w.heap.size) (hl : listB p S m = true) (hb : w.cell? ⟨gx, 0, none⟩ = some (.int .i64 p) ∧ w.cell? ⟨gx, 1, none⟩ = some (.slice aS S.length cS)) (lx : gx < w.heap.size) :
    Calls Tryz.prog 91 #[.slice am m.length cm, .func (.func 88) #[] #[.pointer (some ⟨gx, 0, none⟩)]] w fun e w' => e = .returned (.bool (nulB p S m m.length)) ∧ Below w.heap.size w w' := by
  have HC := Lib.hid (nulIdx_any p aS S cS loS tpS am m cm lom tpm gx w hs hS tS hm tm hl hb lx)
  clear hs hS hm hl hb
  go_enter Tryz.func91, Tryz.ntmps91
  by_cases ha : nulB p S m m.length = true
  · have HA := Lib.hid ha
    clear ha
    go_wp2_with (go_at_call 182; ((with_reducible refine (HC.out).mono ?_); rintro e w5 ⟨r, rfl, h1, _, b_⟩; have h0 := h1 HA.out; have hge : (0 : Int) ≤ r := h0; have B5 := Lib.hid b_; clear b_ h1))
    go_ret
    exact ⟨by rw [HA.out]; simp, B5.out⟩
  · have HA : Hid (nulB p S m m.length = false) := by show _ = _; simpa using ha
    clear ha
    go_wp2_with (go_at_call 182; ((with_reducible refine (HC.out).mono ?_); rintro e w5 ⟨r, rfl, _, h1, b_⟩; have h0 := h1 HA.out; subst h0; have B5 := Lib.hid b_; clear b_ h1))
    go_ret
    exact ⟨by rw [HA.out]; rfl, B5.out⟩
theorem field_ver (a b c d e : Value) (w : World) : (Instr.field 86 (.agg #[a, b, c, d, e]) 0).run Tryz.prog w = .ok (.agg #[a, b, c]) w := by kernel_rfl
theorem field_mul (a b c : Value) (w : World) : (Instr.field 82 (.agg #[a, b, c]) 1).run Tryz.prog w = .ok c w := by kernel_rfl

set_option maxRecDepth 100000 in
set_option maxHeartbeats 3200000 in
theorem impl_VersorOf (pS : Int) (aS : Option Addr) (S : List Int) (cS loS tpS : Nat) (am : Option Addr) (m : List (List Int)) (cm lom tpm : Nat) (w : World) (hS : RowIn loS tpS w aS S) (tS : tpS ≤ w.heap.size) (sS : S.length ≤ 1048576) (hm : MatIn lom tpm w am m) (tm : tpm ≤ w.heap.size) (sm : m.length + tot m m.length ≤ 1048576) :
    Calls Tryz.prog 13 #[.agg #[.int .i64 pS, .slice aS S.length cS], .slice am m.length cm] w (ImplR (voV pS S m) (voC pS S m) w) := by
  have HS := Lib.hid hS
  have Hm := Lib.hid hm
  have sm1 : m.length ≤ 1048576 := by omega
  have HSR : Hid (∀ i, i < m.length → (rw' m i).length ≤ 1048576) := fun i hi => by have := tot_row hi; omega
  have k0 := nw0 w (.int .i64 pS) (.slice aS S.length cS) 26
  have k1 := nw1 w (.int .i64 pS) (.slice aS S.length cS) 26
  have HB0 := Lib.hid (below_alloc w (.cells #[.int .i64 pS, .slice aS S.length cS] 26))
  have hfv := field_ver
  have hfm := field_mul
  clear hS hm
  by_cases hz0 : codeL pS S m = 0
  · by_cases hd0 : discN pS S = 0
    · have HVC : Hid (voV pS S m = [] ∧ voC pS S m = 5) := by
        have e : voC pS S m = 5 := by unfold voC; rw [if_pos hz0, if_pos hd0]
        exact ⟨by unfold voV; rw [if_neg (by rw [e]; decide)], e⟩
      have HZ := Lib.hid hz0
      have hls : isSp pS S = true ∧ listB pS S m = true := by
        rcases codeL_cases pS S m with ⟨_, hc⟩ | ⟨hi, hl, _⟩ | ⟨_, _, hc⟩
        · rw [hc] at hz0; cases hz0
        · exact ⟨hi, hl⟩
        · rw [hc] at hz0; cases hz0
      have HI := Lib.hid hls.1
      have HLB := Lib.hid hls.2
      clear hls
      have HD : Hid ((discN pS S != 0) = false) := by show _ = _; simp [hd0]
      clear hz0 hd0
      go_enter Tryz.func13, Tryz.ntmps13
      go_upto_region 1 with fail
      obtain ⟨w1, hw1⟩ : ∃ z, z = w.alloc (.cells #[.int .i64 pS, .slice aS S.length cS] 26) := ⟨_, rfl⟩
      rw [← hw1] at HB0 k0 k1 ⊢
      have hd1 : w.heap.size < w1.heap.size := by rw [hw1]; simp
      have HB1 := HB0
      clear hw1
      have SS1 := Lib.hid (And.intro k0 k1)
      go_wp2_with (first | (go_at_call 87; ((with_reducible refine (checkList_any pS aS S cS loS tpS am m cm lom tpm w1 (HS.out.below HB1.out tS) (Nat.le_trans tS HB1.out.size) sS (Hm.out.below HB1.out tm) (Nat.le_trans tm HB1.out.size) sm1 HSR.out).mono ?_); rintro e w2 ⟨rfl, b_⟩; rw [HZ.out]; have SS2 := Lib.hid (ss2 b_ hd1 SS1.out); have HB2 := Lib.hid (below_step HB1.out HB1.out.size b_); have hd2 := Nat.lt_of_lt_of_le hd1 b_.size; clear k0 k1; obtain ⟨k0, k1⟩ := SS2.out; clear b_)) | (go_at_call 90; ((with_reducible refine (isRegular_any pS aS S cS loS tpS w2 (HS.out.below HB2.out tS) (Nat.le_trans tS HB2.out.size) HI.out).mono ?_); rintro e w3 ⟨rfl, b_⟩; rw [HD.out]; have SS3 := Lib.hid (ss2 b_ hd2 SS2.out); have HB3 := Lib.hid (below_step HB2.out HB2.out.size b_); have hd3 := Nat.lt_of_lt_of_le hd2 b_.size; clear k0 k1; obtain ⟨k0, k1⟩ := SS3.out; clear b_)))
      go_ret2
      rw [HVC.out.1, HVC.out.2]
      exact ⟨none, 0, rfl, .inl rfl, HB3.out⟩
    · by_cases hn0 : nulB pS S m m.length = true
      · have HVC : Hid (voV pS S m = [] ∧ voC pS S m = 5) := by
          have e : voC pS S m = 5 := by unfold voC; rw [if_pos hz0, if_neg hd0, if_pos hn0]
          exact ⟨by unfold voV; rw [if_neg (by rw [e]; decide)], e⟩
        have HZ := Lib.hid hz0
        have hls : isSp pS S = true ∧ listB pS S m = true := by
          rcases codeL_cases pS S m with ⟨_, hc⟩ | ⟨hi, hl, _⟩ | ⟨_, _, hc⟩
          · rw [hc] at hz0; cases hz0
          · exact ⟨hi, hl⟩
          · rw [hc] at hz0; cases hz0
        have HI := Lib.hid hls.1
        have HLB := Lib.hid hls.2
        clear hls
        have HD : Hid ((discN pS S != 0) = true) := by show _ = _; simpa using hd0
        have HN := Lib.hid hn0
        clear hz0 hd0 hn0
        go_enter Tryz.func13, Tryz.ntmps13
        go_upto_region 1 with fail
        obtain ⟨w1, hw1⟩ : ∃ z, z = w.alloc (.cells #[.int .i64 pS, .slice aS S.length cS] 26) := ⟨_, rfl⟩
        rw [← hw1] at HB0 k0 k1 ⊢
        have hd1 : w.heap.size < w1.heap.size := by rw [hw1]; simp
        have HB1 := HB0
        clear hw1
        have SS1 := Lib.hid (And.intro k0 k1)
        go_wp2_with (first | (go_at_call 87; ((with_reducible refine (checkList_any pS aS S cS loS tpS am m cm lom tpm w1 (HS.out.below HB1.out tS) (Nat.le_trans tS HB1.out.size) sS (Hm.out.below HB1.out tm) (Nat.le_trans tm HB1.out.size) sm1 HSR.out).mono ?_); rintro e w2 ⟨rfl, b_⟩; rw [HZ.out]; have SS2 := Lib.hid (ss2 b_ hd1 SS1.out); have HB2 := Lib.hid (below_step HB1.out HB1.out.size b_); have hd2 := Nat.lt_of_lt_of_le hd1 b_.size; clear k0 k1; obtain ⟨k0, k1⟩ := SS2.out; clear b_)) | (go_at_call 90; ((with_reducible refine (isRegular_any pS aS S cS loS tpS w2 (HS.out.below HB2.out tS) (Nat.le_trans tS HB2.out.size) HI.out).mono ?_); rintro e w3 ⟨rfl, b_⟩; rw [HD.out]; have SS3 := Lib.hid (ss2 b_ hd2 SS2.out); have HB3 := Lib.hid (below_step HB2.out HB2.out.size b_); have hd3 := Nat.lt_of_lt_of_le hd2 b_.size; clear k0 k1; obtain ⟨k0, k1⟩ := SS3.out; clear b_)) | (go_at_call 91; ((with_reducible refine (nulHas_any pS aS S cS loS tpS am m cm lom tpm w.heap.size w3 HI.out (HS.out.below HB3.out tS) (Nat.le_trans tS HB3.out.size) (Hm.out.below HB3.out tm) (Nat.le_trans tm HB3.out.size) HLB.out ⟨k0, k1⟩ hd3).mono ?_); rintro e w4 ⟨rfl, b_⟩; rw [HN.out]; have SS4 := Lib.hid (ss2 b_ hd3 SS3.out); have HB4 := Lib.hid (below_step HB3.out HB3.out.size b_); have hd4 := Nat.lt_of_lt_of_le hd3 b_.size; clear k0 k1; obtain ⟨k0, k1⟩ := SS4.out; clear b_)))
        go_ret2
        rw [HVC.out.1, HVC.out.2]
        exact ⟨none, 0, rfl, .inl rfl, HB4.out⟩
      · have HVC : Hid (voV pS S m = vrM pS S m m.length ∧ voC pS S m = 0) := by
          have e : voC pS S m = 0 := by unfold voC; rw [if_pos hz0, if_neg hd0, if_neg hn0]
          exact ⟨by unfold voV; rw [if_pos e], e⟩
        have HZ := Lib.hid hz0
        have hls : isSp pS S = true ∧ listB pS S m = true := by
          rcases codeL_cases pS S m with ⟨_, hc⟩ | ⟨hi, hl, _⟩ | ⟨_, _, hc⟩
          · rw [hc] at hz0; cases hz0
          · exact ⟨hi, hl⟩
          · rw [hc] at hz0; cases hz0
        have HI := Lib.hid hls.1
        have HLB := Lib.hid hls.2
        clear hls
        have HD : Hid ((discN pS S != 0) = true) := by show _ = _; simpa using hd0
        have HN : Hid (nulB pS S m m.length = false) := by show _ = _; simpa using hn0
        clear hz0 hd0 hn0
        go_enter Tryz.func13, Tryz.ntmps13
        go_upto_region 1 with fail
        obtain ⟨w1, hw1⟩ : ∃ z, z = w.alloc (.cells #[.int .i64 pS, .slice aS S.length cS] 26) := ⟨_, rfl⟩
        rw [← hw1] at HB0 k0 k1 ⊢
        have hd1 : w.heap.size < w1.heap.size := by rw [hw1]; simp
        have HB1 := HB0
        clear hw1
        have SS1 := Lib.hid (And.intro k0 k1)
        go_wp2_with (first | (go_at_call 87; ((with_reducible refine (checkList_any pS aS S cS loS tpS am m cm lom tpm w1 (HS.out.below HB1.out tS) (Nat.le_trans tS HB1.out.size) sS (Hm.out.below HB1.out tm) (Nat.le_trans tm HB1.out.size) sm1 HSR.out).mono ?_); rintro e w2 ⟨rfl, b_⟩; rw [HZ.out]; have SS2 := Lib.hid (ss2 b_ hd1 SS1.out); have HB2 := Lib.hid (below_step HB1.out HB1.out.size b_); have hd2 := Nat.lt_of_lt_of_le hd1 b_.size; clear k0 k1; obtain ⟨k0, k1⟩ := SS2.out; clear b_)) | (go_at_call 90; ((with_reducible refine (isRegular_any pS aS S cS loS tpS w2 (HS.out.below HB2.out tS) (Nat.le_trans tS HB2.out.size) HI.out).mono ?_); rintro e w3 ⟨rfl, b_⟩; rw [HD.out]; have SS3 := Lib.hid (ss2 b_ hd2 SS2.out); have HB3 := Lib.hid (below_step HB2.out HB2.out.size b_); have hd3 := Nat.lt_of_lt_of_le hd2 b_.size; clear k0 k1; obtain ⟨k0, k1⟩ := SS3.out; clear b_)) | (go_at_call 91; ((with_reducible refine (nulHas_any pS aS S cS loS tpS am m cm lom tpm w.heap.size w3 HI.out (HS.out.below HB3.out tS) (Nat.le_trans tS HB3.out.size) (Hm.out.below HB3.out tm) (Nat.le_trans tm HB3.out.size) HLB.out ⟨k0, k1⟩ hd3).mono ?_); rintro e w4 ⟨rfl, b_⟩; rw [HN.out]; have SS4 := Lib.hid (ss2 b_ hd3 SS3.out); have HB4 := Lib.hid (below_step HB3.out HB3.out.size b_); have hd4 := Nat.lt_of_lt_of_le hd3 b_.size; clear k0 k1; obtain ⟨k0, k1⟩ := SS4.out; clear b_)) | (go_at_call 92; ((with_reducible refine (versorOfVectors_own pS aS S cS loS tpS am m cm lom tpm w4 HI.out (HS.out.below HB4.out tS) (Nat.le_trans tS HB4.out.size) (Hm.out.below HB4.out tm) (Nat.le_trans tm HB4.out.size) HLB.out).mono ?_); rintro e w5 ⟨r, c, rfl, o_, b_⟩; have SS5 := Lib.hid (ss2 b_ hd4 SS4.out); have HB5 := Lib.hid (below_step HB4.out HB4.out.size b_); have hd5 := Nat.lt_of_lt_of_le hd4 b_.size; have OO := Lib.hid (OwnR.mono' o_ (Nat.le_of_lt hd4) (Nat.le_refl _)); clear o_; clear k0 k1; obtain ⟨k0, k1⟩ := SS5.out; clear b_)))
        go_ret2
        rw [HVC.out.1, HVC.out.2]
        exact ⟨r, c, rfl, OO.out, HB5.out⟩
  · have HVC : Hid (voV pS S m = [] ∧ voC pS S m = codeL pS S m) := by
      have e : voC pS S m = codeL pS S m := by unfold voC; rw [if_neg hz0]
      exact ⟨by unfold voV; rw [if_neg (by rw [e]; exact hz0)], e⟩
    obtain ⟨C, hC⟩ : ∃ c, c = codeL pS S m := ⟨_, rfl⟩
    have hc1 : (C != 0) = true := by rw [hC]; simpa using hz0
    have HCE := Lib.hid hC
    clear hz0 hC
    go_enter Tryz.func13, Tryz.ntmps13
    go_upto_region 1 with fail
    obtain ⟨w1, hw1⟩ : ∃ z, z = w.alloc (.cells #[.int .i64 pS, .slice aS S.length cS] 26) := ⟨_, rfl⟩
    rw [← hw1] at HB0 k0 k1 ⊢
    have hd1 : w.heap.size < w1.heap.size := by rw [hw1]; simp
    have HB1 := HB0
    clear hw1
    have SS1 := Lib.hid (And.intro k0 k1)
    go_wp2_with (go_at_call 87; ((with_reducible refine (checkList_any pS aS S cS loS tpS am m cm lom tpm w1 (HS.out.below HB1.out tS) (Nat.le_trans tS HB1.out.size) sS (Hm.out.below HB1.out tm) (Nat.le_trans tm HB1.out.size) sm1 HSR.out).mono ?_); rintro e w2 ⟨rfl, b_⟩; rw [← HCE.out]; have SS2 := Lib.hid (ss2 b_ hd1 SS1.out); have HB2 := Lib.hid (below_step HB1.out HB1.out.size b_); have hd2 := Nat.lt_of_lt_of_le hd1 b_.size; clear k0 k1; obtain ⟨k0, k1⟩ := SS2.out; clear b_))
    go_ret2
    rw [HVC.out.1, HVC.out.2, ← HCE.out]
    exact ⟨none, 0, rfl, .inl rfl, HB2.out⟩

end Go.Proofs.YtgfanoejohpmkaaGreat
