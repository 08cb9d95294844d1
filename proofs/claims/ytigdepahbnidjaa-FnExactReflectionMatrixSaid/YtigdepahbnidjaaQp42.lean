/-
  Matrices of versors and reflections: contracts of the program and of the model.
  Conditions: the lists are nil or rows of known cells, of at most 1048576 numbers.
-/
import Derived.Test.YtigdepahbnidjaaQp37
import Derived.Test.YtigdepahbnidjaaQp41
import Derived.Test.YtigdepahbnidjaaQp39
import Derived.Test.YtigdepahbnidjaaQp22
import Derived.Deep.RegionHeld3
import Derived.Deep.DeepCutAuto
namespace Go.Proofs.Ytigdepahbnidjaa
open Go.RowKit
set_option linter.unusedVariables false

def mvV (p : Int) (S x : List Int) : List (List Int) := if vrC p S x = 0 then trM (ledM S.length (sdM p S x) S.length) else []
def rmC (p : Int) (S u : List Int) : Int := if rvC p S [u] = 0 then (if pairN p S u u = 0 then 5 else 0) else rvC p S [u]
def rmV (p : Int) (S u : List Int) : List (List Int) := if rmC p S u = 0 then trM (ledM S.length (rflM p S u) S.length) else []
theorem trL_size {n : Nat} {f : List Int → List Int} (h : ∀ i, (f (eiR n i)).length = n) (h0 : 0 < n) (hn : n ≤ 6) : (trM (ledM n f n)).length + tot (trM (ledM n f n)) (trM (ledM n f n)).length ≤ 1048576 := by
  have e : trM (ledM n f n) = mk (rw' (ledM n f n) 0).length (ledM n f n).length fun k i => at' (ledM n f n) i k := rfl
  rw [e, led_len, led_cols h 0 h0]
  exact mk_size (by omega) (by omega)
theorem mvV_size (p : Int) (S x : List Int) : (mvV p S x).length + tot (mvV p S x) (mvV p S x).length ≤ 1048576 := by
  unfold mvV; split
  · rename_i h
    have K := isSp_iff.1 (vrC_zero h).1
    exact trL_size (fun i => sd_len _ _ _ _) K.lo K.hi
  · simp [tot]
theorem rvC_one {p : Int} {S u : List Int} (h : rvC p S [u] = 0) : isSp p S = true ∧ isVec p S.length u = true := by
  have h1 := codeVs_all (rvC_zero h).1
  exact ⟨h1.1, codeVs_v1 (rvC_zero h).1⟩
theorem rmC_zero {p : Int} {S u : List Int} (h : rmC p S u = 0) : rvC p S [u] = 0 ∧ pairN p S u u ≠ 0 := by
  unfold rmC at h
  split at h
  · rename_i h0
    split at h
    · cases h
    · rename_i h1; exact ⟨h0, h1⟩
  · rename_i h0; exact absurd h h0
theorem rmV_size (p : Int) (S u : List Int) : (rmV p S u).length + tot (rmV p S u) (rmV p S u).length ≤ 1048576 := by
  unfold rmV; split
  · rename_i h
    have K := isSp_iff.1 (rvC_one (rmC_zero h).1).1
    exact trL_size (fun i => by rw [rfl_len, ei_len]) K.lo K.hi
  · simp [tot]
theorem codeL_one (p : Int) (S u : List Int) : codeL p S [u] = codeVs p S [u] := by
  rcases codeVs_cases p S [u] with ⟨hi, hc⟩ | ⟨hi, ha, hc⟩ | ⟨hi, ha, hc⟩
  · rw [hc]; unfold codeL; rw [if_neg (by rw [hi]; decide)]
  · rw [hc]; unfold codeL listB; rw [if_pos hi, if_pos (by rw [ha]; rfl)]
  · rw [hc]; unfold codeL listB; rw [if_pos hi, if_neg (by rw [ha, Bool.false_and]; decide)]
theorem rvL_one (p : Int) (S u : List Int) : rvL p S [u] = rvC p S [u] := by unfold rvL rvC; rw [codeL_one]
theorem vectors1 (p : Int) (aS : Option Addr) (S : List Int) (cS loS tpS : Nat) (av : Option Addr) (v : List Int) (cv lov tpv b cap : Nat) (W : World) (T : TypeId) (hb : b = W.heap.size)
    (hS : RowIn loS tpS W aS S) (tS : tpS ≤ W.heap.size) (sS : S.length ≤ 1048576) (hv : RowIn lov tpv W av v) (tv : tpv ≤ W.heap.size) (sv : v.length ≤ 1048576) :
    Calls Try.prog 56 #[.agg #[.int .i64 p, .slice aS S.length cS], .slice (some ⟨b, 0, none⟩) 1 cap] (W.alloc (.cells #[.slice av v.length cv] T)) fun e w' => e = .returned (.int .i64 (rvC p S [v])) ∧ Below (W.alloc (.cells #[.slice av v.length cv] T)).heap.size (W.alloc (.cells #[.slice av v.length cv] T)) w' := by
  rw [← rvL_one]
  exact l07Vectors_any p aS S cS loS tpS (some ⟨b, 0, none⟩) [v] cap 0 _ _ (hS.below (below_alloc W _) tS) (Nat.le_trans tS (size_alloc W _)) sS (mv_one hb hv tv T) (Nat.le_refl _) (by show 1 ≤ 1048576; omega) (fun i hi => by match i, hi with | 0, _ => exact sv)
theorem checkRV1 (p : Int) (aS : Option Addr) (S : List Int) (cS loS tpS : Nat) (av : Option Addr) (v : List Int) (cv lov tpv b cap : Nat) (W : World) (T : TypeId) (hb : b = W.heap.size)
    (hS : RowIn loS tpS W aS S) (tS : tpS ≤ W.heap.size) (sS : S.length ≤ 1048576) (hv : RowIn lov tpv W av v) (tv : tpv ≤ W.heap.size) (sv : v.length ≤ 1048576) :
    Calls Try.prog 59 #[.agg #[.int .i64 p, .slice aS S.length cS], .slice (some ⟨b, 0, none⟩) 1 cap] (W.alloc (.cells #[.slice av v.length cv] T)) fun e w' => e = .returned (.int .i64 (rvC p S [v])) ∧ Below (W.alloc (.cells #[.slice av v.length cv] T)).heap.size (W.alloc (.cells #[.slice av v.length cv] T)) w' :=
  checkRegularVectors_any p aS S cS loS tpS (some ⟨b, 0, none⟩) [v] cap 0 _ _ (hS.below (below_alloc W _) tS) (Nat.le_trans tS (size_alloc W _)) sS (mv_one hb hv tv T) (Nat.le_refl _) (by show 1 ≤ 1048576; omega) (fun i hi => by match i, hi with | 0, _ => exact sv)

set_option maxRecDepth 100000 in
set_option maxHeartbeats 6400000 in
theorem impl_MatrixOfVersor (pS : Int) (aS : Option Addr) (S : List Int) (cS loS tpS : Nat) (ax : Option Addr) (x : List Int) (cx lox tpx : Nat) (w : World) (hS : RowIn loS tpS w aS S) (tS : tpS ≤ w.heap.size) (sS : S.length ≤ 1048576) (hx : RowIn lox tpx w ax x) (tx : tpx ≤ w.heap.size) (sx : x.length ≤ 1048576) :
    Calls Try.prog 22 #[.agg #[.int .i64 pS, .slice aS S.length cS], .slice ax x.length cx] w (ImplM (mvV pS S x) (vrC pS S x) w) := by
  have HS := Lib.hid hS
  have Hx := Lib.hid hx
  have k0 := nw0 w (.int .i64 pS) (.slice aS S.length cS) 30
  have k1 := nw1 w (.int .i64 pS) (.slice aS S.length cS) 30
  have HB0 := Lib.hid (below_alloc w (.cells #[.int .i64 pS, .slice aS S.length cS] 30))
  clear hS hx
  by_cases hc : vrC pS S x = 0
  · have HV : Hid (mvV pS S x = trM (ledM S.length (sdM pS S x) S.length)) := by show _ = _; unfold mvV; rw [if_pos hc]
    have HC := Lib.hid hc
    have hz := vrC_zero hc
    have HI := Lib.hid hz.1
    have HMX := Lib.hid hz.2.1
    obtain ⟨F, hF⟩ : ∃ f, f = nrF pS S x := ⟨_, rfl⟩
    have HFE := Lib.hid hF
    clear hc hz hF
    go_enter Try.func22, Try.ntmps22
    go_upto_region 1 with fail
    obtain ⟨w1, hw1⟩ : ∃ z, z = w.alloc (.cells #[.int .i64 pS, .slice aS S.length cS] 30) := ⟨_, rfl⟩
    rw [← hw1] at HB0 k0 k1 ⊢
    have hd1 : w.heap.size < w1.heap.size := by rw [hw1]; simp
    have HB1 := HB0
    clear hw1
    have SS1 := Lib.hid (And.intro k0 k1)
    go_upto_region 2 with (go_at_call 53; ((with_reducible refine (checkVersor_y pS aS S cS loS tpS ax x cx lox tpx w1 (HS.out.below HB1.out tS) (Nat.le_trans tS HB1.out.size) sS (Hx.out.below HB1.out tx) (Nat.le_trans tx HB1.out.size) sx HC.out).mono ?_); rintro e w2 ⟨rfl, b_⟩; rw [← HFE.out]; have SS2 := Lib.hid (ss2 b_ hd1 SS1.out); have HB2 := Lib.hid (below_step HB1.out HB1.out.size b_); have hd2 := Nat.lt_of_lt_of_le hd1 b_.size; clear k0 k1; obtain ⟨k0, k1⟩ := SS2.out; clear b_))
    obtain ⟨w3, hwn⟩ : ∃ z, z = w2.alloc (.cells #[.int .i64 pS, .slice aS S.length cS, .slice ax x.length cx, .int .i64 pS, .int .i64 F] 65) := ⟨_, rfl⟩
    obtain ⟨f, hf⟩ : ∃ b, b = w2.heap.size := ⟨_, rfl⟩
    have FN := V5.new w2 (.int .i64 pS) (.slice aS S.length cS) (.slice ax x.length cx) (.int .i64 pS) (.int .i64 F) 65
    rw [← hwn, ← hf] at FN
    have bn_ : Below w2.heap.size w2 w3 := by rw [hwn]; exact below_alloc _ _
    have ff3 : f < w3.heap.size := by rw [hwn, hf]; simp
    have lf : w.heap.size < f := by rw [hf]; exact hd2
    have SS3 := Lib.hid (ss2 bn_ hd2 SS2.out)
    have HB3 := Lib.hid (below_step HB2.out HB2.out.size bn_)
    have hd3 := Nat.lt_of_lt_of_le hd2 bn_.size
    rw [← hwn, ← hf]
    clear hwn hf bn_ k0 k1
    have FF3 : Hid (Box5 f (.int .i64 pS) (.slice aS S.length cS) (.slice ax x.length cx) (.int .i64 pS) (.int .i64 F) w3) := FN.1
    clear FN
    obtain ⟨f0, f1, f2, f3, f4⟩ := FF3.out
    obtain ⟨k0, k1⟩ := SS3.out
    go_wp2_with (go_at_call 54; ((with_reducible refine (matrixOf_v pS aS S cS loS tpS ax x cx lox tpx F w3 HI.out (HS.out.below HB3.out tS) (Nat.le_trans tS HB3.out.size) (Hx.out.below HB3.out tx) (Nat.le_trans tx HB3.out.size) HMX.out HFE.out).mono ?_); rintro e w4 ⟨r, c, rfl, o_, b_⟩; have SS4 := Lib.hid (ss2 b_ hd3 SS3.out); have HB4 := Lib.hid (below_step HB3.out HB3.out.size b_); have hd4 := Nat.lt_of_lt_of_le hd3 b_.size; have FF4 := Lib.hid (FF3.out.below b_ ff3); have ff4 := Nat.lt_of_lt_of_le ff3 b_.size; have OO := Lib.hid (o_.mono (Nat.le_of_lt hd3) (Nat.le_refl _)); clear o_; clear k0 k1; obtain ⟨k0, k1⟩ := SS4.out; clear f0 f1 f2 f3 f4; obtain ⟨f0, f1, f2, f3, f4⟩ := FF4.out; clear b_))
    go_ret2
    rw [HV.out, HC.out]
    exact ⟨r, c, rfl, OO.out, HB4.out⟩
  · have HV : Hid (mvV pS S x = []) := by show _ = _; unfold mvV; rw [if_neg hc]
    have HC : Hid (vrC pS S x ≠ 0) := hc
    obtain ⟨C, hC⟩ : ∃ c, c = vrC pS S x := ⟨_, rfl⟩
    have hc1 : (C != 0) = true := by rw [hC]; simpa using hc
    have HCE := Lib.hid hC
    clear hc hC
    go_enter Try.func22, Try.ntmps22
    go_upto_region 1 with fail
    obtain ⟨w1, hw1⟩ : ∃ z, z = w.alloc (.cells #[.int .i64 pS, .slice aS S.length cS] 30) := ⟨_, rfl⟩
    rw [← hw1] at HB0 k0 k1 ⊢
    have hd1 : w.heap.size < w1.heap.size := by rw [hw1]; simp
    have HB1 := HB0
    clear hw1
    have SS1 := Lib.hid (And.intro k0 k1)
    go_upto_region 2 with (go_at_call 53; ((with_reducible refine (checkVersor_n pS aS S cS loS tpS ax x cx lox tpx w1 (HS.out.below HB1.out tS) (Nat.le_trans tS HB1.out.size) sS (Hx.out.below HB1.out tx) (Nat.le_trans tx HB1.out.size) sx HC.out).mono ?_); rintro e w2 ⟨rfl, b_⟩; rw [← HCE.out]; have SS2 := Lib.hid (ss2 b_ hd1 SS1.out); have HB2 := Lib.hid (below_step HB1.out HB1.out.size b_); have hd2 := Nat.lt_of_lt_of_le hd1 b_.size; clear k0 k1; obtain ⟨k0, k1⟩ := SS2.out; clear b_))
    obtain ⟨w3, hwn⟩ : ∃ z, z = w2.alloc (.cells #[.int .i64 0, .slice none 0 0, .slice none 0 0, .int .i64 0, .int .i64 0] 65) := ⟨_, rfl⟩
    obtain ⟨f, hf⟩ : ∃ b, b = w2.heap.size := ⟨_, rfl⟩
    have FN := V5.new w2 (.int .i64 0) (.slice none 0 0) (.slice none 0 0) (.int .i64 0) (.int .i64 0) 65
    rw [← hwn, ← hf] at FN
    have bn_ : Below w2.heap.size w2 w3 := by rw [hwn]; exact below_alloc _ _
    have ff3 : f < w3.heap.size := by rw [hwn, hf]; simp
    have lf : w.heap.size < f := by rw [hf]; exact hd2
    have SS3 := Lib.hid (ss2 bn_ hd2 SS2.out)
    have HB3 := Lib.hid (below_step HB2.out HB2.out.size bn_)
    have hd3 := Nat.lt_of_lt_of_le hd2 bn_.size
    rw [← hwn, ← hf]
    clear hwn hf bn_ k0 k1
    have FF3 : Hid (Box5 f (.int .i64 0) (.slice none 0 0) (.slice none 0 0) (.int .i64 0) (.int .i64 0) w3) := FN.1
    clear FN
    obtain ⟨f0, f1, f2, f3, f4⟩ := FF3.out
    obtain ⟨k0, k1⟩ := SS3.out
    go_wp2
    go_ret2
    rw [HV.out, ← HCE.out]
    exact ⟨none, 0, rfl, .inl rfl, HB3.out⟩

set_option maxRecDepth 100000 in
set_option maxHeartbeats 6400000 in
theorem impl_ReflectionMatrix (pS : Int) (aS : Option Addr) (S : List Int) (cS loS tpS : Nat) (au : Option Addr) (u : List Int) (cu lou tpu : Nat) (w : World) (hS : RowIn loS tpS w aS S) (tS : tpS ≤ w.heap.size) (sS : S.length ≤ 1048576) (hu : RowIn lou tpu w au u) (tu : tpu ≤ w.heap.size) (su : u.length ≤ 1048576) :
    Calls Try.prog 29 #[.agg #[.int .i64 pS, .slice aS S.length cS], .slice au u.length cu] w (ImplM (rmV pS S u) (rmC pS S u) w) := by
  have HS := Lib.hid hS
  have Hu := Lib.hid hu
  have k0 := nw0 w (.int .i64 pS) (.slice aS S.length cS) 30
  have k1 := nw1 w (.int .i64 pS) (.slice aS S.length cS) 30
  have HB0 := Lib.hid (below_alloc w (.cells #[.int .i64 pS, .slice aS S.length cS] 30))
  clear hS hu
  by_cases hz0 : rvC pS S [u] = 0
  · have HZ := Lib.hid hz0
    by_cases hn0 : pairN pS S u u = 0
    · have HVC : Hid (rmV pS S u = [] ∧ rmC pS S u = 5) := by
        have e : rmC pS S u = 5 := by unfold rmC; rw [if_pos hz0, if_pos hn0]
        exact ⟨by unfold rmV; rw [if_neg (by rw [e]; decide)], e⟩
      have h2_ := rvC_one hz0
      have HI := Lib.hid h2_.1
      have HVu := Lib.hid h2_.2
      obtain ⟨N, hN⟩ : ∃ n, n = pairN pS S u u := ⟨_, rfl⟩
      have HNE := Lib.hid hN
      have hn1 : (N == 0) = true := by rw [hN]; simpa using hn0
      clear hz0 hn0 h2_ hN
      go_enter Try.func29, Try.ntmps29
      go_upto_region 1 with fail
      obtain ⟨w1, hw1⟩ : ∃ z, z = w.alloc (.cells #[.int .i64 pS, .slice aS S.length cS] 30) := ⟨_, rfl⟩
      rw [← hw1] at HB0 k0 k1 ⊢
      have hd1 : w.heap.size < w1.heap.size := by rw [hw1]; simp
      have HB1 := HB0
      clear hw1
      have SS1 := Lib.hid (And.intro k0 k1)
      go_wp2_with (first | (go_at_call 59; ((with_reducible refine (checkRV1 pS aS S cS loS tpS au u cu lou tpu _ _ w1 _ rfl (HS.out.below HB1.out tS) (Nat.le_trans tS HB1.out.size) sS (Hu.out.below HB1.out tu) (Nat.le_trans tu HB1.out.size) su).mono ?_); rintro e w2 ⟨rfl, b_⟩; rw [HZ.out]; have b2_ := below_step (below_alloc w1 (.cells #[.slice au u.length cu] 22)) (size_alloc w1 (.cells #[.slice au u.length cu] 22)) b_; have SS2 := Lib.hid (ss2 b2_ hd1 SS1.out); have HB2 := Lib.hid (below_step HB1.out HB1.out.size b2_); have hd2 := Nat.lt_of_lt_of_le hd1 b2_.size; clear k0 k1; obtain ⟨k0, k1⟩ := SS2.out; clear b_ b2_)) | (go_at_call 60; ((with_reducible refine (norm_any pS aS S cS loS tpS au u cu lou tpu w2 (HS.out.below HB2.out tS) (Nat.le_trans tS HB2.out.size) (Hu.out.below HB2.out tu) (Nat.le_trans tu HB2.out.size) HI.out HVu.out).mono ?_); rintro e w3 ⟨rfl, b_⟩; rw [← HNE.out]; have SS3 := Lib.hid (ss2 b_ hd2 SS2.out); have HB3 := Lib.hid (below_step HB2.out HB2.out.size b_); have hd3 := Nat.lt_of_lt_of_le hd2 b_.size; clear k0 k1; obtain ⟨k0, k1⟩ := SS3.out; clear b_)))
      go_ret2
      rw [HVC.out.1, HVC.out.2]
      exact ⟨none, 0, rfl, .inl rfl, HB3.out⟩
    · have HVC : Hid (rmV pS S u = trM (ledM S.length (rflM pS S u) S.length) ∧ rmC pS S u = 0) := by
        have e : rmC pS S u = 0 := by unfold rmC; rw [if_pos hz0, if_neg hn0]
        exact ⟨by unfold rmV; rw [if_pos e], e⟩
      have h2_ := rvC_one hz0
      have HI := Lib.hid h2_.1
      have HVu := Lib.hid h2_.2
      have HN0 := Lib.hid hn0
      obtain ⟨N, hN⟩ : ∃ n, n = pairN pS S u u := ⟨_, rfl⟩
      have HNE := Lib.hid hN
      have hn1 : (N == 0) = false := by rw [hN]; simpa using hn0
      clear hz0 hn0 h2_ hN
      go_enter Try.func29, Try.ntmps29
      go_upto_region 1 with fail
      obtain ⟨w1, hw1⟩ : ∃ z, z = w.alloc (.cells #[.int .i64 pS, .slice aS S.length cS] 30) := ⟨_, rfl⟩
      rw [← hw1] at HB0 k0 k1 ⊢
      have hd1 : w.heap.size < w1.heap.size := by rw [hw1]; simp
      have HB1 := HB0
      clear hw1
      have SS1 := Lib.hid (And.intro k0 k1)
      go_wp2_with (first | (go_at_call 59; ((with_reducible refine (checkRV1 pS aS S cS loS tpS au u cu lou tpu _ _ w1 _ rfl (HS.out.below HB1.out tS) (Nat.le_trans tS HB1.out.size) sS (Hu.out.below HB1.out tu) (Nat.le_trans tu HB1.out.size) su).mono ?_); rintro e w2 ⟨rfl, b_⟩; rw [HZ.out]; have b2_ := below_step (below_alloc w1 (.cells #[.slice au u.length cu] 22)) (size_alloc w1 (.cells #[.slice au u.length cu] 22)) b_; have SS2 := Lib.hid (ss2 b2_ hd1 SS1.out); have HB2 := Lib.hid (below_step HB1.out HB1.out.size b2_); have hd2 := Nat.lt_of_lt_of_le hd1 b2_.size; clear k0 k1; obtain ⟨k0, k1⟩ := SS2.out; clear b_ b2_)) | (go_at_call 60; ((with_reducible refine (norm_any pS aS S cS loS tpS au u cu lou tpu w2 (HS.out.below HB2.out tS) (Nat.le_trans tS HB2.out.size) (Hu.out.below HB2.out tu) (Nat.le_trans tu HB2.out.size) HI.out HVu.out).mono ?_); rintro e w3 ⟨rfl, b_⟩; rw [← HNE.out]; have SS3 := Lib.hid (ss2 b_ hd2 SS2.out); have HB3 := Lib.hid (below_step HB2.out HB2.out.size b_); have hd3 := Nat.lt_of_lt_of_le hd2 b_.size; clear k0 k1; obtain ⟨k0, k1⟩ := SS3.out; clear b_)) | (go_at_call 54; ((with_reducible refine (matrixOf_r pS aS S cS loS tpS au u cu lou tpu w3 HI.out (HS.out.below HB3.out tS) (Nat.le_trans tS HB3.out.size) (Hu.out.below HB3.out tu) (Nat.le_trans tu HB3.out.size) HVu.out).mono ?_); rintro e w4 ⟨r, c, rfl, o_, b_⟩; have SS4 := Lib.hid (ss2 b_ hd3 SS3.out); have HB4 := Lib.hid (below_step HB3.out HB3.out.size b_); have hd4 := Nat.lt_of_lt_of_le hd3 b_.size; have OO := Lib.hid (o_.mono (Nat.le_of_lt hd3) (Nat.le_refl _)); clear o_; clear k0 k1; obtain ⟨k0, k1⟩ := SS4.out; clear b_)))
      go_ret2
      rw [HVC.out.1, HVC.out.2]
      exact ⟨r, c, rfl, OO.out, HB4.out⟩
  · have HVC : Hid (rmV pS S u = [] ∧ rmC pS S u = rvC pS S [u]) := by
      have e : rmC pS S u = rvC pS S [u] := by unfold rmC; rw [if_neg hz0]
      exact ⟨by unfold rmV; rw [if_neg (by rw [e]; exact hz0)], e⟩
    obtain ⟨C, hC⟩ : ∃ c, c = rvC pS S [u] := ⟨_, rfl⟩
    have hc1 : (C != 0) = true := by rw [hC]; simpa using hz0
    have hc2 : (C == 0) = false := by rw [hC]; simpa using hz0
    have HCE := Lib.hid hC
    clear hz0 hC
    go_enter Try.func29, Try.ntmps29
    go_upto_region 1 with fail
    obtain ⟨w1, hw1⟩ : ∃ z, z = w.alloc (.cells #[.int .i64 pS, .slice aS S.length cS] 30) := ⟨_, rfl⟩
    rw [← hw1] at HB0 k0 k1 ⊢
    have hd1 : w.heap.size < w1.heap.size := by rw [hw1]; simp
    have HB1 := HB0
    clear hw1
    have SS1 := Lib.hid (And.intro k0 k1)
    go_wp2_with (go_at_call 59; ((with_reducible refine (checkRV1 pS aS S cS loS tpS au u cu lou tpu _ _ w1 _ rfl (HS.out.below HB1.out tS) (Nat.le_trans tS HB1.out.size) sS (Hu.out.below HB1.out tu) (Nat.le_trans tu HB1.out.size) su).mono ?_); rintro e w2 ⟨rfl, b_⟩; rw [← HCE.out]; have b2_ := below_step (below_alloc w1 (.cells #[.slice au u.length cu] 22)) (size_alloc w1 (.cells #[.slice au u.length cu] 22)) b_; have SS2 := Lib.hid (ss2 b2_ hd1 SS1.out); have HB2 := Lib.hid (below_step HB1.out HB1.out.size b2_); have hd2 := Nat.lt_of_lt_of_le hd1 b2_.size; clear k0 k1; obtain ⟨k0, k1⟩ := SS2.out; clear b_ b2_))
    go_ret2
    rw [HVC.out.1, HVC.out.2, ← HCE.out]
    exact ⟨none, 0, rfl, .inl rfl, HB2.out⟩

set_option maxRecDepth 100000 in
set_option maxHeartbeats 6400000 in
theorem spec_ReflectionMatrix (pS : Int) (aS : Option Addr) (S : List Int) (cS loS tpS : Nat) (au : Option Addr) (u : List Int) (cu lou tpu : Nat) (w : World) (hS : RowIn loS tpS w aS S) (tS : tpS ≤ w.heap.size) (sS : S.length ≤ 1048576) (hu : RowIn lou tpu w au u) (tu : tpu ≤ w.heap.size) (su : u.length ≤ 1048576) :
    Calls Try.prog 28 #[.agg #[.int .i64 pS, .slice aS S.length cS], .slice au u.length cu] w (SpecM (rmV pS S u) (rmC pS S u) w) := by
  have HS := Lib.hid hS
  have Hu := Lib.hid hu
  have k0 := nw0 w (.int .i64 pS) (.slice aS S.length cS) 30
  have k1 := nw1 w (.int .i64 pS) (.slice aS S.length cS) 30
  have HB0 := Lib.hid (below_alloc w (.cells #[.int .i64 pS, .slice aS S.length cS] 30))
  clear hS hu
  by_cases hz0 : rvC pS S [u] = 0
  · have HZ := Lib.hid hz0
    by_cases hn0 : pairN pS S u u = 0
    · have HVC : Hid (rmV pS S u = [] ∧ rmC pS S u = 5) := by
        have e : rmC pS S u = 5 := by unfold rmC; rw [if_pos hz0, if_pos hn0]
        exact ⟨by unfold rmV; rw [if_neg (by rw [e]; decide)], e⟩
      have h2_ := rvC_one hz0
      have HI := Lib.hid h2_.1
      have HVu := Lib.hid h2_.2
      obtain ⟨N, hN⟩ : ∃ n, n = pairN pS S u u := ⟨_, rfl⟩
      have HNE := Lib.hid hN
      have hn1 : (N == 0) = true := by rw [hN]; simpa using hn0
      clear hz0 hn0 h2_ hN
      go_enter Try.func28, Try.ntmps28
      go_upto_region 1 with fail
      obtain ⟨w1, hw1⟩ : ∃ z, z = w.alloc (.cells #[.int .i64 pS, .slice aS S.length cS] 30) := ⟨_, rfl⟩
      rw [← hw1] at HB0 k0 k1 ⊢
      have hd1 : w.heap.size < w1.heap.size := by rw [hw1]; simp
      have HB1 := HB0
      clear hw1
      have SS1 := Lib.hid (And.intro k0 k1)
      go_wp2_with (first | (go_at_call 56; ((with_reducible refine (vectors1 pS aS S cS loS tpS au u cu lou tpu _ _ w1 _ rfl (HS.out.below HB1.out tS) (Nat.le_trans tS HB1.out.size) sS (Hu.out.below HB1.out tu) (Nat.le_trans tu HB1.out.size) su).mono ?_); rintro e w2 ⟨rfl, b_⟩; rw [HZ.out]; have b2_ := below_step (below_alloc w1 (.cells #[.slice au u.length cu] 22)) (size_alloc w1 (.cells #[.slice au u.length cu] 22)) b_; have SS2 := Lib.hid (ss2 b2_ hd1 SS1.out); have HB2 := Lib.hid (below_step HB1.out HB1.out.size b2_); have hd2 := Nat.lt_of_lt_of_le hd1 b2_.size; clear k0 k1; obtain ⟨k0, k1⟩ := SS2.out; clear b_ b2_)) | (go_at_call 57; ((with_reducible refine (l03Pair_any pS aS S cS loS tpS au u cu lou tpu au u cu lou tpu w2 (HS.out.below HB2.out tS) (Nat.le_trans tS HB2.out.size) (Hu.out.below HB2.out tu) (Nat.le_trans tu HB2.out.size) (Hu.out.below HB2.out tu) (Nat.le_trans tu HB2.out.size) HI.out HVu.out HVu.out).mono ?_); rintro e w3 ⟨rfl, b_⟩; rw [← HNE.out]; have SS3 := Lib.hid (ss2 b_ hd2 SS2.out); have HB3 := Lib.hid (below_step HB2.out HB2.out.size b_); have hd3 := Nat.lt_of_lt_of_le hd2 b_.size; clear k0 k1; obtain ⟨k0, k1⟩ := SS3.out; clear b_)))
      go_ret2
      rw [HVC.out.1, HVC.out.2]
      exact ⟨none, 0, rfl, .inl rfl, HB3.out⟩
    · have HVC : Hid (rmV pS S u = trM (ledM S.length (rflM pS S u) S.length) ∧ rmC pS S u = 0) := by
        have e : rmC pS S u = 0 := by unfold rmC; rw [if_pos hz0, if_neg hn0]
        exact ⟨by unfold rmV; rw [if_pos e], e⟩
      have h2_ := rvC_one hz0
      have HI := Lib.hid h2_.1
      have HVu := Lib.hid h2_.2
      have HN0 := Lib.hid hn0
      obtain ⟨N, hN⟩ : ∃ n, n = pairN pS S u u := ⟨_, rfl⟩
      have HNE := Lib.hid hN
      have hn1 : (N == 0) = false := by rw [hN]; simpa using hn0
      clear hz0 hn0 h2_ hN
      go_enter Try.func28, Try.ntmps28
      go_upto_region 1 with fail
      obtain ⟨w1, hw1⟩ : ∃ z, z = w.alloc (.cells #[.int .i64 pS, .slice aS S.length cS] 30) := ⟨_, rfl⟩
      rw [← hw1] at HB0 k0 k1 ⊢
      have hd1 : w.heap.size < w1.heap.size := by rw [hw1]; simp
      have HB1 := HB0
      clear hw1
      have SS1 := Lib.hid (And.intro k0 k1)
      go_wp2_with (first | (go_at_call 56; ((with_reducible refine (vectors1 pS aS S cS loS tpS au u cu lou tpu _ _ w1 _ rfl (HS.out.below HB1.out tS) (Nat.le_trans tS HB1.out.size) sS (Hu.out.below HB1.out tu) (Nat.le_trans tu HB1.out.size) su).mono ?_); rintro e w2 ⟨rfl, b_⟩; rw [HZ.out]; have b2_ := below_step (below_alloc w1 (.cells #[.slice au u.length cu] 22)) (size_alloc w1 (.cells #[.slice au u.length cu] 22)) b_; have SS2 := Lib.hid (ss2 b2_ hd1 SS1.out); have HB2 := Lib.hid (below_step HB1.out HB1.out.size b2_); have hd2 := Nat.lt_of_lt_of_le hd1 b2_.size; clear k0 k1; obtain ⟨k0, k1⟩ := SS2.out; clear b_ b2_)) | (go_at_call 57; ((with_reducible refine (l03Pair_any pS aS S cS loS tpS au u cu lou tpu au u cu lou tpu w2 (HS.out.below HB2.out tS) (Nat.le_trans tS HB2.out.size) (Hu.out.below HB2.out tu) (Nat.le_trans tu HB2.out.size) (Hu.out.below HB2.out tu) (Nat.le_trans tu HB2.out.size) HI.out HVu.out HVu.out).mono ?_); rintro e w3 ⟨rfl, b_⟩; rw [← HNE.out]; have SS3 := Lib.hid (ss2 b_ hd2 SS2.out); have HB3 := Lib.hid (below_step HB2.out HB2.out.size b_); have hd3 := Nat.lt_of_lt_of_le hd2 b_.size; clear k0 k1; obtain ⟨k0, k1⟩ := SS3.out; clear b_)) | (go_at_call 58; ((with_reducible refine (l08Reflection_any pS aS S cS loS tpS au u cu lou tpu w3 HI.out (HS.out.below HB3.out tS) (Nat.le_trans tS HB3.out.size) (Hu.out.below HB3.out tu) (Nat.le_trans tu HB3.out.size) HVu.out HN0.out).mono ?_); rintro e w4 ⟨r, c, rfl, o_, b_⟩; have SS4 := Lib.hid (ss2 b_ hd3 SS3.out); have HB4 := Lib.hid (below_step HB3.out HB3.out.size b_); have hd4 := Nat.lt_of_lt_of_le hd3 b_.size; have OO := Lib.hid (o_.mono (Nat.le_of_lt hd3) (Nat.le_refl _)); clear o_; clear k0 k1; obtain ⟨k0, k1⟩ := SS4.out; clear b_)))
      go_ret2
      rw [HVC.out.1, HVC.out.2]
      exact ⟨r, c, rfl, OO.out, HB4.out⟩
  · have HVC : Hid (rmV pS S u = [] ∧ rmC pS S u = rvC pS S [u]) := by
      have e : rmC pS S u = rvC pS S [u] := by unfold rmC; rw [if_neg hz0]
      exact ⟨by unfold rmV; rw [if_neg (by rw [e]; exact hz0)], e⟩
    obtain ⟨C, hC⟩ : ∃ c, c = rvC pS S [u] := ⟨_, rfl⟩
    have hc1 : (C != 0) = true := by rw [hC]; simpa using hz0
    have hc2 : (C == 0) = false := by rw [hC]; simpa using hz0
    have HCE := Lib.hid hC
    clear hz0 hC
    go_enter Try.func28, Try.ntmps28
    go_upto_region 1 with fail
    obtain ⟨w1, hw1⟩ : ∃ z, z = w.alloc (.cells #[.int .i64 pS, .slice aS S.length cS] 30) := ⟨_, rfl⟩
    rw [← hw1] at HB0 k0 k1 ⊢
    have hd1 : w.heap.size < w1.heap.size := by rw [hw1]; simp
    have HB1 := HB0
    clear hw1
    have SS1 := Lib.hid (And.intro k0 k1)
    go_wp2_with (go_at_call 56; ((with_reducible refine (vectors1 pS aS S cS loS tpS au u cu lou tpu _ _ w1 _ rfl (HS.out.below HB1.out tS) (Nat.le_trans tS HB1.out.size) sS (Hu.out.below HB1.out tu) (Nat.le_trans tu HB1.out.size) su).mono ?_); rintro e w2 ⟨rfl, b_⟩; rw [← HCE.out]; have b2_ := below_step (below_alloc w1 (.cells #[.slice au u.length cu] 22)) (size_alloc w1 (.cells #[.slice au u.length cu] 22)) b_; have SS2 := Lib.hid (ss2 b2_ hd1 SS1.out); have HB2 := Lib.hid (below_step HB1.out HB1.out.size b2_); have hd2 := Nat.lt_of_lt_of_le hd1 b2_.size; clear k0 k1; obtain ⟨k0, k1⟩ := SS2.out; clear b_ b2_))
    go_ret2
    rw [HVC.out.1, HVC.out.2, ← HCE.out]
    exact ⟨none, 0, rfl, .inl rfl, HB2.out⟩

set_option maxRecDepth 100000 in
set_option maxHeartbeats 6400000 in
theorem spec_MatrixOfVersor (pS : Int) (aS : Option Addr) (S : List Int) (cS loS tpS : Nat) (ax : Option Addr) (x : List Int) (cx lox tpx : Nat) (w : World) (hS : RowIn loS tpS w aS S) (tS : tpS ≤ w.heap.size) (sS : S.length ≤ 1048576) (hx : RowIn lox tpx w ax x) (tx : tpx ≤ w.heap.size) (sx : x.length ≤ 1048576) :
    Calls Try.prog 20 #[.agg #[.int .i64 pS, .slice aS S.length cS], .slice ax x.length cx] w (SpecM (mvV pS S x) (vrC pS S x) w) := by
  have HS := Lib.hid hS
  have Hx := Lib.hid hx
  have k0 := nw0 w (.int .i64 pS) (.slice aS S.length cS) 30
  have k1 := nw1 w (.int .i64 pS) (.slice aS S.length cS) 30
  have HB0 := Lib.hid (below_alloc w (.cells #[.int .i64 pS, .slice aS S.length cS] 30))
  clear hS hx
  by_cases hc : vrC pS S x = 0
  · have HV : Hid (mvV pS S x = trM (ledM S.length (sdM pS S x) S.length)) := by show _ = _; unfold mvV; rw [if_pos hc]
    have HC := Lib.hid hc
    have hz := vrC_zero hc
    have HI := Lib.hid hz.1
    have HMX := Lib.hid hz.2.1
    have HF0 := Lib.hid (isVr_iff.1 hz.2.2.1).1
    clear hc hz
    go_enter Try.func20, Try.ntmps20
    go_upto_region 1 with fail
    obtain ⟨w1, hw1⟩ : ∃ z, z = w.alloc (.cells #[.int .i64 pS, .slice aS S.length cS] 30) := ⟨_, rfl⟩
    rw [← hw1] at HB0 k0 k1 ⊢
    have hd1 : w.heap.size < w1.heap.size := by rw [hw1]; simp
    have HB1 := HB0
    clear hw1
    have SS1 := Lib.hid (And.intro k0 k1)
    go_wp2_with (first | (go_at_call 51; ((with_reducible refine (l07Code_any pS aS S cS loS tpS ax x cx lox tpx w1 (HS.out.below HB1.out tS) (Nat.le_trans tS HB1.out.size) sS (Hx.out.below HB1.out tx) (Nat.le_trans tx HB1.out.size) sx).mono ?_); rintro e w2 ⟨rfl, b_⟩; rw [HC.out]; have SS2 := Lib.hid (ss2 b_ hd1 SS1.out); have HB2 := Lib.hid (below_step HB1.out HB1.out.size b_); have hd2 := Nat.lt_of_lt_of_le hd1 b_.size; clear k0 k1; obtain ⟨k0, k1⟩ := SS2.out; clear b_)) | (go_at_call 52; ((with_reducible refine (l08Matrix_any pS aS S cS loS tpS ax x cx lox tpx w2 HI.out (HS.out.below HB2.out tS) (Nat.le_trans tS HB2.out.size) (Hx.out.below HB2.out tx) (Nat.le_trans tx HB2.out.size) HMX.out HF0.out).mono ?_); rintro e w3 ⟨r, c, rfl, o_, b_⟩; have SS3 := Lib.hid (ss2 b_ hd2 SS2.out); have HB3 := Lib.hid (below_step HB2.out HB2.out.size b_); have hd3 := Nat.lt_of_lt_of_le hd2 b_.size; have OO := Lib.hid (o_.mono (Nat.le_of_lt hd2) (Nat.le_refl _)); clear o_; clear k0 k1; obtain ⟨k0, k1⟩ := SS3.out; clear b_)))
    go_ret2
    rw [HV.out, HC.out]
    exact ⟨r, c, rfl, OO.out, HB3.out⟩
  · have HV : Hid (mvV pS S x = []) := by show _ = _; unfold mvV; rw [if_neg hc]
    obtain ⟨C, hC⟩ : ∃ c, c = vrC pS S x := ⟨_, rfl⟩
    have hc1 : (C != 0) = true := by rw [hC]; simpa using hc
    have hc2 : (C == 0) = false := by rw [hC]; simpa using hc
    have HCE := Lib.hid hC
    clear hc hC
    go_enter Try.func20, Try.ntmps20
    go_upto_region 1 with fail
    obtain ⟨w1, hw1⟩ : ∃ z, z = w.alloc (.cells #[.int .i64 pS, .slice aS S.length cS] 30) := ⟨_, rfl⟩
    rw [← hw1] at HB0 k0 k1 ⊢
    have hd1 : w.heap.size < w1.heap.size := by rw [hw1]; simp
    have HB1 := HB0
    clear hw1
    have SS1 := Lib.hid (And.intro k0 k1)
    go_wp2_with (go_at_call 51; ((with_reducible refine (l07Code_any pS aS S cS loS tpS ax x cx lox tpx w1 (HS.out.below HB1.out tS) (Nat.le_trans tS HB1.out.size) sS (Hx.out.below HB1.out tx) (Nat.le_trans tx HB1.out.size) sx).mono ?_); rintro e w2 ⟨rfl, b_⟩; rw [← HCE.out]; have SS2 := Lib.hid (ss2 b_ hd1 SS1.out); have HB2 := Lib.hid (below_step HB1.out HB1.out.size b_); have hd2 := Nat.lt_of_lt_of_le hd1 b_.size; clear k0 k1; obtain ⟨k0, k1⟩ := SS2.out; clear b_))
    go_ret2
    rw [HV.out, ← HCE.out]
    exact ⟨none, 0, rfl, .inl rfl, HB2.out⟩

end Go.Proofs.Ytigdepahbnidjaa
