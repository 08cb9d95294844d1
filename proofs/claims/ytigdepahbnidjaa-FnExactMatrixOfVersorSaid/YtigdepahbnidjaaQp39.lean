/-
  Laws of versors, the model's side: contracts of the program and of the model.
  Conditions: the lists are nil or rows of known cells, of at most 1048576 numbers.
  Laws of versors, the model's side: contracts of the program and of the model.
  Conditions: the lists are nil or rows of known cells, of at most 1048576 numbers.
  Orthogonal matrices, the model's side: contracts of the program and of the model.
  Conditions: the lists are nil or rows of known cells, of at most 1048576 numbers.
-/
import Derived.Test.YtigdepahbnidjaaQp38
import Derived.Test.YtigdepahbnidjaaQp32
import Derived.Deep.RegionHeld3
import Derived.Deep.DeepCutAuto
import Derived.Test.YtigdepahbnidjaaQp28
import Derived.Test.YtigdepahbnidjaaQp36
namespace Go.Proofs.Ytigdepahbnidjaa
open Go.RowKit
set_option linter.unusedVariables false

set_option maxRecDepth 100000 in
set_option maxHeartbeats 6400000 in
theorem l07Code_any (pS : Int) (aS : Option Addr) (S : List Int) (cS loS tpS : Nat) (ax : Option Addr) (x : List Int) (cx lox tpx : Nat) (w : World) (hS : RowIn loS tpS w aS S) (tS : tpS ≤ w.heap.size) (sS : S.length ≤ 1048576) (hx : RowIn lox tpx w ax x) (tx : tpx ≤ w.heap.size) (sx : x.length ≤ 1048576) :
    Calls Try.prog 51 #[.agg #[.int .i64 pS, .slice aS S.length cS], .slice ax x.length cx] w (fun e w' => e = .returned (.int .i64 (vrC pS S x)) ∧ Below w.heap.size w w') := by
  have HS := Lib.hid hS
  have Hx := Lib.hid hx
  have k0 := nw0 w (.int .i64 pS) (.slice aS S.length cS) 30
  have k1 := nw1 w (.int .i64 pS) (.slice aS S.length cS) 30
  have HB0 := Lib.hid (below_alloc w (.cells #[.int .i64 pS, .slice aS S.length cS] 30))
  clear hS hx
  rcases vrC_cases pS S x with ⟨h0, hc⟩ | ⟨h0, hv, hc⟩ | ⟨h0, hv, hc⟩
  · obtain ⟨C, hC⟩ : ∃ c, c = regC pS S [x] := ⟨_, rfl⟩
    rw [← hC] at h0 hc
    have hc1 : (C == 0) = false := by simpa using h0
    have HCE := Lib.hid hC
    have HV := Lib.hid hc
    clear h0 hc hC
    go_enter Try.func51, Try.ntmps51
    go_upto_region 1 with fail
    obtain ⟨w1, hw1⟩ : ∃ z, z = w.alloc (.cells #[.int .i64 pS, .slice aS S.length cS] 30) := ⟨_, rfl⟩
    rw [← hw1] at HB0 k0 k1 ⊢
    have hd1 : w.heap.size < w1.heap.size := by rw [hw1]; simp
    have HB1 := HB0
    clear hw1
    have SS1 := Lib.hid (And.intro k0 k1)
    go_wp2_with (go_at_call 89; ((with_reducible refine (codeR1 pS aS S cS loS tpS ax x cx lox tpx _ _ w1 _ rfl (HS.out.below HB1.out tS) (Nat.le_trans tS HB1.out.size) sS (Hx.out.below HB1.out tx) (Nat.le_trans tx HB1.out.size) sx).mono ?_); rintro e w2 ⟨rfl, b_⟩; rw [← HCE.out]; have b2_ := below_step (below_alloc w1 (.cells #[.slice ax x.length cx] 22)) (size_alloc w1 (.cells #[.slice ax x.length cx] 22)) b_; have SS2 := Lib.hid (ss2 b2_ hd1 SS1.out); have HB2 := Lib.hid (below_step HB1.out HB1.out.size b2_); have hd2 := Nat.lt_of_lt_of_le hd1 b2_.size; clear k0 k1; obtain ⟨k0, k1⟩ := SS2.out; clear b_ b2_))
    go_ret
    exact ⟨by rw [HV.out]; rfl, HB2.out⟩
  · have HZ := Lib.hid h0
    have h3 := regC_zero h0
    rw [mv_all1] at h3
    have HI := Lib.hid h3.1
    have HMX := Lib.hid h3.2
    have HVR := Lib.hid hv
    have HV := Lib.hid hc
    clear h0 hv hc h3
    go_enter Try.func51, Try.ntmps51
    go_upto_region 1 with fail
    obtain ⟨w1, hw1⟩ : ∃ z, z = w.alloc (.cells #[.int .i64 pS, .slice aS S.length cS] 30) := ⟨_, rfl⟩
    rw [← hw1] at HB0 k0 k1 ⊢
    have hd1 : w.heap.size < w1.heap.size := by rw [hw1]; simp
    have HB1 := HB0
    clear hw1
    have SS1 := Lib.hid (And.intro k0 k1)
    go_wp2_with (first | (go_at_call 89; ((with_reducible refine (codeR1 pS aS S cS loS tpS ax x cx lox tpx _ _ w1 _ rfl (HS.out.below HB1.out tS) (Nat.le_trans tS HB1.out.size) sS (Hx.out.below HB1.out tx) (Nat.le_trans tx HB1.out.size) sx).mono ?_); rintro e w2 ⟨rfl, b_⟩; rw [HZ.out]; have b2_ := below_step (below_alloc w1 (.cells #[.slice ax x.length cx] 22)) (size_alloc w1 (.cells #[.slice ax x.length cx] 22)) b_; have SS2 := Lib.hid (ss2 b2_ hd1 SS1.out); have HB2 := Lib.hid (below_step HB1.out HB1.out.size b2_); have hd2 := Nat.lt_of_lt_of_le hd1 b2_.size; clear k0 k1; obtain ⟨k0, k1⟩ := SS2.out; clear b_ b2_)) | (go_at_call 90; ((with_reducible refine (l07Is_any pS aS S cS loS tpS ax x cx lox tpx w2 HI.out (HS.out.below HB2.out tS) (Nat.le_trans tS HB2.out.size) (Hx.out.below HB2.out tx) (Nat.le_trans tx HB2.out.size) HMX.out).mono ?_); rintro e w3 ⟨rfl, b_⟩; rw [HVR.out]; have SS3 := Lib.hid (ss2 b_ hd2 SS2.out); have HB3 := Lib.hid (below_step HB2.out HB2.out.size b_); have hd3 := Nat.lt_of_lt_of_le hd2 b_.size; clear k0 k1; obtain ⟨k0, k1⟩ := SS3.out; clear b_)))
    go_ret
    exact ⟨by rw [HV.out]; rfl, HB3.out⟩
  · have HZ := Lib.hid h0
    have h3 := regC_zero h0
    rw [mv_all1] at h3
    have HI := Lib.hid h3.1
    have HMX := Lib.hid h3.2
    have HVR := Lib.hid hv
    have HV := Lib.hid hc
    clear h0 hv hc h3
    go_enter Try.func51, Try.ntmps51
    go_upto_region 1 with fail
    obtain ⟨w1, hw1⟩ : ∃ z, z = w.alloc (.cells #[.int .i64 pS, .slice aS S.length cS] 30) := ⟨_, rfl⟩
    rw [← hw1] at HB0 k0 k1 ⊢
    have hd1 : w.heap.size < w1.heap.size := by rw [hw1]; simp
    have HB1 := HB0
    clear hw1
    have SS1 := Lib.hid (And.intro k0 k1)
    go_wp2_with (first | (go_at_call 89; ((with_reducible refine (codeR1 pS aS S cS loS tpS ax x cx lox tpx _ _ w1 _ rfl (HS.out.below HB1.out tS) (Nat.le_trans tS HB1.out.size) sS (Hx.out.below HB1.out tx) (Nat.le_trans tx HB1.out.size) sx).mono ?_); rintro e w2 ⟨rfl, b_⟩; rw [HZ.out]; have b2_ := below_step (below_alloc w1 (.cells #[.slice ax x.length cx] 22)) (size_alloc w1 (.cells #[.slice ax x.length cx] 22)) b_; have SS2 := Lib.hid (ss2 b2_ hd1 SS1.out); have HB2 := Lib.hid (below_step HB1.out HB1.out.size b2_); have hd2 := Nat.lt_of_lt_of_le hd1 b2_.size; clear k0 k1; obtain ⟨k0, k1⟩ := SS2.out; clear b_ b2_)) | (go_at_call 90; ((with_reducible refine (l07Is_any pS aS S cS loS tpS ax x cx lox tpx w2 HI.out (HS.out.below HB2.out tS) (Nat.le_trans tS HB2.out.size) (Hx.out.below HB2.out tx) (Nat.le_trans tx HB2.out.size) HMX.out).mono ?_); rintro e w3 ⟨rfl, b_⟩; rw [HVR.out]; have SS3 := Lib.hid (ss2 b_ hd2 SS2.out); have HB3 := Lib.hid (below_step HB2.out HB2.out.size b_); have hd3 := Nat.lt_of_lt_of_le hd2 b_.size; clear k0 k1; obtain ⟨k0, k1⟩ := SS3.out; clear b_)))
    go_ret
    exact ⟨by rw [HV.out]; rfl, HB3.out⟩

def rvL (p : Int) (S : List Int) (m : List (List Int)) : Int := if codeL p S m = 0 then (if discN p S = 0 then 5 else 0) else codeL p S m
theorem codeL_sp7 {p : Int} {S : List Int} {m : List (List Int)} (h : codeL p S m = 0) : isSp p S = true ∧ listB p S m = true := by
  rcases codeL_cases p S m with ⟨_, hc⟩ | ⟨hi, hl, _⟩ | ⟨_, _, hc⟩
  · rw [hc] at h; cases h
  · exact ⟨hi, hl⟩
  · rw [hc] at h; cases h

set_option maxRecDepth 100000 in
set_option maxHeartbeats 3200000 in
theorem l07Vectors_any (pS : Int) (aS : Option Addr) (S : List Int) (cS loS tpS : Nat) (am : Option Addr) (m : List (List Int)) (cm lom tpm : Nat) (w : World) (hS : RowIn loS tpS w aS S) (tS : tpS ≤ w.heap.size) (sS : S.length ≤ 1048576) (hm : MatIn lom tpm w am m) (tm : tpm ≤ w.heap.size) (sm : m.length ≤ 1048576) (sr : ∀ i, i < m.length → (rw' m i).length ≤ 1048576) :
    Calls Try.prog 56 #[.agg #[.int .i64 pS, .slice aS S.length cS], .slice am m.length cm] w fun e w' => e = .returned (.int .i64 (rvL pS S m)) ∧ Below w.heap.size w w' := by
  have HS := Lib.hid hS
  have Hm := Lib.hid hm
  have HSR := Lib.hid sr
  have k0 := nw0 w (.int .i64 pS) (.slice aS S.length cS) 30
  have k1 := nw1 w (.int .i64 pS) (.slice aS S.length cS) 30
  have HB0 := Lib.hid (below_alloc w (.cells #[.int .i64 pS, .slice aS S.length cS] 30))
  clear hS hm sr
  by_cases hz0 : codeL pS S m = 0
  · have HZ := Lib.hid hz0
    have HI := Lib.hid (codeL_sp7 hz0).1
    obtain ⟨D, hD⟩ : ∃ d, d = discN pS S := ⟨_, rfl⟩
    have HDE := Lib.hid hD
    by_cases hd0 : D = 0
    · have HV : Hid (rvL pS S m = 5) := by show _ = _; unfold rvL; rw [if_pos hz0, if_pos (by rw [← hD]; exact hd0)]
      have hd1_ : (D == 0) = true := by simpa using hd0
      clear hz0 hD hd0
      go_enter Try.func56, Try.ntmps56
      go_upto_region 1 with fail
      obtain ⟨w1, hw1⟩ : ∃ z, z = w.alloc (.cells #[.int .i64 pS, .slice aS S.length cS] 30) := ⟨_, rfl⟩
      rw [← hw1] at HB0 k0 k1 ⊢
      have hd1 : w.heap.size < w1.heap.size := by rw [hw1]; simp
      have HB1 := HB0
      clear hw1
      have SS1 := Lib.hid (And.intro k0 k1)
      go_wp2_with (first | (go_at_call 95; ((with_reducible refine (l05List_any pS aS S cS loS tpS am m cm lom tpm w1 (HS.out.below HB1.out tS) (Nat.le_trans tS HB1.out.size) sS (Hm.out.below HB1.out tm) (Nat.le_trans tm HB1.out.size) sm HSR.out).mono ?_); rintro e w2 ⟨rfl, b_⟩; rw [HZ.out]; have SS2 := Lib.hid (ss2 b_ hd1 SS1.out); have HB2 := Lib.hid (below_step HB1.out HB1.out.size b_); have hd2 := Nat.lt_of_lt_of_le hd1 b_.size; clear k0 k1; obtain ⟨k0, k1⟩ := SS2.out; clear b_)) | (go_at_call 47; ((with_reducible refine (l03Disc_any pS aS S cS loS tpS w2 (HS.out.below HB2.out tS) (Nat.le_trans tS HB2.out.size) HI.out).mono ?_); rintro e w3 ⟨rfl, b_⟩; rw [← HDE.out]; have SS3 := Lib.hid (ss2 b_ hd2 SS2.out); have HB3 := Lib.hid (below_step HB2.out HB2.out.size b_); have hd3 := Nat.lt_of_lt_of_le hd2 b_.size; clear k0 k1; obtain ⟨k0, k1⟩ := SS3.out; clear b_)))
      go_ret
      exact ⟨by rw [HV.out]; rfl, HB3.out⟩
    · have HV : Hid (rvL pS S m = 0) := by show _ = _; unfold rvL; rw [if_pos hz0, if_neg (by rw [← hD]; exact hd0)]
      have hd1_ : (D == 0) = false := by simpa using hd0
      clear hz0 hD hd0
      go_enter Try.func56, Try.ntmps56
      go_upto_region 1 with fail
      obtain ⟨w1, hw1⟩ : ∃ z, z = w.alloc (.cells #[.int .i64 pS, .slice aS S.length cS] 30) := ⟨_, rfl⟩
      rw [← hw1] at HB0 k0 k1 ⊢
      have hd1 : w.heap.size < w1.heap.size := by rw [hw1]; simp
      have HB1 := HB0
      clear hw1
      have SS1 := Lib.hid (And.intro k0 k1)
      go_wp2_with (first | (go_at_call 95; ((with_reducible refine (l05List_any pS aS S cS loS tpS am m cm lom tpm w1 (HS.out.below HB1.out tS) (Nat.le_trans tS HB1.out.size) sS (Hm.out.below HB1.out tm) (Nat.le_trans tm HB1.out.size) sm HSR.out).mono ?_); rintro e w2 ⟨rfl, b_⟩; rw [HZ.out]; have SS2 := Lib.hid (ss2 b_ hd1 SS1.out); have HB2 := Lib.hid (below_step HB1.out HB1.out.size b_); have hd2 := Nat.lt_of_lt_of_le hd1 b_.size; clear k0 k1; obtain ⟨k0, k1⟩ := SS2.out; clear b_)) | (go_at_call 47; ((with_reducible refine (l03Disc_any pS aS S cS loS tpS w2 (HS.out.below HB2.out tS) (Nat.le_trans tS HB2.out.size) HI.out).mono ?_); rintro e w3 ⟨rfl, b_⟩; rw [← HDE.out]; have SS3 := Lib.hid (ss2 b_ hd2 SS2.out); have HB3 := Lib.hid (below_step HB2.out HB2.out.size b_); have hd3 := Nat.lt_of_lt_of_le hd2 b_.size; clear k0 k1; obtain ⟨k0, k1⟩ := SS3.out; clear b_)))
      go_ret
      exact ⟨by rw [HV.out]; rfl, HB3.out⟩
  · have HV : Hid (rvL pS S m = codeL pS S m) := by show _ = _; unfold rvL; rw [if_neg hz0]
    obtain ⟨C, hC⟩ : ∃ c, c = codeL pS S m := ⟨_, rfl⟩
    have hc2 : (C == 0) = false := by rw [hC]; simpa using hz0
    have HCE := Lib.hid hC
    clear hz0 hC
    go_enter Try.func56, Try.ntmps56
    go_upto_region 1 with fail
    obtain ⟨w1, hw1⟩ : ∃ z, z = w.alloc (.cells #[.int .i64 pS, .slice aS S.length cS] 30) := ⟨_, rfl⟩
    rw [← hw1] at HB0 k0 k1 ⊢
    have hd1 : w.heap.size < w1.heap.size := by rw [hw1]; simp
    have HB1 := HB0
    clear hw1
    have SS1 := Lib.hid (And.intro k0 k1)
    go_wp2_with (go_at_call 95; ((with_reducible refine (l05List_any pS aS S cS loS tpS am m cm lom tpm w1 (HS.out.below HB1.out tS) (Nat.le_trans tS HB1.out.size) sS (Hm.out.below HB1.out tm) (Nat.le_trans tm HB1.out.size) sm HSR.out).mono ?_); rintro e w2 ⟨rfl, b_⟩; rw [← HCE.out]; have SS2 := Lib.hid (ss2 b_ hd1 SS1.out); have HB2 := Lib.hid (below_step HB1.out HB1.out.size b_); have hd2 := Nat.lt_of_lt_of_le hd1 b_.size; clear k0 k1; obtain ⟨k0, k1⟩ := SS2.out; clear b_))
    go_ret
    exact ⟨by rw [HV.out, ← HCE.out]; rfl, HB2.out⟩

end Go.Proofs.Ytigdepahbnidjaa
