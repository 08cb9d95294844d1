/-
  Laws of versors, the model's side: contracts of the program and of the model.
  Conditions: the lists are nil or rows of known cells, of at most 1048576 numbers.
-/
import Derived.Test.YtgfanoejohpmkaaGreatQs41
import Derived.Test.YtgfanoejohpmkaaGreatQs35
import Derived.Deep.RegionHeld3
import Derived.Deep.DeepCutAuto
namespace Go.Proofs.YtgfanoejohpmkaaGreat
open Go.RowKit
set_option linter.unusedVariables false

set_option maxRecDepth 100000 in
set_option maxHeartbeats 6400000 in
theorem l07Code_any (pS : Int) (aS : Option Addr) (S : List Int) (cS loS tpS : Nat) (ax : Option Addr) (x : List Int) (cx lox tpx : Nat) (w : World) (hS : RowIn loS tpS w aS S) (tS : tpS ≤ w.heap.size) (sS : S.length ≤ 1048576) (hx : RowIn lox tpx w ax x) (tx : tpx ≤ w.heap.size) (sx : x.length ≤ 1048576) :
    Calls Tryz.prog 113 #[.agg #[.int .i64 pS, .slice aS S.length cS], .slice ax x.length cx] w (fun e w' => e = .returned (.int .i64 (vrC pS S x)) ∧ Below w.heap.size w w') := by
  have HS := Lib.hid hS
  have Hx := Lib.hid hx
  have k0 := nw0 w (.int .i64 pS) (.slice aS S.length cS) 26
  have k1 := nw1 w (.int .i64 pS) (.slice aS S.length cS) 26
  have HB0 := Lib.hid (below_alloc w (.cells #[.int .i64 pS, .slice aS S.length cS] 26))
  clear hS hx
  rcases vrC_cases pS S x with ⟨h0, hc⟩ | ⟨h0, hv, hc⟩ | ⟨h0, hv, hc⟩
  · obtain ⟨C, hC⟩ : ∃ c, c = regC pS S [x] := ⟨_, rfl⟩
    rw [← hC] at h0 hc
    have hc1 : (C == 0) = false := by simpa using h0
    have HCE := Lib.hid hC
    have HV := Lib.hid hc
    clear h0 hc hC
    go_enter Tryz.func113, Tryz.ntmps113
    go_upto_region 1 with fail
    obtain ⟨w1, hw1⟩ : ∃ z, z = w.alloc (.cells #[.int .i64 pS, .slice aS S.length cS] 26) := ⟨_, rfl⟩
    rw [← hw1] at HB0 k0 k1 ⊢
    have hd1 : w.heap.size < w1.heap.size := by rw [hw1]; simp
    have HB1 := HB0
    clear hw1
    have SS1 := Lib.hid (And.intro k0 k1)
    go_wp2_with (go_at_call 118; ((with_reducible refine (codeR1 pS aS S cS loS tpS ax x cx lox tpx _ _ w1 _ rfl (HS.out.below HB1.out tS) (Nat.le_trans tS HB1.out.size) sS (Hx.out.below HB1.out tx) (Nat.le_trans tx HB1.out.size) sx).mono ?_); rintro e w2 ⟨rfl, b_⟩; rw [← HCE.out]; have b2_ := below_step (below_alloc w1 (.cells #[.slice ax x.length cx] 24)) (size_alloc w1 (.cells #[.slice ax x.length cx] 24)) b_; have SS2 := Lib.hid (ss2 b2_ hd1 SS1.out); have HB2 := Lib.hid (below_step HB1.out HB1.out.size b2_); have hd2 := Nat.lt_of_lt_of_le hd1 b2_.size; clear k0 k1; obtain ⟨k0, k1⟩ := SS2.out; clear b_ b2_))
    go_ret
    exact ⟨by rw [HV.out]; rfl, HB2.out⟩
  · have HZ := Lib.hid h0
    have h3 := regC_zero h0
    rw [mv_all1] at h3
    have HI := Lib.hid h3.1
    have HMX := Lib.hid h3.2
    have HVR := Lib.hid hv
    have HV := Lib.hid hc
    clear h0 hv hc h3
    go_enter Tryz.func113, Tryz.ntmps113
    go_upto_region 1 with fail
    obtain ⟨w1, hw1⟩ : ∃ z, z = w.alloc (.cells #[.int .i64 pS, .slice aS S.length cS] 26) := ⟨_, rfl⟩
    rw [← hw1] at HB0 k0 k1 ⊢
    have hd1 : w.heap.size < w1.heap.size := by rw [hw1]; simp
    have HB1 := HB0
    clear hw1
    have SS1 := Lib.hid (And.intro k0 k1)
    go_wp2_with (first | (go_at_call 118; ((with_reducible refine (codeR1 pS aS S cS loS tpS ax x cx lox tpx _ _ w1 _ rfl (HS.out.below HB1.out tS) (Nat.le_trans tS HB1.out.size) sS (Hx.out.below HB1.out tx) (Nat.le_trans tx HB1.out.size) sx).mono ?_); rintro e w2 ⟨rfl, b_⟩; rw [HZ.out]; have b2_ := below_step (below_alloc w1 (.cells #[.slice ax x.length cx] 24)) (size_alloc w1 (.cells #[.slice ax x.length cx] 24)) b_; have SS2 := Lib.hid (ss2 b2_ hd1 SS1.out); have HB2 := Lib.hid (below_step HB1.out HB1.out.size b2_); have hd2 := Nat.lt_of_lt_of_le hd1 b2_.size; clear k0 k1; obtain ⟨k0, k1⟩ := SS2.out; clear b_ b2_)) | (go_at_call 119; ((with_reducible refine (l07Is_any pS aS S cS loS tpS ax x cx lox tpx w2 HI.out (HS.out.below HB2.out tS) (Nat.le_trans tS HB2.out.size) (Hx.out.below HB2.out tx) (Nat.le_trans tx HB2.out.size) HMX.out).mono ?_); rintro e w3 ⟨rfl, b_⟩; rw [HVR.out]; have SS3 := Lib.hid (ss2 b_ hd2 SS2.out); have HB3 := Lib.hid (below_step HB2.out HB2.out.size b_); have hd3 := Nat.lt_of_lt_of_le hd2 b_.size; clear k0 k1; obtain ⟨k0, k1⟩ := SS3.out; clear b_)))
    go_ret
    exact ⟨by rw [HV.out]; rfl, HB3.out⟩
  · have HZ := Lib.hid h0
    have h3 := regC_zero h0
    rw [mv_all1] at h3
    have HI := Lib.hid h3.1
    have HMX := Lib.hid h3.2
    have HVR := Lib.hid hv
    have HV := Lib.hid hc
    clear h0 hv hc h3
    go_enter Tryz.func113, Tryz.ntmps113
    go_upto_region 1 with fail
    obtain ⟨w1, hw1⟩ : ∃ z, z = w.alloc (.cells #[.int .i64 pS, .slice aS S.length cS] 26) := ⟨_, rfl⟩
    rw [← hw1] at HB0 k0 k1 ⊢
    have hd1 : w.heap.size < w1.heap.size := by rw [hw1]; simp
    have HB1 := HB0
    clear hw1
    have SS1 := Lib.hid (And.intro k0 k1)
    go_wp2_with (first | (go_at_call 118; ((with_reducible refine (codeR1 pS aS S cS loS tpS ax x cx lox tpx _ _ w1 _ rfl (HS.out.below HB1.out tS) (Nat.le_trans tS HB1.out.size) sS (Hx.out.below HB1.out tx) (Nat.le_trans tx HB1.out.size) sx).mono ?_); rintro e w2 ⟨rfl, b_⟩; rw [HZ.out]; have b2_ := below_step (below_alloc w1 (.cells #[.slice ax x.length cx] 24)) (size_alloc w1 (.cells #[.slice ax x.length cx] 24)) b_; have SS2 := Lib.hid (ss2 b2_ hd1 SS1.out); have HB2 := Lib.hid (below_step HB1.out HB1.out.size b2_); have hd2 := Nat.lt_of_lt_of_le hd1 b2_.size; clear k0 k1; obtain ⟨k0, k1⟩ := SS2.out; clear b_ b2_)) | (go_at_call 119; ((with_reducible refine (l07Is_any pS aS S cS loS tpS ax x cx lox tpx w2 HI.out (HS.out.below HB2.out tS) (Nat.le_trans tS HB2.out.size) (Hx.out.below HB2.out tx) (Nat.le_trans tx HB2.out.size) HMX.out).mono ?_); rintro e w3 ⟨rfl, b_⟩; rw [HVR.out]; have SS3 := Lib.hid (ss2 b_ hd2 SS2.out); have HB3 := Lib.hid (below_step HB2.out HB2.out.size b_); have hd3 := Nat.lt_of_lt_of_le hd2 b_.size; clear k0 k1; obtain ⟨k0, k1⟩ := SS3.out; clear b_)))
    go_ret
    exact ⟨by rw [HV.out]; rfl, HB3.out⟩

theorem codeL_sp7 {p : Int} {S : List Int} {m : List (List Int)} (h : codeL p S m = 0) : isSp p S = true ∧ listB p S m = true := by
  rcases codeL_cases p S m with ⟨_, hc⟩ | ⟨hi, hl, _⟩ | ⟨_, _, hc⟩
  · rw [hc] at h; cases h
  · exact ⟨hi, hl⟩
  · rw [hc] at h; cases h

set_option maxRecDepth 100000 in
set_option maxHeartbeats 6400000 in
theorem spec_IsVersor (pS : Int) (aS : Option Addr) (S : List Int) (cS loS tpS : Nat) (ax : Option Addr) (x : List Int) (cx lox tpx : Nat) (w : World) (hS : RowIn loS tpS w aS S) (tS : tpS ≤ w.heap.size) (sS : S.length ≤ 1048576) (hx : RowIn lox tpx w ax x) (tx : tpx ≤ w.heap.size) (sx : x.length ≤ 1048576) :
    Calls Tryz.prog 31 #[.agg #[.int .i64 pS, .slice aS S.length cS], .slice ax x.length cx] w (RetB (isvB pS S x) (regC pS S [x]) w) := by
  have HS := Lib.hid hS
  have Hx := Lib.hid hx
  have k0 := nw0 w (.int .i64 pS) (.slice aS S.length cS) 26
  have k1 := nw1 w (.int .i64 pS) (.slice aS S.length cS) 26
  have HB0 := Lib.hid (below_alloc w (.cells #[.int .i64 pS, .slice aS S.length cS] 26))
  clear hS hx
  by_cases hc : regC pS S [x] = 0
  · have HC := Lib.hid hc
    have h3 := regC_zero hc
    rw [mv_all1] at h3
    have HI := Lib.hid h3.1
    have HMX := Lib.hid h3.2
    clear hc h3
    go_enter Tryz.func31, Tryz.ntmps31
    go_upto_region 1 with fail
    obtain ⟨w1, hw1⟩ : ∃ z, z = w.alloc (.cells #[.int .i64 pS, .slice aS S.length cS] 26) := ⟨_, rfl⟩
    rw [← hw1] at HB0 k0 k1 ⊢
    have hd1 : w.heap.size < w1.heap.size := by rw [hw1]; simp
    have HB1 := HB0
    clear hw1
    have SS1 := Lib.hid (And.intro k0 k1)
    go_wp2_with (first | (go_at_call 118; ((with_reducible refine (codeR1 pS aS S cS loS tpS ax x cx lox tpx _ _ w1 _ rfl (HS.out.below HB1.out tS) (Nat.le_trans tS HB1.out.size) sS (Hx.out.below HB1.out tx) (Nat.le_trans tx HB1.out.size) sx).mono ?_); rintro e w2 ⟨rfl, b_⟩; rw [HC.out]; have b2_ := below_step (below_alloc w1 (.cells #[.slice ax x.length cx] 24)) (size_alloc w1 (.cells #[.slice ax x.length cx] 24)) b_; have SS2 := Lib.hid (ss2 b2_ hd1 SS1.out); have HB2 := Lib.hid (below_step HB1.out HB1.out.size b2_); have hd2 := Nat.lt_of_lt_of_le hd1 b2_.size; clear k0 k1; obtain ⟨k0, k1⟩ := SS2.out; clear b_ b2_)) | (go_at_call 119; ((with_reducible refine (l07Is_any pS aS S cS loS tpS ax x cx lox tpx w2 HI.out (HS.out.below HB2.out tS) (Nat.le_trans tS HB2.out.size) (Hx.out.below HB2.out tx) (Nat.le_trans tx HB2.out.size) HMX.out).mono ?_); rintro e w3 ⟨rfl, b_⟩; have SS3 := Lib.hid (ss2 b_ hd2 SS2.out); have HB3 := Lib.hid (below_step HB2.out HB2.out.size b_); have hd3 := Nat.lt_of_lt_of_le hd2 b_.size; clear k0 k1; obtain ⟨k0, k1⟩ := SS3.out; clear b_)))
    go_ret2
    exact ⟨by rw [show isvB pS S x = isVr pS S x from if_pos HC.out, HC.out]; rfl, HB3.out⟩
  · obtain ⟨C, hC⟩ : ∃ c, c = regC pS S [x] := ⟨_, rfl⟩
    have hc1 : (C != 0) = true := by rw [hC]; simpa using hc
    have HCE := Lib.hid hC
    have HN : Hid (regC pS S [x] ≠ 0) := hc
    clear hc hC
    go_enter Tryz.func31, Tryz.ntmps31
    go_upto_region 1 with fail
    obtain ⟨w1, hw1⟩ : ∃ z, z = w.alloc (.cells #[.int .i64 pS, .slice aS S.length cS] 26) := ⟨_, rfl⟩
    rw [← hw1] at HB0 k0 k1 ⊢
    have hd1 : w.heap.size < w1.heap.size := by rw [hw1]; simp
    have HB1 := HB0
    clear hw1
    have SS1 := Lib.hid (And.intro k0 k1)
    go_wp2_with (go_at_call 118; ((with_reducible refine (codeR1 pS aS S cS loS tpS ax x cx lox tpx _ _ w1 _ rfl (HS.out.below HB1.out tS) (Nat.le_trans tS HB1.out.size) sS (Hx.out.below HB1.out tx) (Nat.le_trans tx HB1.out.size) sx).mono ?_); rintro e w2 ⟨rfl, b_⟩; rw [← HCE.out]; have b2_ := below_step (below_alloc w1 (.cells #[.slice ax x.length cx] 24)) (size_alloc w1 (.cells #[.slice ax x.length cx] 24)) b_; have SS2 := Lib.hid (ss2 b2_ hd1 SS1.out); have HB2 := Lib.hid (below_step HB1.out HB1.out.size b2_); have hd2 := Nat.lt_of_lt_of_le hd1 b2_.size; clear k0 k1; obtain ⟨k0, k1⟩ := SS2.out; clear b_ b2_))
    go_ret2
    exact ⟨by rw [show isvB pS S x = false from if_neg HN.out, ← HCE.out]; rfl, HB2.out⟩

theorem smC_xy {p : Int} {S x y : List Int} (h : codeMv p S [x, y] ≠ 0) : smC p S x y = codeMv p S [x, y] := by
  unfold smC vrC regC
  rcases codeMv_cases p S [x, y] with ⟨hi, hc⟩ | ⟨_, _, hc⟩ | ⟨hi, ha, hc⟩
  · rcases codeMv_cases p S [y] with ⟨_, h2⟩ | ⟨hi2, _, _⟩ | ⟨hi2, _, _⟩
    · rw [h2, if_neg (by decide), hc]
    · rw [hi] at hi2; cases hi2
    · rw [hi] at hi2; cases hi2
  · exact absurd hc h
  · rw [hc]
    rw [mv_all2] at ha
    rcases codeMv_cases p S [y] with ⟨hi2, _⟩ | ⟨_, hy, h2⟩ | ⟨_, _, h2⟩
    · rw [hi] at hi2; cases hi2
    · rw [mv_all1] at hy
      rw [hy, Bool.and_true] at ha
      rcases codeMv_cases p S [x] with ⟨hi3, _⟩ | ⟨_, hx, _⟩ | ⟨_, _, h3⟩
      · rw [hi] at hi3; cases hi3
      · rw [mv_all1, ha] at hx; cases hx
      · simp [h2, h3]
    · simp [h2]
theorem smC_ok {p : Int} {S x y : List Int} (h : codeMv p S [x, y] = 0) : smC p S x y = vrC p S x ∧ isMv p S y = true := by
  have h2 := codeMv_zero.1 h
  rw [mv_all2, Bool.and_eq_true] at h2
  refine ⟨?_, h2.2.2⟩
  unfold smC
  rw [if_pos (codeMv_zero.2 ⟨h2.1, by rw [mv_all1]; exact h2.2.2⟩)]
set_option maxRecDepth 100000 in
set_option maxHeartbeats 6400000 in
theorem spec_SandwichOfMultivector (pS : Int) (aS : Option Addr) (S : List Int) (cS loS tpS : Nat) (ax : Option Addr) (x : List Int) (cx lox tpx : Nat) (ay : Option Addr) (y : List Int) (cy loy tpy : Nat) (w : World) (hS : RowIn loS tpS w aS S) (tS : tpS ≤ w.heap.size) (sS : S.length ≤ 1048576) (hx : RowIn lox tpx w ax x) (tx : tpx ≤ w.heap.size) (sx : x.length ≤ 1048576) (hy : RowIn loy tpy w ay y) (ty : tpy ≤ w.heap.size) (sy : y.length ≤ 1048576) :
    Calls Tryz.prog 30 #[.agg #[.int .i64 pS, .slice aS S.length cS], .slice ax x.length cx, .slice ay y.length cy] w (SpecR (smV pS S x y) (smC pS S x y) w) := by
  have HS := Lib.hid hS
  have Hx := Lib.hid hx
  have Hy := Lib.hid hy
  have k0 := nw0 w (.int .i64 pS) (.slice aS S.length cS) 26
  have k1 := nw1 w (.int .i64 pS) (.slice aS S.length cS) 26
  have HB0 := Lib.hid (below_alloc w (.cells #[.int .i64 pS, .slice aS S.length cS] 26))
  clear hS hx hy
  by_cases hy0 : codeMv pS S [x, y] = 0
  · by_cases hc : vrC pS S x = 0
    · have HVC : Hid (smV pS S x y = swM pS S x y ∧ smC pS S x y = 0) := by
        have e : smC pS S x y = 0 := by rw [(smC_ok hy0).1]; exact hc
        exact ⟨by unfold smV; rw [if_pos e], e⟩
      have HY0 := Lib.hid hy0
      have HMY0 := Lib.hid (smC_ok hy0).2
      clear hy0
      have HC := Lib.hid hc
      have hz := vrC_zero hc
      have HI := Lib.hid hz.1
      have HMX := Lib.hid hz.2.1
      have HF0 := Lib.hid (isVr_iff.1 hz.2.2.1).1
      clear hc hz
      cases hpar : parB x 0 with
      | true =>
        have HPR := Lib.hid hpar
        clear hpar
        go_enter Tryz.func30, Tryz.ntmps30
        go_upto_region 1 with fail
        obtain ⟨w1, hw1⟩ : ∃ z, z = w.alloc (.cells #[.int .i64 pS, .slice aS S.length cS] 26) := ⟨_, rfl⟩
        rw [← hw1] at HB0 k0 k1 ⊢
        have hd1 : w.heap.size < w1.heap.size := by rw [hw1]; simp
        have HB1 := HB0
        clear hw1
        have SS1 := Lib.hid (And.intro k0 k1)
        go_upto_region 8 with (first | (go_at_call 112; ((with_reducible refine (codeM2 pS aS S cS loS tpS ax x cx lox tpx ay y cy loy tpy _ _ w1 _ rfl (HS.out.below HB1.out tS) (Nat.le_trans tS HB1.out.size) sS (Hx.out.below HB1.out tx) (Nat.le_trans tx HB1.out.size) sx (Hy.out.below HB1.out ty) (Nat.le_trans ty HB1.out.size) sy).mono ?_); rintro e w2 ⟨rfl, b_⟩; rw [HY0.out]; have b2_ := below_step (below_alloc w1 (.cells #[.slice ax x.length cx, .slice ay y.length cy] 24)) (size_alloc w1 (.cells #[.slice ax x.length cx, .slice ay y.length cy] 24)) b_; have SS2 := Lib.hid (ss2 b2_ hd1 SS1.out); have HB2 := Lib.hid (below_step HB1.out HB1.out.size b2_); have hd2 := Nat.lt_of_lt_of_le hd1 b2_.size; clear k0 k1; obtain ⟨k0, k1⟩ := SS2.out; clear b_ b2_)) | (go_at_call 113; ((with_reducible refine (l07Code_any pS aS S cS loS tpS ax x cx lox tpx w2 (HS.out.below HB2.out tS) (Nat.le_trans tS HB2.out.size) sS (Hx.out.below HB2.out tx) (Nat.le_trans tx HB2.out.size) sx).mono ?_); rintro e w3 ⟨rfl, b_⟩; rw [HC.out]; have SS3 := Lib.hid (ss2 b_ hd2 SS2.out); have HB3 := Lib.hid (below_step HB2.out HB2.out.size b_); have hd3 := Nat.lt_of_lt_of_le hd2 b_.size; clear k0 k1; obtain ⟨k0, k1⟩ := SS3.out; clear b_)) | (go_at_call 114; ((with_reducible refine (l04Even_any pS aS S cS ax x cx lox tpx w3 (isSp_iff.1 HI.out).prime (Hx.out.below HB3.out tx) (Nat.le_trans tx HB3.out.size) (mv_small HI.out HMX.out) (Mv.nums HMX.out)).mono ?_); rintro e w4 ⟨rfl, b_⟩; rw [show isEv x = parB x 0 from rfl, HPR.out]; have SS4 := Lib.hid (ss2 b_ hd3 SS3.out); have HB4 := Lib.hid (below_step HB3.out HB3.out.size b_); have hd4 := Nat.lt_of_lt_of_le hd3 b_.size; clear k0 k1; obtain ⟨k0, k1⟩ := SS4.out; clear b_)))
        obtain ⟨Y, hY⟩ : ∃ Y, Y = y := ⟨_, rfl⟩
        have HYL : Hid (Y.length = y.length) := by show _ = _; rw [hY]
        have HYE : Hid (swM pS S x y = prodM pS S (prodM pS S x Y) (viM pS S x)) := by show _ = _; unfold swM; rw [if_pos HPR.out, hY]
        have HMY : Hid (isMv pS S Y = true) := by show _ = _; rw [hY]; exact HMY0.out
        have hse : Hid (w4.drew.cell? ⟨w.heap.size, 0, none⟩ = some (.int .i64 pS) ∧ w4.drew.cell? ⟨w.heap.size, 1, none⟩ = some (.slice aS S.length cS)) := SS4.out
        have HBE : Hid (Below w.heap.size w w4.drew) := HB4.out.drew
        have hde : w.heap.size < w4.drew.heap.size := hd4
        have RYD : Hid (RowIn loy tpy w4.drew ay Y) := by show RowIn _ _ _ _ _; rw [hY]; exact Hy.out.below HBE.out ty
        have TY : tpy ≤ w4.drew.heap.size := Nat.le_trans ty HBE.out.size
        clear hY k0 k1
        go_region_held3 (fun w' => w'.cell? ⟨w.heap.size, 0, none⟩ = some (.int .i64 pS) ∧ w'.cell? ⟨w.heap.size, 1, none⟩ = some (.slice aS S.length cS)) (first | exact hse.out | exact SSa.out | exact SSab.out | exact SSabc.out | go_keep) (first | (go_at_call 116; (with_reducible refine (l04Times_m pS aS S cS loS tpS ax x x.length cx lox tpx ay Y y.length cy loy tpy w4.drew rfl HYL.out HI.out (HS.out.below HBE.out tS) (Nat.le_trans tS (HBE.out).size) (Hx.out.below HBE.out tx) (Nat.le_trans tx (HBE.out).size) HMX.out (RYD.out.below (Below.refl w4.drew.heap.size _) TY) (Nat.le_trans TY ((Below.refl w4.drew.heap.size _)).size) HMY.out).mono ?_); rintro e wa ⟨ra, ka, rfl, o_, b_⟩; have SSa := Lib.hid (ss2 b_ hde hse.out); have HBa := Lib.hid (below_step HBE.out (Nat.le_of_lt hde) b_); have zz_ := b_.size; have HCa := Lib.hid b_; have hda := Nat.lt_of_lt_of_le hde zz_; have Oa_a := Lib.hid (OwnR.mono' o_ (Nat.le_of_lt hde) (Nat.le_refl _)); have Ra_a := Lib.hid (Oa_a.out.row); clear b_ o_) | (go_at_call 117; (with_reducible refine (l07Inverse_any pS aS S cS loS tpS ax x cx lox tpx wa HI.out (HS.out.below HBa.out tS) (Nat.le_trans tS (HBa.out).size) (Hx.out.below HBa.out tx) (Nat.le_trans tx (HBa.out).size) HMX.out HF0.out).mono ?_); rintro e wab ⟨rb, kb, rfl, o_, b_⟩; have SSab := Lib.hid (ss2 b_ hda SSa.out); have HBab := Lib.hid (below_step HBa.out (Nat.le_of_lt hda) b_); have zz_ := b_.size; have HCab := Lib.hid (below_step HCa.out (HCa.out).size b_); have hdab := Nat.lt_of_lt_of_le hda zz_; have Ra_ab := Lib.hid ((Ra_a.out.below b_ (Nat.le_refl _)).mono (Nat.le_refl _) zz_); have Rb_ab := Lib.hid (o_.mono (Nat.le_of_lt hda) (Nat.le_refl _)); clear b_ o_) | (go_at_call 116; (with_reducible refine (l04Times_m pS aS S cS loS tpS ra (prodM pS S x Y) _ ka w.heap.size wab.heap.size rb (viM pS S x) x.length kb w.heap.size wab.heap.size wab rfl (viM_len _ _) HI.out (HS.out.below HBab.out tS) (Nat.le_trans tS (HBab.out).size) Ra_ab.out (Nat.le_refl _) (prod_mv HI.out _ _) Rb_ab.out (Nat.le_refl _) (vi_mv HI.out HMX.out)).mono ?_); rintro e wabc ⟨rc, kc, rfl, o_, b_⟩; have SSabc := Lib.hid (ss2 b_ hdab SSab.out); have HBabc := Lib.hid (below_step HBab.out (Nat.le_of_lt hdab) b_); have zz_ := b_.size; have HCabc := Lib.hid (below_step HCab.out (HCab.out).size b_); have hdabc := Nat.lt_of_lt_of_le hdab zz_; have Ra_abc := Lib.hid ((Ra_ab.out.below b_ (Nat.le_refl _)).mono (Nat.le_refl _) zz_); have Rb_abc := Lib.hid ((Rb_ab.out.below b_ (Nat.le_refl _)).mono (Nat.le_refl _) zz_); have Oc_abc := Lib.hid (OwnR.mono' o_ (Nat.le_of_lt hdab) (Nat.le_refl _)); have Rc_abc := Lib.hid (Oc_abc.out.row); clear b_ o_))
        all_goals
          go_wp2
          go_ret2
          rw [HVC.out.1, HVC.out.2, HYE.out]
          exact ⟨rc, kc, rfl, Rc_abc.out, HBabc.out⟩
      | false =>
        have HPR := Lib.hid hpar
        clear hpar
        go_enter Tryz.func30, Tryz.ntmps30
        go_upto_region 1 with fail
        obtain ⟨w1, hw1⟩ : ∃ z, z = w.alloc (.cells #[.int .i64 pS, .slice aS S.length cS] 26) := ⟨_, rfl⟩
        rw [← hw1] at HB0 k0 k1 ⊢
        have hd1 : w.heap.size < w1.heap.size := by rw [hw1]; simp
        have HB1 := HB0
        clear hw1
        have SS1 := Lib.hid (And.intro k0 k1)
        go_upto_region 8 with (first | (go_at_call 112; ((with_reducible refine (codeM2 pS aS S cS loS tpS ax x cx lox tpx ay y cy loy tpy _ _ w1 _ rfl (HS.out.below HB1.out tS) (Nat.le_trans tS HB1.out.size) sS (Hx.out.below HB1.out tx) (Nat.le_trans tx HB1.out.size) sx (Hy.out.below HB1.out ty) (Nat.le_trans ty HB1.out.size) sy).mono ?_); rintro e w2 ⟨rfl, b_⟩; rw [HY0.out]; have b2_ := below_step (below_alloc w1 (.cells #[.slice ax x.length cx, .slice ay y.length cy] 24)) (size_alloc w1 (.cells #[.slice ax x.length cx, .slice ay y.length cy] 24)) b_; have SS2 := Lib.hid (ss2 b2_ hd1 SS1.out); have HB2 := Lib.hid (below_step HB1.out HB1.out.size b2_); have hd2 := Nat.lt_of_lt_of_le hd1 b2_.size; clear k0 k1; obtain ⟨k0, k1⟩ := SS2.out; clear b_ b2_)) | (go_at_call 113; ((with_reducible refine (l07Code_any pS aS S cS loS tpS ax x cx lox tpx w2 (HS.out.below HB2.out tS) (Nat.le_trans tS HB2.out.size) sS (Hx.out.below HB2.out tx) (Nat.le_trans tx HB2.out.size) sx).mono ?_); rintro e w3 ⟨rfl, b_⟩; rw [HC.out]; have SS3 := Lib.hid (ss2 b_ hd2 SS2.out); have HB3 := Lib.hid (below_step HB2.out HB2.out.size b_); have hd3 := Nat.lt_of_lt_of_le hd2 b_.size; clear k0 k1; obtain ⟨k0, k1⟩ := SS3.out; clear b_)) | (go_at_call 114; ((with_reducible refine (l04Even_any pS aS S cS ax x cx lox tpx w3 (isSp_iff.1 HI.out).prime (Hx.out.below HB3.out tx) (Nat.le_trans tx HB3.out.size) (mv_small HI.out HMX.out) (Mv.nums HMX.out)).mono ?_); rintro e w4 ⟨rfl, b_⟩; rw [show isEv x = parB x 0 from rfl, HPR.out]; have SS4 := Lib.hid (ss2 b_ hd3 SS3.out); have HB4 := Lib.hid (below_step HB3.out HB3.out.size b_); have hd4 := Nat.lt_of_lt_of_le hd3 b_.size; clear k0 k1; obtain ⟨k0, k1⟩ := SS4.out; clear b_)) | (go_at_call 115; ((with_reducible refine (l04Inv7 pS aS S cS ay y cy loy tpy w4 HI.out (Hy.out.below HB4.out ty) (Nat.le_trans ty HB4.out.size) HMY0.out).mono ?_); rintro e w5 ⟨ry, ky, rfl, o_, b_⟩; have SS5 := Lib.hid (ss2 b_ hd4 SS4.out); have HB5 := Lib.hid (below_step HB4.out HB4.out.size b_); have hd5 := Nat.lt_of_lt_of_le hd4 b_.size; have RY := Lib.hid (o_.mono (Nat.le_of_lt hd4) (Nat.le_refl _)); clear o_; clear k0 k1; obtain ⟨k0, k1⟩ := SS5.out; clear b_)))
        obtain ⟨Y, hY⟩ : ∃ Y, Y = ivM pS y := ⟨_, rfl⟩
        have HYL : Hid (Y.length = y.length) := by show _ = _; rw [hY]; exact ivM_len _ _
        have HYE : Hid (swM pS S x y = prodM pS S (prodM pS S x Y) (viM pS S x)) := by show _ = _; unfold swM; rw [if_neg (by rw [HPR.out]; decide), hY]
        have HMY : Hid (isMv pS S Y = true) := by show _ = _; rw [hY]; exact iv_mv HI.out HMY0.out
        have hse : Hid (w5.drew.cell? ⟨w.heap.size, 0, none⟩ = some (.int .i64 pS) ∧ w5.drew.cell? ⟨w.heap.size, 1, none⟩ = some (.slice aS S.length cS)) := SS5.out
        have HBE : Hid (Below w.heap.size w w5.drew) := HB5.out.drew
        have hde : w.heap.size < w5.drew.heap.size := hd5
        have RYD : Hid (RowIn w.heap.size w5.drew.heap.size w5.drew ry Y) := by show RowIn _ _ _ _ _; rw [hY]; exact RY.out
        have TY : w5.drew.heap.size ≤ w5.drew.heap.size := Nat.le_refl _
        clear hY k0 k1
        go_region_held3 (fun w' => w'.cell? ⟨w.heap.size, 0, none⟩ = some (.int .i64 pS) ∧ w'.cell? ⟨w.heap.size, 1, none⟩ = some (.slice aS S.length cS)) (first | exact hse.out | exact SSa.out | exact SSab.out | exact SSabc.out | go_keep) (first | (go_at_call 116; (with_reducible refine (l04Times_m pS aS S cS loS tpS ax x x.length cx lox tpx ry Y y.length ky w.heap.size w5.drew.heap.size w5.drew rfl HYL.out HI.out (HS.out.below HBE.out tS) (Nat.le_trans tS (HBE.out).size) (Hx.out.below HBE.out tx) (Nat.le_trans tx (HBE.out).size) HMX.out (RYD.out.below (Below.refl w5.drew.heap.size _) TY) (Nat.le_trans TY ((Below.refl w5.drew.heap.size _)).size) HMY.out).mono ?_); rintro e wa ⟨ra, ka, rfl, o_, b_⟩; have SSa := Lib.hid (ss2 b_ hde hse.out); have HBa := Lib.hid (below_step HBE.out (Nat.le_of_lt hde) b_); have zz_ := b_.size; have HCa := Lib.hid b_; have hda := Nat.lt_of_lt_of_le hde zz_; have Oa_a := Lib.hid (OwnR.mono' o_ (Nat.le_of_lt hde) (Nat.le_refl _)); have Ra_a := Lib.hid (Oa_a.out.row); clear b_ o_) | (go_at_call 117; (with_reducible refine (l07Inverse_any pS aS S cS loS tpS ax x cx lox tpx wa HI.out (HS.out.below HBa.out tS) (Nat.le_trans tS (HBa.out).size) (Hx.out.below HBa.out tx) (Nat.le_trans tx (HBa.out).size) HMX.out HF0.out).mono ?_); rintro e wab ⟨rb, kb, rfl, o_, b_⟩; have SSab := Lib.hid (ss2 b_ hda SSa.out); have HBab := Lib.hid (below_step HBa.out (Nat.le_of_lt hda) b_); have zz_ := b_.size; have HCab := Lib.hid (below_step HCa.out (HCa.out).size b_); have hdab := Nat.lt_of_lt_of_le hda zz_; have Ra_ab := Lib.hid ((Ra_a.out.below b_ (Nat.le_refl _)).mono (Nat.le_refl _) zz_); have Rb_ab := Lib.hid (o_.mono (Nat.le_of_lt hda) (Nat.le_refl _)); clear b_ o_) | (go_at_call 116; (with_reducible refine (l04Times_m pS aS S cS loS tpS ra (prodM pS S x Y) _ ka w.heap.size wab.heap.size rb (viM pS S x) x.length kb w.heap.size wab.heap.size wab rfl (viM_len _ _) HI.out (HS.out.below HBab.out tS) (Nat.le_trans tS (HBab.out).size) Ra_ab.out (Nat.le_refl _) (prod_mv HI.out _ _) Rb_ab.out (Nat.le_refl _) (vi_mv HI.out HMX.out)).mono ?_); rintro e wabc ⟨rc, kc, rfl, o_, b_⟩; have SSabc := Lib.hid (ss2 b_ hdab SSab.out); have HBabc := Lib.hid (below_step HBab.out (Nat.le_of_lt hdab) b_); have zz_ := b_.size; have HCabc := Lib.hid (below_step HCab.out (HCab.out).size b_); have hdabc := Nat.lt_of_lt_of_le hdab zz_; have Ra_abc := Lib.hid ((Ra_ab.out.below b_ (Nat.le_refl _)).mono (Nat.le_refl _) zz_); have Rb_abc := Lib.hid ((Rb_ab.out.below b_ (Nat.le_refl _)).mono (Nat.le_refl _) zz_); have Oc_abc := Lib.hid (OwnR.mono' o_ (Nat.le_of_lt hdab) (Nat.le_refl _)); have Rc_abc := Lib.hid (Oc_abc.out.row); clear b_ o_))
        all_goals
          go_wp2
          go_ret2
          rw [HVC.out.1, HVC.out.2, HYE.out]
          exact ⟨rc, kc, rfl, Rc_abc.out, HBabc.out⟩
    · have HVC : Hid (smV pS S x y = [] ∧ smC pS S x y = vrC pS S x) := by
        have e : smC pS S x y = vrC pS S x := (smC_ok hy0).1
        exact ⟨by unfold smV; rw [if_neg (by rw [e]; exact hc)], e⟩
      have HY0 := Lib.hid hy0
      clear hy0
      obtain ⟨C, hC⟩ : ∃ c, c = vrC pS S x := ⟨_, rfl⟩
      have hc1 : (C != 0) = true := by rw [hC]; simpa using hc
      have hc2 : (C == 0) = false := by rw [hC]; simpa using hc
      have HCE := Lib.hid hC
      clear hc hC
      go_enter Tryz.func30, Tryz.ntmps30
      go_upto_region 1 with fail
      obtain ⟨w1, hw1⟩ : ∃ z, z = w.alloc (.cells #[.int .i64 pS, .slice aS S.length cS] 26) := ⟨_, rfl⟩
      rw [← hw1] at HB0 k0 k1 ⊢
      have hd1 : w.heap.size < w1.heap.size := by rw [hw1]; simp
      have HB1 := HB0
      clear hw1
      have SS1 := Lib.hid (And.intro k0 k1)
      go_wp2_with (first | (go_at_call 112; ((with_reducible refine (codeM2 pS aS S cS loS tpS ax x cx lox tpx ay y cy loy tpy _ _ w1 _ rfl (HS.out.below HB1.out tS) (Nat.le_trans tS HB1.out.size) sS (Hx.out.below HB1.out tx) (Nat.le_trans tx HB1.out.size) sx (Hy.out.below HB1.out ty) (Nat.le_trans ty HB1.out.size) sy).mono ?_); rintro e w2 ⟨rfl, b_⟩; rw [HY0.out]; have b2_ := below_step (below_alloc w1 (.cells #[.slice ax x.length cx, .slice ay y.length cy] 24)) (size_alloc w1 (.cells #[.slice ax x.length cx, .slice ay y.length cy] 24)) b_; have SS2 := Lib.hid (ss2 b2_ hd1 SS1.out); have HB2 := Lib.hid (below_step HB1.out HB1.out.size b2_); have hd2 := Nat.lt_of_lt_of_le hd1 b2_.size; clear k0 k1; obtain ⟨k0, k1⟩ := SS2.out; clear b_ b2_)) | (go_at_call 113; ((with_reducible refine (l07Code_any pS aS S cS loS tpS ax x cx lox tpx w2 (HS.out.below HB2.out tS) (Nat.le_trans tS HB2.out.size) sS (Hx.out.below HB2.out tx) (Nat.le_trans tx HB2.out.size) sx).mono ?_); rintro e w3 ⟨rfl, b_⟩; rw [← HCE.out]; have SS3 := Lib.hid (ss2 b_ hd2 SS2.out); have HB3 := Lib.hid (below_step HB2.out HB2.out.size b_); have hd3 := Nat.lt_of_lt_of_le hd2 b_.size; clear k0 k1; obtain ⟨k0, k1⟩ := SS3.out; clear b_)))
      go_ret2
      rw [HVC.out.1, HVC.out.2, ← HCE.out]
      exact ⟨none, 0, rfl, .inl rfl, HB3.out⟩
  · have HVC : Hid (smV pS S x y = [] ∧ smC pS S x y = codeMv pS S [x, y]) := by
      have e : smC pS S x y = codeMv pS S [x, y] := smC_xy hy0
      exact ⟨by unfold smV; rw [if_neg (by rw [e]; exact hy0)], e⟩
    obtain ⟨C, hC⟩ : ∃ c, c = codeMv pS S [x, y] := ⟨_, rfl⟩
    have hc1 : (C != 0) = true := by rw [hC]; simpa using hy0
    have hc2 : (C == 0) = false := by rw [hC]; simpa using hy0
    have HCE := Lib.hid hC
    clear hy0 hC
    go_enter Tryz.func30, Tryz.ntmps30
    go_upto_region 1 with fail
    obtain ⟨w1, hw1⟩ : ∃ z, z = w.alloc (.cells #[.int .i64 pS, .slice aS S.length cS] 26) := ⟨_, rfl⟩
    rw [← hw1] at HB0 k0 k1 ⊢
    have hd1 : w.heap.size < w1.heap.size := by rw [hw1]; simp
    have HB1 := HB0
    clear hw1
    have SS1 := Lib.hid (And.intro k0 k1)
    go_wp2_with (go_at_call 112; ((with_reducible refine (codeM2 pS aS S cS loS tpS ax x cx lox tpx ay y cy loy tpy _ _ w1 _ rfl (HS.out.below HB1.out tS) (Nat.le_trans tS HB1.out.size) sS (Hx.out.below HB1.out tx) (Nat.le_trans tx HB1.out.size) sx (Hy.out.below HB1.out ty) (Nat.le_trans ty HB1.out.size) sy).mono ?_); rintro e w2 ⟨rfl, b_⟩; rw [← HCE.out]; have b2_ := below_step (below_alloc w1 (.cells #[.slice ax x.length cx, .slice ay y.length cy] 24)) (size_alloc w1 (.cells #[.slice ax x.length cx, .slice ay y.length cy] 24)) b_; have SS2 := Lib.hid (ss2 b2_ hd1 SS1.out); have HB2 := Lib.hid (below_step HB1.out HB1.out.size b2_); have hd2 := Nat.lt_of_lt_of_le hd1 b2_.size; clear k0 k1; obtain ⟨k0, k1⟩ := SS2.out; clear b_ b2_))
    go_ret2
    rw [HVC.out.1, HVC.out.2, ← HCE.out]
    exact ⟨none, 0, rfl, .inl rfl, HB2.out⟩

end Go.Proofs.YtgfanoejohpmkaaGreat
