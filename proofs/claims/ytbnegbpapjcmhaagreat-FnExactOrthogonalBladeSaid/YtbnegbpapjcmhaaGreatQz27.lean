/-
  SubspaceOf, FactorOf, BladeSquare, BladeContains, OrthogonalBlade, IsBlade, BladeOfVectors (program): contracts of the program and of the model.
  Conditions: the lists are nil or rows of known cells, of at most 1048576 numbers.
-/
import Derived.Test.YtbnegbpapjcmhaaGreatQz25
import Derived.Test.YtbnegbpapjcmhaaGreatQz26
import Derived.Test.YtbnegbpapjcmhaaGreatQz12
import Derived.Deep.RegionHeld3
import Derived.Deep.DeepCutAuto
namespace Go.Proofs.YtbnegbpapjcmhaaGreat
open Go.RowKit
set_option linter.unusedVariables false

theorem codeB_one {p : Int} {S x : List Int} (h : codeB p S [x] = 0) : isSp p S = true ∧ isMv p S x = true ∧ isBl p S x = true := by
  rcases codeB_cases p S [x] with ⟨_, _, h2⟩ | ⟨_, _, h2⟩ | ⟨_, _, _, _, h2⟩ | ⟨h0, h1, _, h3, _⟩
  · rw [h] at h2; cases h2
  · rw [h] at h2; cases h2
  · rw [h] at h2; cases h2
  · rw [mv_all1] at h1
    exact ⟨h0, h1, h3 0 (by show 0 < 1; omega)⟩
theorem codeBV_zero {p : Int} {S x v : List Int} (h : codeBV p S x v = 0) : codeVs p S [v] = 0 ∧ codeB p S [x] = 0 := by
  unfold codeBV at h
  by_cases h0 : codeVs p S [v] = 0
  · rw [if_pos h0] at h; exact ⟨h0, h⟩
  · rw [if_neg h0] at h; exact absurd h h0
theorem codeVs_vec {p : Int} {S v : List Int} (h : codeVs p S [v] = 0) : isVec p S.length v = true := by
  unfold codeVs at h
  by_cases h0 : isSp p S = true
  · rw [if_pos h0] at h
    by_cases h1 : [v].all (isVec p S.length) = true
    · rw [mv_all1] at h1; exact h1
    · rw [if_neg h1] at h; cases h
  · rw [if_neg h0] at h; cases h
noncomputable def subV (p : Int) (S x : List Int) : List (List Int) := if codeB p S [x] = 0 then subM p S x else []
noncomputable def facV (p : Int) (S x : List Int) : Int := if codeB p S [x] = 0 then facM p S x else 0
noncomputable def sqB (p : Int) (S x : List Int) : Int := if codeB p S [x] = 0 then prodF p S x x 0 else 0
noncomputable def hasV (p : Int) (S x v : List Int) : Bool := if codeBV p S x v = 0 then allZ (wgM p S (vecM S v) x) else false
noncomputable def ortC (p : Int) (S x : List Int) : List Int := if codeB p S [x] = 0 then wvM p S (ortB p S (subM p S x)) (ortB p S (subM p S x)).length else []
theorem subV_size (p : Int) (S x : List Int) : (subV p S x).length + tot (subV p S x) (subV p S x).length ≤ 1048576 := by
  unfold subV
  split
  · rename_i h
    have hs := (codeB_one h).1
    have h6 := (isSp_iff.1 hs).hi
    have hl := sub_le (x := x) hs
    have key : ∀ k, k ≤ (subM p S x).length → tot (subM p S x) k ≤ k * 6 := fun k => by
      induction k with
      | zero => intro _; exact Nat.le_refl _
      | succ k ih =>
        intro hk
        have := ih (by omega)
        have e := (sub_is (x := x) hs).len k (by omega)
        show tot (subM p S x) k + (rw' (subM p S x) k).length ≤ _
        omega
    have := key _ (Nat.le_refl _)
    omega
  · simp [tot]
theorem ortC_size (p : Int) (S x : List Int) : (ortC p S x).length ≤ 1048576 := by
  unfold ortC
  split
  · rename_i h
    have := bl_le (isSp_iff.1 (codeB_one h).1).hi
    rw [wvM_len]; omega
  · simp
theorem ort_list {p : Int} {S x : List Int} (hs : isSp p S = true) : listB p S (ortB p S (subM p S x)) = true := by
  have hl := sub_list (x := x) hs
  rw [← ort_ker hs]
  have hw := ort_wide hs hl
  have hc : (rw' (zrow S.length :: ortM p S (subM p S x)) 0).length = S.length := zrow_len _
  have hk := ker_is (A := zrow S.length :: ortM p S (subM p S x)) (isSp_iff.1 hs).prime
  rw [hc] at hk
  have hP := hk.pivs
  have hle := hP.rows_le
  have h6 := (isSp_iff.1 hs).hi
  unfold listB
  rw [Bool.and_eq_true, decide_eq_true_eq]
  refine ⟨List.all_eq_true.2 fun z hz => ?_, by omega⟩
  obtain ⟨i, hi, rfl⟩ := List.getElem_of_mem hz
  have e : rw' (kerB p (zrow S.length :: ortM p S (subM p S x))) i = (kerB p (zrow S.length :: ortM p S (subM p S x)))[i] := by unfold rw'; simp [List.getD, hi]
  rw [← e]
  refine isVec_iff.2 ⟨hk.len i hi, ?_⟩
  rw [List.all_eq_true]
  intro y hy
  obtain ⟨j, hj, rfl⟩ := List.getElem_of_mem hy
  have h2 := hP.rng i hi j (by rw [← hk.len i hi]; exact hj)
  unfold at' at h2
  rw [getD_at hj] at h2
  exact inr_iff.2 h2
theorem checkBV_y (pS : Int) (aS : Option Addr) (S : List Int) (cS loS tpS : Nat) (ax : Option Addr) (x : List Int) (cx lox tpx : Nat) (av : Option Addr) (v : List Int) (cv lov tpv : Nat) (w : World) (hS : RowIn loS tpS w aS S) (tS : tpS ≤ w.heap.size) (sS : S.length ≤ 1048576) (hx : RowIn lox tpx w ax x) (tx : tpx ≤ w.heap.size) (sx : x.length ≤ 1048576) (hv : RowIn lov tpv w av v) (tv : tpv ≤ w.heap.size) (sv : v.length ≤ 1048576) (hc : codeBV pS S x v = 0) :
    Calls Tryz.prog 57 #[.agg #[.int .i64 pS, .slice aS S.length cS], .slice ax x.length cx, .slice av v.length cv] w fun e w' => ∃ (r : Option Addr) (k : Nat), e = .returned (.tuple #[.agg #[.int .i64 pS, .slice aS S.length cS, .slice ax x.length cx, .slice r (subM pS S x).length k, .int .i64 (facM pS S x)], .int .i64 0]) ∧ OwnM w.heap.size w'.heap.size w' r (subM pS S x) ∧ Below w.heap.size w w' :=
  (checkBladeAndVector_any pS aS S cS loS tpS ax x cx lox tpx av v cv lov tpv w hS tS sS hx tx sx hv tv sv).mono fun _ _ h => by
    rcases h with ⟨_, h⟩ | ⟨h, _⟩
    · exact h
    · exact absurd hc h
theorem checkBV_n (pS : Int) (aS : Option Addr) (S : List Int) (cS loS tpS : Nat) (ax : Option Addr) (x : List Int) (cx lox tpx : Nat) (av : Option Addr) (v : List Int) (cv lov tpv : Nat) (w : World) (hS : RowIn loS tpS w aS S) (tS : tpS ≤ w.heap.size) (sS : S.length ≤ 1048576) (hx : RowIn lox tpx w ax x) (tx : tpx ≤ w.heap.size) (sx : x.length ≤ 1048576) (hv : RowIn lov tpv w av v) (tv : tpv ≤ w.heap.size) (sv : v.length ≤ 1048576) (hc : codeBV pS S x v ≠ 0) :
    Calls Tryz.prog 57 #[.agg #[.int .i64 pS, .slice aS S.length cS], .slice ax x.length cx, .slice av v.length cv] w fun e w' => e = .returned (.tuple #[.agg #[.int .i64 0, .slice none 0 0, .slice none 0 0, .slice none 0 0, .int .i64 0], .int .i64 (codeBV pS S x v)]) ∧ Below w.heap.size w w' :=
  (checkBladeAndVector_any pS aS S cS loS tpS ax x cx lox tpx av v cv lov tpv w hS tS sS hx tx sx hv tv sv).mono fun _ _ h => by
    rcases h with ⟨h, _⟩ | ⟨_, h⟩
    · exact absurd h hc
    · exact h

set_option maxRecDepth 100000 in
set_option maxHeartbeats 3200000 in
theorem impl_SubspaceOf (pS : Int) (aS : Option Addr) (S : List Int) (cS loS tpS : Nat) (ax : Option Addr) (x : List Int) (cx lox tpx : Nat) (w : World) (hS : RowIn loS tpS w aS S) (tS : tpS ≤ w.heap.size) (sS : S.length ≤ 1048576) (hx : RowIn lox tpx w ax x) (tx : tpx ≤ w.heap.size) (sx : x.length ≤ 1048576) :
    Calls Tryz.prog 18 #[.agg #[.int .i64 pS, .slice aS S.length cS], .slice ax x.length cx] w (ImplM (subV pS S x) (codeB pS S [x]) w) := by
  have HS := Lib.hid hS
  have Hx := Lib.hid hx
  have HB0 := Lib.hid (below_alloc w (.cells #[.int .i64 pS, .slice aS S.length cS] 29))
  have k0 := nw0 w (.int .i64 pS) (.slice aS S.length cS) 29
  have k1 := nw1 w (.int .i64 pS) (.slice aS S.length cS) 29
  clear hS hx
  by_cases hc : codeB pS S [x] = 0
  · have HC := Lib.hid hc
    have hb := codeB_one hc
    have HI := Lib.hid hb.1
    have HMX := Lib.hid hb.2.1
    have HV : Hid (subV pS S x = subM pS S x) := by show _ = _; unfold subV; rw [if_pos hc]
    clear hc hb
    go_enter Tryz.func18, Tryz.ntmps18
    obtain ⟨F, hF⟩ : ∃ f, f = facM pS S x := ⟨_, rfl⟩
    have HF := Lib.hid hF
    clear hF
    go_upto_region 2 with (go_at_call 50; ((with_reducible refine (checkBlade_y pS aS S cS loS tpS ax x cx lox tpx _ (HS.out.below HB0.out tS) (Nat.le_trans tS HB0.out.size) sS (Hx.out.below HB0.out tx) (Nat.le_trans tx HB0.out.size) sx HC.out).mono ?_); rintro e w2 ⟨r0, k0_, rfl, oo_, b_⟩; rw [← HF.out]; have OO := Lib.hid oo_; have HB2 := Lib.hid (below_step HB0.out HB0.out.size b_); have k0' := (b_.cell (p := ⟨w.heap.size, 0, none⟩) (lt_alloc w (.cells #[.int .i64 pS, .slice aS S.length cS] 29))).trans k0; have k1' := (b_.cell (p := ⟨w.heap.size, 1, none⟩) (lt_alloc w (.cells #[.int .i64 pS, .slice aS S.length cS] 29))).trans k1; have hd2 := Nat.lt_of_lt_of_le (lt_alloc w (.cells #[.int .i64 pS, .slice aS S.length cS] 29)) b_.size; clear oo_ b_ k0 k1))
    obtain ⟨w3, hw3⟩ : ∃ z, z = w2.alloc (.cells #[.int .i64 pS, .slice aS S.length cS, .slice ax x.length cx, .slice r0 (subM pS S x).length k0_, .int .i64 F] 52) := ⟨_, rfl⟩
    obtain ⟨gB, hgB⟩ : ∃ b, b = w2.heap.size := ⟨_, rfl⟩
    have hzz : Z5 gB (.int .i64 pS) (.slice aS S.length cS) (.slice ax x.length cx) (.slice r0 (subM pS S x).length k0_) (.int .i64 F) w3 := by rw [hw3, hgB]; exact Z5.new _ _ _ _ _ _ _
    have HB3 : Hid (Below w.heap.size w w3) := by show Below _ _ _; rw [hw3]; exact HB2.out.alloc HB2.out.size _
    have OO3 : Hid (OwnM w.heap.size w3.heap.size w3 r0 (subM pS S x)) := by show OwnM _ _ _ _ _; rw [hw3]; exact (OO.out.below (below_alloc w2 _) (Nat.le_refl _)).mono (Nat.le_of_lt (lt_alloc w (.cells #[.int .i64 pS, .slice aS S.length cS] 29))) (size_alloc w2 _)
    have k03 : w3.cell? ⟨w.heap.size, 0, none⟩ = some (.int .i64 pS) := by rw [hw3]; exact (World.cell?_alloc_old _ _ _ (show w.heap.size ≠ w2.heap.size by omega)).trans k0'
    have k13 : w3.cell? ⟨w.heap.size, 1, none⟩ = some (.slice aS S.length cS) := by rw [hw3]; exact (World.cell?_alloc_old _ _ _ (show w.heap.size ≠ w2.heap.size by omega)).trans k1'
    have hd3 : w.heap.size < w3.heap.size := by rw [hw3]; simp; omega
    have hgB3 : gB < w3.heap.size := by rw [hw3, hgB]; simp
    rw [← hw3, ← hgB]
    clear hw3 hgB k0' k1'
    obtain ⟨⟨z0, z1, z2, z3, z4⟩, _⟩ := hzz
    go_wp2
    go_ret2
    rw [HV.out, HC.out]
    exact ⟨r0, k0_, rfl, OO3.out, HB3.out⟩
  · have HC := Lib.hid hc
    have HV : Hid (subV pS S x = []) := by show _ = _; unfold subV; rw [if_neg hc]
    clear hc
    obtain ⟨C, hC⟩ : ∃ c, c = codeB pS S [x] := ⟨_, rfl⟩
    have hc1 : (C != 0) = true := by rw [hC]; simpa using HC.out
    have HCE := Lib.hid hC
    clear hC
    go_enter Tryz.func18, Tryz.ntmps18
    go_wp2_with (go_at_call 50; ((with_reducible refine (checkBlade_n pS aS S cS loS tpS ax x cx lox tpx _ (HS.out.below HB0.out tS) (Nat.le_trans tS HB0.out.size) sS (Hx.out.below HB0.out tx) (Nat.le_trans tx HB0.out.size) sx HC.out).mono ?_); rintro e w2 ⟨rfl, b_⟩; rw [← HCE.out]; have HB2 := Lib.hid (below_step HB0.out HB0.out.size b_); clear b_ k0 k1))
    go_ret2
    rw [HV.out, ← HCE.out]
    exact ⟨none, 0, rfl, .inl rfl, HB2.out.alloc HB2.out.size _⟩

set_option maxRecDepth 100000 in
set_option maxHeartbeats 3200000 in
theorem impl_FactorOf (pS : Int) (aS : Option Addr) (S : List Int) (cS loS tpS : Nat) (ax : Option Addr) (x : List Int) (cx lox tpx : Nat) (w : World) (hS : RowIn loS tpS w aS S) (tS : tpS ≤ w.heap.size) (sS : S.length ≤ 1048576) (hx : RowIn lox tpx w ax x) (tx : tpx ≤ w.heap.size) (sx : x.length ≤ 1048576) :
    Calls Tryz.prog 27 #[.agg #[.int .i64 pS, .slice aS S.length cS], .slice ax x.length cx] w (RetI (facV pS S x) (codeB pS S [x]) w) := by
  have HS := Lib.hid hS
  have Hx := Lib.hid hx
  have HB0 := Lib.hid (below_alloc w (.cells #[.int .i64 pS, .slice aS S.length cS] 29))
  have k0 := nw0 w (.int .i64 pS) (.slice aS S.length cS) 29
  have k1 := nw1 w (.int .i64 pS) (.slice aS S.length cS) 29
  clear hS hx
  by_cases hc : codeB pS S [x] = 0
  · have HC := Lib.hid hc
    have hb := codeB_one hc
    have HI := Lib.hid hb.1
    have HMX := Lib.hid hb.2.1
    have HV : Hid (facV pS S x = facM pS S x) := by show _ = _; unfold facV; rw [if_pos hc]
    clear hc hb
    go_enter Tryz.func27, Tryz.ntmps27
    obtain ⟨F, hF⟩ : ∃ f, f = facM pS S x := ⟨_, rfl⟩
    have HF := Lib.hid hF
    clear hF
    go_upto_region 2 with (go_at_call 50; ((with_reducible refine (checkBlade_y pS aS S cS loS tpS ax x cx lox tpx _ (HS.out.below HB0.out tS) (Nat.le_trans tS HB0.out.size) sS (Hx.out.below HB0.out tx) (Nat.le_trans tx HB0.out.size) sx HC.out).mono ?_); rintro e w2 ⟨r0, k0_, rfl, oo_, b_⟩; rw [← HF.out]; have OO := Lib.hid oo_; have HB2 := Lib.hid (below_step HB0.out HB0.out.size b_); have k0' := (b_.cell (p := ⟨w.heap.size, 0, none⟩) (lt_alloc w (.cells #[.int .i64 pS, .slice aS S.length cS] 29))).trans k0; have k1' := (b_.cell (p := ⟨w.heap.size, 1, none⟩) (lt_alloc w (.cells #[.int .i64 pS, .slice aS S.length cS] 29))).trans k1; have hd2 := Nat.lt_of_lt_of_le (lt_alloc w (.cells #[.int .i64 pS, .slice aS S.length cS] 29)) b_.size; clear oo_ b_ k0 k1))
    obtain ⟨w3, hw3⟩ : ∃ z, z = w2.alloc (.cells #[.int .i64 pS, .slice aS S.length cS, .slice ax x.length cx, .slice r0 (subM pS S x).length k0_, .int .i64 F] 52) := ⟨_, rfl⟩
    obtain ⟨gB, hgB⟩ : ∃ b, b = w2.heap.size := ⟨_, rfl⟩
    have hzz : Z5 gB (.int .i64 pS) (.slice aS S.length cS) (.slice ax x.length cx) (.slice r0 (subM pS S x).length k0_) (.int .i64 F) w3 := by rw [hw3, hgB]; exact Z5.new _ _ _ _ _ _ _
    have HB3 : Hid (Below w.heap.size w w3) := by show Below _ _ _; rw [hw3]; exact HB2.out.alloc HB2.out.size _
    have OO3 : Hid (OwnM w.heap.size w3.heap.size w3 r0 (subM pS S x)) := by show OwnM _ _ _ _ _; rw [hw3]; exact (OO.out.below (below_alloc w2 _) (Nat.le_refl _)).mono (Nat.le_of_lt (lt_alloc w (.cells #[.int .i64 pS, .slice aS S.length cS] 29))) (size_alloc w2 _)
    have k03 : w3.cell? ⟨w.heap.size, 0, none⟩ = some (.int .i64 pS) := by rw [hw3]; exact (World.cell?_alloc_old _ _ _ (show w.heap.size ≠ w2.heap.size by omega)).trans k0'
    have k13 : w3.cell? ⟨w.heap.size, 1, none⟩ = some (.slice aS S.length cS) := by rw [hw3]; exact (World.cell?_alloc_old _ _ _ (show w.heap.size ≠ w2.heap.size by omega)).trans k1'
    have hd3 : w.heap.size < w3.heap.size := by rw [hw3]; simp; omega
    have hgB3 : gB < w3.heap.size := by rw [hw3, hgB]; simp
    rw [← hw3, ← hgB]
    clear hw3 hgB k0' k1'
    obtain ⟨⟨z0, z1, z2, z3, z4⟩, _⟩ := hzz
    go_wp2
    go_ret2
    exact ⟨by rw [HV.out, HC.out, HF.out]; rfl, HB3.out⟩
  · have HC := Lib.hid hc
    have HV : Hid (facV pS S x = 0) := by show _ = _; unfold facV; rw [if_neg hc]
    clear hc
    obtain ⟨C, hC⟩ : ∃ c, c = codeB pS S [x] := ⟨_, rfl⟩
    have hc1 : (C != 0) = true := by rw [hC]; simpa using HC.out
    have HCE := Lib.hid hC
    clear hC
    go_enter Tryz.func27, Tryz.ntmps27
    go_wp2_with (go_at_call 50; ((with_reducible refine (checkBlade_n pS aS S cS loS tpS ax x cx lox tpx _ (HS.out.below HB0.out tS) (Nat.le_trans tS HB0.out.size) sS (Hx.out.below HB0.out tx) (Nat.le_trans tx HB0.out.size) sx HC.out).mono ?_); rintro e w2 ⟨rfl, b_⟩; rw [← HCE.out]; have HB2 := Lib.hid (below_step HB0.out HB0.out.size b_); clear b_ k0 k1))
    go_ret2
    exact ⟨by rw [HV.out, ← HCE.out]; rfl, HB2.out.alloc HB2.out.size _⟩

set_option maxRecDepth 100000 in
set_option maxHeartbeats 3200000 in
theorem impl_BladeSquare (pS : Int) (aS : Option Addr) (S : List Int) (cS loS tpS : Nat) (ax : Option Addr) (x : List Int) (cx lox tpx : Nat) (w : World) (hS : RowIn loS tpS w aS S) (tS : tpS ≤ w.heap.size) (sS : S.length ≤ 1048576) (hx : RowIn lox tpx w ax x) (tx : tpx ≤ w.heap.size) (sx : x.length ≤ 1048576) :
    Calls Tryz.prog 38 #[.agg #[.int .i64 pS, .slice aS S.length cS], .slice ax x.length cx] w (RetI (sqB pS S x) (codeB pS S [x]) w) := by
  have HS := Lib.hid hS
  have Hx := Lib.hid hx
  have HB0 := Lib.hid (below_alloc w (.cells #[.int .i64 pS, .slice aS S.length cS] 29))
  have k0 := nw0 w (.int .i64 pS) (.slice aS S.length cS) 29
  have k1 := nw1 w (.int .i64 pS) (.slice aS S.length cS) 29
  clear hS hx
  by_cases hc : codeB pS S [x] = 0
  · have HC := Lib.hid hc
    have hb := codeB_one hc
    have HI := Lib.hid hb.1
    have HMX := Lib.hid hb.2.1
    have HV : Hid (sqB pS S x = prodF pS S x x 0) := by show _ = _; unfold sqB; rw [if_pos hc]
    clear hc hb
    go_enter Tryz.func38, Tryz.ntmps38
    obtain ⟨F, hF⟩ : ∃ f, f = facM pS S x := ⟨_, rfl⟩
    have HF := Lib.hid hF
    clear hF
    go_upto_region 2 with (go_at_call 50; ((with_reducible refine (checkBlade_y pS aS S cS loS tpS ax x cx lox tpx _ (HS.out.below HB0.out tS) (Nat.le_trans tS HB0.out.size) sS (Hx.out.below HB0.out tx) (Nat.le_trans tx HB0.out.size) sx HC.out).mono ?_); rintro e w2 ⟨r0, k0_, rfl, oo_, b_⟩; rw [← HF.out]; have OO := Lib.hid oo_; have HB2 := Lib.hid (below_step HB0.out HB0.out.size b_); have k0' := (b_.cell (p := ⟨w.heap.size, 0, none⟩) (lt_alloc w (.cells #[.int .i64 pS, .slice aS S.length cS] 29))).trans k0; have k1' := (b_.cell (p := ⟨w.heap.size, 1, none⟩) (lt_alloc w (.cells #[.int .i64 pS, .slice aS S.length cS] 29))).trans k1; have hd2 := Nat.lt_of_lt_of_le (lt_alloc w (.cells #[.int .i64 pS, .slice aS S.length cS] 29)) b_.size; clear oo_ b_ k0 k1))
    obtain ⟨w3, hw3⟩ : ∃ z, z = w2.alloc (.cells #[.int .i64 pS, .slice aS S.length cS, .slice ax x.length cx, .slice r0 (subM pS S x).length k0_, .int .i64 F] 52) := ⟨_, rfl⟩
    obtain ⟨gB, hgB⟩ : ∃ b, b = w2.heap.size := ⟨_, rfl⟩
    have hzz : Z5 gB (.int .i64 pS) (.slice aS S.length cS) (.slice ax x.length cx) (.slice r0 (subM pS S x).length k0_) (.int .i64 F) w3 := by rw [hw3, hgB]; exact Z5.new _ _ _ _ _ _ _
    have HB3 : Hid (Below w.heap.size w w3) := by show Below _ _ _; rw [hw3]; exact HB2.out.alloc HB2.out.size _
    have OO3 : Hid (OwnM w.heap.size w3.heap.size w3 r0 (subM pS S x)) := by show OwnM _ _ _ _ _; rw [hw3]; exact (OO.out.below (below_alloc w2 _) (Nat.le_refl _)).mono (Nat.le_of_lt (lt_alloc w (.cells #[.int .i64 pS, .slice aS S.length cS] 29))) (size_alloc w2 _)
    have k03 : w3.cell? ⟨w.heap.size, 0, none⟩ = some (.int .i64 pS) := by rw [hw3]; exact (World.cell?_alloc_old _ _ _ (show w.heap.size ≠ w2.heap.size by omega)).trans k0'
    have k13 : w3.cell? ⟨w.heap.size, 1, none⟩ = some (.slice aS S.length cS) := by rw [hw3]; exact (World.cell?_alloc_old _ _ _ (show w.heap.size ≠ w2.heap.size by omega)).trans k1'
    have hd3 : w.heap.size < w3.heap.size := by rw [hw3]; simp; omega
    have hgB3 : gB < w3.heap.size := by rw [hw3, hgB]; simp
    rw [← hw3, ← hgB]
    clear hw3 hgB k0' k1'
    obtain ⟨⟨z0, z1, z2, z3, z4⟩, _⟩ := hzz
    have hfv := field_value
    go_wp2_with (go_at_call 69; ((with_reducible refine (squareX_any pS aS S cS loS tpS ax x cx lox tpx w3 HI.out (HS.out.below HB3.out tS) (Nat.le_trans tS HB3.out.size) (Hx.out.below HB3.out tx) (Nat.le_trans tx HB3.out.size) HMX.out).mono ?_); rintro e w4 ⟨rfl, b_⟩; have B4 := Lib.hid (below_step HB3.out HB3.out.size b_); clear b_))
    go_ret2
    exact ⟨by rw [HV.out, HC.out]; rfl, B4.out⟩
  · have HC := Lib.hid hc
    have HV : Hid (sqB pS S x = 0) := by show _ = _; unfold sqB; rw [if_neg hc]
    clear hc
    obtain ⟨C, hC⟩ : ∃ c, c = codeB pS S [x] := ⟨_, rfl⟩
    have hc1 : (C != 0) = true := by rw [hC]; simpa using HC.out
    have HCE := Lib.hid hC
    clear hC
    go_enter Tryz.func38, Tryz.ntmps38
    go_wp2_with (go_at_call 50; ((with_reducible refine (checkBlade_n pS aS S cS loS tpS ax x cx lox tpx _ (HS.out.below HB0.out tS) (Nat.le_trans tS HB0.out.size) sS (Hx.out.below HB0.out tx) (Nat.le_trans tx HB0.out.size) sx HC.out).mono ?_); rintro e w2 ⟨rfl, b_⟩; rw [← HCE.out]; have HB2 := Lib.hid (below_step HB0.out HB0.out.size b_); clear b_ k0 k1))
    go_ret2
    exact ⟨by rw [HV.out, ← HCE.out]; rfl, HB2.out.alloc HB2.out.size _⟩

set_option maxRecDepth 100000 in
set_option maxHeartbeats 3200000 in
theorem impl_BladeContains (pS : Int) (aS : Option Addr) (S : List Int) (cS loS tpS : Nat) (ax : Option Addr) (x : List Int) (cx lox tpx : Nat) (av : Option Addr) (v : List Int) (cv lov tpv : Nat) (w : World) (hS : RowIn loS tpS w aS S) (tS : tpS ≤ w.heap.size) (sS : S.length ≤ 1048576) (hx : RowIn lox tpx w ax x) (tx : tpx ≤ w.heap.size) (sx : x.length ≤ 1048576) (hv : RowIn lov tpv w av v) (tv : tpv ≤ w.heap.size) (sv : v.length ≤ 1048576) :
    Calls Tryz.prog 29 #[.agg #[.int .i64 pS, .slice aS S.length cS], .slice ax x.length cx, .slice av v.length cv] w (RetB (hasV pS S x v) (codeBV pS S x v) w) := by
  have HS := Lib.hid hS
  have Hx := Lib.hid hx
  have Hv := Lib.hid hv
  have HB0 := Lib.hid (below_alloc w (.cells #[.int .i64 pS, .slice aS S.length cS] 29))
  have k0 := nw0 w (.int .i64 pS) (.slice aS S.length cS) 29
  have k1 := nw1 w (.int .i64 pS) (.slice aS S.length cS) 29
  clear hS hx hv
  by_cases hc : codeBV pS S x v = 0
  · have HC := Lib.hid hc
    have hb := codeB_one (codeBV_zero hc).2
    have HI := Lib.hid hb.1
    have HMX := Lib.hid hb.2.1
    have HV : Hid (hasV pS S x v = allZ (wgM pS S (vecM S v) x)) := by show _ = _; unfold hasV; rw [if_pos hc]
    have HMV := Lib.hid (codeVs_vec (codeBV_zero hc).1)
    clear hc hb
    go_enter Tryz.func29, Tryz.ntmps29
    obtain ⟨F, hF⟩ : ∃ f, f = facM pS S x := ⟨_, rfl⟩
    have HF := Lib.hid hF
    clear hF
    go_upto_region 2 with (go_at_call 57; ((with_reducible refine (checkBV_y pS aS S cS loS tpS ax x cx lox tpx av v cv lov tpv _ (HS.out.below HB0.out tS) (Nat.le_trans tS HB0.out.size) sS (Hx.out.below HB0.out tx) (Nat.le_trans tx HB0.out.size) sx (Hv.out.below HB0.out tv) (Nat.le_trans tv HB0.out.size) sv HC.out).mono ?_); rintro e w2 ⟨r0, k0_, rfl, oo_, b_⟩; rw [← HF.out]; have OO := Lib.hid oo_; have HB2 := Lib.hid (below_step HB0.out HB0.out.size b_); have k0' := (b_.cell (p := ⟨w.heap.size, 0, none⟩) (lt_alloc w (.cells #[.int .i64 pS, .slice aS S.length cS] 29))).trans k0; have k1' := (b_.cell (p := ⟨w.heap.size, 1, none⟩) (lt_alloc w (.cells #[.int .i64 pS, .slice aS S.length cS] 29))).trans k1; have hd2 := Nat.lt_of_lt_of_le (lt_alloc w (.cells #[.int .i64 pS, .slice aS S.length cS] 29)) b_.size; clear oo_ b_ k0 k1))
    obtain ⟨w3, hw3⟩ : ∃ z, z = w2.alloc (.cells #[.int .i64 pS, .slice aS S.length cS, .slice ax x.length cx, .slice r0 (subM pS S x).length k0_, .int .i64 F] 52) := ⟨_, rfl⟩
    obtain ⟨gB, hgB⟩ : ∃ b, b = w2.heap.size := ⟨_, rfl⟩
    have hzz : Z5 gB (.int .i64 pS) (.slice aS S.length cS) (.slice ax x.length cx) (.slice r0 (subM pS S x).length k0_) (.int .i64 F) w3 := by rw [hw3, hgB]; exact Z5.new _ _ _ _ _ _ _
    have HB3 : Hid (Below w.heap.size w w3) := by show Below _ _ _; rw [hw3]; exact HB2.out.alloc HB2.out.size _
    have OO3 : Hid (OwnM w.heap.size w3.heap.size w3 r0 (subM pS S x)) := by show OwnM _ _ _ _ _; rw [hw3]; exact (OO.out.below (below_alloc w2 _) (Nat.le_refl _)).mono (Nat.le_of_lt (lt_alloc w (.cells #[.int .i64 pS, .slice aS S.length cS] 29))) (size_alloc w2 _)
    have k03 : w3.cell? ⟨w.heap.size, 0, none⟩ = some (.int .i64 pS) := by rw [hw3]; exact (World.cell?_alloc_old _ _ _ (show w.heap.size ≠ w2.heap.size by omega)).trans k0'
    have k13 : w3.cell? ⟨w.heap.size, 1, none⟩ = some (.slice aS S.length cS) := by rw [hw3]; exact (World.cell?_alloc_old _ _ _ (show w.heap.size ≠ w2.heap.size by omega)).trans k1'
    have hd3 : w.heap.size < w3.heap.size := by rw [hw3]; simp; omega
    have hgB3 : gB < w3.heap.size := by rw [hw3, hgB]; simp
    rw [← hw3, ← hgB]
    clear hw3 hgB k0' k1'
    obtain ⟨⟨z0, z1, z2, z3, z4⟩, _⟩ := hzz
    go_wp2_with (go_at_call 58; ((with_reducible refine (annihilates_any pS aS S cS loS tpS ax x cx lox tpx av v cv lov tpv w3 HI.out (HS.out.below HB3.out tS) (Nat.le_trans tS HB3.out.size) (Hx.out.below HB3.out tx) (Nat.le_trans tx HB3.out.size) HMX.out (Hv.out.below HB3.out tv) (Nat.le_trans tv HB3.out.size) HMV.out).mono ?_); rintro e w4 ⟨rfl, b_⟩; have B4 := Lib.hid (below_step HB3.out HB3.out.size b_); clear b_))
    go_ret2
    exact ⟨by rw [HV.out, HC.out]; rfl, B4.out⟩
  · have HC := Lib.hid hc
    have HV : Hid (hasV pS S x v = false) := by show _ = _; unfold hasV; rw [if_neg hc]
    clear hc
    obtain ⟨C, hC⟩ : ∃ c, c = codeBV pS S x v := ⟨_, rfl⟩
    have hc1 : (C != 0) = true := by rw [hC]; simpa using HC.out
    have HCE := Lib.hid hC
    clear hC
    go_enter Tryz.func29, Tryz.ntmps29
    go_wp2_with (go_at_call 57; ((with_reducible refine (checkBV_n pS aS S cS loS tpS ax x cx lox tpx av v cv lov tpv _ (HS.out.below HB0.out tS) (Nat.le_trans tS HB0.out.size) sS (Hx.out.below HB0.out tx) (Nat.le_trans tx HB0.out.size) sx (Hv.out.below HB0.out tv) (Nat.le_trans tv HB0.out.size) sv HC.out).mono ?_); rintro e w2 ⟨rfl, b_⟩; rw [← HCE.out]; have HB2 := Lib.hid (below_step HB0.out HB0.out.size b_); clear b_ k0 k1))
    go_ret2
    exact ⟨by rw [HV.out, ← HCE.out]; rfl, HB2.out.alloc HB2.out.size _⟩

set_option maxRecDepth 100000 in
set_option maxHeartbeats 3200000 in
theorem impl_OrthogonalBlade (pS : Int) (aS : Option Addr) (S : List Int) (cS loS tpS : Nat) (ax : Option Addr) (x : List Int) (cx lox tpx : Nat) (w : World) (hS : RowIn loS tpS w aS S) (tS : tpS ≤ w.heap.size) (sS : S.length ≤ 1048576) (hx : RowIn lox tpx w ax x) (tx : tpx ≤ w.heap.size) (sx : x.length ≤ 1048576) :
    Calls Tryz.prog 36 #[.agg #[.int .i64 pS, .slice aS S.length cS], .slice ax x.length cx] w (ImplR (ortC pS S x) (codeB pS S [x]) w) := by
  have HS := Lib.hid hS
  have Hx := Lib.hid hx
  have HB0 := Lib.hid (below_alloc w (.cells #[.int .i64 pS, .slice aS S.length cS] 29))
  have k0 := nw0 w (.int .i64 pS) (.slice aS S.length cS) 29
  have k1 := nw1 w (.int .i64 pS) (.slice aS S.length cS) 29
  clear hS hx
  by_cases hc : codeB pS S [x] = 0
  · have HC := Lib.hid hc
    have hb := codeB_one hc
    have HI := Lib.hid hb.1
    have HMX := Lib.hid hb.2.1
    have HV : Hid (ortC pS S x = wvM pS S (ortB pS S (subM pS S x)) (ortB pS S (subM pS S x)).length) := by show _ = _; unfold ortC; rw [if_pos hc]
    clear hc hb
    go_enter Tryz.func36, Tryz.ntmps36
    obtain ⟨F, hF⟩ : ∃ f, f = facM pS S x := ⟨_, rfl⟩
    have HF := Lib.hid hF
    clear hF
    go_upto_region 2 with (go_at_call 50; ((with_reducible refine (checkBlade_y pS aS S cS loS tpS ax x cx lox tpx _ (HS.out.below HB0.out tS) (Nat.le_trans tS HB0.out.size) sS (Hx.out.below HB0.out tx) (Nat.le_trans tx HB0.out.size) sx HC.out).mono ?_); rintro e w2 ⟨r0, k0_, rfl, oo_, b_⟩; rw [← HF.out]; have OO := Lib.hid oo_; have HB2 := Lib.hid (below_step HB0.out HB0.out.size b_); have k0' := (b_.cell (p := ⟨w.heap.size, 0, none⟩) (lt_alloc w (.cells #[.int .i64 pS, .slice aS S.length cS] 29))).trans k0; have k1' := (b_.cell (p := ⟨w.heap.size, 1, none⟩) (lt_alloc w (.cells #[.int .i64 pS, .slice aS S.length cS] 29))).trans k1; have hd2 := Nat.lt_of_lt_of_le (lt_alloc w (.cells #[.int .i64 pS, .slice aS S.length cS] 29)) b_.size; clear oo_ b_ k0 k1))
    obtain ⟨w3, hw3⟩ : ∃ z, z = w2.alloc (.cells #[.int .i64 pS, .slice aS S.length cS, .slice ax x.length cx, .slice r0 (subM pS S x).length k0_, .int .i64 F] 52) := ⟨_, rfl⟩
    obtain ⟨gB, hgB⟩ : ∃ b, b = w2.heap.size := ⟨_, rfl⟩
    have hzz : Z5 gB (.int .i64 pS) (.slice aS S.length cS) (.slice ax x.length cx) (.slice r0 (subM pS S x).length k0_) (.int .i64 F) w3 := by rw [hw3, hgB]; exact Z5.new _ _ _ _ _ _ _
    have HB3 : Hid (Below w.heap.size w w3) := by show Below _ _ _; rw [hw3]; exact HB2.out.alloc HB2.out.size _
    have OO3 : Hid (OwnM w.heap.size w3.heap.size w3 r0 (subM pS S x)) := by show OwnM _ _ _ _ _; rw [hw3]; exact (OO.out.below (below_alloc w2 _) (Nat.le_refl _)).mono (Nat.le_of_lt (lt_alloc w (.cells #[.int .i64 pS, .slice aS S.length cS] 29))) (size_alloc w2 _)
    have k03 : w3.cell? ⟨w.heap.size, 0, none⟩ = some (.int .i64 pS) := by rw [hw3]; exact (World.cell?_alloc_old _ _ _ (show w.heap.size ≠ w2.heap.size by omega)).trans k0'
    have k13 : w3.cell? ⟨w.heap.size, 1, none⟩ = some (.slice aS S.length cS) := by rw [hw3]; exact (World.cell?_alloc_old _ _ _ (show w.heap.size ≠ w2.heap.size by omega)).trans k1'
    have hd3 : w.heap.size < w3.heap.size := by rw [hw3]; simp; omega
    have hgB3 : gB < w3.heap.size := by rw [hw3, hgB]; simp
    rw [← hw3, ← hgB]
    clear hw3 hgB k0' k1'
    obtain ⟨⟨z0, z1, z2, z3, z4⟩, _⟩ := hzz
    have HLS := Lib.hid (sub_list (x := x) HI.out)
    have HLC := Lib.hid (codeL_ok HI.out HLS.out)
    have HOV : Hid (ortV pS S (subM pS S x) = ortB pS S (subM pS S x)) := by show _ = _; unfold ortV; rw [if_pos HLC.out]
    have HOL := Lib.hid (ort_list (x := x) HI.out)
    have hm6 := sub_le (x := x) HI.out
    have HMS : Hid ((subM pS S x).length + tot (subM pS S x) (subM pS S x).length ≤ 1048576) := by have := subV_size pS S x; rw [show subV pS S x = subM pS S x from if_pos HC.out] at this; exact this
    go_wp2_with (first | (go_at_call 67; ((with_reducible refine (impl_OrthogonalTo pS aS S cS loS tpS r0 (subM pS S x) k0_ w.heap.size w3.heap.size w3 (HS.out.below HB3.out tS) (Nat.le_trans tS HB3.out.size) sS OO3.out.mat (Nat.le_refl _) HMS.out).mono ?_); rintro e w4 ⟨r4, c4, rfl, o_, b_⟩; rw [HOV.out] at o_ ⊢; rw [HLC.out]; have M4 := Lib.hid o_.mat; have B4 := Lib.hid (below_step HB3.out HB3.out.size b_); have k04 := (b_.cell (p := ⟨w.heap.size, 0, none⟩) hd3).trans k03; have k14 := (b_.cell (p := ⟨w.heap.size, 1, none⟩) hd3).trans k13; clear o_ b_ k03 k13)) | (go_at_call 64; ((with_reducible refine (wedgeOfVectors_own pS aS S cS loS tpS r4 (ortB pS S (subM pS S x)) c4 w3.heap.size w4.heap.size w4 HI.out (HS.out.below B4.out tS) (Nat.le_trans tS B4.out.size) M4.out (Nat.le_refl _) HOL.out).mono ?_); rintro e w5 ⟨r5, c5, rfl, o_, b_⟩; have O5 := Lib.hid o_; have B5 := Lib.hid (below_step B4.out B4.out.size b_); clear o_ b_)))
    go_ret2
    rw [HV.out, HC.out]
    exact ⟨r5, c5, rfl, OwnR.mono' O5.out B4.out.size (Nat.le_refl _), B5.out⟩
  · have HC := Lib.hid hc
    have HV : Hid (ortC pS S x = []) := by show _ = _; unfold ortC; rw [if_neg hc]
    clear hc
    obtain ⟨C, hC⟩ : ∃ c, c = codeB pS S [x] := ⟨_, rfl⟩
    have hc1 : (C != 0) = true := by rw [hC]; simpa using HC.out
    have HCE := Lib.hid hC
    clear hC
    go_enter Tryz.func36, Tryz.ntmps36
    go_wp2_with (go_at_call 50; ((with_reducible refine (checkBlade_n pS aS S cS loS tpS ax x cx lox tpx _ (HS.out.below HB0.out tS) (Nat.le_trans tS HB0.out.size) sS (Hx.out.below HB0.out tx) (Nat.le_trans tx HB0.out.size) sx HC.out).mono ?_); rintro e w2 ⟨rfl, b_⟩; rw [← HCE.out]; have HB2 := Lib.hid (below_step HB0.out HB0.out.size b_); clear b_ k0 k1))
    go_ret2
    rw [HV.out, ← HCE.out]
    exact ⟨none, 0, rfl, .inl rfl, HB2.out.alloc HB2.out.size _⟩

end Go.Proofs.YtbnegbpapjcmhaaGreat
