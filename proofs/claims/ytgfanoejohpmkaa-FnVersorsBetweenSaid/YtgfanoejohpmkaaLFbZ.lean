/-
  The walk of the law on versors between two vectors: FnVersorsBetween.
  Conditions: the code is nil or a row of known bytes.
-/
import Derived.Test.YtgfanoejohpmkaaQb9
import Derived.Test.YtgfanoejohpmkaaQb39
import Derived.Test.YtgfanoejohpmkaaQb28
import Derived.Test.YtgfanoejohpmkaaQb32
import Derived.Test.YtgfanoejohpmkaaQb35
import Derived.Test.YtgfanoejohpmkaaQb38
import Derived.Test.YtgfanoejohpmkaaQb43
import Derived.Test.YtgfanoejohpmkaaQb44
import Derived.Test.YtgfanoejohpmkaaDvdZ
import Derived.Deep.RegionHeld3
import Derived.Deep.DeepCutAuto
namespace Go.Proofs.Ytgfanoejohpmkaa
open Go.RowKit
set_option linter.unusedVariables false

theorem reg_ok {p : Int} {S : List Int} {m : List (List Int)} (h : codeMv p S m = 0) (hd : discN p S ≠ 0) : regC p S m = 0 := by
  unfold regC
  rw [if_pos h, if_neg hd]
theorem vbC_cases (p : Int) (S u v : List Int) : (isSp p S = false ∧ vbC p S u v = 1) ∨ (isSp p S = true ∧ vbC p S u v = 2) ∨ (isSp p S = true ∧ isVec p S.length u = true ∧ isVec p S.length v = true ∧ discN p S = 0 ∧ vbC p S u v = 5) ∨ (isSp p S = true ∧ isVec p S.length u = true ∧ isVec p S.length v = true ∧ discN p S ≠ 0 ∧ pairN p S u u ≠ pairN p S v v ∧ vbC p S u v = 5) ∨ (isSp p S = true ∧ isVec p S.length u = true ∧ isVec p S.length v = true ∧ discN p S ≠ 0 ∧ pairN p S u u = 0 ∧ pairN p S v v = 0 ∧ vbC p S u v = 5) ∨ (isSp p S = true ∧ isVec p S.length u = true ∧ isVec p S.length v = true ∧ discN p S ≠ 0 ∧ pairN p S u u = pairN p S v v ∧ pairN p S u u ≠ 0 ∧ vbC p S u v = 0) := by
  unfold vbC rvC
  rcases codeVs_cases p S [u, v] with ⟨hi, hc⟩ | ⟨hi, ha, hc⟩ | ⟨hi, ha, hc⟩
  · exact .inl ⟨hi, by rw [hc]; rfl⟩
  · rw [mv_all2, Bool.and_eq_true] at ha
    by_cases hd : discN p S = 0
    · exact .inr (.inr (.inl ⟨hi, ha.1, ha.2, hd, by rw [if_pos hc, if_pos hd]; rfl⟩))
    · by_cases he : pairN p S u u = pairN p S v v
      · by_cases h0 : pairN p S u u = 0
        · exact .inr (.inr (.inr (.inr (.inl ⟨hi, ha.1, ha.2, hd, h0, by rw [← he]; exact h0, by rw [if_pos hc, if_neg hd, if_pos rfl, if_neg (fun h => h.2 h0)]⟩))))
        · exact .inr (.inr (.inr (.inr (.inr ⟨hi, ha.1, ha.2, hd, he, h0, by rw [if_pos hc, if_neg hd, if_pos rfl, if_pos ⟨he, h0⟩]⟩))))
      · exact .inr (.inr (.inr (.inl ⟨hi, ha.1, ha.2, hd, he, by rw [if_pos hc, if_neg hd, if_pos rfl, if_neg (fun h => he h.1)]⟩)))
  · exact .inr (.inl ⟨hi, by rw [hc]; rfl⟩)
theorem vb_mv {p : Int} {S u v : List Int} (h : vbC p S u v = 0) : isMv p S (vbV p S u v) = true := by
  obtain ⟨hs, hu, hv⟩ := rvC_two (vbC_zero h).1
  unfold vbV
  rw [if_pos h]
  split
  · exact vr_mv hs _ _
  · exact vec_mv hs (plus_vec (by have := prm_bd (isSp_iff.1 hs).prime; omega) _ (isVec_iff.1 hv).len)

set_option maxRecDepth 100000 in
set_option maxHeartbeats 16000000 in
theorem law_fb_small (a0 : Option Addr) (len cap : Nat) (zs : List Int) (w0 : World) (hb : Code8 w0 a0 len zs) (hl : len ≤ 4096) :
    Calls Try.prog 3 #[.slice a0 len cap] w0 fun e w' => e = .returned (.bool true) ∧ Below w0.heap.size w0 w' := by
  have HC8 := Lib.hid hb
  clear hb
  go_enter Try.func3, Try.ntmps3
  go_upto_region 4 with (first | (go_at_call 4; refine (big_no a0 len cap _ hl).mono ?_; rintro e w' ⟨rfl, rfl⟩) | (go_at_call 5; (with_reducible refine (drawVB_any a0 len cap zs _ HC8.out hl).mono ?_); rintro e w ⟨pS, aS, S, cS, ax, x, cx, ay, y, cy, rfl, hX, hY, hZ, hS, hx, hy, hb0⟩; have HS := Lib.hid hS; have Hx := Lib.hid hx; have Hy := Lib.hid hy; have HB00 := Lib.hid hb0; have HL := Lib.hid (And.intro hX (And.intro hY hZ)); clear hS hx hy hb0 hX hY hZ))
  have tS : w.heap.size ≤ w.heap.size := Nat.le_refl _
  have sS : S.length ≤ 1048576 := by have := HL.out.1; omega
  have sx : x.length ≤ 1048576 := by have := HL.out.2.1; omega
  have sy : y.length ≤ 1048576 := by have := HL.out.2.2; omega
  obtain ⟨w1, hw1⟩ : ∃ z, z = w.alloc (.cells #[.int .i64 pS, .slice aS S.length cS] 26) := ⟨_, rfl⟩
  have SS1 : Hid (w1.cell? ⟨w.heap.size, 0, none⟩ = some (.int .i64 pS) ∧ w1.cell? ⟨w.heap.size, 1, none⟩ = some (.slice aS S.length cS)) := by show _ ∧ _; rw [hw1]; exact ⟨nw0 w _ _ _, nw1 w _ _ _⟩
  have HB1 : Hid (Below w.heap.size w w1) := by show Below _ _ _; rw [hw1]; exact below_alloc w _
  have hd1 : w.heap.size < w1.heap.size := by rw [hw1]; simp
  have kk0 := SS1.out.1
  have kk1 := SS1.out.2
  rw [← hw1]
  clear hw1
  rcases vbC_cases pS S x y with ⟨hi, hc⟩ | ⟨hi, hc⟩ | ⟨hi, hu, hv, hd, hc⟩ | ⟨hi, hu, hv, hd, he, hc⟩ | ⟨hi, hu, hv, hd, he, h0, hc⟩ | ⟨hi, hu, hv, hd, he, h0, hc⟩
  · have HI := Lib.hid hi
    have HC := Lib.hid hc
    obtain ⟨z, hz⟩ : ∃ z, z = vbV pS S x y := ⟨_, rfl⟩
    have EZ : Hid (vbV pS S x y = z) := hz.symm
    have s_z : z.length ≤ 1048576 := by rw [hz]; exact vbV_size _ _ _ _
    clear hi hc hz
    go_wp2_with (first | (go_at_call 6; (with_reducible refine (impl_VersorBetween pS aS S cS w0.heap.size w.heap.size ax x cx w0.heap.size w.heap.size ay y cy w0.heap.size w.heap.size w1 (HS.out.below HB1.out tS) (Nat.le_trans tS (HB1.out).size) sS (Hx.out.below HB1.out tS) (Nat.le_trans tS (HB1.out).size) sx (Hy.out.below HB1.out tS) (Nat.le_trans tS (HB1.out).size) sy).mono ?_); rintro e w2 ⟨rz, kz, rfl, o_, b_⟩; have SS2 := Lib.hid (And.intro ((b_.cell (p := ⟨w.heap.size, 0, none⟩) hd1).trans SS1.out.1) ((b_.cell (p := ⟨w.heap.size, 1, none⟩) hd1).trans SS1.out.2)); have HB2 := Lib.hid (below_step HB1.out (Nat.le_of_lt hd1) b_); have zz_ := b_.size; have hd2 := Nat.lt_of_lt_of_le hd1 zz_; rw [EZ.out] at o_; rw [HC.out, EZ.out]; have o_ := o_.row; have RZ_2 := Lib.hid (o_.mono (Nat.le_of_lt hd1) (Nat.le_refl _)); clear o_; have kc2_0 := SS2.out.1; have kc2_1 := SS2.out.2; clear b_) | (go_at_call 7; (with_reducible refine (spec_VersorBetween pS aS S cS w0.heap.size w.heap.size ax x cx w0.heap.size w.heap.size ay y cy w0.heap.size w.heap.size w2 (HS.out.below HB2.out tS) (Nat.le_trans tS (HB2.out).size) sS (Hx.out.below HB2.out tS) (Nat.le_trans tS (HB2.out).size) sx (Hy.out.below HB2.out tS) (Nat.le_trans tS (HB2.out).size) sy).mono ?_); rintro e w3 ⟨rwt, kwt, rfl, o_, b_⟩; have SS3 := Lib.hid (And.intro ((b_.cell (p := ⟨w.heap.size, 0, none⟩) hd2).trans SS2.out.1) ((b_.cell (p := ⟨w.heap.size, 1, none⟩) hd2).trans SS2.out.2)); have HB3 := Lib.hid (below_step HB2.out (Nat.le_of_lt hd2) b_); have zz_ := b_.size; have hd3 := Nat.lt_of_lt_of_le hd2 zz_; have RZ_3 := Lib.hid ((RZ_2.out.below b_ (Nat.le_refl _)).mono (Nat.le_refl _) zz_); rw [EZ.out] at o_; rw [HC.out, EZ.out]; have WT_3 := Lib.hid (o_.mono (Nat.le_of_lt hd2) (Nat.le_refl _)); clear o_; have kc3_0 := SS3.out.1; have kc3_1 := SS3.out.2; clear b_) | (go_at_call 8; (with_reducible refine (likeInts_same rz rwt z kz kwt w.heap.size w3.heap.size w.heap.size w3.heap.size w3 RZ_3.out WT_3.out s_z).mono ?_); rintro e w4 ⟨rfl, q_⟩; have b_ := q_.below w3.heap.size; have SS4 := Lib.hid (And.intro ((b_.cell (p := ⟨w.heap.size, 0, none⟩) hd3).trans SS3.out.1) ((b_.cell (p := ⟨w.heap.size, 1, none⟩) hd3).trans SS3.out.2)); have HB4 := Lib.hid (below_step HB3.out (Nat.le_of_lt hd3) b_); have zz_ := b_.size; have hd4 := Nat.lt_of_lt_of_le hd3 zz_; have RZ_4 := Lib.hid ((RZ_3.out.below b_ (Nat.le_refl _)).mono (Nat.le_refl _) zz_); have WT_4 := Lib.hid ((WT_3.out.below b_ (Nat.le_refl _)).mono (Nat.le_refl _) zz_); have kc4_0 := SS4.out.1; have kc4_1 := SS4.out.2; clear q_; clear b_))
    go_ret
    exact ⟨rfl, HB00.out.trans (HB4.out.mono HB00.out.size)⟩
  · have HI := Lib.hid hi
    have HC := Lib.hid hc
    obtain ⟨z, hz⟩ : ∃ z, z = vbV pS S x y := ⟨_, rfl⟩
    have EZ : Hid (vbV pS S x y = z) := hz.symm
    have s_z : z.length ≤ 1048576 := by rw [hz]; exact vbV_size _ _ _ _
    clear hi hc hz
    go_wp2_with (first | (go_at_call 6; (with_reducible refine (impl_VersorBetween pS aS S cS w0.heap.size w.heap.size ax x cx w0.heap.size w.heap.size ay y cy w0.heap.size w.heap.size w1 (HS.out.below HB1.out tS) (Nat.le_trans tS (HB1.out).size) sS (Hx.out.below HB1.out tS) (Nat.le_trans tS (HB1.out).size) sx (Hy.out.below HB1.out tS) (Nat.le_trans tS (HB1.out).size) sy).mono ?_); rintro e w2 ⟨rz, kz, rfl, o_, b_⟩; have SS2 := Lib.hid (And.intro ((b_.cell (p := ⟨w.heap.size, 0, none⟩) hd1).trans SS1.out.1) ((b_.cell (p := ⟨w.heap.size, 1, none⟩) hd1).trans SS1.out.2)); have HB2 := Lib.hid (below_step HB1.out (Nat.le_of_lt hd1) b_); have zz_ := b_.size; have hd2 := Nat.lt_of_lt_of_le hd1 zz_; rw [EZ.out] at o_; rw [HC.out, EZ.out]; have o_ := o_.row; have RZ_2 := Lib.hid (o_.mono (Nat.le_of_lt hd1) (Nat.le_refl _)); clear o_; have kc2_0 := SS2.out.1; have kc2_1 := SS2.out.2; clear b_) | (go_at_call 7; (with_reducible refine (spec_VersorBetween pS aS S cS w0.heap.size w.heap.size ax x cx w0.heap.size w.heap.size ay y cy w0.heap.size w.heap.size w2 (HS.out.below HB2.out tS) (Nat.le_trans tS (HB2.out).size) sS (Hx.out.below HB2.out tS) (Nat.le_trans tS (HB2.out).size) sx (Hy.out.below HB2.out tS) (Nat.le_trans tS (HB2.out).size) sy).mono ?_); rintro e w3 ⟨rwt, kwt, rfl, o_, b_⟩; have SS3 := Lib.hid (And.intro ((b_.cell (p := ⟨w.heap.size, 0, none⟩) hd2).trans SS2.out.1) ((b_.cell (p := ⟨w.heap.size, 1, none⟩) hd2).trans SS2.out.2)); have HB3 := Lib.hid (below_step HB2.out (Nat.le_of_lt hd2) b_); have zz_ := b_.size; have hd3 := Nat.lt_of_lt_of_le hd2 zz_; have RZ_3 := Lib.hid ((RZ_2.out.below b_ (Nat.le_refl _)).mono (Nat.le_refl _) zz_); rw [EZ.out] at o_; rw [HC.out, EZ.out]; have WT_3 := Lib.hid (o_.mono (Nat.le_of_lt hd2) (Nat.le_refl _)); clear o_; have kc3_0 := SS3.out.1; have kc3_1 := SS3.out.2; clear b_) | (go_at_call 8; (with_reducible refine (likeInts_same rz rwt z kz kwt w.heap.size w3.heap.size w.heap.size w3.heap.size w3 RZ_3.out WT_3.out s_z).mono ?_); rintro e w4 ⟨rfl, q_⟩; have b_ := q_.below w3.heap.size; have SS4 := Lib.hid (And.intro ((b_.cell (p := ⟨w.heap.size, 0, none⟩) hd3).trans SS3.out.1) ((b_.cell (p := ⟨w.heap.size, 1, none⟩) hd3).trans SS3.out.2)); have HB4 := Lib.hid (below_step HB3.out (Nat.le_of_lt hd3) b_); have zz_ := b_.size; have hd4 := Nat.lt_of_lt_of_le hd3 zz_; have RZ_4 := Lib.hid ((RZ_3.out.below b_ (Nat.le_refl _)).mono (Nat.le_refl _) zz_); have WT_4 := Lib.hid ((WT_3.out.below b_ (Nat.le_refl _)).mono (Nat.le_refl _) zz_); have kc4_0 := SS4.out.1; have kc4_1 := SS4.out.2; clear q_; clear b_))
    go_ret
    exact ⟨rfl, HB00.out.trans (HB4.out.mono HB00.out.size)⟩
  · have HI := Lib.hid hi
    have HC := Lib.hid hc
    obtain ⟨z, hz⟩ : ∃ z, z = vbV pS S x y := ⟨_, rfl⟩
    have EZ : Hid (vbV pS S x y = z) := hz.symm
    have s_z : z.length ≤ 1048576 := by rw [hz]; exact vbV_size _ _ _ _
    have D_0 : Hid (code1 pS S = 0) := by show _ = _; unfold code1; rw [if_pos hi]
    have NX := Lib.hid (code_vec2 hi hu hu)
    have NY := Lib.hid (code_vec2 hi hv hv)
    have RG : Hid (regV pS S = false) := by show _ = _; unfold regV; rw [if_pos hi]; simp [hd]
    obtain ⟨nu, hnu⟩ : ∃ n, n = pairN pS S x x := ⟨_, rfl⟩
    obtain ⟨nv, hnv⟩ : ∃ n, n = pairN pS S y y := ⟨_, rfl⟩
    have NXV : Hid (pairV pS S x x = nu) := by show _ = _; rw [hnu]; exact NX.out.2
    have NYV : Hid (pairV pS S y y = nv) := by show _ = _; rw [hnv]; exact NY.out.2
    clear hi hc hz hu hv hd hnu hnv
    go_wp2_with (first | (go_at_call 6; (with_reducible refine (impl_VersorBetween pS aS S cS w0.heap.size w.heap.size ax x cx w0.heap.size w.heap.size ay y cy w0.heap.size w.heap.size w1 (HS.out.below HB1.out tS) (Nat.le_trans tS (HB1.out).size) sS (Hx.out.below HB1.out tS) (Nat.le_trans tS (HB1.out).size) sx (Hy.out.below HB1.out tS) (Nat.le_trans tS (HB1.out).size) sy).mono ?_); rintro e w2 ⟨rz, kz, rfl, o_, b_⟩; have SS2 := Lib.hid (And.intro ((b_.cell (p := ⟨w.heap.size, 0, none⟩) hd1).trans SS1.out.1) ((b_.cell (p := ⟨w.heap.size, 1, none⟩) hd1).trans SS1.out.2)); have HB2 := Lib.hid (below_step HB1.out (Nat.le_of_lt hd1) b_); have zz_ := b_.size; have hd2 := Nat.lt_of_lt_of_le hd1 zz_; rw [EZ.out] at o_; rw [HC.out, EZ.out]; have o_ := o_.row; have RZ_2 := Lib.hid (o_.mono (Nat.le_of_lt hd1) (Nat.le_refl _)); clear o_; have kc2_0 := SS2.out.1; have kc2_1 := SS2.out.2; clear b_) | (go_at_call 7; (with_reducible refine (spec_VersorBetween pS aS S cS w0.heap.size w.heap.size ax x cx w0.heap.size w.heap.size ay y cy w0.heap.size w.heap.size w2 (HS.out.below HB2.out tS) (Nat.le_trans tS (HB2.out).size) sS (Hx.out.below HB2.out tS) (Nat.le_trans tS (HB2.out).size) sx (Hy.out.below HB2.out tS) (Nat.le_trans tS (HB2.out).size) sy).mono ?_); rintro e w3 ⟨rwt, kwt, rfl, o_, b_⟩; have SS3 := Lib.hid (And.intro ((b_.cell (p := ⟨w.heap.size, 0, none⟩) hd2).trans SS2.out.1) ((b_.cell (p := ⟨w.heap.size, 1, none⟩) hd2).trans SS2.out.2)); have HB3 := Lib.hid (below_step HB2.out (Nat.le_of_lt hd2) b_); have zz_ := b_.size; have hd3 := Nat.lt_of_lt_of_le hd2 zz_; have RZ_3 := Lib.hid ((RZ_2.out.below b_ (Nat.le_refl _)).mono (Nat.le_refl _) zz_); rw [EZ.out] at o_; rw [HC.out, EZ.out]; have WT_3 := Lib.hid (o_.mono (Nat.le_of_lt hd2) (Nat.le_refl _)); clear o_; have kc3_0 := SS3.out.1; have kc3_1 := SS3.out.2; clear b_) | (go_at_call 8; (with_reducible refine (likeInts_same rz rwt z kz kwt w.heap.size w3.heap.size w.heap.size w3.heap.size w3 RZ_3.out WT_3.out s_z).mono ?_); rintro e w4 ⟨rfl, q_⟩; have b_ := q_.below w3.heap.size; have SS4 := Lib.hid (And.intro ((b_.cell (p := ⟨w.heap.size, 0, none⟩) hd3).trans SS3.out.1) ((b_.cell (p := ⟨w.heap.size, 1, none⟩) hd3).trans SS3.out.2)); have HB4 := Lib.hid (below_step HB3.out (Nat.le_of_lt hd3) b_); have zz_ := b_.size; have hd4 := Nat.lt_of_lt_of_le hd3 zz_; have RZ_4 := Lib.hid ((RZ_3.out.below b_ (Nat.le_refl _)).mono (Nat.le_refl _) zz_); have WT_4 := Lib.hid ((WT_3.out.below b_ (Nat.le_refl _)).mono (Nat.le_refl _) zz_); have kc4_0 := SS4.out.1; have kc4_1 := SS4.out.2; clear q_; clear b_) | (go_at_call 9; (with_reducible refine (impl_IsRegular pS aS S cS w0.heap.size w.heap.size w4 (HS.out.below HB4.out tS) (Nat.le_trans tS (HB4.out).size) sS).mono ?_); rintro e w5 ⟨rfl, b_⟩; have SS5 := Lib.hid (And.intro ((b_.cell (p := ⟨w.heap.size, 0, none⟩) hd4).trans SS4.out.1) ((b_.cell (p := ⟨w.heap.size, 1, none⟩) hd4).trans SS4.out.2)); have HB5 := Lib.hid (below_step HB4.out (Nat.le_of_lt hd4) b_); have zz_ := b_.size; have hd5 := Nat.lt_of_lt_of_le hd4 zz_; rw [D_0.out, RG.out]; have kc5_0 := SS5.out.1; have kc5_1 := SS5.out.2; clear b_) | (go_at_call 10; (with_reducible refine (impl_NormOf pS aS S cS w0.heap.size w.heap.size ax x cx w0.heap.size w.heap.size w5 (HS.out.below HB5.out tS) (Nat.le_trans tS (HB5.out).size) sS (Hx.out.below HB5.out tS) (Nat.le_trans tS (HB5.out).size) sx).mono ?_); rintro e w6 ⟨rfl, b_⟩; have SS6 := Lib.hid (And.intro ((b_.cell (p := ⟨w.heap.size, 0, none⟩) hd5).trans SS5.out.1) ((b_.cell (p := ⟨w.heap.size, 1, none⟩) hd5).trans SS5.out.2)); have HB6 := Lib.hid (below_step HB5.out (Nat.le_of_lt hd5) b_); have zz_ := b_.size; have hd6 := Nat.lt_of_lt_of_le hd5 zz_; rw [NX.out.1, NXV.out]; have kc6_0 := SS6.out.1; have kc6_1 := SS6.out.2; clear b_) | (go_at_call 10; (with_reducible refine (impl_NormOf pS aS S cS w0.heap.size w.heap.size ay y cy w0.heap.size w.heap.size w6 (HS.out.below HB6.out tS) (Nat.le_trans tS (HB6.out).size) sS (Hy.out.below HB6.out tS) (Nat.le_trans tS (HB6.out).size) sy).mono ?_); rintro e w7 ⟨rfl, b_⟩; have SS7 := Lib.hid (And.intro ((b_.cell (p := ⟨w.heap.size, 0, none⟩) hd6).trans SS6.out.1) ((b_.cell (p := ⟨w.heap.size, 1, none⟩) hd6).trans SS6.out.2)); have HB7 := Lib.hid (below_step HB6.out (Nat.le_of_lt hd6) b_); have zz_ := b_.size; have hd7 := Nat.lt_of_lt_of_le hd6 zz_; rw [NY.out.1, NYV.out]; have kc7_0 := SS7.out.1; have kc7_1 := SS7.out.2; clear b_))
    go_ret
    exact ⟨rfl, HB00.out.trans (HB7.out.mono HB00.out.size)⟩
  · have HI := Lib.hid hi
    have HC := Lib.hid hc
    obtain ⟨z, hz⟩ : ∃ z, z = vbV pS S x y := ⟨_, rfl⟩
    have EZ : Hid (vbV pS S x y = z) := hz.symm
    have s_z : z.length ≤ 1048576 := by rw [hz]; exact vbV_size _ _ _ _
    have D_0 : Hid (code1 pS S = 0) := by show _ = _; unfold code1; rw [if_pos hi]
    have NX := Lib.hid (code_vec2 hi hu hu)
    have NY := Lib.hid (code_vec2 hi hv hv)
    have RG : Hid (regV pS S = true) := by show _ = _; unfold regV; rw [if_pos hi]; simp [hd]
    obtain ⟨nu, hnu⟩ : ∃ n, n = pairN pS S x x := ⟨_, rfl⟩
    obtain ⟨nv, hnv⟩ : ∃ n, n = pairN pS S y y := ⟨_, rfl⟩
    have NXV : Hid (pairV pS S x x = nu) := by show _ = _; rw [hnu]; exact NX.out.2
    have NYV : Hid (pairV pS S y y = nv) := by show _ = _; rw [hnv]; exact NY.out.2
    rw [← hnu, ← hnv] at he
    have hq : (nu == nv) = false := beq_eq_false_iff_ne.2 he
    clear hi hc hz hu hv hd he hnu hnv
    go_wp2_with (first | (go_at_call 6; (with_reducible refine (impl_VersorBetween pS aS S cS w0.heap.size w.heap.size ax x cx w0.heap.size w.heap.size ay y cy w0.heap.size w.heap.size w1 (HS.out.below HB1.out tS) (Nat.le_trans tS (HB1.out).size) sS (Hx.out.below HB1.out tS) (Nat.le_trans tS (HB1.out).size) sx (Hy.out.below HB1.out tS) (Nat.le_trans tS (HB1.out).size) sy).mono ?_); rintro e w2 ⟨rz, kz, rfl, o_, b_⟩; have SS2 := Lib.hid (And.intro ((b_.cell (p := ⟨w.heap.size, 0, none⟩) hd1).trans SS1.out.1) ((b_.cell (p := ⟨w.heap.size, 1, none⟩) hd1).trans SS1.out.2)); have HB2 := Lib.hid (below_step HB1.out (Nat.le_of_lt hd1) b_); have zz_ := b_.size; have hd2 := Nat.lt_of_lt_of_le hd1 zz_; rw [EZ.out] at o_; rw [HC.out, EZ.out]; have o_ := o_.row; have RZ_2 := Lib.hid (o_.mono (Nat.le_of_lt hd1) (Nat.le_refl _)); clear o_; have kc2_0 := SS2.out.1; have kc2_1 := SS2.out.2; clear b_) | (go_at_call 7; (with_reducible refine (spec_VersorBetween pS aS S cS w0.heap.size w.heap.size ax x cx w0.heap.size w.heap.size ay y cy w0.heap.size w.heap.size w2 (HS.out.below HB2.out tS) (Nat.le_trans tS (HB2.out).size) sS (Hx.out.below HB2.out tS) (Nat.le_trans tS (HB2.out).size) sx (Hy.out.below HB2.out tS) (Nat.le_trans tS (HB2.out).size) sy).mono ?_); rintro e w3 ⟨rwt, kwt, rfl, o_, b_⟩; have SS3 := Lib.hid (And.intro ((b_.cell (p := ⟨w.heap.size, 0, none⟩) hd2).trans SS2.out.1) ((b_.cell (p := ⟨w.heap.size, 1, none⟩) hd2).trans SS2.out.2)); have HB3 := Lib.hid (below_step HB2.out (Nat.le_of_lt hd2) b_); have zz_ := b_.size; have hd3 := Nat.lt_of_lt_of_le hd2 zz_; have RZ_3 := Lib.hid ((RZ_2.out.below b_ (Nat.le_refl _)).mono (Nat.le_refl _) zz_); rw [EZ.out] at o_; rw [HC.out, EZ.out]; have WT_3 := Lib.hid (o_.mono (Nat.le_of_lt hd2) (Nat.le_refl _)); clear o_; have kc3_0 := SS3.out.1; have kc3_1 := SS3.out.2; clear b_) | (go_at_call 8; (with_reducible refine (likeInts_same rz rwt z kz kwt w.heap.size w3.heap.size w.heap.size w3.heap.size w3 RZ_3.out WT_3.out s_z).mono ?_); rintro e w4 ⟨rfl, q_⟩; have b_ := q_.below w3.heap.size; have SS4 := Lib.hid (And.intro ((b_.cell (p := ⟨w.heap.size, 0, none⟩) hd3).trans SS3.out.1) ((b_.cell (p := ⟨w.heap.size, 1, none⟩) hd3).trans SS3.out.2)); have HB4 := Lib.hid (below_step HB3.out (Nat.le_of_lt hd3) b_); have zz_ := b_.size; have hd4 := Nat.lt_of_lt_of_le hd3 zz_; have RZ_4 := Lib.hid ((RZ_3.out.below b_ (Nat.le_refl _)).mono (Nat.le_refl _) zz_); have WT_4 := Lib.hid ((WT_3.out.below b_ (Nat.le_refl _)).mono (Nat.le_refl _) zz_); have kc4_0 := SS4.out.1; have kc4_1 := SS4.out.2; clear q_; clear b_) | (go_at_call 9; (with_reducible refine (impl_IsRegular pS aS S cS w0.heap.size w.heap.size w4 (HS.out.below HB4.out tS) (Nat.le_trans tS (HB4.out).size) sS).mono ?_); rintro e w5 ⟨rfl, b_⟩; have SS5 := Lib.hid (And.intro ((b_.cell (p := ⟨w.heap.size, 0, none⟩) hd4).trans SS4.out.1) ((b_.cell (p := ⟨w.heap.size, 1, none⟩) hd4).trans SS4.out.2)); have HB5 := Lib.hid (below_step HB4.out (Nat.le_of_lt hd4) b_); have zz_ := b_.size; have hd5 := Nat.lt_of_lt_of_le hd4 zz_; rw [D_0.out, RG.out]; have kc5_0 := SS5.out.1; have kc5_1 := SS5.out.2; clear b_) | (go_at_call 10; (with_reducible refine (impl_NormOf pS aS S cS w0.heap.size w.heap.size ax x cx w0.heap.size w.heap.size w5 (HS.out.below HB5.out tS) (Nat.le_trans tS (HB5.out).size) sS (Hx.out.below HB5.out tS) (Nat.le_trans tS (HB5.out).size) sx).mono ?_); rintro e w6 ⟨rfl, b_⟩; have SS6 := Lib.hid (And.intro ((b_.cell (p := ⟨w.heap.size, 0, none⟩) hd5).trans SS5.out.1) ((b_.cell (p := ⟨w.heap.size, 1, none⟩) hd5).trans SS5.out.2)); have HB6 := Lib.hid (below_step HB5.out (Nat.le_of_lt hd5) b_); have zz_ := b_.size; have hd6 := Nat.lt_of_lt_of_le hd5 zz_; rw [NX.out.1, NXV.out]; have kc6_0 := SS6.out.1; have kc6_1 := SS6.out.2; clear b_) | (go_at_call 10; (with_reducible refine (impl_NormOf pS aS S cS w0.heap.size w.heap.size ay y cy w0.heap.size w.heap.size w6 (HS.out.below HB6.out tS) (Nat.le_trans tS (HB6.out).size) sS (Hy.out.below HB6.out tS) (Nat.le_trans tS (HB6.out).size) sy).mono ?_); rintro e w7 ⟨rfl, b_⟩; have SS7 := Lib.hid (And.intro ((b_.cell (p := ⟨w.heap.size, 0, none⟩) hd6).trans SS6.out.1) ((b_.cell (p := ⟨w.heap.size, 1, none⟩) hd6).trans SS6.out.2)); have HB7 := Lib.hid (below_step HB6.out (Nat.le_of_lt hd6) b_); have zz_ := b_.size; have hd7 := Nat.lt_of_lt_of_le hd6 zz_; rw [NY.out.1, NYV.out]; have kc7_0 := SS7.out.1; have kc7_1 := SS7.out.2; clear b_))
    go_ret
    exact ⟨rfl, HB00.out.trans (HB7.out.mono HB00.out.size)⟩
  · have HI := Lib.hid hi
    have HC := Lib.hid hc
    obtain ⟨z, hz⟩ : ∃ z, z = vbV pS S x y := ⟨_, rfl⟩
    have EZ : Hid (vbV pS S x y = z) := hz.symm
    have s_z : z.length ≤ 1048576 := by rw [hz]; exact vbV_size _ _ _ _
    have D_0 : Hid (code1 pS S = 0) := by show _ = _; unfold code1; rw [if_pos hi]
    have NX := Lib.hid (code_vec2 hi hu hu)
    have NY := Lib.hid (code_vec2 hi hv hv)
    have RG : Hid (regV pS S = true) := by show _ = _; unfold regV; rw [if_pos hi]; simp [hd]
    obtain ⟨nu, hnu⟩ : ∃ n, n = pairN pS S x x := ⟨_, rfl⟩
    obtain ⟨nv, hnv⟩ : ∃ n, n = pairN pS S y y := ⟨_, rfl⟩
    have NXV : Hid (pairV pS S x x = nu) := by show _ = _; rw [hnu]; exact NX.out.2
    have NYV : Hid (pairV pS S y y = nv) := by show _ = _; rw [hnv]; exact NY.out.2
    rw [← hnu] at he
    rw [← hnv] at h0
    subst he
    subst h0
    clear hi hc hz hu hv hd hnu hnv
    go_wp2_with (first | (go_at_call 6; (with_reducible refine (impl_VersorBetween pS aS S cS w0.heap.size w.heap.size ax x cx w0.heap.size w.heap.size ay y cy w0.heap.size w.heap.size w1 (HS.out.below HB1.out tS) (Nat.le_trans tS (HB1.out).size) sS (Hx.out.below HB1.out tS) (Nat.le_trans tS (HB1.out).size) sx (Hy.out.below HB1.out tS) (Nat.le_trans tS (HB1.out).size) sy).mono ?_); rintro e w2 ⟨rz, kz, rfl, o_, b_⟩; have SS2 := Lib.hid (And.intro ((b_.cell (p := ⟨w.heap.size, 0, none⟩) hd1).trans SS1.out.1) ((b_.cell (p := ⟨w.heap.size, 1, none⟩) hd1).trans SS1.out.2)); have HB2 := Lib.hid (below_step HB1.out (Nat.le_of_lt hd1) b_); have zz_ := b_.size; have hd2 := Nat.lt_of_lt_of_le hd1 zz_; rw [EZ.out] at o_; rw [HC.out, EZ.out]; have o_ := o_.row; have RZ_2 := Lib.hid (o_.mono (Nat.le_of_lt hd1) (Nat.le_refl _)); clear o_; have kc2_0 := SS2.out.1; have kc2_1 := SS2.out.2; clear b_) | (go_at_call 7; (with_reducible refine (spec_VersorBetween pS aS S cS w0.heap.size w.heap.size ax x cx w0.heap.size w.heap.size ay y cy w0.heap.size w.heap.size w2 (HS.out.below HB2.out tS) (Nat.le_trans tS (HB2.out).size) sS (Hx.out.below HB2.out tS) (Nat.le_trans tS (HB2.out).size) sx (Hy.out.below HB2.out tS) (Nat.le_trans tS (HB2.out).size) sy).mono ?_); rintro e w3 ⟨rwt, kwt, rfl, o_, b_⟩; have SS3 := Lib.hid (And.intro ((b_.cell (p := ⟨w.heap.size, 0, none⟩) hd2).trans SS2.out.1) ((b_.cell (p := ⟨w.heap.size, 1, none⟩) hd2).trans SS2.out.2)); have HB3 := Lib.hid (below_step HB2.out (Nat.le_of_lt hd2) b_); have zz_ := b_.size; have hd3 := Nat.lt_of_lt_of_le hd2 zz_; have RZ_3 := Lib.hid ((RZ_2.out.below b_ (Nat.le_refl _)).mono (Nat.le_refl _) zz_); rw [EZ.out] at o_; rw [HC.out, EZ.out]; have WT_3 := Lib.hid (o_.mono (Nat.le_of_lt hd2) (Nat.le_refl _)); clear o_; have kc3_0 := SS3.out.1; have kc3_1 := SS3.out.2; clear b_) | (go_at_call 8; (with_reducible refine (likeInts_same rz rwt z kz kwt w.heap.size w3.heap.size w.heap.size w3.heap.size w3 RZ_3.out WT_3.out s_z).mono ?_); rintro e w4 ⟨rfl, q_⟩; have b_ := q_.below w3.heap.size; have SS4 := Lib.hid (And.intro ((b_.cell (p := ⟨w.heap.size, 0, none⟩) hd3).trans SS3.out.1) ((b_.cell (p := ⟨w.heap.size, 1, none⟩) hd3).trans SS3.out.2)); have HB4 := Lib.hid (below_step HB3.out (Nat.le_of_lt hd3) b_); have zz_ := b_.size; have hd4 := Nat.lt_of_lt_of_le hd3 zz_; have RZ_4 := Lib.hid ((RZ_3.out.below b_ (Nat.le_refl _)).mono (Nat.le_refl _) zz_); have WT_4 := Lib.hid ((WT_3.out.below b_ (Nat.le_refl _)).mono (Nat.le_refl _) zz_); have kc4_0 := SS4.out.1; have kc4_1 := SS4.out.2; clear q_; clear b_) | (go_at_call 9; (with_reducible refine (impl_IsRegular pS aS S cS w0.heap.size w.heap.size w4 (HS.out.below HB4.out tS) (Nat.le_trans tS (HB4.out).size) sS).mono ?_); rintro e w5 ⟨rfl, b_⟩; have SS5 := Lib.hid (And.intro ((b_.cell (p := ⟨w.heap.size, 0, none⟩) hd4).trans SS4.out.1) ((b_.cell (p := ⟨w.heap.size, 1, none⟩) hd4).trans SS4.out.2)); have HB5 := Lib.hid (below_step HB4.out (Nat.le_of_lt hd4) b_); have zz_ := b_.size; have hd5 := Nat.lt_of_lt_of_le hd4 zz_; rw [D_0.out, RG.out]; have kc5_0 := SS5.out.1; have kc5_1 := SS5.out.2; clear b_) | (go_at_call 10; (with_reducible refine (impl_NormOf pS aS S cS w0.heap.size w.heap.size ax x cx w0.heap.size w.heap.size w5 (HS.out.below HB5.out tS) (Nat.le_trans tS (HB5.out).size) sS (Hx.out.below HB5.out tS) (Nat.le_trans tS (HB5.out).size) sx).mono ?_); rintro e w6 ⟨rfl, b_⟩; have SS6 := Lib.hid (And.intro ((b_.cell (p := ⟨w.heap.size, 0, none⟩) hd5).trans SS5.out.1) ((b_.cell (p := ⟨w.heap.size, 1, none⟩) hd5).trans SS5.out.2)); have HB6 := Lib.hid (below_step HB5.out (Nat.le_of_lt hd5) b_); have zz_ := b_.size; have hd6 := Nat.lt_of_lt_of_le hd5 zz_; rw [NX.out.1, NXV.out]; have kc6_0 := SS6.out.1; have kc6_1 := SS6.out.2; clear b_) | (go_at_call 10; (with_reducible refine (impl_NormOf pS aS S cS w0.heap.size w.heap.size ay y cy w0.heap.size w.heap.size w6 (HS.out.below HB6.out tS) (Nat.le_trans tS (HB6.out).size) sS (Hy.out.below HB6.out tS) (Nat.le_trans tS (HB6.out).size) sy).mono ?_); rintro e w7 ⟨rfl, b_⟩; have SS7 := Lib.hid (And.intro ((b_.cell (p := ⟨w.heap.size, 0, none⟩) hd6).trans SS6.out.1) ((b_.cell (p := ⟨w.heap.size, 1, none⟩) hd6).trans SS6.out.2)); have HB7 := Lib.hid (below_step HB6.out (Nat.le_of_lt hd6) b_); have zz_ := b_.size; have hd7 := Nat.lt_of_lt_of_le hd6 zz_; rw [NY.out.1, NYV.out]; have kc7_0 := SS7.out.1; have kc7_1 := SS7.out.2; clear b_))
    go_ret
    exact ⟨rfl, HB00.out.trans (HB7.out.mono HB00.out.size)⟩
  · have HI := Lib.hid hi
    have HC := Lib.hid hc
    obtain ⟨z, hz⟩ : ∃ z, z = vbV pS S x y := ⟨_, rfl⟩
    have EZ : Hid (vbV pS S x y = z) := hz.symm
    have s_z : z.length ≤ 1048576 := by rw [hz]; exact vbV_size _ _ _ _
    have D_0 : Hid (code1 pS S = 0) := by show _ = _; unfold code1; rw [if_pos hi]
    have NX := Lib.hid (code_vec2 hi hu hu)
    have NY := Lib.hid (code_vec2 hi hv hv)
    have RG : Hid (regV pS S = true) := by show _ = _; unfold regV; rw [if_pos hi]; simp [hd]
    obtain ⟨nu, hnu⟩ : ∃ n, n = pairN pS S x x := ⟨_, rfl⟩
    obtain ⟨nv, hnv⟩ : ∃ n, n = pairN pS S y y := ⟨_, rfl⟩
    have NXV : Hid (pairV pS S x x = nu) := by show _ = _; rw [hnu]; exact NX.out.2
    have NYV : Hid (pairV pS S y y = nv) := by show _ = _; rw [hnv]; exact NY.out.2
    have BO := Lib.hid (between_ok hc)
    have M_z : Hid (isMv pS S z = true) := by show _ = _; rw [hz]; exact vb_mv hc
    have C_rg : Hid (regC pS S [z] = 0) := reg_ok (codeMv_ok hi (by rw [mv_all1]; exact M_z.out)) hd
    have E_is : Hid (isVr pS S z = true) := by show _ = _; rw [hz]; exact BO.out.1
    have E_vr : Hid (isvB pS S z = true) := by show _ = _; unfold isvB; rw [if_pos C_rg.out]; exact E_is.out
    have C_sd : Hid (sdC pS S z x = 0) := by show _ = _; unfold sdC; rw [if_pos (codeVs_ok hi (by rw [mv_all1]; exact hu))]; unfold vrC; rw [if_pos C_rg.out, if_pos E_is.out]
    have E_sd : Hid (sdV pS S z x = y) := by show _ = _; unfold sdV; rw [if_pos C_sd.out, hz]; exact BO.out.2
    rw [← hnu, ← hnv] at he
    rw [← hnu] at h0
    have hq0 : (nu != 0) = true := by simp [h0]
    have hq1 : (nu == 0) = false := by simp [h0]
    have s_y := sy
    clear BO
    clear hnv
    subst he
    have hq2 : (nu == nu) = true := by simp
    clear hi hc hz hu hv hd h0 hnu
    go_wp2_with (first | (go_at_call 6; (with_reducible refine (impl_VersorBetween pS aS S cS w0.heap.size w.heap.size ax x cx w0.heap.size w.heap.size ay y cy w0.heap.size w.heap.size w1 (HS.out.below HB1.out tS) (Nat.le_trans tS (HB1.out).size) sS (Hx.out.below HB1.out tS) (Nat.le_trans tS (HB1.out).size) sx (Hy.out.below HB1.out tS) (Nat.le_trans tS (HB1.out).size) sy).mono ?_); rintro e w2 ⟨rz, kz, rfl, o_, b_⟩; have SS2 := Lib.hid (And.intro ((b_.cell (p := ⟨w.heap.size, 0, none⟩) hd1).trans SS1.out.1) ((b_.cell (p := ⟨w.heap.size, 1, none⟩) hd1).trans SS1.out.2)); have HB2 := Lib.hid (below_step HB1.out (Nat.le_of_lt hd1) b_); have zz_ := b_.size; have hd2 := Nat.lt_of_lt_of_le hd1 zz_; rw [EZ.out] at o_; rw [HC.out, EZ.out]; have o_ := o_.row; have RZ_2 := Lib.hid (o_.mono (Nat.le_of_lt hd1) (Nat.le_refl _)); clear o_; have kc2_0 := SS2.out.1; have kc2_1 := SS2.out.2; clear b_) | (go_at_call 7; (with_reducible refine (spec_VersorBetween pS aS S cS w0.heap.size w.heap.size ax x cx w0.heap.size w.heap.size ay y cy w0.heap.size w.heap.size w2 (HS.out.below HB2.out tS) (Nat.le_trans tS (HB2.out).size) sS (Hx.out.below HB2.out tS) (Nat.le_trans tS (HB2.out).size) sx (Hy.out.below HB2.out tS) (Nat.le_trans tS (HB2.out).size) sy).mono ?_); rintro e w3 ⟨rwt, kwt, rfl, o_, b_⟩; have SS3 := Lib.hid (And.intro ((b_.cell (p := ⟨w.heap.size, 0, none⟩) hd2).trans SS2.out.1) ((b_.cell (p := ⟨w.heap.size, 1, none⟩) hd2).trans SS2.out.2)); have HB3 := Lib.hid (below_step HB2.out (Nat.le_of_lt hd2) b_); have zz_ := b_.size; have hd3 := Nat.lt_of_lt_of_le hd2 zz_; have RZ_3 := Lib.hid ((RZ_2.out.below b_ (Nat.le_refl _)).mono (Nat.le_refl _) zz_); rw [EZ.out] at o_; rw [HC.out, EZ.out]; have WT_3 := Lib.hid (o_.mono (Nat.le_of_lt hd2) (Nat.le_refl _)); clear o_; have kc3_0 := SS3.out.1; have kc3_1 := SS3.out.2; clear b_) | (go_at_call 8; (with_reducible refine (likeInts_same rz rwt z kz kwt w.heap.size w3.heap.size w.heap.size w3.heap.size w3 RZ_3.out WT_3.out s_z).mono ?_); rintro e w4 ⟨rfl, q_⟩; have b_ := q_.below w3.heap.size; have SS4 := Lib.hid (And.intro ((b_.cell (p := ⟨w.heap.size, 0, none⟩) hd3).trans SS3.out.1) ((b_.cell (p := ⟨w.heap.size, 1, none⟩) hd3).trans SS3.out.2)); have HB4 := Lib.hid (below_step HB3.out (Nat.le_of_lt hd3) b_); have zz_ := b_.size; have hd4 := Nat.lt_of_lt_of_le hd3 zz_; have RZ_4 := Lib.hid ((RZ_3.out.below b_ (Nat.le_refl _)).mono (Nat.le_refl _) zz_); have WT_4 := Lib.hid ((WT_3.out.below b_ (Nat.le_refl _)).mono (Nat.le_refl _) zz_); have kc4_0 := SS4.out.1; have kc4_1 := SS4.out.2; clear q_; clear b_) | (go_at_call 9; (with_reducible refine (impl_IsRegular pS aS S cS w0.heap.size w.heap.size w4 (HS.out.below HB4.out tS) (Nat.le_trans tS (HB4.out).size) sS).mono ?_); rintro e w5 ⟨rfl, b_⟩; have SS5 := Lib.hid (And.intro ((b_.cell (p := ⟨w.heap.size, 0, none⟩) hd4).trans SS4.out.1) ((b_.cell (p := ⟨w.heap.size, 1, none⟩) hd4).trans SS4.out.2)); have HB5 := Lib.hid (below_step HB4.out (Nat.le_of_lt hd4) b_); have zz_ := b_.size; have hd5 := Nat.lt_of_lt_of_le hd4 zz_; have RZ_5 := Lib.hid ((RZ_4.out.below b_ (Nat.le_refl _)).mono (Nat.le_refl _) zz_); rw [D_0.out, RG.out]; have kc5_0 := SS5.out.1; have kc5_1 := SS5.out.2; clear b_) | (go_at_call 10; (with_reducible refine (impl_NormOf pS aS S cS w0.heap.size w.heap.size ax x cx w0.heap.size w.heap.size w5 (HS.out.below HB5.out tS) (Nat.le_trans tS (HB5.out).size) sS (Hx.out.below HB5.out tS) (Nat.le_trans tS (HB5.out).size) sx).mono ?_); rintro e w6 ⟨rfl, b_⟩; have SS6 := Lib.hid (And.intro ((b_.cell (p := ⟨w.heap.size, 0, none⟩) hd5).trans SS5.out.1) ((b_.cell (p := ⟨w.heap.size, 1, none⟩) hd5).trans SS5.out.2)); have HB6 := Lib.hid (below_step HB5.out (Nat.le_of_lt hd5) b_); have zz_ := b_.size; have hd6 := Nat.lt_of_lt_of_le hd5 zz_; have RZ_6 := Lib.hid ((RZ_5.out.below b_ (Nat.le_refl _)).mono (Nat.le_refl _) zz_); rw [NX.out.1, NXV.out]; have kc6_0 := SS6.out.1; have kc6_1 := SS6.out.2; clear b_) | (go_at_call 10; (with_reducible refine (impl_NormOf pS aS S cS w0.heap.size w.heap.size ay y cy w0.heap.size w.heap.size w6 (HS.out.below HB6.out tS) (Nat.le_trans tS (HB6.out).size) sS (Hy.out.below HB6.out tS) (Nat.le_trans tS (HB6.out).size) sy).mono ?_); rintro e w7 ⟨rfl, b_⟩; have SS7 := Lib.hid (And.intro ((b_.cell (p := ⟨w.heap.size, 0, none⟩) hd6).trans SS6.out.1) ((b_.cell (p := ⟨w.heap.size, 1, none⟩) hd6).trans SS6.out.2)); have HB7 := Lib.hid (below_step HB6.out (Nat.le_of_lt hd6) b_); have zz_ := b_.size; have hd7 := Nat.lt_of_lt_of_le hd6 zz_; have RZ_7 := Lib.hid ((RZ_6.out.below b_ (Nat.le_refl _)).mono (Nat.le_refl _) zz_); rw [NY.out.1, NYV.out]; have kc7_0 := SS7.out.1; have kc7_1 := SS7.out.2; clear b_) | (go_at_call 11; (with_reducible refine (impl_SandwichOf pS aS S cS w0.heap.size w.heap.size rz z kz w.heap.size w7.heap.size ax x cx w0.heap.size w.heap.size w7 (HS.out.below HB7.out tS) (Nat.le_trans tS (HB7.out).size) sS RZ_7.out (Nat.le_refl _) s_z (Hx.out.below HB7.out tS) (Nat.le_trans tS (HB7.out).size) sx).mono ?_); rintro e w8 ⟨rw5, kw5, rfl, o_, b_⟩; have SS8 := Lib.hid (And.intro ((b_.cell (p := ⟨w.heap.size, 0, none⟩) hd7).trans SS7.out.1) ((b_.cell (p := ⟨w.heap.size, 1, none⟩) hd7).trans SS7.out.2)); have HB8 := Lib.hid (below_step HB7.out (Nat.le_of_lt hd7) b_); have zz_ := b_.size; have hd8 := Nat.lt_of_lt_of_le hd7 zz_; have RZ_8 := Lib.hid ((RZ_7.out.below b_ (Nat.le_refl _)).mono (Nat.le_refl _) zz_); rw [E_sd.out] at o_; rw [C_sd.out, E_sd.out]; have o_ := o_.row; have WR_8 := Lib.hid (o_.mono (Nat.le_of_lt hd7) (Nat.le_refl _)); clear o_; have kc8_0 := SS8.out.1; have kc8_1 := SS8.out.2; clear b_) | (go_at_call 12; (with_reducible refine (impl_IsVersor pS aS S cS w0.heap.size w.heap.size rz z kz w.heap.size w8.heap.size w8 (HS.out.below HB8.out tS) (Nat.le_trans tS (HB8.out).size) sS RZ_8.out (Nat.le_refl _) s_z).mono ?_); rintro e w9 ⟨rfl, b_⟩; have SS9 := Lib.hid (And.intro ((b_.cell (p := ⟨w.heap.size, 0, none⟩) hd8).trans SS8.out.1) ((b_.cell (p := ⟨w.heap.size, 1, none⟩) hd8).trans SS8.out.2)); have HB9 := Lib.hid (below_step HB8.out (Nat.le_of_lt hd8) b_); have zz_ := b_.size; have hd9 := Nat.lt_of_lt_of_le hd8 zz_; have RZ_9 := Lib.hid ((RZ_8.out.below b_ (Nat.le_refl _)).mono (Nat.le_refl _) zz_); have WR_9 := Lib.hid ((WR_8.out.below b_ (Nat.le_refl _)).mono (Nat.le_refl _) zz_); rw [C_rg.out, E_vr.out]; have kc9_0 := SS9.out.1; have kc9_1 := SS9.out.2; clear b_) | (go_at_call 8; (with_reducible refine (likeInts_same rw5 ay y kw5 cy w.heap.size w9.heap.size w0.heap.size w.heap.size w9 WR_9.out (Hy.out.below HB9.out tS) sy).mono ?_); rintro e w10 ⟨rfl, q_⟩; have b_ := q_.below w9.heap.size; have SS10 := Lib.hid (And.intro ((b_.cell (p := ⟨w.heap.size, 0, none⟩) hd9).trans SS9.out.1) ((b_.cell (p := ⟨w.heap.size, 1, none⟩) hd9).trans SS9.out.2)); have HB10 := Lib.hid (below_step HB9.out (Nat.le_of_lt hd9) b_); have zz_ := b_.size; have hd10 := Nat.lt_of_lt_of_le hd9 zz_; have WR_10 := Lib.hid ((WR_9.out.below b_ (Nat.le_refl _)).mono (Nat.le_refl _) zz_); have kc10_0 := SS10.out.1; have kc10_1 := SS10.out.2; clear q_; clear b_))
    go_ret
    exact ⟨rfl, HB00.out.trans (HB10.out.mono HB00.out.size)⟩

set_option maxRecDepth 100000 in
theorem law_fb (a : Option Addr) (len cap : Nat) (zs : List Int) (w : World) (hb : Code8 w a len zs) (hm : len ≤ 9223372036854775807) :
    Calls Try.prog 3 #[.slice a len cap] w fun e w' => e = .returned (.bool true) ∧ Below w.heap.size w w' := by
  by_cases hl : len ≤ 4096
  · exact law_fb_small a len cap zs w hb hl
  · clear hb
    go_enter Try.func3, Try.ntmps3
    go_wp2_with (go_at_call 4; refine (big_yes a len cap _ (by omega) hm).mono ?_; rintro e w' ⟨rfl, rfl⟩)
    go_ret
    exact ⟨rfl, Below.refl _ _⟩

end Go.Proofs.Ytgfanoejohpmkaa
