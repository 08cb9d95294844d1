/-
  The walk of the law on projections: FnProjections.
  Conditions: the code is nil or a row of known bytes.
-/
import Derived.Test.YtgfanoejohpmkaaGreatQp6
import Derived.Test.YtgfanoejohpmkaaGreatQp9
import Derived.Test.YtgfanoejohpmkaaGreatQp15
import Derived.Test.YtgfanoejohpmkaaGreatQp11
import Derived.Test.YtgfanoejohpmkaaGreatQp10
import Derived.Test.YtgfanoejohpmkaaGreatQp16
import Derived.Test.YtgfanoejohpmkaaGreatQp25
import Derived.Test.YtgfanoejohpmkaaGreatQp40
import Derived.Test.YtgfanoejohpmkaaGreatQp41
import Derived.Test.YtgfanoejohpmkaaGreatQp42
import Derived.Test.YtgfanoejohpmkaaGreatQp46
import Derived.Test.YtgfanoejohpmkaaGreatQp38
import Derived.Test.YtgfanoejohpmkaaGreatQp47
import Derived.Test.YtgfanoejohpmkaaGreatQp49
import Derived.Deep.RegionHeld3
import Derived.Deep.DeepCutAuto
namespace Go.Proofs.YtgfanoejohpmkaaGreat
open Go.RowKit
set_option linter.unusedVariables false
theorem nlr {n : Nat} : n ≤ n := Nat.le_refl n

theorem rf_ok {p : Int} {S u v : List Int} (hd : discN p S ≠ 0) (hs : isSp p S = true) (hu : isVec p S.length u = true) (hv : isVec p S.length v = true) (h0 : pairN p S u u ≠ 0) : rfC p S u v = 0 := by
  have h : rvC p S [u, v] = 0 := by
    unfold rvC
    rw [if_pos (codeVs_ok hs (by rw [mv_all2, hu, hv]; rfl)), if_neg hd]
  unfold rfC
  rw [if_pos h, if_neg h0]
theorem pj_cases (p : Int) (S x v : List Int) : (∃ k, k ≠ 0 ∧ codeI p S x v = k) ∨ codeI p S x v = 0 := by
  by_cases h : codeI p S x v = 0
  · exact .inr h
  · exact .inl ⟨_, h, rfl⟩
theorem vec_num {p : Int} {n : Nat} {v : List Int} (h : isVec p n v = true) : ∀ j, j < v.length → 0 ≤ v.getD j 0 ∧ v.getD j 0 < p := fun j hj => (isVec_iff.1 h).num (by rw [← (isVec_iff.1 h).len]; exact hj)
theorem zB_all {z : List Int} (h : ∀ j, j < z.length → z.getD j 0 = 0) : zB z = true := zB_iff.2 h

set_option maxRecDepth 100000 in
set_option maxHeartbeats 16000000 in
theorem law_pj_small (a0 : Option Addr) (len cap : Nat) (zs : List Int) (w0 : World) (hb : Code8 w0 a0 len zs) (hl : len ≤ 4096) :
    Calls Tryz.prog 5 #[.slice a0 len cap] w0 fun e w' => e = .returned (.bool true) ∧ Below w0.heap.size w0 w' := by
  have HC8 := Lib.hid hb
  clear hb
  go_enter Tryz.func5, Tryz.ntmps5
  go_upto_region 4 with (first | (go_at_call 11; refine (big_no a0 len cap _ hl).mono ?_; rintro e w' ⟨rfl, rfl⟩) | (go_at_call 35; (with_reducible refine (drawPj_any a0 len cap zs _ HC8.out hl).mono ?_); rintro e w ⟨pS, aS, S, cS, ax, x, cx, ay, y, cy, rfl, hX, hY, hZ, hS, hx, hy, hb0⟩; have HS := Lib.hid hS; have Hx := Lib.hid hx; have Hy := Lib.hid hy; have HB00 := Lib.hid hb0; have HL := Lib.hid (And.intro hX (And.intro hY hZ)); clear hS hx hy hb0 hX hY hZ))
  have tS : w.heap.size ≤ w.heap.size := Nat.le_refl _
  have sS : S.length ≤ 1048576 := by have := HL.out.1; omega
  have sx : x.length ≤ 1048576 := by have := HL.out.2.1; omega
  have sy : y.length ≤ 1048576 := by have := HL.out.2.2; omega
  obtain ⟨w1, hw1⟩ : ∃ z, z = w.alloc (.cells #[.int .i64 pS, .slice aS S.length cS] 26) := ⟨_, rfl⟩
  have SS1 : Hid (w1.cell? ⟨w.heap.size, 0, none⟩ = some (.int .i64 pS) ∧ w1.cell? ⟨w.heap.size, 1, none⟩ = some (.slice aS S.length cS)) := by show _ ∧ _; rw [hw1]; exact ⟨nw0 w _ _ _, nw1 w _ _ _⟩
  have HB1 : Hid (Below w.heap.size w w1) := by show Below _ _ _; rw [hw1]; exact below_alloc w _
  have hd1 : w.heap.size < w1.heap.size := by rw [hw1]; simp
  have kk0 := SS1.out.1
  have kk1 := SS1.out.2
  rw [← hw1]
  clear hw1
  rcases pj_cases pS S x y with ⟨kc, hk, hc⟩ | hc
  · have HC := Lib.hid hc
    obtain ⟨z, hz⟩ : ∃ z, z = splPV pS S x y := ⟨_, rfl⟩
    have EZ : Hid (splPV pS S x y = z) := hz.symm
    have s_z : z.length ≤ 1048576 := by rw [hz]; exact splPV_size _ _ _ _
    have hk1 : (kc != 0) = true := by simp [hk]
    have hk2 : (kc == 0) = false := by simp [hk]
    have hk3 : (kc != kc) = false := by simp
    clear hc hz hk
    go_wp2_with (first | (go_at_call 36; (with_reducible refine (impl_ProjectOnto pS aS S cS w0.heap.size w.heap.size ax x cx w0.heap.size w.heap.size ay y cy w0.heap.size w.heap.size w1 (HS.out.below HB1.out tS) (Nat.le_trans tS (HB1.out).size) sS (Hx.out.below HB1.out tS) (Nat.le_trans tS (HB1.out).size) sx (Hy.out.below HB1.out tS) (Nat.le_trans tS (HB1.out).size) sy).mono ?_); rintro e w2 ⟨rz, kz, rfl, o_, b_⟩; have SS2 := Lib.hid (And.intro ((b_.cell (p := ⟨w.heap.size, 0, none⟩) hd1).trans SS1.out.1) ((b_.cell (p := ⟨w.heap.size, 1, none⟩) hd1).trans SS1.out.2)); have HB2 := Lib.hid (below_step HB1.out (Nat.le_of_lt hd1) b_); have zz_ := b_.size; have hd2 := Nat.lt_of_lt_of_le hd1 zz_; rw [EZ.out] at o_; rw [HC.out, EZ.out]; have o_ := o_.row; have RZ_2 := Lib.hid (o_.mono (Nat.le_of_lt hd1) nlr); clear o_; have kc2_0 := SS2.out.1; have kc2_1 := SS2.out.2; clear b_) | (go_at_call 37; (with_reducible refine (spec_ProjectOnto pS aS S cS w0.heap.size w.heap.size ax x cx w0.heap.size w.heap.size ay y cy w0.heap.size w.heap.size w2 (HS.out.below HB2.out tS) (Nat.le_trans tS (HB2.out).size) sS (Hx.out.below HB2.out tS) (Nat.le_trans tS (HB2.out).size) sx (Hy.out.below HB2.out tS) (Nat.le_trans tS (HB2.out).size) sy).mono ?_); rintro e w3 ⟨rwt, kwt, rfl, o_, b_⟩; have SS3 := Lib.hid (And.intro ((b_.cell (p := ⟨w.heap.size, 0, none⟩) hd2).trans SS2.out.1) ((b_.cell (p := ⟨w.heap.size, 1, none⟩) hd2).trans SS2.out.2)); have HB3 := Lib.hid (below_step HB2.out (Nat.le_of_lt hd2) b_); have zz_ := b_.size; have hd3 := Nat.lt_of_lt_of_le hd2 zz_; have RZ_3 := Lib.hid ((RZ_2.out.below b_ nlr).mono nlr zz_); rw [EZ.out] at o_; rw [HC.out, EZ.out]; have WT_3 := Lib.hid (o_.mono (Nat.le_of_lt hd2) nlr); clear o_; have kc3_0 := SS3.out.1; have kc3_1 := SS3.out.2; clear b_) | (go_at_call 15; (with_reducible refine (likeInts_same rz rwt z kz kwt w.heap.size w3.heap.size w.heap.size w3.heap.size w3 RZ_3.out WT_3.out s_z).mono ?_); rintro e w4 ⟨rfl, q_⟩; have b_ := q_.below w3.heap.size; have SS4 := Lib.hid (And.intro ((b_.cell (p := ⟨w.heap.size, 0, none⟩) hd3).trans SS3.out.1) ((b_.cell (p := ⟨w.heap.size, 1, none⟩) hd3).trans SS3.out.2)); have HB4 := Lib.hid (below_step HB3.out (Nat.le_of_lt hd3) b_); have zz_ := b_.size; have hd4 := Nat.lt_of_lt_of_le hd3 zz_; have RZ_4 := Lib.hid ((RZ_3.out.below b_ nlr).mono nlr zz_); have WT_4 := Lib.hid ((WT_3.out.below b_ nlr).mono nlr zz_); have kc4_0 := SS4.out.1; have kc4_1 := SS4.out.2; clear q_; clear b_))
    go_ret
    exact ⟨rfl, HB00.out.trans (HB4.out.mono HB00.out.size)⟩
  · have HC := Lib.hid hc
    have PJ := Lib.hid (pj_of hc)
    have HB := Lib.hid (codeI_zero hc).2.2.2.2.2
    have HI := Lib.hid PJ.out.hs
    have HVY := Lib.hid PJ.out.hv
    have HP := Lib.hid (isSp_iff.1 HI.out).prime
    have hpb := prm_bd (isSp_iff.1 HI.out).prime
    have hp0 : 0 < pS := by omega
    have h6 := (isSp_iff.1 HI.out).hi
    have hyl := (isVec_iff.1 HVY.out).len
    obtain ⟨pw, hpw⟩ : ∃ v, v = prjM pS S x y := ⟨_, rfl⟩
    obtain ⟨rs, hrs⟩ : ∃ v, v = rsM pS S x y := ⟨_, rfl⟩
    obtain ⟨im, him⟩ : ∃ v, v = imM pS S x y := ⟨_, rfl⟩
    have E_pw : Hid (splPV pS S x y = pw) := by show _ = _; rw [hpw]; exact splP_ok hc
    have E_rs : Hid (splRV pS S x y = rs) := by show _ = _; rw [hrs]; exact splR_ok hc
    have E_im : Hid (splFV pS S x y = im) := by show _ = _; rw [him]; exact splF_ok hc
    have V_pw : Hid (isVec pS S.length pw = true) := by show _ = _; rw [hpw]; exact PJ.out.pv
    have V_rs : Hid (isVec pS S.length rs = true) := by show _ = _; rw [hrs]; exact rs_vec hp0 HVY.out
    have V_im : Hid (isVec pS S.length im = true) := by show _ = _; rw [him]; exact im_vec hp0 HVY.out
    have s_pw : pw.length ≤ 1048576 := by rw [(isVec_iff.1 V_pw.out).len]; exact sS
    have s_rs : rs.length ≤ 1048576 := by rw [(isVec_iff.1 V_rs.out).len]; exact sS
    have s_im : im.length ≤ 1048576 := by rw [(isVec_iff.1 V_im.out).len]; exact sS
    have C_ag : Hid (codeI pS S x im = 0) := codeI_ok HI.out HB.out PJ.out.hq V_im.out
    have E_ag : Hid (splFV pS S x im = y) := by show _ = _; rw [splF_ok C_ag.out, him]; exact PJ.out.twice
    have C_in : Hid (codeBV pS S x pw = 0) := codeBV_ok HI.out HB.out V_pw.out
    have E_in : Hid (hasV pS S x pw = true) := by show _ = _; rw [hpw]; exact PJ.out.has HB.out
    obtain ⟨bs, hbs⟩ : ∃ v, v = subM pS S x := ⟨_, rfl⟩
    have E_bs : Hid (subV pS S x = bs) := by show _ = _; unfold subV; rw [if_pos HB.out, hbs]
    obtain ⟨n, hn⟩ : ∃ v, v = pairN pS S y y := ⟨_, rfl⟩
    have NY := Lib.hid (code_vec2 HI.out HVY.out HVY.out)
    have NYV : Hid (pairV pS S y y = n) := by show _ = _; rw [hn]; exact NY.out.2
    have NI := Lib.hid (code_vec2 HI.out V_im.out V_im.out)
    have NIV : Hid (pairV pS S im im = n) := by show _ = _; rw [NI.out.2, him, hn]; exact PJ.out.norm
    have hnn : (n != n) = false := by simp
    obtain ⟨q, hq⟩ : ∃ v, v = sqX pS S x := ⟨_, rfl⟩
    have E_sq : Hid (sqB pS S x = q) := by show _ = _; unfold sqB; rw [if_pos HB.out, hq]; rfl
    have hq0 : (q == 0) = false := by rw [hq]; exact beq_eq_false_iff_ne.2 PJ.out.hq
    have E_su : Hid (plusR pS pw rs 1 = y) := by show _ = _; rw [hpw, hrs]; exact PJ.out.sum
    have E_le : Hid (plusR pS pw rs (-1) = im) := by show _ = _; rw [hpw, hrs, him]; exact PJ.out.less
    have LWR : Hid (pw.length = rs.length) := by show _ = _; rw [(isVec_iff.1 V_pw.out).len, (isVec_iff.1 V_rs.out).len]
    have HOR : Hid (∀ j, j < bs.length → pairN pS S (rw' bs j) rs = 0) := by show ∀ _, _; intro j hj; rw [hbs] at hj ⊢; rw [hrs]; exact PJ.out.orth hj
    have HBV : Hid (∀ j, j < bs.length → isVec pS S.length (rw' bs j) = true) := by show ∀ _, _; intro j hj; rw [hbs] at hj ⊢; exact sub_vec HI.out j hj
    have HON : Hid (bs.length = 1 → pairN pS S (rw' bs 0) (rw' bs 0) ≠ 0 ∧ ∀ i, i < y.length → ((rflM pS S (rw' bs 0) y).getD i 0 + 1 * im.getD i 0) % pS = 0) := by show _ → _; intro h; rw [hbs] at h ⊢; rw [him]; exact PJ.out.one h
    have D_0 : Hid (code1 pS S = 0) := by show _ = _; unfold code1; rw [if_pos HI.out]
    have s_y := sy
    have hl6 : bs.length ≤ 6 := by rw [hbs]; exact sub_le HI.out
    have HYL := Lib.hid hyl
    clear hc hpw hrs him hbs hn hq hyl
    go_upto_region 21 with (first | (go_at_call 36; (with_reducible refine (impl_ProjectOnto pS aS S cS w0.heap.size w.heap.size ax x cx w0.heap.size w.heap.size ay y cy w0.heap.size w.heap.size w1 (HS.out.below HB1.out tS) (Nat.le_trans tS (HB1.out).size) sS (Hx.out.below HB1.out tS) (Nat.le_trans tS (HB1.out).size) sx (Hy.out.below HB1.out tS) (Nat.le_trans tS (HB1.out).size) sy).mono ?_); rintro e w2 ⟨rpw, kpw, rfl, o_, b_⟩; have SS2 := Lib.hid (And.intro ((b_.cell (p := ⟨w.heap.size, 0, none⟩) hd1).trans SS1.out.1) ((b_.cell (p := ⟨w.heap.size, 1, none⟩) hd1).trans SS1.out.2)); have HB2 := Lib.hid (below_step HB1.out (Nat.le_of_lt hd1) b_); have zz_ := b_.size; have hd2 := Nat.lt_of_lt_of_le hd1 zz_; rw [E_pw.out] at o_; rw [HC.out, E_pw.out]; have o_ := o_.row; have PW_2 := Lib.hid (o_.mono (Nat.le_of_lt hd1) nlr); clear o_; have kc2_0 := SS2.out.1; have kc2_1 := SS2.out.2; clear b_) | (go_at_call 37; (with_reducible refine (spec_ProjectOnto pS aS S cS w0.heap.size w.heap.size ax x cx w0.heap.size w.heap.size ay y cy w0.heap.size w.heap.size w2 (HS.out.below HB2.out tS) (Nat.le_trans tS (HB2.out).size) sS (Hx.out.below HB2.out tS) (Nat.le_trans tS (HB2.out).size) sx (Hy.out.below HB2.out tS) (Nat.le_trans tS (HB2.out).size) sy).mono ?_); rintro e w3 ⟨rwt, kwt, rfl, o_, b_⟩; have SS3 := Lib.hid (And.intro ((b_.cell (p := ⟨w.heap.size, 0, none⟩) hd2).trans SS2.out.1) ((b_.cell (p := ⟨w.heap.size, 1, none⟩) hd2).trans SS2.out.2)); have HB3 := Lib.hid (below_step HB2.out (Nat.le_of_lt hd2) b_); have zz_ := b_.size; have hd3 := Nat.lt_of_lt_of_le hd2 zz_; have PW_3 := Lib.hid ((PW_2.out.below b_ nlr).mono nlr zz_); rw [E_pw.out] at o_; rw [HC.out, E_pw.out]; have WT_3 := Lib.hid (o_.mono (Nat.le_of_lt hd2) nlr); clear o_; have kc3_0 := SS3.out.1; have kc3_1 := SS3.out.2; clear b_) | (go_at_call 15; (with_reducible refine (likeInts_same rpw rwt pw kpw kwt w.heap.size w3.heap.size w.heap.size w3.heap.size w3 PW_3.out WT_3.out s_pw).mono ?_); rintro e w4 ⟨rfl, q_⟩; have b_ := q_.below w3.heap.size; have SS4 := Lib.hid (And.intro ((b_.cell (p := ⟨w.heap.size, 0, none⟩) hd3).trans SS3.out.1) ((b_.cell (p := ⟨w.heap.size, 1, none⟩) hd3).trans SS3.out.2)); have HB4 := Lib.hid (below_step HB3.out (Nat.le_of_lt hd3) b_); have zz_ := b_.size; have hd4 := Nat.lt_of_lt_of_le hd3 zz_; have PW_4 := Lib.hid ((PW_3.out.below b_ nlr).mono nlr zz_); have WT_4 := Lib.hid ((WT_3.out.below b_ nlr).mono nlr zz_); have kc4_0 := SS4.out.1; have kc4_1 := SS4.out.2; clear q_; clear b_) | (go_at_call 38; (with_reducible refine (impl_RejectFrom pS aS S cS w0.heap.size w.heap.size ax x cx w0.heap.size w.heap.size ay y cy w0.heap.size w.heap.size w4 (HS.out.below HB4.out tS) (Nat.le_trans tS (HB4.out).size) sS (Hx.out.below HB4.out tS) (Nat.le_trans tS (HB4.out).size) sx (Hy.out.below HB4.out tS) (Nat.le_trans tS (HB4.out).size) sy).mono ?_); rintro e w5 ⟨rrs, krs, rfl, o_, b_⟩; have SS5 := Lib.hid (And.intro ((b_.cell (p := ⟨w.heap.size, 0, none⟩) hd4).trans SS4.out.1) ((b_.cell (p := ⟨w.heap.size, 1, none⟩) hd4).trans SS4.out.2)); have HB5 := Lib.hid (below_step HB4.out (Nat.le_of_lt hd4) b_); have zz_ := b_.size; have hd5 := Nat.lt_of_lt_of_le hd4 zz_; have PW_5 := Lib.hid ((PW_4.out.below b_ nlr).mono nlr zz_); rw [E_rs.out] at o_; rw [HC.out, E_rs.out]; have o_ := o_.row; have RS_5 := Lib.hid (o_.mono (Nat.le_of_lt hd4) nlr); clear o_; have kc5_0 := SS5.out.1; have kc5_1 := SS5.out.2; clear b_) | (go_at_call 39; (with_reducible refine (impl_ReflectInBlade pS aS S cS w0.heap.size w.heap.size ax x cx w0.heap.size w.heap.size ay y cy w0.heap.size w.heap.size w5 (HS.out.below HB5.out tS) (Nat.le_trans tS (HB5.out).size) sS (Hx.out.below HB5.out tS) (Nat.le_trans tS (HB5.out).size) sx (Hy.out.below HB5.out tS) (Nat.le_trans tS (HB5.out).size) sy).mono ?_); rintro e w6 ⟨rim, kim, rfl, o_, b_⟩; have SS6 := Lib.hid (And.intro ((b_.cell (p := ⟨w.heap.size, 0, none⟩) hd5).trans SS5.out.1) ((b_.cell (p := ⟨w.heap.size, 1, none⟩) hd5).trans SS5.out.2)); have HB6 := Lib.hid (below_step HB5.out (Nat.le_of_lt hd5) b_); have zz_ := b_.size; have hd6 := Nat.lt_of_lt_of_le hd5 zz_; have PW_6 := Lib.hid ((PW_5.out.below b_ nlr).mono nlr zz_); have RS_6 := Lib.hid ((RS_5.out.below b_ nlr).mono nlr zz_); rw [E_im.out] at o_; rw [HC.out, E_im.out]; have o_ := o_.row; have IM_6 := Lib.hid (o_.mono (Nat.le_of_lt hd5) nlr); clear o_; have kc6_0 := SS6.out.1; have kc6_1 := SS6.out.2; clear b_) | (go_at_call 39; (with_reducible refine (impl_ReflectInBlade pS aS S cS w0.heap.size w.heap.size ax x cx w0.heap.size w.heap.size rim im kim w.heap.size w6.heap.size w6 (HS.out.below HB6.out tS) (Nat.le_trans tS (HB6.out).size) sS (Hx.out.below HB6.out tS) (Nat.le_trans tS (HB6.out).size) sx IM_6.out nlr s_im).mono ?_); rintro e w7 ⟨rag, kag, rfl, o_, b_⟩; have SS7 := Lib.hid (And.intro ((b_.cell (p := ⟨w.heap.size, 0, none⟩) hd6).trans SS6.out.1) ((b_.cell (p := ⟨w.heap.size, 1, none⟩) hd6).trans SS6.out.2)); have HB7 := Lib.hid (below_step HB6.out (Nat.le_of_lt hd6) b_); have zz_ := b_.size; have hd7 := Nat.lt_of_lt_of_le hd6 zz_; have PW_7 := Lib.hid ((PW_6.out.below b_ nlr).mono nlr zz_); have RS_7 := Lib.hid ((RS_6.out.below b_ nlr).mono nlr zz_); have IM_7 := Lib.hid ((IM_6.out.below b_ nlr).mono nlr zz_); rw [E_ag.out] at o_; rw [C_ag.out, E_ag.out]; have o_ := o_.row; have AG_7 := Lib.hid (o_.mono (Nat.le_of_lt hd6) nlr); clear o_; have kc7_0 := SS7.out.1; have kc7_1 := SS7.out.2; clear b_) | (go_at_call 40; (with_reducible refine (impl_BladeContains pS aS S cS w0.heap.size w.heap.size ax x cx w0.heap.size w.heap.size rpw pw kpw w.heap.size w7.heap.size w7 (HS.out.below HB7.out tS) (Nat.le_trans tS (HB7.out).size) sS (Hx.out.below HB7.out tS) (Nat.le_trans tS (HB7.out).size) sx PW_7.out nlr s_pw).mono ?_); rintro e w8 ⟨rfl, b_⟩; have SS8 := Lib.hid (And.intro ((b_.cell (p := ⟨w.heap.size, 0, none⟩) hd7).trans SS7.out.1) ((b_.cell (p := ⟨w.heap.size, 1, none⟩) hd7).trans SS7.out.2)); have HB8 := Lib.hid (below_step HB7.out (Nat.le_of_lt hd7) b_); have zz_ := b_.size; have hd8 := Nat.lt_of_lt_of_le hd7 zz_; have PW_8 := Lib.hid ((PW_7.out.below b_ nlr).mono nlr zz_); have RS_8 := Lib.hid ((RS_7.out.below b_ nlr).mono nlr zz_); have IM_8 := Lib.hid ((IM_7.out.below b_ nlr).mono nlr zz_); have AG_8 := Lib.hid ((AG_7.out.below b_ nlr).mono nlr zz_); rw [C_in.out, E_in.out]; have kc8_0 := SS8.out.1; have kc8_1 := SS8.out.2; clear b_) | (go_at_call 41; (with_reducible refine (impl_SubspaceOf pS aS S cS w0.heap.size w.heap.size ax x cx w0.heap.size w.heap.size w8 (HS.out.below HB8.out tS) (Nat.le_trans tS (HB8.out).size) sS (Hx.out.below HB8.out tS) (Nat.le_trans tS (HB8.out).size) sx).mono ?_); rintro e w9 ⟨rbs, kbs, rfl, o_, b_⟩; have SS9 := Lib.hid (And.intro ((b_.cell (p := ⟨w.heap.size, 0, none⟩) hd8).trans SS8.out.1) ((b_.cell (p := ⟨w.heap.size, 1, none⟩) hd8).trans SS8.out.2)); have HB9 := Lib.hid (below_step HB8.out (Nat.le_of_lt hd8) b_); have zz_ := b_.size; have hd9 := Nat.lt_of_lt_of_le hd8 zz_; have PW_9 := Lib.hid ((PW_8.out.below b_ nlr).mono nlr zz_); have RS_9 := Lib.hid ((RS_8.out.below b_ nlr).mono nlr zz_); have IM_9 := Lib.hid ((IM_8.out.below b_ nlr).mono nlr zz_); have AG_9 := Lib.hid ((AG_8.out.below b_ nlr).mono nlr zz_); rw [E_bs.out] at o_; rw [HB.out, E_bs.out]; have BS_9 := Lib.hid (o_.mat.mono (Nat.le_of_lt hd8) nlr); clear o_; have kc9_0 := SS9.out.1; have kc9_1 := SS9.out.2; clear b_) | (go_at_call 23; (with_reducible refine (impl_NormOf pS aS S cS w0.heap.size w.heap.size ay y cy w0.heap.size w.heap.size w9 (HS.out.below HB9.out tS) (Nat.le_trans tS (HB9.out).size) sS (Hy.out.below HB9.out tS) (Nat.le_trans tS (HB9.out).size) sy).mono ?_); rintro e w10 ⟨rfl, b_⟩; have SS10 := Lib.hid (And.intro ((b_.cell (p := ⟨w.heap.size, 0, none⟩) hd9).trans SS9.out.1) ((b_.cell (p := ⟨w.heap.size, 1, none⟩) hd9).trans SS9.out.2)); have HB10 := Lib.hid (below_step HB9.out (Nat.le_of_lt hd9) b_); have zz_ := b_.size; have hd10 := Nat.lt_of_lt_of_le hd9 zz_; have PW_10 := Lib.hid ((PW_9.out.below b_ nlr).mono nlr zz_); have RS_10 := Lib.hid ((RS_9.out.below b_ nlr).mono nlr zz_); have IM_10 := Lib.hid ((IM_9.out.below b_ nlr).mono nlr zz_); have AG_10 := Lib.hid ((AG_9.out.below b_ nlr).mono nlr zz_); have BS_10 := Lib.hid ((BS_9.out.below b_ nlr).mono nlr zz_); rw [NY.out.1, NYV.out]; have kc10_0 := SS10.out.1; have kc10_1 := SS10.out.2; clear b_) | (go_at_call 23; (with_reducible refine (impl_NormOf pS aS S cS w0.heap.size w.heap.size rim im kim w.heap.size w10.heap.size w10 (HS.out.below HB10.out tS) (Nat.le_trans tS (HB10.out).size) sS IM_10.out nlr s_im).mono ?_); rintro e w11 ⟨rfl, b_⟩; have SS11 := Lib.hid (And.intro ((b_.cell (p := ⟨w.heap.size, 0, none⟩) hd10).trans SS10.out.1) ((b_.cell (p := ⟨w.heap.size, 1, none⟩) hd10).trans SS10.out.2)); have HB11 := Lib.hid (below_step HB10.out (Nat.le_of_lt hd10) b_); have zz_ := b_.size; have hd11 := Nat.lt_of_lt_of_le hd10 zz_; have PW_11 := Lib.hid ((PW_10.out.below b_ nlr).mono nlr zz_); have RS_11 := Lib.hid ((RS_10.out.below b_ nlr).mono nlr zz_); have IM_11 := Lib.hid ((IM_10.out.below b_ nlr).mono nlr zz_); have AG_11 := Lib.hid ((AG_10.out.below b_ nlr).mono nlr zz_); have BS_11 := Lib.hid ((BS_10.out.below b_ nlr).mono nlr zz_); rw [NI.out.1, NIV.out]; have kc11_0 := SS11.out.1; have kc11_1 := SS11.out.2; clear b_) | (go_at_call 42; (with_reducible refine (impl_BladeSquare pS aS S cS w0.heap.size w.heap.size ax x cx w0.heap.size w.heap.size w11 (HS.out.below HB11.out tS) (Nat.le_trans tS (HB11.out).size) sS (Hx.out.below HB11.out tS) (Nat.le_trans tS (HB11.out).size) sx).mono ?_); rintro e w12 ⟨rfl, b_⟩; have SS12 := Lib.hid (And.intro ((b_.cell (p := ⟨w.heap.size, 0, none⟩) hd11).trans SS11.out.1) ((b_.cell (p := ⟨w.heap.size, 1, none⟩) hd11).trans SS11.out.2)); have HB12 := Lib.hid (below_step HB11.out (Nat.le_of_lt hd11) b_); have zz_ := b_.size; have hd12 := Nat.lt_of_lt_of_le hd11 zz_; have PW_12 := Lib.hid ((PW_11.out.below b_ nlr).mono nlr zz_); have RS_12 := Lib.hid ((RS_11.out.below b_ nlr).mono nlr zz_); have IM_12 := Lib.hid ((IM_11.out.below b_ nlr).mono nlr zz_); have AG_12 := Lib.hid ((AG_11.out.below b_ nlr).mono nlr zz_); have BS_12 := Lib.hid ((BS_11.out.below b_ nlr).mono nlr zz_); rw [HB.out, E_sq.out]; have kc12_0 := SS12.out.1; have kc12_1 := SS12.out.2; clear b_) | (go_at_call 15; (with_reducible refine (likeInts_same rag ay y kag cy w.heap.size w12.heap.size w0.heap.size w.heap.size w12 AG_12.out (Hy.out.below HB12.out tS) sy).mono ?_); rintro e w13 ⟨rfl, q_⟩; have b_ := q_.below w12.heap.size; have SS13 := Lib.hid (And.intro ((b_.cell (p := ⟨w.heap.size, 0, none⟩) hd12).trans SS12.out.1) ((b_.cell (p := ⟨w.heap.size, 1, none⟩) hd12).trans SS12.out.2)); have HB13 := Lib.hid (below_step HB12.out (Nat.le_of_lt hd12) b_); have zz_ := b_.size; have hd13 := Nat.lt_of_lt_of_le hd12 zz_; have PW_13 := Lib.hid ((PW_12.out.below b_ nlr).mono nlr zz_); have RS_13 := Lib.hid ((RS_12.out.below b_ nlr).mono nlr zz_); have IM_13 := Lib.hid ((IM_12.out.below b_ nlr).mono nlr zz_); have AG_13 := Lib.hid ((AG_12.out.below b_ nlr).mono nlr zz_); have BS_13 := Lib.hid ((BS_12.out.below b_ nlr).mono nlr zz_); have kc13_0 := SS13.out.1; have kc13_1 := SS13.out.2; clear q_; clear b_) | (go_at_call 43; (with_reducible refine (plus5_any pS 1 rpw rrs pw rs kpw krs w.heap.size w13.heap.size w.heap.size w13.heap.size w13 HP.out PW_13.out RS_13.out nlr nlr LWR.out s_pw (vec_num V_pw.out) (vec_num V_rs.out) (by omega) (by omega)).mono ?_); rintro e w14 ⟨rsu, ksu, rfl, o_, b_⟩; have SS14 := Lib.hid (And.intro ((b_.cell (p := ⟨w.heap.size, 0, none⟩) hd13).trans SS13.out.1) ((b_.cell (p := ⟨w.heap.size, 1, none⟩) hd13).trans SS13.out.2)); have HB14 := Lib.hid (below_step HB13.out (Nat.le_of_lt hd13) b_); have zz_ := b_.size; have hd14 := Nat.lt_of_lt_of_le hd13 zz_; have PW_14 := Lib.hid ((PW_13.out.below b_ nlr).mono nlr zz_); have RS_14 := Lib.hid ((RS_13.out.below b_ nlr).mono nlr zz_); have IM_14 := Lib.hid ((IM_13.out.below b_ nlr).mono nlr zz_); have BS_14 := Lib.hid ((BS_13.out.below b_ nlr).mono nlr zz_); rw [E_su.out] at o_ ⊢; have o_ := o_.row; have SU_14 := Lib.hid (o_.mono (Nat.le_of_lt hd13) nlr); clear o_; have kc14_0 := SS14.out.1; have kc14_1 := SS14.out.2; clear b_) | (go_at_call 15; (with_reducible refine (likeInts_same rsu ay y ksu cy w.heap.size w14.heap.size w0.heap.size w.heap.size w14 SU_14.out (Hy.out.below HB14.out tS) sy).mono ?_); rintro e w15 ⟨rfl, q_⟩; have b_ := q_.below w14.heap.size; have SS15 := Lib.hid (And.intro ((b_.cell (p := ⟨w.heap.size, 0, none⟩) hd14).trans SS14.out.1) ((b_.cell (p := ⟨w.heap.size, 1, none⟩) hd14).trans SS14.out.2)); have HB15 := Lib.hid (below_step HB14.out (Nat.le_of_lt hd14) b_); have zz_ := b_.size; have hd15 := Nat.lt_of_lt_of_le hd14 zz_; have PW_15 := Lib.hid ((PW_14.out.below b_ nlr).mono nlr zz_); have RS_15 := Lib.hid ((RS_14.out.below b_ nlr).mono nlr zz_); have IM_15 := Lib.hid ((IM_14.out.below b_ nlr).mono nlr zz_); have BS_15 := Lib.hid ((BS_14.out.below b_ nlr).mono nlr zz_); have SU_15 := Lib.hid ((SU_14.out.below b_ nlr).mono nlr zz_); have kc15_0 := SS15.out.1; have kc15_1 := SS15.out.2; clear q_; clear b_) | (go_at_call 43; (with_reducible refine (minus5_any pS (-1) rpw rrs pw rs kpw krs w.heap.size w15.heap.size w.heap.size w15.heap.size w15 HP.out PW_15.out RS_15.out nlr nlr LWR.out s_pw (vec_num V_pw.out) (vec_num V_rs.out) rfl).mono ?_); rintro e w16 ⟨rle, kle, rfl, o_, b_⟩; have SS16 := Lib.hid (And.intro ((b_.cell (p := ⟨w.heap.size, 0, none⟩) hd15).trans SS15.out.1) ((b_.cell (p := ⟨w.heap.size, 1, none⟩) hd15).trans SS15.out.2)); have HB16 := Lib.hid (below_step HB15.out (Nat.le_of_lt hd15) b_); have zz_ := b_.size; have hd16 := Nat.lt_of_lt_of_le hd15 zz_; have PW_16 := Lib.hid ((PW_15.out.below b_ nlr).mono nlr zz_); have RS_16 := Lib.hid ((RS_15.out.below b_ nlr).mono nlr zz_); have IM_16 := Lib.hid ((IM_15.out.below b_ nlr).mono nlr zz_); have BS_16 := Lib.hid ((BS_15.out.below b_ nlr).mono nlr zz_); rw [E_le.out] at o_ ⊢; have o_ := o_.row; have LE_16 := Lib.hid (o_.mono (Nat.le_of_lt hd15) nlr); clear o_; have kc16_0 := SS16.out.1; have kc16_1 := SS16.out.2; clear b_) | (go_at_call 15; (with_reducible refine (likeInts_same rle rim im kle kim w.heap.size w16.heap.size w.heap.size w16.heap.size w16 LE_16.out IM_16.out s_im).mono ?_); rintro e w17 ⟨rfl, q_⟩; have b_ := q_.below w16.heap.size; have SS17 := Lib.hid (And.intro ((b_.cell (p := ⟨w.heap.size, 0, none⟩) hd16).trans SS16.out.1) ((b_.cell (p := ⟨w.heap.size, 1, none⟩) hd16).trans SS16.out.2)); have HB17 := Lib.hid (below_step HB16.out (Nat.le_of_lt hd16) b_); have zz_ := b_.size; have hd17 := Nat.lt_of_lt_of_le hd16 zz_; have PW_17 := Lib.hid ((PW_16.out.below b_ nlr).mono nlr zz_); have RS_17 := Lib.hid ((RS_16.out.below b_ nlr).mono nlr zz_); have IM_17 := Lib.hid ((IM_16.out.below b_ nlr).mono nlr zz_); have BS_17 := Lib.hid ((BS_16.out.below b_ nlr).mono nlr zz_); have LE_17 := Lib.hid ((LE_16.out.below b_ nlr).mono nlr zz_); have kc17_0 := SS17.out.1; have kc17_1 := SS17.out.2; clear q_; clear b_))
    go_loopw [26] (fun t wr => ∃ k : Nat, k ≤ bs.length ∧ t = .int .i64 k ∧ (wr.cell? ⟨w.heap.size, 0, none⟩ = some (.int .i64 pS) ∧ wr.cell? ⟨w.heap.size, 1, none⟩ = some (.slice aS S.length cS)) ∧ Below w.heap.size w wr ∧ w.heap.size < wr.heap.size ∧ RowIn w.heap.size wr.heap.size wr rrs rs ∧ RowIn w.heap.size wr.heap.size wr rim im ∧ MatIn w.heap.size wr.heap.size wr rbs bs) (fun t _ => bs.length - (intOf t).toNat)
    case atStart => exact ⟨0, Nat.zero_le _, rfl, SS17.out, HB17.out, hd17, RS_17.out, IM_17.out, BS_17.out⟩
    case round =>
      obtain ⟨k, hk, rfl, hss, hbw, hdw, hrs, him, hbs⟩ := hrel
      have SSw := Lib.hid hss
      have HBw := Lib.hid hbw
      have RS_w := Lib.hid hrs
      have IM_w := Lib.hid him
      have BS_w := Lib.hid hbs
      have kw0 := SSw.out.1
      have kw1 := SSw.out.2
      clear hss hbw hrs him hbs
      clear RS_17 IM_17 BS_17
      by_cases hlt : k < bs.length
      · obtain ⟨b9, o9, rq, cq, ha9, hb8, hb9, hr9, hrow⟩ := BS_w.out.row hlt
        subst ha9
        have hi1 : (k : Int) < (bs.length : Int) := by omega
        have HJV := Lib.hid (HBV.out k hlt)
        have s_J : (rw' bs k).length ≤ 1048576 := by rw [(isVec_iff.1 HJV.out).len]; exact sS
        have CP := Lib.hid (code_vec2 HI.out HJV.out V_rs.out)
        have VP : Hid (pairV pS S (rw' bs k) rs = 0) := by show _ = _; rw [CP.out.2]; exact HOR.out k hlt
        have HQ_w := Lib.hid hrow
        have HC_w := Lib.hid hr9
        clear hrow hr9
        have SS101 : Hid (wr.drew.cell? ⟨w.heap.size, 0, none⟩ = some (.int .i64 pS) ∧ wr.drew.cell? ⟨w.heap.size, 1, none⟩ = some (.slice aS S.length cS)) := SSw.out
        have HB101 : Hid (Below w.heap.size w wr.drew) := (HBw.out).drew
        have hd101 : w.heap.size < wr.drew.heap.size := hdw
        have RS_101 := Lib.hid ((RS_w.out.below (below_drew wr) nlr).mono nlr (size_drew wr))
        have IM_101 := Lib.hid ((IM_w.out.below (below_drew wr) nlr).mono nlr (size_drew wr))
        have BS_101 := Lib.hid ((BS_w.out.below (below_drew wr) nlr).mono nlr (size_drew wr))
        have HC101 : Hid (wr.drew.cell? ⟨b9, o9 + k, none⟩ = some (.slice rq (rw' bs k).length cq)) := HC_w.out
        have HQ101 : Hid (RowIn w.heap.size wr.drew.heap.size wr.drew rq (rw' bs k)) := (HQ_w.out.below (below_drew _) nlr).mono nlr (size_drew _)
        go_wp2
        go_region_held3 (fun w' => w'.cell? ⟨w.heap.size, 0, none⟩ = some (.int .i64 pS) ∧ w'.cell? ⟨w.heap.size, 1, none⟩ = some (.slice aS S.length cS) ∧ w'.cell? ⟨b9, o9 + k, none⟩ = some (.slice rq (rw' bs k).length cq)) (first | exact ⟨SS101.out.1, SS101.out.2, HC101.out⟩ | exact ⟨SS102.out.1, SS102.out.2, HC102.out⟩ | go_keep) (first | (go_at_call 44; (with_reducible refine (impl_PairOf pS aS S cS w0.heap.size w.heap.size rq (rw' bs k) cq w.heap.size wr.drew.heap.size rrs rs krs w.heap.size wr.drew.heap.size wr.drew (HS.out.below HB101.out tS) (Nat.le_trans tS (HB101.out).size) sS HQ101.out nlr s_J RS_101.out nlr s_rs).mono ?_); rintro e w102 ⟨rfl, b_⟩; have SS102 := Lib.hid (And.intro ((b_.cell (p := ⟨w.heap.size, 0, none⟩) hd101).trans SS101.out.1) ((b_.cell (p := ⟨w.heap.size, 1, none⟩) hd101).trans SS101.out.2)); have HB102 := Lib.hid (below_step HB101.out (Nat.le_of_lt hd101) b_); have zz_ := b_.size; have hd102 := Nat.lt_of_lt_of_le hd101 zz_; have RS_102 := Lib.hid ((RS_101.out.below b_ nlr).mono nlr zz_); have IM_102 := Lib.hid ((IM_101.out.below b_ nlr).mono nlr zz_); have BS_102 := Lib.hid ((BS_101.out.below b_ nlr).mono nlr zz_); rw [CP.out.1, VP.out]; have HC102 := Lib.hid ((b_.cell (p := ⟨b9, o9 + k, none⟩) (Nat.lt_of_lt_of_le hb9 nlr)).trans HC101.out); have HQ102 := Lib.hid ((HQ101.out.below b_ nlr).mono nlr zz_); have kc102_0 := SS102.out.1; have kc102_1 := SS102.out.2; clear b_))
        go_wp2
        go_roundw
        case rel => exact ⟨k + 1, by omega, by go_num, SS102.out, HB102.out, hd102, RS_102.out, IM_102.out, BS_102.out⟩
        case measure => (simp [intOf] <;> omega)
      · have hi1 : ¬ (k : Int) < (bs.length : Int) := by omega
        clear hk
        by_cases hd : discN pS S = 0
        · have RG : Hid (regV pS S = false) := by show _ = _; unfold regV; rw [if_pos HI.out]; simp [hd]
          clear hd
          go_wp2_with (first | (go_at_call 45; (with_reducible refine (impl_IsRegular pS aS S cS w0.heap.size w.heap.size wr (HS.out.below HBw.out tS) (Nat.le_trans tS (HBw.out).size) sS).mono ?_); rintro e w101 ⟨rfl, b_⟩; have SS101 := Lib.hid (And.intro ((b_.cell (p := ⟨w.heap.size, 0, none⟩) hdw).trans SSw.out.1) ((b_.cell (p := ⟨w.heap.size, 1, none⟩) hdw).trans SSw.out.2)); have HB101 := Lib.hid (below_step HBw.out (Nat.le_of_lt hdw) b_); have zz_ := b_.size; have hd101 := Nat.lt_of_lt_of_le hdw zz_; have RS_101 := Lib.hid ((RS_w.out.below b_ nlr).mono nlr zz_); have IM_101 := Lib.hid ((IM_w.out.below b_ nlr).mono nlr zz_); have BS_101 := Lib.hid ((BS_w.out.below b_ nlr).mono nlr zz_); rw [D_0.out, RG.out]; have kc101_0 := SS101.out.1; have kc101_1 := SS101.out.2; clear b_))
          go_ret
          exact ⟨rfl, HB00.out.trans (HB101.out.mono HB00.out.size)⟩
        · have RG : Hid (regV pS S = true) := by show _ = _; unfold regV; rw [if_pos HI.out]; simp [hd]
          have HD := Lib.hid hd
          clear hd
          by_cases h1 : bs.length = 1
          · have hb1 : ((bs.length : Int) != 1) = false := by simp [h1]
            have hb2 : ((bs.length : Int) == 1) = true := by simp [h1]
            have hb0 : (0 : Int) < (bs.length : Int) := by omega
            have hlt0 : 0 < bs.length := by omega
            obtain ⟨hone, hzer⟩ := HON.out h1
            have HONE := Lib.hid hone
            have HZER := Lib.hid hzer
            obtain ⟨b9, o9, rq, cq, ha9, hb8, hb9, hr9, hrow⟩ := BS_w.out.row hlt0
            subst ha9
            rw [Nat.add_zero] at hr9
            have HJV := Lib.hid (HBV.out 0 hlt0)
            have s_J : (rw' bs 0).length ≤ 1048576 := by rw [(isVec_iff.1 HJV.out).len]; exact sS
            have HQ_w := Lib.hid hrow
            have HC_w := Lib.hid hr9
            obtain ⟨ot, hot⟩ : ∃ v, v = rflM pS S (rw' bs 0) y := ⟨_, rfl⟩
            have V_ot : Hid (isVec pS S.length ot = true) := by show _ = _; rw [hot]; exact rfl_vec7 hp0 HVY.out
            have s_ot : ot.length ≤ 1048576 := by rw [(isVec_iff.1 V_ot.out).len]; exact sS
            have C_rf : Hid (rfC pS S (rw' bs 0) y = 0) := rf_ok HD.out HI.out HJV.out HVY.out HONE.out
            have E_rf : Hid (rfV pS S (rw' bs 0) y = ot) := by show _ = _; unfold rfV; rw [if_pos C_rf.out, hot]
            obtain ⟨pz, hpz⟩ : ∃ v, v = plusR pS ot im 1 := ⟨_, rfl⟩
            have E_pz : Hid (plusR pS ot im 1 = pz) := hpz.symm
            have LOI : Hid (ot.length = im.length) := by show _ = _; rw [(isVec_iff.1 V_ot.out).len, (isVec_iff.1 V_im.out).len]
            have hle : ((ot.length : Int) == (im.length : Int)) = true := by rw [LOI.out]; simp
            have HXX := Lib.hid (Nat.le_refl 0)
            have s_pz : pz.length ≤ 1048576 := by rw [hpz]; unfold plusR; rw [mkR_len]; exact s_ot
            have E_zz : Hid (zB pz = true) := zB_all fun j hj => by
              rw [hpz] at hj ⊢
              unfold plusR at hj ⊢
              rw [mkR_len] at hj
              rw [mkR_at _ hj, hot]
              exact HZER.out j (by rw [HYL.out, ← (isVec_iff.1 V_ot.out).len]; exact hj)
            clear hrow hr9 hone hzer hot hpz h1
            go_upto_region 29 with (first | (go_at_call 45; (with_reducible refine (impl_IsRegular pS aS S cS w0.heap.size w.heap.size wr (HS.out.below HBw.out tS) (Nat.le_trans tS (HBw.out).size) sS).mono ?_); rintro e w101 ⟨rfl, b_⟩; have SS101 := Lib.hid (And.intro ((b_.cell (p := ⟨w.heap.size, 0, none⟩) hdw).trans SSw.out.1) ((b_.cell (p := ⟨w.heap.size, 1, none⟩) hdw).trans SSw.out.2)); have HB101 := Lib.hid (below_step HBw.out (Nat.le_of_lt hdw) b_); have zz_ := b_.size; have hd101 := Nat.lt_of_lt_of_le hdw zz_; have RS_101 := Lib.hid ((RS_w.out.below b_ nlr).mono nlr zz_); have IM_101 := Lib.hid ((IM_w.out.below b_ nlr).mono nlr zz_); have BS_101 := Lib.hid ((BS_w.out.below b_ nlr).mono nlr zz_); rw [D_0.out, RG.out]; have HC101 := Lib.hid ((b_.cell (p := ⟨b9, o9, none⟩) (Nat.lt_of_lt_of_le hb9 nlr)).trans HC_w.out); have HQ101 := Lib.hid ((HQ_w.out.below b_ nlr).mono nlr zz_); have hb9r := Nat.lt_of_lt_of_le hb9 zz_; have kc101_0 := SS101.out.1; have kc101_1 := SS101.out.2; clear b_))
            have SS102 : Hid (w101.drew.cell? ⟨w.heap.size, 0, none⟩ = some (.int .i64 pS) ∧ w101.drew.cell? ⟨w.heap.size, 1, none⟩ = some (.slice aS S.length cS)) := SS101.out
            have HB102 : Hid (Below w.heap.size w w101.drew) := (HB101.out).drew
            have hd102 : w.heap.size < w101.drew.heap.size := hd101
            have RS_102 := Lib.hid ((RS_101.out.below (below_drew w101) nlr).mono nlr (size_drew w101))
            have IM_102 := Lib.hid ((IM_101.out.below (below_drew w101) nlr).mono nlr (size_drew w101))
            have BS_102 := Lib.hid ((BS_101.out.below (below_drew w101) nlr).mono nlr (size_drew w101))
            have HC102 : Hid (w101.drew.cell? ⟨b9, o9, none⟩ = some (.slice rq (rw' bs 0).length cq)) := HC101.out
            have HQ102 : Hid (RowIn w.heap.size w101.drew.heap.size w101.drew rq (rw' bs 0)) := (HQ101.out.below (below_drew _) nlr).mono nlr (size_drew _)
            go_region_held3 (fun w' => w'.cell? ⟨w.heap.size, 0, none⟩ = some (.int .i64 pS) ∧ w'.cell? ⟨w.heap.size, 1, none⟩ = some (.slice aS S.length cS) ∧ w'.cell? ⟨b9, o9, none⟩ = some (.slice rq (rw' bs 0).length cq)) (first | exact ⟨SS102.out.1, SS102.out.2, HC102.out⟩ | exact ⟨SS103.out.1, SS103.out.2, HC103.out⟩ | go_keep) (first | (go_at_call 24; (with_reducible refine (impl_ReflectIn pS aS S cS w0.heap.size w.heap.size rq (rw' bs 0) cq w.heap.size w101.drew.heap.size ay y cy w0.heap.size w.heap.size w101.drew (HS.out.below HB102.out tS) (Nat.le_trans tS (HB102.out).size) sS HQ102.out nlr s_J (Hy.out.below HB102.out tS) (Nat.le_trans tS (HB102.out).size) sy).mono ?_); rintro e w103 ⟨rot, kot, rfl, o_, b_⟩; have SS103 := Lib.hid (And.intro ((b_.cell (p := ⟨w.heap.size, 0, none⟩) hd102).trans SS102.out.1) ((b_.cell (p := ⟨w.heap.size, 1, none⟩) hd102).trans SS102.out.2)); have HB103 := Lib.hid (below_step HB102.out (Nat.le_of_lt hd102) b_); have zz_ := b_.size; have hd103 := Nat.lt_of_lt_of_le hd102 zz_; have RS_103 := Lib.hid ((RS_102.out.below b_ nlr).mono nlr zz_); have IM_103 := Lib.hid ((IM_102.out.below b_ nlr).mono nlr zz_); have BS_103 := Lib.hid ((BS_102.out.below b_ nlr).mono nlr zz_); rw [E_rf.out] at o_; rw [C_rf.out, E_rf.out]; have o_ := o_.row; have OT_103 := Lib.hid (o_.mono (Nat.le_of_lt hd102) nlr); clear o_; have HC103 := Lib.hid ((b_.cell (p := ⟨b9, o9, none⟩) (Nat.lt_of_lt_of_le hb9r nlr)).trans HC102.out); have HQ103 := Lib.hid ((HQ102.out.below b_ nlr).mono nlr zz_); have kc103_0 := SS103.out.1; have kc103_1 := SS103.out.2; clear b_))
            go_wp2_with (first | (go_at_call 43; (with_reducible refine (plus5_any pS 1 rot rim ot im kot kim w.heap.size w103.heap.size w.heap.size w103.heap.size w103 HP.out OT_103.out IM_103.out nlr nlr LOI.out s_ot (vec_num V_ot.out) (vec_num V_im.out) (by omega) (by omega)).mono ?_); rintro e w104 ⟨rpz, kpz, rfl, o_, b_⟩; have SS104 := Lib.hid (And.intro ((b_.cell (p := ⟨w.heap.size, 0, none⟩) hd103).trans SS103.out.1) ((b_.cell (p := ⟨w.heap.size, 1, none⟩) hd103).trans SS103.out.2)); have HB104 := Lib.hid (below_step HB103.out (Nat.le_of_lt hd103) b_); have zz_ := b_.size; have hd104 := Nat.lt_of_lt_of_le hd103 zz_; have RS_104 := Lib.hid ((RS_103.out.below b_ nlr).mono nlr zz_); have IM_104 := Lib.hid ((IM_103.out.below b_ nlr).mono nlr zz_); have BS_104 := Lib.hid ((BS_103.out.below b_ nlr).mono nlr zz_); have OT_104 := Lib.hid ((OT_103.out.below b_ nlr).mono nlr zz_); rw [E_pz.out] at o_ ⊢; have o_ := o_.row; have PZ_104 := Lib.hid (o_.mono (Nat.le_of_lt hd103) nlr); clear o_; have kc104_0 := SS104.out.1; have kc104_1 := SS104.out.2; clear b_) | (go_at_call 46; (with_reducible refine (zero5_any rpz pz kpz w.heap.size w104.heap.size w104 PZ_104.out s_pz).mono ?_); rintro e w105 ⟨rfl, q_⟩; have b_ := q_.below w104.heap.size; have SS105 := Lib.hid (And.intro ((b_.cell (p := ⟨w.heap.size, 0, none⟩) hd104).trans SS104.out.1) ((b_.cell (p := ⟨w.heap.size, 1, none⟩) hd104).trans SS104.out.2)); have HB105 := Lib.hid (below_step HB104.out (Nat.le_of_lt hd104) b_); have zz_ := b_.size; have hd105 := Nat.lt_of_lt_of_le hd104 zz_; have RS_105 := Lib.hid ((RS_104.out.below b_ nlr).mono nlr zz_); have IM_105 := Lib.hid ((IM_104.out.below b_ nlr).mono nlr zz_); have BS_105 := Lib.hid ((BS_104.out.below b_ nlr).mono nlr zz_); have OT_105 := Lib.hid ((OT_104.out.below b_ nlr).mono nlr zz_); have PZ_105 := Lib.hid ((PZ_104.out.below b_ nlr).mono nlr zz_); rw [E_zz.out]; have kc105_0 := SS105.out.1; have kc105_1 := SS105.out.2; clear q_; clear b_))
            go_ret
            exact ⟨rfl, HB00.out.trans (HB105.out.mono HB00.out.size)⟩
          · have hb1 : ((bs.length : Int) != 1) = true := by simp; omega
            have hb2 : ((bs.length : Int) == 1) = false := by simp; omega
            clear h1
            go_wp2_with (first | (go_at_call 45; (with_reducible refine (impl_IsRegular pS aS S cS w0.heap.size w.heap.size wr (HS.out.below HBw.out tS) (Nat.le_trans tS (HBw.out).size) sS).mono ?_); rintro e w101 ⟨rfl, b_⟩; have SS101 := Lib.hid (And.intro ((b_.cell (p := ⟨w.heap.size, 0, none⟩) hdw).trans SSw.out.1) ((b_.cell (p := ⟨w.heap.size, 1, none⟩) hdw).trans SSw.out.2)); have HB101 := Lib.hid (below_step HBw.out (Nat.le_of_lt hdw) b_); have zz_ := b_.size; have hd101 := Nat.lt_of_lt_of_le hdw zz_; have RS_101 := Lib.hid ((RS_w.out.below b_ nlr).mono nlr zz_); have IM_101 := Lib.hid ((IM_w.out.below b_ nlr).mono nlr zz_); have BS_101 := Lib.hid ((BS_w.out.below b_ nlr).mono nlr zz_); rw [D_0.out, RG.out]; have kc101_0 := SS101.out.1; have kc101_1 := SS101.out.2; clear b_))
            go_ret
            exact ⟨rfl, HB00.out.trans (HB101.out.mono HB00.out.size)⟩

set_option maxRecDepth 100000 in
theorem law_pj (a : Option Addr) (len cap : Nat) (zs : List Int) (w : World) (hb : Code8 w a len zs) (hm : len ≤ 9223372036854775807) :
    Calls Tryz.prog 5 #[.slice a len cap] w fun e w' => e = .returned (.bool true) ∧ Below w.heap.size w w' := by
  by_cases hl : len ≤ 4096
  · exact law_pj_small a len cap zs w hb hl
  · clear hb
    go_enter Tryz.func5, Tryz.ntmps5
    go_wp2_with (go_at_call 11; refine (big_yes a len cap _ (by omega) hm).mono ?_; rintro e w' ⟨rfl, rfl⟩)
    go_ret
    exact ⟨rfl, Below.refl _ _⟩

end Go.Proofs.YtgfanoejohpmkaaGreat
