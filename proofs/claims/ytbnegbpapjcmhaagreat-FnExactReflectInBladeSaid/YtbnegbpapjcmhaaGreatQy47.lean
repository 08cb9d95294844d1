/-
  F (model): contracts of the program and of the model.
  Conditions: the lists are nil or rows of known cells, of at most 1048576 numbers.
-/
import Derived.Test.YtbnegbpapjcmhaaGreatQy41
import Derived.Test.YtbnegbpapjcmhaaGreatQy46
namespace Go.Proofs.YtbnegbpapjcmhaaGreat
open Go.RowKit
set_option linter.unusedVariables false

set_option maxRecDepth 100000 in
set_option maxHeartbeats 3200000 in
theorem spec_ReflectInBlade (pS : Int) (aS : Option Addr) (S : List Int) (cS loS tpS : Nat) (ax : Option Addr) (x : List Int) (cx lox tpx : Nat) (av : Option Addr) (v : List Int) (cv lov tpv : Nat) (w : World) (hS : RowIn loS tpS w aS S) (tS : tpS ≤ w.heap.size) (sS : S.length ≤ 1048576) (hx : RowIn lox tpx w ax x) (tx : tpx ≤ w.heap.size) (sx : x.length ≤ 1048576) (hv : RowIn lov tpv w av v) (tv : tpv ≤ w.heap.size) (sv : v.length ≤ 1048576) :
    Calls Tryz.prog 43 #[.agg #[.int .i64 pS, .slice aS S.length cS], .slice ax x.length cx, .slice av v.length cv] w (SpecR (splFV pS S x v) (codeI pS S x v) w) := by
  have HS := Lib.hid hS
  have Hx := Lib.hid hx
  have Hv := Lib.hid hv
  clear hS hx hv
  by_cases hc : codeI pS S x v = 0
  · have hcb : codeBV pS S x v = 0 ∧ sqX pS S x ≠ 0 := by
      unfold codeI at hc
      by_cases h0 : codeBV pS S x v = 0
      · rw [if_pos h0] at hc
        refine ⟨h0, fun h => ?_⟩
        rw [if_pos h] at hc; cases hc
      · rw [if_neg h0] at hc; exact absurd hc h0
    have HC := Lib.hid hc
    have hb := codeB_one (codeBV_zero hcb.1).2
    have HI := Lib.hid hb.1
    have HMX := Lib.hid hb.2.1
    have hmv := codeVs_vec (codeBV_zero hcb.1).1
    have HMV := Lib.hid hmv
    have HLV := Lib.hid (isVec_iff.1 hmv).len
    have HSQ := Lib.hid hcb.2
    have hpb := prm_bd (isSp_iff.1 hb.1).prime
    have HP := Lib.hid (isSp_iff.1 hb.1).prime
    have HV : Hid (splFV pS S x v = mkR v.length (splFF pS S x v)) := by show _ = _; unfold splFV; rw [if_pos hc]
    have HPL : Hid ((prjM pS S x v).length = v.length) := prjM_len _ _ _ _
    have HPN : Hid (∀ j, j < (prjM pS S x v).length → 0 ≤ (prjM pS S x v).getD j 0 ∧ (prjM pS S x v).getD j 0 < pS) := fun j hj => by
      rw [prjM_len] at hj
      rw [show (prjM pS S x v).getD j 0 = prjF pS S x v j from mkR_at _ hj]
      exact prjF_bd (by omega) _ _ _ _
    have HVN : Hid (∀ j, j < v.length → 0 ≤ v.getD j 0 ∧ v.getD j 0 < pS) := fun j hj => (isVec_iff.1 HMV.out).num' (by rw [← HLV.out]; exact hj)
    have e1 : IntKind.i64.wrap (pS - 1) = pS - 1 := IntWalk.i64_in _ (by omega)
    have hk0 : 0 ≤ pS - 1 := by omega
    have hk1 : pS - 1 ≤ pS := by omega
    clear hc hcb hb hmv
    have HSE : Hid ((sclR pS (prjM pS S x v) 2).length = v.length) := by show _ = _; unfold sclR; rw [mkR_len, HPL.out]
    have HSL : Hid ((sclR pS (prjM pS S x v) 2).length ≤ v.length) := Nat.le_of_eq HSE.out
    have HSN : Hid (∀ j, j < (sclR pS (prjM pS S x v) 2).length → 0 ≤ (sclR pS (prjM pS S x v) 2).getD j 0 ∧ (sclR pS (prjM pS S x v) 2).getD j 0 < pS) := fun j hj => by
      unfold sclR at hj ⊢
      rw [mkR_len] at hj
      rw [mkR_at _ hj]
      exact ⟨Int.emod_nonneg _ (by omega), Int.emod_lt_of_pos _ (by omega)⟩
    go_enter Tryz.func43, Tryz.ntmps43
    go_upto_region 4 with (first | (go_at_call 70; (with_reducible refine (l06Invertible_any pS aS S cS loS tpS ax x cx lox tpx av v cv lov tpv _ (HS.out.below ((Below.refl _ _).alloc (Nat.le_refl _) (.cells #[.int .i64 pS, .slice aS S.length cS] 29)) tS) (Nat.le_trans tS (((Below.refl _ _).alloc (Nat.le_refl _) (.cells #[.int .i64 pS, .slice aS S.length cS] 29))).size) sS (Hx.out.below ((Below.refl _ _).alloc (Nat.le_refl _) (.cells #[.int .i64 pS, .slice aS S.length cS] 29)) tx) (Nat.le_trans tx (((Below.refl _ _).alloc (Nat.le_refl _) (.cells #[.int .i64 pS, .slice aS S.length cS] 29))).size) sx (Hv.out.below ((Below.refl _ _).alloc (Nat.le_refl _) (.cells #[.int .i64 pS, .slice aS S.length cS] 29)) tv) (Nat.le_trans tv (((Below.refl _ _).alloc (Nat.le_refl _) (.cells #[.int .i64 pS, .slice aS S.length cS] 29))).size) sv).mono ?_); rintro e w2 ⟨rfl, b2⟩; rw [HC.out]; have B2 := Lib.hid b2; have K2_0_0 := (b2.cell (p := ⟨w.heap.size, 0, none⟩) (Nat.lt_of_lt_of_le (show w.heap.size < (w.alloc (.cells #[.int .i64 pS, .slice aS S.length cS] 29)).heap.size by simp) (Nat.le_refl _))).trans (show (w.alloc (.cells #[.int .i64 pS, .slice aS S.length cS] 29)).cell? ⟨w.heap.size, 0, none⟩ = some (.int .i64 pS) by simp [go_sem]); have K2_0_1 := (b2.cell (p := ⟨w.heap.size, 1, none⟩) (Nat.lt_of_lt_of_le (show w.heap.size < (w.alloc (.cells #[.int .i64 pS, .slice aS S.length cS] 29)).heap.size by simp) (Nat.le_refl _))).trans (show (w.alloc (.cells #[.int .i64 pS, .slice aS S.length cS] 29)).cell? ⟨w.heap.size, 1, none⟩ = some (.slice aS S.length cS) by simp [go_sem]); clear b2))
    have HCU : Hid (Below w.heap.size w w2) := (below_step ((Below.refl _ _).alloc (Nat.le_refl _) (.cells #[.int .i64 pS, .slice aS S.length cS] 29)) (show w.heap.size ≤ (w.alloc (.cells #[.int .i64 pS, .slice aS S.length cS] 29)).heap.size from (((Below.refl _ _).alloc (Nat.le_refl _) (.cells #[.int .i64 pS, .slice aS S.length cS] 29))).size) B2.out)
    have HBD : Hid (Below w.heap.size w w2.drew) := HCU.out.drew
    have hs1 : Hid (w2.drew.cell? ⟨w.heap.size, 0, none⟩ = some (.int .i64 pS) ∧ w2.drew.cell? ⟨w.heap.size, 1, none⟩ = some (.slice aS S.length cS)) := ⟨K2_0_0, K2_0_1⟩
    have hd0 : w.heap.size < w2.drew.heap.size := (Nat.lt_of_lt_of_le (show w.heap.size < (w.alloc (.cells #[.int .i64 pS, .slice aS S.length cS] 29)).heap.size by simp) (Nat.le_trans (Nat.le_refl _) B2.out.size))
    go_region_held3 (fun w' => w'.cell? ⟨w.heap.size, 0, none⟩ = some (.int .i64 pS) ∧ w'.cell? ⟨w.heap.size, 1, none⟩ = some (.slice aS S.length cS)) (first | exact hs1.out | exact SSa.out | exact SSab.out | exact SSabc.out | go_keep) (first | (go_at_call 71; (with_reducible refine (l06Project_any pS aS S cS loS tpS ax x cx lox tpx av v cv lov tpv w2.drew (HS.out.below HBD.out tS) (Nat.le_trans tS (HBD.out).size) (Hx.out.below HBD.out tx) (Nat.le_trans tx (HBD.out).size) (Hv.out.below HBD.out tv) (Nat.le_trans tv (HBD.out).size) HI.out HMX.out HMV.out HSQ.out).mono ?_); rintro e wa ⟨ra, ka, rfl, o_, b_⟩; have SSa := Lib.hid (ss2 b_ hd0 hs1.out); have HBa := Lib.hid (below_step HBD.out (Nat.le_of_lt hd0) b_); have zz_ := b_.size; have hda := Nat.lt_of_lt_of_le hd0 zz_; have Ra_a := Lib.hid (o_.mono (Nat.le_of_lt hd0) (Nat.le_refl _)); clear b_ o_) | (go_at_call 76; (with_reducible refine (l02Scale_row pS 2 ra (prjM pS S x v) ka w.heap.size wa.heap.size wa HP.out Ra_a.out (Nat.le_refl _) (by rw [HPL.out]; exact sv) HPN.out (by omega) (by omega)).mono ?_); rintro e wab ⟨rb, kb, rfl, o_, b_⟩; have SSab := Lib.hid (ss2 b_ hda SSa.out); have HBab := Lib.hid (below_step HBa.out (Nat.le_of_lt hda) b_); have zz_ := b_.size; have hdab := Nat.lt_of_lt_of_le hda zz_; have Ra_ab := Lib.hid ((Ra_a.out.below b_ (Nat.le_refl _)).mono (Nat.le_refl _) zz_); have Rb_ab := Lib.hid (o_.mono (Nat.le_of_lt hda) (Nat.le_refl _)); clear b_ o_) | (go_at_call 74; (with_reducible refine (l02Plus_row pS (pS - 1) rb av (sclR pS (prjM pS S x v) 2) v kb cv w.heap.size wab.heap.size lov tpv wab HP.out Rb_ab.out (Hv.out.below HBab.out tv) (Nat.le_refl _) (Nat.le_trans tv (HBab.out).size) HSL.out (by rw [HSE.out]; exact sv) HSN.out HVN.out hk0 hk1).mono ?_); rintro e wabc ⟨rc, kc, rfl, o_, b_⟩; have SSabc := Lib.hid (ss2 b_ hdab SSab.out); have HBabc := Lib.hid (below_step HBab.out (Nat.le_of_lt hdab) b_); have zz_ := b_.size; have hdabc := Nat.lt_of_lt_of_le hdab zz_; have Ra_abc := Lib.hid ((Ra_ab.out.below b_ (Nat.le_refl _)).mono (Nat.le_refl _) zz_); have Rb_abc := Lib.hid ((Rb_ab.out.below b_ (Nat.le_refl _)).mono (Nat.le_refl _) zz_); have Rc_abc := Lib.hid (o_.mono (Nat.le_of_lt hdab) (Nat.le_refl _)); clear b_ o_))
    all_goals
      go_wp2
      go_ret2
      rw [HV.out, HC.out, ← ref_eq]
      exact ⟨_, _, rfl, Rc_abc.out, HBabc.out⟩
  · have HV : Hid (splFV pS S x v = []) := by show _ = _; unfold splFV; rw [if_neg hc]
    obtain ⟨C, hC⟩ : ∃ c, c = codeI pS S x v := ⟨_, rfl⟩
    have hc1 : (C != 0) = true := by rw [hC]; simpa using hc
    have HCE := Lib.hid hC
    clear hc hC
    go_enter Tryz.func43, Tryz.ntmps43
    go_wp2_with (first | (go_at_call 70; (with_reducible refine (l06Invertible_any pS aS S cS loS tpS ax x cx lox tpx av v cv lov tpv _ (HS.out.below ((Below.refl _ _).alloc (Nat.le_refl _) (.cells #[.int .i64 pS, .slice aS S.length cS] 29)) tS) (Nat.le_trans tS (((Below.refl _ _).alloc (Nat.le_refl _) (.cells #[.int .i64 pS, .slice aS S.length cS] 29))).size) sS (Hx.out.below ((Below.refl _ _).alloc (Nat.le_refl _) (.cells #[.int .i64 pS, .slice aS S.length cS] 29)) tx) (Nat.le_trans tx (((Below.refl _ _).alloc (Nat.le_refl _) (.cells #[.int .i64 pS, .slice aS S.length cS] 29))).size) sx (Hv.out.below ((Below.refl _ _).alloc (Nat.le_refl _) (.cells #[.int .i64 pS, .slice aS S.length cS] 29)) tv) (Nat.le_trans tv (((Below.refl _ _).alloc (Nat.le_refl _) (.cells #[.int .i64 pS, .slice aS S.length cS] 29))).size) sv).mono ?_); rintro e w2 ⟨rfl, b2⟩; rw [← HCE.out]; have B2 := Lib.hid b2; have K2_0_0 := (b2.cell (p := ⟨w.heap.size, 0, none⟩) (Nat.lt_of_lt_of_le (show w.heap.size < (w.alloc (.cells #[.int .i64 pS, .slice aS S.length cS] 29)).heap.size by simp) (Nat.le_refl _))).trans (show (w.alloc (.cells #[.int .i64 pS, .slice aS S.length cS] 29)).cell? ⟨w.heap.size, 0, none⟩ = some (.int .i64 pS) by simp [go_sem]); have K2_0_1 := (b2.cell (p := ⟨w.heap.size, 1, none⟩) (Nat.lt_of_lt_of_le (show w.heap.size < (w.alloc (.cells #[.int .i64 pS, .slice aS S.length cS] 29)).heap.size by simp) (Nat.le_refl _))).trans (show (w.alloc (.cells #[.int .i64 pS, .slice aS S.length cS] 29)).cell? ⟨w.heap.size, 1, none⟩ = some (.slice aS S.length cS) by simp [go_sem]); clear b2))
    go_ret2
    rw [HV.out, ← HCE.out]
    exact ⟨none, 0, rfl, .inl rfl, (below_step ((Below.refl _ _).alloc (Nat.le_refl _) (.cells #[.int .i64 pS, .slice aS S.length cS] 29)) (show w.heap.size ≤ (w.alloc (.cells #[.int .i64 pS, .slice aS S.length cS] 29)).heap.size from (((Below.refl _ _).alloc (Nat.le_refl _) (.cells #[.int .i64 pS, .slice aS S.length cS] 29))).size) B2.out)⟩

end Go.Proofs.YtbnegbpapjcmhaaGreat
