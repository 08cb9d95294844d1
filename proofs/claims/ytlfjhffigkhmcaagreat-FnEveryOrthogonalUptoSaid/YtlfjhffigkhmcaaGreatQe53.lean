/-
  Decompositions: contracts of the program and of the model.
  Conditions: the lists are nil or rows of known cells, of at most 1048576 numbers.
  Versors of matrices: contracts of the program and of the model.
  Conditions: the lists are nil or rows of known cells, of at most 1048576 numbers.
-/
import Derived.Test.YtlfjhffigkhmcaaGreatQe44
import Derived.Test.YtlfjhffigkhmcaaGreatQe46
import Derived.Test.YtlfjhffigkhmcaaGreatQe51
import Derived.Test.YtlfjhffigkhmcaaGreatQe52
import Derived.Deep.RegionHeld3
import Derived.Deep.DeepCutAuto
import Derived.Test.YtlfjhffigkhmcaaGreatQe25
import Derived.Test.YtlfjhffigkhmcaaGreatQe23
namespace Go.Proofs.YtlfjhffigkhmcaaGreat
open Go.RowKit
set_option linter.unusedVariables false

def deV (p : Int) (S : List Int) (m : List (List Int)) : List (List Int) := if coC p S m = 0 then decL p S m else []
theorem deV_size (p : Int) (S : List Int) (m : List (List Int)) : (deV p S m).length + tot (deV p S m) (deV p S m).length ≤ 1048576 := by
  unfold deV; split
  · rename_i h
    obtain ⟨h1, h2⟩ := reg0 (coC_zero h).1
    have hh := dec_ok h1 h2 (coC_zero h).2
    have h6 := (isSp_iff.1 h1).hi
    have hr : ∀ i, i < (decL p S m).length → (rw' (decL p S m) i).length = S.length := fun i hi => by
      have hm : rw' (decL p S m) i ∈ decL p S m := by
        unfold rw'
        rw [List.getD_eq_getElem?_getD, List.getElem?_eq_getElem hi]
        exact List.getElem_mem hi
      exact (isVec_iff.1 (hh.1 _ hm).1).len
    rw [tot_const hr (Nat.le_refl _)]
    have : (decL p S m).length * S.length ≤ 12 * 6 := Nat.mul_le_mul hh.2 h6
    omega
  · simp [tot]

set_option maxRecDepth 100000 in
set_option maxHeartbeats 6400000 in
theorem impl_DecomposeOrthogonal (pS : Int) (aS : Option Addr) (S : List Int) (cS loS tpS : Nat) (am : Option Addr) (m : List (List Int)) (cm lom tpm : Nat) (w : World) (hS : RowIn loS tpS w aS S) (tS : tpS ≤ w.heap.size) (sS : S.length ≤ 1048576) (hm : MatIn lom tpm w am m) (tm : tpm ≤ w.heap.size) (sm' : m.length + tot m m.length ≤ 1048576) :
    Calls Tryz.prog 6 #[.agg #[.int .i64 pS, .slice aS S.length cS], .slice am m.length cm] w (ImplM (deV pS S m) (coC pS S m) w) := by
  have HS := Lib.hid hS
  have Hm := Lib.hid hm
  have HSM := Lib.hid sm'
  have k0 := nw0 w (.int .i64 pS) (.slice aS S.length cS) 24
  have k1 := nw1 w (.int .i64 pS) (.slice aS S.length cS) 24
  have HB0 := Lib.hid (below_alloc w (.cells #[.int .i64 pS, .slice aS S.length cS] 24))
  clear hS hm sm'
  by_cases h0 : coC pS S m = 0
  · have HC0 := Lib.hid h0
    have HI := Lib.hid (reg0 (coC_zero h0).1).1
    have HD := Lib.hid (reg0 (coC_zero h0).1).2
    have HO := Lib.hid (coC_zero h0).2
    have HV : Hid (deV pS S m = decL pS S m) := if_pos h0
    clear h0
    go_enter Tryz.func6, Tryz.ntmps6
    go_upto_region 1 with fail
    obtain ⟨w1, hw1⟩ : ∃ z, z = w.alloc (.cells #[.int .i64 pS, .slice aS S.length cS] 24) := ⟨_, rfl⟩
    rw [← hw1] at HB0 k0 k1 ⊢
    have hd1 : w.heap.size < w1.heap.size := by rw [hw1]; simp
    have HB1 := HB0
    clear hw1
    have SS1 := Lib.hid (And.intro k0 k1)
    go_wp2_with (first | (go_at_call 18; ((with_reducible refine (checkOrthogonal_any pS aS S cS loS tpS am m cm lom tpm w1 (HS.out.below HB1.out tS) (Nat.le_trans tS HB1.out.size) sS (Hm.out.below HB1.out tm) (Nat.le_trans tm HB1.out.size) HSM.out).mono ?_); rintro e w2 ⟨rfl, b_⟩; rw [HC0.out]; have SS2 := Lib.hid (ss2 b_ hd1 SS1.out); have HB2 := Lib.hid (below_step HB1.out HB1.out.size b_); have hd2 := Nat.lt_of_lt_of_le hd1 b_.size; clear k0 k1; obtain ⟨k0, k1⟩ := SS2.out; clear b_)) | (go_at_call 19; ((with_reducible refine (decomposition_own pS aS S cS loS tpS am m cm lom tpm w2 HI.out HD.out HO.out (HS.out.below HB2.out tS) (Nat.le_trans tS HB2.out.size) (Hm.out.below HB2.out tm) (Nat.le_trans tm HB2.out.size)).mono ?_); rintro e w3 ⟨r4, c4, rfl, o_, b_⟩; have SS3 := Lib.hid (ss2 b_ hd2 SS2.out); have HB3 := Lib.hid (below_step HB2.out HB2.out.size b_); have hd3 := Nat.lt_of_lt_of_le hd2 b_.size; have HO4 := Lib.hid (o_.mono HB2.out.size (Nat.le_refl _)); clear o_; clear k0 k1; obtain ⟨k0, k1⟩ := SS3.out; clear b_)))
    go_ret2
    rw [HV.out, HC0.out]
    exact ⟨r4, c4, rfl, HO4.out, HB3.out⟩
  · have HV : Hid (deV pS S m = []) := if_neg h0
    obtain ⟨C, hC⟩ : ∃ c, c = coC pS S m := ⟨_, rfl⟩
    have hc1 : (C != 0) = true := by rw [hC]; simpa using h0
    have hc2 : (C == 0) = false := by rw [hC]; simpa using h0
    have HCE := Lib.hid hC
    clear h0 hC
    go_enter Tryz.func6, Tryz.ntmps6
    go_upto_region 1 with fail
    obtain ⟨w1, hw1⟩ : ∃ z, z = w.alloc (.cells #[.int .i64 pS, .slice aS S.length cS] 24) := ⟨_, rfl⟩
    rw [← hw1] at HB0 k0 k1 ⊢
    have hd1 : w.heap.size < w1.heap.size := by rw [hw1]; simp
    have HB1 := HB0
    clear hw1
    have SS1 := Lib.hid (And.intro k0 k1)
    go_wp2_with (go_at_call 18; ((with_reducible refine (checkOrthogonal_any pS aS S cS loS tpS am m cm lom tpm w1 (HS.out.below HB1.out tS) (Nat.le_trans tS HB1.out.size) sS (Hm.out.below HB1.out tm) (Nat.le_trans tm HB1.out.size) HSM.out).mono ?_); rintro e w2 ⟨rfl, b_⟩; rw [← HCE.out]; have SS2 := Lib.hid (ss2 b_ hd1 SS1.out); have HB2 := Lib.hid (below_step HB1.out HB1.out.size b_); have hd2 := Nat.lt_of_lt_of_le hd1 b_.size; clear k0 k1; obtain ⟨k0, k1⟩ := SS2.out; clear b_))
    go_ret2
    rw [HV.out, ← HCE.out]
    exact ⟨none, 0, rfl, .inl rfl, HB2.out⟩

set_option maxRecDepth 100000 in
set_option maxHeartbeats 6400000 in
theorem spec_DecomposeOrthogonal (pS : Int) (aS : Option Addr) (S : List Int) (cS loS tpS : Nat) (am : Option Addr) (m : List (List Int)) (cm lom tpm : Nat) (w : World) (hS : RowIn loS tpS w aS S) (tS : tpS ≤ w.heap.size) (sS : S.length ≤ 1048576) (hm : MatIn lom tpm w am m) (tm : tpm ≤ w.heap.size) (sm' : m.length + tot m m.length ≤ 1048576) :
    Calls Tryz.prog 7 #[.agg #[.int .i64 pS, .slice aS S.length cS], .slice am m.length cm] w (SpecM (deV pS S m) (coC pS S m) w) := by
  have HS := Lib.hid hS
  have Hm := Lib.hid hm
  have HSM := Lib.hid sm'
  have k0 := nw0 w (.int .i64 pS) (.slice aS S.length cS) 24
  have k1 := nw1 w (.int .i64 pS) (.slice aS S.length cS) 24
  have HB0 := Lib.hid (below_alloc w (.cells #[.int .i64 pS, .slice aS S.length cS] 24))
  clear hS hm sm'
  by_cases h0 : coC pS S m = 0
  · have HC0 := Lib.hid h0
    have HI := Lib.hid (reg0 (coC_zero h0).1).1
    have HD := Lib.hid (reg0 (coC_zero h0).1).2
    have HO := Lib.hid (coC_zero h0).2
    have HV : Hid (deV pS S m = decL pS S m) := if_pos h0
    clear h0
    go_enter Tryz.func7, Tryz.ntmps7
    go_upto_region 1 with fail
    obtain ⟨w1, hw1⟩ : ∃ z, z = w.alloc (.cells #[.int .i64 pS, .slice aS S.length cS] 24) := ⟨_, rfl⟩
    rw [← hw1] at HB0 k0 k1 ⊢
    have hd1 : w.heap.size < w1.heap.size := by rw [hw1]; simp
    have HB1 := HB0
    clear hw1
    have SS1 := Lib.hid (And.intro k0 k1)
    go_wp2_with (first | (go_at_call 20; ((with_reducible refine (l08Code_any pS aS S cS loS tpS am m cm lom tpm w1 (HS.out.below HB1.out tS) (Nat.le_trans tS HB1.out.size) sS (Hm.out.below HB1.out tm) (Nat.le_trans tm HB1.out.size) HSM.out).mono ?_); rintro e w2 ⟨rfl, b_⟩; rw [HC0.out]; have SS2 := Lib.hid (ss2 b_ hd1 SS1.out); have HB2 := Lib.hid (below_step HB1.out HB1.out.size b_); have hd2 := Nat.lt_of_lt_of_le hd1 b_.size; clear k0 k1; obtain ⟨k0, k1⟩ := SS2.out; clear b_)) | (go_at_call 21; ((with_reducible refine (l08Decompose_any pS aS S cS loS tpS am m cm lom tpm w2 HI.out HD.out HO.out (HS.out.below HB2.out tS) (Nat.le_trans tS HB2.out.size) (Hm.out.below HB2.out tm) (Nat.le_trans tm HB2.out.size)).mono ?_); rintro e w3 ⟨r4, c4, rfl, o_, b_⟩; have SS3 := Lib.hid (ss2 b_ hd2 SS2.out); have HB3 := Lib.hid (below_step HB2.out HB2.out.size b_); have hd3 := Nat.lt_of_lt_of_le hd2 b_.size; have HO4 := Lib.hid (o_.mono HB2.out.size (Nat.le_refl _)); clear o_; clear k0 k1; obtain ⟨k0, k1⟩ := SS3.out; clear b_)))
    go_ret2
    rw [HV.out, HC0.out]
    exact ⟨r4, c4, rfl, HO4.out, HB3.out⟩
  · have HV : Hid (deV pS S m = []) := if_neg h0
    obtain ⟨C, hC⟩ : ∃ c, c = coC pS S m := ⟨_, rfl⟩
    have hc1 : (C != 0) = true := by rw [hC]; simpa using h0
    have hc2 : (C == 0) = false := by rw [hC]; simpa using h0
    have HCE := Lib.hid hC
    clear h0 hC
    go_enter Tryz.func7, Tryz.ntmps7
    go_upto_region 1 with fail
    obtain ⟨w1, hw1⟩ : ∃ z, z = w.alloc (.cells #[.int .i64 pS, .slice aS S.length cS] 24) := ⟨_, rfl⟩
    rw [← hw1] at HB0 k0 k1 ⊢
    have hd1 : w.heap.size < w1.heap.size := by rw [hw1]; simp
    have HB1 := HB0
    clear hw1
    have SS1 := Lib.hid (And.intro k0 k1)
    go_wp2_with (go_at_call 20; ((with_reducible refine (l08Code_any pS aS S cS loS tpS am m cm lom tpm w1 (HS.out.below HB1.out tS) (Nat.le_trans tS HB1.out.size) sS (Hm.out.below HB1.out tm) (Nat.le_trans tm HB1.out.size) HSM.out).mono ?_); rintro e w2 ⟨rfl, b_⟩; rw [← HCE.out]; have SS2 := Lib.hid (ss2 b_ hd1 SS1.out); have HB2 := Lib.hid (below_step HB1.out HB1.out.size b_); have hd2 := Nat.lt_of_lt_of_le hd1 b_.size; clear k0 k1; obtain ⟨k0, k1⟩ := SS2.out; clear b_))
    go_ret2
    rw [HV.out, ← HCE.out]
    exact ⟨none, 0, rfl, .inl rfl, HB2.out⟩

end Go.Proofs.YtlfjhffigkhmcaaGreat

namespace Go.Proofs.YtlfjhffigkhmcaaGreat
open Go.RowKit
set_option linter.unusedVariables false

theorem dec_list {p : Int} {S : List Int} {m : List (List Int)} (hs : isSp p S = true) (hd : discN p S ≠ 0) (ho : orB p S m = true) : listB p S (decL p S m) = true := by
  have h := dec_ok hs hd ho
  unfold listB
  rw [Bool.and_eq_true, List.all_eq_true]
  exact ⟨fun u hu => (h.1 u hu).1, decide_eq_true (by have := h.2; omega)⟩
def voM (p : Int) (S : List Int) (m : List (List Int)) : List Int := if coC p S m = 0 then vrM p S (decL p S m) (decL p S m).length else []
theorem voM_size (p : Int) (S : List Int) (m : List (List Int)) : (voM p S m).length ≤ 1048576 := by
  unfold voM; split
  · rename_i h
    have h6 := (isSp_iff.1 (reg0 (coC_zero h).1).1).hi
    rw [vr_len]
    exact Nat.le_trans (Nat.pow_le_pow_right (by decide) h6) (by decide)
  · simp
theorem field_ver8 (a b c d e : Value) (w : World) : (Instr.field 52 (.agg #[a, b, c, d, e]) 0).run Tryz.prog w = .ok (.agg #[a, b, c]) w := by kernel_rfl
theorem field_mul8 (a b c : Value) (w : World) : (Instr.field 48 (.agg #[a, b, c]) 1).run Tryz.prog w = .ok c w := by kernel_rfl
theorem ss_put5 {W : World} {g h : Nat} {A B : Value} (hg : h ≠ g) (v0 v1 v2 v3 v4 : Value) (k : W.cell? ⟨h, 0, none⟩ = some A ∧ W.cell? ⟨h, 1, none⟩ = some B) : (((((W.setCell ⟨g, 0, none⟩ v0).setCell ⟨g, 1, none⟩ v1).setCell ⟨g, 2, none⟩ v2).setCell ⟨g, 3, none⟩ v3).setCell ⟨g, 4, none⟩ v4).cell? ⟨h, 0, none⟩ = some A ∧ (((((W.setCell ⟨g, 0, none⟩ v0).setCell ⟨g, 1, none⟩ v1).setCell ⟨g, 2, none⟩ v2).setCell ⟨g, 3, none⟩ v3).setCell ⟨g, 4, none⟩ v4).cell? ⟨h, 1, none⟩ = some B := by
  have e : ∀ (o i : Nat) (v : Value) (W : World), (W.setCell ⟨g, i, none⟩ v).cell? ⟨h, o, none⟩ = W.cell? ⟨h, o, none⟩ := fun o i v W => World.cell?_setCell_other _ _ _ _ (fun e2 => hg (by injection e2 with e1 e3; omega))
  rw [e, e, e, e, e, e, e, e, e, e]
  exact k
set_option maxRecDepth 100000 in
set_option maxHeartbeats 3200000 in
theorem versorOfMatrix_own (pS : Int) (aS : Option Addr) (S : List Int) (cS loS tpS : Nat) (am : Option Addr) (m : List (List Int)) (cm lom tpm : Nat) (w : World) (hs : isSp pS S = true) (hd : discN pS S ≠ 0) (ho : orB pS S m = true) (hS : RowIn loS tpS w aS S) (tS : tpS ≤ w.heap.size) (hm : MatIn lom tpm w am m) (tm : tpm ≤ w.heap.size) :
    Calls Tryz.prog 28 #[.agg #[.int .i64 pS, .slice aS S.length cS], .slice am m.length cm] w (fun e w' => ∃ r c, e = .returned (.agg #[.int .i64 pS, .slice aS S.length cS, .slice r (vrM pS S (decL pS S m) (decL pS S m).length).length c, .int .i64 pS, .int .i64 (vsF pS S (decL pS S m) (decL pS S m).length)]) ∧ OwnR w.heap.size w'.heap.size w' r (vrM pS S (decL pS S m) (decL pS S m).length) ∧ Below w.heap.size w w') := by
  have HI := Lib.hid hs
  have HD := Lib.hid hd
  have HO := Lib.hid ho
  have HS := Lib.hid hS
  have Hm := Lib.hid hm
  obtain ⟨L, hL⟩ : ∃ L, L = decL pS S m := ⟨_, rfl⟩
  have HLE : Hid (decL pS S m = L) := hL.symm
  have HLB : Hid (listB pS S L = true) := by show _ = _; rw [hL]; exact dec_list hs hd ho
  rw [← hL]
  have k0 := nw0 w (.int .i64 pS) (.slice aS S.length cS) 24
  have k1 := nw1 w (.int .i64 pS) (.slice aS S.length cS) 24
  have HB0 := Lib.hid (below_alloc w (.cells #[.int .i64 pS, .slice aS S.length cS] 24))
  clear hs hd ho hS hm hL
  go_enter Tryz.func28, Tryz.ntmps28
  go_upto_region 1 with fail
  obtain ⟨w0, hw0'⟩ : ∃ z, z = w.alloc (.cells #[.int .i64 pS, .slice aS S.length cS] 24) := ⟨_, rfl⟩
  rw [← hw0'] at HB0 k0 k1 ⊢
  have hw0 : w.heap.size < w0.heap.size := by rw [hw0']; simp
  have hwz : w.heap.size + 1 = w0.heap.size := by rw [hw0']; simp
  try rw [hwz]
  clear hw0'
  obtain ⟨w1, hw1⟩ : ∃ z, z = w0.alloc (.cells #[.int .i64 0, .slice none 0 0, .slice none 0 0, .int .i64 0, .int .i64 0] 52) := ⟨_, rfl⟩
  obtain ⟨g, hg⟩ : ∃ b, b = w0.heap.size := ⟨_, rfl⟩
  have D1 : Hid (DS7 w g pS aS S.length cS w1) := by
    have h0 := ss2 (below_alloc w0 (.cells #[.int .i64 0, .slice none 0 0, .slice none 0 0, .int .i64 0, .int .i64 0] 52)) hw0 ⟨k0, k1⟩
    rw [← hw1] at h0
    refine ⟨h0, by rw [hw1, hg]; exact V5.new _ _ _ _ _ _ _, by rw [hw1]; exact HB0.out.alloc HB0.out.size _, ?_, ?_⟩
    · rw [hw1]; simp; omega
    · rw [hw1, hg]; simp
  have hwg : w.heap.size < g := by omega
  rw [← hw1]
  rw [← hg]
  clear hw1 hwz hg k0 k1 HB0 hw0
  have DN0 : Hid (DS7 w g pS aS S.length cS w1.drew) := D1.out.call (below_drew w1)
  have HBD : Hid (Below w.heap.size w w1.drew) := DN0.out.bel
  have hs1 : Hid (w1.drew.cell? ⟨w.heap.size, 0, none⟩ = some (.int .i64 pS) ∧ w1.drew.cell? ⟨w.heap.size, 1, none⟩ = some (.slice aS S.length cS)) := DN0.out.ss
  have hdd : w.heap.size < w1.drew.heap.size := DN0.out.hd.1
  go_region_held3 (fun w' => w'.cell? ⟨w.heap.size, 0, none⟩ = some (.int .i64 pS) ∧ w'.cell? ⟨w.heap.size, 1, none⟩ = some (.slice aS S.length cS)) (first | (with_reducible exact hs1.out) | (with_reducible exact SSa.out) | (with_reducible exact SSab.out) | (exact ss_put5 (Nat.ne_of_lt hwg) _ _ _ _ _ SSab.out) | go_keep) (first | (go_at_call 19; (with_reducible refine (decomposition_own pS aS S cS loS tpS am m cm lom tpm w1.drew HI.out HD.out HO.out (HS.out.below HBD.out tS) (Nat.le_trans tS (HBD.out).size) (Hm.out.below HBD.out tm) (Nat.le_trans tm (HBD.out).size)).mono ?_); rintro e wa ⟨ra, ka, rfl, o_, b_⟩; rw [HLE.out] at o_; rw [HLE.out]; have SSa := Lib.hid (ss2 b_ hdd hs1.out); have HBa := Lib.hid (below_step HBD.out (Nat.le_of_lt hdd) b_); have zz_ := b_.size; have HCa := Lib.hid b_; have hda := Nat.lt_of_lt_of_le hdd zz_; have Ma_a := Lib.hid (o_.mat.mono (Nat.le_of_lt hdd) (Nat.le_refl _)); have DNa := Lib.hid (DN0.out.call b_); clear b_ o_) | (go_at_call 27; (with_reducible refine (versorOfVectors_own pS aS S cS loS tpS ra L ka w.heap.size wa.heap.size wa HI.out (HS.out.below HBa.out tS) (Nat.le_trans tS (HBa.out).size) Ma_a.out (Nat.le_refl _) HLB.out).mono ?_); rintro e wab ⟨rb, kb, rfl, o_, b_⟩; have SSab := Lib.hid (ss2 b_ hda SSa.out); have HBab := Lib.hid (below_step HBa.out (Nat.le_of_lt hda) b_); have zz_ := b_.size; have HCab := Lib.hid (below_step HCa.out (HCa.out).size b_); have hdab := Nat.lt_of_lt_of_le hda zz_; have Ma_ab := Lib.hid ((Ma_a.out.below b_ (Nat.le_refl _)).mono (Nat.le_refl _) zz_); have Ob_ab := Lib.hid (OwnR.mono' o_ (Nat.le_of_lt hda) (Nat.le_refl _)); have Rb_ab := Lib.hid (Ob_ab.out.row); have DNab := Lib.hid (DNa.out.call b_); obtain ⟨⟨z0, z1, z2, z3, z4⟩, y0, y1, y2, y3, y4⟩ := DNab.out.vv; have OBR := Lib.hid o_; clear b_ o_))
  go_wp2
  refine bodyPost_ret (v := .agg #[.int .i64 pS, .slice aS S.length cS, .slice rb (vrM pS S L L.length).length kb, .int .i64 pS, .int .i64 (vsF pS S L L.length)]) (by simp [results, Tryz.results28, go_sem, z0, z1, z2, z3, z4]) rfl ⟨rb, kb, rfl, ?_, below_vput5 DNab.out.bel (Nat.le_of_lt hwg)⟩
  exact (show OwnR w.heap.size (vput5 g _ _ _ _ _ wab).heap.size (vput5 g _ _ _ _ _ wab) rb _ from (OBR.out.vput5 DNa.out.hd.2 _ _ _ _ _).mono' (Nat.le_of_lt DNa.out.hd.1) (by rw [vput5_size]; exact Nat.le_refl _))

set_option maxRecDepth 100000 in
set_option maxHeartbeats 6400000 in
theorem impl_VersorOfMatrix (pS : Int) (aS : Option Addr) (S : List Int) (cS loS tpS : Nat) (am : Option Addr) (m : List (List Int)) (cm lom tpm : Nat) (w : World) (hS : RowIn loS tpS w aS S) (tS : tpS ≤ w.heap.size) (sS : S.length ≤ 1048576) (hm : MatIn lom tpm w am m) (tm : tpm ≤ w.heap.size) (sm' : m.length + tot m m.length ≤ 1048576) :
    Calls Tryz.prog 9 #[.agg #[.int .i64 pS, .slice aS S.length cS], .slice am m.length cm] w (ImplR (voM pS S m) (coC pS S m) w) := by
  have HS := Lib.hid hS
  have Hm := Lib.hid hm
  have HSM := Lib.hid sm'
  have k0 := nw0 w (.int .i64 pS) (.slice aS S.length cS) 24
  have k1 := nw1 w (.int .i64 pS) (.slice aS S.length cS) 24
  have HB0 := Lib.hid (below_alloc w (.cells #[.int .i64 pS, .slice aS S.length cS] 24))
  clear hS hm sm'
  by_cases h0 : coC pS S m = 0
  · have HC0 := Lib.hid h0
    have HI := Lib.hid (reg0 (coC_zero h0).1).1
    have HD := Lib.hid (reg0 (coC_zero h0).1).2
    have HO := Lib.hid (coC_zero h0).2
    have HLB := Lib.hid (dec_list (reg0 (coC_zero h0).1).1 (reg0 (coC_zero h0).1).2 (coC_zero h0).2)
    have HV : Hid (voM pS S m = vrM pS S (decL pS S m) (decL pS S m).length) := if_pos h0
    clear h0
    obtain ⟨X, hX⟩ : ∃ X, X = vrM pS S (decL pS S m) (decL pS S m).length := ⟨_, rfl⟩
    obtain ⟨N, hN⟩ : ∃ N, N = vsF pS S (decL pS S m) (decL pS S m).length := ⟨_, rfl⟩
    have HXE : Hid (vrM pS S (decL pS S m) (decL pS S m).length = X) := hX.symm
    have HNE : Hid (vsF pS S (decL pS S m) (decL pS S m).length = N) := hN.symm
    rw [← hX] at HV
    clear hX hN
    have hfv := field_ver8
    have hfm := field_mul8
    go_enter Tryz.func9, Tryz.ntmps9
    go_upto_region 1 with fail
    obtain ⟨w1, hw1⟩ : ∃ z, z = w.alloc (.cells #[.int .i64 pS, .slice aS S.length cS] 24) := ⟨_, rfl⟩
    rw [← hw1] at HB0 k0 k1 ⊢
    have hd1 : w.heap.size < w1.heap.size := by rw [hw1]; simp
    have HB1 := HB0
    clear hw1
    have SS1 := Lib.hid (And.intro k0 k1)
    go_wp2_with (first | (go_at_call 18; ((with_reducible refine (checkOrthogonal_any pS aS S cS loS tpS am m cm lom tpm w1 (HS.out.below HB1.out tS) (Nat.le_trans tS HB1.out.size) sS (Hm.out.below HB1.out tm) (Nat.le_trans tm HB1.out.size) HSM.out).mono ?_); rintro e w2 ⟨rfl, b_⟩; rw [HC0.out]; have SS2 := Lib.hid (ss2 b_ hd1 SS1.out); have HB2 := Lib.hid (below_step HB1.out HB1.out.size b_); have hd2 := Nat.lt_of_lt_of_le hd1 b_.size; clear k0 k1; obtain ⟨k0, k1⟩ := SS2.out; clear b_)) | (go_at_call 28; ((with_reducible refine (versorOfMatrix_own pS aS S cS loS tpS am m cm lom tpm w2 HI.out HD.out HO.out (HS.out.below HB2.out tS) (Nat.le_trans tS HB2.out.size) (Hm.out.below HB2.out tm) (Nat.le_trans tm HB2.out.size)).mono ?_); rintro e w3 ⟨r, c, rfl, o_, b_⟩; rw [HXE.out] at o_; rw [HXE.out, HNE.out]; have SS3 := Lib.hid (ss2 b_ hd2 SS2.out); have HB3 := Lib.hid (below_step HB2.out HB2.out.size b_); have hd3 := Nat.lt_of_lt_of_le hd2 b_.size; have OO := Lib.hid (OwnR.mono' o_ (Nat.le_of_lt hd2) (Nat.le_refl _)); clear o_; clear k0 k1; obtain ⟨k0, k1⟩ := SS3.out; clear b_)))
    go_ret2
    rw [HV.out, HC0.out]
    exact ⟨r, c, rfl, OO.out, HB3.out⟩
  · have HV : Hid (voM pS S m = []) := if_neg h0
    obtain ⟨C, hC⟩ : ∃ c, c = coC pS S m := ⟨_, rfl⟩
    have hc1 : (C != 0) = true := by rw [hC]; simpa using h0
    have hc2 : (C == 0) = false := by rw [hC]; simpa using h0
    have HCE := Lib.hid hC
    clear h0 hC
    go_enter Tryz.func9, Tryz.ntmps9
    go_upto_region 1 with fail
    obtain ⟨w1, hw1⟩ : ∃ z, z = w.alloc (.cells #[.int .i64 pS, .slice aS S.length cS] 24) := ⟨_, rfl⟩
    rw [← hw1] at HB0 k0 k1 ⊢
    have hd1 : w.heap.size < w1.heap.size := by rw [hw1]; simp
    have HB1 := HB0
    clear hw1
    have SS1 := Lib.hid (And.intro k0 k1)
    go_wp2_with (go_at_call 18; ((with_reducible refine (checkOrthogonal_any pS aS S cS loS tpS am m cm lom tpm w1 (HS.out.below HB1.out tS) (Nat.le_trans tS HB1.out.size) sS (Hm.out.below HB1.out tm) (Nat.le_trans tm HB1.out.size) HSM.out).mono ?_); rintro e w2 ⟨rfl, b_⟩; rw [← HCE.out]; have SS2 := Lib.hid (ss2 b_ hd1 SS1.out); have HB2 := Lib.hid (below_step HB1.out HB1.out.size b_); have hd2 := Nat.lt_of_lt_of_le hd1 b_.size; clear k0 k1; obtain ⟨k0, k1⟩ := SS2.out; clear b_))
    go_ret2
    rw [HV.out, ← HCE.out]
    exact ⟨none, 0, rfl, .inl rfl, HB2.out⟩

end Go.Proofs.YtlfjhffigkhmcaaGreat
