/-
  Versors of matrices: contracts of the program and of the model.
  Conditions: the lists are nil or rows of known cells, of at most 1048576 numbers.
-/
import Derived.Test.YtigdepahbnidjaaGreatQz45
import Derived.Test.YtigdepahbnidjaaGreatQz21
import Derived.Test.YtigdepahbnidjaaGreatQz37
import Derived.Test.YtigdepahbnidjaaGreatQz19
import Derived.Test.YtigdepahbnidjaaGreatQz18
import Derived.Deep.RegionHeld3
import Derived.Deep.DeepCutAuto
namespace Go.Proofs.YtigdepahbnidjaaGreat
open Go.RowKit
set_option linter.unusedVariables false

theorem dec_list {p : Int} {S : List Int} {m : List (List Int)} (hs : isSp p S = true) (hd : discN p S ≠ 0) (ho : orB p S m = true) : listB p S (decL p S m) = true := by
  have h := dec_ok hs hd ho
  unfold listB
  rw [Bool.and_eq_true, List.all_eq_true]
  exact ⟨fun u hu => (h.1 u hu).1, decide_eq_true (by have := h.2; omega)⟩
def voM (p : Int) (S : List Int) (m : List (List Int)) : List Int := if coC p S m = 0 then vrM p S (decL p S m) (decL p S m).length else []
theorem voM_size (p : Int) (S : List Int) (m : List (List Int)) : (voM p S m).length ≤ 1048576 := by
  unfold voM; split
  · rename_i h
    have h6 := (isSp_iff.1 (reg0 (coC_zero h).1).1).hi
    rw [vr_len]
    exact Nat.le_trans (Nat.pow_le_pow_right (by decide) h6) (by decide)
  · simp
theorem field_ver8 (a b c d e : Value) (w : World) : (Instr.field 50 (.agg #[a, b, c, d, e]) 0).run Tryz.prog w = .ok (.agg #[a, b, c]) w := by kernel_rfl
theorem field_mul8 (a b c : Value) (w : World) : (Instr.field 46 (.agg #[a, b, c]) 1).run Tryz.prog w = .ok c w := by kernel_rfl
theorem field_num8 (a b c d e : Value) (w : World) : (Instr.field 50 (.agg #[a, b, c, d, e]) 1).run Tryz.prog w = .ok (.agg #[d, e]) w := by kernel_rfl
theorem ss_put5 {W : World} {g h : Nat} {A B : Value} (hg : h ≠ g) (v0 v1 v2 v3 v4 : Value) (k : W.cell? ⟨h, 0, none⟩ = some A ∧ W.cell? ⟨h, 1, none⟩ = some B) : (((((W.setCell ⟨g, 0, none⟩ v0).setCell ⟨g, 1, none⟩ v1).setCell ⟨g, 2, none⟩ v2).setCell ⟨g, 3, none⟩ v3).setCell ⟨g, 4, none⟩ v4).cell? ⟨h, 0, none⟩ = some A ∧ (((((W.setCell ⟨g, 0, none⟩ v0).setCell ⟨g, 1, none⟩ v1).setCell ⟨g, 2, none⟩ v2).setCell ⟨g, 3, none⟩ v3).setCell ⟨g, 4, none⟩ v4).cell? ⟨h, 1, none⟩ = some B := by
  have e : ∀ (o i : Nat) (v : Value) (W : World), (W.setCell ⟨g, i, none⟩ v).cell? ⟨h, o, none⟩ = W.cell? ⟨h, o, none⟩ := fun o i v W => World.cell?_setCell_other _ _ _ _ (fun e2 => hg (by injection e2 with e1 e3; omega))
  rw [e, e, e, e, e, e, e, e, e, e]
  exact k
def hsV (p : Int) (S : List Int) (m : List (List Int)) : Bool := if coC p S m = 0 then rtB p (vsF p S (decL p S m) (decL p S m).length) else false
set_option maxRecDepth 100000 in
set_option maxHeartbeats 3200000 in
theorem versorOfMatrix_own (pS : Int) (aS : Option Addr) (S : List Int) (cS loS tpS : Nat) (am : Option Addr) (m : List (List Int)) (cm lom tpm : Nat) (w : World) (hs : isSp pS S = true) (hd : discN pS S ≠ 0) (ho : orB pS S m = true) (hS : RowIn loS tpS w aS S) (tS : tpS ≤ w.heap.size) (hm : MatIn lom tpm w am m) (tm : tpm ≤ w.heap.size) :
    Calls Tryz.prog 26 #[.agg #[.int .i64 pS, .slice aS S.length cS], .slice am m.length cm] w (fun e w' => ∃ r c, e = .returned (.agg #[.int .i64 pS, .slice aS S.length cS, .slice r (vrM pS S (decL pS S m) (decL pS S m).length).length c, .int .i64 pS, .int .i64 (vsF pS S (decL pS S m) (decL pS S m).length)]) ∧ OwnR w.heap.size w'.heap.size w' r (vrM pS S (decL pS S m) (decL pS S m).length) ∧ Below w.heap.size w w') := by
  have HI := Lib.hid hs
  have HD := Lib.hid hd
  have HO := Lib.hid ho
  have HS := Lib.hid hS
  have Hm := Lib.hid hm
  obtain ⟨L, hL⟩ : ∃ L, L = decL pS S m := ⟨_, rfl⟩
  have HLE : Hid (decL pS S m = L) := hL.symm
  have HLB : Hid (listB pS S L = true) := by show _ = _; rw [hL]; exact dec_list hs hd ho
  rw [← hL]
  have k0 := nw0 w (.int .i64 pS) (.slice aS S.length cS) 30
  have k1 := nw1 w (.int .i64 pS) (.slice aS S.length cS) 30
  have HB0 := Lib.hid (below_alloc w (.cells #[.int .i64 pS, .slice aS S.length cS] 30))
  clear hs hd ho hS hm hL
  go_enter Tryz.func26, Tryz.ntmps26
  go_upto_region 1 with fail
  obtain ⟨w0, hw0'⟩ : ∃ z, z = w.alloc (.cells #[.int .i64 pS, .slice aS S.length cS] 30) := ⟨_, rfl⟩
  rw [← hw0'] at HB0 k0 k1 ⊢
  have hw0 : w.heap.size < w0.heap.size := by rw [hw0']; simp
  have hwz : w.heap.size + 1 = w0.heap.size := by rw [hw0']; simp
  try rw [hwz]
  clear hw0'
  obtain ⟨w1, hw1⟩ : ∃ z, z = w0.alloc (.cells #[.int .i64 0, .slice none 0 0, .slice none 0 0, .int .i64 0, .int .i64 0] 50) := ⟨_, rfl⟩
  obtain ⟨g, hg⟩ : ∃ b, b = w0.heap.size := ⟨_, rfl⟩
  have D1 : Hid (DS7 w g pS aS S.length cS w1) := by
    have h0 := ss2 (below_alloc w0 (.cells #[.int .i64 0, .slice none 0 0, .slice none 0 0, .int .i64 0, .int .i64 0] 50)) hw0 ⟨k0, k1⟩
    rw [← hw1] at h0
    refine ⟨h0, by rw [hw1, hg]; exact V5.new _ _ _ _ _ _ _, by rw [hw1]; exact HB0.out.alloc HB0.out.size _, ?_, ?_⟩
    · rw [hw1]; simp; omega
    · rw [hw1, hg]; simp
  have hwg : w.heap.size < g := by omega
  rw [← hw1]
  rw [← hg]
  clear hw1 hwz hg k0 k1 HB0 hw0
  have DN0 : Hid (DS7 w g pS aS S.length cS w1.drew) := D1.out.call (below_drew w1)
  have HBD : Hid (Below w.heap.size w w1.drew) := DN0.out.bel
  have hs1 : Hid (w1.drew.cell? ⟨w.heap.size, 0, none⟩ = some (.int .i64 pS) ∧ w1.drew.cell? ⟨w.heap.size, 1, none⟩ = some (.slice aS S.length cS)) := DN0.out.ss
  have hdd : w.heap.size < w1.drew.heap.size := DN0.out.hd.1
  go_region_held3 (fun w' => w'.cell? ⟨w.heap.size, 0, none⟩ = some (.int .i64 pS) ∧ w'.cell? ⟨w.heap.size, 1, none⟩ = some (.slice aS S.length cS)) (first | (with_reducible exact hs1.out) | (with_reducible exact SSa.out) | (with_reducible exact SSab.out) | (exact ss_put5 (Nat.ne_of_lt hwg) _ _ _ _ _ SSab.out) | go_keep) (first | (go_at_call 42; (with_reducible refine (decomposition_own pS aS S cS loS tpS am m cm lom tpm w1.drew HI.out HD.out HO.out (HS.out.below HBD.out tS) (Nat.le_trans tS (HBD.out).size) (Hm.out.below HBD.out tm) (Nat.le_trans tm (HBD.out).size)).mono ?_); rintro e wa ⟨ra, ka, rfl, o_, b_⟩; rw [HLE.out] at o_; rw [HLE.out]; have SSa := Lib.hid (ss2 b_ hdd hs1.out); have HBa := Lib.hid (below_step HBD.out (Nat.le_of_lt hdd) b_); have zz_ := b_.size; have HCa := Lib.hid b_; have hda := Nat.lt_of_lt_of_le hdd zz_; have Ma_a := Lib.hid (o_.mat.mono (Nat.le_of_lt hdd) (Nat.le_refl _)); have DNa := Lib.hid (DN0.out.call b_); clear b_ o_) | (go_at_call 41; (with_reducible refine (versorOfVectors_own pS aS S cS loS tpS ra L ka w.heap.size wa.heap.size wa HI.out (HS.out.below HBa.out tS) (Nat.le_trans tS (HBa.out).size) Ma_a.out (Nat.le_refl _) HLB.out).mono ?_); rintro e wab ⟨rb, kb, rfl, o_, b_⟩; have SSab := Lib.hid (ss2 b_ hda SSa.out); have HBab := Lib.hid (below_step HBa.out (Nat.le_of_lt hda) b_); have zz_ := b_.size; have HCab := Lib.hid (below_step HCa.out (HCa.out).size b_); have hdab := Nat.lt_of_lt_of_le hda zz_; have Ma_ab := Lib.hid ((Ma_a.out.below b_ (Nat.le_refl _)).mono (Nat.le_refl _) zz_); have Ob_ab := Lib.hid (OwnR.mono' o_ (Nat.le_of_lt hda) (Nat.le_refl _)); have Rb_ab := Lib.hid (Ob_ab.out.row); have DNab := Lib.hid (DNa.out.call b_); obtain ⟨⟨z0, z1, z2, z3, z4⟩, y0, y1, y2, y3, y4⟩ := DNab.out.vv; have OBR := Lib.hid o_; clear b_ o_))
  go_wp2
  refine bodyPost_ret (v := .agg #[.int .i64 pS, .slice aS S.length cS, .slice rb (vrM pS S L L.length).length kb, .int .i64 pS, .int .i64 (vsF pS S L L.length)]) (by simp [results, Tryz.results26, go_sem, z0, z1, z2, z3, z4]) rfl ⟨rb, kb, rfl, ?_, below_vput5 DNab.out.bel (Nat.le_of_lt hwg)⟩
  exact (show OwnR w.heap.size (vput5 g _ _ _ _ _ wab).heap.size (vput5 g _ _ _ _ _ wab) rb _ from (OBR.out.vput5 DNa.out.hd.2 _ _ _ _ _).mono' (Nat.le_of_lt DNa.out.hd.1) (by rw [vput5_size]; exact Nat.le_refl _))

set_option maxRecDepth 100000 in
set_option maxHeartbeats 6400000 in
theorem impl_VersorOfMatrix (pS : Int) (aS : Option Addr) (S : List Int) (cS loS tpS : Nat) (am : Option Addr) (m : List (List Int)) (cm lom tpm : Nat) (w : World) (hS : RowIn loS tpS w aS S) (tS : tpS ≤ w.heap.size) (sS : S.length ≤ 1048576) (hm : MatIn lom tpm w am m) (tm : tpm ≤ w.heap.size) (sm' : m.length + tot m m.length ≤ 1048576) :
    Calls Tryz.prog 10 #[.agg #[.int .i64 pS, .slice aS S.length cS], .slice am m.length cm] w (ImplR (voM pS S m) (coC pS S m) w) := by
  have HS := Lib.hid hS
  have Hm := Lib.hid hm
  have HSM := Lib.hid sm'
  have k0 := nw0 w (.int .i64 pS) (.slice aS S.length cS) 30
  have k1 := nw1 w (.int .i64 pS) (.slice aS S.length cS) 30
  have HB0 := Lib.hid (below_alloc w (.cells #[.int .i64 pS, .slice aS S.length cS] 30))
  clear hS hm sm'
  by_cases h0 : coC pS S m = 0
  · have HC0 := Lib.hid h0
    have HI := Lib.hid (reg0 (coC_zero h0).1).1
    have HD := Lib.hid (reg0 (coC_zero h0).1).2
    have HO := Lib.hid (coC_zero h0).2
    have HLB := Lib.hid (dec_list (reg0 (coC_zero h0).1).1 (reg0 (coC_zero h0).1).2 (coC_zero h0).2)
    have HV : Hid (voM pS S m = vrM pS S (decL pS S m) (decL pS S m).length) := if_pos h0
    clear h0
    obtain ⟨X, hX⟩ : ∃ X, X = vrM pS S (decL pS S m) (decL pS S m).length := ⟨_, rfl⟩
    obtain ⟨N, hN⟩ : ∃ N, N = vsF pS S (decL pS S m) (decL pS S m).length := ⟨_, rfl⟩
    have HXE : Hid (vrM pS S (decL pS S m) (decL pS S m).length = X) := hX.symm
    have HNE : Hid (vsF pS S (decL pS S m) (decL pS S m).length = N) := hN.symm
    rw [← hX] at HV
    clear hX hN
    have hfv := field_ver8
    have hfm := field_mul8
    go_enter Tryz.func10, Tryz.ntmps10
    go_upto_region 1 with fail
    obtain ⟨w1, hw1⟩ : ∃ z, z = w.alloc (.cells #[.int .i64 pS, .slice aS S.length cS] 30) := ⟨_, rfl⟩
    rw [← hw1] at HB0 k0 k1 ⊢
    have hd1 : w.heap.size < w1.heap.size := by rw [hw1]; simp
    have HB1 := HB0
    clear hw1
    have SS1 := Lib.hid (And.intro k0 k1)
    go_wp2_with (first | (go_at_call 25; ((with_reducible refine (checkOrthogonal_any pS aS S cS loS tpS am m cm lom tpm w1 (HS.out.below HB1.out tS) (Nat.le_trans tS HB1.out.size) sS (Hm.out.below HB1.out tm) (Nat.le_trans tm HB1.out.size) HSM.out).mono ?_); rintro e w2 ⟨rfl, b_⟩; rw [HC0.out]; have SS2 := Lib.hid (ss2 b_ hd1 SS1.out); have HB2 := Lib.hid (below_step HB1.out HB1.out.size b_); have hd2 := Nat.lt_of_lt_of_le hd1 b_.size; clear k0 k1; obtain ⟨k0, k1⟩ := SS2.out; clear b_)) | (go_at_call 26; ((with_reducible refine (versorOfMatrix_own pS aS S cS loS tpS am m cm lom tpm w2 HI.out HD.out HO.out (HS.out.below HB2.out tS) (Nat.le_trans tS HB2.out.size) (Hm.out.below HB2.out tm) (Nat.le_trans tm HB2.out.size)).mono ?_); rintro e w3 ⟨r, c, rfl, o_, b_⟩; rw [HXE.out] at o_; rw [HXE.out, HNE.out]; have SS3 := Lib.hid (ss2 b_ hd2 SS2.out); have HB3 := Lib.hid (below_step HB2.out HB2.out.size b_); have hd3 := Nat.lt_of_lt_of_le hd2 b_.size; have OO := Lib.hid (OwnR.mono' o_ (Nat.le_of_lt hd2) (Nat.le_refl _)); clear o_; clear k0 k1; obtain ⟨k0, k1⟩ := SS3.out; clear b_)))
    go_ret2
    rw [HV.out, HC0.out]
    exact ⟨r, c, rfl, OO.out, HB3.out⟩
  · have HV : Hid (voM pS S m = []) := if_neg h0
    obtain ⟨C, hC⟩ : ∃ c, c = coC pS S m := ⟨_, rfl⟩
    have hc1 : (C != 0) = true := by rw [hC]; simpa using h0
    have hc2 : (C == 0) = false := by rw [hC]; simpa using h0
    have HCE := Lib.hid hC
    clear h0 hC
    go_enter Tryz.func10, Tryz.ntmps10
    go_upto_region 1 with fail
    obtain ⟨w1, hw1⟩ : ∃ z, z = w.alloc (.cells #[.int .i64 pS, .slice aS S.length cS] 30) := ⟨_, rfl⟩
    rw [← hw1] at HB0 k0 k1 ⊢
    have hd1 : w.heap.size < w1.heap.size := by rw [hw1]; simp
    have HB1 := HB0
    clear hw1
    have SS1 := Lib.hid (And.intro k0 k1)
    go_wp2_with (go_at_call 25; ((with_reducible refine (checkOrthogonal_any pS aS S cS loS tpS am m cm lom tpm w1 (HS.out.below HB1.out tS) (Nat.le_trans tS HB1.out.size) sS (Hm.out.below HB1.out tm) (Nat.le_trans tm HB1.out.size) HSM.out).mono ?_); rintro e w2 ⟨rfl, b_⟩; rw [← HCE.out]; have SS2 := Lib.hid (ss2 b_ hd1 SS1.out); have HB2 := Lib.hid (below_step HB1.out HB1.out.size b_); have hd2 := Nat.lt_of_lt_of_le hd1 b_.size; clear k0 k1; obtain ⟨k0, k1⟩ := SS2.out; clear b_))
    go_ret2
    rw [HV.out, ← HCE.out]
    exact ⟨none, 0, rfl, .inl rfl, HB2.out⟩

set_option maxRecDepth 100000 in
set_option maxHeartbeats 6400000 in
theorem spec_VersorOfMatrix (pS : Int) (aS : Option Addr) (S : List Int) (cS loS tpS : Nat) (am : Option Addr) (m : List (List Int)) (cm lom tpm : Nat) (w : World) (hS : RowIn loS tpS w aS S) (tS : tpS ≤ w.heap.size) (sS : S.length ≤ 1048576) (hm : MatIn lom tpm w am m) (tm : tpm ≤ w.heap.size) (sm' : m.length + tot m m.length ≤ 1048576) :
    Calls Tryz.prog 7 #[.agg #[.int .i64 pS, .slice aS S.length cS], .slice am m.length cm] w (SpecR (voM pS S m) (coC pS S m) w) := by
  have HS := Lib.hid hS
  have Hm := Lib.hid hm
  have HSM := Lib.hid sm'
  have k0 := nw0 w (.int .i64 pS) (.slice aS S.length cS) 30
  have k1 := nw1 w (.int .i64 pS) (.slice aS S.length cS) 30
  have HB0 := Lib.hid (below_alloc w (.cells #[.int .i64 pS, .slice aS S.length cS] 30))
  clear hS hm sm'
  by_cases h0 : coC pS S m = 0
  · have HC0 := Lib.hid h0
    have HI := Lib.hid (reg0 (coC_zero h0).1).1
    have HD := Lib.hid (reg0 (coC_zero h0).1).2
    have HO := Lib.hid (coC_zero h0).2
    have HLB := Lib.hid (dec_list (reg0 (coC_zero h0).1).1 (reg0 (coC_zero h0).1).2 (coC_zero h0).2)
    have HV : Hid (voM pS S m = vrM pS S (decL pS S m) (decL pS S m).length) := if_pos h0
    clear h0
    obtain ⟨X, hX⟩ : ∃ X, X = vrM pS S (decL pS S m) (decL pS S m).length := ⟨_, rfl⟩
    obtain ⟨N, hN⟩ : ∃ N, N = vsF pS S (decL pS S m) (decL pS S m).length := ⟨_, rfl⟩
    have HXE : Hid (vrM pS S (decL pS S m) (decL pS S m).length = X) := hX.symm
    have HNE : Hid (vsF pS S (decL pS S m) (decL pS S m).length = N) := hN.symm
    rw [← hX] at HV
    clear hX hN
    go_enter Tryz.func7, Tryz.ntmps7
    go_upto_region 1 with fail
    obtain ⟨w1, hw1⟩ : ∃ z, z = w.alloc (.cells #[.int .i64 pS, .slice aS S.length cS] 30) := ⟨_, rfl⟩
    rw [← hw1] at HB0 k0 k1 ⊢
    have hd1 : w.heap.size < w1.heap.size := by rw [hw1]; simp
    have HB1 := HB0
    clear hw1
    have SS1 := Lib.hid (And.intro k0 k1)
    go_upto_region 4 with (go_at_call 21; ((with_reducible refine (l08Code_any pS aS S cS loS tpS am m cm lom tpm w1 (HS.out.below HB1.out tS) (Nat.le_trans tS HB1.out.size) sS (Hm.out.below HB1.out tm) (Nat.le_trans tm HB1.out.size) HSM.out).mono ?_); rintro e w2 ⟨rfl, b_⟩; rw [HC0.out]; have SS2 := Lib.hid (ss2 b_ hd1 SS1.out); have HB2 := Lib.hid (below_step HB1.out HB1.out.size b_); have hd2 := Nat.lt_of_lt_of_le hd1 b_.size; clear k0 k1; obtain ⟨k0, k1⟩ := SS2.out; clear b_))
    have HBE : Hid (Below w.heap.size w w2.drew) := HB2.out.drew
    have hs2 : Hid (w2.drew.cell? ⟨w.heap.size, 0, none⟩ = some (.int .i64 pS) ∧ w2.drew.cell? ⟨w.heap.size, 1, none⟩ = some (.slice aS S.length cS)) := SS2.out
    have hde : w.heap.size < w2.drew.heap.size := hd2
    go_region_held3 (fun w' => w'.cell? ⟨w.heap.size, 0, none⟩ = some (.int .i64 pS) ∧ w'.cell? ⟨w.heap.size, 1, none⟩ = some (.slice aS S.length cS)) (first | exact hs2.out | exact SSa.out | exact SSab.out | go_keep) (first | (go_at_call 23; (with_reducible refine (l08Decompose_any pS aS S cS loS tpS am m cm lom tpm w2.drew HI.out HD.out HO.out (HS.out.below HBE.out tS) (Nat.le_trans tS (HBE.out).size) (Hm.out.below HBE.out tm) (Nat.le_trans tm (HBE.out).size)).mono ?_); rintro e wa ⟨ra, ka, rfl, o_, b_⟩; have SSa := Lib.hid (ss2 b_ hde hs2.out); have HBa := Lib.hid (below_step HBE.out (Nat.le_of_lt hde) b_); have zz_ := b_.size; have HCa := Lib.hid b_; have hda := Nat.lt_of_lt_of_le hde zz_; have Ma_a := Lib.hid (o_.mono (Nat.le_of_lt hde) (Nat.le_refl _)); clear b_ o_) | (go_at_call 22; (with_reducible refine (l07Versor_own pS aS S cS loS tpS ra (decL pS S m) ka w.heap.size wa.heap.size wa HI.out (HS.out.below HBa.out tS) (Nat.le_trans tS (HBa.out).size) Ma_a.out (Nat.le_refl _) HLB.out).mono ?_); rintro e wab ⟨rb, kb, rfl, o_, b_⟩; rw [HXE.out] at o_; rw [HXE.out]; have SSab := Lib.hid (ss2 b_ hda SSa.out); have HBab := Lib.hid (below_step HBa.out (Nat.le_of_lt hda) b_); have zz_ := b_.size; have HCab := Lib.hid (below_step HCa.out (HCa.out).size b_); have hdab := Nat.lt_of_lt_of_le hda zz_; have Ma_ab := Lib.hid ((Ma_a.out.below b_ (Nat.le_refl _)).mono (Nat.le_refl _) zz_); have Ob_ab := Lib.hid (OwnR.mono' o_ (Nat.le_of_lt hda) (Nat.le_refl _)); have Rb_ab := Lib.hid (Ob_ab.out.row); clear b_ o_))
    go_wp2
    go_ret2
    rw [HV.out, HC0.out]
    exact ⟨rb, kb, rfl, Rb_ab.out, HBab.out⟩
  · have HV : Hid (voM pS S m = []) := if_neg h0
    obtain ⟨C, hC⟩ : ∃ c, c = coC pS S m := ⟨_, rfl⟩
    have hc1 : (C != 0) = true := by rw [hC]; simpa using h0
    have hc2 : (C == 0) = false := by rw [hC]; simpa using h0
    have HCE := Lib.hid hC
    clear h0 hC
    go_enter Tryz.func7, Tryz.ntmps7
    go_upto_region 1 with fail
    obtain ⟨w1, hw1⟩ : ∃ z, z = w.alloc (.cells #[.int .i64 pS, .slice aS S.length cS] 30) := ⟨_, rfl⟩
    rw [← hw1] at HB0 k0 k1 ⊢
    have hd1 : w.heap.size < w1.heap.size := by rw [hw1]; simp
    have HB1 := HB0
    clear hw1
    have SS1 := Lib.hid (And.intro k0 k1)
    go_wp2_with (go_at_call 21; ((with_reducible refine (l08Code_any pS aS S cS loS tpS am m cm lom tpm w1 (HS.out.below HB1.out tS) (Nat.le_trans tS HB1.out.size) sS (Hm.out.below HB1.out tm) (Nat.le_trans tm HB1.out.size) HSM.out).mono ?_); rintro e w2 ⟨rfl, b_⟩; rw [← HCE.out]; have SS2 := Lib.hid (ss2 b_ hd1 SS1.out); have HB2 := Lib.hid (below_step HB1.out HB1.out.size b_); have hd2 := Nat.lt_of_lt_of_le hd1 b_.size; clear k0 k1; obtain ⟨k0, k1⟩ := SS2.out; clear b_))
    go_ret2
    rw [HV.out, ← HCE.out]
    exact ⟨none, 0, rfl, .inl rfl, HB2.out⟩

set_option maxRecDepth 100000 in
set_option maxHeartbeats 6400000 in
theorem impl_HasSquareNorm (pS : Int) (aS : Option Addr) (S : List Int) (cS loS tpS : Nat) (am : Option Addr) (m : List (List Int)) (cm lom tpm : Nat) (w : World) (hS : RowIn loS tpS w aS S) (tS : tpS ≤ w.heap.size) (sS : S.length ≤ 1048576) (hm : MatIn lom tpm w am m) (tm : tpm ≤ w.heap.size) (sm' : m.length + tot m m.length ≤ 1048576) :
    Calls Tryz.prog 19 #[.agg #[.int .i64 pS, .slice aS S.length cS], .slice am m.length cm] w (RetB (hsV pS S m) (coC pS S m) w) := by
  have HS := Lib.hid hS
  have Hm := Lib.hid hm
  have HSM := Lib.hid sm'
  have k0 := nw0 w (.int .i64 pS) (.slice aS S.length cS) 30
  have k1 := nw1 w (.int .i64 pS) (.slice aS S.length cS) 30
  have HB0 := Lib.hid (below_alloc w (.cells #[.int .i64 pS, .slice aS S.length cS] 30))
  clear hS hm sm'
  by_cases h0 : coC pS S m = 0
  · have HC0 := Lib.hid h0
    have HI := Lib.hid (reg0 (coC_zero h0).1).1
    have HD := Lib.hid (reg0 (coC_zero h0).1).2
    have HO := Lib.hid (coC_zero h0).2
    have HLB := Lib.hid (dec_list (reg0 (coC_zero h0).1).1 (reg0 (coC_zero h0).1).2 (coC_zero h0).2)
    have HV : Hid (hsV pS S m = rtB pS (vsF pS S (decL pS S m) (decL pS S m).length)) := if_pos h0
    clear h0
    obtain ⟨X, hX⟩ : ∃ X, X = vrM pS S (decL pS S m) (decL pS S m).length := ⟨_, rfl⟩
    obtain ⟨N, hN⟩ : ∃ N, N = vsF pS S (decL pS S m) (decL pS S m).length := ⟨_, rfl⟩
    have HXE : Hid (vrM pS S (decL pS S m) (decL pS S m).length = X) := hX.symm
    have HNE : Hid (vsF pS S (decL pS S m) (decL pS S m).length = N) := hN.symm
    have hpb := prm_bd (isSp_iff.1 HI.out).prime
    have HNB : Hid (0 ≤ N ∧ N < pS) := by show _ ∧ _; rw [hN]; exact vs_bd (by omega) _ _ _
    rw [← hN] at HV
    clear hX hN hpb
    have hfn := field_num8
    go_enter Tryz.func19, Tryz.ntmps19
    go_upto_region 1 with fail
    obtain ⟨w1, hw1⟩ : ∃ z, z = w.alloc (.cells #[.int .i64 pS, .slice aS S.length cS] 30) := ⟨_, rfl⟩
    rw [← hw1] at HB0 k0 k1 ⊢
    have hd1 : w.heap.size < w1.heap.size := by rw [hw1]; simp
    have HB1 := HB0
    clear hw1
    have SS1 := Lib.hid (And.intro k0 k1)
    go_wp2_with (first | (go_at_call 25; ((with_reducible refine (checkOrthogonal_any pS aS S cS loS tpS am m cm lom tpm w1 (HS.out.below HB1.out tS) (Nat.le_trans tS HB1.out.size) sS (Hm.out.below HB1.out tm) (Nat.le_trans tm HB1.out.size) HSM.out).mono ?_); rintro e w2 ⟨rfl, b_⟩; rw [HC0.out]; have SS2 := Lib.hid (ss2 b_ hd1 SS1.out); have HB2 := Lib.hid (below_step HB1.out HB1.out.size b_); have hd2 := Nat.lt_of_lt_of_le hd1 b_.size; clear k0 k1; obtain ⟨k0, k1⟩ := SS2.out; clear b_)) | (go_at_call 26; ((with_reducible refine (versorOfMatrix_own pS aS S cS loS tpS am m cm lom tpm w2 HI.out HD.out HO.out (HS.out.below HB2.out tS) (Nat.le_trans tS HB2.out.size) (Hm.out.below HB2.out tm) (Nat.le_trans tm HB2.out.size)).mono ?_); rintro e w3 ⟨r, c, rfl, o_, b_⟩; rw [HXE.out] at o_; rw [HXE.out, HNE.out]; have SS3 := Lib.hid (ss2 b_ hd2 SS2.out); have HB3 := Lib.hid (below_step HB2.out HB2.out.size b_); have hd3 := Nat.lt_of_lt_of_le hd2 b_.size; have OO := Lib.hid (OwnR.mono' o_ (Nat.le_of_lt hd2) (Nat.le_refl _)); clear o_; clear k0 k1; obtain ⟨k0, k1⟩ := SS3.out; clear b_)) | (go_at_call 29; ((with_reducible refine (root_any pS N w3 (isSp_iff.1 HI.out).prime HNB.out.1 HNB.out.2).mono ?_); rintro e w4 ⟨rfl, b_⟩; have SS4 := Lib.hid (ss2 b_ hd3 SS3.out); have HB4 := Lib.hid (below_step HB3.out HB3.out.size b_); have hd4 := Nat.lt_of_lt_of_le hd3 b_.size; clear k0 k1; obtain ⟨k0, k1⟩ := SS4.out; clear b_)))
    go_ret2
    exact ⟨by rw [HV.out, HC0.out]; rfl, HB4.out.alloc HB4.out.size _⟩
  · have HV : Hid (hsV pS S m = false) := if_neg h0
    obtain ⟨C, hC⟩ : ∃ c, c = coC pS S m := ⟨_, rfl⟩
    have hc1 : (C != 0) = true := by rw [hC]; simpa using h0
    have hc2 : (C == 0) = false := by rw [hC]; simpa using h0
    have HCE := Lib.hid hC
    clear h0 hC
    go_enter Tryz.func19, Tryz.ntmps19
    go_upto_region 1 with fail
    obtain ⟨w1, hw1⟩ : ∃ z, z = w.alloc (.cells #[.int .i64 pS, .slice aS S.length cS] 30) := ⟨_, rfl⟩
    rw [← hw1] at HB0 k0 k1 ⊢
    have hd1 : w.heap.size < w1.heap.size := by rw [hw1]; simp
    have HB1 := HB0
    clear hw1
    have SS1 := Lib.hid (And.intro k0 k1)
    go_wp2_with (go_at_call 25; ((with_reducible refine (checkOrthogonal_any pS aS S cS loS tpS am m cm lom tpm w1 (HS.out.below HB1.out tS) (Nat.le_trans tS HB1.out.size) sS (Hm.out.below HB1.out tm) (Nat.le_trans tm HB1.out.size) HSM.out).mono ?_); rintro e w2 ⟨rfl, b_⟩; rw [← HCE.out]; have SS2 := Lib.hid (ss2 b_ hd1 SS1.out); have HB2 := Lib.hid (below_step HB1.out HB1.out.size b_); have hd2 := Nat.lt_of_lt_of_le hd1 b_.size; clear k0 k1; obtain ⟨k0, k1⟩ := SS2.out; clear b_))
    go_ret2
    exact ⟨by rw [HV.out, ← HCE.out]; rfl, HB2.out⟩

set_option maxRecDepth 100000 in
set_option maxHeartbeats 6400000 in
theorem spec_HasSquareNorm (pS : Int) (aS : Option Addr) (S : List Int) (cS loS tpS : Nat) (am : Option Addr) (m : List (List Int)) (cm lom tpm : Nat) (w : World) (hS : RowIn loS tpS w aS S) (tS : tpS ≤ w.heap.size) (sS : S.length ≤ 1048576) (hm : MatIn lom tpm w am m) (tm : tpm ≤ w.heap.size) (sm' : m.length + tot m m.length ≤ 1048576) :
    Calls Tryz.prog 18 #[.agg #[.int .i64 pS, .slice aS S.length cS], .slice am m.length cm] w (RetB (hsV pS S m) (coC pS S m) w) := by
  have HS := Lib.hid hS
  have Hm := Lib.hid hm
  have HSM := Lib.hid sm'
  have k0 := nw0 w (.int .i64 pS) (.slice aS S.length cS) 30
  have k1 := nw1 w (.int .i64 pS) (.slice aS S.length cS) 30
  have HB0 := Lib.hid (below_alloc w (.cells #[.int .i64 pS, .slice aS S.length cS] 30))
  clear hS hm sm'
  by_cases h0 : coC pS S m = 0
  · have HC0 := Lib.hid h0
    have HI := Lib.hid (reg0 (coC_zero h0).1).1
    have HD := Lib.hid (reg0 (coC_zero h0).1).2
    have HO := Lib.hid (coC_zero h0).2
    have HLB := Lib.hid (dec_list (reg0 (coC_zero h0).1).1 (reg0 (coC_zero h0).1).2 (coC_zero h0).2)
    have HV : Hid (hsV pS S m = rtB pS (vsF pS S (decL pS S m) (decL pS S m).length)) := if_pos h0
    clear h0
    obtain ⟨X, hX⟩ : ∃ X, X = vrM pS S (decL pS S m) (decL pS S m).length := ⟨_, rfl⟩
    obtain ⟨N, hN⟩ : ∃ N, N = vsF pS S (decL pS S m) (decL pS S m).length := ⟨_, rfl⟩
    have HXE : Hid (vrM pS S (decL pS S m) (decL pS S m).length = X) := hX.symm
    have HNE : Hid (vsF pS S (decL pS S m) (decL pS S m).length = N) := hN.symm
    clear hX hN HXE HNE X N
    obtain ⟨L, hL⟩ : ∃ l, l = decL pS S m := ⟨_, rfl⟩
    have HLE := Lib.hid hL
    rw [← hL] at HV HLB
    have hpb := prm_bd (isSp_iff.1 HI.out).prime
    have hL16 : L.length ≤ 16 := (listB_iff HLB.out).1
    have HVS : Hid (∀ k, 0 ≤ vsF pS S L k ∧ vsF pS S L k < pS) := fun k => vs_bd (by omega) _ _ _
    clear hL
    go_enter Tryz.func18, Tryz.ntmps18
    go_upto_region 1 with fail
    obtain ⟨w1, hw1⟩ : ∃ z, z = w.alloc (.cells #[.int .i64 pS, .slice aS S.length cS] 30) := ⟨_, rfl⟩
    rw [← hw1] at HB0 k0 k1 ⊢
    have hd1 : w.heap.size < w1.heap.size := by rw [hw1]; simp
    have HB1 := HB0
    clear hw1
    have SS1 := Lib.hid (And.intro k0 k1)
    go_wp2_with (first | (go_at_call 21; ((with_reducible refine (l08Code_any pS aS S cS loS tpS am m cm lom tpm w1 (HS.out.below HB1.out tS) (Nat.le_trans tS HB1.out.size) sS (Hm.out.below HB1.out tm) (Nat.le_trans tm HB1.out.size) HSM.out).mono ?_); rintro e w2 ⟨rfl, b_⟩; rw [HC0.out]; have SS2 := Lib.hid (ss2 b_ hd1 SS1.out); have HB2 := Lib.hid (below_step HB1.out HB1.out.size b_); have hd2 := Nat.lt_of_lt_of_le hd1 b_.size; clear k0 k1; obtain ⟨k0, k1⟩ := SS2.out; clear b_)) | (go_at_call 23; ((with_reducible refine (l08Decompose_any pS aS S cS loS tpS am m cm lom tpm w2 HI.out HD.out HO.out (HS.out.below HB2.out tS) (Nat.le_trans tS HB2.out.size) (Hm.out.below HB2.out tm) (Nat.le_trans tm HB2.out.size)).mono ?_); rintro e w3 ⟨r4, c4, rfl, o_, b_⟩; rw [← HLE.out] at o_; rw [← HLE.out]; have SS3 := Lib.hid (ss2 b_ hd2 SS2.out); have HB3 := Lib.hid (below_step HB2.out HB2.out.size b_); have hd3 := Nat.lt_of_lt_of_le hd2 b_.size; have HO4 := Lib.hid o_; clear o_; clear k0 k1; obtain ⟨k0, k1⟩ := SS3.out; clear b_)))
    go_loopw [8, 9] (fun t5 t6 wr => ∃ i : Nat, i ≤ L.length ∧ t6 = .int .i64 i ∧ t5 = .int .i64 (vsF pS S L i) ∧ Below w3.heap.size w3 wr) (fun _ t _ => L.length - (intOf t).toNat)
    case atStart => exact ⟨0, Nat.zero_le _, rfl, rfl, Below.refl _ _⟩
    case round =>
      obtain ⟨i, hi, rfl, rfl, hbel⟩ := hrel
      have HBEL := Lib.hid hbel
      have SSr := Lib.hid (ss2 hbel hd3 SS3.out)
      have HBX : Hid (Below w.heap.size w wr) := below_step HB3.out HB3.out.size hbel
      have hv := HVS.out i
      obtain ⟨N, hN⟩ : ∃ n, n = vsF pS S L i := ⟨_, rfl⟩
      rw [← hN] at hv
      have HNE := Lib.hid hN
      rw [← hN]
      clear k0 k1
      obtain ⟨k0, k1⟩ := SSr.out
      by_cases hlt : i < L.length
      · have hi1 : (i : Int) < (L.length : Int) := by omega
        obtain ⟨b9, o9, rv, cv, ha9, _, hb9, hr9, hrow⟩ := (HO4.out.below hbel (Nat.le_refl _)).row hlt
        subst ha9
        have HRV := Lib.hid hrow
        have HVC := Lib.hid ((listB_iff HLB.out).2 i hlt)
        obtain ⟨Q, hQ⟩ : ∃ q, q = pairN pS S (rw' L i) (rw' L i) := ⟨_, rfl⟩
        have HQE := Lib.hid hQ
        have HQB : Hid (0 ≤ Q ∧ Q < pS) := by show _ ∧ _; rw [hQ]; exact pairN_bd7 (by omega)
        have HX : Hid (vsF pS S L (i + 1) = N * Q % pS) := by rw [HNE.out, HQE.out]; rfl
        clear hbel hrow hN hQ
        have hm_ := mul_bd (isSp_iff.1 HI.out).prime hv.1 hv.2 HQB.out.1 HQB.out.2
        have e1 : IntKind.i64.wrap (N * Q) = N * Q := IntWalk.i64_in _ (by omega)
        have e2 : wrap64 (N * Q) = N * Q := by unfold wrap64; omega
        have e3 : (N * Q).tmod pS = N * Q % pS := Int.tmod_eq_emod_of_nonneg hm_.1
        have hp0 : ¬ pS = 0 := by omega
        have hp1 : (pS == 0) = false := by simpa using hp0
        have hdr : w.heap.size < wr.drew.heap.size := Nat.lt_of_lt_of_le hd3 HBEL.out.size
        have h9r : b9 < wr.drew.heap.size := Nat.lt_of_lt_of_le hb9 HBEL.out.size
        have hs1 : Hid (wr.drew.cell? ⟨w.heap.size, 0, none⟩ = some (.int .i64 pS) ∧ wr.drew.cell? ⟨w.heap.size, 1, none⟩ = some (.slice aS S.length cS) ∧ wr.drew.cell? ⟨b9, o9 + i, none⟩ = some (.slice rv (rw' L i).length cv)) := ⟨k0, k1, hr9⟩
        clear k0 k1 hr9
        go_wp2
        go_region_held3 (fun w' => w'.cell? ⟨w.heap.size, 0, none⟩ = some (.int .i64 pS) ∧ w'.cell? ⟨w.heap.size, 1, none⟩ = some (.slice aS S.length cS) ∧ w'.cell? ⟨b9, o9 + i, none⟩ = some (.slice rv (rw' L i).length cv)) (first | exact hs1.out | exact SSa.out | go_keep) ((go_at_call 27; ((with_reducible refine (l03Pair_below pS aS S cS loS tpS rv (rw' L i) _ cv w2.heap.size w3.heap.size rv (rw' L i) _ cv w2.heap.size w3.heap.size wr.drew rfl rfl (HS.out.below HBX.out.drew tS) (Nat.le_trans tS HBX.out.drew.size) (HRV.out.below (below_drew wr) HBEL.out.size) HBEL.out.drew.size (HRV.out.below (below_drew wr) HBEL.out.size) HBEL.out.drew.size HI.out HVC.out HVC.out).mono ?_); rintro e wa ⟨rfl, b_⟩; rw [← HQE.out]; have SSa := Lib.hid (And.intro ((b_.cell (p := ⟨w.heap.size, 0, none⟩) hdr).trans hs1.out.1) (And.intro ((b_.cell (p := ⟨w.heap.size, 1, none⟩) hdr).trans hs1.out.2.1) ((b_.cell (p := ⟨b9, o9 + i, none⟩) h9r).trans hs1.out.2.2))); have HB5 : Hid (Below w3.heap.size w3 wa) := below_step HBEL.out.drew HBEL.out.size b_; clear b_)))
        go_wp2
        go_roundw
        case rel => exact ⟨i + 1, by omega, by go_num, by rw [HX.out], HB5.out⟩
        case measure => simp [intOf]; omega
      · have hi2 : ¬ (i : Int) < (L.length : Int) := by omega
        have hin : i = L.length := by omega
        rw [hin] at HNE
        clear hbel hN
        go_wp2_with (go_at_call 28; ((with_reducible refine (l01Root_any pS N wr (isSp_iff.1 HI.out).prime hv.1 hv.2).mono ?_); rintro e w9 ⟨rfl, rfl⟩))
        go_ret2
        rw [HV.out, HC0.out, ← HNE.out]
        exact ⟨rfl, HBX.out⟩
  · have HV : Hid (hsV pS S m = false) := if_neg h0
    obtain ⟨C, hC⟩ : ∃ c, c = coC pS S m := ⟨_, rfl⟩
    have hc1 : (C != 0) = true := by rw [hC]; simpa using h0
    have hc2 : (C == 0) = false := by rw [hC]; simpa using h0
    have HCE := Lib.hid hC
    clear h0 hC
    go_enter Tryz.func18, Tryz.ntmps18
    go_upto_region 1 with fail
    obtain ⟨w1, hw1⟩ : ∃ z, z = w.alloc (.cells #[.int .i64 pS, .slice aS S.length cS] 30) := ⟨_, rfl⟩
    rw [← hw1] at HB0 k0 k1 ⊢
    have hd1 : w.heap.size < w1.heap.size := by rw [hw1]; simp
    have HB1 := HB0
    clear hw1
    have SS1 := Lib.hid (And.intro k0 k1)
    go_wp2_with (go_at_call 21; ((with_reducible refine (l08Code_any pS aS S cS loS tpS am m cm lom tpm w1 (HS.out.below HB1.out tS) (Nat.le_trans tS HB1.out.size) sS (Hm.out.below HB1.out tm) (Nat.le_trans tm HB1.out.size) HSM.out).mono ?_); rintro e w2 ⟨rfl, b_⟩; rw [← HCE.out]; have SS2 := Lib.hid (ss2 b_ hd1 SS1.out); have HB2 := Lib.hid (below_step HB1.out HB1.out.size b_); have hd2 := Nat.lt_of_lt_of_le hd1 b_.size; clear k0 k1; obtain ⟨k0, k1⟩ := SS2.out; clear b_))
    go_ret2
    exact ⟨by rw [HV.out, ← HCE.out]; rfl, HB2.out⟩

end Go.Proofs.YtigdepahbnidjaaGreat
