/-
  Versors of matrices: contracts of the program and of the model.
  Conditions: the lists are nil or rows of known cells, of at most 1048576 numbers.
  What quotients and powers return, in the program and in the model, and the walks of their laws.
  No conditions but that the arguments are whole numbers of 64 bits.
-/
import Derived.Test.YthbkfpkeofpocaaGreatQv43
import Derived.Test.YthbkfpkeofpocaaGreatQv25
import Derived.Test.YthbkfpkeofpocaaGreatQv39
import Derived.Test.YthbkfpkeofpocaaGreatQv22
import Derived.Deep.RegionHeld3
import Derived.Deep.DeepCutAuto
import Derived.Test.YthbkfpkeofpocaaGreatQv13
namespace Go.Proofs.YthbkfpkeofpocaaGreat
open Go.RowKit
set_option linter.unusedVariables false

theorem dec_list {p : Int} {S : List Int} {m : List (List Int)} (hs : isSp p S = true) (hd : discN p S ≠ 0) (ho : orB p S m = true) : listB p S (decL p S m) = true := by
  have h := dec_ok hs hd ho
  unfold listB
  rw [Bool.and_eq_true, List.all_eq_true]
  exact ⟨fun u hu => (h.1 u hu).1, decide_eq_true (by have := h.2; omega)⟩
def voM (p : Int) (S : List Int) (m : List (List Int)) : List Int := if coC p S m = 0 then vrM p S (decL p S m) (decL p S m).length else []
theorem field_ver8 (a b c d e : Value) (w : World) : (Instr.field 50 (.agg #[a, b, c, d, e]) 0).run Tryz.prog w = .ok (.agg #[a, b, c]) w := by kernel_rfl
theorem field_mul8 (a b c : Value) (w : World) : (Instr.field 46 (.agg #[a, b, c]) 1).run Tryz.prog w = .ok c w := by kernel_rfl
theorem ss_put5 {W : World} {g h : Nat} {A B : Value} (hg : h ≠ g) (v0 v1 v2 v3 v4 : Value) (k : W.cell? ⟨h, 0, none⟩ = some A ∧ W.cell? ⟨h, 1, none⟩ = some B) : (((((W.setCell ⟨g, 0, none⟩ v0).setCell ⟨g, 1, none⟩ v1).setCell ⟨g, 2, none⟩ v2).setCell ⟨g, 3, none⟩ v3).setCell ⟨g, 4, none⟩ v4).cell? ⟨h, 0, none⟩ = some A ∧ (((((W.setCell ⟨g, 0, none⟩ v0).setCell ⟨g, 1, none⟩ v1).setCell ⟨g, 2, none⟩ v2).setCell ⟨g, 3, none⟩ v3).setCell ⟨g, 4, none⟩ v4).cell? ⟨h, 1, none⟩ = some B := by
  have e : ∀ (o i : Nat) (v : Value) (W : World), (W.setCell ⟨g, i, none⟩ v).cell? ⟨h, o, none⟩ = W.cell? ⟨h, o, none⟩ := fun o i v W => World.cell?_setCell_other _ _ _ _ (fun e2 => hg (by injection e2 with e1 e3; omega))
  rw [e, e, e, e, e, e, e, e, e, e]
  exact k
set_option maxRecDepth 100000 in
set_option maxHeartbeats 3200000 in
theorem versorOfMatrix_own (pS : Int) (aS : Option Addr) (S : List Int) (cS loS tpS : Nat) (am : Option Addr) (m : List (List Int)) (cm lom tpm : Nat) (w : World) (hs : isSp pS S = true) (hd : discN pS S ≠ 0) (ho : orB pS S m = true) (hS : RowIn loS tpS w aS S) (tS : tpS ≤ w.heap.size) (hm : MatIn lom tpm w am m) (tm : tpm ≤ w.heap.size) :
    Calls Tryz.prog 31 #[.agg #[.int .i64 pS, .slice aS S.length cS], .slice am m.length cm] w (fun e w' => ∃ r c, e = .returned (.agg #[.int .i64 pS, .slice aS S.length cS, .slice r (vrM pS S (decL pS S m) (decL pS S m).length).length c, .int .i64 pS, .int .i64 (vsF pS S (decL pS S m) (decL pS S m).length)]) ∧ OwnR w.heap.size w'.heap.size w' r (vrM pS S (decL pS S m) (decL pS S m).length) ∧ Below w.heap.size w w') := by
  have HI := Lib.hid hs
  have HD := Lib.hid hd
  have HO := Lib.hid ho
  have HS := Lib.hid hS
  have Hm := Lib.hid hm
  obtain ⟨L, hL⟩ : ∃ L, L = decL pS S m := ⟨_, rfl⟩
  have HLE : Hid (decL pS S m = L) := hL.symm
  have HLB : Hid (listB pS S L = true) := by show _ = _; rw [hL]; exact dec_list hs hd ho
  rw [← hL]
  have k0 := nw0 w (.int .i64 pS) (.slice aS S.length cS) 24
  have k1 := nw1 w (.int .i64 pS) (.slice aS S.length cS) 24
  have HB0 := Lib.hid (below_alloc w (.cells #[.int .i64 pS, .slice aS S.length cS] 24))
  clear hs hd ho hS hm hL
  go_enter Tryz.func31, Tryz.ntmps31
  go_upto_region 1 with fail
  obtain ⟨w0, hw0'⟩ : ∃ z, z = w.alloc (.cells #[.int .i64 pS, .slice aS S.length cS] 24) := ⟨_, rfl⟩
  rw [← hw0'] at HB0 k0 k1 ⊢
  have hw0 : w.heap.size < w0.heap.size := by rw [hw0']; simp
  have hwz : w.heap.size + 1 = w0.heap.size := by rw [hw0']; simp
  try rw [hwz]
  clear hw0'
  obtain ⟨w1, hw1⟩ : ∃ z, z = w0.alloc (.cells #[.int .i64 0, .slice none 0 0, .slice none 0 0, .int .i64 0, .int .i64 0] 50) := ⟨_, rfl⟩
  obtain ⟨g, hg⟩ : ∃ b, b = w0.heap.size := ⟨_, rfl⟩
  have D1 : Hid (DS7 w g pS aS S.length cS w1) := by
    have h0 := ss2 (below_alloc w0 (.cells #[.int .i64 0, .slice none 0 0, .slice none 0 0, .int .i64 0, .int .i64 0] 50)) hw0 ⟨k0, k1⟩
    rw [← hw1] at h0
    refine ⟨h0, by rw [hw1, hg]; exact V5.new _ _ _ _ _ _ _, by rw [hw1]; exact HB0.out.alloc HB0.out.size _, ?_, ?_⟩
    · rw [hw1]; simp; omega
    · rw [hw1, hg]; simp
  have hwg : w.heap.size < g := by omega
  rw [← hw1]
  rw [← hg]
  clear hw1 hwz hg k0 k1 HB0 hw0
  have DN0 : Hid (DS7 w g pS aS S.length cS w1.drew) := D1.out.call (below_drew w1)
  have HBD : Hid (Below w.heap.size w w1.drew) := DN0.out.bel
  have hs1 : Hid (w1.drew.cell? ⟨w.heap.size, 0, none⟩ = some (.int .i64 pS) ∧ w1.drew.cell? ⟨w.heap.size, 1, none⟩ = some (.slice aS S.length cS)) := DN0.out.ss
  have hdd : w.heap.size < w1.drew.heap.size := DN0.out.hd.1
  go_region_held3 (fun w' => w'.cell? ⟨w.heap.size, 0, none⟩ = some (.int .i64 pS) ∧ w'.cell? ⟨w.heap.size, 1, none⟩ = some (.slice aS S.length cS)) (first | (with_reducible exact hs1.out) | (with_reducible exact SSa.out) | (with_reducible exact SSab.out) | (exact ss_put5 (Nat.ne_of_lt hwg) _ _ _ _ _ SSab.out) | go_keep) (first | (go_at_call 56; (with_reducible refine (decomposition_own pS aS S cS loS tpS am m cm lom tpm w1.drew HI.out HD.out HO.out (HS.out.below HBD.out tS) (Nat.le_trans tS (HBD.out).size) (Hm.out.below HBD.out tm) (Nat.le_trans tm (HBD.out).size)).mono ?_); rintro e wa ⟨ra, ka, rfl, o_, b_⟩; rw [HLE.out] at o_; rw [HLE.out]; have SSa := Lib.hid (ss2 b_ hdd hs1.out); have HBa := Lib.hid (below_step HBD.out (Nat.le_of_lt hdd) b_); have zz_ := b_.size; have HCa := Lib.hid b_; have hda := Nat.lt_of_lt_of_le hdd zz_; have Ma_a := Lib.hid (o_.mat.mono (Nat.le_of_lt hdd) (Nat.le_refl _)); have DNa := Lib.hid (DN0.out.call b_); clear b_ o_) | (go_at_call 21; (with_reducible refine (versorOfVectors_own pS aS S cS loS tpS ra L ka w.heap.size wa.heap.size wa HI.out (HS.out.below HBa.out tS) (Nat.le_trans tS (HBa.out).size) Ma_a.out (Nat.le_refl _) HLB.out).mono ?_); rintro e wab ⟨rb, kb, rfl, o_, b_⟩; have SSab := Lib.hid (ss2 b_ hda SSa.out); have HBab := Lib.hid (below_step HBa.out (Nat.le_of_lt hda) b_); have zz_ := b_.size; have HCab := Lib.hid (below_step HCa.out (HCa.out).size b_); have hdab := Nat.lt_of_lt_of_le hda zz_; have Ma_ab := Lib.hid ((Ma_a.out.below b_ (Nat.le_refl _)).mono (Nat.le_refl _) zz_); have Ob_ab := Lib.hid (OwnR.mono' o_ (Nat.le_of_lt hda) (Nat.le_refl _)); have Rb_ab := Lib.hid (Ob_ab.out.row); have DNab := Lib.hid (DNa.out.call b_); obtain ⟨⟨z0, z1, z2, z3, z4⟩, y0, y1, y2, y3, y4⟩ := DNab.out.vv; have OBR := Lib.hid o_; clear b_ o_))
  go_wp2
  refine bodyPost_ret (v := .agg #[.int .i64 pS, .slice aS S.length cS, .slice rb (vrM pS S L L.length).length kb, .int .i64 pS, .int .i64 (vsF pS S L L.length)]) (by simp [results, Tryz.results31, go_sem, z0, z1, z2, z3, z4]) rfl ⟨rb, kb, rfl, ?_, below_vput5 DNab.out.bel (Nat.le_of_lt hwg)⟩
  exact (show OwnR w.heap.size (vput5 g _ _ _ _ _ wab).heap.size (vput5 g _ _ _ _ _ wab) rb _ from (OBR.out.vput5 DNa.out.hd.2 _ _ _ _ _).mono' (Nat.le_of_lt DNa.out.hd.1) (by rw [vput5_size]; exact Nat.le_refl _))

set_option maxRecDepth 100000 in
set_option maxHeartbeats 6400000 in
theorem impl_VersorOfMatrix (pS : Int) (aS : Option Addr) (S : List Int) (cS loS tpS : Nat) (am : Option Addr) (m : List (List Int)) (cm lom tpm : Nat) (w : World) (hS : RowIn loS tpS w aS S) (tS : tpS ≤ w.heap.size) (sS : S.length ≤ 1048576) (hm : MatIn lom tpm w am m) (tm : tpm ≤ w.heap.size) (sm' : m.length + tot m m.length ≤ 1048576) :
    Calls Tryz.prog 11 #[.agg #[.int .i64 pS, .slice aS S.length cS], .slice am m.length cm] w (ImplR (voM pS S m) (coC pS S m) w) := by
  have HS := Lib.hid hS
  have Hm := Lib.hid hm
  have HSM := Lib.hid sm'
  have k0 := nw0 w (.int .i64 pS) (.slice aS S.length cS) 24
  have k1 := nw1 w (.int .i64 pS) (.slice aS S.length cS) 24
  have HB0 := Lib.hid (below_alloc w (.cells #[.int .i64 pS, .slice aS S.length cS] 24))
  clear hS hm sm'
  by_cases h0 : coC pS S m = 0
  · have HC0 := Lib.hid h0
    have HI := Lib.hid (reg0 (coC_zero h0).1).1
    have HD := Lib.hid (reg0 (coC_zero h0).1).2
    have HO := Lib.hid (coC_zero h0).2
    have HLB := Lib.hid (dec_list (reg0 (coC_zero h0).1).1 (reg0 (coC_zero h0).1).2 (coC_zero h0).2)
    have HV : Hid (voM pS S m = vrM pS S (decL pS S m) (decL pS S m).length) := if_pos h0
    clear h0
    obtain ⟨X, hX⟩ : ∃ X, X = vrM pS S (decL pS S m) (decL pS S m).length := ⟨_, rfl⟩
    obtain ⟨N, hN⟩ : ∃ N, N = vsF pS S (decL pS S m) (decL pS S m).length := ⟨_, rfl⟩
    have HXE : Hid (vrM pS S (decL pS S m) (decL pS S m).length = X) := hX.symm
    have HNE : Hid (vsF pS S (decL pS S m) (decL pS S m).length = N) := hN.symm
    rw [← hX] at HV
    clear hX hN
    have hfv := field_ver8
    have hfm := field_mul8
    go_enter Tryz.func11, Tryz.ntmps11
    go_upto_region 1 with fail
    obtain ⟨w1, hw1⟩ : ∃ z, z = w.alloc (.cells #[.int .i64 pS, .slice aS S.length cS] 24) := ⟨_, rfl⟩
    rw [← hw1] at HB0 k0 k1 ⊢
    have hd1 : w.heap.size < w1.heap.size := by rw [hw1]; simp
    have HB1 := HB0
    clear hw1
    have SS1 := Lib.hid (And.intro k0 k1)
    go_wp2_with (first | (go_at_call 30; ((with_reducible refine (checkOrthogonal_any pS aS S cS loS tpS am m cm lom tpm w1 (HS.out.below HB1.out tS) (Nat.le_trans tS HB1.out.size) sS (Hm.out.below HB1.out tm) (Nat.le_trans tm HB1.out.size) HSM.out).mono ?_); rintro e w2 ⟨rfl, b_⟩; rw [HC0.out]; have SS2 := Lib.hid (ss2 b_ hd1 SS1.out); have HB2 := Lib.hid (below_step HB1.out HB1.out.size b_); have hd2 := Nat.lt_of_lt_of_le hd1 b_.size; clear k0 k1; obtain ⟨k0, k1⟩ := SS2.out; clear b_)) | (go_at_call 31; ((with_reducible refine (versorOfMatrix_own pS aS S cS loS tpS am m cm lom tpm w2 HI.out HD.out HO.out (HS.out.below HB2.out tS) (Nat.le_trans tS HB2.out.size) (Hm.out.below HB2.out tm) (Nat.le_trans tm HB2.out.size)).mono ?_); rintro e w3 ⟨r, c, rfl, o_, b_⟩; rw [HXE.out] at o_; rw [HXE.out, HNE.out]; have SS3 := Lib.hid (ss2 b_ hd2 SS2.out); have HB3 := Lib.hid (below_step HB2.out HB2.out.size b_); have hd3 := Nat.lt_of_lt_of_le hd2 b_.size; have OO := Lib.hid (OwnR.mono' o_ (Nat.le_of_lt hd2) (Nat.le_refl _)); clear o_; clear k0 k1; obtain ⟨k0, k1⟩ := SS3.out; clear b_)))
    go_ret2
    rw [HV.out, HC0.out]
    exact ⟨r, c, rfl, OO.out, HB3.out⟩
  · have HV : Hid (voM pS S m = []) := if_neg h0
    obtain ⟨C, hC⟩ : ∃ c, c = coC pS S m := ⟨_, rfl⟩
    have hc1 : (C != 0) = true := by rw [hC]; simpa using h0
    have hc2 : (C == 0) = false := by rw [hC]; simpa using h0
    have HCE := Lib.hid hC
    clear h0 hC
    go_enter Tryz.func11, Tryz.ntmps11
    go_upto_region 1 with fail
    obtain ⟨w1, hw1⟩ : ∃ z, z = w.alloc (.cells #[.int .i64 pS, .slice aS S.length cS] 24) := ⟨_, rfl⟩
    rw [← hw1] at HB0 k0 k1 ⊢
    have hd1 : w.heap.size < w1.heap.size := by rw [hw1]; simp
    have HB1 := HB0
    clear hw1
    have SS1 := Lib.hid (And.intro k0 k1)
    go_wp2_with (go_at_call 30; ((with_reducible refine (checkOrthogonal_any pS aS S cS loS tpS am m cm lom tpm w1 (HS.out.below HB1.out tS) (Nat.le_trans tS HB1.out.size) sS (Hm.out.below HB1.out tm) (Nat.le_trans tm HB1.out.size) HSM.out).mono ?_); rintro e w2 ⟨rfl, b_⟩; rw [← HCE.out]; have SS2 := Lib.hid (ss2 b_ hd1 SS1.out); have HB2 := Lib.hid (below_step HB1.out HB1.out.size b_); have hd2 := Nat.lt_of_lt_of_le hd1 b_.size; clear k0 k1; obtain ⟨k0, k1⟩ := SS2.out; clear b_))
    go_ret2
    rw [HV.out, ← HCE.out]
    exact ⟨none, 0, rfl, .inl rfl, HB2.out⟩

end Go.Proofs.YthbkfpkeofpocaaGreat

namespace Go.Proofs.YthbkfpkeofpocaaGreat
open Go.RowKit
set_option linter.unusedVariables false

def divV (p a b : Int) : Int := if codeOf p [a, b] = 0 ∧ b ≠ 0 then a * inv p b % p else 0
def divC (p a b : Int) : Int := if codeOf p [a, b] = 0 ∧ b = 0 then 5 else codeOf p [a, b]
theorem div_ok {p a b : Int} (h : codeOf p [a, b] = 0) (hb : b ≠ 0) : divV p a b = a * inv p b % p ∧ divC p a b = 0 := by simp [divV, divC, h, hb]
theorem div_zero {p a : Int} (h : codeOf p [a, 0] = 0) : divV p a 0 = 0 ∧ divC p a 0 = 5 := by simp [divV, divC, h]
theorem div_no {p a b c : Int} (h : codeOf p [a, b] = c) (hc : c ≠ 0) : divV p a b = 0 ∧ divC p a b = c := by simp [divV, divC, h, hc]

def powV (p a k : Int) : Int := if codeOf p [a] = 0 ∧ (-1000 ≤ k ∧ k ≤ 1000) ∧ ¬ (a = 0 ∧ k < 0) then (if k < 0 then pw p (inv p a) (-k).toNat else pw p a k.toNat) else 0
def powC (p a k : Int) : Int := if codeOf p [a] = 0 then (if -1000 ≤ k ∧ k ≤ 1000 then (if a = 0 ∧ k < 0 then 5 else 0) else 2) else codeOf p [a]
theorem pow_zero {p k : Int} (h : codeOf p [0] = 0) (k0 : k < 0) (k1 : -1000 ≤ k) : powV p 0 k = 0 ∧ powC p 0 k = 5 := by
  have h1 : k ≤ 1000 := by omega
  simp [powV, powC, h, h1, k1, k0]
set_option maxHeartbeats 800000 in
theorem divideNumbers_impl (p a b : Int) (w : World) :
    Calls Tryz.prog 12 #[.int .i64 p, .int .i64 a, .int .i64 b] w fun e w' => e = .returned (.tuple #[.int .i64 (divV p a b), .int .i64 (divC p a b)]) ∧ Below w.heap.size w w' := by
  rcases code_two p a b with ⟨hc, hp, ⟨a0, a1⟩, b0, b1⟩ | ⟨hc, hp⟩ | ⟨hc, hp, hn⟩
  · by_cases hz : b = 0
    · subst hz
      obtain ⟨hv, hd⟩ := div_zero hc
      have HV := Lib.hid hv
      have HD := Lib.hid hd
      have HC := Lib.hid hc
      clear hv hd hc
      clear hp
      go_enter Tryz.func12, Tryz.ntmps12
      go_wp2_with (first | (go_at_call 32; refine (check_two p a 0 _ _ (new_two0 _ _ _ _) (new_two1 _ _ _ _)).mono ?_; rintro e w1 ⟨rfl, rfl⟩; rw [HC.out]))
      go_ret2
      exact ⟨by rw [HV.out, HD.out]; rfl, by ((repeat' (first | with_reducible exact Below.refl _ _ | (with_reducible refine Below.setCell ?_ ?_ _) | (with_reducible refine Below.alloc ?_ ?_ _) | (with_reducible refine Below.drew ?_))); all_goals (first | (simp; done) | omega | (simp; omega)))⟩
    · have hb1 : 1 ≤ b := by omega
      have hpb := prm_bd hp
      obtain ⟨i0, i1⟩ := inv_bd hp b
      obtain ⟨m0, m1⟩ := mul_bd hp a0 a1 i0 i1
      have HP := Lib.hid hp
      obtain ⟨hv, hd⟩ := div_ok hc hz
      have HV := Lib.hid hv
      have HD := Lib.hid hd
      have HC := Lib.hid hc
      clear hv hd hc
      clear hp
      have fv := field_value
      go_enter Tryz.func12, Tryz.ntmps12
      go_wp2_with (first | (go_at_call 32; refine (check_two p a b _ _ (new_two0 _ _ _ _) (new_two1 _ _ _ _)).mono ?_; rintro e w1 ⟨rfl, rfl⟩; rw [HC.out]) | (go_at_call 33; refine (over_any p a b _ HP.out (by omega) (by omega) (by omega) (by omega)).mono ?_; rintro e w2 ⟨rfl, hb2⟩))
      go_ret2
      clear fv
      exact ⟨by rw [HV.out, HD.out]; rfl, by (have hs_hb2 := hb2.size; (repeat' (first | with_reducible exact Below.refl _ _ | (with_reducible refine Below.setCell ?_ ?_ _) | (with_reducible refine Below.alloc ?_ ?_ _) | (with_reducible refine Below.drew ?_) | (with_reducible refine below_step ?_ ?_ hb2))); all_goals (first | (simp; done) | omega | (simp; omega) | (simp at hs_hb2 ⊢; omega)))⟩
  all_goals
    obtain ⟨hv, hd⟩ := div_no hc (by decide)
    have HV := Lib.hid hv
    have HD := Lib.hid hd
    have HC := Lib.hid hc
    clear hv hd hc
    clear hp
    try clear hn
    go_enter Tryz.func12, Tryz.ntmps12
    go_wp2_with (first | (go_at_call 32; refine (check_two p a b _ _ (new_two0 _ _ _ _) (new_two1 _ _ _ _)).mono ?_; rintro e w1 ⟨rfl, rfl⟩; rw [HC.out]))
    go_ret2
    exact ⟨by rw [HV.out, HD.out]; rfl, by ((repeat' (first | with_reducible exact Below.refl _ _ | (with_reducible refine Below.setCell ?_ ?_ _) | (with_reducible refine Below.alloc ?_ ?_ _) | (with_reducible refine Below.drew ?_))); all_goals (first | (simp; done) | omega | (simp; omega)))⟩

end Go.Proofs.YthbkfpkeofpocaaGreat
