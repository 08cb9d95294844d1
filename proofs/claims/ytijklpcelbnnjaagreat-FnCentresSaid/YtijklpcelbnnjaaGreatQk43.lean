/-
  StructureOf, MinimalIdealSize: contracts of the program and of the model.
  Conditions: the lists are nil or rows of known cells, of at most 1048576 numbers.
-/
import Derived.Test.YtijklpcelbnnjaaGreatQk40
import Derived.Test.YtijklpcelbnnjaaGreatQk37
import Derived.Deep.RegionHeld3
import Derived.Deep.DeepCutAuto
import Derived.BigQuiet
namespace Go.Proofs.YtijklpcelbnnjaaGreat
open Go.RowKit
set_option linter.unusedVariables false

theorem below_dN {B : Nat} {a w : World} (h : Below B a w) (n : Nat) : Below B a (w.drewN n) := ⟨h.os, h.tape, h.output, h.size, h.block⟩
theorem sr_no {p : Int} {S : List Int} (h : srC p S ≠ 0) : sbV p S = 0 ∧ srV p S = 0 ∧ sdV p S = 0 := ⟨if_neg h, if_neg h, if_neg h⟩
theorem sr_yes {p : Int} {S : List Int} (h : srC p S = 0) : sbV p S = stB p S ∧ srV p S = stR S ∧ sdV p S = stD p S := ⟨if_pos h, if_pos h, if_pos h⟩
set_option maxRecDepth 100000 in
set_option maxHeartbeats 6400000 in
theorem structureOf_any (pS : Int) (aS : Option Addr) (S : List Int) (cS loS tpS : Nat) (w : World) (hS : RowIn loS tpS w aS S) (tS : tpS ≤ w.heap.size) (sS : S.length ≤ 1048576) :
    Calls Tryz.prog 31 #[.agg #[.int .i64 pS, .slice aS S.length cS]] w (fun e w' => e = .returned (.tuple #[.agg #[.int .i64 (sbV pS S), .int .i64 (srV pS S), .int .i64 (sdV pS S)], .int .i64 (srC pS S)]) ∧ Below w.heap.size w w') := by
  have HS := Lib.hid hS
  clear hS
  rcases srC_cases pS S with ⟨h0, hv⟩ | ⟨h0, hd, hv⟩ | ⟨h0, hd, hv⟩
  · have HC := Lib.hid hv
    have HV := Lib.hid (sr_no (p := pS) (S := S) (by rw [hv]; exact h0))
    obtain ⟨C, hC⟩ : ∃ c, c = stC pS S [] := ⟨_, rfl⟩
    have hc1 : (C != 0) = true := by rw [hC]; simpa using h0
    have hc2 : (C == 0) = false := by rw [hC]; simpa using h0
    have HCE := Lib.hid hC
    clear h0 hv hC
    have k0 := nw0 w (.int .i64 pS) (.slice aS S.length cS) 26
    have k1 := nw1 w (.int .i64 pS) (.slice aS S.length cS) 26
    have HB0 := Lib.hid (below_alloc w (.cells #[.int .i64 pS, .slice aS S.length cS] 26))
    go_enter Tryz.func31, Tryz.ntmps31
    go_upto_region 1 with fail
    obtain ⟨w0, hw0'⟩ : ∃ z, z = w.alloc (.cells #[.int .i64 pS, .slice aS S.length cS] 26) := ⟨_, rfl⟩
    rw [← hw0'] at HB0 k0 k1 ⊢
    have hw0 : w.heap.size < w0.heap.size := by rw [hw0']; simp
    have hwz : w.heap.size + 1 = w0.heap.size := by rw [hw0']; simp
    try rw [hwz]
    clear hw0'
    obtain ⟨w1, hw1⟩ : ∃ z, z = w0.alloc (.cells #[.int .i64 0, .int .i64 0, .int .i64 0] 58) := ⟨_, rfl⟩
    obtain ⟨g, hg⟩ : ∃ b, b = w0.heap.size := ⟨_, rfl⟩
    have hs0 := ss2 (below_alloc w0 (.cells #[.int .i64 0, .int .i64 0, .int .i64 0] 58)) hw0 ⟨k0, k1⟩
    have z0 : V3 g (.int .i64 0) (.int .i64 0) (.int .i64 0) w1 := by rw [hw1, hg]; exact V3.new _ _ _ _ _
    have HB1 : Hid (Below w.heap.size w w1) := by show Below _ _ _; rw [hw1]; exact HB0.out.alloc HB0.out.size _
    have hg1 : g < w1.heap.size := by rw [hw1, hg]; simp
    have hwg : w.heap.size < g := by omega
    rw [← hw1] at hs0
    rw [← hw1]
    rw [← hg]
    clear hw1 hwz hg k0 k1
    have hd1 : w.heap.size < w1.heap.size := Nat.lt_trans hwg hg1
    have SS1 := Lib.hid hs0
    have ZZ1 := Lib.hid z0
    obtain ⟨k0, k1⟩ := hs0
    clear z0
    go_upto_region 2 with (first | (go_at_call 20; ((with_reducible refine (checkS0 pS aS S cS loS tpS w1 (HS.out.below HB1.out tS) (Nat.le_trans tS HB1.out.size) sS).mono ?_); rintro e w2 ⟨rfl, b_⟩; rw [← HCE.out]; have SS2 := Lib.hid (ss2 b_ hd1 SS1.out); have ZZ2 := Lib.hid (ZZ1.out.below b_ hg1); have HB2 := Lib.hid (below_step HB1.out HB1.out.size b_); have hg2 := Nat.lt_of_lt_of_le hg1 b_.size; have hd2 := Nat.lt_of_lt_of_le hd1 b_.size; clear b_ k0 k1; obtain ⟨k0, k1⟩ := SS2.out)))
    obtain ⟨⟨z0, z1, z2⟩, y0, y1, y2⟩ := ZZ2.out
    go_wp2
    refine bodyPost_ret (v := .tuple #[.agg #[.int .i64 0, .int .i64 0, .int .i64 0], .int .i64 C]) (by simp [results, Tryz.results31, go_sem, z0, z1, z2]) rfl ⟨by rw [HV.out.1, HV.out.2.1, HV.out.2.2, HC.out, ← HCE.out], below_vput3 HB2.out (Nat.le_of_lt hwg)⟩
  · have HC := Lib.hid hv
    have HV := Lib.hid (sr_no (p := pS) (S := S) (by rw [hv]; decide))
    have HZ := Lib.hid h0
    have HI := Lib.hid (stC_zero h0).1
    have H4 := Lib.hid (stC_zero h0).2.2
    have HD : Hid ((discN pS S != 0) = false) := by show _ = _; simp [hd]
    clear h0 hd hv
    have k0 := nw0 w (.int .i64 pS) (.slice aS S.length cS) 26
    have k1 := nw1 w (.int .i64 pS) (.slice aS S.length cS) 26
    have HB0 := Lib.hid (below_alloc w (.cells #[.int .i64 pS, .slice aS S.length cS] 26))
    go_enter Tryz.func31, Tryz.ntmps31
    go_upto_region 1 with fail
    obtain ⟨w0, hw0'⟩ : ∃ z, z = w.alloc (.cells #[.int .i64 pS, .slice aS S.length cS] 26) := ⟨_, rfl⟩
    rw [← hw0'] at HB0 k0 k1 ⊢
    have hw0 : w.heap.size < w0.heap.size := by rw [hw0']; simp
    have hwz : w.heap.size + 1 = w0.heap.size := by rw [hw0']; simp
    try rw [hwz]
    clear hw0'
    obtain ⟨w1, hw1⟩ : ∃ z, z = w0.alloc (.cells #[.int .i64 0, .int .i64 0, .int .i64 0] 58) := ⟨_, rfl⟩
    obtain ⟨g, hg⟩ : ∃ b, b = w0.heap.size := ⟨_, rfl⟩
    have hs0 := ss2 (below_alloc w0 (.cells #[.int .i64 0, .int .i64 0, .int .i64 0] 58)) hw0 ⟨k0, k1⟩
    have z0 : V3 g (.int .i64 0) (.int .i64 0) (.int .i64 0) w1 := by rw [hw1, hg]; exact V3.new _ _ _ _ _
    have HB1 : Hid (Below w.heap.size w w1) := by show Below _ _ _; rw [hw1]; exact HB0.out.alloc HB0.out.size _
    have hg1 : g < w1.heap.size := by rw [hw1, hg]; simp
    have hwg : w.heap.size < g := by omega
    rw [← hw1] at hs0
    rw [← hw1]
    rw [← hg]
    clear hw1 hwz hg k0 k1
    have hd1 : w.heap.size < w1.heap.size := Nat.lt_trans hwg hg1
    have SS1 := Lib.hid hs0
    have ZZ1 := Lib.hid z0
    obtain ⟨k0, k1⟩ := hs0
    clear z0
    go_upto_region 5 with (first | (go_at_call 20; ((with_reducible refine (checkS0 pS aS S cS loS tpS w1 (HS.out.below HB1.out tS) (Nat.le_trans tS HB1.out.size) sS).mono ?_); rintro e w2 ⟨rfl, b_⟩; rw [HZ.out]; have SS2 := Lib.hid (ss2 b_ hd1 SS1.out); have ZZ2 := Lib.hid (ZZ1.out.below b_ hg1); have HB2 := Lib.hid (below_step HB1.out HB1.out.size b_); have hg2 := Nat.lt_of_lt_of_le hg1 b_.size; have hd2 := Nat.lt_of_lt_of_le hd1 b_.size; clear b_ k0 k1; obtain ⟨k0, k1⟩ := SS2.out)) | (go_at_call 59; ((with_reducible refine (isRegular_any pS aS S cS loS tpS w2 (HS.out.below HB2.out tS) (Nat.le_trans tS HB2.out.size) HI.out).mono ?_); rintro e w3 ⟨rfl, b_⟩; rw [HD.out]; have SS3 := Lib.hid (ss2 b_ hd2 SS2.out); have ZZ3 := Lib.hid (ZZ2.out.below b_ hg2); have HB3 := Lib.hid (below_step HB2.out HB2.out.size b_); have hg3 := Nat.lt_of_lt_of_le hg2 b_.size; have hd3 := Nat.lt_of_lt_of_le hd2 b_.size; clear b_ k0 k1; obtain ⟨k0, k1⟩ := SS3.out)))
    obtain ⟨⟨z0, z1, z2⟩, y0, y1, y2⟩ := ZZ3.out
    go_wp2
    refine bodyPost_ret (v := .tuple #[.agg #[.int .i64 0, .int .i64 0, .int .i64 0], .int .i64 5]) (by simp [results, Tryz.results31, go_sem, z0, z1, z2]) rfl ⟨by rw [HV.out.1, HV.out.2.1, HV.out.2.2, HC.out], below_vput3 HB3.out (Nat.le_of_lt hwg)⟩
  · have HC := Lib.hid hv
    have HV := Lib.hid (sr_yes (p := pS) (S := S) hv)
    have HZ := Lib.hid h0
    have HI := Lib.hid (stC_zero h0).1
    have H4 := Lib.hid (stC_zero h0).2.2
    have HD : Hid ((discN pS S != 0) = true) := by show _ = _; simp [hd]
    clear h0 hd hv
    have k0 := nw0 w (.int .i64 pS) (.slice aS S.length cS) 26
    have k1 := nw1 w (.int .i64 pS) (.slice aS S.length cS) 26
    have HB0 := Lib.hid (below_alloc w (.cells #[.int .i64 pS, .slice aS S.length cS] 26))
    go_enter Tryz.func31, Tryz.ntmps31
    go_upto_region 1 with fail
    obtain ⟨w0, hw0'⟩ : ∃ z, z = w.alloc (.cells #[.int .i64 pS, .slice aS S.length cS] 26) := ⟨_, rfl⟩
    rw [← hw0'] at HB0 k0 k1 ⊢
    have hw0 : w.heap.size < w0.heap.size := by rw [hw0']; simp
    have hwz : w.heap.size + 1 = w0.heap.size := by rw [hw0']; simp
    try rw [hwz]
    clear hw0'
    obtain ⟨w1, hw1⟩ : ∃ z, z = w0.alloc (.cells #[.int .i64 0, .int .i64 0, .int .i64 0] 58) := ⟨_, rfl⟩
    obtain ⟨g, hg⟩ : ∃ b, b = w0.heap.size := ⟨_, rfl⟩
    have hs0 := ss2 (below_alloc w0 (.cells #[.int .i64 0, .int .i64 0, .int .i64 0] 58)) hw0 ⟨k0, k1⟩
    have z0 : V3 g (.int .i64 0) (.int .i64 0) (.int .i64 0) w1 := by rw [hw1, hg]; exact V3.new _ _ _ _ _
    have HB1 : Hid (Below w.heap.size w w1) := by show Below _ _ _; rw [hw1]; exact HB0.out.alloc HB0.out.size _
    have hg1 : g < w1.heap.size := by rw [hw1, hg]; simp
    have hwg : w.heap.size < g := by omega
    rw [← hw1] at hs0
    rw [← hw1]
    rw [← hg]
    clear hw1 hwz hg k0 k1
    have hd1 : w.heap.size < w1.heap.size := Nat.lt_trans hwg hg1
    have SS1 := Lib.hid hs0
    have ZZ1 := Lib.hid z0
    obtain ⟨k0, k1⟩ := hs0
    clear z0
    go_upto_region 6 with (first | (go_at_call 20; ((with_reducible refine (checkS0 pS aS S cS loS tpS w1 (HS.out.below HB1.out tS) (Nat.le_trans tS HB1.out.size) sS).mono ?_); rintro e w2 ⟨rfl, b_⟩; rw [HZ.out]; have SS2 := Lib.hid (ss2 b_ hd1 SS1.out); have ZZ2 := Lib.hid (ZZ1.out.below b_ hg1); have HB2 := Lib.hid (below_step HB1.out HB1.out.size b_); have hg2 := Nat.lt_of_lt_of_le hg1 b_.size; have hd2 := Nat.lt_of_lt_of_le hd1 b_.size; clear b_ k0 k1; obtain ⟨k0, k1⟩ := SS2.out)) | (go_at_call 59; ((with_reducible refine (isRegular_any pS aS S cS loS tpS w2 (HS.out.below HB2.out tS) (Nat.le_trans tS HB2.out.size) HI.out).mono ?_); rintro e w3 ⟨rfl, b_⟩; rw [HD.out]; have SS3 := Lib.hid (ss2 b_ hd2 SS2.out); have ZZ3 := Lib.hid (ZZ2.out.below b_ hg2); have HB3 := Lib.hid (below_step HB2.out HB2.out.size b_); have hg3 := Nat.lt_of_lt_of_le hg2 b_.size; have hd3 := Nat.lt_of_lt_of_le hd2 b_.size; clear b_ k0 k1; obtain ⟨k0, k1⟩ := SS3.out)))
    obtain ⟨⟨z0, z1, z2⟩, y0, y1, y2⟩ := ZZ3.out
    go_wp2_with (go_at_call 60; ((with_reducible refine (structure_st pS aS S cS loS tpS w3 HI.out H4.out (HS.out.below HB3.out tS) (Nat.le_trans tS HB3.out.size)).mono ?_); rintro e w4 ⟨rfl, b_⟩; have SS4 := Lib.hid (ss2 b_ hd3 SS3.out); have ZZ4 := Lib.hid (ZZ3.out.below b_ hg3); have HB4 := Lib.hid (below_step HB3.out HB3.out.size b_); have hg4 := Nat.lt_of_lt_of_le hg3 b_.size; have hd4 := Nat.lt_of_lt_of_le hd3 b_.size; clear b_ k0 k1 z0 z1 z2 y0 y1 y2; obtain ⟨⟨z0, z1, z2⟩, y0, y1, y2⟩ := ZZ4.out))
    refine bodyPost_ret (v := .tuple #[.agg #[.int .i64 (stB pS S), .int .i64 (stR S), .int .i64 (stD pS S)], .int .i64 0]) (by simp [results, Tryz.results31, go_sem, z0, z1, z2]) rfl ⟨by rw [HV.out.1, HV.out.2.1, HV.out.2.2, HC.out], below_vput3 HB4.out (Nat.le_of_lt hwg)⟩

set_option maxRecDepth 100000 in
set_option maxHeartbeats 3200000 in
theorem impl_StructureOf (pS : Int) (aS : Option Addr) (S : List Int) (cS loS tpS : Nat) (w : World) (hS : RowIn loS tpS w aS S) (tS : tpS ≤ w.heap.size) (sS : S.length ≤ 1048576) :
    Calls Tryz.prog 15 #[.agg #[.int .i64 pS, .slice aS S.length cS]] w (fun e w' => e = .returned (.tuple #[.int .i64 (sbV pS S), .int .i64 (srV pS S), .int .i64 (sdV pS S), .int .i64 (srC pS S)]) ∧ Below w.heap.size w w') := by
  have HS := Lib.hid hS
  have k0 := nw0 w (.int .i64 pS) (.slice aS S.length cS) 26
  have k1 := nw1 w (.int .i64 pS) (.slice aS S.length cS) 26
  have HB0 := Lib.hid (below_alloc w (.cells #[.int .i64 pS, .slice aS S.length cS] 26))
  clear hS
  obtain ⟨B, h_B⟩ : ∃ z, z = sbV pS S := ⟨_, rfl⟩
  have HB_ := Lib.hid h_B
  obtain ⟨R, h_R⟩ : ∃ z, z = srV pS S := ⟨_, rfl⟩
  have HR_ := Lib.hid h_R
  obtain ⟨D, h_D⟩ : ∃ z, z = sdV pS S := ⟨_, rfl⟩
  have HD_ := Lib.hid h_D
  obtain ⟨C, h_C⟩ : ∃ z, z = srC pS S := ⟨_, rfl⟩
  have HC_ := Lib.hid h_C
  clear h_B h_R h_D h_C
  go_enter Tryz.func15, Tryz.ntmps15
  go_upto_region 1 with fail
  obtain ⟨w1, hw1⟩ : ∃ z, z = w.alloc (.cells #[.int .i64 pS, .slice aS S.length cS] 26) := ⟨_, rfl⟩
  rw [← hw1] at HB0 k0 k1 ⊢
  have hd1 : w.heap.size < w1.heap.size := by rw [hw1]; simp
  have HB1 := HB0
  clear hw1
  have SS1 := Lib.hid (And.intro k0 k1)
  go_upto_region 2 with (go_at_call 31; ((with_reducible refine (structureOf_any pS aS S cS loS tpS w1 (HS.out.below HB1.out tS) (Nat.le_trans tS HB1.out.size) sS).mono ?_); rintro e w2 ⟨rfl, b_⟩; rw [← HB_.out, ← HR_.out, ← HD_.out, ← HC_.out]; have SS2 := Lib.hid (ss2 b_ hd1 SS1.out); have HB2 := Lib.hid (below_step HB1.out HB1.out.size b_); have hd2 := Nat.lt_of_lt_of_le hd1 b_.size; clear k0 k1; obtain ⟨k0, k1⟩ := SS2.out; clear b_))
  obtain ⟨w3, hw3⟩ : ∃ z, z = w2.alloc (.cells #[.int .i64 B, .int .i64 R, .int .i64 D] 58) := ⟨_, rfl⟩
  obtain ⟨f, hf⟩ : ∃ b, b = w2.heap.size := ⟨_, rfl⟩
  have FF3 : V3 f (.int .i64 B) (.int .i64 R) (.int .i64 D) w3 := by rw [hw3, hf]; exact V3.new _ _ _ _ _
  have HB3 : Hid (Below w.heap.size w w3) := by show Below _ _ _; rw [hw3]; exact HB2.out.alloc HB2.out.size _
  rw [← hw3, ← hf]
  clear hw3 hf k0 k1
  obtain ⟨⟨f0, f1, f2⟩, _⟩ := FF3
  have g0 : w3.drew.cell? ⟨f, 0, none⟩ = some (.int .i64 B) := f0
  have g1 : w3.drew.cell? ⟨f, 1, none⟩ = some (.int .i64 R) := f1
  have g2 : w3.drew.cell? ⟨f, 2, none⟩ = some (.int .i64 D) := f2
  go_wp2
  go_quiet (fail)
  go_wp2
  refine bodyPost_ret (v := .tuple #[.int .i64 B, .int .i64 R, .int .i64 D, .int .i64 C]) (by simp [results, Tryz.results15, go_sem]) rfl ⟨by rw [HB_.out, HR_.out, HD_.out, HC_.out], below_dN HB3.out _⟩

set_option maxRecDepth 100000 in
set_option maxHeartbeats 3200000 in
theorem spec_StructureOf (pS : Int) (aS : Option Addr) (S : List Int) (cS loS tpS : Nat) (w : World) (hS : RowIn loS tpS w aS S) (tS : tpS ≤ w.heap.size) (sS : S.length ≤ 1048576) :
    Calls Tryz.prog 16 #[.agg #[.int .i64 pS, .slice aS S.length cS]] w (fun e w' => e = .returned (.tuple #[.int .i64 (sbV pS S), .int .i64 (srV pS S), .int .i64 (sdV pS S), .int .i64 (srC pS S)]) ∧ Below w.heap.size w w') := by
  have HS := Lib.hid hS
  have k0 := nw0 w (.int .i64 pS) (.slice aS S.length cS) 26
  have k1 := nw1 w (.int .i64 pS) (.slice aS S.length cS) 26
  have HB0 := Lib.hid (below_alloc w (.cells #[.int .i64 pS, .slice aS S.length cS] 26))
  clear hS
  rcases srC_cases pS S with ⟨h0, hv⟩ | ⟨h0, hd, hv⟩ | ⟨h0, hd, hv⟩
  · have HC := Lib.hid hv
    have HV := Lib.hid (sr_no (p := pS) (S := S) (by rw [hv]; exact h0))
    obtain ⟨C, hC⟩ : ∃ c, c = stC pS S [] := ⟨_, rfl⟩
    have hc1 : (C != 0) = true := by rw [hC]; simpa using h0
    have hc2 : (C == 0) = false := by rw [hC]; simpa using h0
    have HCE := Lib.hid hC
    clear h0 hv hC
    go_enter Tryz.func16, Tryz.ntmps16
    go_upto_region 1 with fail
    obtain ⟨w1, hw1⟩ : ∃ z, z = w.alloc (.cells #[.int .i64 pS, .slice aS S.length cS] 26) := ⟨_, rfl⟩
    rw [← hw1] at HB0 k0 k1 ⊢
    have hd1 : w.heap.size < w1.heap.size := by rw [hw1]; simp
    have HB1 := HB0
    clear hw1
    have SS1 := Lib.hid (And.intro k0 k1)
    go_wp2_with (go_at_call 22; ((with_reducible refine (codeS0 pS aS S cS loS tpS w1 (HS.out.below HB1.out tS) (Nat.le_trans tS HB1.out.size) sS).mono ?_); rintro e w2 ⟨rfl, b_⟩; rw [← HCE.out]; have SS2 := Lib.hid (ss2 b_ hd1 SS1.out); have HB2 := Lib.hid (below_step HB1.out HB1.out.size b_); have hd2 := Nat.lt_of_lt_of_le hd1 b_.size; clear k0 k1; obtain ⟨k0, k1⟩ := SS2.out; clear b_))
    refine bodyPost_ret (v := .tuple #[.int .i64 0, .int .i64 0, .int .i64 0, .int .i64 C]) (by simp [results, Tryz.results16, go_sem]) rfl ⟨by rw [HV.out.1, HV.out.2.1, HV.out.2.2, HC.out, ← HCE.out], HB2.out⟩
  · have HC := Lib.hid hv
    have HV := Lib.hid (sr_no (p := pS) (S := S) (by rw [hv]; decide))
    have HZ := Lib.hid h0
    have HI := Lib.hid (stC_zero h0).1
    have H4 := Lib.hid (stC_zero h0).2.2
    obtain ⟨D, hDD⟩ : ∃ d, d = discN pS S := ⟨_, rfl⟩
    have HDE := Lib.hid hDD
    rw [← hDD] at hd
    have hd1_ : (D == 0) = true := by simpa using hd
    clear hDD
    clear h0 hd hv
    go_enter Tryz.func16, Tryz.ntmps16
    go_upto_region 1 with fail
    obtain ⟨w1, hw1⟩ : ∃ z, z = w.alloc (.cells #[.int .i64 pS, .slice aS S.length cS] 26) := ⟨_, rfl⟩
    rw [← hw1] at HB0 k0 k1 ⊢
    have hd1 : w.heap.size < w1.heap.size := by rw [hw1]; simp
    have HB1 := HB0
    clear hw1
    have SS1 := Lib.hid (And.intro k0 k1)
    go_wp2_with (first | (go_at_call 22; ((with_reducible refine (codeS0 pS aS S cS loS tpS w1 (HS.out.below HB1.out tS) (Nat.le_trans tS HB1.out.size) sS).mono ?_); rintro e w2 ⟨rfl, b_⟩; rw [HZ.out]; have SS2 := Lib.hid (ss2 b_ hd1 SS1.out); have HB2 := Lib.hid (below_step HB1.out HB1.out.size b_); have hd2 := Nat.lt_of_lt_of_le hd1 b_.size; clear k0 k1; obtain ⟨k0, k1⟩ := SS2.out; clear b_)) | (go_at_call 32; ((with_reducible refine (l03Disc_any pS aS S cS loS tpS w2 (HS.out.below HB2.out tS) (Nat.le_trans tS HB2.out.size) HI.out).mono ?_); rintro e w3 ⟨rfl, b_⟩; rw [← HDE.out]; have SS3 := Lib.hid (ss2 b_ hd2 SS2.out); have HB3 := Lib.hid (below_step HB2.out HB2.out.size b_); have hd3 := Nat.lt_of_lt_of_le hd2 b_.size; clear k0 k1; obtain ⟨k0, k1⟩ := SS3.out; clear b_)))
    refine bodyPost_ret (v := .tuple #[.int .i64 0, .int .i64 0, .int .i64 0, .int .i64 5]) (by simp [results, Tryz.results16, go_sem]) rfl ⟨by rw [HV.out.1, HV.out.2.1, HV.out.2.2, HC.out], HB3.out⟩
  · have HC := Lib.hid hv
    have HV := Lib.hid (sr_yes (p := pS) (S := S) hv)
    have HZ := Lib.hid h0
    have HI := Lib.hid (stC_zero h0).1
    have H4 := Lib.hid (stC_zero h0).2.2
    obtain ⟨D, hDD⟩ : ∃ d, d = discN pS S := ⟨_, rfl⟩
    have HDE := Lib.hid hDD
    rw [← hDD] at hd
    have hd1_ : (D == 0) = false := by simpa using hd
    clear hDD
    clear h0 hd hv
    go_enter Tryz.func16, Tryz.ntmps16
    go_upto_region 1 with fail
    obtain ⟨w1, hw1⟩ : ∃ z, z = w.alloc (.cells #[.int .i64 pS, .slice aS S.length cS] 26) := ⟨_, rfl⟩
    rw [← hw1] at HB0 k0 k1 ⊢
    have hd1 : w.heap.size < w1.heap.size := by rw [hw1]; simp
    have HB1 := HB0
    clear hw1
    have SS1 := Lib.hid (And.intro k0 k1)
    go_wp2_with (first | (go_at_call 22; ((with_reducible refine (codeS0 pS aS S cS loS tpS w1 (HS.out.below HB1.out tS) (Nat.le_trans tS HB1.out.size) sS).mono ?_); rintro e w2 ⟨rfl, b_⟩; rw [HZ.out]; have SS2 := Lib.hid (ss2 b_ hd1 SS1.out); have HB2 := Lib.hid (below_step HB1.out HB1.out.size b_); have hd2 := Nat.lt_of_lt_of_le hd1 b_.size; clear k0 k1; obtain ⟨k0, k1⟩ := SS2.out; clear b_)) | (go_at_call 32; ((with_reducible refine (l03Disc_any pS aS S cS loS tpS w2 (HS.out.below HB2.out tS) (Nat.le_trans tS HB2.out.size) HI.out).mono ?_); rintro e w3 ⟨rfl, b_⟩; rw [← HDE.out]; have SS3 := Lib.hid (ss2 b_ hd2 SS2.out); have HB3 := Lib.hid (below_step HB2.out HB2.out.size b_); have hd3 := Nat.lt_of_lt_of_le hd2 b_.size; clear k0 k1; obtain ⟨k0, k1⟩ := SS3.out; clear b_)) | (go_at_call 33; ((with_reducible refine (l09Structure_st pS aS S cS loS tpS w3 HI.out H4.out (HS.out.below HB3.out tS) (Nat.le_trans tS HB3.out.size)).mono ?_); rintro e w4 ⟨rfl, b_⟩; have SS4 := Lib.hid (ss2 b_ hd3 SS3.out); have HB4 := Lib.hid (below_step HB3.out HB3.out.size b_); have hd4 := Nat.lt_of_lt_of_le hd3 b_.size; clear k0 k1; obtain ⟨k0, k1⟩ := SS4.out; clear b_)))
    refine bodyPost_ret (v := .tuple #[.int .i64 (stB pS S), .int .i64 (stR S), .int .i64 (stD pS S), .int .i64 0]) (by simp [results, Tryz.results16, go_sem]) rfl ⟨by rw [HV.out.1, HV.out.2.1, HV.out.2.2, HC.out], HB4.out⟩

end Go.Proofs.YtijklpcelbnnjaaGreat
