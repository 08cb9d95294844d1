/-
  CayleyBack (model): contracts of the program and of the model.
  Conditions: the lists are nil or rows of known cells, of at most 1048576 numbers.
-/
import Derived.Test.YtkibkkdeaojjoabQf48
namespace Go.Proofs.Ytkibkkdeaojjoab
open Go.RowKit
set_option linter.unusedVariables false

set_option maxRecDepth 100000 in
set_option maxHeartbeats 6400000 in
theorem spec_CayleyBack (pS : Int) (aS : Option Addr) (S : List Int) (cS loS tpS : Nat) (am : Option Addr) (m : List (List Int)) (cm lom tpm : Nat) (w : World) (hS : RowIn loS tpS w aS S) (tS : tpS ≤ w.heap.size) (sS : S.length ≤ 1048576) (hm : MatIn lom tpm w am m) (tm : tpm ≤ w.heap.size) (sm' : m.length + tot m m.length ≤ 1048576) :
    Calls Try.prog 10 #[.agg #[.int .i64 pS, .slice aS S.length cS], .slice am m.length cm] w (SpecM (cbV pS S m) (cbC pS S m) w) := by
  have HS := Lib.hid hS
  have Hm := Lib.hid hm
  have HSM := Lib.hid sm'
  have k0 := nw0 w (.int .i64 pS) (.slice aS S.length cS) 30
  have k1 := nw1 w (.int .i64 pS) (.slice aS S.length cS) 30
  have HB0 := Lib.hid (below_alloc w (.cells #[.int .i64 pS, .slice aS S.length cS] 30))
  clear hS hm sm'
  by_cases h0 : shC pS S m = 0
  · have HZ := Lib.hid h0
    have HI := Lib.hid (shC_zero h0).sp
    have HG := Lib.hid (shC_zero h0)
    cases ho : orB pS S m with
    | true =>
      have HO := Lib.hid ho
      rcases cyC_two HG.out.lst with ⟨_, hc⟩ | ⟨_, hc⟩
      · have HV : Hid (cbV pS S m = [] ∧ cbC pS S m = 5) := ⟨by unfold cbV; rw [if_pos ⟨h0, ho⟩]; exact if_neg (by rw [hc]; decide), by unfold cbC; rw [if_pos h0, if_pos ho, hc]⟩
        have HBB : Hid ((cyC pS m == 0) = false) := by show _ = _; rw [hc]; rfl
        clear h0 ho hc
        go_enter Try.func10, Try.ntmps10
        go_upto_region 1 with fail
        obtain ⟨w1, hw1⟩ : ∃ z, z = w.alloc (.cells #[.int .i64 pS, .slice aS S.length cS] 30) := ⟨_, rfl⟩
        rw [← hw1] at HB0 k0 k1 ⊢
        have hd1 : w.heap.size < w1.heap.size := by rw [hw1]; simp
        have HB1 := HB0
        clear hw1
        have SS1 := Lib.hid (And.intro k0 k1)
        go_wp2_with (first | (go_at_call 32; ((with_reducible refine (l10Shape_any pS aS S cS loS tpS am m cm lom tpm w1 (HS.out.below HB1.out tS) (Nat.le_trans tS HB1.out.size) sS (Hm.out.below HB1.out tm) (Nat.le_trans tm HB1.out.size) HSM.out).mono ?_); rintro e w2 ⟨rfl, b_⟩; rw [HZ.out]; have SS2 := Lib.hid (ss2 b_ hd1 SS1.out); have HB2 := Lib.hid (below_step HB1.out HB1.out.size b_); have hd2 := Nat.lt_of_lt_of_le hd1 b_.size; clear k0 k1; obtain ⟨k0, k1⟩ := SS2.out; clear b_)) | (go_at_call 33; ((with_reducible refine (l08Is_any pS aS S cS loS tpS am m cm lom tpm w2 (HS.out.below HB2.out tS) (Nat.le_trans tS HB2.out.size) sS (Hm.out.below HB2.out tm) (Nat.le_trans tm HB2.out.size) HSM.out HI.out).mono ?_); rintro e w3 ⟨rfl, b_⟩; rw [HO.out]; have SS3 := Lib.hid (ss2 b_ hd2 SS2.out); have HB3 := Lib.hid (below_step HB2.out HB2.out.size b_); have hd3 := Nat.lt_of_lt_of_le hd2 b_.size; clear k0 k1; obtain ⟨k0, k1⟩ := SS3.out; clear b_)) | (go_at_call 34; ((with_reducible refine (l10Cayley_any pS am m cm lom tpm w3 (Hm.out.below HB3.out tm) (Nat.le_trans tm HB3.out.size) HG.out.lst HG.out.sqr).mono ?_); rintro e w4 ⟨r9, c9, rfl, o_, b_⟩; rw [HBB.out]; have SS4 := Lib.hid (ss2 b_ hd3 SS3.out); have HB4 := Lib.hid (below_step HB3.out HB3.out.size b_); have hd4 := Nat.lt_of_lt_of_le hd3 b_.size; have OO := Lib.hid (o_.mono (Nat.le_of_lt hd3) (Nat.le_refl _)); clear o_; clear k0 k1; obtain ⟨k0, k1⟩ := SS4.out; clear b_)))
        go_ret2
        rw [HV.out.1, HV.out.2]
        exact ⟨none, 0, rfl, .inl rfl, HB4.out⟩
      · have HV : Hid (cbV pS S m = cyV pS m ∧ cbC pS S m = 0) := ⟨if_pos ⟨h0, ho⟩, by unfold cbC; rw [if_pos h0, if_pos ho, hc]⟩
        have HBB : Hid ((cyC pS m == 0) = true) := by show _ = _; rw [hc]; rfl
        clear h0 ho hc
        go_enter Try.func10, Try.ntmps10
        go_upto_region 1 with fail
        obtain ⟨w1, hw1⟩ : ∃ z, z = w.alloc (.cells #[.int .i64 pS, .slice aS S.length cS] 30) := ⟨_, rfl⟩
        rw [← hw1] at HB0 k0 k1 ⊢
        have hd1 : w.heap.size < w1.heap.size := by rw [hw1]; simp
        have HB1 := HB0
        clear hw1
        have SS1 := Lib.hid (And.intro k0 k1)
        go_wp2_with (first | (go_at_call 32; ((with_reducible refine (l10Shape_any pS aS S cS loS tpS am m cm lom tpm w1 (HS.out.below HB1.out tS) (Nat.le_trans tS HB1.out.size) sS (Hm.out.below HB1.out tm) (Nat.le_trans tm HB1.out.size) HSM.out).mono ?_); rintro e w2 ⟨rfl, b_⟩; rw [HZ.out]; have SS2 := Lib.hid (ss2 b_ hd1 SS1.out); have HB2 := Lib.hid (below_step HB1.out HB1.out.size b_); have hd2 := Nat.lt_of_lt_of_le hd1 b_.size; clear k0 k1; obtain ⟨k0, k1⟩ := SS2.out; clear b_)) | (go_at_call 33; ((with_reducible refine (l08Is_any pS aS S cS loS tpS am m cm lom tpm w2 (HS.out.below HB2.out tS) (Nat.le_trans tS HB2.out.size) sS (Hm.out.below HB2.out tm) (Nat.le_trans tm HB2.out.size) HSM.out HI.out).mono ?_); rintro e w3 ⟨rfl, b_⟩; rw [HO.out]; have SS3 := Lib.hid (ss2 b_ hd2 SS2.out); have HB3 := Lib.hid (below_step HB2.out HB2.out.size b_); have hd3 := Nat.lt_of_lt_of_le hd2 b_.size; clear k0 k1; obtain ⟨k0, k1⟩ := SS3.out; clear b_)) | (go_at_call 34; ((with_reducible refine (l10Cayley_any pS am m cm lom tpm w3 (Hm.out.below HB3.out tm) (Nat.le_trans tm HB3.out.size) HG.out.lst HG.out.sqr).mono ?_); rintro e w4 ⟨r9, c9, rfl, o_, b_⟩; rw [HBB.out]; have SS4 := Lib.hid (ss2 b_ hd3 SS3.out); have HB4 := Lib.hid (below_step HB3.out HB3.out.size b_); have hd4 := Nat.lt_of_lt_of_le hd3 b_.size; have OO := Lib.hid (o_.mono (Nat.le_of_lt hd3) (Nat.le_refl _)); clear o_; clear k0 k1; obtain ⟨k0, k1⟩ := SS4.out; clear b_)))
        go_ret2
        rw [HV.out.1, HV.out.2]
        exact ⟨r9, c9, rfl, OO.out, HB4.out⟩
    | false =>
      have HO := Lib.hid ho
      have HV : Hid (cbV pS S m = [] ∧ cbC pS S m = 5) := ⟨if_neg (fun h => by rw [ho] at h; cases h.2), by unfold cbC; rw [if_pos h0, if_neg (by rw [ho]; decide)]⟩
      clear h0 ho
      go_enter Try.func10, Try.ntmps10
      go_upto_region 1 with fail
      obtain ⟨w1, hw1⟩ : ∃ z, z = w.alloc (.cells #[.int .i64 pS, .slice aS S.length cS] 30) := ⟨_, rfl⟩
      rw [← hw1] at HB0 k0 k1 ⊢
      have hd1 : w.heap.size < w1.heap.size := by rw [hw1]; simp
      have HB1 := HB0
      clear hw1
      have SS1 := Lib.hid (And.intro k0 k1)
      go_wp2_with (first | (go_at_call 32; ((with_reducible refine (l10Shape_any pS aS S cS loS tpS am m cm lom tpm w1 (HS.out.below HB1.out tS) (Nat.le_trans tS HB1.out.size) sS (Hm.out.below HB1.out tm) (Nat.le_trans tm HB1.out.size) HSM.out).mono ?_); rintro e w2 ⟨rfl, b_⟩; rw [HZ.out]; have SS2 := Lib.hid (ss2 b_ hd1 SS1.out); have HB2 := Lib.hid (below_step HB1.out HB1.out.size b_); have hd2 := Nat.lt_of_lt_of_le hd1 b_.size; clear k0 k1; obtain ⟨k0, k1⟩ := SS2.out; clear b_)) | (go_at_call 33; ((with_reducible refine (l08Is_any pS aS S cS loS tpS am m cm lom tpm w2 (HS.out.below HB2.out tS) (Nat.le_trans tS HB2.out.size) sS (Hm.out.below HB2.out tm) (Nat.le_trans tm HB2.out.size) HSM.out HI.out).mono ?_); rintro e w3 ⟨rfl, b_⟩; rw [HO.out]; have SS3 := Lib.hid (ss2 b_ hd2 SS2.out); have HB3 := Lib.hid (below_step HB2.out HB2.out.size b_); have hd3 := Nat.lt_of_lt_of_le hd2 b_.size; clear k0 k1; obtain ⟨k0, k1⟩ := SS3.out; clear b_)))
      go_ret2
      rw [HV.out.1, HV.out.2]
      exact ⟨none, 0, rfl, .inl rfl, HB3.out⟩
  · have HV : Hid (cbV pS S m = [] ∧ cbC pS S m = shC pS S m) := ⟨if_neg (fun h => h0 h.1), if_neg h0⟩
    obtain ⟨C, hC⟩ : ∃ c, c = shC pS S m := ⟨_, rfl⟩
    have hc1 : (C != 0) = true := by rw [hC]; simpa using h0
    have hc2 : (C == 0) = false := by rw [hC]; simpa using h0
    have HCE := Lib.hid hC
    clear hC
    clear h0
    go_enter Try.func10, Try.ntmps10
    go_upto_region 1 with fail
    obtain ⟨w1, hw1⟩ : ∃ z, z = w.alloc (.cells #[.int .i64 pS, .slice aS S.length cS] 30) := ⟨_, rfl⟩
    rw [← hw1] at HB0 k0 k1 ⊢
    have hd1 : w.heap.size < w1.heap.size := by rw [hw1]; simp
    have HB1 := HB0
    clear hw1
    have SS1 := Lib.hid (And.intro k0 k1)
    go_wp2_with (go_at_call 32; ((with_reducible refine (l10Shape_any pS aS S cS loS tpS am m cm lom tpm w1 (HS.out.below HB1.out tS) (Nat.le_trans tS HB1.out.size) sS (Hm.out.below HB1.out tm) (Nat.le_trans tm HB1.out.size) HSM.out).mono ?_); rintro e w2 ⟨rfl, b_⟩; rw [← HCE.out]; have SS2 := Lib.hid (ss2 b_ hd1 SS1.out); have HB2 := Lib.hid (below_step HB1.out HB1.out.size b_); have hd2 := Nat.lt_of_lt_of_le hd1 b_.size; clear k0 k1; obtain ⟨k0, k1⟩ := SS2.out; clear b_))
    go_ret2
    rw [HV.out.1, HV.out.2, ← HCE.out]
    exact ⟨none, 0, rfl, .inl rfl, HB2.out⟩

end Go.Proofs.Ytkibkkdeaojjoab
