/-
  Matrices of spaces: shapes, skew ones: contracts of the program and of the model.
  Conditions: the lists are nil or rows of known cells, of at most 1048576 numbers.
-/
import Derived.Test.YtkibkkdeaojjoabQf39
import Derived.Test.YtkibkkdeaojjoabQf40
import Derived.Test.YtkibkkdeaojjoabQf12
import Derived.Test.YtkibkkdeaojjoabQf23
import Derived.Test.YtkibkkdeaojjoabQf30
import Derived.Test.YtkibkkdeaojjoabQf37
import Derived.Test.YtkibkkdeaojjoabQf34
import Derived.Test.YtkibkkdeaojjoabQf35
import Derived.Deep.RegionHeld3
import Derived.Deep.DeepCutAuto
namespace Go.Proofs.Ytkibkkdeaojjoab
open Go.RowKit
set_option linter.unusedVariables false

def shC (p : Int) (S : List Int) (m : List (List Int)) : Int := if isSp p S = true then (if isM p m = true ∧ m.length = S.length ∧ (rw' m 0).length = S.length then (if discN p S = 0 then 5 else 0) else 2) else 1
theorem shC_cases (p : Int) (S : List Int) (m : List (List Int)) : (isSp p S = false ∧ shC p S m = 1) ∨ (isSp p S = true ∧ isM p m = false ∧ shC p S m = 2) ∨ (isSp p S = true ∧ isM p m = true ∧ m.length ≠ S.length ∧ shC p S m = 2) ∨ (isSp p S = true ∧ isM p m = true ∧ m.length = S.length ∧ (rw' m 0).length ≠ S.length ∧ shC p S m = 2) ∨ (isSp p S = true ∧ isM p m = true ∧ m.length = S.length ∧ (rw' m 0).length = S.length ∧ shC p S m = if discN p S = 0 then 5 else 0) := by
  unfold shC
  cases hs : isSp p S with
  | false => exact .inl ⟨rfl, if_neg (by decide)⟩
  | true =>
    cases hm : isM p m with
    | false => exact .inr (.inl ⟨rfl, rfl, by rw [if_pos rfl, if_neg (fun h => by cases h.1)]⟩)
    | true =>
      by_cases h1 : m.length = S.length
      · by_cases h2 : (rw' m 0).length = S.length
        · exact .inr (.inr (.inr (.inr ⟨rfl, rfl, h1, h2, by rw [if_pos rfl, if_pos ⟨rfl, h1, h2⟩]⟩)))
        · exact .inr (.inr (.inr (.inl ⟨rfl, rfl, h1, h2, by rw [if_pos rfl, if_neg (fun h => h2 h.2.2)]⟩)))
      · exact .inr (.inr (.inl ⟨rfl, rfl, h1, by rw [if_pos rfl, if_neg (fun h => h1 h.2.1)]⟩))
/-- A matrix of a regular space's size. -/
structure Good (p : Int) (S : List Int) (m : List (List Int)) : Prop where
  sp : isSp p S = true
  lst : Lst 1 p m
  len : m.length = S.length
  cols : (rw' m 0).length = S.length
  reg : discN p S ≠ 0
theorem shC_zero {p : Int} {S : List Int} {m : List (List Int)} (h : shC p S m = 0) : Good p S m := by
  rcases shC_cases p S m with ⟨_, k⟩ | ⟨_, _, k⟩ | ⟨_, _, _, k⟩ | ⟨_, _, _, _, k⟩ | ⟨h1, h2, h3, h4, k⟩
  · rw [k] at h; cases h
  · rw [k] at h; cases h
  · rw [k] at h; cases h
  · rw [k] at h; cases h
  · refine ⟨h1, isL_iff.1 h2, h3, h4, fun hd => ?_⟩
    rw [k, if_pos hd] at h; cases h
theorem Good.rl {p : Int} {S : List Int} {m : List (List Int)} (h : Good p S m) {i : Nat} (hi : i < m.length) : (rw' m i).length = S.length := by rw [h.lst.len i hi, h.cols]
theorem Good.at {p : Int} {S : List Int} {m : List (List Int)} (h : Good p S m) {i j : Nat} (hi : i < m.length) (hj : j < S.length) : 0 ≤ at' m i j ∧ at' m i j < p := h.lst.at hi (by rw [h.cols]; exact hj)
theorem len_spell {a b : Nat} (h : a = b) : (((a : Int) == (b : Int)) = true) ∧ (((a : Int) != (b : Int)) = false) := by subst h; simp
theorem len_differ {a b : Nat} (h : a ≠ b) : (((a : Int) == (b : Int)) = false) ∧ (((a : Int) != (b : Int)) = true) := by
  have : ¬ (a : Int) = (b : Int) := by omega
  simp [this]

set_option maxRecDepth 100000 in
set_option maxHeartbeats 6400000 in
theorem checkSpaceMatrix_any (pS : Int) (aS : Option Addr) (S : List Int) (cS loS tpS : Nat) (am : Option Addr) (m : List (List Int)) (cm lom tpm : Nat) (w : World) (hS : RowIn loS tpS w aS S) (tS : tpS ≤ w.heap.size) (sS : S.length ≤ 1048576) (hm : MatIn lom tpm w am m) (tm : tpm ≤ w.heap.size) (sm' : m.length + tot m m.length ≤ 1048576) :
    Calls Try.prog 35 #[.agg #[.int .i64 pS, .slice aS S.length cS], .slice am m.length cm] w (fun e w' => e = .returned (.int .i64 (shC pS S m)) ∧ Below w.heap.size w w') := by
  have HS := Lib.hid hS
  have Hm := Lib.hid hm
  have HSM := Lib.hid sm'
  have k0 := nw0 w (.int .i64 pS) (.slice aS S.length cS) 30
  have k1 := nw1 w (.int .i64 pS) (.slice aS S.length cS) 30
  have HB0 := Lib.hid (below_alloc w (.cells #[.int .i64 pS, .slice aS S.length cS] 30))
  clear hS hm sm'
  rcases shC_cases pS S m with ⟨hs, hc⟩ | ⟨hs, hm', hc⟩ | ⟨hs, hm', hl, hc⟩ | ⟨hs, hm', hl, hk, hc⟩ | ⟨hs, hm', hl, hk, hc⟩
  · have HC := Lib.hid hc
    have HCO := Lib.hid (code1_no hs)
    clear hs hc
    go_enter Try.func35, Try.ntmps35
    go_upto_region 1 with fail
    obtain ⟨w1, hw1⟩ : ∃ z, z = w.alloc (.cells #[.int .i64 pS, .slice aS S.length cS] 30) := ⟨_, rfl⟩
    rw [← hw1] at HB0 k0 k1 ⊢
    have hd1 : w.heap.size < w1.heap.size := by rw [hw1]; simp
    have HB1 := HB0
    clear hw1
    have SS1 := Lib.hid (And.intro k0 k1)
    go_wp2_with (go_at_call 68; ((with_reducible refine (checkSp1 pS aS S cS loS tpS _ _ w1 _ rfl (HS.out.below HB1.out tS) (Nat.le_trans tS HB1.out.size) sS).mono ?_); rintro e w2 ⟨rfl, b_⟩; rw [HCO.out]; have b2_ := below_step (below_alloc w1 (.cells #[.int .i64 pS, .slice aS S.length cS] 30)) (size_alloc w1 (.cells #[.int .i64 pS, .slice aS S.length cS] 30)) b_; have SS2 := Lib.hid (ss2 b2_ hd1 SS1.out); have HB2 := Lib.hid (below_step HB1.out HB1.out.size b2_); have hd2 := Nat.lt_of_lt_of_le hd1 b2_.size; clear k0 k1; obtain ⟨k0, k1⟩ := SS2.out; clear b_ b2_))
    go_ret
    exact ⟨by rw [HC.out]; rfl, HB2.out⟩
  · have HC := Lib.hid hc
    have HCO := Lib.hid (code1_yes hs)
    have HIM := Lib.hid hm'
    clear hs hc hm'
    go_enter Try.func35, Try.ntmps35
    go_upto_region 1 with fail
    obtain ⟨w1, hw1⟩ : ∃ z, z = w.alloc (.cells #[.int .i64 pS, .slice aS S.length cS] 30) := ⟨_, rfl⟩
    rw [← hw1] at HB0 k0 k1 ⊢
    have hd1 : w.heap.size < w1.heap.size := by rw [hw1]; simp
    have HB1 := HB0
    clear hw1
    have SS1 := Lib.hid (And.intro k0 k1)
    go_wp2_with (first | (go_at_call 68; ((with_reducible refine (checkSp1 pS aS S cS loS tpS _ _ w1 _ rfl (HS.out.below HB1.out tS) (Nat.le_trans tS HB1.out.size) sS).mono ?_); rintro e w2 ⟨rfl, b_⟩; rw [HCO.out]; have b2_ := below_step (below_alloc w1 (.cells #[.int .i64 pS, .slice aS S.length cS] 30)) (size_alloc w1 (.cells #[.int .i64 pS, .slice aS S.length cS] 30)) b_; have SS2 := Lib.hid (ss2 b2_ hd1 SS1.out); have HB2 := Lib.hid (below_step HB1.out HB1.out.size b2_); have hd2 := Nat.lt_of_lt_of_le hd1 b2_.size; clear k0 k1; obtain ⟨k0, k1⟩ := SS2.out; clear b_ b2_)) | (go_at_call 69; ((with_reducible refine (isMatrix_q pS am m cm lom tpm w2 (Hm.out.below HB2.out tm) HSM.out).mono ?_); rintro e w9 ⟨rfl, rfl⟩; rw [HIM.out])))
    go_ret
    exact ⟨by rw [HC.out]; rfl, HB2.out⟩
  · have HC := Lib.hid hc
    have HCO := Lib.hid (code1_yes hs)
    have HIM := Lib.hid hm'
    obtain ⟨e1, e2⟩ := len_differ hl
    clear hs hc hm' hl
    go_enter Try.func35, Try.ntmps35
    go_upto_region 1 with fail
    obtain ⟨w1, hw1⟩ : ∃ z, z = w.alloc (.cells #[.int .i64 pS, .slice aS S.length cS] 30) := ⟨_, rfl⟩
    rw [← hw1] at HB0 k0 k1 ⊢
    have hd1 : w.heap.size < w1.heap.size := by rw [hw1]; simp
    have HB1 := HB0
    clear hw1
    have SS1 := Lib.hid (And.intro k0 k1)
    go_wp2_with (first | (go_at_call 68; ((with_reducible refine (checkSp1 pS aS S cS loS tpS _ _ w1 _ rfl (HS.out.below HB1.out tS) (Nat.le_trans tS HB1.out.size) sS).mono ?_); rintro e w2 ⟨rfl, b_⟩; rw [HCO.out]; have b2_ := below_step (below_alloc w1 (.cells #[.int .i64 pS, .slice aS S.length cS] 30)) (size_alloc w1 (.cells #[.int .i64 pS, .slice aS S.length cS] 30)) b_; have SS2 := Lib.hid (ss2 b2_ hd1 SS1.out); have HB2 := Lib.hid (below_step HB1.out HB1.out.size b2_); have hd2 := Nat.lt_of_lt_of_le hd1 b2_.size; clear k0 k1; obtain ⟨k0, k1⟩ := SS2.out; clear b_ b2_)) | (go_at_call 69; ((with_reducible refine (isMatrix_q pS am m cm lom tpm w2 (Hm.out.below HB2.out tm) HSM.out).mono ?_); rintro e w9 ⟨rfl, rfl⟩; rw [HIM.out])))
    go_ret
    exact ⟨by rw [HC.out]; rfl, HB2.out⟩
  · have HC := Lib.hid hc
    have HCO := Lib.hid (code1_yes hs)
    have HIM := Lib.hid hm'
    have HI := Lib.hid hs
    have hm0 : 0 < m.length := (isL_iff.1 hm').lo
    obtain ⟨bq, oq, rq, cq, haq, _, hbq, hrq, _⟩ := Hm.out.row (show 0 < m.length from hm0)
    subst haq
    rw [Nat.add_zero] at hrq
    have hbqw : bq < w.heap.size := Nat.lt_of_lt_of_le hbq tm
    obtain ⟨c, hcc⟩ : ∃ c, c = (rw' m 0).length := ⟨_, rfl⟩
    rw [← hcc] at hrq
    have HCC := Lib.hid hcc
    obtain ⟨e1, e2⟩ := len_spell hl
    rw [← hcc] at hk
    obtain ⟨e3, e4⟩ := len_differ hk
    clear hs hc hm' hl hk hcc
    go_enter Try.func35, Try.ntmps35
    go_upto_region 1 with fail
    obtain ⟨w1, hw1⟩ : ∃ z, z = w.alloc (.cells #[.int .i64 pS, .slice aS S.length cS] 30) := ⟨_, rfl⟩
    rw [← hw1] at HB0 k0 k1 ⊢
    have hd1 : w.heap.size < w1.heap.size := by rw [hw1]; simp
    have HB1 := HB0
    clear hw1
    have SS1 := Lib.hid (And.intro k0 k1)
    go_upto_region 5 with (go_at_call 68; ((with_reducible refine (checkSp1 pS aS S cS loS tpS _ _ w1 _ rfl (HS.out.below HB1.out tS) (Nat.le_trans tS HB1.out.size) sS).mono ?_); rintro e w2 ⟨rfl, b_⟩; rw [HCO.out]; have b2_ := below_step (below_alloc w1 (.cells #[.int .i64 pS, .slice aS S.length cS] 30)) (size_alloc w1 (.cells #[.int .i64 pS, .slice aS S.length cS] 30)) b_; have SS2 := Lib.hid (ss2 b2_ hd1 SS1.out); have HB2 := Lib.hid (below_step HB1.out HB1.out.size b2_); have hd2 := Nat.lt_of_lt_of_le hd1 b2_.size; clear k0 k1; obtain ⟨k0, k1⟩ := SS2.out; clear b_ b2_))
    have hq2 := (HB2.out.cell (p := ⟨bq, oq, none⟩) hbqw).trans hrq
    go_wp2_with (go_at_call 69; ((with_reducible refine (isMatrix_q pS (some ⟨bq, oq, none⟩) m cm lom tpm w2 (Hm.out.below HB2.out tm) HSM.out).mono ?_); rintro e w9 ⟨rfl, rfl⟩; rw [HIM.out]))
    go_ret
    exact ⟨by rw [HC.out]; rfl, HB2.out⟩
  · have HC := Lib.hid hc
    have HCO := Lib.hid (code1_yes hs)
    have HIM := Lib.hid hm'
    have HI := Lib.hid hs
    have hm0 : 0 < m.length := (isL_iff.1 hm').lo
    obtain ⟨bq, oq, rq, cq, haq, _, hbq, hrq, _⟩ := Hm.out.row (show 0 < m.length from hm0)
    subst haq
    rw [Nat.add_zero] at hrq
    have hbqw : bq < w.heap.size := Nat.lt_of_lt_of_le hbq tm
    obtain ⟨c, hcc⟩ : ∃ c, c = (rw' m 0).length := ⟨_, rfl⟩
    rw [← hcc] at hrq
    have HCC := Lib.hid hcc
    obtain ⟨e1, e2⟩ := len_spell hl
    rw [← hcc] at hk
    obtain ⟨e3, e4⟩ := len_spell hk
    have HRG : Hid (regC pS S [] = shC pS S m) := by show _ = _; rw [regC_nil hs, hc]
    clear hs hc hm' hl hk hcc
    go_enter Try.func35, Try.ntmps35
    go_upto_region 1 with fail
    obtain ⟨w1, hw1⟩ : ∃ z, z = w.alloc (.cells #[.int .i64 pS, .slice aS S.length cS] 30) := ⟨_, rfl⟩
    rw [← hw1] at HB0 k0 k1 ⊢
    have hd1 : w.heap.size < w1.heap.size := by rw [hw1]; simp
    have HB1 := HB0
    clear hw1
    have SS1 := Lib.hid (And.intro k0 k1)
    go_upto_region 5 with (go_at_call 68; ((with_reducible refine (checkSp1 pS aS S cS loS tpS _ _ w1 _ rfl (HS.out.below HB1.out tS) (Nat.le_trans tS HB1.out.size) sS).mono ?_); rintro e w2 ⟨rfl, b_⟩; rw [HCO.out]; have b2_ := below_step (below_alloc w1 (.cells #[.int .i64 pS, .slice aS S.length cS] 30)) (size_alloc w1 (.cells #[.int .i64 pS, .slice aS S.length cS] 30)) b_; have SS2 := Lib.hid (ss2 b2_ hd1 SS1.out); have HB2 := Lib.hid (below_step HB1.out HB1.out.size b2_); have hd2 := Nat.lt_of_lt_of_le hd1 b2_.size; clear k0 k1; obtain ⟨k0, k1⟩ := SS2.out; clear b_ b2_))
    have hq2 := (HB2.out.cell (p := ⟨bq, oq, none⟩) hbqw).trans hrq
    go_upto_region 7 with (go_at_call 69; ((with_reducible refine (isMatrix_q pS (some ⟨bq, oq, none⟩) m cm lom tpm w2 (Hm.out.below HB2.out tm) HSM.out).mono ?_); rintro e w9 ⟨rfl, rfl⟩; rw [HIM.out]))
    go_wp2_with (go_at_call 45; ((with_reducible refine (checkR0 pS aS S cS loS tpS w2 (HS.out.below HB2.out tS) (Nat.le_trans tS HB2.out.size) sS).mono ?_); rintro e w3 ⟨rfl, b_⟩; rw [HRG.out]; have SS3 := Lib.hid (ss2 b_ hd2 SS2.out); have HB3 := Lib.hid (below_step HB2.out HB2.out.size b_); have hd3 := Nat.lt_of_lt_of_le hd2 b_.size; clear k0 k1; obtain ⟨k0, k1⟩ := SS3.out; clear b_))
    go_ret
    exact ⟨rfl, HB3.out⟩

set_option maxRecDepth 100000 in
set_option maxHeartbeats 6400000 in
theorem l10Shape_any (pS : Int) (aS : Option Addr) (S : List Int) (cS loS tpS : Nat) (am : Option Addr) (m : List (List Int)) (cm lom tpm : Nat) (w : World) (hS : RowIn loS tpS w aS S) (tS : tpS ≤ w.heap.size) (sS : S.length ≤ 1048576) (hm : MatIn lom tpm w am m) (tm : tpm ≤ w.heap.size) (sm' : m.length + tot m m.length ≤ 1048576) :
    Calls Try.prog 32 #[.agg #[.int .i64 pS, .slice aS S.length cS], .slice am m.length cm] w (fun e w' => e = .returned (.int .i64 (shC pS S m)) ∧ Below w.heap.size w w') := by
  have HS := Lib.hid hS
  have Hm := Lib.hid hm
  have HSM := Lib.hid sm'
  have k0 := nw0 w (.int .i64 pS) (.slice aS S.length cS) 30
  have k1 := nw1 w (.int .i64 pS) (.slice aS S.length cS) 30
  have HB0 := Lib.hid (below_alloc w (.cells #[.int .i64 pS, .slice aS S.length cS] 30))
  clear hS hm sm'
  rcases shC_cases pS S m with ⟨hs, hc⟩ | ⟨hs, hm', hc⟩ | ⟨hs, hm', hl, hc⟩ | ⟨hs, hm', hl, hk, hc⟩ | ⟨hs, hm', hl, hk, hc⟩
  · have HC := Lib.hid hc
    have HSP := Lib.hid hs
    clear hs hc
    go_enter Try.func32, Try.ntmps32
    go_upto_region 1 with fail
    obtain ⟨w1, hw1⟩ : ∃ z, z = w.alloc (.cells #[.int .i64 pS, .slice aS S.length cS] 30) := ⟨_, rfl⟩
    rw [← hw1] at HB0 k0 k1 ⊢
    have hd1 : w.heap.size < w1.heap.size := by rw [hw1]; simp
    have HB1 := HB0
    clear hw1
    have SS1 := Lib.hid (And.intro k0 k1)
    go_wp2_with (go_at_call 61; ((with_reducible refine (l03Is_any pS aS S cS loS tpS w1 (HS.out.below HB1.out tS) (Nat.le_trans tS HB1.out.size) sS).mono ?_); rintro e w2 ⟨rfl, b_⟩; rw [HSP.out]; have SS2 := Lib.hid (ss2 b_ hd1 SS1.out); have HB2 := Lib.hid (below_step HB1.out HB1.out.size b_); have hd2 := Nat.lt_of_lt_of_le hd1 b_.size; clear k0 k1; obtain ⟨k0, k1⟩ := SS2.out; clear b_))
    go_ret
    exact ⟨by rw [HC.out]; rfl, HB2.out⟩
  · have HC := Lib.hid hc
    have HSP := Lib.hid hs
    have HIM := Lib.hid hm'
    clear hs hc hm'
    go_enter Try.func32, Try.ntmps32
    go_upto_region 1 with fail
    obtain ⟨w1, hw1⟩ : ∃ z, z = w.alloc (.cells #[.int .i64 pS, .slice aS S.length cS] 30) := ⟨_, rfl⟩
    rw [← hw1] at HB0 k0 k1 ⊢
    have hd1 : w.heap.size < w1.heap.size := by rw [hw1]; simp
    have HB1 := HB0
    clear hw1
    have SS1 := Lib.hid (And.intro k0 k1)
    go_wp2_with (first | (go_at_call 61; ((with_reducible refine (l03Is_any pS aS S cS loS tpS w1 (HS.out.below HB1.out tS) (Nat.le_trans tS HB1.out.size) sS).mono ?_); rintro e w2 ⟨rfl, b_⟩; rw [HSP.out]; have SS2 := Lib.hid (ss2 b_ hd1 SS1.out); have HB2 := Lib.hid (below_step HB1.out HB1.out.size b_); have hd2 := Nat.lt_of_lt_of_le hd1 b_.size; clear k0 k1; obtain ⟨k0, k1⟩ := SS2.out; clear b_)) | (go_at_call 62; ((with_reducible refine (l02Is_any pS am m cm lom tpm w2 (Hm.out.below HB2.out tm) (len_of HSM.out).1 (len_of HSM.out).2).mono ?_); rintro e w3 ⟨rfl, q_⟩; have b_ := q_.below w2.heap.size; rw [HIM.out]; have SS3 := Lib.hid (ss2 b_ hd2 SS2.out); have HB3 := Lib.hid (below_step HB2.out HB2.out.size b_); have hd3 := Nat.lt_of_lt_of_le hd2 b_.size; clear k0 k1; obtain ⟨k0, k1⟩ := SS3.out; clear b_)))
    go_ret
    exact ⟨by rw [HC.out]; rfl, HB3.out⟩
  · have HC := Lib.hid hc
    have HSP := Lib.hid hs
    have HIM := Lib.hid hm'
    obtain ⟨e1, e2⟩ := len_differ hl
    clear hs hc hm' hl
    go_enter Try.func32, Try.ntmps32
    go_upto_region 1 with fail
    obtain ⟨w1, hw1⟩ : ∃ z, z = w.alloc (.cells #[.int .i64 pS, .slice aS S.length cS] 30) := ⟨_, rfl⟩
    rw [← hw1] at HB0 k0 k1 ⊢
    have hd1 : w.heap.size < w1.heap.size := by rw [hw1]; simp
    have HB1 := HB0
    clear hw1
    have SS1 := Lib.hid (And.intro k0 k1)
    go_wp2_with (first | (go_at_call 61; ((with_reducible refine (l03Is_any pS aS S cS loS tpS w1 (HS.out.below HB1.out tS) (Nat.le_trans tS HB1.out.size) sS).mono ?_); rintro e w2 ⟨rfl, b_⟩; rw [HSP.out]; have SS2 := Lib.hid (ss2 b_ hd1 SS1.out); have HB2 := Lib.hid (below_step HB1.out HB1.out.size b_); have hd2 := Nat.lt_of_lt_of_le hd1 b_.size; clear k0 k1; obtain ⟨k0, k1⟩ := SS2.out; clear b_)) | (go_at_call 62; ((with_reducible refine (l02Is_any pS am m cm lom tpm w2 (Hm.out.below HB2.out tm) (len_of HSM.out).1 (len_of HSM.out).2).mono ?_); rintro e w3 ⟨rfl, q_⟩; have b_ := q_.below w2.heap.size; rw [HIM.out]; have SS3 := Lib.hid (ss2 b_ hd2 SS2.out); have HB3 := Lib.hid (below_step HB2.out HB2.out.size b_); have hd3 := Nat.lt_of_lt_of_le hd2 b_.size; clear k0 k1; obtain ⟨k0, k1⟩ := SS3.out; clear b_)))
    go_ret
    exact ⟨by rw [HC.out]; rfl, HB3.out⟩
  · have HC := Lib.hid hc
    have HSP := Lib.hid hs
    have HIM := Lib.hid hm'
    have HI := Lib.hid hs
    have hm0 : 0 < m.length := (isL_iff.1 hm').lo
    obtain ⟨bq, oq, rq, cq, haq, _, hbq, hrq, _⟩ := Hm.out.row (show 0 < m.length from hm0)
    subst haq
    rw [Nat.add_zero] at hrq
    have hbqw : bq < w.heap.size := Nat.lt_of_lt_of_le hbq tm
    obtain ⟨c, hcc⟩ : ∃ c, c = (rw' m 0).length := ⟨_, rfl⟩
    rw [← hcc] at hrq
    have HCC := Lib.hid hcc
    obtain ⟨e1, e2⟩ := len_spell hl
    rw [← hcc, ← hl] at hk
    obtain ⟨e3, e4⟩ := len_differ hk
    clear hs hc hm' hl hk hcc
    go_enter Try.func32, Try.ntmps32
    go_upto_region 1 with fail
    obtain ⟨w1, hw1⟩ : ∃ z, z = w.alloc (.cells #[.int .i64 pS, .slice aS S.length cS] 30) := ⟨_, rfl⟩
    rw [← hw1] at HB0 k0 k1 ⊢
    have hd1 : w.heap.size < w1.heap.size := by rw [hw1]; simp
    have HB1 := HB0
    clear hw1
    have SS1 := Lib.hid (And.intro k0 k1)
    go_upto_region 3 with (go_at_call 61; ((with_reducible refine (l03Is_any pS aS S cS loS tpS w1 (HS.out.below HB1.out tS) (Nat.le_trans tS HB1.out.size) sS).mono ?_); rintro e w2 ⟨rfl, b_⟩; rw [HSP.out]; have SS2 := Lib.hid (ss2 b_ hd1 SS1.out); have HB2 := Lib.hid (below_step HB1.out HB1.out.size b_); have hd2 := Nat.lt_of_lt_of_le hd1 b_.size; clear k0 k1; obtain ⟨k0, k1⟩ := SS2.out; clear b_))
    have hq2 := (HB2.out.cell (p := ⟨bq, oq, none⟩) hbqw).trans hrq
    go_wp2_with (go_at_call 62; ((with_reducible refine (l02Is_any pS (some ⟨bq, oq, none⟩) m cm lom tpm w2 (Hm.out.below HB2.out tm) (len_of HSM.out).1 (len_of HSM.out).2).mono ?_); rintro e w3 ⟨rfl, q_⟩; have b_ := q_.below w2.heap.size; rw [HIM.out]; have SS3 := Lib.hid (ss2 b_ hd2 SS2.out); have HB3 := Lib.hid (below_step HB2.out HB2.out.size b_); have hd3 := Nat.lt_of_lt_of_le hd2 b_.size; have hq3 := (b_.cell (p := ⟨bq, oq, none⟩) (Nat.lt_of_lt_of_le hbqw HB2.out.size)).trans hq2; clear hq2; clear k0 k1; obtain ⟨k0, k1⟩ := SS3.out; clear b_))
    go_ret
    exact ⟨by rw [HC.out]; rfl, HB3.out⟩
  · have HC := Lib.hid hc
    have HSP := Lib.hid hs
    have HIM := Lib.hid hm'
    have HI := Lib.hid hs
    have hm0 : 0 < m.length := (isL_iff.1 hm').lo
    obtain ⟨bq, oq, rq, cq, haq, _, hbq, hrq, _⟩ := Hm.out.row (show 0 < m.length from hm0)
    subst haq
    rw [Nat.add_zero] at hrq
    have hbqw : bq < w.heap.size := Nat.lt_of_lt_of_le hbq tm
    obtain ⟨c, hcc⟩ : ∃ c, c = (rw' m 0).length := ⟨_, rfl⟩
    rw [← hcc] at hrq
    have HCC := Lib.hid hcc
    obtain ⟨e1, e2⟩ := len_spell hl
    rw [← hcc, ← hl] at hk
    obtain ⟨e3, e4⟩ := len_spell hk
    by_cases hd : discN pS S = 0
    · have HC5 : Hid (shC pS S m = 5) := by show _ = _; rw [hc, if_pos hd]
      obtain ⟨D, hD⟩ : ∃ d, d = discN pS S := ⟨_, rfl⟩
      rw [← hD] at hd
      have hd1_ : (D == 0) = true := by simpa using hd
      have HDE := Lib.hid hD
      clear hs hc hm' hl hk hcc hd hD
      go_enter Try.func32, Try.ntmps32
      go_upto_region 1 with fail
      obtain ⟨w1, hw1⟩ : ∃ z, z = w.alloc (.cells #[.int .i64 pS, .slice aS S.length cS] 30) := ⟨_, rfl⟩
      rw [← hw1] at HB0 k0 k1 ⊢
      have hd1 : w.heap.size < w1.heap.size := by rw [hw1]; simp
      have HB1 := HB0
      clear hw1
      have SS1 := Lib.hid (And.intro k0 k1)
      go_upto_region 3 with (go_at_call 61; ((with_reducible refine (l03Is_any pS aS S cS loS tpS w1 (HS.out.below HB1.out tS) (Nat.le_trans tS HB1.out.size) sS).mono ?_); rintro e w2 ⟨rfl, b_⟩; rw [HSP.out]; have SS2 := Lib.hid (ss2 b_ hd1 SS1.out); have HB2 := Lib.hid (below_step HB1.out HB1.out.size b_); have hd2 := Nat.lt_of_lt_of_le hd1 b_.size; clear k0 k1; obtain ⟨k0, k1⟩ := SS2.out; clear b_))
      have hq2 := (HB2.out.cell (p := ⟨bq, oq, none⟩) hbqw).trans hrq
      go_wp2_with (first | (go_at_call 62; ((with_reducible refine (l02Is_any pS (some ⟨bq, oq, none⟩) m cm lom tpm w2 (Hm.out.below HB2.out tm) (len_of HSM.out).1 (len_of HSM.out).2).mono ?_); rintro e w3 ⟨rfl, q_⟩; have b_ := q_.below w2.heap.size; rw [HIM.out]; have SS3 := Lib.hid (ss2 b_ hd2 SS2.out); have HB3 := Lib.hid (below_step HB2.out HB2.out.size b_); have hd3 := Nat.lt_of_lt_of_le hd2 b_.size; have hq3 := (b_.cell (p := ⟨bq, oq, none⟩) (Nat.lt_of_lt_of_le hbqw HB2.out.size)).trans hq2; clear hq2; clear k0 k1; obtain ⟨k0, k1⟩ := SS3.out; clear b_)) | (go_at_call 63; ((with_reducible refine (l03Disc_any pS aS S cS loS tpS w3 (HS.out.below HB3.out tS) (Nat.le_trans tS HB3.out.size) HI.out).mono ?_); rintro e w4 ⟨rfl, b_⟩; rw [← HDE.out]; have SS4 := Lib.hid (ss2 b_ hd3 SS3.out); have HB4 := Lib.hid (below_step HB3.out HB3.out.size b_); have hd4 := Nat.lt_of_lt_of_le hd3 b_.size; clear k0 k1; obtain ⟨k0, k1⟩ := SS4.out; clear b_)))
      go_ret
      exact ⟨by rw [HC5.out]; rfl, HB4.out⟩
    · have HC5 : Hid (shC pS S m = 0) := by show _ = _; rw [hc, if_neg hd]
      obtain ⟨D, hD⟩ : ∃ d, d = discN pS S := ⟨_, rfl⟩
      rw [← hD] at hd
      have hd1_ : (D == 0) = false := by simpa using hd
      have HDE := Lib.hid hD
      clear hs hc hm' hl hk hcc hd hD
      go_enter Try.func32, Try.ntmps32
      go_upto_region 1 with fail
      obtain ⟨w1, hw1⟩ : ∃ z, z = w.alloc (.cells #[.int .i64 pS, .slice aS S.length cS] 30) := ⟨_, rfl⟩
      rw [← hw1] at HB0 k0 k1 ⊢
      have hd1 : w.heap.size < w1.heap.size := by rw [hw1]; simp
      have HB1 := HB0
      clear hw1
      have SS1 := Lib.hid (And.intro k0 k1)
      go_upto_region 3 with (go_at_call 61; ((with_reducible refine (l03Is_any pS aS S cS loS tpS w1 (HS.out.below HB1.out tS) (Nat.le_trans tS HB1.out.size) sS).mono ?_); rintro e w2 ⟨rfl, b_⟩; rw [HSP.out]; have SS2 := Lib.hid (ss2 b_ hd1 SS1.out); have HB2 := Lib.hid (below_step HB1.out HB1.out.size b_); have hd2 := Nat.lt_of_lt_of_le hd1 b_.size; clear k0 k1; obtain ⟨k0, k1⟩ := SS2.out; clear b_))
      have hq2 := (HB2.out.cell (p := ⟨bq, oq, none⟩) hbqw).trans hrq
      go_wp2_with (first | (go_at_call 62; ((with_reducible refine (l02Is_any pS (some ⟨bq, oq, none⟩) m cm lom tpm w2 (Hm.out.below HB2.out tm) (len_of HSM.out).1 (len_of HSM.out).2).mono ?_); rintro e w3 ⟨rfl, q_⟩; have b_ := q_.below w2.heap.size; rw [HIM.out]; have SS3 := Lib.hid (ss2 b_ hd2 SS2.out); have HB3 := Lib.hid (below_step HB2.out HB2.out.size b_); have hd3 := Nat.lt_of_lt_of_le hd2 b_.size; have hq3 := (b_.cell (p := ⟨bq, oq, none⟩) (Nat.lt_of_lt_of_le hbqw HB2.out.size)).trans hq2; clear hq2; clear k0 k1; obtain ⟨k0, k1⟩ := SS3.out; clear b_)) | (go_at_call 63; ((with_reducible refine (l03Disc_any pS aS S cS loS tpS w3 (HS.out.below HB3.out tS) (Nat.le_trans tS HB3.out.size) HI.out).mono ?_); rintro e w4 ⟨rfl, b_⟩; rw [← HDE.out]; have SS4 := Lib.hid (ss2 b_ hd3 SS3.out); have HB4 := Lib.hid (below_step HB3.out HB3.out.size b_); have hd4 := Nat.lt_of_lt_of_le hd3 b_.size; clear k0 k1; obtain ⟨k0, k1⟩ := SS4.out; clear b_)))
      go_ret
      exact ⟨by rw [HC5.out]; rfl, HB4.out⟩

end Go.Proofs.Ytkibkkdeaojjoab
