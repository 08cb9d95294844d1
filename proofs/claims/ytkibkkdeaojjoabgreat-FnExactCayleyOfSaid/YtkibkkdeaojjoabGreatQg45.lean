/-
  Matrices of spaces: shapes, skew ones: contracts of the program and of the model.
  Conditions: the lists are nil or rows of known cells, of at most 1048576 numbers.
-/
import Derived.Test.YtkibkkdeaojjoabGreatQg44
import Derived.Test.YtkibkkdeaojjoabGreatQg12
import Derived.Test.YtkibkkdeaojjoabGreatQg23
import Derived.Test.YtkibkkdeaojjoabGreatQg30
import Derived.Test.YtkibkkdeaojjoabGreatQg38
import Derived.Test.YtkibkkdeaojjoabGreatQg33
import Derived.Test.YtkibkkdeaojjoabGreatQg34
import Derived.Deep.RegionHeld3
import Derived.Deep.DeepCutAuto
namespace Go.Proofs.YtkibkkdeaojjoabGreat
open Go.RowKit
set_option linter.unusedVariables false

def shC (p : Int) (S : List Int) (m : List (List Int)) : Int := if isSp p S = true then (if isM p m = true ∧ m.length = S.length ∧ (rw' m 0).length = S.length then (if discN p S = 0 then 5 else 0) else 2) else 1
theorem shC_cases (p : Int) (S : List Int) (m : List (List Int)) : (isSp p S = false ∧ shC p S m = 1) ∨ (isSp p S = true ∧ isM p m = false ∧ shC p S m = 2) ∨ (isSp p S = true ∧ isM p m = true ∧ m.length ≠ S.length ∧ shC p S m = 2) ∨ (isSp p S = true ∧ isM p m = true ∧ m.length = S.length ∧ (rw' m 0).length ≠ S.length ∧ shC p S m = 2) ∨ (isSp p S = true ∧ isM p m = true ∧ m.length = S.length ∧ (rw' m 0).length = S.length ∧ shC p S m = if discN p S = 0 then 5 else 0) := by
  unfold shC
  cases hs : isSp p S with
  | false => exact .inl ⟨rfl, if_neg (by decide)⟩
  | true =>
    cases hm : isM p m with
    | false => exact .inr (.inl ⟨rfl, rfl, by rw [if_pos rfl, if_neg (fun h => by cases h.1)]⟩)
    | true =>
      by_cases h1 : m.length = S.length
      · by_cases h2 : (rw' m 0).length = S.length
        · exact .inr (.inr (.inr (.inr ⟨rfl, rfl, h1, h2, by rw [if_pos rfl, if_pos ⟨rfl, h1, h2⟩]⟩)))
        · exact .inr (.inr (.inr (.inl ⟨rfl, rfl, h1, h2, by rw [if_pos rfl, if_neg (fun h => h2 h.2.2)]⟩)))
      · exact .inr (.inr (.inl ⟨rfl, rfl, h1, by rw [if_pos rfl, if_neg (fun h => h1 h.2.1)]⟩))
/-- A matrix of a regular space's size. -/
structure Good (p : Int) (S : List Int) (m : List (List Int)) : Prop where
  sp : isSp p S = true
  lst : Lst 1 p m
  len : m.length = S.length
  cols : (rw' m 0).length = S.length
  reg : discN p S ≠ 0
theorem shC_zero {p : Int} {S : List Int} {m : List (List Int)} (h : shC p S m = 0) : Good p S m := by
  rcases shC_cases p S m with ⟨_, k⟩ | ⟨_, _, k⟩ | ⟨_, _, _, k⟩ | ⟨_, _, _, _, k⟩ | ⟨h1, h2, h3, h4, k⟩
  · rw [k] at h; cases h
  · rw [k] at h; cases h
  · rw [k] at h; cases h
  · rw [k] at h; cases h
  · refine ⟨h1, isL_iff.1 h2, h3, h4, fun hd => ?_⟩
    rw [k, if_pos hd] at h; cases h
theorem Good.rl {p : Int} {S : List Int} {m : List (List Int)} (h : Good p S m) {i : Nat} (hi : i < m.length) : (rw' m i).length = S.length := by rw [h.lst.len i hi, h.cols]
theorem Good.at {p : Int} {S : List Int} {m : List (List Int)} (h : Good p S m) {i j : Nat} (hi : i < m.length) (hj : j < S.length) : 0 ≤ at' m i j ∧ at' m i j < p := h.lst.at hi (by rw [h.cols]; exact hj)
theorem bi_sq {p : Int} {S : List Int} (hs : isSp p S = true) {i : Nat} (hi : i < S.length) : 0 ≤ S.getD i 0 ∧ S.getD i 0 < p := by
  have h := (isSp_iff.1 hs).all
  rw [List.all_eq_true] at h
  have := h (S.getD i 0) (by simp [List.getD, hi])
  exact inr_iff.1 this
def skC (p : Int) (S : List Int) (m : List (List Int)) : Int := if shC p S m = 0 then (if skB p S m = true then 0 else 5) else shC p S m
theorem skC_cases (p : Int) (S : List Int) (m : List (List Int)) : (shC p S m ≠ 0 ∧ skC p S m = shC p S m) ∨ (shC p S m = 0 ∧ skB p S m = false ∧ skC p S m = 5) ∨ (shC p S m = 0 ∧ skB p S m = true ∧ skC p S m = 0) := by
  unfold skC
  by_cases h : shC p S m = 0
  · cases hb : skB p S m with
    | true => exact .inr (.inr ⟨h, rfl, by rw [if_pos h, if_pos rfl]⟩)
    | false => exact .inr (.inl ⟨h, rfl, by rw [if_pos h, if_neg (by decide)]⟩)
  · exact .inl ⟨h, if_neg h⟩
theorem len_spell {a b : Nat} (h : a = b) : (((a : Int) == (b : Int)) = true) ∧ (((a : Int) != (b : Int)) = false) := by subst h; simp
theorem len_differ {a b : Nat} (h : a ≠ b) : (((a : Int) == (b : Int)) = false) ∧ (((a : Int) != (b : Int)) = true) := by
  have : ¬ (a : Int) = (b : Int) := by omega
  simp [this]

set_option maxRecDepth 100000 in
set_option maxHeartbeats 6400000 in
theorem checkSpaceMatrix_any (pS : Int) (aS : Option Addr) (S : List Int) (cS loS tpS : Nat) (am : Option Addr) (m : List (List Int)) (cm lom tpm : Nat) (w : World) (hS : RowIn loS tpS w aS S) (tS : tpS ≤ w.heap.size) (sS : S.length ≤ 1048576) (hm : MatIn lom tpm w am m) (tm : tpm ≤ w.heap.size) (sm' : m.length + tot m m.length ≤ 1048576) :
    Calls Tryz.prog 65 #[.agg #[.int .i64 pS, .slice aS S.length cS], .slice am m.length cm] w (fun e w' => e = .returned (.int .i64 (shC pS S m)) ∧ Below w.heap.size w w') := by
  have HS := Lib.hid hS
  have Hm := Lib.hid hm
  have HSM := Lib.hid sm'
  have k0 := nw0 w (.int .i64 pS) (.slice aS S.length cS) 29
  have k1 := nw1 w (.int .i64 pS) (.slice aS S.length cS) 29
  have HB0 := Lib.hid (below_alloc w (.cells #[.int .i64 pS, .slice aS S.length cS] 29))
  clear hS hm sm'
  rcases shC_cases pS S m with ⟨hs, hc⟩ | ⟨hs, hm', hc⟩ | ⟨hs, hm', hl, hc⟩ | ⟨hs, hm', hl, hk, hc⟩ | ⟨hs, hm', hl, hk, hc⟩
  · have HC := Lib.hid hc
    have HCO := Lib.hid (code1_no hs)
    clear hs hc
    go_enter Tryz.func65, Tryz.ntmps65
    go_upto_region 1 with fail
    obtain ⟨w1, hw1⟩ : ∃ z, z = w.alloc (.cells #[.int .i64 pS, .slice aS S.length cS] 29) := ⟨_, rfl⟩
    rw [← hw1] at HB0 k0 k1 ⊢
    have hd1 : w.heap.size < w1.heap.size := by rw [hw1]; simp
    have HB1 := HB0
    clear hw1
    have SS1 := Lib.hid (And.intro k0 k1)
    go_wp2_with (go_at_call 86; ((with_reducible refine (checkSp1 pS aS S cS loS tpS _ _ w1 _ rfl (HS.out.below HB1.out tS) (Nat.le_trans tS HB1.out.size) sS).mono ?_); rintro e w2 ⟨rfl, b_⟩; rw [HCO.out]; have b2_ := below_step (below_alloc w1 (.cells #[.int .i64 pS, .slice aS S.length cS] 29)) (size_alloc w1 (.cells #[.int .i64 pS, .slice aS S.length cS] 29)) b_; have SS2 := Lib.hid (ss2 b2_ hd1 SS1.out); have HB2 := Lib.hid (below_step HB1.out HB1.out.size b2_); have hd2 := Nat.lt_of_lt_of_le hd1 b2_.size; clear k0 k1; obtain ⟨k0, k1⟩ := SS2.out; clear b_ b2_))
    go_ret
    exact ⟨by rw [HC.out]; rfl, HB2.out⟩
  · have HC := Lib.hid hc
    have HCO := Lib.hid (code1_yes hs)
    have HIM := Lib.hid hm'
    clear hs hc hm'
    go_enter Tryz.func65, Tryz.ntmps65
    go_upto_region 1 with fail
    obtain ⟨w1, hw1⟩ : ∃ z, z = w.alloc (.cells #[.int .i64 pS, .slice aS S.length cS] 29) := ⟨_, rfl⟩
    rw [← hw1] at HB0 k0 k1 ⊢
    have hd1 : w.heap.size < w1.heap.size := by rw [hw1]; simp
    have HB1 := HB0
    clear hw1
    have SS1 := Lib.hid (And.intro k0 k1)
    go_wp2_with (first | (go_at_call 86; ((with_reducible refine (checkSp1 pS aS S cS loS tpS _ _ w1 _ rfl (HS.out.below HB1.out tS) (Nat.le_trans tS HB1.out.size) sS).mono ?_); rintro e w2 ⟨rfl, b_⟩; rw [HCO.out]; have b2_ := below_step (below_alloc w1 (.cells #[.int .i64 pS, .slice aS S.length cS] 29)) (size_alloc w1 (.cells #[.int .i64 pS, .slice aS S.length cS] 29)) b_; have SS2 := Lib.hid (ss2 b2_ hd1 SS1.out); have HB2 := Lib.hid (below_step HB1.out HB1.out.size b2_); have hd2 := Nat.lt_of_lt_of_le hd1 b2_.size; clear k0 k1; obtain ⟨k0, k1⟩ := SS2.out; clear b_ b2_)) | (go_at_call 87; ((with_reducible refine (isMatrix_q pS am m cm lom tpm w2 (Hm.out.below HB2.out tm) HSM.out).mono ?_); rintro e w9 ⟨rfl, rfl⟩; rw [HIM.out])))
    go_ret
    exact ⟨by rw [HC.out]; rfl, HB2.out⟩
  · have HC := Lib.hid hc
    have HCO := Lib.hid (code1_yes hs)
    have HIM := Lib.hid hm'
    obtain ⟨e1, e2⟩ := len_differ hl
    clear hs hc hm' hl
    go_enter Tryz.func65, Tryz.ntmps65
    go_upto_region 1 with fail
    obtain ⟨w1, hw1⟩ : ∃ z, z = w.alloc (.cells #[.int .i64 pS, .slice aS S.length cS] 29) := ⟨_, rfl⟩
    rw [← hw1] at HB0 k0 k1 ⊢
    have hd1 : w.heap.size < w1.heap.size := by rw [hw1]; simp
    have HB1 := HB0
    clear hw1
    have SS1 := Lib.hid (And.intro k0 k1)
    go_wp2_with (first | (go_at_call 86; ((with_reducible refine (checkSp1 pS aS S cS loS tpS _ _ w1 _ rfl (HS.out.below HB1.out tS) (Nat.le_trans tS HB1.out.size) sS).mono ?_); rintro e w2 ⟨rfl, b_⟩; rw [HCO.out]; have b2_ := below_step (below_alloc w1 (.cells #[.int .i64 pS, .slice aS S.length cS] 29)) (size_alloc w1 (.cells #[.int .i64 pS, .slice aS S.length cS] 29)) b_; have SS2 := Lib.hid (ss2 b2_ hd1 SS1.out); have HB2 := Lib.hid (below_step HB1.out HB1.out.size b2_); have hd2 := Nat.lt_of_lt_of_le hd1 b2_.size; clear k0 k1; obtain ⟨k0, k1⟩ := SS2.out; clear b_ b2_)) | (go_at_call 87; ((with_reducible refine (isMatrix_q pS am m cm lom tpm w2 (Hm.out.below HB2.out tm) HSM.out).mono ?_); rintro e w9 ⟨rfl, rfl⟩; rw [HIM.out])))
    go_ret
    exact ⟨by rw [HC.out]; rfl, HB2.out⟩
  · have HC := Lib.hid hc
    have HCO := Lib.hid (code1_yes hs)
    have HIM := Lib.hid hm'
    have HI := Lib.hid hs
    have hm0 : 0 < m.length := (isL_iff.1 hm').lo
    obtain ⟨bq, oq, rq, cq, haq, _, hbq, hrq, _⟩ := Hm.out.row (show 0 < m.length from hm0)
    subst haq
    rw [Nat.add_zero] at hrq
    have hbqw : bq < w.heap.size := Nat.lt_of_lt_of_le hbq tm
    obtain ⟨c, hcc⟩ : ∃ c, c = (rw' m 0).length := ⟨_, rfl⟩
    rw [← hcc] at hrq
    have HCC := Lib.hid hcc
    obtain ⟨e1, e2⟩ := len_spell hl
    rw [← hcc] at hk
    obtain ⟨e3, e4⟩ := len_differ hk
    clear hs hc hm' hl hk hcc
    go_enter Tryz.func65, Tryz.ntmps65
    go_upto_region 1 with fail
    obtain ⟨w1, hw1⟩ : ∃ z, z = w.alloc (.cells #[.int .i64 pS, .slice aS S.length cS] 29) := ⟨_, rfl⟩
    rw [← hw1] at HB0 k0 k1 ⊢
    have hd1 : w.heap.size < w1.heap.size := by rw [hw1]; simp
    have HB1 := HB0
    clear hw1
    have SS1 := Lib.hid (And.intro k0 k1)
    go_upto_region 5 with (go_at_call 86; ((with_reducible refine (checkSp1 pS aS S cS loS tpS _ _ w1 _ rfl (HS.out.below HB1.out tS) (Nat.le_trans tS HB1.out.size) sS).mono ?_); rintro e w2 ⟨rfl, b_⟩; rw [HCO.out]; have b2_ := below_step (below_alloc w1 (.cells #[.int .i64 pS, .slice aS S.length cS] 29)) (size_alloc w1 (.cells #[.int .i64 pS, .slice aS S.length cS] 29)) b_; have SS2 := Lib.hid (ss2 b2_ hd1 SS1.out); have HB2 := Lib.hid (below_step HB1.out HB1.out.size b2_); have hd2 := Nat.lt_of_lt_of_le hd1 b2_.size; clear k0 k1; obtain ⟨k0, k1⟩ := SS2.out; clear b_ b2_))
    have hq2 := (HB2.out.cell (p := ⟨bq, oq, none⟩) hbqw).trans hrq
    go_wp2_with (go_at_call 87; ((with_reducible refine (isMatrix_q pS (some ⟨bq, oq, none⟩) m cm lom tpm w2 (Hm.out.below HB2.out tm) HSM.out).mono ?_); rintro e w9 ⟨rfl, rfl⟩; rw [HIM.out]))
    go_ret
    exact ⟨by rw [HC.out]; rfl, HB2.out⟩
  · have HC := Lib.hid hc
    have HCO := Lib.hid (code1_yes hs)
    have HIM := Lib.hid hm'
    have HI := Lib.hid hs
    have hm0 : 0 < m.length := (isL_iff.1 hm').lo
    obtain ⟨bq, oq, rq, cq, haq, _, hbq, hrq, _⟩ := Hm.out.row (show 0 < m.length from hm0)
    subst haq
    rw [Nat.add_zero] at hrq
    have hbqw : bq < w.heap.size := Nat.lt_of_lt_of_le hbq tm
    obtain ⟨c, hcc⟩ : ∃ c, c = (rw' m 0).length := ⟨_, rfl⟩
    rw [← hcc] at hrq
    have HCC := Lib.hid hcc
    obtain ⟨e1, e2⟩ := len_spell hl
    rw [← hcc] at hk
    obtain ⟨e3, e4⟩ := len_spell hk
    have HRG : Hid (regC pS S [] = shC pS S m) := by show _ = _; rw [regC_nil hs, hc]
    clear hs hc hm' hl hk hcc
    go_enter Tryz.func65, Tryz.ntmps65
    go_upto_region 1 with fail
    obtain ⟨w1, hw1⟩ : ∃ z, z = w.alloc (.cells #[.int .i64 pS, .slice aS S.length cS] 29) := ⟨_, rfl⟩
    rw [← hw1] at HB0 k0 k1 ⊢
    have hd1 : w.heap.size < w1.heap.size := by rw [hw1]; simp
    have HB1 := HB0
    clear hw1
    have SS1 := Lib.hid (And.intro k0 k1)
    go_upto_region 5 with (go_at_call 86; ((with_reducible refine (checkSp1 pS aS S cS loS tpS _ _ w1 _ rfl (HS.out.below HB1.out tS) (Nat.le_trans tS HB1.out.size) sS).mono ?_); rintro e w2 ⟨rfl, b_⟩; rw [HCO.out]; have b2_ := below_step (below_alloc w1 (.cells #[.int .i64 pS, .slice aS S.length cS] 29)) (size_alloc w1 (.cells #[.int .i64 pS, .slice aS S.length cS] 29)) b_; have SS2 := Lib.hid (ss2 b2_ hd1 SS1.out); have HB2 := Lib.hid (below_step HB1.out HB1.out.size b2_); have hd2 := Nat.lt_of_lt_of_le hd1 b2_.size; clear k0 k1; obtain ⟨k0, k1⟩ := SS2.out; clear b_ b2_))
    have hq2 := (HB2.out.cell (p := ⟨bq, oq, none⟩) hbqw).trans hrq
    go_upto_region 7 with (go_at_call 87; ((with_reducible refine (isMatrix_q pS (some ⟨bq, oq, none⟩) m cm lom tpm w2 (Hm.out.below HB2.out tm) HSM.out).mono ?_); rintro e w9 ⟨rfl, rfl⟩; rw [HIM.out]))
    go_wp2_with (go_at_call 73; ((with_reducible refine (checkR0 pS aS S cS loS tpS w2 (HS.out.below HB2.out tS) (Nat.le_trans tS HB2.out.size) sS).mono ?_); rintro e w3 ⟨rfl, b_⟩; rw [HRG.out]; have SS3 := Lib.hid (ss2 b_ hd2 SS2.out); have HB3 := Lib.hid (below_step HB2.out HB2.out.size b_); have hd3 := Nat.lt_of_lt_of_le hd2 b_.size; clear k0 k1; obtain ⟨k0, k1⟩ := SS3.out; clear b_))
    go_ret
    exact ⟨rfl, HB3.out⟩

set_option maxRecDepth 100000 in
set_option maxHeartbeats 6400000 in
theorem l10Shape_any (pS : Int) (aS : Option Addr) (S : List Int) (cS loS tpS : Nat) (am : Option Addr) (m : List (List Int)) (cm lom tpm : Nat) (w : World) (hS : RowIn loS tpS w aS S) (tS : tpS ≤ w.heap.size) (sS : S.length ≤ 1048576) (hm : MatIn lom tpm w am m) (tm : tpm ≤ w.heap.size) (sm' : m.length + tot m m.length ≤ 1048576) :
    Calls Tryz.prog 34 #[.agg #[.int .i64 pS, .slice aS S.length cS], .slice am m.length cm] w (fun e w' => e = .returned (.int .i64 (shC pS S m)) ∧ Below w.heap.size w w') := by
  have HS := Lib.hid hS
  have Hm := Lib.hid hm
  have HSM := Lib.hid sm'
  have k0 := nw0 w (.int .i64 pS) (.slice aS S.length cS) 29
  have k1 := nw1 w (.int .i64 pS) (.slice aS S.length cS) 29
  have HB0 := Lib.hid (below_alloc w (.cells #[.int .i64 pS, .slice aS S.length cS] 29))
  clear hS hm sm'
  rcases shC_cases pS S m with ⟨hs, hc⟩ | ⟨hs, hm', hc⟩ | ⟨hs, hm', hl, hc⟩ | ⟨hs, hm', hl, hk, hc⟩ | ⟨hs, hm', hl, hk, hc⟩
  · have HC := Lib.hid hc
    have HSP := Lib.hid hs
    clear hs hc
    go_enter Tryz.func34, Tryz.ntmps34
    go_upto_region 1 with fail
    obtain ⟨w1, hw1⟩ : ∃ z, z = w.alloc (.cells #[.int .i64 pS, .slice aS S.length cS] 29) := ⟨_, rfl⟩
    rw [← hw1] at HB0 k0 k1 ⊢
    have hd1 : w.heap.size < w1.heap.size := by rw [hw1]; simp
    have HB1 := HB0
    clear hw1
    have SS1 := Lib.hid (And.intro k0 k1)
    go_wp2_with (go_at_call 58; ((with_reducible refine (l03Is_any pS aS S cS loS tpS w1 (HS.out.below HB1.out tS) (Nat.le_trans tS HB1.out.size) sS).mono ?_); rintro e w2 ⟨rfl, b_⟩; rw [HSP.out]; have SS2 := Lib.hid (ss2 b_ hd1 SS1.out); have HB2 := Lib.hid (below_step HB1.out HB1.out.size b_); have hd2 := Nat.lt_of_lt_of_le hd1 b_.size; clear k0 k1; obtain ⟨k0, k1⟩ := SS2.out; clear b_))
    go_ret
    exact ⟨by rw [HC.out]; rfl, HB2.out⟩
  · have HC := Lib.hid hc
    have HSP := Lib.hid hs
    have HIM := Lib.hid hm'
    clear hs hc hm'
    go_enter Tryz.func34, Tryz.ntmps34
    go_upto_region 1 with fail
    obtain ⟨w1, hw1⟩ : ∃ z, z = w.alloc (.cells #[.int .i64 pS, .slice aS S.length cS] 29) := ⟨_, rfl⟩
    rw [← hw1] at HB0 k0 k1 ⊢
    have hd1 : w.heap.size < w1.heap.size := by rw [hw1]; simp
    have HB1 := HB0
    clear hw1
    have SS1 := Lib.hid (And.intro k0 k1)
    go_wp2_with (first | (go_at_call 58; ((with_reducible refine (l03Is_any pS aS S cS loS tpS w1 (HS.out.below HB1.out tS) (Nat.le_trans tS HB1.out.size) sS).mono ?_); rintro e w2 ⟨rfl, b_⟩; rw [HSP.out]; have SS2 := Lib.hid (ss2 b_ hd1 SS1.out); have HB2 := Lib.hid (below_step HB1.out HB1.out.size b_); have hd2 := Nat.lt_of_lt_of_le hd1 b_.size; clear k0 k1; obtain ⟨k0, k1⟩ := SS2.out; clear b_)) | (go_at_call 59; ((with_reducible refine (l02Is_any pS am m cm lom tpm w2 (Hm.out.below HB2.out tm) (len_of HSM.out).1 (len_of HSM.out).2).mono ?_); rintro e w3 ⟨rfl, q_⟩; have b_ := q_.below w2.heap.size; rw [HIM.out]; have SS3 := Lib.hid (ss2 b_ hd2 SS2.out); have HB3 := Lib.hid (below_step HB2.out HB2.out.size b_); have hd3 := Nat.lt_of_lt_of_le hd2 b_.size; clear k0 k1; obtain ⟨k0, k1⟩ := SS3.out; clear b_)))
    go_ret
    exact ⟨by rw [HC.out]; rfl, HB3.out⟩
  · have HC := Lib.hid hc
    have HSP := Lib.hid hs
    have HIM := Lib.hid hm'
    obtain ⟨e1, e2⟩ := len_differ hl
    clear hs hc hm' hl
    go_enter Tryz.func34, Tryz.ntmps34
    go_upto_region 1 with fail
    obtain ⟨w1, hw1⟩ : ∃ z, z = w.alloc (.cells #[.int .i64 pS, .slice aS S.length cS] 29) := ⟨_, rfl⟩
    rw [← hw1] at HB0 k0 k1 ⊢
    have hd1 : w.heap.size < w1.heap.size := by rw [hw1]; simp
    have HB1 := HB0
    clear hw1
    have SS1 := Lib.hid (And.intro k0 k1)
    go_wp2_with (first | (go_at_call 58; ((with_reducible refine (l03Is_any pS aS S cS loS tpS w1 (HS.out.below HB1.out tS) (Nat.le_trans tS HB1.out.size) sS).mono ?_); rintro e w2 ⟨rfl, b_⟩; rw [HSP.out]; have SS2 := Lib.hid (ss2 b_ hd1 SS1.out); have HB2 := Lib.hid (below_step HB1.out HB1.out.size b_); have hd2 := Nat.lt_of_lt_of_le hd1 b_.size; clear k0 k1; obtain ⟨k0, k1⟩ := SS2.out; clear b_)) | (go_at_call 59; ((with_reducible refine (l02Is_any pS am m cm lom tpm w2 (Hm.out.below HB2.out tm) (len_of HSM.out).1 (len_of HSM.out).2).mono ?_); rintro e w3 ⟨rfl, q_⟩; have b_ := q_.below w2.heap.size; rw [HIM.out]; have SS3 := Lib.hid (ss2 b_ hd2 SS2.out); have HB3 := Lib.hid (below_step HB2.out HB2.out.size b_); have hd3 := Nat.lt_of_lt_of_le hd2 b_.size; clear k0 k1; obtain ⟨k0, k1⟩ := SS3.out; clear b_)))
    go_ret
    exact ⟨by rw [HC.out]; rfl, HB3.out⟩
  · have HC := Lib.hid hc
    have HSP := Lib.hid hs
    have HIM := Lib.hid hm'
    have HI := Lib.hid hs
    have hm0 : 0 < m.length := (isL_iff.1 hm').lo
    obtain ⟨bq, oq, rq, cq, haq, _, hbq, hrq, _⟩ := Hm.out.row (show 0 < m.length from hm0)
    subst haq
    rw [Nat.add_zero] at hrq
    have hbqw : bq < w.heap.size := Nat.lt_of_lt_of_le hbq tm
    obtain ⟨c, hcc⟩ : ∃ c, c = (rw' m 0).length := ⟨_, rfl⟩
    rw [← hcc] at hrq
    have HCC := Lib.hid hcc
    obtain ⟨e1, e2⟩ := len_spell hl
    rw [← hcc, ← hl] at hk
    obtain ⟨e3, e4⟩ := len_differ hk
    clear hs hc hm' hl hk hcc
    go_enter Tryz.func34, Tryz.ntmps34
    go_upto_region 1 with fail
    obtain ⟨w1, hw1⟩ : ∃ z, z = w.alloc (.cells #[.int .i64 pS, .slice aS S.length cS] 29) := ⟨_, rfl⟩
    rw [← hw1] at HB0 k0 k1 ⊢
    have hd1 : w.heap.size < w1.heap.size := by rw [hw1]; simp
    have HB1 := HB0
    clear hw1
    have SS1 := Lib.hid (And.intro k0 k1)
    go_upto_region 3 with (go_at_call 58; ((with_reducible refine (l03Is_any pS aS S cS loS tpS w1 (HS.out.below HB1.out tS) (Nat.le_trans tS HB1.out.size) sS).mono ?_); rintro e w2 ⟨rfl, b_⟩; rw [HSP.out]; have SS2 := Lib.hid (ss2 b_ hd1 SS1.out); have HB2 := Lib.hid (below_step HB1.out HB1.out.size b_); have hd2 := Nat.lt_of_lt_of_le hd1 b_.size; clear k0 k1; obtain ⟨k0, k1⟩ := SS2.out; clear b_))
    have hq2 := (HB2.out.cell (p := ⟨bq, oq, none⟩) hbqw).trans hrq
    go_wp2_with (go_at_call 59; ((with_reducible refine (l02Is_any pS (some ⟨bq, oq, none⟩) m cm lom tpm w2 (Hm.out.below HB2.out tm) (len_of HSM.out).1 (len_of HSM.out).2).mono ?_); rintro e w3 ⟨rfl, q_⟩; have b_ := q_.below w2.heap.size; rw [HIM.out]; have SS3 := Lib.hid (ss2 b_ hd2 SS2.out); have HB3 := Lib.hid (below_step HB2.out HB2.out.size b_); have hd3 := Nat.lt_of_lt_of_le hd2 b_.size; have hq3 := (b_.cell (p := ⟨bq, oq, none⟩) (Nat.lt_of_lt_of_le hbqw HB2.out.size)).trans hq2; clear hq2; clear k0 k1; obtain ⟨k0, k1⟩ := SS3.out; clear b_))
    go_ret
    exact ⟨by rw [HC.out]; rfl, HB3.out⟩
  · have HC := Lib.hid hc
    have HSP := Lib.hid hs
    have HIM := Lib.hid hm'
    have HI := Lib.hid hs
    have hm0 : 0 < m.length := (isL_iff.1 hm').lo
    obtain ⟨bq, oq, rq, cq, haq, _, hbq, hrq, _⟩ := Hm.out.row (show 0 < m.length from hm0)
    subst haq
    rw [Nat.add_zero] at hrq
    have hbqw : bq < w.heap.size := Nat.lt_of_lt_of_le hbq tm
    obtain ⟨c, hcc⟩ : ∃ c, c = (rw' m 0).length := ⟨_, rfl⟩
    rw [← hcc] at hrq
    have HCC := Lib.hid hcc
    obtain ⟨e1, e2⟩ := len_spell hl
    rw [← hcc, ← hl] at hk
    obtain ⟨e3, e4⟩ := len_spell hk
    by_cases hd : discN pS S = 0
    · have HC5 : Hid (shC pS S m = 5) := by show _ = _; rw [hc, if_pos hd]
      obtain ⟨D, hD⟩ : ∃ d, d = discN pS S := ⟨_, rfl⟩
      rw [← hD] at hd
      have hd1_ : (D == 0) = true := by simpa using hd
      have HDE := Lib.hid hD
      clear hs hc hm' hl hk hcc hd hD
      go_enter Tryz.func34, Tryz.ntmps34
      go_upto_region 1 with fail
      obtain ⟨w1, hw1⟩ : ∃ z, z = w.alloc (.cells #[.int .i64 pS, .slice aS S.length cS] 29) := ⟨_, rfl⟩
      rw [← hw1] at HB0 k0 k1 ⊢
      have hd1 : w.heap.size < w1.heap.size := by rw [hw1]; simp
      have HB1 := HB0
      clear hw1
      have SS1 := Lib.hid (And.intro k0 k1)
      go_upto_region 3 with (go_at_call 58; ((with_reducible refine (l03Is_any pS aS S cS loS tpS w1 (HS.out.below HB1.out tS) (Nat.le_trans tS HB1.out.size) sS).mono ?_); rintro e w2 ⟨rfl, b_⟩; rw [HSP.out]; have SS2 := Lib.hid (ss2 b_ hd1 SS1.out); have HB2 := Lib.hid (below_step HB1.out HB1.out.size b_); have hd2 := Nat.lt_of_lt_of_le hd1 b_.size; clear k0 k1; obtain ⟨k0, k1⟩ := SS2.out; clear b_))
      have hq2 := (HB2.out.cell (p := ⟨bq, oq, none⟩) hbqw).trans hrq
      go_wp2_with (first | (go_at_call 59; ((with_reducible refine (l02Is_any pS (some ⟨bq, oq, none⟩) m cm lom tpm w2 (Hm.out.below HB2.out tm) (len_of HSM.out).1 (len_of HSM.out).2).mono ?_); rintro e w3 ⟨rfl, q_⟩; have b_ := q_.below w2.heap.size; rw [HIM.out]; have SS3 := Lib.hid (ss2 b_ hd2 SS2.out); have HB3 := Lib.hid (below_step HB2.out HB2.out.size b_); have hd3 := Nat.lt_of_lt_of_le hd2 b_.size; have hq3 := (b_.cell (p := ⟨bq, oq, none⟩) (Nat.lt_of_lt_of_le hbqw HB2.out.size)).trans hq2; clear hq2; clear k0 k1; obtain ⟨k0, k1⟩ := SS3.out; clear b_)) | (go_at_call 60; ((with_reducible refine (l03Disc_any pS aS S cS loS tpS w3 (HS.out.below HB3.out tS) (Nat.le_trans tS HB3.out.size) HI.out).mono ?_); rintro e w4 ⟨rfl, b_⟩; rw [← HDE.out]; have SS4 := Lib.hid (ss2 b_ hd3 SS3.out); have HB4 := Lib.hid (below_step HB3.out HB3.out.size b_); have hd4 := Nat.lt_of_lt_of_le hd3 b_.size; clear k0 k1; obtain ⟨k0, k1⟩ := SS4.out; clear b_)))
      go_ret
      exact ⟨by rw [HC5.out]; rfl, HB4.out⟩
    · have HC5 : Hid (shC pS S m = 0) := by show _ = _; rw [hc, if_neg hd]
      obtain ⟨D, hD⟩ : ∃ d, d = discN pS S := ⟨_, rfl⟩
      rw [← hD] at hd
      have hd1_ : (D == 0) = false := by simpa using hd
      have HDE := Lib.hid hD
      clear hs hc hm' hl hk hcc hd hD
      go_enter Tryz.func34, Tryz.ntmps34
      go_upto_region 1 with fail
      obtain ⟨w1, hw1⟩ : ∃ z, z = w.alloc (.cells #[.int .i64 pS, .slice aS S.length cS] 29) := ⟨_, rfl⟩
      rw [← hw1] at HB0 k0 k1 ⊢
      have hd1 : w.heap.size < w1.heap.size := by rw [hw1]; simp
      have HB1 := HB0
      clear hw1
      have SS1 := Lib.hid (And.intro k0 k1)
      go_upto_region 3 with (go_at_call 58; ((with_reducible refine (l03Is_any pS aS S cS loS tpS w1 (HS.out.below HB1.out tS) (Nat.le_trans tS HB1.out.size) sS).mono ?_); rintro e w2 ⟨rfl, b_⟩; rw [HSP.out]; have SS2 := Lib.hid (ss2 b_ hd1 SS1.out); have HB2 := Lib.hid (below_step HB1.out HB1.out.size b_); have hd2 := Nat.lt_of_lt_of_le hd1 b_.size; clear k0 k1; obtain ⟨k0, k1⟩ := SS2.out; clear b_))
      have hq2 := (HB2.out.cell (p := ⟨bq, oq, none⟩) hbqw).trans hrq
      go_wp2_with (first | (go_at_call 59; ((with_reducible refine (l02Is_any pS (some ⟨bq, oq, none⟩) m cm lom tpm w2 (Hm.out.below HB2.out tm) (len_of HSM.out).1 (len_of HSM.out).2).mono ?_); rintro e w3 ⟨rfl, q_⟩; have b_ := q_.below w2.heap.size; rw [HIM.out]; have SS3 := Lib.hid (ss2 b_ hd2 SS2.out); have HB3 := Lib.hid (below_step HB2.out HB2.out.size b_); have hd3 := Nat.lt_of_lt_of_le hd2 b_.size; have hq3 := (b_.cell (p := ⟨bq, oq, none⟩) (Nat.lt_of_lt_of_le hbqw HB2.out.size)).trans hq2; clear hq2; clear k0 k1; obtain ⟨k0, k1⟩ := SS3.out; clear b_)) | (go_at_call 60; ((with_reducible refine (l03Disc_any pS aS S cS loS tpS w3 (HS.out.below HB3.out tS) (Nat.le_trans tS HB3.out.size) HI.out).mono ?_); rintro e w4 ⟨rfl, b_⟩; rw [← HDE.out]; have SS4 := Lib.hid (ss2 b_ hd3 SS3.out); have HB4 := Lib.hid (below_step HB3.out HB3.out.size b_); have hd4 := Nat.lt_of_lt_of_le hd3 b_.size; clear k0 k1; obtain ⟨k0, k1⟩ := SS4.out; clear b_)))
      go_ret
      exact ⟨by rw [HC5.out]; rfl, HB4.out⟩

theorem sk_no {p : Int} {S : List Int} {m : List (List Int)} {i k : Nat} (hi : i < m.length) (hk : k < m.length) (h : (at' m k i * S.getD k 0 + at' m i k * S.getD i 0) % p ≠ 0) : skB p S m = false := by
  cases e : skB p S m with
  | false => rfl
  | true => exact absurd (skB_iff.1 e i k hi hk) h
theorem mul_bd13 {a b : Int} (a0 : 0 ≤ a) (a1 : a ≤ 12) (b0 : 0 ≤ b) (b1 : b ≤ 12) : 0 ≤ a * b ∧ a * b ≤ 144 := ⟨Int.mul_nonneg a0 b0, Int.le_trans (Int.mul_le_mul_of_nonneg_right a1 b0) (Int.le_trans (Int.mul_le_mul_of_nonneg_left b1 (by decide)) (by decide))⟩
set_option maxRecDepth 100000 in
set_option maxHeartbeats 6400000 in
theorem l10Skew_any (pS : Int) (aS : Option Addr) (S : List Int) (cS loS tpS : Nat) (am : Option Addr) (m : List (List Int)) (cm lom tpm : Nat) (w : World) (hS : RowIn loS tpS w aS S) (tS : tpS ≤ w.heap.size) (hm : MatIn lom tpm w am m) (tm : tpm ≤ w.heap.size) (hg : Good pS S m) :
    Calls Tryz.prog 35 #[.agg #[.int .i64 pS, .slice aS S.length cS], .slice am m.length cm] w fun e w' => e = .returned (.bool (skB pS S m)) ∧ Below w.heap.size w w' := by
  have HS := Lib.hid hS
  have Hm := Lib.hid hm
  have HG := Lib.hid hg
  have hpb := prm_bd hg.lst.prime
  have h16 := hg.lst.hi
  obtain ⟨n, hn⟩ : ∃ n, n = m.length := ⟨_, rfl⟩
  have HNS : Hid (S.length = n) := by show _ = _; rw [hn]; exact hg.len.symm
  have HNM := Lib.hid hn
  have hnn : n ≤ m.length ∧ m.length ≤ n ∧ n ≤ S.length ∧ S.length ≤ n := by have := hg.len; omega
  rw [HNS.out, ← hn]
  rw [← hn] at h16
  have k0 := nw0 w (.int .i64 pS) (.slice aS n cS) 29
  have k1 := nw1 w (.int .i64 pS) (.slice aS n cS) 29
  have HB0 := Lib.hid (below_alloc w (.cells #[.int .i64 pS, .slice aS n cS] 29))
  clear hS hm hg hn
  go_enter Tryz.func35, Tryz.ntmps35
  go_upto_region 1 with fail
  obtain ⟨w1, hw1⟩ : ∃ z, z = w.alloc (.cells #[.int .i64 pS, .slice aS n cS] 29) := ⟨_, rfl⟩
  rw [← hw1] at HB0 k0 k1 ⊢
  have hd1 : w.heap.size < w1.heap.size := by rw [hw1]; simp
  clear hw1
  have SS1 := Lib.hid (And.intro k0 k1)
  clear k0 k1
  go_wp2
  go_loopw [5] (fun t wr => ∃ i : Nat, i ≤ n ∧ t = .int .i64 i ∧ (∀ a, a < i → ∀ b, b < n → (at' m b a * S.getD b 0 + at' m a b * S.getD a 0) % pS = 0) ∧ Quiet w1 wr) (fun t _ => n - (intOf t).toNat)
  case atStart => exact ⟨0, Nat.zero_le _, rfl, fun a ha => absurd ha (Nat.not_lt_zero a), Quiet.refl _⟩
  case round =>
    obtain ⟨i, hi, rfl, hall, hq⟩ := hrel
    have HALL := Lib.hid hall
    have HQ := Lib.hid hq
    clear hall hq
    rename World => wo
    by_cases hlt : i < n
    · have hi1 : (i : Int) < (n : Int) := Int.ofNat_lt.2 hlt
      go_wp2
      go_loopw [6] (fun t wr => ∃ k : Nat, k ≤ n ∧ t = .int .i64 k ∧ (∀ b, b < k → (at' m b i * S.getD b 0 + at' m i b * S.getD i 0) % pS = 0) ∧ Quiet w1 wr) (fun t _ => n - (intOf t).toNat)
      case atStart => exact ⟨0, Nat.zero_le _, rfl, fun b hb => absurd hb (Nat.not_lt_zero b), HQ.out⟩
      case round =>
        obtain ⟨k, hk, rfl, hin, hq2⟩ := hrel
        have HIN := Lib.hid hin
        have HQ2 := Lib.hid hq2
        rename World => wr
        by_cases hlk : k < n
        · have hk1 : (k : Int) < (n : Int) := Int.ofNat_lt.2 hlk
          have hb1 := HB0.out.trans ((hq2.below w1.heap.size).mono HB0.out.size)
          obtain ⟨b1, o1, r1, c1, ha1, _, _, hr1, hrow1⟩ := (Hm.out.below hb1 tm).row (show k < m.length by omega)
          obtain ⟨b2, o2, ha2, _, _, hv1⟩ := hrow1.num (j := i) (by rw [HG.out.rl (by omega)]; omega)
          obtain ⟨b3, o3, r3, c3, ha3, _, _, hr3, hrow3⟩ := (Hm.out.below hb1 tm).row (show i < m.length by omega)
          obtain ⟨b4, o4, ha4, _, _, hv3⟩ := hrow3.num (j := k) (by rw [HG.out.rl (by omega)]; omega)
          obtain ⟨b5, o5, ha5, _, _, hs1⟩ := (HS.out.below hb1 tS).num (j := k) (by omega)
          obtain ⟨b6, o6, ha6, _, _, hs2⟩ := (HS.out.below hb1 tS).num (j := i) (by omega)
          subst ha1
          injection ha3 with ha3
          injection ha3 with ha31 ha32
          subst ha31 ha32
          subst ha2
          subst ha4
          subst ha5
          injection ha6 with ha6
          injection ha6 with ha61 ha62
          subst ha61 ha62
          rw [HG.out.rl (by omega), HNS.out] at hr1 hr3
          have hv1' : wr.cell? ⟨b2, o2 + i, none⟩ = some (.int .i64 (at' m k i)) := hv1
          have hv3' : wr.cell? ⟨b4, o4 + k, none⟩ = some (.int .i64 (at' m i k)) := hv3
          have z0 := ((hq2.below w1.heap.size).cell (p := ⟨w.heap.size, 0, none⟩) hd1).trans SS1.out.1
          have z1 := ((hq2.below w1.heap.size).cell (p := ⟨w.heap.size, 1, none⟩) hd1).trans SS1.out.2
          have x1 := HG.out.at (i := k) (j := i) (by omega) (by omega)
          have x2 := HG.out.at (i := i) (j := k) (by omega) (by omega)
          have x3 := bi_sq HG.out.sp (i := k) (by omega)
          have x4 := bi_sq HG.out.sp (i := i) (by omega)
          obtain ⟨A1, hA1⟩ : ∃ z, z = at' m k i := ⟨_, rfl⟩
          obtain ⟨A2, hA2⟩ : ∃ z, z = at' m i k := ⟨_, rfl⟩
          obtain ⟨S1, hS1⟩ : ∃ z, z = S.getD k 0 := ⟨_, rfl⟩
          obtain ⟨S2, hS2⟩ : ∃ z, z = S.getD i 0 := ⟨_, rfl⟩
          have HE : Hid (at' m k i * S.getD k 0 + at' m i k * S.getD i 0 = A1 * S1 + A2 * S2) := by show _ = _; rw [hA1, hA2, hS1, hS2]
          rw [← hA1] at hv1' x1
          rw [← hA2] at hv3' x2
          rw [← hS1] at hs1 x3
          rw [← hS2] at hs2 x4
          have y1 := mul_bd13 x1.1 (by omega) x3.1 (by omega)
          have y2 := mul_bd13 x2.1 (by omega) x4.1 (by omega)
          obtain ⟨C1, hC1⟩ : ∃ z, z = A1 * S1 := ⟨_, rfl⟩
          obtain ⟨C2, hC2⟩ : ∃ z, z = A2 * S2 := ⟨_, rfl⟩
          rw [← hC1, ← hC2] at HE
          rw [← hC1] at y1
          rw [← hC2] at y2
          have m1 : IntKind.i64.wrap (A1 * S1) = C1 := by rw [← hC1]; exact IntWalk.i64_in _ (by omega)
          have m2 : IntKind.i64.wrap (A2 * S2) = C2 := by rw [← hC2]; exact IntWalk.i64_in _ (by omega)
          have m3 : IntKind.i64.wrap (C1 + C2) = C1 + C2 := IntWalk.i64_in _ (by omega)
          obtain ⟨R, hR⟩ : ∃ z, z = (C1 + C2) % pS := ⟨_, rfl⟩
          have r0 : 0 ≤ R ∧ R < pS := by rw [hR]; exact ⟨Int.emod_nonneg _ (by omega), Int.emod_lt_of_pos _ (by omega)⟩
          have m4 : (C1 + C2).tmod pS = R := by rw [hR]; exact Int.tmod_eq_emod_of_nonneg (by omega)
          have m5 : IntKind.i64.wrap R = R := IntWalk.i64_in _ (by omega)
          have m6 : ¬ pS = 0 := by omega
          have m7 : (pS == 0) = false := by simpa using m6
          have hi2 : (i : Int) < (n : Int) := hi1
          have hs9 : Hid (wr.drew.cell? ⟨w.heap.size, 0, none⟩ = some (.int .i64 pS) ∧ wr.drew.cell? ⟨w.heap.size, 1, none⟩ = some (.slice (some ⟨b5, o5, none⟩) n cS) ∧ wr.drew.cell? ⟨b1, o1 + k, none⟩ = some (.slice (some ⟨b2, o2, none⟩) n c1) ∧ wr.drew.cell? ⟨b2, o2 + i, none⟩ = some (.int .i64 A1) ∧ wr.drew.cell? ⟨b1, o1 + i, none⟩ = some (.slice (some ⟨b4, o4, none⟩) n c3) ∧ wr.drew.cell? ⟨b4, o4 + k, none⟩ = some (.int .i64 A2) ∧ wr.drew.cell? ⟨b5, o5 + k, none⟩ = some (.int .i64 S1) ∧ wr.drew.cell? ⟨b5, o5 + i, none⟩ = some (.int .i64 S2)) := ⟨z0, z1, hr1, hv1', hr3, hv3', hs1, hs2⟩
          have HRE : Hid ((at' m k i * S.getD k 0 + at' m i k * S.getD i 0) % pS = R) := by show _ = _; rw [HE.out, hR]
          clear hA1 hA2 hS1 hS2 hC1 hC2 hR hrow1 hrow3 hv1 hv3 hb1 hq2 hin hv1' hv3' z0 z1 hr1 hr3 hs1 hs2
          by_cases hR0 : R = 0
          · have m8 : (R != 0) = false := by simp [hR0]
            have HR0 := Lib.hid hR0
            clear hR0
            go_wp2
            go_region_held3 (fun w' => w'.cell? ⟨w.heap.size, 0, none⟩ = some (.int .i64 pS) ∧ w'.cell? ⟨w.heap.size, 1, none⟩ = some (.slice (some ⟨b5, o5, none⟩) n cS) ∧ w'.cell? ⟨b1, o1 + k, none⟩ = some (.slice (some ⟨b2, o2, none⟩) n c1) ∧ w'.cell? ⟨b2, o2 + i, none⟩ = some (.int .i64 A1) ∧ w'.cell? ⟨b1, o1 + i, none⟩ = some (.slice (some ⟨b4, o4, none⟩) n c3) ∧ w'.cell? ⟨b4, o4 + k, none⟩ = some (.int .i64 A2) ∧ w'.cell? ⟨b5, o5 + k, none⟩ = some (.int .i64 S1) ∧ w'.cell? ⟨b5, o5 + i, none⟩ = some (.int .i64 S2)) (first | exact hs9.out | go_keep) (fail)
            go_wp2
            go_roundw
            case rel => exact ⟨k + 1, by omega, by go_num, fun b hb => by
              by_cases e : b = k
              · subst e; rw [HRE.out]; exact HR0.out
              · exact HIN.out b (by omega), HQ2.out.trans ⟨1, rfl⟩⟩
            case measure => simp [intOf]; omega
          · have m8 : (R != 0) = true := by simpa using hR0
            have HNO : Hid (skB pS S m = false) := sk_no (i := i) (k := k) (by omega) (by omega) (by rw [HRE.out]; exact hR0)
            clear hR0
            go_wp2
            go_region_held3 (fun w' => w'.cell? ⟨w.heap.size, 0, none⟩ = some (.int .i64 pS) ∧ w'.cell? ⟨w.heap.size, 1, none⟩ = some (.slice (some ⟨b5, o5, none⟩) n cS) ∧ w'.cell? ⟨b1, o1 + k, none⟩ = some (.slice (some ⟨b2, o2, none⟩) n c1) ∧ w'.cell? ⟨b2, o2 + i, none⟩ = some (.int .i64 A1) ∧ w'.cell? ⟨b1, o1 + i, none⟩ = some (.slice (some ⟨b4, o4, none⟩) n c3) ∧ w'.cell? ⟨b4, o4 + k, none⟩ = some (.int .i64 A2) ∧ w'.cell? ⟨b5, o5 + k, none⟩ = some (.int .i64 S1) ∧ w'.cell? ⟨b5, o5 + i, none⟩ = some (.int .i64 S2)) (first | exact hs9.out | go_keep) (fail)
            go_wp2
            go_ret
            exact ⟨by rw [HNO.out]; rfl, HB0.out.trans (((HQ2.out.trans ⟨1, rfl⟩).below w1.heap.size).mono HB0.out.size)⟩
        · have hkn : k = n := by omega
          subst hkn
          clear hin hq2
          have hk9 : ¬ (k : Int) < (k : Int) := Int.lt_irrefl _
          go_wp2
          go_roundw
          case rel => exact ⟨i + 1, by omega, by go_num, fun a ha b hb => by
            by_cases e : a = i
            · subst e; exact HIN.out b hb
            · exact HALL.out a (by omega) b hb, HQ2.out⟩
          case measure => simp [intOf]; omega
    · have hin : i = n := by omega
      subst hin
      have hi9 : ¬ (i : Int) < (i : Int) := Int.lt_irrefl _
      have HY : Hid (skB pS S m = true) := skB_iff.2 fun a b ha hb => HALL.out a (by omega) b (by omega)
      go_wp2
      go_ret
      exact ⟨by rw [HY.out]; rfl, HB0.out.trans ((HQ.out.below w1.heap.size).mono HB0.out.size)⟩

end Go.Proofs.YtkibkkdeaojjoabGreat
