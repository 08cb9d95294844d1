/-
  CayleyOf: contracts of the program and of the model.
  Conditions: the lists are nil or rows of known cells, of at most 1048576 numbers.
-/
import Derived.Test.YtkibkkdeaojjoabGreatQg48
import Derived.Test.YtkibkkdeaojjoabGreatQg53
import Derived.Test.YtkibkkdeaojjoabGreatQg45
namespace Go.Proofs.YtkibkkdeaojjoabGreat
open Go.RowKit
set_option linter.unusedVariables false

noncomputable def cofC (p : Int) (S : List Int) (m : List (List Int)) : Int := if skC p S m = 0 then cyC p m else skC p S m
noncomputable def cofV (p : Int) (S : List Int) (m : List (List Int)) : List (List Int) := if skC p S m = 0 then cyV p m else []
theorem skC_good {p : Int} {S : List Int} {m : List (List Int)} (h : skC p S m = 0) : shC p S m = 0 ∧ skB p S m = true := by
  rcases skC_cases p S m with ⟨h1, h2⟩ | ⟨_, _, h2⟩ | ⟨h1, h2, _⟩
  · rw [h2] at h; exact absurd h h1
  · rw [h2] at h; cases h
  · exact ⟨h1, h2⟩
theorem cofV_size (p : Int) (S : List Int) (m : List (List Int)) : (cofV p S m).length + tot (cofV p S m) (cofV p S m).length ≤ 1048576 := by
  unfold cofV
  split
  · rename_i h
    exact cyV_size (shC_zero (skC_good h).1).lst.hi
  · simp [tot]

set_option maxRecDepth 100000 in
set_option maxHeartbeats 6400000 in
theorem impl_CayleyOf (pS : Int) (aS : Option Addr) (S : List Int) (cS loS tpS : Nat) (am : Option Addr) (m : List (List Int)) (cm lom tpm : Nat) (w : World) (hS : RowIn loS tpS w aS S) (tS : tpS ≤ w.heap.size) (sS : S.length ≤ 1048576) (hm : MatIn lom tpm w am m) (tm : tpm ≤ w.heap.size) (sm' : m.length + tot m m.length ≤ 1048576) :
    Calls Tryz.prog 20 #[.agg #[.int .i64 pS, .slice aS S.length cS], .slice am m.length cm] w (ImplM (cofV pS S m) (cofC pS S m) w) := by
  have HS := Lib.hid hS
  have Hm := Lib.hid hm
  have HSM := Lib.hid sm'
  have k0 := nw0 w (.int .i64 pS) (.slice aS S.length cS) 29
  have k1 := nw1 w (.int .i64 pS) (.slice aS S.length cS) 29
  have HB0 := Lib.hid (below_alloc w (.cells #[.int .i64 pS, .slice aS S.length cS] 29))
  clear hS hm sm'
  by_cases h0 : skC pS S m = 0
  · have HC := Lib.hid h0
    have HG := Lib.hid (shC_zero (skC_good h0).1)
    have HV : Hid (cofV pS S m = cyV pS m ∧ cofC pS S m = cyC pS m) := ⟨if_pos h0, if_pos h0⟩
    clear h0
    go_enter Tryz.func20, Tryz.ntmps20
    go_upto_region 1 with fail
    obtain ⟨w1, hw1⟩ : ∃ z, z = w.alloc (.cells #[.int .i64 pS, .slice aS S.length cS] 29) := ⟨_, rfl⟩
    rw [← hw1] at HB0 k0 k1 ⊢
    have hd1 : w.heap.size < w1.heap.size := by rw [hw1]; simp
    have HB1 := HB0
    clear hw1
    have SS1 := Lib.hid (And.intro k0 k1)
    go_upto_region 2 with (go_at_call 37; ((with_reducible refine (checkSkew_y pS aS S cS loS tpS am m cm lom tpm w1 (HS.out.below HB1.out tS) (Nat.le_trans tS HB1.out.size) sS (Hm.out.below HB1.out tm) (Nat.le_trans tm HB1.out.size) HSM.out HC.out).mono ?_); rintro e w2 ⟨c8, rfl, o_, b_⟩; have SS2 := Lib.hid (ss2 b_ hd1 SS1.out); have HB2 := Lib.hid (below_step HB1.out HB1.out.size b_); have hd2 := Nat.lt_of_lt_of_le hd1 b_.size; clear o_; clear k0 k1; obtain ⟨k0, k1⟩ := SS2.out; clear b_))
    obtain ⟨w3, hwn⟩ : ∃ z, z = w2.alloc (.cells #[.int .i64 pS, .slice aS S.length cS, .slice (some ⟨c8, 0, none⟩) (bl S) (bl S)] 51) := ⟨_, rfl⟩
    obtain ⟨g, hg⟩ : ∃ b, b = w2.heap.size := ⟨_, rfl⟩
    have GN : Hid (w3.cell? ⟨g, 0, none⟩ = some (.int .i64 pS) ∧ w3.cell? ⟨g, 1, none⟩ = some (.slice aS S.length cS) ∧ w3.cell? ⟨g, 2, none⟩ = some (.slice (some ⟨c8, 0, none⟩) (bl S) (bl S))) := by show _ ∧ _ ∧ _; rw [hwn, hg]; exact ⟨by simp [go_sem], by simp [go_sem], by simp [go_sem]⟩
    have bn_ : Below w2.heap.size w2 w3 := by rw [hwn]; exact below_alloc _ _
    have gg3 : g < w3.heap.size := by rw [hwn, hg]; simp
    have lg : w.heap.size < g := by rw [hg]; exact hd2
    have SS3 := Lib.hid (ss2 bn_ hd2 SS2.out)
    have HB3 := Lib.hid (below_step HB2.out HB2.out.size bn_)
    have hd3 := Nat.lt_of_lt_of_le hd2 bn_.size
    rw [← hwn, ← hg]
    clear hwn hg bn_ k0 k1
    obtain ⟨k0, k1⟩ := SS3.out
    obtain ⟨g0, g1, g2⟩ := GN.out
    go_wp2_with (go_at_call 38; ((with_reducible refine (cayley_any pS am m cm lom tpm w3 (Hm.out.below HB3.out tm) (Nat.le_trans tm HB3.out.size) HG.out.lst HG.out.sqr).mono ?_); rintro e w4 ⟨r9, c9, rfl, o_, b_⟩; have SS4 := Lib.hid (ss2 b_ hd3 SS3.out); have HB4 := Lib.hid (below_step HB3.out HB3.out.size b_); have hd4 := Nat.lt_of_lt_of_le hd3 b_.size; have OO := Lib.hid (o_.mono (Nat.le_of_lt hd3) (Nat.le_refl _)); clear o_; clear k0 k1; obtain ⟨k0, k1⟩ := SS4.out; clear b_))
    go_ret2
    rw [HV.out.1, HV.out.2]
    exact ⟨r9, c9, rfl, OO.out, HB4.out⟩
  · have HC := Lib.hid h0
    have HV : Hid (cofV pS S m = [] ∧ cofC pS S m = skC pS S m) := ⟨if_neg h0, if_neg h0⟩
    obtain ⟨C, hC⟩ : ∃ c, c = skC pS S m := ⟨_, rfl⟩
    have hc1 : (C != 0) = true := by rw [hC]; simpa using h0
    have hc2 : (C == 0) = false := by rw [hC]; simpa using h0
    have HCE := Lib.hid hC
    clear hC
    clear h0
    go_enter Tryz.func20, Tryz.ntmps20
    go_upto_region 1 with fail
    obtain ⟨w1, hw1⟩ : ∃ z, z = w.alloc (.cells #[.int .i64 pS, .slice aS S.length cS] 29) := ⟨_, rfl⟩
    rw [← hw1] at HB0 k0 k1 ⊢
    have hd1 : w.heap.size < w1.heap.size := by rw [hw1]; simp
    have HB1 := HB0
    clear hw1
    have SS1 := Lib.hid (And.intro k0 k1)
    go_wp2_with (go_at_call 37; ((with_reducible refine (checkSkew_n pS aS S cS loS tpS am m cm lom tpm w1 (HS.out.below HB1.out tS) (Nat.le_trans tS HB1.out.size) sS (Hm.out.below HB1.out tm) (Nat.le_trans tm HB1.out.size) HSM.out HC.out).mono ?_); rintro e w2 ⟨rfl, b_⟩; rw [← HCE.out]; have SS2 := Lib.hid (ss2 b_ hd1 SS1.out); have HB2 := Lib.hid (below_step HB1.out HB1.out.size b_); have hd2 := Nat.lt_of_lt_of_le hd1 b_.size; clear k0 k1; obtain ⟨k0, k1⟩ := SS2.out; clear b_))
    go_ret2
    rw [HV.out.1, HV.out.2, ← HCE.out]
    exact ⟨none, 0, rfl, .inl rfl, HB2.out.alloc HB2.out.size _⟩

set_option maxRecDepth 100000 in
set_option maxHeartbeats 6400000 in
theorem spec_CayleyOf (pS : Int) (aS : Option Addr) (S : List Int) (cS loS tpS : Nat) (am : Option Addr) (m : List (List Int)) (cm lom tpm : Nat) (w : World) (hS : RowIn loS tpS w aS S) (tS : tpS ≤ w.heap.size) (sS : S.length ≤ 1048576) (hm : MatIn lom tpm w am m) (tm : tpm ≤ w.heap.size) (sm' : m.length + tot m m.length ≤ 1048576) :
    Calls Tryz.prog 18 #[.agg #[.int .i64 pS, .slice aS S.length cS], .slice am m.length cm] w (SpecM (cofV pS S m) (cofC pS S m) w) := by
  have HS := Lib.hid hS
  have Hm := Lib.hid hm
  have HSM := Lib.hid sm'
  have k0 := nw0 w (.int .i64 pS) (.slice aS S.length cS) 29
  have k1 := nw1 w (.int .i64 pS) (.slice aS S.length cS) 29
  have HB0 := Lib.hid (below_alloc w (.cells #[.int .i64 pS, .slice aS S.length cS] 29))
  clear hS hm sm'
  rcases skC_cases pS S m with ⟨hh, h2⟩ | ⟨hsh, hsk, h2⟩ | ⟨hsh, hsk, h2⟩
  · have HV : Hid (cofV pS S m = [] ∧ cofC pS S m = shC pS S m) := ⟨if_neg (by rw [h2]; exact hh), by unfold cofC; rw [if_neg (by rw [h2]; exact hh)]; exact h2⟩
    obtain ⟨C, hC⟩ : ∃ c, c = shC pS S m := ⟨_, rfl⟩
    have hc1 : (C != 0) = true := by rw [hC]; simpa using hh
    have hc2 : (C == 0) = false := by rw [hC]; simpa using hh
    have HCE := Lib.hid hC
    clear hC
    clear hh h2
    go_enter Tryz.func18, Tryz.ntmps18
    go_upto_region 1 with fail
    obtain ⟨w1, hw1⟩ : ∃ z, z = w.alloc (.cells #[.int .i64 pS, .slice aS S.length cS] 29) := ⟨_, rfl⟩
    rw [← hw1] at HB0 k0 k1 ⊢
    have hd1 : w.heap.size < w1.heap.size := by rw [hw1]; simp
    have HB1 := HB0
    clear hw1
    have SS1 := Lib.hid (And.intro k0 k1)
    go_wp2_with (go_at_call 34; ((with_reducible refine (l10Shape_any pS aS S cS loS tpS am m cm lom tpm w1 (HS.out.below HB1.out tS) (Nat.le_trans tS HB1.out.size) sS (Hm.out.below HB1.out tm) (Nat.le_trans tm HB1.out.size) HSM.out).mono ?_); rintro e w2 ⟨rfl, b_⟩; rw [← HCE.out]; have SS2 := Lib.hid (ss2 b_ hd1 SS1.out); have HB2 := Lib.hid (below_step HB1.out HB1.out.size b_); have hd2 := Nat.lt_of_lt_of_le hd1 b_.size; clear k0 k1; obtain ⟨k0, k1⟩ := SS2.out; clear b_))
    go_ret2
    rw [HV.out.1, HV.out.2, ← HCE.out]
    exact ⟨none, 0, rfl, .inl rfl, HB2.out⟩
  · have HV : Hid (cofV pS S m = [] ∧ cofC pS S m = 5) := ⟨if_neg (by rw [h2]; decide), by unfold cofC; rw [if_neg (by rw [h2]; decide)]; exact h2⟩
    have HZ := Lib.hid hsh
    have HG := Lib.hid (shC_zero hsh)
    have HK0 := Lib.hid hsk
    clear h2 hsh hsk
    go_enter Tryz.func18, Tryz.ntmps18
    go_upto_region 1 with fail
    obtain ⟨w1, hw1⟩ : ∃ z, z = w.alloc (.cells #[.int .i64 pS, .slice aS S.length cS] 29) := ⟨_, rfl⟩
    rw [← hw1] at HB0 k0 k1 ⊢
    have hd1 : w.heap.size < w1.heap.size := by rw [hw1]; simp
    have HB1 := HB0
    clear hw1
    have SS1 := Lib.hid (And.intro k0 k1)
    go_wp2_with (first | (go_at_call 34; ((with_reducible refine (l10Shape_any pS aS S cS loS tpS am m cm lom tpm w1 (HS.out.below HB1.out tS) (Nat.le_trans tS HB1.out.size) sS (Hm.out.below HB1.out tm) (Nat.le_trans tm HB1.out.size) HSM.out).mono ?_); rintro e w2 ⟨rfl, b_⟩; rw [HZ.out]; have SS2 := Lib.hid (ss2 b_ hd1 SS1.out); have HB2 := Lib.hid (below_step HB1.out HB1.out.size b_); have hd2 := Nat.lt_of_lt_of_le hd1 b_.size; clear k0 k1; obtain ⟨k0, k1⟩ := SS2.out; clear b_)) | (go_at_call 35; ((with_reducible refine (l10Skew_any pS aS S cS loS tpS am m cm lom tpm w2 (HS.out.below HB2.out tS) (Nat.le_trans tS HB2.out.size) (Hm.out.below HB2.out tm) (Nat.le_trans tm HB2.out.size) HG.out).mono ?_); rintro e w3 ⟨rfl, b_⟩; rw [HK0.out]; have SS3 := Lib.hid (ss2 b_ hd2 SS2.out); have HB3 := Lib.hid (below_step HB2.out HB2.out.size b_); have hd3 := Nat.lt_of_lt_of_le hd2 b_.size; clear k0 k1; obtain ⟨k0, k1⟩ := SS3.out; clear b_)))
    go_ret2
    rw [HV.out.1, HV.out.2]
    exact ⟨none, 0, rfl, .inl rfl, HB3.out⟩
  · have HZ := Lib.hid hsh
    have HG := Lib.hid (shC_zero hsh)
    have HK0 := Lib.hid hsk
    rcases cyC_two HG.out.lst with ⟨_, hc⟩ | ⟨_, hc⟩
    · have HV : Hid (cofV pS S m = [] ∧ cofC pS S m = 5) := ⟨by unfold cofV; rw [if_pos h2]; exact if_neg (by rw [hc]; decide), by unfold cofC; rw [if_pos h2, hc]⟩
      have HBB : Hid ((cyC pS m == 0) = false) := by show _ = _; rw [hc]; rfl
      clear h2 hsh hsk hc
      go_enter Tryz.func18, Tryz.ntmps18
      go_upto_region 1 with fail
      obtain ⟨w1, hw1⟩ : ∃ z, z = w.alloc (.cells #[.int .i64 pS, .slice aS S.length cS] 29) := ⟨_, rfl⟩
      rw [← hw1] at HB0 k0 k1 ⊢
      have hd1 : w.heap.size < w1.heap.size := by rw [hw1]; simp
      have HB1 := HB0
      clear hw1
      have SS1 := Lib.hid (And.intro k0 k1)
      go_wp2_with (first | (go_at_call 34; ((with_reducible refine (l10Shape_any pS aS S cS loS tpS am m cm lom tpm w1 (HS.out.below HB1.out tS) (Nat.le_trans tS HB1.out.size) sS (Hm.out.below HB1.out tm) (Nat.le_trans tm HB1.out.size) HSM.out).mono ?_); rintro e w2 ⟨rfl, b_⟩; rw [HZ.out]; have SS2 := Lib.hid (ss2 b_ hd1 SS1.out); have HB2 := Lib.hid (below_step HB1.out HB1.out.size b_); have hd2 := Nat.lt_of_lt_of_le hd1 b_.size; clear k0 k1; obtain ⟨k0, k1⟩ := SS2.out; clear b_)) | (go_at_call 35; ((with_reducible refine (l10Skew_any pS aS S cS loS tpS am m cm lom tpm w2 (HS.out.below HB2.out tS) (Nat.le_trans tS HB2.out.size) (Hm.out.below HB2.out tm) (Nat.le_trans tm HB2.out.size) HG.out).mono ?_); rintro e w3 ⟨rfl, b_⟩; rw [HK0.out]; have SS3 := Lib.hid (ss2 b_ hd2 SS2.out); have HB3 := Lib.hid (below_step HB2.out HB2.out.size b_); have hd3 := Nat.lt_of_lt_of_le hd2 b_.size; clear k0 k1; obtain ⟨k0, k1⟩ := SS3.out; clear b_)) | (go_at_call 36; ((with_reducible refine (l10Cayley_any pS am m cm lom tpm w3 (Hm.out.below HB3.out tm) (Nat.le_trans tm HB3.out.size) HG.out.lst HG.out.sqr).mono ?_); rintro e w4 ⟨r9, c9, rfl, o_, b_⟩; rw [HBB.out]; have SS4 := Lib.hid (ss2 b_ hd3 SS3.out); have HB4 := Lib.hid (below_step HB3.out HB3.out.size b_); have hd4 := Nat.lt_of_lt_of_le hd3 b_.size; have OO := Lib.hid (o_.mono (Nat.le_of_lt hd3) (Nat.le_refl _)); clear o_; clear k0 k1; obtain ⟨k0, k1⟩ := SS4.out; clear b_)))
      go_ret2
      rw [HV.out.1, HV.out.2]
      exact ⟨none, 0, rfl, .inl rfl, HB4.out⟩
    · have HV : Hid (cofV pS S m = cyV pS m ∧ cofC pS S m = 0) := ⟨if_pos h2, by unfold cofC; rw [if_pos h2, hc]⟩
      have HBB : Hid ((cyC pS m == 0) = true) := by show _ = _; rw [hc]; rfl
      clear h2 hsh hsk hc
      go_enter Tryz.func18, Tryz.ntmps18
      go_upto_region 1 with fail
      obtain ⟨w1, hw1⟩ : ∃ z, z = w.alloc (.cells #[.int .i64 pS, .slice aS S.length cS] 29) := ⟨_, rfl⟩
      rw [← hw1] at HB0 k0 k1 ⊢
      have hd1 : w.heap.size < w1.heap.size := by rw [hw1]; simp
      have HB1 := HB0
      clear hw1
      have SS1 := Lib.hid (And.intro k0 k1)
      go_wp2_with (first | (go_at_call 34; ((with_reducible refine (l10Shape_any pS aS S cS loS tpS am m cm lom tpm w1 (HS.out.below HB1.out tS) (Nat.le_trans tS HB1.out.size) sS (Hm.out.below HB1.out tm) (Nat.le_trans tm HB1.out.size) HSM.out).mono ?_); rintro e w2 ⟨rfl, b_⟩; rw [HZ.out]; have SS2 := Lib.hid (ss2 b_ hd1 SS1.out); have HB2 := Lib.hid (below_step HB1.out HB1.out.size b_); have hd2 := Nat.lt_of_lt_of_le hd1 b_.size; clear k0 k1; obtain ⟨k0, k1⟩ := SS2.out; clear b_)) | (go_at_call 35; ((with_reducible refine (l10Skew_any pS aS S cS loS tpS am m cm lom tpm w2 (HS.out.below HB2.out tS) (Nat.le_trans tS HB2.out.size) (Hm.out.below HB2.out tm) (Nat.le_trans tm HB2.out.size) HG.out).mono ?_); rintro e w3 ⟨rfl, b_⟩; rw [HK0.out]; have SS3 := Lib.hid (ss2 b_ hd2 SS2.out); have HB3 := Lib.hid (below_step HB2.out HB2.out.size b_); have hd3 := Nat.lt_of_lt_of_le hd2 b_.size; clear k0 k1; obtain ⟨k0, k1⟩ := SS3.out; clear b_)) | (go_at_call 36; ((with_reducible refine (l10Cayley_any pS am m cm lom tpm w3 (Hm.out.below HB3.out tm) (Nat.le_trans tm HB3.out.size) HG.out.lst HG.out.sqr).mono ?_); rintro e w4 ⟨r9, c9, rfl, o_, b_⟩; rw [HBB.out]; have SS4 := Lib.hid (ss2 b_ hd3 SS3.out); have HB4 := Lib.hid (below_step HB3.out HB3.out.size b_); have hd4 := Nat.lt_of_lt_of_le hd3 b_.size; have OO := Lib.hid (o_.mono (Nat.le_of_lt hd3) (Nat.le_refl _)); clear o_; clear k0 k1; obtain ⟨k0, k1⟩ := SS4.out; clear b_)))
      go_ret2
      rw [HV.out.1, HV.out.2]
      exact ⟨r9, c9, rfl, OO.out, HB4.out⟩

end Go.Proofs.YtkibkkdeaojjoabGreat
