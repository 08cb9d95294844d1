/-
  Skew matrices (program): contracts of the program and of the model.
  Conditions: the lists are nil or rows of known cells, of at most 1048576 numbers.
-/
import Derived.Test.YtkibkkdeaojjoabGreatQg52
namespace Go.Proofs.YtkibkkdeaojjoabGreat
open Go.RowKit
set_option linter.unusedVariables false

theorem bivectorOf_m (pS : Int) (aS : Option Addr) (S : List Int) (n cS loS tpS : Nat) (am : Option Addr) (m : List (List Int)) (cm lom tpm : Nat) (w : World) (hS : RowIn loS tpS w aS S) (tS : tpS ≤ w.heap.size) (hm : MatIn lom tpm w am m) (tm : tpm ≤ w.heap.size) (hg : Good pS S m) (hn : n = S.length) :
    Calls Tryz.prog 66 #[.agg #[.int .i64 pS, .slice aS S.length cS], .slice am n cm] w (BvO pS aS S cS m w) := by
  subst hn; exact bivectorOf_any pS aS S cS loS tpS am m cm lom tpm w hS tS hm tm hg
def SkY (p : Int) (aS : Option Addr) (S : List Int) (cS : Nat) (m : List (List Int)) (w : World) (e : Ending) (w' : World) : Prop := ∃ c, e = .returned (.tuple #[.agg #[.int .i64 p, .slice aS S.length cS, .slice (some ⟨c, 0, none⟩) (bl S) (bl S)], .int .i64 0]) ∧ OwnR w.heap.size w'.heap.size w' (some ⟨c, 0, none⟩) (bbR p S m) ∧ Below w.heap.size w w'
theorem OwnR.blk {lo hi c o r : Nat} {w : World} {z : List Int} (h : OwnR lo hi w (some ⟨c, o, none⟩) z) (hz : 0 < z.length) (hr : r < lo) : c ≠ r := by
  rcases h with h | ⟨g, q, ha, h0, _, _⟩
  · rw [h] at hz; cases hz
  · injection ha with ha; injection ha with ha1 ha2; omega

set_option maxRecDepth 100000 in
set_option maxHeartbeats 6400000 in
theorem checkSkew_y (pS : Int) (aS : Option Addr) (S : List Int) (cS loS tpS : Nat) (am : Option Addr) (m : List (List Int)) (cm lom tpm : Nat) (w : World) (hS : RowIn loS tpS w aS S) (tS : tpS ≤ w.heap.size) (sS : S.length ≤ 1048576) (hm : MatIn lom tpm w am m) (tm : tpm ≤ w.heap.size) (sm' : m.length + tot m m.length ≤ 1048576) (hc : skC pS S m = 0) :
    Calls Tryz.prog 37 #[.agg #[.int .i64 pS, .slice aS S.length cS], .slice am m.length cm] w (SkY pS aS S cS m w) := by
  rcases skC_cases pS S m with ⟨hh, h2⟩ | ⟨_, _, h2⟩ | ⟨hsh, hsk, _⟩
  · rw [h2] at hc; exact absurd hc hh
  · rw [h2] at hc; cases hc
  · have HC := Lib.hid hsh
    have HG := Lib.hid (shC_zero hsh)
    have HSB := Lib.hid hsk
    have hb0 := bl_pos S
    clear hc hsh hsk
    have HS := Lib.hid hS
    have Hm := Lib.hid hm
    have HSM := Lib.hid sm'
    have k0 := nw0 w (.int .i64 pS) (.slice aS S.length cS) 29
    have k1 := nw1 w (.int .i64 pS) (.slice aS S.length cS) 29
    have HB0 := Lib.hid (below_alloc w (.cells #[.int .i64 pS, .slice aS S.length cS] 29))
    clear hS hm sm'
    go_enter Tryz.func37, Tryz.ntmps37
    go_upto_region 1 with fail
    obtain ⟨w0, hw0'⟩ : ∃ z, z = w.alloc (.cells #[.int .i64 pS, .slice aS S.length cS] 29) := ⟨_, rfl⟩
    rw [← hw0'] at HB0 k0 k1 ⊢
    have hw0 : w.heap.size < w0.heap.size := by rw [hw0']; simp
    have hwz : w.heap.size + 1 = w0.heap.size := by rw [hw0']; simp
    try rw [hwz]
    clear hw0'
    obtain ⟨w1, hw1⟩ : ∃ z, z = w0.alloc (.cells #[.int .i64 0, .slice none 0 0, .slice none 0 0] 51) := ⟨_, rfl⟩
    obtain ⟨r, hr⟩ : ∃ b, b = w0.heap.size := ⟨_, rfl⟩
    have hs0 : w1.cell? ⟨w.heap.size, 0, none⟩ = some (.int .i64 pS) ∧ w1.cell? ⟨w.heap.size, 1, none⟩ = some (.slice aS S.length cS) := by rw [hw1]; exact ss2 (below_alloc w0 _) hw0 ⟨k0, k1⟩
    have hzz : W3 r (.int .i64 0) (.slice none 0 0) (.slice none 0 0) w1 := by rw [hw1, hr]; exact W3.new _ _ _ _ _
    have HB1 : Hid (Below w.heap.size w w1) := by show Below _ _ _; rw [hw1]; exact HB0.out.alloc HB0.out.size _
    have hr1 : r < w1.heap.size := by rw [hw1, hr]; simp
    have hwr : w.heap.size < r := by omega
    have hd1 : w.heap.size < w1.heap.size := Nat.lt_trans hwr hr1
    rw [← hw1]
    rw [← hr]
    clear hw1 hwz hr k0 k1
    have k0 := hs0.1
    have k1 := hs0.2
    have K1 := Lib.hid hs0
    have ZZ := Lib.hid hzz
    clear hs0 hzz
    go_upto_region 5 with (first | (go_at_call 65; ((with_reducible refine (checkSpaceMatrix_any pS aS S cS loS tpS am m cm lom tpm w1 (HS.out.below HB1.out tS) (Nat.le_trans tS HB1.out.size) sS (Hm.out.below HB1.out tm) (Nat.le_trans tm HB1.out.size) HSM.out).mono ?_); rintro e w2 ⟨rfl, b_⟩; rw [HC.out]; have K2 := Lib.hid (ss2 b_ hd1 K1.out); have ZZ2 := Lib.hid (ZZ.out.below b_ hr1); have HB2 := Lib.hid (below_step HB1.out HB1.out.size b_); have z2_ := b_.size; have hd2 := Nat.lt_of_lt_of_le hd1 z2_; have hr2 := Nat.lt_of_lt_of_le hr1 z2_; clear b_ k0 k1; obtain ⟨k0, k1⟩ := K2.out)) | (go_at_call 66; ((with_reducible refine (bivectorOf_m pS aS S m.length cS loS tpS am m cm lom tpm w2 (HS.out.below HB2.out tS) (Nat.le_trans tS HB2.out.size) (Hm.out.below HB2.out tm) (Nat.le_trans tm HB2.out.size) HG.out HG.out.len).mono ?_); rintro e w3 ⟨c, rfl, o_, b_⟩; rw [HSB.out]; have OC3 := Lib.hid o_; have ZZ3 := Lib.hid (ZZ2.out.below b_ hr2); have HB3 := Lib.hid (below_step HB2.out HB2.out.size b_); have z3_ := b_.size; have hr3 := Nat.lt_of_lt_of_le hr2 z3_; clear b_ o_ k0 k1)))
    obtain ⟨w4, hw4⟩ : ∃ z, z = w3.alloc (.cells #[.int .i64 pS, .slice aS S.length cS, .slice (some ⟨c, 0, none⟩) (bl S) (bl S)] 51) := ⟨_, rfl⟩
    obtain ⟨d, hd⟩ : ∃ b, b = w3.heap.size := ⟨_, rfl⟩
    have D4 : Hid (W3 d (.int .i64 pS) (.slice aS S.length cS) (.slice (some ⟨c, 0, none⟩) (bl S) (bl S)) w4) := by show W3 _ _ _ _ w4; rw [hw4, hd]; exact W3.new _ _ _ _ _
    have B4 : Below w3.heap.size w3 w4 := by rw [hw4]; exact below_alloc w3 _
    have HB4 := Lib.hid (below_step HB3.out HB3.out.size B4)
    have ZZ4 := Lib.hid (ZZ3.out.below B4 hr3)
    have OC4 := Lib.hid ((OwnR.below' OC3.out B4 (Nat.le_refl _)).mono' (Nat.le_of_lt hd2) B4.size)
    rw [← hw4]
    try rw [← hd]
    clear hw4 hd B4
    obtain ⟨⟨d0, d1, d2⟩, _, _, _⟩ := D4.out
    obtain ⟨⟨r0_, r1_, r2_⟩, r3_, r4_, r5_⟩ := ZZ4.out
    go_wp2
    refine bodyPost_ret (v := .tuple #[.agg #[.int .i64 pS, .slice aS S.length cS, .slice (some ⟨c, 0, none⟩) (bl S) (bl S)], .int .i64 0]) (by simp [results, Tryz.results37, go_sem, r0_, r1_, r2_]) rfl ⟨c, rfl, ?_, ?_⟩
    · exact OwnR.far3 OC4.out (OwnR.blk OC3.out (by rw [bbR_len]; exact hb0) hr2) rfl
    · exact below_wput3 HB4.out (Nat.le_of_lt hwr)
set_option maxRecDepth 100000 in
set_option maxHeartbeats 6400000 in
theorem checkSkew_n (pS : Int) (aS : Option Addr) (S : List Int) (cS loS tpS : Nat) (am : Option Addr) (m : List (List Int)) (cm lom tpm : Nat) (w : World) (hS : RowIn loS tpS w aS S) (tS : tpS ≤ w.heap.size) (sS : S.length ≤ 1048576) (hm : MatIn lom tpm w am m) (tm : tpm ≤ w.heap.size) (sm' : m.length + tot m m.length ≤ 1048576) (hc : skC pS S m ≠ 0) :
    Calls Tryz.prog 37 #[.agg #[.int .i64 pS, .slice aS S.length cS], .slice am m.length cm] w (BvN (skC pS S m) w) := by
  rcases skC_cases pS S m with ⟨hh, h2⟩ | ⟨hsh, hsk, h2⟩ | ⟨_, _, h2⟩
  · rw [h2]
    clear h2 hc
    obtain ⟨C, hC⟩ : ∃ c, c = shC pS S m := ⟨_, rfl⟩
    have hc1 : (C != 0) = true := by rw [hC]; simpa using hh
    have HCE := Lib.hid hC
    rw [← hC]
    clear hh hC
    have HS := Lib.hid hS
    have Hm := Lib.hid hm
    have HSM := Lib.hid sm'
    have k0 := nw0 w (.int .i64 pS) (.slice aS S.length cS) 29
    have k1 := nw1 w (.int .i64 pS) (.slice aS S.length cS) 29
    have HB0 := Lib.hid (below_alloc w (.cells #[.int .i64 pS, .slice aS S.length cS] 29))
    clear hS hm sm'
    go_enter Tryz.func37, Tryz.ntmps37
    go_upto_region 1 with fail
    obtain ⟨w0, hw0'⟩ : ∃ z, z = w.alloc (.cells #[.int .i64 pS, .slice aS S.length cS] 29) := ⟨_, rfl⟩
    rw [← hw0'] at HB0 k0 k1 ⊢
    have hw0 : w.heap.size < w0.heap.size := by rw [hw0']; simp
    have hwz : w.heap.size + 1 = w0.heap.size := by rw [hw0']; simp
    try rw [hwz]
    clear hw0'
    obtain ⟨w1, hw1⟩ : ∃ z, z = w0.alloc (.cells #[.int .i64 0, .slice none 0 0, .slice none 0 0] 51) := ⟨_, rfl⟩
    obtain ⟨r, hr⟩ : ∃ b, b = w0.heap.size := ⟨_, rfl⟩
    have hs0 : w1.cell? ⟨w.heap.size, 0, none⟩ = some (.int .i64 pS) ∧ w1.cell? ⟨w.heap.size, 1, none⟩ = some (.slice aS S.length cS) := by rw [hw1]; exact ss2 (below_alloc w0 _) hw0 ⟨k0, k1⟩
    have hzz : W3 r (.int .i64 0) (.slice none 0 0) (.slice none 0 0) w1 := by rw [hw1, hr]; exact W3.new _ _ _ _ _
    have HB1 : Hid (Below w.heap.size w w1) := by show Below _ _ _; rw [hw1]; exact HB0.out.alloc HB0.out.size _
    have hr1 : r < w1.heap.size := by rw [hw1, hr]; simp
    have hwr : w.heap.size < r := by omega
    have hd1 : w.heap.size < w1.heap.size := Nat.lt_trans hwr hr1
    rw [← hw1]
    rw [← hr]
    clear hw1 hwz hr k0 k1
    have k0 := hs0.1
    have k1 := hs0.2
    have K1 := Lib.hid hs0
    have ZZ := Lib.hid hzz
    clear hs0 hzz
    go_upto_region 2 with (go_at_call 65; ((with_reducible refine (checkSpaceMatrix_any pS aS S cS loS tpS am m cm lom tpm w1 (HS.out.below HB1.out tS) (Nat.le_trans tS HB1.out.size) sS (Hm.out.below HB1.out tm) (Nat.le_trans tm HB1.out.size) HSM.out).mono ?_); rintro e w2 ⟨rfl, b_⟩; rw [← HCE.out]; have K2 := Lib.hid (ss2 b_ hd1 K1.out); have ZZ2 := Lib.hid (ZZ.out.below b_ hr1); have HB2 := Lib.hid (below_step HB1.out HB1.out.size b_); have z2_ := b_.size; clear b_ k0 k1; obtain ⟨k0, k1⟩ := K2.out))
    obtain ⟨⟨r0_, r1_, r2_⟩, r3_, r4_, r5_⟩ := ZZ2.out
    go_wp2
    refine bodyPost_ret (v := .tuple #[.agg #[.int .i64 0, .slice none 0 0, .slice none 0 0], .int .i64 C]) (by simp [results, Tryz.results37, go_sem, r0_, r1_, r2_]) rfl ⟨rfl, ?_⟩
    exact below_wput3 HB2.out (Nat.le_of_lt hwr)
  · rw [h2]
    have HC := Lib.hid hsh
    have HG := Lib.hid (shC_zero hsh)
    have HSB := Lib.hid hsk
    clear hc hsh hsk h2
    have HS := Lib.hid hS
    have Hm := Lib.hid hm
    have HSM := Lib.hid sm'
    have k0 := nw0 w (.int .i64 pS) (.slice aS S.length cS) 29
    have k1 := nw1 w (.int .i64 pS) (.slice aS S.length cS) 29
    have HB0 := Lib.hid (below_alloc w (.cells #[.int .i64 pS, .slice aS S.length cS] 29))
    clear hS hm sm'
    go_enter Tryz.func37, Tryz.ntmps37
    go_upto_region 1 with fail
    obtain ⟨w0, hw0'⟩ : ∃ z, z = w.alloc (.cells #[.int .i64 pS, .slice aS S.length cS] 29) := ⟨_, rfl⟩
    rw [← hw0'] at HB0 k0 k1 ⊢
    have hw0 : w.heap.size < w0.heap.size := by rw [hw0']; simp
    have hwz : w.heap.size + 1 = w0.heap.size := by rw [hw0']; simp
    try rw [hwz]
    clear hw0'
    obtain ⟨w1, hw1⟩ : ∃ z, z = w0.alloc (.cells #[.int .i64 0, .slice none 0 0, .slice none 0 0] 51) := ⟨_, rfl⟩
    obtain ⟨r, hr⟩ : ∃ b, b = w0.heap.size := ⟨_, rfl⟩
    have hs0 : w1.cell? ⟨w.heap.size, 0, none⟩ = some (.int .i64 pS) ∧ w1.cell? ⟨w.heap.size, 1, none⟩ = some (.slice aS S.length cS) := by rw [hw1]; exact ss2 (below_alloc w0 _) hw0 ⟨k0, k1⟩
    have hzz : W3 r (.int .i64 0) (.slice none 0 0) (.slice none 0 0) w1 := by rw [hw1, hr]; exact W3.new _ _ _ _ _
    have HB1 : Hid (Below w.heap.size w w1) := by show Below _ _ _; rw [hw1]; exact HB0.out.alloc HB0.out.size _
    have hr1 : r < w1.heap.size := by rw [hw1, hr]; simp
    have hwr : w.heap.size < r := by omega
    have hd1 : w.heap.size < w1.heap.size := Nat.lt_trans hwr hr1
    rw [← hw1]
    rw [← hr]
    clear hw1 hwz hr k0 k1
    have k0 := hs0.1
    have k1 := hs0.2
    have K1 := Lib.hid hs0
    have ZZ := Lib.hid hzz
    clear hs0 hzz
    go_upto_region 5 with (first | (go_at_call 65; ((with_reducible refine (checkSpaceMatrix_any pS aS S cS loS tpS am m cm lom tpm w1 (HS.out.below HB1.out tS) (Nat.le_trans tS HB1.out.size) sS (Hm.out.below HB1.out tm) (Nat.le_trans tm HB1.out.size) HSM.out).mono ?_); rintro e w2 ⟨rfl, b_⟩; rw [HC.out]; have K2 := Lib.hid (ss2 b_ hd1 K1.out); have ZZ2 := Lib.hid (ZZ.out.below b_ hr1); have HB2 := Lib.hid (below_step HB1.out HB1.out.size b_); have z2_ := b_.size; have hd2 := Nat.lt_of_lt_of_le hd1 z2_; have hr2 := Nat.lt_of_lt_of_le hr1 z2_; clear b_ k0 k1; obtain ⟨k0, k1⟩ := K2.out)) | (go_at_call 66; ((with_reducible refine (bivectorOf_m pS aS S m.length cS loS tpS am m cm lom tpm w2 (HS.out.below HB2.out tS) (Nat.le_trans tS HB2.out.size) (Hm.out.below HB2.out tm) (Nat.le_trans tm HB2.out.size) HG.out HG.out.len).mono ?_); rintro e w3 ⟨c, rfl, o_, b_⟩; rw [HSB.out]; have OC3 := Lib.hid o_; have ZZ3 := Lib.hid (ZZ2.out.below b_ hr2); have HB3 := Lib.hid (below_step HB2.out HB2.out.size b_); have z3_ := b_.size; have hr3 := Nat.lt_of_lt_of_le hr2 z3_; clear b_ o_ k0 k1)))
    obtain ⟨w4, hw4⟩ : ∃ z, z = w3.alloc (.cells #[.int .i64 pS, .slice aS S.length cS, .slice (some ⟨c, 0, none⟩) (bl S) (bl S)] 51) := ⟨_, rfl⟩
    obtain ⟨d, hd⟩ : ∃ b, b = w3.heap.size := ⟨_, rfl⟩
    have D4 : Hid (W3 d (.int .i64 pS) (.slice aS S.length cS) (.slice (some ⟨c, 0, none⟩) (bl S) (bl S)) w4) := by show W3 _ _ _ _ w4; rw [hw4, hd]; exact W3.new _ _ _ _ _
    have B4 : Below w3.heap.size w3 w4 := by rw [hw4]; exact below_alloc w3 _
    have HB4 := Lib.hid (below_step HB3.out HB3.out.size B4)
    have ZZ4 := Lib.hid (ZZ3.out.below B4 hr3)
    have OC4 := Lib.hid ((OwnR.below' OC3.out B4 (Nat.le_refl _)).mono' (Nat.le_of_lt hd2) B4.size)
    rw [← hw4]
    try rw [← hd]
    clear hw4 hd B4
    obtain ⟨⟨d0, d1, d2⟩, _, _, _⟩ := D4.out
    obtain ⟨⟨r0_, r1_, r2_⟩, r3_, r4_, r5_⟩ := ZZ4.out
    go_wp2
    refine bodyPost_ret (v := .tuple #[.agg #[.int .i64 0, .slice none 0 0, .slice none 0 0], .int .i64 5]) (by simp [results, Tryz.results37, go_sem, r0_, r1_, r2_]) rfl ⟨rfl, ?_⟩
    exact below_wput3 HB4.out (Nat.le_of_lt hwr)
  · exact absurd h2 hc

end Go.Proofs.YtkibkkdeaojjoabGreat
