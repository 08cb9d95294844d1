/-
  Orthogonal matrices: codes: contracts of the program and of the model.
  Conditions: the lists are nil or rows of known cells, of at most 1048576 numbers.
  Orthogonal matrices (program): contracts of the program and of the model.
  Conditions: the lists are nil or rows of known cells, of at most 1048576 numbers.
  CayleyBack: values, the program: contracts of the program and of the model.
  Conditions: the lists are nil or rows of known cells, of at most 1048576 numbers.
  Versors told, products of vectors, reflections (model): contracts of the program and of the model.
  Conditions: the lists are nil or rows of known cells, of at most 1048576 numbers.
  Laws of versors, the model's side: contracts of the program and of the model.
  Conditions: the lists are nil or rows of known cells, of at most 1048576 numbers.
  Laws of versors, the model's side: contracts of the program and of the model.
  Conditions: the lists are nil or rows of known cells, of at most 1048576 numbers.
  Orthogonal matrices, the model's side: contracts of the program and of the model.
  Conditions: the lists are nil or rows of known cells, of at most 1048576 numbers.
-/
import Derived.Test.YtkibkkdeaojjoabQf43
import Derived.Test.YtkibkkdeaojjoabQf40
import Derived.Test.YtkibkkdeaojjoabQf46
import Derived.Test.YtkibkkdeaojjoabQf27
import Derived.Test.YtkibkkdeaojjoabQf15
import Derived.Deep.RegionHeld3
import Derived.Deep.DeepCutAuto
import Derived.Test.YtkibkkdeaojjoabQf33
import Derived.Test.YtkibkkdeaojjoabQf41
import Derived.Test.YtkibkkdeaojjoabQf42
import Derived.Test.YtkibkkdeaojjoabQf38
import Derived.Test.YtkibkkdeaojjoabQf39
namespace Go.Proofs.Ytkibkkdeaojjoab
open Go.RowKit
set_option linter.unusedVariables false

theorem ism_same {p : Int} {S : List Int} {m : List (List Int)} (h : isSp p S = true) : ismV p S p S m = orB p S m ∧ ismC p S p S = 0 := ism_yes ⟨h, h⟩
end Go.Proofs.Ytkibkkdeaojjoab

namespace Go.Proofs.Ytkibkkdeaojjoab
open Go.RowKit
set_option linter.unusedVariables false

set_option maxRecDepth 100000 in
set_option maxHeartbeats 6400000 in
theorem isOrthogonal_any (pS : Int) (aS : Option Addr) (S : List Int) (cS loS tpS : Nat) (am : Option Addr) (m : List (List Int)) (cm lom tpm : Nat) (w : World) (hS : RowIn loS tpS w aS S) (tS : tpS ≤ w.heap.size) (sS : S.length ≤ 1048576) (hm : MatIn lom tpm w am m) (tm : tpm ≤ w.heap.size) (sm' : m.length + tot m m.length ≤ 1048576) (hs : isSp pS S = true) :
    Calls Try.prog 36 #[.agg #[.int .i64 pS, .slice aS S.length cS], .slice am m.length cm] w (fun e w' => e = .returned (.bool (orB pS S m)) ∧ Below w.heap.size w w') := by
  have HS := Lib.hid hS
  have Hm := Lib.hid hm
  have HSM := Lib.hid sm'
  have k0 := nw0 w (.int .i64 pS) (.slice aS S.length cS) 30
  have k1 := nw1 w (.int .i64 pS) (.slice aS S.length cS) 30
  have HB0 := Lib.hid (below_alloc w (.cells #[.int .i64 pS, .slice aS S.length cS] 30))
  clear hS hm sm'
  have HX := Lib.hid (ism_same (m := m) hs)
  clear hs
  go_enter Try.func36, Try.ntmps36
  go_upto_region 1 with fail
  obtain ⟨w1, hw1⟩ : ∃ z, z = w.alloc (.cells #[.int .i64 pS, .slice aS S.length cS] 30) := ⟨_, rfl⟩
  rw [← hw1] at HB0 k0 k1 ⊢
  have hd1 : w.heap.size < w1.heap.size := by rw [hw1]; simp
  have HB1 := HB0
  clear hw1
  have SS1 := Lib.hid (And.intro k0 k1)
  go_wp2_with (go_at_call 70; ((with_reducible refine (impl_IsIsometry pS aS S cS loS tpS pS aS S cS loS tpS am m cm lom tpm w1 (HS.out.below HB1.out tS) (Nat.le_trans tS HB1.out.size) sS (HS.out.below HB1.out tS) (Nat.le_trans tS HB1.out.size) sS (Hm.out.below HB1.out tm) (Nat.le_trans tm HB1.out.size) HSM.out).mono ?_); rintro e w2 ⟨rfl, b_⟩; rw [HX.out.1, HX.out.2]; have SS2 := Lib.hid (ss2 b_ hd1 SS1.out); have HB2 := Lib.hid (below_step HB1.out HB1.out.size b_); have hd2 := Nat.lt_of_lt_of_le hd1 b_.size; clear k0 k1; obtain ⟨k0, k1⟩ := SS2.out; clear b_))
  go_ret
  exact ⟨rfl, HB2.out⟩

end Go.Proofs.Ytkibkkdeaojjoab

namespace Go.Proofs.Ytkibkkdeaojjoab
open Go.RowKit
set_option linter.unusedVariables false

noncomputable def cbC (p : Int) (S : List Int) (m : List (List Int)) : Int := if shC p S m = 0 then (if orB p S m = true then cyC p m else 5) else shC p S m
noncomputable def cbV (p : Int) (S : List Int) (m : List (List Int)) : List (List Int) := if shC p S m = 0 ∧ orB p S m = true then cyV p m else []
theorem cyM_rl' {p : Int} {m : List (List Int)} {k : Int} {i : Nat} (h : i < m.length) : (rw' (mulM p (invM p (cyM p m 1)) (cyM p m k)) i).length = m.length := by
  have h0 : 0 < m.length := by omega
  unfold mulM
  rw [invM_len, cyM_len, mk_rowLen _ h]
  exact cyM_rl h0
theorem cyV_size {p : Int} {m : List (List Int)} (h : m.length ≤ 16) : (cyV p m).length + tot (cyV p m) (cyV p m).length ≤ 1048576 := by
  unfold cyV
  split
  · have hl : (mulM p (invM p (cyM p m 1)) (cyM p m (p - 1))).length = m.length := by unfold mulM; rw [mk_len, invM_len, cyM_len]
    rw [tot_const (c := m.length) (fun i hi => by rw [hl] at hi; exact cyM_rl' hi) (Nat.le_refl _), hl]
    have : m.length * m.length ≤ 16 * 16 := Nat.mul_le_mul h h
    omega
  · simp [tot]
theorem cbV_size (p : Int) (S : List Int) (m : List (List Int)) : (cbV p S m).length + tot (cbV p S m) (cbV p S m).length ≤ 1048576 := by
  unfold cbV
  split
  · rename_i h
    exact cyV_size (shC_zero h.1).lst.hi
  · simp [tot]
theorem Good.sqr {p : Int} {S : List Int} {m : List (List Int)} (h : Good p S m) : m.length = (rw' m 0).length := h.len.trans h.cols.symm

set_option maxRecDepth 100000 in
set_option maxHeartbeats 6400000 in
theorem impl_CayleyBack (pS : Int) (aS : Option Addr) (S : List Int) (cS loS tpS : Nat) (am : Option Addr) (m : List (List Int)) (cm lom tpm : Nat) (w : World) (hS : RowIn loS tpS w aS S) (tS : tpS ≤ w.heap.size) (sS : S.length ≤ 1048576) (hm : MatIn lom tpm w am m) (tm : tpm ≤ w.heap.size) (sm' : m.length + tot m m.length ≤ 1048576) :
    Calls Try.prog 13 #[.agg #[.int .i64 pS, .slice aS S.length cS], .slice am m.length cm] w (ImplM (cbV pS S m) (cbC pS S m) w) := by
  have HS := Lib.hid hS
  have Hm := Lib.hid hm
  have HSM := Lib.hid sm'
  have k0 := nw0 w (.int .i64 pS) (.slice aS S.length cS) 30
  have k1 := nw1 w (.int .i64 pS) (.slice aS S.length cS) 30
  have HB0 := Lib.hid (below_alloc w (.cells #[.int .i64 pS, .slice aS S.length cS] 30))
  clear hS hm sm'
  by_cases h0 : shC pS S m = 0
  · have HZ := Lib.hid h0
    have HI := Lib.hid (shC_zero h0).sp
    have HG := Lib.hid (shC_zero h0)
    cases ho : orB pS S m with
    | true =>
      have HO := Lib.hid ho
      have HV : Hid (cbV pS S m = cyV pS m ∧ cbC pS S m = cyC pS m) := ⟨if_pos ⟨h0, ho⟩, by unfold cbC; rw [if_pos h0, if_pos ho]⟩
      clear h0 ho
      go_enter Try.func13, Try.ntmps13
      go_upto_region 1 with fail
      obtain ⟨w1, hw1⟩ : ∃ z, z = w.alloc (.cells #[.int .i64 pS, .slice aS S.length cS] 30) := ⟨_, rfl⟩
      rw [← hw1] at HB0 k0 k1 ⊢
      have hd1 : w.heap.size < w1.heap.size := by rw [hw1]; simp
      have HB1 := HB0
      clear hw1
      have SS1 := Lib.hid (And.intro k0 k1)
      go_wp2_with (first | (go_at_call 35; ((with_reducible refine (checkSpaceMatrix_any pS aS S cS loS tpS am m cm lom tpm w1 (HS.out.below HB1.out tS) (Nat.le_trans tS HB1.out.size) sS (Hm.out.below HB1.out tm) (Nat.le_trans tm HB1.out.size) HSM.out).mono ?_); rintro e w2 ⟨rfl, b_⟩; rw [HZ.out]; have SS2 := Lib.hid (ss2 b_ hd1 SS1.out); have HB2 := Lib.hid (below_step HB1.out HB1.out.size b_); have hd2 := Nat.lt_of_lt_of_le hd1 b_.size; clear k0 k1; obtain ⟨k0, k1⟩ := SS2.out; clear b_)) | (go_at_call 36; ((with_reducible refine (isOrthogonal_any pS aS S cS loS tpS am m cm lom tpm w2 (HS.out.below HB2.out tS) (Nat.le_trans tS HB2.out.size) sS (Hm.out.below HB2.out tm) (Nat.le_trans tm HB2.out.size) HSM.out HI.out).mono ?_); rintro e w3 ⟨rfl, b_⟩; rw [HO.out]; have SS3 := Lib.hid (ss2 b_ hd2 SS2.out); have HB3 := Lib.hid (below_step HB2.out HB2.out.size b_); have hd3 := Nat.lt_of_lt_of_le hd2 b_.size; clear k0 k1; obtain ⟨k0, k1⟩ := SS3.out; clear b_)) | (go_at_call 37; ((with_reducible refine (cayley_any pS am m cm lom tpm w3 (Hm.out.below HB3.out tm) (Nat.le_trans tm HB3.out.size) HG.out.lst HG.out.sqr).mono ?_); rintro e w4 ⟨r9, c9, rfl, o_, b_⟩; have SS4 := Lib.hid (ss2 b_ hd3 SS3.out); have HB4 := Lib.hid (below_step HB3.out HB3.out.size b_); have hd4 := Nat.lt_of_lt_of_le hd3 b_.size; have OO := Lib.hid (o_.mono (Nat.le_of_lt hd3) (Nat.le_refl _)); clear o_; clear k0 k1; obtain ⟨k0, k1⟩ := SS4.out; clear b_)))
      go_ret2
      rw [HV.out.1, HV.out.2]
      exact ⟨r9, c9, rfl, OO.out, HB4.out⟩
    | false =>
      have HO := Lib.hid ho
      have HV : Hid (cbV pS S m = [] ∧ cbC pS S m = 5) := ⟨if_neg (fun h => by rw [ho] at h; cases h.2), by unfold cbC; rw [if_pos h0, if_neg (by rw [ho]; decide)]⟩
      clear h0 ho
      go_enter Try.func13, Try.ntmps13
      go_upto_region 1 with fail
      obtain ⟨w1, hw1⟩ : ∃ z, z = w.alloc (.cells #[.int .i64 pS, .slice aS S.length cS] 30) := ⟨_, rfl⟩
      rw [← hw1] at HB0 k0 k1 ⊢
      have hd1 : w.heap.size < w1.heap.size := by rw [hw1]; simp
      have HB1 := HB0
      clear hw1
      have SS1 := Lib.hid (And.intro k0 k1)
      go_wp2_with (first | (go_at_call 35; ((with_reducible refine (checkSpaceMatrix_any pS aS S cS loS tpS am m cm lom tpm w1 (HS.out.below HB1.out tS) (Nat.le_trans tS HB1.out.size) sS (Hm.out.below HB1.out tm) (Nat.le_trans tm HB1.out.size) HSM.out).mono ?_); rintro e w2 ⟨rfl, b_⟩; rw [HZ.out]; have SS2 := Lib.hid (ss2 b_ hd1 SS1.out); have HB2 := Lib.hid (below_step HB1.out HB1.out.size b_); have hd2 := Nat.lt_of_lt_of_le hd1 b_.size; clear k0 k1; obtain ⟨k0, k1⟩ := SS2.out; clear b_)) | (go_at_call 36; ((with_reducible refine (isOrthogonal_any pS aS S cS loS tpS am m cm lom tpm w2 (HS.out.below HB2.out tS) (Nat.le_trans tS HB2.out.size) sS (Hm.out.below HB2.out tm) (Nat.le_trans tm HB2.out.size) HSM.out HI.out).mono ?_); rintro e w3 ⟨rfl, b_⟩; rw [HO.out]; have SS3 := Lib.hid (ss2 b_ hd2 SS2.out); have HB3 := Lib.hid (below_step HB2.out HB2.out.size b_); have hd3 := Nat.lt_of_lt_of_le hd2 b_.size; clear k0 k1; obtain ⟨k0, k1⟩ := SS3.out; clear b_)))
      go_ret2
      rw [HV.out.1, HV.out.2]
      exact ⟨none, 0, rfl, .inl rfl, HB3.out⟩
  · have HV : Hid (cbV pS S m = [] ∧ cbC pS S m = shC pS S m) := ⟨if_neg (fun h => h0 h.1), if_neg h0⟩
    obtain ⟨C, hC⟩ : ∃ c, c = shC pS S m := ⟨_, rfl⟩
    have hc1 : (C != 0) = true := by rw [hC]; simpa using h0
    have hc2 : (C == 0) = false := by rw [hC]; simpa using h0
    have HCE := Lib.hid hC
    clear hC
    clear h0
    go_enter Try.func13, Try.ntmps13
    go_upto_region 1 with fail
    obtain ⟨w1, hw1⟩ : ∃ z, z = w.alloc (.cells #[.int .i64 pS, .slice aS S.length cS] 30) := ⟨_, rfl⟩
    rw [← hw1] at HB0 k0 k1 ⊢
    have hd1 : w.heap.size < w1.heap.size := by rw [hw1]; simp
    have HB1 := HB0
    clear hw1
    have SS1 := Lib.hid (And.intro k0 k1)
    go_wp2_with (go_at_call 35; ((with_reducible refine (checkSpaceMatrix_any pS aS S cS loS tpS am m cm lom tpm w1 (HS.out.below HB1.out tS) (Nat.le_trans tS HB1.out.size) sS (Hm.out.below HB1.out tm) (Nat.le_trans tm HB1.out.size) HSM.out).mono ?_); rintro e w2 ⟨rfl, b_⟩; rw [← HCE.out]; have SS2 := Lib.hid (ss2 b_ hd1 SS1.out); have HB2 := Lib.hid (below_step HB1.out HB1.out.size b_); have hd2 := Nat.lt_of_lt_of_le hd1 b_.size; clear k0 k1; obtain ⟨k0, k1⟩ := SS2.out; clear b_))
    go_ret2
    rw [HV.out.1, HV.out.2, ← HCE.out]
    exact ⟨none, 0, rfl, .inl rfl, HB2.out⟩

end Go.Proofs.Ytkibkkdeaojjoab

namespace Go.Proofs.Ytkibkkdeaojjoab
open Go.RowKit
set_option linter.unusedVariables false

/-- The box of a space and a number. -/
def BoxN (g b : Nat) (p : Int) (aS : Option Addr) (n cS : Nat) (F : Int) (W : World) : Prop :=
  W.cell? ⟨g, 0, none⟩ = some (.int .i64 p) ∧ W.cell? ⟨g, 1, none⟩ = some (.slice aS n cS) ∧ W.cell? ⟨b, 0, none⟩ = some (.int .i64 F)
theorem BoxN.below {g b : Nat} {p F : Int} {aS : Option Addr} {n cS B : Nat} {w w' : World} (h : BoxN g b p aS n cS F w) (hb : Below B w w') (hg : g < B ∧ b < B) : BoxN g b p aS n cS F w' :=
  ⟨(hb.cell (p := ⟨g, 0, none⟩) hg.1).trans h.1, (hb.cell (p := ⟨g, 1, none⟩) hg.1).trans h.2.1, (hb.cell (p := ⟨b, 0, none⟩) hg.2).trans h.2.2⟩

end Go.Proofs.Ytkibkkdeaojjoab

namespace Go.Proofs.Ytkibkkdeaojjoab
open Go.RowKit
set_option linter.unusedVariables false

set_option maxRecDepth 100000 in
set_option maxHeartbeats 6400000 in
theorem l08Is_any (pS : Int) (aS : Option Addr) (S : List Int) (cS loS tpS : Nat) (am : Option Addr) (m : List (List Int)) (cm lom tpm : Nat) (w : World) (hS : RowIn loS tpS w aS S) (tS : tpS ≤ w.heap.size) (sS : S.length ≤ 1048576) (hm : MatIn lom tpm w am m) (tm : tpm ≤ w.heap.size) (sm' : m.length + tot m m.length ≤ 1048576) (hs : isSp pS S = true) :
    Calls Try.prog 33 #[.agg #[.int .i64 pS, .slice aS S.length cS], .slice am m.length cm] w (fun e w' => e = .returned (.bool (orB pS S m)) ∧ Below w.heap.size w w') := by
  have HS := Lib.hid hS
  have Hm := Lib.hid hm
  have HSM := Lib.hid sm'
  have k0 := nw0 w (.int .i64 pS) (.slice aS S.length cS) 30
  have k1 := nw1 w (.int .i64 pS) (.slice aS S.length cS) 30
  have HB0 := Lib.hid (below_alloc w (.cells #[.int .i64 pS, .slice aS S.length cS] 30))
  clear hS hm sm'
  have HI := Lib.hid hs
  clear hs
  go_enter Try.func33, Try.ntmps33
  go_upto_region 1 with fail
  obtain ⟨w1, hw1⟩ : ∃ z, z = w.alloc (.cells #[.int .i64 pS, .slice aS S.length cS] 30) := ⟨_, rfl⟩
  rw [← hw1] at HB0 k0 k1 ⊢
  have hd1 : w.heap.size < w1.heap.size := by rw [hw1]; simp
  have HB1 := HB0
  clear hw1
  have SS1 := Lib.hid (And.intro k0 k1)
  go_wp2_with (go_at_call 64; ((with_reducible refine (l03Isometry_any pS aS S cS loS tpS pS aS S cS loS tpS am m cm lom tpm w1 HI.out HI.out (HS.out.below HB1.out tS) (Nat.le_trans tS HB1.out.size) (HS.out.below HB1.out tS) (Nat.le_trans tS HB1.out.size) (Hm.out.below HB1.out tm) (Nat.le_trans tm HB1.out.size) HSM.out).mono ?_); rintro e w2 ⟨rfl, b_⟩; have SS2 := Lib.hid (ss2 b_ hd1 SS1.out); have HB2 := Lib.hid (below_step HB1.out HB1.out.size b_); have hd2 := Nat.lt_of_lt_of_le hd1 b_.size; clear k0 k1; obtain ⟨k0, k1⟩ := SS2.out; clear b_))
  go_ret
  exact ⟨rfl, HB2.out⟩

end Go.Proofs.Ytkibkkdeaojjoab
