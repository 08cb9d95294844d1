/-
  VersorOf, ReflectIn (program): contracts of the program and of the model.
  Conditions: the lists are nil or rows of known cells, of at most 1048576 numbers.
  Versors told, products of vectors, reflections (model): contracts of the program and of the model.
  Conditions: the lists are nil or rows of known cells, of at most 1048576 numbers.
-/
import Derived.Test.YtgfanoejohpmkaaQb35
import Derived.Test.YtgfanoejohpmkaaQb33
import Derived.Test.YtgfanoejohpmkaaQb36
import Derived.Test.YtgfanoejohpmkaaQb29
import Derived.Deep.RegionHeld3
import Derived.Deep.DeepCutAuto
import Derived.Test.YtgfanoejohpmkaaQb22
namespace Go.Proofs.Ytgfanoejohpmkaa
open Go.RowKit
set_option linter.unusedVariables false

/-- The code of a regular space and vectors. -/
def rvC (p : Int) (S : List Int) (m : List (List Int)) : Int := if codeVs p S m = 0 then (if discN p S = 0 then 5 else 0) else codeVs p S m
theorem codeVs_all {p : Int} {S : List Int} {m : List (List Int)} (h : codeVs p S m = 0) : isSp p S = true ∧ m.all (isVec p S.length) = true := by
  rcases codeVs_cases p S m with ⟨_, hc⟩ | ⟨hi, ha, _⟩ | ⟨_, _, hc⟩
  · rw [hc] at h; cases h
  · exact ⟨hi, ha⟩
  · rw [hc] at h; cases h
theorem rvC_zero {p : Int} {S : List Int} {m : List (List Int)} (h : rvC p S m = 0) : codeVs p S m = 0 ∧ discN p S ≠ 0 := by
  unfold rvC at h
  split at h
  · rename_i h0
    split at h
    · cases h
    · rename_i h1; exact ⟨h0, h1⟩
  · rename_i h0; exact absurd h h0
theorem rvC_two {p : Int} {S u v : List Int} (h : rvC p S [u, v] = 0) : isSp p S = true ∧ isVec p S.length u = true ∧ isVec p S.length v = true := by
  have h1 := codeVs_all (rvC_zero h).1
  have h2 := h1.2
  rw [mv_all2, Bool.and_eq_true] at h2
  exact ⟨h1.1, h2.1, h2.2⟩
theorem regC_nil {p : Int} {S : List Int} (h : isSp p S = true) : regC p S [] = if discN p S = 0 then 5 else 0 := by
  unfold regC
  rw [if_pos (codeMv_zero.2 ⟨h, rfl⟩)]
theorem checkR0 (pS : Int) (aS : Option Addr) (S : List Int) (cS loS tpS : Nat) (w : World) (hS : RowIn loS tpS w aS S) (tS : tpS ≤ w.heap.size) (sS : S.length ≤ 1048576) :
    Calls Try.prog 36 #[.agg #[.int .i64 pS, .slice aS S.length cS], .slice none 0 0] w fun e w' => e = .returned (.int .i64 (regC pS S [])) ∧ Below w.heap.size w w' :=
  checkRegular_any pS aS S cS loS tpS none [] 0 0 0 w hS tS sS (.inl rfl) (Nat.zero_le _) (by show 0 ≤ 1048576; omega) (fun i hi => absurd hi (Nat.not_lt_zero i))

set_option maxRecDepth 100000 in
set_option maxHeartbeats 3200000 in
theorem checkRegularVectors_any (pS : Int) (aS : Option Addr) (S : List Int) (cS loS tpS : Nat) (am : Option Addr) (m : List (List Int)) (cm lom tpm : Nat) (w : World) (hS : RowIn loS tpS w aS S) (tS : tpS ≤ w.heap.size) (sS : S.length ≤ 1048576) (hm : MatIn lom tpm w am m) (tm : tpm ≤ w.heap.size) (sm : m.length ≤ 1048576) (sr : ∀ i, i < m.length → (rw' m i).length ≤ 1048576) :
    Calls Try.prog 22 #[.agg #[.int .i64 pS, .slice aS S.length cS], .slice am m.length cm] w fun e w' => e = .returned (.int .i64 (rvC pS S m)) ∧ Below w.heap.size w w' := by
  have HS := Lib.hid hS
  have Hm := Lib.hid hm
  have HSR := Lib.hid sr
  have k0 := nw0 w (.int .i64 pS) (.slice aS S.length cS) 26
  have k1 := nw1 w (.int .i64 pS) (.slice aS S.length cS) 26
  have HB0 := Lib.hid (below_alloc w (.cells #[.int .i64 pS, .slice aS S.length cS] 26))
  clear hS hm sr
  by_cases hc : codeVs pS S m = 0
  · have HC0 := Lib.hid hc
    have HRE : Hid (rvC pS S m = regC pS S []) := by show _ = _; rw [regC_nil (codeVs_all hc).1]; unfold rvC; rw [if_pos hc]
    clear hc
    go_enter Try.func22, Try.ntmps22
    go_upto_region 1 with fail
    obtain ⟨w1, hw1⟩ : ∃ z, z = w.alloc (.cells #[.int .i64 pS, .slice aS S.length cS] 26) := ⟨_, rfl⟩
    rw [← hw1] at HB0 k0 k1 ⊢
    have hd1 : w.heap.size < w1.heap.size := by rw [hw1]; simp
    have HB1 := HB0
    clear hw1
    have SS1 := Lib.hid (And.intro k0 k1)
    go_wp2_with (first | (go_at_call 33; ((with_reducible refine (checkVectors_any pS aS S cS loS tpS am m cm lom tpm w1 (HS.out.below HB1.out tS) (Nat.le_trans tS HB1.out.size) sS (Hm.out.below HB1.out tm) (Nat.le_trans tm HB1.out.size) sm HSR.out).mono ?_); rintro e w2 ⟨rfl, b_⟩; rw [HC0.out]; have SS2 := Lib.hid (ss2 b_ hd1 SS1.out); have HB2 := Lib.hid (below_step HB1.out HB1.out.size b_); have hd2 := Nat.lt_of_lt_of_le hd1 b_.size; clear k0 k1; obtain ⟨k0, k1⟩ := SS2.out; clear b_)) | (go_at_call 36; ((with_reducible refine (checkR0 pS aS S cS loS tpS w2 (HS.out.below HB2.out tS) (Nat.le_trans tS HB2.out.size) sS).mono ?_); rintro e w3 ⟨rfl, b_⟩; rw [← HRE.out]; have SS3 := Lib.hid (ss2 b_ hd2 SS2.out); have HB3 := Lib.hid (below_step HB2.out HB2.out.size b_); have hd3 := Nat.lt_of_lt_of_le hd2 b_.size; clear k0 k1; obtain ⟨k0, k1⟩ := SS3.out; clear b_)))
    go_ret
    exact ⟨rfl, HB3.out⟩
  · have HRE : Hid (rvC pS S m = codeVs pS S m) := by show _ = _; unfold rvC; rw [if_neg hc]
    obtain ⟨C, hC⟩ : ∃ c, c = codeVs pS S m := ⟨_, rfl⟩
    have hc1 : (C != 0) = true := by rw [hC]; simpa using hc
    have HCE := Lib.hid hC
    clear hc hC
    go_enter Try.func22, Try.ntmps22
    go_upto_region 1 with fail
    obtain ⟨w1, hw1⟩ : ∃ z, z = w.alloc (.cells #[.int .i64 pS, .slice aS S.length cS] 26) := ⟨_, rfl⟩
    rw [← hw1] at HB0 k0 k1 ⊢
    have hd1 : w.heap.size < w1.heap.size := by rw [hw1]; simp
    have HB1 := HB0
    clear hw1
    have SS1 := Lib.hid (And.intro k0 k1)
    go_wp2_with (go_at_call 33; ((with_reducible refine (checkVectors_any pS aS S cS loS tpS am m cm lom tpm w1 (HS.out.below HB1.out tS) (Nat.le_trans tS HB1.out.size) sS (Hm.out.below HB1.out tm) (Nat.le_trans tm HB1.out.size) sm HSR.out).mono ?_); rintro e w2 ⟨rfl, b_⟩; rw [← HCE.out]; have SS2 := Lib.hid (ss2 b_ hd1 SS1.out); have HB2 := Lib.hid (below_step HB1.out HB1.out.size b_); have hd2 := Nat.lt_of_lt_of_le hd1 b_.size; clear k0 k1; obtain ⟨k0, k1⟩ := SS2.out; clear b_))
    go_ret
    exact ⟨by rw [HRE.out, ← HCE.out]; rfl, HB2.out⟩

theorem checkRV2 (p : Int) (aS : Option Addr) (S : List Int) (cS loS tpS : Nat) (av : Option Addr) (v : List Int) (cv lov tpv : Nat) (au : Option Addr) (u : List Int) (cu lou tpu b cap : Nat) (W : World) (T : TypeId) (hb : b = W.heap.size)
    (hS : RowIn loS tpS W aS S) (tS : tpS ≤ W.heap.size) (sS : S.length ≤ 1048576) (hv : RowIn lov tpv W av v) (tv : tpv ≤ W.heap.size) (sv : v.length ≤ 1048576) (hu : RowIn lou tpu W au u) (tu : tpu ≤ W.heap.size) (su : u.length ≤ 1048576) :
    Calls Try.prog 22 #[.agg #[.int .i64 p, .slice aS S.length cS], .slice (some ⟨b, 0, none⟩) 2 cap] (W.alloc (.cells #[.slice av v.length cv, .slice au u.length cu] T)) fun e w' => e = .returned (.int .i64 (rvC p S [v, u])) ∧ Below (W.alloc (.cells #[.slice av v.length cv, .slice au u.length cu] T)).heap.size (W.alloc (.cells #[.slice av v.length cv, .slice au u.length cu] T)) w' :=
  checkRegularVectors_any p aS S cS loS tpS (some ⟨b, 0, none⟩) [v, u] cap 0 _ _ (hS.below (below_alloc W _) tS) (Nat.le_trans tS (size_alloc W _)) sS (mv_two hb hv tv hu tu T) (Nat.le_refl _) (by show 2 ≤ 1048576; omega) (fun i hi => by match i, hi with | 0, _ => exact sv | 1, _ => exact su)

end Go.Proofs.Ytgfanoejohpmkaa

namespace Go.Proofs.Ytgfanoejohpmkaa
open Go.RowKit
set_option linter.unusedVariables false

/-- The box of a space and a number. -/
def BoxN (g b : Nat) (p : Int) (aS : Option Addr) (n cS : Nat) (F : Int) (W : World) : Prop :=
  W.cell? ⟨g, 0, none⟩ = some (.int .i64 p) ∧ W.cell? ⟨g, 1, none⟩ = some (.slice aS n cS) ∧ W.cell? ⟨b, 0, none⟩ = some (.int .i64 F)
theorem BoxN.below {g b : Nat} {p F : Int} {aS : Option Addr} {n cS B : Nat} {w w' : World} (h : BoxN g b p aS n cS F w) (hb : Below B w w') (hg : g < B ∧ b < B) : BoxN g b p aS n cS F w' :=
  ⟨(hb.cell (p := ⟨g, 0, none⟩) hg.1).trans h.1, (hb.cell (p := ⟨g, 1, none⟩) hg.1).trans h.2.1, (hb.cell (p := ⟨b, 0, none⟩) hg.2).trans h.2.2⟩

end Go.Proofs.Ytgfanoejohpmkaa
