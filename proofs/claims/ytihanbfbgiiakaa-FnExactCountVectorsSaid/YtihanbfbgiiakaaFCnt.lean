/-
  CountVectors: contracts of the program and of the model.
  Conditions: the lists are nil or rows of known cells, of at most 1048576 numbers.
-/
import Derived.Test.YtihanbfbgiiakaaCnt
import Derived.Test.YtihanbfbgiiakaaPof
namespace Go.Proofs.Ytihanbfbgiiakaa
open Go.RowKit
set_option linter.unusedVariables false

def cntC (p : Int) (S : List Int) (c : Int) : Int := if isSp p S = true then (if 0 ≤ c ∧ c < p then 0 else 2) else 1
def cntV (p : Int) (S : List Int) (c : Int) : Int := if isSp p S = true then (if 0 ≤ c ∧ c < p then cntN p.toNat S S.length c.toNat else 0) else 0
theorem cnt_not {p : Int} {S : List Int} {c : Int} (h : isSp p S = false) : cntC p S c = 1 ∧ cntV p S c = 0 := by
  unfold cntC cntV
  rw [if_neg (by simp [h]), if_neg (by simp [h])]; exact ⟨rfl, rfl⟩
theorem cnt_rng {p : Int} {S : List Int} {c : Int} (h : isSp p S = true) (k : ¬ (0 ≤ c ∧ c < p)) : cntC p S c = 2 ∧ cntV p S c = 0 := by
  unfold cntC cntV
  rw [if_pos h, if_neg k, if_pos h, if_neg k]; exact ⟨rfl, rfl⟩
theorem cnt_in {P : Nat} {S : List Int} {c : Nat} (h : isSp (P : Int) S = true) (k : c < P) : cntC (P : Int) S (c : Int) = 0 ∧ cntV (P : Int) S (c : Int) = cntN P S S.length c := by
  unfold cntC cntV
  rw [if_pos h, if_pos (by omega), if_pos h, if_pos (by omega)]; exact ⟨rfl, rfl⟩
theorem one_num (p x : Int) (b cap : Nat) (W : World) (T : TypeId) (hb : b = W.heap.size) :
    Calls Try.prog 103 #[.int .i64 p, .slice (some ⟨b, 0, none⟩) 1 cap] (W.alloc (.cells #[.int .i64 x] T)) fun e w' => e = .returned (.int .i64 (codeOf p [x])) ∧ W.alloc (.cells #[.int .i64 x] T) = w' := by
  subst hb
  refine checkNumbers_any p W.heap.size [x] cap _ (fun i hi => ?_) (by show 1 ≤ 1000000; omega)
  have : i = 0 := by simp at hi; omega
  subst this
  simp [go_sem]
theorem code_in {p c : Int} (hp : prm p = true) (h : 0 ≤ c ∧ c < p) : codeOf p [c] = 0 := code_ok hp (by simp [inr, h])
theorem code_out {p c : Int} (hp : prm p = true) (h : ¬ (0 ≤ c ∧ c < p)) : codeOf p [c] = 2 := code_bad hp (by simp only [List.all_cons, List.all_nil, Bool.and_true]; exact inr_not.2 h)

set_option maxRecDepth 100000 in
set_option maxHeartbeats 3200000 in
theorem checkNorm_any (pS : Int) (aS : Option Addr) (S : List Int) (cS loS tpS : Nat) (c : Int) (w : World) (hS : RowIn loS tpS w aS S) (tS : tpS ≤ w.heap.size) (sS : S.length ≤ 1048576) :
    Calls Try.prog 87 #[.agg #[.int .i64 pS, .slice aS S.length cS], .int .i64 c] w (fun e w' => e = .returned (.int .i64 (cntC pS S c)) ∧ Below w.heap.size w w') := by
  have HS := Lib.hid hS
  clear hS
  by_cases hi : isSp pS S = true
  · by_cases hc : 0 ≤ c ∧ c < pS
    · have HC1 := Lib.hid (code1_yes hi)
      have HCD := Lib.hid (code_in (isSp_iff.1 hi).prime hc)
      have HX : Hid (cntC pS S c = 0 ∧ True) := ⟨by unfold cntC; rw [if_pos hi, if_pos hc], trivial⟩
      clear hi hc
      go_enter Try.func87, Try.ntmps87
      go_wp2_with (first | (go_at_call 77; (with_reducible refine (checkSp1 pS aS S cS loS tpS _ (w.heap.size + 1) _ _ (by simp) (HS.out.below ((Below.refl _ _).alloc (Nat.le_refl _) (.cells #[.int .i64 pS, .slice aS S.length cS] 44)) tS) (Nat.le_trans tS (((Below.refl _ _).alloc (Nat.le_refl _) (.cells #[.int .i64 pS, .slice aS S.length cS] 44))).size) sS).mono ?_); rintro e w3 ⟨rfl, b3⟩; rw [HC1.out]; have B3 := Lib.hid b3; have K3_0_0 := (b3.cell (p := ⟨w.heap.size, 0, none⟩) (Nat.lt_of_lt_of_le (show w.heap.size < (w.alloc (.cells #[.int .i64 pS, .slice aS S.length cS] 44)).heap.size by simp) (Nat.le_trans (Nat.le_refl _) (size_alloc (w.alloc (.cells #[.int .i64 pS, .slice aS S.length cS] 44)) (.cells #[.int .i64 pS, .slice aS S.length cS] 44))))).trans (show ((w.alloc (.cells #[.int .i64 pS, .slice aS S.length cS] 44)).alloc (.cells #[.int .i64 pS, .slice aS S.length cS] 44)).cell? ⟨w.heap.size, 0, none⟩ = some (.int .i64 pS) from (World.cell?_alloc_old _ _ _ (by simp)).trans (by simp [go_sem])); have K3_0_1 := (b3.cell (p := ⟨w.heap.size, 1, none⟩) (Nat.lt_of_lt_of_le (show w.heap.size < (w.alloc (.cells #[.int .i64 pS, .slice aS S.length cS] 44)).heap.size by simp) (Nat.le_trans (Nat.le_refl _) (size_alloc (w.alloc (.cells #[.int .i64 pS, .slice aS S.length cS] 44)) (.cells #[.int .i64 pS, .slice aS S.length cS] 44))))).trans (show ((w.alloc (.cells #[.int .i64 pS, .slice aS S.length cS] 44)).alloc (.cells #[.int .i64 pS, .slice aS S.length cS] 44)).cell? ⟨w.heap.size, 1, none⟩ = some (.slice aS S.length cS) from (World.cell?_alloc_old _ _ _ (by simp)).trans (by simp [go_sem])); clear b3) | (go_at_call 103; (with_reducible refine (one_num pS c _ _ w3 _ rfl).mono ?_); rintro e w' ⟨rfl, rfl⟩; rw [HCD.out]))
      go_ret
      exact ⟨by rw [HX.out.1]; rfl, ((below_step (((Below.refl _ _).alloc (Nat.le_refl _) (.cells #[.int .i64 pS, .slice aS S.length cS] 44)).alloc (show w.heap.size ≤ (w.alloc (.cells #[.int .i64 pS, .slice aS S.length cS] 44)).heap.size from (((Below.refl _ _).alloc (Nat.le_refl _) (.cells #[.int .i64 pS, .slice aS S.length cS] 44))).size) (.cells #[.int .i64 pS, .slice aS S.length cS] 44)) (show w.heap.size ≤ ((w.alloc (.cells #[.int .i64 pS, .slice aS S.length cS] 44)).alloc (.cells #[.int .i64 pS, .slice aS S.length cS] 44)).heap.size from ((((Below.refl _ _).alloc (Nat.le_refl _) (.cells #[.int .i64 pS, .slice aS S.length cS] 44)).alloc (show w.heap.size ≤ (w.alloc (.cells #[.int .i64 pS, .slice aS S.length cS] 44)).heap.size from (((Below.refl _ _).alloc (Nat.le_refl _) (.cells #[.int .i64 pS, .slice aS S.length cS] 44))).size) (.cells #[.int .i64 pS, .slice aS S.length cS] 44))).size) B3.out)).alloc (show w.heap.size ≤ w3.heap.size from ((below_step (((Below.refl _ _).alloc (Nat.le_refl _) (.cells #[.int .i64 pS, .slice aS S.length cS] 44)).alloc (show w.heap.size ≤ (w.alloc (.cells #[.int .i64 pS, .slice aS S.length cS] 44)).heap.size from (((Below.refl _ _).alloc (Nat.le_refl _) (.cells #[.int .i64 pS, .slice aS S.length cS] 44))).size) (.cells #[.int .i64 pS, .slice aS S.length cS] 44)) (show w.heap.size ≤ ((w.alloc (.cells #[.int .i64 pS, .slice aS S.length cS] 44)).alloc (.cells #[.int .i64 pS, .slice aS S.length cS] 44)).heap.size from ((((Below.refl _ _).alloc (Nat.le_refl _) (.cells #[.int .i64 pS, .slice aS S.length cS] 44)).alloc (show w.heap.size ≤ (w.alloc (.cells #[.int .i64 pS, .slice aS S.length cS] 44)).heap.size from (((Below.refl _ _).alloc (Nat.le_refl _) (.cells #[.int .i64 pS, .slice aS S.length cS] 44))).size) (.cells #[.int .i64 pS, .slice aS S.length cS] 44))).size) B3.out)).size) _⟩
    · have HC1 := Lib.hid (code1_yes hi)
      have HCD := Lib.hid (code_out (isSp_iff.1 hi).prime hc)
      have HX := Lib.hid (cnt_rng hi hc)
      clear hi hc
      go_enter Try.func87, Try.ntmps87
      go_wp2_with (first | (go_at_call 77; (with_reducible refine (checkSp1 pS aS S cS loS tpS _ (w.heap.size + 1) _ _ (by simp) (HS.out.below ((Below.refl _ _).alloc (Nat.le_refl _) (.cells #[.int .i64 pS, .slice aS S.length cS] 44)) tS) (Nat.le_trans tS (((Below.refl _ _).alloc (Nat.le_refl _) (.cells #[.int .i64 pS, .slice aS S.length cS] 44))).size) sS).mono ?_); rintro e w3 ⟨rfl, b3⟩; rw [HC1.out]; have B3 := Lib.hid b3; have K3_0_0 := (b3.cell (p := ⟨w.heap.size, 0, none⟩) (Nat.lt_of_lt_of_le (show w.heap.size < (w.alloc (.cells #[.int .i64 pS, .slice aS S.length cS] 44)).heap.size by simp) (Nat.le_trans (Nat.le_refl _) (size_alloc (w.alloc (.cells #[.int .i64 pS, .slice aS S.length cS] 44)) (.cells #[.int .i64 pS, .slice aS S.length cS] 44))))).trans (show ((w.alloc (.cells #[.int .i64 pS, .slice aS S.length cS] 44)).alloc (.cells #[.int .i64 pS, .slice aS S.length cS] 44)).cell? ⟨w.heap.size, 0, none⟩ = some (.int .i64 pS) from (World.cell?_alloc_old _ _ _ (by simp)).trans (by simp [go_sem])); have K3_0_1 := (b3.cell (p := ⟨w.heap.size, 1, none⟩) (Nat.lt_of_lt_of_le (show w.heap.size < (w.alloc (.cells #[.int .i64 pS, .slice aS S.length cS] 44)).heap.size by simp) (Nat.le_trans (Nat.le_refl _) (size_alloc (w.alloc (.cells #[.int .i64 pS, .slice aS S.length cS] 44)) (.cells #[.int .i64 pS, .slice aS S.length cS] 44))))).trans (show ((w.alloc (.cells #[.int .i64 pS, .slice aS S.length cS] 44)).alloc (.cells #[.int .i64 pS, .slice aS S.length cS] 44)).cell? ⟨w.heap.size, 1, none⟩ = some (.slice aS S.length cS) from (World.cell?_alloc_old _ _ _ (by simp)).trans (by simp [go_sem])); clear b3) | (go_at_call 103; (with_reducible refine (one_num pS c _ _ w3 _ rfl).mono ?_); rintro e w' ⟨rfl, rfl⟩; rw [HCD.out]))
      go_ret
      exact ⟨by rw [HX.out.1]; rfl, ((below_step (((Below.refl _ _).alloc (Nat.le_refl _) (.cells #[.int .i64 pS, .slice aS S.length cS] 44)).alloc (show w.heap.size ≤ (w.alloc (.cells #[.int .i64 pS, .slice aS S.length cS] 44)).heap.size from (((Below.refl _ _).alloc (Nat.le_refl _) (.cells #[.int .i64 pS, .slice aS S.length cS] 44))).size) (.cells #[.int .i64 pS, .slice aS S.length cS] 44)) (show w.heap.size ≤ ((w.alloc (.cells #[.int .i64 pS, .slice aS S.length cS] 44)).alloc (.cells #[.int .i64 pS, .slice aS S.length cS] 44)).heap.size from ((((Below.refl _ _).alloc (Nat.le_refl _) (.cells #[.int .i64 pS, .slice aS S.length cS] 44)).alloc (show w.heap.size ≤ (w.alloc (.cells #[.int .i64 pS, .slice aS S.length cS] 44)).heap.size from (((Below.refl _ _).alloc (Nat.le_refl _) (.cells #[.int .i64 pS, .slice aS S.length cS] 44))).size) (.cells #[.int .i64 pS, .slice aS S.length cS] 44))).size) B3.out)).alloc (show w.heap.size ≤ w3.heap.size from ((below_step (((Below.refl _ _).alloc (Nat.le_refl _) (.cells #[.int .i64 pS, .slice aS S.length cS] 44)).alloc (show w.heap.size ≤ (w.alloc (.cells #[.int .i64 pS, .slice aS S.length cS] 44)).heap.size from (((Below.refl _ _).alloc (Nat.le_refl _) (.cells #[.int .i64 pS, .slice aS S.length cS] 44))).size) (.cells #[.int .i64 pS, .slice aS S.length cS] 44)) (show w.heap.size ≤ ((w.alloc (.cells #[.int .i64 pS, .slice aS S.length cS] 44)).alloc (.cells #[.int .i64 pS, .slice aS S.length cS] 44)).heap.size from ((((Below.refl _ _).alloc (Nat.le_refl _) (.cells #[.int .i64 pS, .slice aS S.length cS] 44)).alloc (show w.heap.size ≤ (w.alloc (.cells #[.int .i64 pS, .slice aS S.length cS] 44)).heap.size from (((Below.refl _ _).alloc (Nat.le_refl _) (.cells #[.int .i64 pS, .slice aS S.length cS] 44))).size) (.cells #[.int .i64 pS, .slice aS S.length cS] 44))).size) B3.out)).size) _⟩
  · have hi' : isSp pS S = false := by simpa using hi
    have HC1 := Lib.hid (code1_no hi')
    have HX := Lib.hid (cnt_not (c := c) hi')
    clear hi hi'
    go_enter Try.func87, Try.ntmps87
    go_wp2_with (first | (go_at_call 77; (with_reducible refine (checkSp1 pS aS S cS loS tpS _ (w.heap.size + 1) _ _ (by simp) (HS.out.below ((Below.refl _ _).alloc (Nat.le_refl _) (.cells #[.int .i64 pS, .slice aS S.length cS] 44)) tS) (Nat.le_trans tS (((Below.refl _ _).alloc (Nat.le_refl _) (.cells #[.int .i64 pS, .slice aS S.length cS] 44))).size) sS).mono ?_); rintro e w3 ⟨rfl, b3⟩; rw [HC1.out]; have B3 := Lib.hid b3; have K3_0_0 := (b3.cell (p := ⟨w.heap.size, 0, none⟩) (Nat.lt_of_lt_of_le (show w.heap.size < (w.alloc (.cells #[.int .i64 pS, .slice aS S.length cS] 44)).heap.size by simp) (Nat.le_trans (Nat.le_refl _) (size_alloc (w.alloc (.cells #[.int .i64 pS, .slice aS S.length cS] 44)) (.cells #[.int .i64 pS, .slice aS S.length cS] 44))))).trans (show ((w.alloc (.cells #[.int .i64 pS, .slice aS S.length cS] 44)).alloc (.cells #[.int .i64 pS, .slice aS S.length cS] 44)).cell? ⟨w.heap.size, 0, none⟩ = some (.int .i64 pS) from (World.cell?_alloc_old _ _ _ (by simp)).trans (by simp [go_sem])); have K3_0_1 := (b3.cell (p := ⟨w.heap.size, 1, none⟩) (Nat.lt_of_lt_of_le (show w.heap.size < (w.alloc (.cells #[.int .i64 pS, .slice aS S.length cS] 44)).heap.size by simp) (Nat.le_trans (Nat.le_refl _) (size_alloc (w.alloc (.cells #[.int .i64 pS, .slice aS S.length cS] 44)) (.cells #[.int .i64 pS, .slice aS S.length cS] 44))))).trans (show ((w.alloc (.cells #[.int .i64 pS, .slice aS S.length cS] 44)).alloc (.cells #[.int .i64 pS, .slice aS S.length cS] 44)).cell? ⟨w.heap.size, 1, none⟩ = some (.slice aS S.length cS) from (World.cell?_alloc_old _ _ _ (by simp)).trans (by simp [go_sem])); clear b3))
    go_ret
    exact ⟨by rw [HX.out.1]; rfl, (below_step (((Below.refl _ _).alloc (Nat.le_refl _) (.cells #[.int .i64 pS, .slice aS S.length cS] 44)).alloc (show w.heap.size ≤ (w.alloc (.cells #[.int .i64 pS, .slice aS S.length cS] 44)).heap.size from (((Below.refl _ _).alloc (Nat.le_refl _) (.cells #[.int .i64 pS, .slice aS S.length cS] 44))).size) (.cells #[.int .i64 pS, .slice aS S.length cS] 44)) (show w.heap.size ≤ ((w.alloc (.cells #[.int .i64 pS, .slice aS S.length cS] 44)).alloc (.cells #[.int .i64 pS, .slice aS S.length cS] 44)).heap.size from ((((Below.refl _ _).alloc (Nat.le_refl _) (.cells #[.int .i64 pS, .slice aS S.length cS] 44)).alloc (show w.heap.size ≤ (w.alloc (.cells #[.int .i64 pS, .slice aS S.length cS] 44)).heap.size from (((Below.refl _ _).alloc (Nat.le_refl _) (.cells #[.int .i64 pS, .slice aS S.length cS] 44))).size) (.cells #[.int .i64 pS, .slice aS S.length cS] 44))).size) B3.out)⟩

set_option maxRecDepth 100000 in
set_option maxHeartbeats 3200000 in
theorem spec_CountVectors (pS : Int) (aS : Option Addr) (S : List Int) (cS loS tpS : Nat) (c : Int) (w : World) (hS : RowIn loS tpS w aS S) (tS : tpS ≤ w.heap.size) (sS : S.length ≤ 1048576) :
    Calls Try.prog 48 #[.agg #[.int .i64 pS, .slice aS S.length cS], .int .i64 c] w (RetI (cntV pS S c) (cntC pS S c) w) := by
  have HS := Lib.hid hS
  clear hS
  by_cases hi : isSp pS S = true
  · by_cases hc : 0 ≤ c ∧ c < pS
    · have hpp := prm_bd (isSp_iff.1 hi).prime
      obtain ⟨P, rfl⟩ : ∃ P : Nat, pS = (P : Int) := ⟨pS.toNat, by omega⟩
      obtain ⟨k, rfl⟩ : ∃ k : Nat, c = (k : Int) := ⟨c.toNat, by omega⟩
      have hkP : k < P := by omega
      have hkl : (k : Int) < (P : Int) := by omega
      have hk0 : (0 : Int) ≤ (k : Int) := by omega
      have hk1 : (k : Int) ≤ (P : Int) - 1 := by omega
      have e1 : IntKind.i64.wrap ((P : Int) - 1) = (P : Int) - 1 := IntWalk.i64_in _ (by omega)
      have HI := Lib.hid hi
      have HX := Lib.hid (cnt_in hi hkP)
      clear hi hc
      go_enter Try.func48, Try.ntmps48
      go_wp2_with (first | (go_at_call 71; (with_reducible refine (l03Is_any (P : Int) aS S cS loS tpS _ (HS.out.below ((Below.refl _ _).alloc (Nat.le_refl _) (.cells #[.int .i64 (P : Int), .slice aS S.length cS] 44)) tS) (Nat.le_trans tS (((Below.refl _ _).alloc (Nat.le_refl _) (.cells #[.int .i64 (P : Int), .slice aS S.length cS] 44))).size) sS).mono ?_); rintro e w2 ⟨rfl, b2⟩; rw [HI.out]; have B2 := Lib.hid b2; have K2_0_0 := (b2.cell (p := ⟨w.heap.size, 0, none⟩) (Nat.lt_of_lt_of_le (show w.heap.size < (w.alloc (.cells #[.int .i64 (P : Int), .slice aS S.length cS] 44)).heap.size by simp) (Nat.le_refl _))).trans (show (w.alloc (.cells #[.int .i64 (P : Int), .slice aS S.length cS] 44)).cell? ⟨w.heap.size, 0, none⟩ = some (.int .i64 (P : Int)) by simp [go_sem]); have K2_0_1 := (b2.cell (p := ⟨w.heap.size, 1, none⟩) (Nat.lt_of_lt_of_le (show w.heap.size < (w.alloc (.cells #[.int .i64 (P : Int), .slice aS S.length cS] 44)).heap.size by simp) (Nat.le_refl _))).trans (show (w.alloc (.cells #[.int .i64 (P : Int), .slice aS S.length cS] 44)).cell? ⟨w.heap.size, 1, none⟩ = some (.slice aS S.length cS) by simp [go_sem]); clear b2) | (go_at_call 85; (with_reducible refine (l01In_yes (k : Int) 0 ((P : Int) - 1) _ hk0 hk1).mono ?_); rintro e w' ⟨rfl, rfl⟩) | (go_at_call 86; (with_reducible refine (l03Counts_any P aS S cS loS tpS _ (HS.out.below (below_step ((Below.refl _ _).alloc (Nat.le_refl _) (.cells #[.int .i64 (P : Int), .slice aS S.length cS] 44)) (show w.heap.size ≤ (w.alloc (.cells #[.int .i64 (P : Int), .slice aS S.length cS] 44)).heap.size from (((Below.refl _ _).alloc (Nat.le_refl _) (.cells #[.int .i64 (P : Int), .slice aS S.length cS] 44))).size) B2.out) tS) (Nat.le_trans tS ((below_step ((Below.refl _ _).alloc (Nat.le_refl _) (.cells #[.int .i64 (P : Int), .slice aS S.length cS] 44)) (show w.heap.size ≤ (w.alloc (.cells #[.int .i64 (P : Int), .slice aS S.length cS] 44)).heap.size from (((Below.refl _ _).alloc (Nat.le_refl _) (.cells #[.int .i64 (P : Int), .slice aS S.length cS] 44))).size) B2.out)).size) HI.out).mono ?_); rintro e w3 ⟨bc, rfl, hr, hb⟩; have B3 := Lib.hid hb; obtain ⟨bx, ox, hax, _, _, hcx⟩ := hr.num (j := k) (by rw [mkR_len]; exact hkP); cases hax; rw [mkR_at _ hkP, Nat.zero_add] at hcx; clear hb hr))
      go_ret2
      exact ⟨by rw [HX.out.1, HX.out.2]; rfl, (below_step (below_step ((Below.refl _ _).alloc (Nat.le_refl _) (.cells #[.int .i64 (P : Int), .slice aS S.length cS] 44)) (show w.heap.size ≤ (w.alloc (.cells #[.int .i64 (P : Int), .slice aS S.length cS] 44)).heap.size from (((Below.refl _ _).alloc (Nat.le_refl _) (.cells #[.int .i64 (P : Int), .slice aS S.length cS] 44))).size) B2.out) (show w.heap.size ≤ w2.heap.size from ((below_step ((Below.refl _ _).alloc (Nat.le_refl _) (.cells #[.int .i64 (P : Int), .slice aS S.length cS] 44)) (show w.heap.size ≤ (w.alloc (.cells #[.int .i64 (P : Int), .slice aS S.length cS] 44)).heap.size from (((Below.refl _ _).alloc (Nat.le_refl _) (.cells #[.int .i64 (P : Int), .slice aS S.length cS] 44))).size) B2.out)).size) B3.out)⟩
    · have hpp := prm_bd (isSp_iff.1 hi).prime
      have HI := Lib.hid hi
      have HX := Lib.hid (cnt_rng hi hc)
      have HNO : Hid (¬ (0 ≤ c ∧ c ≤ pS - 1)) := by show ¬ _; omega
      have e1 : IntKind.i64.wrap (pS - 1) = pS - 1 := IntWalk.i64_in _ (by omega)
      clear hi hc
      go_enter Try.func48, Try.ntmps48
      go_wp2_with (first | (go_at_call 71; (with_reducible refine (l03Is_any pS aS S cS loS tpS _ (HS.out.below ((Below.refl _ _).alloc (Nat.le_refl _) (.cells #[.int .i64 pS, .slice aS S.length cS] 44)) tS) (Nat.le_trans tS (((Below.refl _ _).alloc (Nat.le_refl _) (.cells #[.int .i64 pS, .slice aS S.length cS] 44))).size) sS).mono ?_); rintro e w2 ⟨rfl, b2⟩; rw [HI.out]; have B2 := Lib.hid b2; have K2_0_0 := (b2.cell (p := ⟨w.heap.size, 0, none⟩) (Nat.lt_of_lt_of_le (show w.heap.size < (w.alloc (.cells #[.int .i64 pS, .slice aS S.length cS] 44)).heap.size by simp) (Nat.le_refl _))).trans (show (w.alloc (.cells #[.int .i64 pS, .slice aS S.length cS] 44)).cell? ⟨w.heap.size, 0, none⟩ = some (.int .i64 pS) by simp [go_sem]); have K2_0_1 := (b2.cell (p := ⟨w.heap.size, 1, none⟩) (Nat.lt_of_lt_of_le (show w.heap.size < (w.alloc (.cells #[.int .i64 pS, .slice aS S.length cS] 44)).heap.size by simp) (Nat.le_refl _))).trans (show (w.alloc (.cells #[.int .i64 pS, .slice aS S.length cS] 44)).cell? ⟨w.heap.size, 1, none⟩ = some (.slice aS S.length cS) by simp [go_sem]); clear b2) | (go_at_call 85; (with_reducible refine (l01In_no c 0 (pS - 1) _ HNO.out).mono ?_); rintro e w' ⟨rfl, rfl⟩))
      go_ret2
      exact ⟨by rw [HX.out.1, HX.out.2]; rfl, (below_step ((Below.refl _ _).alloc (Nat.le_refl _) (.cells #[.int .i64 pS, .slice aS S.length cS] 44)) (show w.heap.size ≤ (w.alloc (.cells #[.int .i64 pS, .slice aS S.length cS] 44)).heap.size from (((Below.refl _ _).alloc (Nat.le_refl _) (.cells #[.int .i64 pS, .slice aS S.length cS] 44))).size) B2.out)⟩
  · have hi' : isSp pS S = false := by simpa using hi
    have HI := Lib.hid hi'
    have HX := Lib.hid (cnt_not (c := c) hi')
    clear hi hi'
    go_enter Try.func48, Try.ntmps48
    go_wp2_with (first | (go_at_call 71; (with_reducible refine (l03Is_any pS aS S cS loS tpS _ (HS.out.below ((Below.refl _ _).alloc (Nat.le_refl _) (.cells #[.int .i64 pS, .slice aS S.length cS] 44)) tS) (Nat.le_trans tS (((Below.refl _ _).alloc (Nat.le_refl _) (.cells #[.int .i64 pS, .slice aS S.length cS] 44))).size) sS).mono ?_); rintro e w2 ⟨rfl, b2⟩; rw [HI.out]; have B2 := Lib.hid b2; have K2_0_0 := (b2.cell (p := ⟨w.heap.size, 0, none⟩) (Nat.lt_of_lt_of_le (show w.heap.size < (w.alloc (.cells #[.int .i64 pS, .slice aS S.length cS] 44)).heap.size by simp) (Nat.le_refl _))).trans (show (w.alloc (.cells #[.int .i64 pS, .slice aS S.length cS] 44)).cell? ⟨w.heap.size, 0, none⟩ = some (.int .i64 pS) by simp [go_sem]); have K2_0_1 := (b2.cell (p := ⟨w.heap.size, 1, none⟩) (Nat.lt_of_lt_of_le (show w.heap.size < (w.alloc (.cells #[.int .i64 pS, .slice aS S.length cS] 44)).heap.size by simp) (Nat.le_refl _))).trans (show (w.alloc (.cells #[.int .i64 pS, .slice aS S.length cS] 44)).cell? ⟨w.heap.size, 1, none⟩ = some (.slice aS S.length cS) by simp [go_sem]); clear b2))
    go_ret2
    exact ⟨by rw [HX.out.1, HX.out.2]; rfl, (below_step ((Below.refl _ _).alloc (Nat.le_refl _) (.cells #[.int .i64 pS, .slice aS S.length cS] 44)) (show w.heap.size ≤ (w.alloc (.cells #[.int .i64 pS, .slice aS S.length cS] 44)).heap.size from (((Below.refl _ _).alloc (Nat.le_refl _) (.cells #[.int .i64 pS, .slice aS S.length cS] 44))).size) B2.out)⟩

set_option maxRecDepth 100000 in
set_option maxHeartbeats 3200000 in
theorem impl_CountVectors (pS : Int) (aS : Option Addr) (S : List Int) (cS loS tpS : Nat) (c : Int) (w : World) (hS : RowIn loS tpS w aS S) (tS : tpS ≤ w.heap.size) (sS : S.length ≤ 1048576) :
    Calls Try.prog 49 #[.agg #[.int .i64 pS, .slice aS S.length cS], .int .i64 c] w (RetI (cntV pS S c) (cntC pS S c) w) := by
  have HS := Lib.hid hS
  clear hS
  by_cases hi : isSp pS S = true
  · by_cases hc : 0 ≤ c ∧ c < pS
    · have hpp := prm_bd (isSp_iff.1 hi).prime
      obtain ⟨P, rfl⟩ : ∃ P : Nat, pS = (P : Int) := ⟨pS.toNat, by omega⟩
      obtain ⟨k, rfl⟩ : ∃ k : Nat, c = (k : Int) := ⟨c.toNat, by omega⟩
      have hkP : k < P := by omega
      have hkl : (k : Int) < (P : Int) := by omega
      have hk0 : (0 : Int) ≤ (k : Int) := by omega
      have hk1 : (k : Int) ≤ (P : Int) - 1 := by omega
      have e1 : IntKind.i64.wrap ((P : Int) - 1) = (P : Int) - 1 := IntWalk.i64_in _ (by omega)
      have HI := Lib.hid hi
      have HX := Lib.hid (cnt_in hi hkP)
      clear hi hc
      go_enter Try.func49, Try.ntmps49
      go_wp2_with (first | (go_at_call 87; (with_reducible refine (checkNorm_any (P : Int) aS S cS loS tpS (k : Int) _ (HS.out.below ((Below.refl _ _).alloc (Nat.le_refl _) (.cells #[.int .i64 (P : Int), .slice aS S.length cS] 44)) tS) (Nat.le_trans tS (((Below.refl _ _).alloc (Nat.le_refl _) (.cells #[.int .i64 (P : Int), .slice aS S.length cS] 44))).size) sS).mono ?_); rintro e w2 ⟨rfl, b2⟩; rw [HX.out.1]; have B2 := Lib.hid b2; have K2_0_0 := (b2.cell (p := ⟨w.heap.size, 0, none⟩) (Nat.lt_of_lt_of_le (show w.heap.size < (w.alloc (.cells #[.int .i64 (P : Int), .slice aS S.length cS] 44)).heap.size by simp) (Nat.le_refl _))).trans (show (w.alloc (.cells #[.int .i64 (P : Int), .slice aS S.length cS] 44)).cell? ⟨w.heap.size, 0, none⟩ = some (.int .i64 (P : Int)) by simp [go_sem]); have K2_0_1 := (b2.cell (p := ⟨w.heap.size, 1, none⟩) (Nat.lt_of_lt_of_le (show w.heap.size < (w.alloc (.cells #[.int .i64 (P : Int), .slice aS S.length cS] 44)).heap.size by simp) (Nat.le_refl _))).trans (show (w.alloc (.cells #[.int .i64 (P : Int), .slice aS S.length cS] 44)).cell? ⟨w.heap.size, 1, none⟩ = some (.slice aS S.length cS) by simp [go_sem]); clear b2) | (go_at_call 88; (with_reducible refine (countsOfNorms_any P aS S cS loS tpS _ (HS.out.below (below_step ((Below.refl _ _).alloc (Nat.le_refl _) (.cells #[.int .i64 (P : Int), .slice aS S.length cS] 44)) (show w.heap.size ≤ (w.alloc (.cells #[.int .i64 (P : Int), .slice aS S.length cS] 44)).heap.size from (((Below.refl _ _).alloc (Nat.le_refl _) (.cells #[.int .i64 (P : Int), .slice aS S.length cS] 44))).size) B2.out) tS) (Nat.le_trans tS ((below_step ((Below.refl _ _).alloc (Nat.le_refl _) (.cells #[.int .i64 (P : Int), .slice aS S.length cS] 44)) (show w.heap.size ≤ (w.alloc (.cells #[.int .i64 (P : Int), .slice aS S.length cS] 44)).heap.size from (((Below.refl _ _).alloc (Nat.le_refl _) (.cells #[.int .i64 (P : Int), .slice aS S.length cS] 44))).size) B2.out)).size) HI.out).mono ?_); rintro e w3 ⟨bc, rfl, hr, hb⟩; have B3 := Lib.hid hb; obtain ⟨bx, ox, hax, _, _, hcx⟩ := hr.num (j := k) (by rw [mkR_len]; exact hkP); cases hax; rw [mkR_at _ hkP, Nat.zero_add] at hcx; clear hb hr))
      go_ret2
      exact ⟨by rw [HX.out.1, HX.out.2]; rfl, (below_step (below_step ((Below.refl _ _).alloc (Nat.le_refl _) (.cells #[.int .i64 (P : Int), .slice aS S.length cS] 44)) (show w.heap.size ≤ (w.alloc (.cells #[.int .i64 (P : Int), .slice aS S.length cS] 44)).heap.size from (((Below.refl _ _).alloc (Nat.le_refl _) (.cells #[.int .i64 (P : Int), .slice aS S.length cS] 44))).size) B2.out) (show w.heap.size ≤ w2.heap.size from ((below_step ((Below.refl _ _).alloc (Nat.le_refl _) (.cells #[.int .i64 (P : Int), .slice aS S.length cS] 44)) (show w.heap.size ≤ (w.alloc (.cells #[.int .i64 (P : Int), .slice aS S.length cS] 44)).heap.size from (((Below.refl _ _).alloc (Nat.le_refl _) (.cells #[.int .i64 (P : Int), .slice aS S.length cS] 44))).size) B2.out)).size) B3.out)⟩
    · have hpp := prm_bd (isSp_iff.1 hi).prime
      have HI := Lib.hid hi
      have HX := Lib.hid (cnt_rng hi hc)
      have HNO : Hid (¬ (0 ≤ c ∧ c ≤ pS - 1)) := by show ¬ _; omega
      have e1 : IntKind.i64.wrap (pS - 1) = pS - 1 := IntWalk.i64_in _ (by omega)
      clear hi hc
      go_enter Try.func49, Try.ntmps49
      go_wp2_with (first | (go_at_call 87; (with_reducible refine (checkNorm_any pS aS S cS loS tpS c _ (HS.out.below ((Below.refl _ _).alloc (Nat.le_refl _) (.cells #[.int .i64 pS, .slice aS S.length cS] 44)) tS) (Nat.le_trans tS (((Below.refl _ _).alloc (Nat.le_refl _) (.cells #[.int .i64 pS, .slice aS S.length cS] 44))).size) sS).mono ?_); rintro e w2 ⟨rfl, b2⟩; rw [HX.out.1]; have B2 := Lib.hid b2; have K2_0_0 := (b2.cell (p := ⟨w.heap.size, 0, none⟩) (Nat.lt_of_lt_of_le (show w.heap.size < (w.alloc (.cells #[.int .i64 pS, .slice aS S.length cS] 44)).heap.size by simp) (Nat.le_refl _))).trans (show (w.alloc (.cells #[.int .i64 pS, .slice aS S.length cS] 44)).cell? ⟨w.heap.size, 0, none⟩ = some (.int .i64 pS) by simp [go_sem]); have K2_0_1 := (b2.cell (p := ⟨w.heap.size, 1, none⟩) (Nat.lt_of_lt_of_le (show w.heap.size < (w.alloc (.cells #[.int .i64 pS, .slice aS S.length cS] 44)).heap.size by simp) (Nat.le_refl _))).trans (show (w.alloc (.cells #[.int .i64 pS, .slice aS S.length cS] 44)).cell? ⟨w.heap.size, 1, none⟩ = some (.slice aS S.length cS) by simp [go_sem]); clear b2))
      go_ret2
      exact ⟨by rw [HX.out.1, HX.out.2]; rfl, (below_step ((Below.refl _ _).alloc (Nat.le_refl _) (.cells #[.int .i64 pS, .slice aS S.length cS] 44)) (show w.heap.size ≤ (w.alloc (.cells #[.int .i64 pS, .slice aS S.length cS] 44)).heap.size from (((Below.refl _ _).alloc (Nat.le_refl _) (.cells #[.int .i64 pS, .slice aS S.length cS] 44))).size) B2.out)⟩
  · have hi' : isSp pS S = false := by simpa using hi
    have HI := Lib.hid hi'
    have HX := Lib.hid (cnt_not (c := c) hi')
    clear hi hi'
    go_enter Try.func49, Try.ntmps49
    go_wp2_with (first | (go_at_call 87; (with_reducible refine (checkNorm_any pS aS S cS loS tpS c _ (HS.out.below ((Below.refl _ _).alloc (Nat.le_refl _) (.cells #[.int .i64 pS, .slice aS S.length cS] 44)) tS) (Nat.le_trans tS (((Below.refl _ _).alloc (Nat.le_refl _) (.cells #[.int .i64 pS, .slice aS S.length cS] 44))).size) sS).mono ?_); rintro e w2 ⟨rfl, b2⟩; rw [HX.out.1]; have B2 := Lib.hid b2; have K2_0_0 := (b2.cell (p := ⟨w.heap.size, 0, none⟩) (Nat.lt_of_lt_of_le (show w.heap.size < (w.alloc (.cells #[.int .i64 pS, .slice aS S.length cS] 44)).heap.size by simp) (Nat.le_refl _))).trans (show (w.alloc (.cells #[.int .i64 pS, .slice aS S.length cS] 44)).cell? ⟨w.heap.size, 0, none⟩ = some (.int .i64 pS) by simp [go_sem]); have K2_0_1 := (b2.cell (p := ⟨w.heap.size, 1, none⟩) (Nat.lt_of_lt_of_le (show w.heap.size < (w.alloc (.cells #[.int .i64 pS, .slice aS S.length cS] 44)).heap.size by simp) (Nat.le_refl _))).trans (show (w.alloc (.cells #[.int .i64 pS, .slice aS S.length cS] 44)).cell? ⟨w.heap.size, 1, none⟩ = some (.slice aS S.length cS) by simp [go_sem]); clear b2))
    go_ret2
    exact ⟨by rw [HX.out.1, HX.out.2]; rfl, (below_step ((Below.refl _ _).alloc (Nat.le_refl _) (.cells #[.int .i64 pS, .slice aS S.length cS] 44)) (show w.heap.size ≤ (w.alloc (.cells #[.int .i64 pS, .slice aS S.length cS] 44)).heap.size from (((Below.refl _ _).alloc (Nat.le_refl _) (.cells #[.int .i64 pS, .slice aS S.length cS] 44))).size) B2.out)⟩

end Go.Proofs.Ytihanbfbgiiakaa
