/-
  DiscriminantOf and IsRegular: contracts of the program and of the model.
  Conditions: the lists are nil or rows of known cells, of at most 1048576 numbers.
  DualOf, UndualOf, MeetOf: contracts of the program and of the model.
  Conditions: the lists are nil or rows of known cells, of at most 1048576 numbers.
  Spaces and multivectors checked to be versors (program): contracts of the program and of the model.
  Conditions: the lists are nil or rows of known cells, of at most 1048576 numbers.
  Inverses of versors, vectors led, sandwiches (program): contracts of the program and of the model.
  Conditions: the lists are nil or rows of known cells, of at most 1048576 numbers.
  Vectors led by motions (program): contracts of the program and of the model.
  Conditions: the lists are nil or rows of known cells, of at most 1048576 numbers.
  What square roots of numbers are, in the program and in the model: contracts of the method root and of the model's helper.
  Conditions: the prime is one, the number is a remainder by it.
  Laws of versors, the program's side: contracts of the program and of the model.
  Conditions: the lists are nil or rows of known cells, of at most 1048576 numbers.
  NormOf: contracts of the program and of the model.
  Conditions: the lists are nil or rows of known cells, of at most 1048576 numbers.
-/
import Derived.Test.YtigdepahbnidjaaQr9
import Derived.Test.YtigdepahbnidjaaQr10
import Derived.Test.YtigdepahbnidjaaQr12
import Derived.Deep.RegionHeld3
import Derived.Deep.DeepCutAuto
import Derived.Test.YtigdepahbnidjaaQr11
import Derived.RegionTactic
import Derived.Laws.StructEq
import Derived.Outline
namespace Go.Proofs.Ytigdepahbnidjaa
open Go.RowKit
set_option linter.unusedVariables false

theorem mul_zero_iff {p a b : Int} (hp : prm p = true) (a0 : 0 ≤ a) (a1 : a < p) (b0 : 0 ≤ b) (b1 : b < p) : a * b % p = 0 ↔ a = 0 ∨ b = 0 := by
  have := every2_at (Q := fun p a b => decide (a * b % p = 0 ↔ a = 0 ∨ b = 0)) (by decide +kernel) hp a0 a1 b0 b1
  exact of_decide_eq_true this
theorem disN_zero {p : Int} {S : List Int} (hp : prm p = true) {i : Nat} (h : ∀ j, j < i → 0 ≤ S.getD j 0 ∧ S.getD j 0 < p) : disN p S i = 0 ↔ ∃ j, j < i ∧ S.getD j 0 = 0 := by
  induction i with
  | zero => simp [disN]
  | succ i ih =>
    have b := disN_bd hp S i
    have c := h i (by omega)
    show disN p S i * S.getD i 0 % p = 0 ↔ _
    rw [mul_zero_iff hp b.1 b.2 c.1 c.2, ih (fun j hj => h j (by omega))]
    constructor
    · rintro (⟨j, h1, h2⟩ | h1)
      · exact ⟨j, by omega, h2⟩
      · exact ⟨i, by omega, h1⟩
    · rintro ⟨j, h1, h2⟩
      by_cases e : j = i
      · subst e; exact .inr h2
      · exact .inl ⟨j, by omega, h2⟩
theorem disc_any {p : Int} {S : List Int} (hs : isSp p S = true) : S.any (· == 0) = !(discN p S != 0) := by
  have K := isSp_iff.1 hs
  have e := disN_zero K.prime (i := S.length) (fun j hj => K.num hj)
  rcases isAt_cases S 0 with ⟨k, hk, he⟩ | ⟨hk, he⟩
  · rw [he]
    have : discN p S = 0 := e.2 ⟨k, hk.1, hk.2.2⟩
    simp [this]
  · rw [he]
    have : discN p S ≠ 0 := fun h => by obtain ⟨j, h1, h2⟩ := e.1 h; exact hk j h1 h2
    simp [this]

theorem isRegular_any (pS : Int) (aS : Option Addr) (S : List Int) (cS loS tpS : Nat) (w : World)
    (hS : RowIn loS tpS w aS S) (tS : tpS ≤ w.heap.size) (hs : isSp pS S = true) :
    Calls Try.prog 87 #[.agg #[.int .i64 pS, .slice aS S.length cS]] w fun e w' => e = .returned (.bool (discN pS S != 0)) ∧ Below w.heap.size w w' := by
  have HS := Lib.hid hS
  have HD := Lib.hid (disc_any hs)
  have hl := (isSp_iff.1 hs).hi
  clear hS hs
  go_enter Try.func87, Try.ntmps87
  go_wp2_with (first | (go_at_call 124; (with_reducible refine (contains64_any aS S 0 _ cS loS tpS _ (HS.out.below ((Below.refl _ _).alloc (Nat.le_refl _) (.cells #[.int .i64 pS, .slice aS S.length cS] 30)) tS) rfl (by omega)).mono ?_); rintro e w' ⟨rfl, rfl⟩; rw [HD.out]))
  go_ret
  exact ⟨by simp, ((Below.refl _ _).alloc (Nat.le_refl _) (.cells #[.int .i64 pS, .slice aS S.length cS] 30))⟩

end Go.Proofs.Ytigdepahbnidjaa

namespace Go.Proofs.Ytigdepahbnidjaa
open Go.RowKit
set_option linter.unusedVariables false

def regC (p : Int) (S : List Int) (m : List (List Int)) : Int := if codeMv p S m = 0 then (if discN p S = 0 then 5 else 0) else codeMv p S m
theorem regC_cases (p : Int) (S : List Int) (m : List (List Int)) : (isSp p S = false ∧ codeMv p S m = 1 ∧ regC p S m = 1) ∨ (isSp p S = true ∧ codeMv p S m = 2 ∧ regC p S m = 2) ∨ (isSp p S = true ∧ m.all (isMv p S) = true ∧ codeMv p S m = 0 ∧ discN p S = 0 ∧ regC p S m = 5) ∨ (isSp p S = true ∧ m.all (isMv p S) = true ∧ codeMv p S m = 0 ∧ discN p S ≠ 0 ∧ regC p S m = 0) := by
  unfold regC
  rcases codeMv_cases p S m with ⟨hi, hc⟩ | ⟨hi, ha, hc⟩ | ⟨hi, ha, hc⟩
  · exact .inl ⟨hi, hc, by rw [hc]; rfl⟩
  · by_cases hd : discN p S = 0
    · exact .inr (.inr (.inl ⟨hi, ha, hc, hd, by rw [if_pos hc, if_pos hd]⟩))
    · exact .inr (.inr (.inr ⟨hi, ha, hc, hd, by rw [if_pos hc, if_neg hd]⟩))
  · exact .inr (.inl ⟨hi, hc, by rw [hc]; rfl⟩)
set_option maxRecDepth 100000 in
set_option maxHeartbeats 1600000 in
theorem checkRegular_any (pS : Int) (aS : Option Addr) (S : List Int) (cS loS tpS : Nat) (am : Option Addr) (m : List (List Int)) (cm lom tpm : Nat) (w : World) (hS : RowIn loS tpS w aS S) (tS : tpS ≤ w.heap.size) (sS : S.length ≤ 1048576) (hm : MatIn lom tpm w am m) (tm : tpm ≤ w.heap.size) (sm : m.length ≤ 1048576) (sr : ∀ i, i < m.length → (rw' m i).length ≤ 1048576) :
    Calls Try.prog 49 #[.agg #[.int .i64 pS, .slice aS S.length cS], .slice am m.length cm] w fun e w' => e = .returned (.int .i64 (regC pS S m)) ∧ Below w.heap.size w w' := by
  have HS := Lib.hid hS
  have Hm := Lib.hid hm
  have HSR := Lib.hid sr
  clear hS hm sr
  rcases regC_cases pS S m with ⟨hi, hc, hr⟩ | ⟨hi, hc, hr⟩ | ⟨hi, ha, hc, hd, hr⟩ | ⟨hi, ha, hc, hd, hr⟩
  · have HC := Lib.hid hc
    have HR := Lib.hid hr
    clear hi hc hr
    go_enter Try.func49, Try.ntmps49
    go_wp2_with (first | (go_at_call 86; (with_reducible refine (checkMultivectors_any pS aS S cS loS tpS am m cm lom tpm _ (HS.out.below ((Below.refl _ _).alloc (Nat.le_refl _) (.cells #[.int .i64 pS, .slice aS S.length cS] 30)) tS) (Nat.le_trans tS (((Below.refl _ _).alloc (Nat.le_refl _) (.cells #[.int .i64 pS, .slice aS S.length cS] 30))).size) sS (Hm.out.below ((Below.refl _ _).alloc (Nat.le_refl _) (.cells #[.int .i64 pS, .slice aS S.length cS] 30)) tm) (Nat.le_trans tm (((Below.refl _ _).alloc (Nat.le_refl _) (.cells #[.int .i64 pS, .slice aS S.length cS] 30))).size) sm HSR.out).mono ?_); rintro e w2 ⟨rfl, b2⟩; rw [HC.out]; have B2 := Lib.hid b2; have K2_0_0 := (b2.cell (p := ⟨w.heap.size, 0, none⟩) (Nat.lt_of_lt_of_le (show w.heap.size < (w.alloc (.cells #[.int .i64 pS, .slice aS S.length cS] 30)).heap.size by simp) (Nat.le_refl _))).trans (show (w.alloc (.cells #[.int .i64 pS, .slice aS S.length cS] 30)).cell? ⟨w.heap.size, 0, none⟩ = some (.int .i64 pS) by simp [go_sem]); have K2_0_1 := (b2.cell (p := ⟨w.heap.size, 1, none⟩) (Nat.lt_of_lt_of_le (show w.heap.size < (w.alloc (.cells #[.int .i64 pS, .slice aS S.length cS] 30)).heap.size by simp) (Nat.le_refl _))).trans (show (w.alloc (.cells #[.int .i64 pS, .slice aS S.length cS] 30)).cell? ⟨w.heap.size, 1, none⟩ = some (.slice aS S.length cS) by simp [go_sem]); clear b2))
    go_ret
    exact ⟨by rw [HR.out]; rfl, (below_step ((Below.refl _ _).alloc (Nat.le_refl _) (.cells #[.int .i64 pS, .slice aS S.length cS] 30)) (show w.heap.size ≤ (w.alloc (.cells #[.int .i64 pS, .slice aS S.length cS] 30)).heap.size from (((Below.refl _ _).alloc (Nat.le_refl _) (.cells #[.int .i64 pS, .slice aS S.length cS] 30))).size) B2.out)⟩
  · have HC := Lib.hid hc
    have HR := Lib.hid hr
    clear hi hc hr
    go_enter Try.func49, Try.ntmps49
    go_wp2_with (first | (go_at_call 86; (with_reducible refine (checkMultivectors_any pS aS S cS loS tpS am m cm lom tpm _ (HS.out.below ((Below.refl _ _).alloc (Nat.le_refl _) (.cells #[.int .i64 pS, .slice aS S.length cS] 30)) tS) (Nat.le_trans tS (((Below.refl _ _).alloc (Nat.le_refl _) (.cells #[.int .i64 pS, .slice aS S.length cS] 30))).size) sS (Hm.out.below ((Below.refl _ _).alloc (Nat.le_refl _) (.cells #[.int .i64 pS, .slice aS S.length cS] 30)) tm) (Nat.le_trans tm (((Below.refl _ _).alloc (Nat.le_refl _) (.cells #[.int .i64 pS, .slice aS S.length cS] 30))).size) sm HSR.out).mono ?_); rintro e w2 ⟨rfl, b2⟩; rw [HC.out]; have B2 := Lib.hid b2; have K2_0_0 := (b2.cell (p := ⟨w.heap.size, 0, none⟩) (Nat.lt_of_lt_of_le (show w.heap.size < (w.alloc (.cells #[.int .i64 pS, .slice aS S.length cS] 30)).heap.size by simp) (Nat.le_refl _))).trans (show (w.alloc (.cells #[.int .i64 pS, .slice aS S.length cS] 30)).cell? ⟨w.heap.size, 0, none⟩ = some (.int .i64 pS) by simp [go_sem]); have K2_0_1 := (b2.cell (p := ⟨w.heap.size, 1, none⟩) (Nat.lt_of_lt_of_le (show w.heap.size < (w.alloc (.cells #[.int .i64 pS, .slice aS S.length cS] 30)).heap.size by simp) (Nat.le_refl _))).trans (show (w.alloc (.cells #[.int .i64 pS, .slice aS S.length cS] 30)).cell? ⟨w.heap.size, 1, none⟩ = some (.slice aS S.length cS) by simp [go_sem]); clear b2))
    go_ret
    exact ⟨by rw [HR.out]; rfl, (below_step ((Below.refl _ _).alloc (Nat.le_refl _) (.cells #[.int .i64 pS, .slice aS S.length cS] 30)) (show w.heap.size ≤ (w.alloc (.cells #[.int .i64 pS, .slice aS S.length cS] 30)).heap.size from (((Below.refl _ _).alloc (Nat.le_refl _) (.cells #[.int .i64 pS, .slice aS S.length cS] 30))).size) B2.out)⟩
  · have HC := Lib.hid hc
    have HR := Lib.hid hr
    have HI := Lib.hid hi
    have HD : Hid ((discN pS S != 0) = false) := by show _ = _; simp [hd]
    clear hi hc hr ha hd
    go_enter Try.func49, Try.ntmps49
    go_wp2_with (first | (go_at_call 86; (with_reducible refine (checkMultivectors_any pS aS S cS loS tpS am m cm lom tpm _ (HS.out.below ((Below.refl _ _).alloc (Nat.le_refl _) (.cells #[.int .i64 pS, .slice aS S.length cS] 30)) tS) (Nat.le_trans tS (((Below.refl _ _).alloc (Nat.le_refl _) (.cells #[.int .i64 pS, .slice aS S.length cS] 30))).size) sS (Hm.out.below ((Below.refl _ _).alloc (Nat.le_refl _) (.cells #[.int .i64 pS, .slice aS S.length cS] 30)) tm) (Nat.le_trans tm (((Below.refl _ _).alloc (Nat.le_refl _) (.cells #[.int .i64 pS, .slice aS S.length cS] 30))).size) sm HSR.out).mono ?_); rintro e w2 ⟨rfl, b2⟩; rw [HC.out]; have B2 := Lib.hid b2; have K2_0_0 := (b2.cell (p := ⟨w.heap.size, 0, none⟩) (Nat.lt_of_lt_of_le (show w.heap.size < (w.alloc (.cells #[.int .i64 pS, .slice aS S.length cS] 30)).heap.size by simp) (Nat.le_refl _))).trans (show (w.alloc (.cells #[.int .i64 pS, .slice aS S.length cS] 30)).cell? ⟨w.heap.size, 0, none⟩ = some (.int .i64 pS) by simp [go_sem]); have K2_0_1 := (b2.cell (p := ⟨w.heap.size, 1, none⟩) (Nat.lt_of_lt_of_le (show w.heap.size < (w.alloc (.cells #[.int .i64 pS, .slice aS S.length cS] 30)).heap.size by simp) (Nat.le_refl _))).trans (show (w.alloc (.cells #[.int .i64 pS, .slice aS S.length cS] 30)).cell? ⟨w.heap.size, 1, none⟩ = some (.slice aS S.length cS) by simp [go_sem]); clear b2) | (go_at_call 87; (with_reducible refine (isRegular_any pS aS S cS loS tpS _ (HS.out.below (below_step ((Below.refl _ _).alloc (Nat.le_refl _) (.cells #[.int .i64 pS, .slice aS S.length cS] 30)) (show w.heap.size ≤ (w.alloc (.cells #[.int .i64 pS, .slice aS S.length cS] 30)).heap.size from (((Below.refl _ _).alloc (Nat.le_refl _) (.cells #[.int .i64 pS, .slice aS S.length cS] 30))).size) B2.out) tS) (Nat.le_trans tS ((below_step ((Below.refl _ _).alloc (Nat.le_refl _) (.cells #[.int .i64 pS, .slice aS S.length cS] 30)) (show w.heap.size ≤ (w.alloc (.cells #[.int .i64 pS, .slice aS S.length cS] 30)).heap.size from (((Below.refl _ _).alloc (Nat.le_refl _) (.cells #[.int .i64 pS, .slice aS S.length cS] 30))).size) B2.out)).size) HI.out).mono ?_); rintro e w3 ⟨rfl, b3⟩; rw [HD.out]; have B3 := Lib.hid b3; have K3_0_0 := (b3.cell (p := ⟨w.heap.size, 0, none⟩) (Nat.lt_of_lt_of_le (show w.heap.size < (w.alloc (.cells #[.int .i64 pS, .slice aS S.length cS] 30)).heap.size by simp) (Nat.le_trans (Nat.le_refl _) B2.out.size))).trans K2_0_0; clear K2_0_0; have K3_0_1 := (b3.cell (p := ⟨w.heap.size, 1, none⟩) (Nat.lt_of_lt_of_le (show w.heap.size < (w.alloc (.cells #[.int .i64 pS, .slice aS S.length cS] 30)).heap.size by simp) (Nat.le_trans (Nat.le_refl _) B2.out.size))).trans K2_0_1; clear K2_0_1; clear b3))
    go_ret
    exact ⟨by rw [HR.out]; rfl, (below_step (below_step ((Below.refl _ _).alloc (Nat.le_refl _) (.cells #[.int .i64 pS, .slice aS S.length cS] 30)) (show w.heap.size ≤ (w.alloc (.cells #[.int .i64 pS, .slice aS S.length cS] 30)).heap.size from (((Below.refl _ _).alloc (Nat.le_refl _) (.cells #[.int .i64 pS, .slice aS S.length cS] 30))).size) B2.out) (show w.heap.size ≤ w2.heap.size from ((below_step ((Below.refl _ _).alloc (Nat.le_refl _) (.cells #[.int .i64 pS, .slice aS S.length cS] 30)) (show w.heap.size ≤ (w.alloc (.cells #[.int .i64 pS, .slice aS S.length cS] 30)).heap.size from (((Below.refl _ _).alloc (Nat.le_refl _) (.cells #[.int .i64 pS, .slice aS S.length cS] 30))).size) B2.out)).size) B3.out)⟩
  · have HC := Lib.hid hc
    have HR := Lib.hid hr
    have HI := Lib.hid hi
    have HD : Hid ((discN pS S != 0) = true) := by show _ = _; simp [hd]
    clear hi hc hr ha hd
    go_enter Try.func49, Try.ntmps49
    go_wp2_with (first | (go_at_call 86; (with_reducible refine (checkMultivectors_any pS aS S cS loS tpS am m cm lom tpm _ (HS.out.below ((Below.refl _ _).alloc (Nat.le_refl _) (.cells #[.int .i64 pS, .slice aS S.length cS] 30)) tS) (Nat.le_trans tS (((Below.refl _ _).alloc (Nat.le_refl _) (.cells #[.int .i64 pS, .slice aS S.length cS] 30))).size) sS (Hm.out.below ((Below.refl _ _).alloc (Nat.le_refl _) (.cells #[.int .i64 pS, .slice aS S.length cS] 30)) tm) (Nat.le_trans tm (((Below.refl _ _).alloc (Nat.le_refl _) (.cells #[.int .i64 pS, .slice aS S.length cS] 30))).size) sm HSR.out).mono ?_); rintro e w2 ⟨rfl, b2⟩; rw [HC.out]; have B2 := Lib.hid b2; have K2_0_0 := (b2.cell (p := ⟨w.heap.size, 0, none⟩) (Nat.lt_of_lt_of_le (show w.heap.size < (w.alloc (.cells #[.int .i64 pS, .slice aS S.length cS] 30)).heap.size by simp) (Nat.le_refl _))).trans (show (w.alloc (.cells #[.int .i64 pS, .slice aS S.length cS] 30)).cell? ⟨w.heap.size, 0, none⟩ = some (.int .i64 pS) by simp [go_sem]); have K2_0_1 := (b2.cell (p := ⟨w.heap.size, 1, none⟩) (Nat.lt_of_lt_of_le (show w.heap.size < (w.alloc (.cells #[.int .i64 pS, .slice aS S.length cS] 30)).heap.size by simp) (Nat.le_refl _))).trans (show (w.alloc (.cells #[.int .i64 pS, .slice aS S.length cS] 30)).cell? ⟨w.heap.size, 1, none⟩ = some (.slice aS S.length cS) by simp [go_sem]); clear b2) | (go_at_call 87; (with_reducible refine (isRegular_any pS aS S cS loS tpS _ (HS.out.below (below_step ((Below.refl _ _).alloc (Nat.le_refl _) (.cells #[.int .i64 pS, .slice aS S.length cS] 30)) (show w.heap.size ≤ (w.alloc (.cells #[.int .i64 pS, .slice aS S.length cS] 30)).heap.size from (((Below.refl _ _).alloc (Nat.le_refl _) (.cells #[.int .i64 pS, .slice aS S.length cS] 30))).size) B2.out) tS) (Nat.le_trans tS ((below_step ((Below.refl _ _).alloc (Nat.le_refl _) (.cells #[.int .i64 pS, .slice aS S.length cS] 30)) (show w.heap.size ≤ (w.alloc (.cells #[.int .i64 pS, .slice aS S.length cS] 30)).heap.size from (((Below.refl _ _).alloc (Nat.le_refl _) (.cells #[.int .i64 pS, .slice aS S.length cS] 30))).size) B2.out)).size) HI.out).mono ?_); rintro e w3 ⟨rfl, b3⟩; rw [HD.out]; have B3 := Lib.hid b3; have K3_0_0 := (b3.cell (p := ⟨w.heap.size, 0, none⟩) (Nat.lt_of_lt_of_le (show w.heap.size < (w.alloc (.cells #[.int .i64 pS, .slice aS S.length cS] 30)).heap.size by simp) (Nat.le_trans (Nat.le_refl _) B2.out.size))).trans K2_0_0; clear K2_0_0; have K3_0_1 := (b3.cell (p := ⟨w.heap.size, 1, none⟩) (Nat.lt_of_lt_of_le (show w.heap.size < (w.alloc (.cells #[.int .i64 pS, .slice aS S.length cS] 30)).heap.size by simp) (Nat.le_trans (Nat.le_refl _) B2.out.size))).trans K2_0_1; clear K2_0_1; clear b3))
    go_ret
    exact ⟨by rw [HR.out]; rfl, (below_step (below_step ((Below.refl _ _).alloc (Nat.le_refl _) (.cells #[.int .i64 pS, .slice aS S.length cS] 30)) (show w.heap.size ≤ (w.alloc (.cells #[.int .i64 pS, .slice aS S.length cS] 30)).heap.size from (((Below.refl _ _).alloc (Nat.le_refl _) (.cells #[.int .i64 pS, .slice aS S.length cS] 30))).size) B2.out) (show w.heap.size ≤ w2.heap.size from ((below_step ((Below.refl _ _).alloc (Nat.le_refl _) (.cells #[.int .i64 pS, .slice aS S.length cS] 30)) (show w.heap.size ≤ (w.alloc (.cells #[.int .i64 pS, .slice aS S.length cS] 30)).heap.size from (((Below.refl _ _).alloc (Nat.le_refl _) (.cells #[.int .i64 pS, .slice aS S.length cS] 30))).size) B2.out)).size) B3.out)⟩

end Go.Proofs.Ytigdepahbnidjaa

namespace Go.Proofs.Ytigdepahbnidjaa
open Go.RowKit
set_option linter.unusedVariables false

/-- The cells of the box of a versor. -/
def BoxW (g : Nat) (p : Int) (aS : Option Addr) (n cS : Nat) (ax : Option Addr) (l cx : Nat) (F : Int) (W : World) : Prop :=
  W.cell? ⟨g, 0, none⟩ = some (.int .i64 p) ∧ W.cell? ⟨g, 1, none⟩ = some (.slice aS n cS) ∧ W.cell? ⟨g, 2, none⟩ = some (.slice ax l cx) ∧ W.cell? ⟨g, 3, none⟩ = some (.int .i64 p) ∧ W.cell? ⟨g, 4, none⟩ = some (.int .i64 F)
theorem BoxW.below {g : Nat} {p F : Int} {aS ax : Option Addr} {n cS l cx B : Nat} {w w' : World} (h : BoxW g p aS n cS ax l cx F w) (hb : Below B w w') (hg : g < B) : BoxW g p aS n cS ax l cx F w' :=
  ⟨(hb.cell (p := ⟨g, 0, none⟩) hg).trans h.1, (hb.cell (p := ⟨g, 1, none⟩) hg).trans h.2.1, (hb.cell (p := ⟨g, 2, none⟩) hg).trans h.2.2.1, (hb.cell (p := ⟨g, 3, none⟩) hg).trans h.2.2.2.1, (hb.cell (p := ⟨g, 4, none⟩) hg).trans h.2.2.2.2⟩
theorem BoxW.wrote {g b o m : Nat} {p F : Int} {aS ax : Option Addr} {n cS l cx : Nat} {w w' : World} (h : BoxW g p aS n cS ax l cx F w) (hb : Wrote b o m w w') (hg : g ≠ b) : BoxW g p aS n cS ax l cx F w' :=
  ⟨(World.cell?_of_block (w := w) (a := ⟨g, 0, none⟩) (hb.block g hg)).trans h.1, (World.cell?_of_block (w := w) (a := ⟨g, 1, none⟩) (hb.block g hg)).trans h.2.1, (World.cell?_of_block (w := w) (a := ⟨g, 2, none⟩) (hb.block g hg)).trans h.2.2.1, (World.cell?_of_block (w := w) (a := ⟨g, 3, none⟩) (hb.block g hg)).trans h.2.2.2.1, (World.cell?_of_block (w := w) (a := ⟨g, 4, none⟩) (hb.block g hg)).trans h.2.2.2.2⟩
theorem BoxW.new (w : World) (p : Int) (aS : Option Addr) (n cS : Nat) (ax : Option Addr) (l cx : Nat) (F : Int) (T : TypeId) : BoxW w.heap.size p aS n cS ax l cx F (w.alloc (.cells #[.int .i64 p, .slice aS n cS, .slice ax l cx, .int .i64 p, .int .i64 F] T)) :=
  ⟨by simp [go_sem], by simp [go_sem], by simp [go_sem], by simp [go_sem], by simp [go_sem]⟩
end Go.Proofs.Ytigdepahbnidjaa

namespace Go.Proofs.Ytigdepahbnidjaa
open Go.RowKit
set_option linter.unusedVariables false

/-- Five cells. -/
def Box5 (g : Nat) (v0 v1 v2 v3 v4 : Value) (W : World) : Prop :=
  W.cell? ⟨g, 0, none⟩ = some v0 ∧ W.cell? ⟨g, 1, none⟩ = some v1 ∧ W.cell? ⟨g, 2, none⟩ = some v2 ∧ W.cell? ⟨g, 3, none⟩ = some v3 ∧ W.cell? ⟨g, 4, none⟩ = some v4
theorem Box5.below {g B : Nat} {v0 v1 v2 v3 v4 : Value} {w w' : World} (h : Box5 g v0 v1 v2 v3 v4 w) (b : Below B w w') (l : g < B) : Box5 g v0 v1 v2 v3 v4 w' :=
  ⟨(b.cell (p := ⟨g, 0, none⟩) l).trans h.1, (b.cell (p := ⟨g, 1, none⟩) l).trans h.2.1, (b.cell (p := ⟨g, 2, none⟩) l).trans h.2.2.1, (b.cell (p := ⟨g, 3, none⟩) l).trans h.2.2.2.1, (b.cell (p := ⟨g, 4, none⟩) l).trans h.2.2.2.2⟩
/-- The boxes of a space and of a number. -/
def BoxU (g m : Nat) (p : Int) (aS : Option Addr) (n cS : Nat) (R : Int) (W : World) : Prop :=
  W.cell? ⟨g, 0, none⟩ = some (.int .i64 p) ∧ W.cell? ⟨g, 1, none⟩ = some (.slice aS n cS) ∧ W.cell? ⟨m, 0, none⟩ = some (.int .i64 p) ∧ W.cell? ⟨m, 1, none⟩ = some (.int .i64 R)
theorem BoxU.below {g m : Nat} {p R : Int} {aS : Option Addr} {n cS B : Nat} {w w' : World} (h : BoxU g m p aS n cS R w) (hb : Below B w w') (hg : g < B ∧ m < B) : BoxU g m p aS n cS R w' :=
  ⟨(hb.cell (p := ⟨g, 0, none⟩) hg.1).trans h.1, (hb.cell (p := ⟨g, 1, none⟩) hg.1).trans h.2.1, (hb.cell (p := ⟨m, 0, none⟩) hg.2).trans h.2.2.1, (hb.cell (p := ⟨m, 1, none⟩) hg.2).trans h.2.2.2⟩
theorem BoxU.wrote {g m b o k : Nat} {p R : Int} {aS : Option Addr} {n cS : Nat} {w w' : World} (h : BoxU g m p aS n cS R w) (hb : Wrote b o k w w') (hg : g ≠ b ∧ m ≠ b) : BoxU g m p aS n cS R w' :=
  ⟨(World.cell?_of_block (w := w) (a := ⟨g, 0, none⟩) (hb.block g hg.1)).trans h.1, (World.cell?_of_block (w := w) (a := ⟨g, 1, none⟩) (hb.block g hg.1)).trans h.2.1, (World.cell?_of_block (w := w) (a := ⟨m, 0, none⟩) (hb.block m hg.2)).trans h.2.2.1, (World.cell?_of_block (w := w) (a := ⟨m, 1, none⟩) (hb.block m hg.2)).trans h.2.2.2⟩
end Go.Proofs.Ytigdepahbnidjaa

namespace Go.Proofs.Ytigdepahbnidjaa
open Go.RowKit
set_option linter.unusedVariables false

theorem norm_any (pS : Int) (aS : Option Addr) (S : List Int) (cS loS tpS : Nat) (av : Option Addr) (v : List Int) (cv lov tpv : Nat) (w : World)
    (hS : RowIn loS tpS w aS S) (tS : tpS ≤ w.heap.size) (hv : RowIn lov tpv w av v) (tv : tpv ≤ w.heap.size) (hs : isSp pS S = true) (h1 : isVec pS S.length v = true) :
    Calls Try.prog 60 #[.agg #[.int .i64 pS, .slice aS S.length cS], .slice av v.length cv] w fun e w' => e = .returned (.int .i64 (pairN pS S v v)) ∧ Below w.heap.size w w' := by
  have HS := Lib.hid hS
  have Hv := Lib.hid hv
  have HI := Lib.hid hs
  have HV1 := Lib.hid h1
  clear hS hv hs h1
  go_enter Try.func60, Try.ntmps60
  go_wp2_with (first | (go_at_call 98; (with_reducible refine (pair_any pS aS S cS loS tpS av v cv lov tpv av v cv lov tpv _ (HS.out.below ((Below.refl _ _).alloc (Nat.le_refl _) (.cells #[.int .i64 pS, .slice aS S.length cS] 30)) tS) (Nat.le_trans tS (((Below.refl _ _).alloc (Nat.le_refl _) (.cells #[.int .i64 pS, .slice aS S.length cS] 30))).size) (Hv.out.below ((Below.refl _ _).alloc (Nat.le_refl _) (.cells #[.int .i64 pS, .slice aS S.length cS] 30)) tv) (Nat.le_trans tv (((Below.refl _ _).alloc (Nat.le_refl _) (.cells #[.int .i64 pS, .slice aS S.length cS] 30))).size) (Hv.out.below ((Below.refl _ _).alloc (Nat.le_refl _) (.cells #[.int .i64 pS, .slice aS S.length cS] 30)) tv) (Nat.le_trans tv (((Below.refl _ _).alloc (Nat.le_refl _) (.cells #[.int .i64 pS, .slice aS S.length cS] 30))).size) HI.out HV1.out HV1.out).mono ?_); rintro e w2 ⟨rfl, b2⟩; have B2 := Lib.hid b2; have K2_0_0 := (b2.cell (p := ⟨w.heap.size, 0, none⟩) (Nat.lt_of_lt_of_le (show w.heap.size < (w.alloc (.cells #[.int .i64 pS, .slice aS S.length cS] 30)).heap.size by simp) (Nat.le_refl _))).trans (show (w.alloc (.cells #[.int .i64 pS, .slice aS S.length cS] 30)).cell? ⟨w.heap.size, 0, none⟩ = some (.int .i64 pS) by simp [go_sem]); have K2_0_1 := (b2.cell (p := ⟨w.heap.size, 1, none⟩) (Nat.lt_of_lt_of_le (show w.heap.size < (w.alloc (.cells #[.int .i64 pS, .slice aS S.length cS] 30)).heap.size by simp) (Nat.le_refl _))).trans (show (w.alloc (.cells #[.int .i64 pS, .slice aS S.length cS] 30)).cell? ⟨w.heap.size, 1, none⟩ = some (.slice aS S.length cS) by simp [go_sem]); clear b2))
  go_ret
  exact ⟨rfl, (below_step ((Below.refl _ _).alloc (Nat.le_refl _) (.cells #[.int .i64 pS, .slice aS S.length cS] 30)) (show w.heap.size ≤ (w.alloc (.cells #[.int .i64 pS, .slice aS S.length cS] 30)).heap.size from (((Below.refl _ _).alloc (Nat.le_refl _) (.cells #[.int .i64 pS, .slice aS S.length cS] 30))).size) B2.out)⟩

end Go.Proofs.Ytigdepahbnidjaa
