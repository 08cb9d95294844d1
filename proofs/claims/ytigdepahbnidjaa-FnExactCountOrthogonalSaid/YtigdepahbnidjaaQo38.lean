/-
  WittIndex: contracts of the program and of the model.
  Conditions: the lists are nil or rows of known cells, of at most 1048576 numbers.
-/
import Derived.Test.YtigdepahbnidjaaQo14
import Derived.Test.YtigdepahbnidjaaQo10
import Derived.Test.YtigdepahbnidjaaQo15
namespace Go.Proofs.Ytigdepahbnidjaa
open Go.RowKit
set_option linter.unusedVariables false

/-- The number that has to be a square, and the index. -/
def wsg (p : Int) (S : List Int) : Int := if ((S.length : Int) / 2) % 2 = 1 then -discN p S % p else discN p S
def wittN (p : Int) (S : List Int) : Int := if (S.length : Int) % 2 = 1 then (S.length : Int) / 2 else if 0 ≤ rt p (wsg p S) then (S.length : Int) / 2 else (S.length : Int) / 2 - 1
theorem wsg_bd {p : Int} (hp : prm p = true) (S : List Int) : 0 ≤ wsg p S ∧ wsg p S < p := by
  unfold wsg
  split
  · exact mod_bd hp _
  · exact discN_bd hp S
theorem sgn_pow {p a : Int} (hp : prm p = true) (a0 : 0 ≤ a) (a1 : a < p) {k : Nat} (hk : k ≤ 3) : a * pw p (-1 % p) k % p = if k % 2 = 1 then -a % p else a := by
  have h := every_at (Q := fun p a => (List.range 4).all fun k => decide (a * pw p (-1 % p) k % p = if k % 2 = 1 then -a % p else a)) (by decide +kernel) hp a0 a1
  rw [List.all_eq_true] at h
  exact of_decide_eq_true (h k (List.mem_range.2 (by omega)))
theorem wsg_pow {p : Int} {S : List Int} (hs : isSp p S = true) : discN p S * pw p (-1 % p) ((S.length : Int) / 2).toNat % p = wsg p S := by
  have K := isSp_iff.1 hs
  have b := discN_bd K.prime S
  have hl := K.hi
  rw [sgn_pow K.prime b.1 b.2 (by omega)]
  unfold wsg
  by_cases e : ((S.length : Int) / 2) % 2 = 1
  · rw [if_pos e, if_pos (by omega)]
  · rw [if_neg e, if_neg (by omega)]

set_option maxRecDepth 100000 in
set_option maxHeartbeats 1600000 in
theorem l03Witt_any (pS : Int) (aS : Option Addr) (S : List Int) (cS loS tpS : Nat) (w : World)
    (hS : RowIn loS tpS w aS S) (tS : tpS ≤ w.heap.size) (hs : isSp pS S = true) :
    Calls Try.prog 107 #[.agg #[.int .i64 pS, .slice aS S.length cS]] w fun e w' => e = .returned (.int .i64 (wittN pS S)) ∧ Below w.heap.size w w' := by
  have K := isSp_iff.1 hs
  have HS := Lib.hid hS
  have HI := Lib.hid hs
  have HP := Lib.hid K.prime
  have hl := K.hi
  have hpb := prm_bd K.prime
  obtain ⟨d0, d1⟩ := discN_bd K.prime S
  clear hS hs K
  by_cases e1 : (S.length : Int) % 2 = 1
  · have HV : Hid (wittN pS S = (S.length : Int) / 2) := by show _ = _; unfold wittN; rw [if_pos e1]
    have e2 : ((S.length : Int) % 2 == 1) = true := by simpa using e1
    go_enter Try.func107, Try.ntmps107
    go_wp2
    go_ret
    exact ⟨by rw [HV.out]; rfl, below_alloc w _⟩
  · have e2 : ((S.length : Int) % 2 == 1) = false := by simpa using e1
    by_cases e3 : ((S.length : Int) / 2) % 2 = 1
    · have e4 : (((S.length : Int) / 2) % 2 == 1) = true := by simpa using e3
      obtain ⟨s0, s1⟩ := wsg_bd HP.out S
      have HG : Hid (wsg pS S = -discN pS S % pS) := by show _ = _; unfold wsg; rw [if_pos e3]
      have e5 : IntKind.i64.wrap (pS - discN pS S) = pS - discN pS S := IntWalk.i64_in _ (by omega)
      have hyy : (pS - discN pS S) % pS = -discN pS S % pS := by simp
      have e6 : (pS - discN pS S).tmod pS = wsg pS S := ((Int.tmod_eq_emod_of_nonneg (by omega)).trans hyy).trans HG.out.symm
      have hp0 : ¬ pS = 0 := by omega
      have hp1 : (pS == 0) = false := by simpa using hp0
      clear hyy
      by_cases h : 0 ≤ rt pS (wsg pS S)
      · have HV : Hid (wittN pS S = (S.length : Int) / 2) := by show _ = _; unfold wittN; rw [if_neg e1, if_pos h]
        obtain ⟨r, hr⟩ : ∃ r, r = rt pS (wsg pS S) := ⟨_, rfl⟩
        have HR := Lib.hid hr
        rw [← hr] at h
        clear hr
        go_enter Try.func107, Try.ntmps107
        go_wp2_with (first | (go_at_call 47; (with_reducible refine (l03Disc_any pS aS S cS loS tpS _ (HS.out.below ((Below.refl _ _).alloc (Nat.le_refl _) (.cells #[.int .i64 pS, .slice aS S.length cS] 30)) tS) (Nat.le_trans tS (((Below.refl _ _).alloc (Nat.le_refl _) (.cells #[.int .i64 pS, .slice aS S.length cS] 30))).size) HI.out).mono ?_); rintro e w2 ⟨rfl, b2⟩; have B2 := Lib.hid b2; have K2_0_0 := (b2.cell (p := ⟨w.heap.size, 0, none⟩) (Nat.lt_of_lt_of_le (show w.heap.size < (w.alloc (.cells #[.int .i64 pS, .slice aS S.length cS] 30)).heap.size by simp) (Nat.le_refl _))).trans (show (w.alloc (.cells #[.int .i64 pS, .slice aS S.length cS] 30)).cell? ⟨w.heap.size, 0, none⟩ = some (.int .i64 pS) by simp [go_sem]); have K2_0_1 := (b2.cell (p := ⟨w.heap.size, 1, none⟩) (Nat.lt_of_lt_of_le (show w.heap.size < (w.alloc (.cells #[.int .i64 pS, .slice aS S.length cS] 30)).heap.size by simp) (Nat.le_refl _))).trans (show (w.alloc (.cells #[.int .i64 pS, .slice aS S.length cS] 30)).cell? ⟨w.heap.size, 1, none⟩ = some (.slice aS S.length cS) by simp [go_sem]); clear b2) | (go_at_call 154; (with_reducible refine (l01Root_any pS (wsg pS S) _ HP.out s0 s1).mono ?_); rintro e w' ⟨rfl, rfl⟩; rw [← HR.out]))
        go_ret
        exact ⟨by rw [HV.out]; rfl, (below_step ((Below.refl _ _).alloc (Nat.le_refl _) (.cells #[.int .i64 pS, .slice aS S.length cS] 30)) (show w.heap.size ≤ (w.alloc (.cells #[.int .i64 pS, .slice aS S.length cS] 30)).heap.size from (((Below.refl _ _).alloc (Nat.le_refl _) (.cells #[.int .i64 pS, .slice aS S.length cS] 30))).size) B2.out)⟩
      · have HV : Hid (wittN pS S = (S.length : Int) / 2 - 1) := by show _ = _; unfold wittN; rw [if_neg e1, if_neg h]
        obtain ⟨r, hr⟩ : ∃ r, r = rt pS (wsg pS S) := ⟨_, rfl⟩
        have HR := Lib.hid hr
        rw [← hr] at h
        clear hr
        have e9 : IntKind.i64.wrap ((S.length : Int) / 2 - 1) = (S.length : Int) / 2 - 1 := IntWalk.i64_in _ (by omega)
        go_enter Try.func107, Try.ntmps107
        go_wp2_with (first | (go_at_call 47; (with_reducible refine (l03Disc_any pS aS S cS loS tpS _ (HS.out.below ((Below.refl _ _).alloc (Nat.le_refl _) (.cells #[.int .i64 pS, .slice aS S.length cS] 30)) tS) (Nat.le_trans tS (((Below.refl _ _).alloc (Nat.le_refl _) (.cells #[.int .i64 pS, .slice aS S.length cS] 30))).size) HI.out).mono ?_); rintro e w2 ⟨rfl, b2⟩; have B2 := Lib.hid b2; have K2_0_0 := (b2.cell (p := ⟨w.heap.size, 0, none⟩) (Nat.lt_of_lt_of_le (show w.heap.size < (w.alloc (.cells #[.int .i64 pS, .slice aS S.length cS] 30)).heap.size by simp) (Nat.le_refl _))).trans (show (w.alloc (.cells #[.int .i64 pS, .slice aS S.length cS] 30)).cell? ⟨w.heap.size, 0, none⟩ = some (.int .i64 pS) by simp [go_sem]); have K2_0_1 := (b2.cell (p := ⟨w.heap.size, 1, none⟩) (Nat.lt_of_lt_of_le (show w.heap.size < (w.alloc (.cells #[.int .i64 pS, .slice aS S.length cS] 30)).heap.size by simp) (Nat.le_refl _))).trans (show (w.alloc (.cells #[.int .i64 pS, .slice aS S.length cS] 30)).cell? ⟨w.heap.size, 1, none⟩ = some (.slice aS S.length cS) by simp [go_sem]); clear b2) | (go_at_call 154; (with_reducible refine (l01Root_any pS (wsg pS S) _ HP.out s0 s1).mono ?_); rintro e w' ⟨rfl, rfl⟩; rw [← HR.out]))
        go_ret
        exact ⟨by rw [HV.out]; rfl, (below_step ((Below.refl _ _).alloc (Nat.le_refl _) (.cells #[.int .i64 pS, .slice aS S.length cS] 30)) (show w.heap.size ≤ (w.alloc (.cells #[.int .i64 pS, .slice aS S.length cS] 30)).heap.size from (((Below.refl _ _).alloc (Nat.le_refl _) (.cells #[.int .i64 pS, .slice aS S.length cS] 30))).size) B2.out)⟩
    · have e4 : (((S.length : Int) / 2) % 2 == 1) = false := by simpa using e3
      obtain ⟨s0, s1⟩ := wsg_bd HP.out S
      have HG : Hid (wsg pS S = discN pS S) := by show _ = _; unfold wsg; rw [if_neg e3]
      by_cases h : 0 ≤ rt pS (wsg pS S)
      · have HV : Hid (wittN pS S = (S.length : Int) / 2) := by show _ = _; unfold wittN; rw [if_neg e1, if_pos h]
        obtain ⟨r, hr⟩ : ∃ r, r = rt pS (wsg pS S) := ⟨_, rfl⟩
        have HR := Lib.hid hr
        rw [← hr] at h
        clear hr
        go_enter Try.func107, Try.ntmps107
        go_wp2_with (first | (go_at_call 47; (with_reducible refine (l03Disc_any pS aS S cS loS tpS _ (HS.out.below ((Below.refl _ _).alloc (Nat.le_refl _) (.cells #[.int .i64 pS, .slice aS S.length cS] 30)) tS) (Nat.le_trans tS (((Below.refl _ _).alloc (Nat.le_refl _) (.cells #[.int .i64 pS, .slice aS S.length cS] 30))).size) HI.out).mono ?_); rintro e w2 ⟨rfl, b2⟩; have B2 := Lib.hid b2; have K2_0_0 := (b2.cell (p := ⟨w.heap.size, 0, none⟩) (Nat.lt_of_lt_of_le (show w.heap.size < (w.alloc (.cells #[.int .i64 pS, .slice aS S.length cS] 30)).heap.size by simp) (Nat.le_refl _))).trans (show (w.alloc (.cells #[.int .i64 pS, .slice aS S.length cS] 30)).cell? ⟨w.heap.size, 0, none⟩ = some (.int .i64 pS) by simp [go_sem]); have K2_0_1 := (b2.cell (p := ⟨w.heap.size, 1, none⟩) (Nat.lt_of_lt_of_le (show w.heap.size < (w.alloc (.cells #[.int .i64 pS, .slice aS S.length cS] 30)).heap.size by simp) (Nat.le_refl _))).trans (show (w.alloc (.cells #[.int .i64 pS, .slice aS S.length cS] 30)).cell? ⟨w.heap.size, 1, none⟩ = some (.slice aS S.length cS) by simp [go_sem]); clear b2; rw [← HG.out]) | (go_at_call 154; (with_reducible refine (l01Root_any pS (wsg pS S) _ HP.out s0 s1).mono ?_); rintro e w' ⟨rfl, rfl⟩; rw [← HR.out]))
        go_ret
        exact ⟨by rw [HV.out]; rfl, (below_step ((Below.refl _ _).alloc (Nat.le_refl _) (.cells #[.int .i64 pS, .slice aS S.length cS] 30)) (show w.heap.size ≤ (w.alloc (.cells #[.int .i64 pS, .slice aS S.length cS] 30)).heap.size from (((Below.refl _ _).alloc (Nat.le_refl _) (.cells #[.int .i64 pS, .slice aS S.length cS] 30))).size) B2.out)⟩
      · have HV : Hid (wittN pS S = (S.length : Int) / 2 - 1) := by show _ = _; unfold wittN; rw [if_neg e1, if_neg h]
        obtain ⟨r, hr⟩ : ∃ r, r = rt pS (wsg pS S) := ⟨_, rfl⟩
        have HR := Lib.hid hr
        rw [← hr] at h
        clear hr
        have e9 : IntKind.i64.wrap ((S.length : Int) / 2 - 1) = (S.length : Int) / 2 - 1 := IntWalk.i64_in _ (by omega)
        go_enter Try.func107, Try.ntmps107
        go_wp2_with (first | (go_at_call 47; (with_reducible refine (l03Disc_any pS aS S cS loS tpS _ (HS.out.below ((Below.refl _ _).alloc (Nat.le_refl _) (.cells #[.int .i64 pS, .slice aS S.length cS] 30)) tS) (Nat.le_trans tS (((Below.refl _ _).alloc (Nat.le_refl _) (.cells #[.int .i64 pS, .slice aS S.length cS] 30))).size) HI.out).mono ?_); rintro e w2 ⟨rfl, b2⟩; have B2 := Lib.hid b2; have K2_0_0 := (b2.cell (p := ⟨w.heap.size, 0, none⟩) (Nat.lt_of_lt_of_le (show w.heap.size < (w.alloc (.cells #[.int .i64 pS, .slice aS S.length cS] 30)).heap.size by simp) (Nat.le_refl _))).trans (show (w.alloc (.cells #[.int .i64 pS, .slice aS S.length cS] 30)).cell? ⟨w.heap.size, 0, none⟩ = some (.int .i64 pS) by simp [go_sem]); have K2_0_1 := (b2.cell (p := ⟨w.heap.size, 1, none⟩) (Nat.lt_of_lt_of_le (show w.heap.size < (w.alloc (.cells #[.int .i64 pS, .slice aS S.length cS] 30)).heap.size by simp) (Nat.le_refl _))).trans (show (w.alloc (.cells #[.int .i64 pS, .slice aS S.length cS] 30)).cell? ⟨w.heap.size, 1, none⟩ = some (.slice aS S.length cS) by simp [go_sem]); clear b2; rw [← HG.out]) | (go_at_call 154; (with_reducible refine (l01Root_any pS (wsg pS S) _ HP.out s0 s1).mono ?_); rintro e w' ⟨rfl, rfl⟩; rw [← HR.out]))
        go_ret
        exact ⟨by rw [HV.out]; rfl, (below_step ((Below.refl _ _).alloc (Nat.le_refl _) (.cells #[.int .i64 pS, .slice aS S.length cS] 30)) (show w.heap.size ≤ (w.alloc (.cells #[.int .i64 pS, .slice aS S.length cS] 30)).heap.size from (((Below.refl _ _).alloc (Nat.le_refl _) (.cells #[.int .i64 pS, .slice aS S.length cS] 30))).size) B2.out)⟩


end Go.Proofs.Ytigdepahbnidjaa
