/-
  What quotients and powers return, in the program and in the model, and the walks of their laws.
  No conditions but that the arguments are whole numbers of 64 bits.
-/
import Derived.Test.YtgkifpampmmhoaaOver
namespace Go.Proofs.Ytgkifpampmmhoaa
open Go.RowKit
set_option linter.unusedVariables false

def divV (p a b : Int) : Int := if codeOf p [a, b] = 0 ∧ b ≠ 0 then a * inv p b % p else 0
def divC (p a b : Int) : Int := if codeOf p [a, b] = 0 ∧ b = 0 then 5 else codeOf p [a, b]
theorem div_ok {p a b : Int} (h : codeOf p [a, b] = 0) (hb : b ≠ 0) : divV p a b = a * inv p b % p ∧ divC p a b = 0 := by simp [divV, divC, h, hb]
theorem div_zero {p a : Int} (h : codeOf p [a, 0] = 0) : divV p a 0 = 0 ∧ divC p a 0 = 5 := by simp [divV, divC, h]
theorem div_no {p a b c : Int} (h : codeOf p [a, b] = c) (hc : c ≠ 0) : divV p a b = 0 ∧ divC p a b = c := by simp [divV, divC, h, hc]

def powV (p a k : Int) : Int := if codeOf p [a] = 0 ∧ (-1000 ≤ k ∧ k ≤ 1000) ∧ ¬ (a = 0 ∧ k < 0) then (if k < 0 then pw p (inv p a) (-k).toNat else pw p a k.toNat) else 0
def powC (p a k : Int) : Int := if codeOf p [a] = 0 then (if -1000 ≤ k ∧ k ≤ 1000 then (if a = 0 ∧ k < 0 then 5 else 0) else 2) else codeOf p [a]
theorem pow_pos {p a k : Int} (h : codeOf p [a] = 0) (k0 : 0 ≤ k) (k1 : k ≤ 1000) : powV p a k = pw p a k.toNat ∧ powC p a k = 0 := by
  have h1 : -1000 ≤ k := by omega
  have h2 : ¬ k < 0 := by omega
  simp [powV, powC, h, h1, h2, k1]
theorem pow_neg {p a k : Int} (h : codeOf p [a] = 0) (ha : a ≠ 0) (k0 : k < 0) (k1 : -1000 ≤ k) : powV p a k = pw p (inv p a) (-k).toNat ∧ powC p a k = 0 := by
  have h1 : k ≤ 1000 := by omega
  simp [powV, powC, h, h1, k1, k0, ha]
theorem pow_zero {p k : Int} (h : codeOf p [0] = 0) (k0 : k < 0) (k1 : -1000 ≤ k) : powV p 0 k = 0 ∧ powC p 0 k = 5 := by
  have h1 : k ≤ 1000 := by omega
  simp [powV, powC, h, h1, k1, k0]
theorem pow_far {p a k : Int} (h : codeOf p [a] = 0) (hk : ¬ (-1000 ≤ k ∧ k ≤ 1000)) : powV p a k = 0 ∧ powC p a k = 2 := by
  have h1 : -1000 ≤ k → 1000 < k := by omega
  simp [powV, powC, h, hk]
theorem pow_no {p a k c : Int} (h : codeOf p [a] = c) (hc : c ≠ 0) : powV p a k = 0 ∧ powC p a k = c := by simp [powV, powC, h, hc]

set_option maxHeartbeats 800000 in
theorem divideNumbers_spec (p a b : Int) (w : World) :
    Calls Try.prog 17 #[.int .i64 p, .int .i64 a, .int .i64 b] w fun e w' => e = .returned (.tuple #[.int .i64 (divV p a b), .int .i64 (divC p a b)]) ∧ Below w.heap.size w w' := by
  rcases code_two p a b with ⟨hc, hp, ⟨a0, a1⟩, b0, b1⟩ | ⟨hc, hp⟩ | ⟨hc, hp, hn⟩
  · by_cases hz : b = 0
    · subst hz
      obtain ⟨hv, hd⟩ := div_zero hc
      have HV := Lib.hid hv
      have HD := Lib.hid hd
      have HC := Lib.hid hc
      clear hv hd hc
      clear hp
      go_enter Try.func17, Try.ntmps17
      go_wp2_with (first | (go_at_call 45; refine (l01Code_two p a 0 _ _ (new_two0 _ _ _ _) (new_two1 _ _ _ _)).mono ?_; rintro e w1 ⟨rfl, rfl⟩; rw [HC.out]))
      go_ret2
      exact ⟨by rw [HV.out, HD.out]; rfl, by ((repeat' (first | with_reducible exact Below.refl _ _ | (with_reducible refine Below.setCell ?_ ?_ _) | (with_reducible refine Below.alloc ?_ ?_ _) | (with_reducible refine Below.drew ?_))); all_goals (first | (simp; done) | omega | (simp; omega)))⟩
    · have hb1 : 1 ≤ b := by omega
      have hpb := prm_bd hp
      obtain ⟨i0, i1⟩ := inv_bd hp b
      obtain ⟨m0, m1⟩ := mul_bd hp a0 a1 i0 i1
      have HP := Lib.hid hp
      obtain ⟨hv, hd⟩ := div_ok hc hz
      have HV := Lib.hid hv
      have HD := Lib.hid hd
      have HC := Lib.hid hc
      clear hv hd hc
      clear hp
      go_enter Try.func17, Try.ntmps17
      go_wp2_with (first | (go_at_call 45; refine (l01Code_two p a b _ _ (new_two0 _ _ _ _) (new_two1 _ _ _ _)).mono ?_; rintro e w1 ⟨rfl, rfl⟩; rw [HC.out]) | (go_at_call 46; refine (l01Inv_any p b _ HP.out (by omega) (by omega)).mono ?_; rintro e w2 ⟨rfl, rfl⟩))
      go_ret2
      exact ⟨by rw [HV.out, HD.out]; rfl, by ((repeat' (first | with_reducible exact Below.refl _ _ | (with_reducible refine Below.setCell ?_ ?_ _) | (with_reducible refine Below.alloc ?_ ?_ _) | (with_reducible refine Below.drew ?_))); all_goals (first | (simp; done) | omega | (simp; omega)))⟩
  all_goals
    obtain ⟨hv, hd⟩ := div_no hc (by decide)
    have HV := Lib.hid hv
    have HD := Lib.hid hd
    have HC := Lib.hid hc
    clear hv hd hc
    clear hp
    try clear hn
    go_enter Try.func17, Try.ntmps17
    go_wp2_with (first | (go_at_call 45; refine (l01Code_two p a b _ _ (new_two0 _ _ _ _) (new_two1 _ _ _ _)).mono ?_; rintro e w1 ⟨rfl, rfl⟩; rw [HC.out]))
    go_ret2
    exact ⟨by rw [HV.out, HD.out]; rfl, by ((repeat' (first | with_reducible exact Below.refl _ _ | (with_reducible refine Below.setCell ?_ ?_ _) | (with_reducible refine Below.alloc ?_ ?_ _) | (with_reducible refine Below.drew ?_))); all_goals (first | (simp; done) | omega | (simp; omega)))⟩

set_option maxHeartbeats 800000 in
theorem divideNumbers_impl (p a b : Int) (w : World) :
    Calls Try.prog 16 #[.int .i64 p, .int .i64 a, .int .i64 b] w fun e w' => e = .returned (.tuple #[.int .i64 (divV p a b), .int .i64 (divC p a b)]) ∧ Below w.heap.size w w' := by
  rcases code_two p a b with ⟨hc, hp, ⟨a0, a1⟩, b0, b1⟩ | ⟨hc, hp⟩ | ⟨hc, hp, hn⟩
  · by_cases hz : b = 0
    · subst hz
      obtain ⟨hv, hd⟩ := div_zero hc
      have HV := Lib.hid hv
      have HD := Lib.hid hd
      have HC := Lib.hid hc
      clear hv hd hc
      clear hp
      go_enter Try.func16, Try.ntmps16
      go_wp2_with (first | (go_at_call 43; refine (check_two p a 0 _ _ (new_two0 _ _ _ _) (new_two1 _ _ _ _)).mono ?_; rintro e w1 ⟨rfl, rfl⟩; rw [HC.out]))
      go_ret2
      exact ⟨by rw [HV.out, HD.out]; rfl, by ((repeat' (first | with_reducible exact Below.refl _ _ | (with_reducible refine Below.setCell ?_ ?_ _) | (with_reducible refine Below.alloc ?_ ?_ _) | (with_reducible refine Below.drew ?_))); all_goals (first | (simp; done) | omega | (simp; omega)))⟩
    · have hb1 : 1 ≤ b := by omega
      have hpb := prm_bd hp
      obtain ⟨i0, i1⟩ := inv_bd hp b
      obtain ⟨m0, m1⟩ := mul_bd hp a0 a1 i0 i1
      have HP := Lib.hid hp
      obtain ⟨hv, hd⟩ := div_ok hc hz
      have HV := Lib.hid hv
      have HD := Lib.hid hd
      have HC := Lib.hid hc
      clear hv hd hc
      clear hp
      have fv := field_value
      go_enter Try.func16, Try.ntmps16
      go_wp2_with (first | (go_at_call 43; refine (check_two p a b _ _ (new_two0 _ _ _ _) (new_two1 _ _ _ _)).mono ?_; rintro e w1 ⟨rfl, rfl⟩; rw [HC.out]) | (go_at_call 44; refine (over_any p a b _ HP.out (by omega) (by omega) (by omega) (by omega)).mono ?_; rintro e w2 ⟨rfl, hb2⟩))
      go_ret2
      clear fv
      exact ⟨by rw [HV.out, HD.out]; rfl, by (have hs_hb2 := hb2.size; (repeat' (first | with_reducible exact Below.refl _ _ | (with_reducible refine Below.setCell ?_ ?_ _) | (with_reducible refine Below.alloc ?_ ?_ _) | (with_reducible refine Below.drew ?_) | (with_reducible refine below_step ?_ ?_ hb2))); all_goals (first | (simp; done) | omega | (simp; omega) | (simp at hs_hb2 ⊢; omega)))⟩
  all_goals
    obtain ⟨hv, hd⟩ := div_no hc (by decide)
    have HV := Lib.hid hv
    have HD := Lib.hid hd
    have HC := Lib.hid hc
    clear hv hd hc
    clear hp
    try clear hn
    go_enter Try.func16, Try.ntmps16
    go_wp2_with (first | (go_at_call 43; refine (check_two p a b _ _ (new_two0 _ _ _ _) (new_two1 _ _ _ _)).mono ?_; rintro e w1 ⟨rfl, rfl⟩; rw [HC.out]))
    go_ret2
    exact ⟨by rw [HV.out, HD.out]; rfl, by ((repeat' (first | with_reducible exact Below.refl _ _ | (with_reducible refine Below.setCell ?_ ?_ _) | (with_reducible refine Below.alloc ?_ ?_ _) | (with_reducible refine Below.drew ?_))); all_goals (first | (simp; done) | omega | (simp; omega)))⟩

theorem l01Pow_int (p a : Int) (k : Int) (w : World) (hp : prm p = true) (a0 : 0 ≤ a) (a1 : a < p) (k0 : 0 ≤ k) (k1 : k ≤ 1000000) :
    Calls Try.prog 59 #[.int .i64 p, .int .i64 a, .int .i64 k] w fun e w' => e = .returned (.int .i64 (pw p a k.toNat)) ∧ w = w' := by
  have h := l01Pow_any p a k.toNat w hp a0 a1 (by omega)
  rwa [Int.toNat_of_nonneg k0] at h

set_option maxHeartbeats 800000 in
theorem powerNumber_spec (p a k : Int) (w : World) :
    Calls Try.prog 41 #[.int .i64 p, .int .i64 a, .int .i64 k] w fun e w' => e = .returned (.tuple #[.int .i64 (powV p a k), .int .i64 (powC p a k)]) ∧ Below w.heap.size w w' := by
  rcases code_one p a with ⟨hc, hp, a0, a1⟩ | ⟨hc, hp⟩ | ⟨hc, hp, hn⟩
  · have HP := Lib.hid hp
    have hpb := prm_bd hp
    clear hp
    by_cases hk : -1000 ≤ k ∧ k ≤ 1000
    · obtain ⟨k0, k1⟩ := hk
      by_cases hneg : k < 0
      · by_cases hz : a = 0
        · subst hz
          obtain ⟨hv, hd⟩ := pow_zero hc hneg k0
          have HV := Lib.hid hv
          have HD := Lib.hid hd
          have HC := Lib.hid hc
          clear hv hd hc
          go_enter Try.func41, Try.ntmps41
          go_wp2_with (first | (go_at_call 45; refine (l01Code_one p 0 _ _ (new_one _ _ _)).mono ?_; rintro e w1 ⟨rfl, rfl⟩; rw [HC.out]) | (go_at_call 58; refine (l01In_yes k _ _ _ (by omega) (by omega)).mono ?_; rintro e w2 ⟨rfl, rfl⟩))
          go_ret2
          exact ⟨by rw [HV.out, HD.out]; rfl, by ((repeat' (first | with_reducible exact Below.refl _ _ | (with_reducible refine Below.setCell ?_ ?_ _) | (with_reducible refine Below.alloc ?_ ?_ _) | (with_reducible refine Below.drew ?_))); all_goals (first | (simp; done) | omega | (simp; omega)))⟩
        · have ha1 : 1 ≤ a := by omega
          obtain ⟨i0, i1⟩ := inv_bd HP.out a
          obtain ⟨hv, hd⟩ := pow_neg hc hz hneg k0
          have HV := Lib.hid hv
          have HD := Lib.hid hd
          have HC := Lib.hid hc
          clear hv hd hc
          go_enter Try.func41, Try.ntmps41
          go_wp2_with (first | (go_at_call 45; refine (l01Code_one p a _ _ (new_one _ _ _)).mono ?_; rintro e w1 ⟨rfl, rfl⟩; rw [HC.out]) | (go_at_call 58; refine (l01In_yes k _ _ _ (by omega) (by omega)).mono ?_; rintro e w2 ⟨rfl, rfl⟩) | (go_at_call 46; refine (l01Inv_any p a _ HP.out (by omega) (by omega)).mono ?_; rintro e w3 ⟨rfl, rfl⟩) | (go_at_call 59; refine (l01Pow_int p (inv p a) (-k) _ HP.out i0 i1 (by omega) (by omega)).mono ?_; rintro e w4 ⟨rfl, rfl⟩))
          go_ret2
          exact ⟨by rw [HV.out, HD.out]; rfl, by ((repeat' (first | with_reducible exact Below.refl _ _ | (with_reducible refine Below.setCell ?_ ?_ _) | (with_reducible refine Below.alloc ?_ ?_ _) | (with_reducible refine Below.drew ?_))); all_goals (first | (simp; done) | omega | (simp; omega)))⟩
      · have hk0 : 0 ≤ k := by omega
        clear hneg
        by_cases hz : a = 0
        · subst hz
          obtain ⟨hv, hd⟩ := pow_pos hc hk0 k1
          have HV := Lib.hid hv
          have HD := Lib.hid hd
          have HC := Lib.hid hc
          clear hv hd hc
          go_enter Try.func41, Try.ntmps41
          go_wp2_with (first | (go_at_call 45; refine (l01Code_one p 0 _ _ (new_one _ _ _)).mono ?_; rintro e w1 ⟨rfl, rfl⟩; rw [HC.out]) | (go_at_call 58; refine (l01In_yes k _ _ _ (by omega) (by omega)).mono ?_; rintro e w2 ⟨rfl, rfl⟩) | (go_at_call 59; refine (l01Pow_int p 0 k _ HP.out a0 a1 (by omega) (by omega)).mono ?_; rintro e w4 ⟨rfl, rfl⟩))
          go_ret2
          exact ⟨by rw [HV.out, HD.out]; rfl, by ((repeat' (first | with_reducible exact Below.refl _ _ | (with_reducible refine Below.setCell ?_ ?_ _) | (with_reducible refine Below.alloc ?_ ?_ _) | (with_reducible refine Below.drew ?_))); all_goals (first | (simp; done) | omega | (simp; omega)))⟩
        · have ha1 : 1 ≤ a := by omega
          obtain ⟨hv, hd⟩ := pow_pos hc hk0 k1
          have HV := Lib.hid hv
          have HD := Lib.hid hd
          have HC := Lib.hid hc
          clear hv hd hc
          go_enter Try.func41, Try.ntmps41
          go_wp2_with (first | (go_at_call 45; refine (l01Code_one p a _ _ (new_one _ _ _)).mono ?_; rintro e w1 ⟨rfl, rfl⟩; rw [HC.out]) | (go_at_call 58; refine (l01In_yes k _ _ _ (by omega) (by omega)).mono ?_; rintro e w2 ⟨rfl, rfl⟩) | (go_at_call 59; refine (l01Pow_int p a k _ HP.out a0 a1 (by omega) (by omega)).mono ?_; rintro e w4 ⟨rfl, rfl⟩))
          go_ret2
          exact ⟨by rw [HV.out, HD.out]; rfl, by ((repeat' (first | with_reducible exact Below.refl _ _ | (with_reducible refine Below.setCell ?_ ?_ _) | (with_reducible refine Below.alloc ?_ ?_ _) | (with_reducible refine Below.drew ?_))); all_goals (first | (simp; done) | omega | (simp; omega)))⟩
    · have HK := Lib.hid hk
      obtain ⟨hv, hd⟩ := pow_far hc hk
      have HV := Lib.hid hv
      have HD := Lib.hid hd
      have HC := Lib.hid hc
      clear hv hd hc
      clear hk
      go_enter Try.func41, Try.ntmps41
      go_wp2_with (first | (go_at_call 45; refine (l01Code_one p a _ _ (new_one _ _ _)).mono ?_; rintro e w1 ⟨rfl, rfl⟩; rw [HC.out]) | (go_at_call 58; refine (l01In_no k _ _ _ HK.out).mono ?_; rintro e w2 ⟨rfl, rfl⟩))
      go_ret2
      exact ⟨by rw [HV.out, HD.out]; rfl, by ((repeat' (first | with_reducible exact Below.refl _ _ | (with_reducible refine Below.setCell ?_ ?_ _) | (with_reducible refine Below.alloc ?_ ?_ _) | (with_reducible refine Below.drew ?_))); all_goals (first | (simp; done) | omega | (simp; omega)))⟩
  all_goals
    obtain ⟨hv, hd⟩ := pow_no (k := k) hc (by decide)
    have HV := Lib.hid hv
    have HD := Lib.hid hd
    have HC := Lib.hid hc
    clear hv hd hc
    clear hp
    try clear hn
    go_enter Try.func41, Try.ntmps41
    go_wp2_with (first | (go_at_call 45; refine (l01Code_one p a _ _ (new_one _ _ _)).mono ?_; rintro e w1 ⟨rfl, rfl⟩; rw [HC.out]))
    go_ret2
    exact ⟨by rw [HV.out, HD.out]; rfl, by ((repeat' (first | with_reducible exact Below.refl _ _ | (with_reducible refine Below.setCell ?_ ?_ _) | (with_reducible refine Below.alloc ?_ ?_ _) | (with_reducible refine Below.drew ?_))); all_goals (first | (simp; done) | omega | (simp; omega)))⟩

set_option maxHeartbeats 800000 in
theorem powerNumber_impl (p a k : Int) (w : World) :
    Calls Try.prog 25 #[.int .i64 p, .int .i64 a, .int .i64 k] w fun e w' => e = .returned (.tuple #[.int .i64 (powV p a k), .int .i64 (powC p a k)]) ∧ Below w.heap.size w w' := by
  rcases code_one p a with ⟨hc, hp, a0, a1⟩ | ⟨hc, hp⟩ | ⟨hc, hp, hn⟩
  · have HP := Lib.hid hp
    have hpb := prm_bd hp
    clear hp
    by_cases hk : -1000 ≤ k ∧ k ≤ 1000
    · obtain ⟨k0, k1⟩ := hk
      by_cases hneg : k < 0
      · by_cases hz : a = 0
        · subst hz
          obtain ⟨hv, hd⟩ := pow_zero hc hneg k0
          have HV := Lib.hid hv
          have HD := Lib.hid hd
          have HC := Lib.hid hc
          clear hv hd hc
          go_enter Try.func25, Try.ntmps25
          go_wp2_with (first | (go_at_call 43; refine (check_one p 0 _ _ (new_one _ _ _)).mono ?_; rintro e w1 ⟨rfl, rfl⟩; rw [HC.out]))
          go_ret2
          exact ⟨by rw [HV.out, HD.out]; rfl, by ((repeat' (first | with_reducible exact Below.refl _ _ | (with_reducible refine Below.setCell ?_ ?_ _) | (with_reducible refine Below.alloc ?_ ?_ _) | (with_reducible refine Below.drew ?_))); all_goals (first | (simp; done) | omega | (simp; omega)))⟩
        · have ha1 : 1 ≤ a := by omega
          obtain ⟨i0, i1⟩ := inv_bd HP.out a
          obtain ⟨hv, hd⟩ := pow_neg hc hz hneg k0
          have HV := Lib.hid hv
          have HD := Lib.hid hd
          have HC := Lib.hid hc
          clear hv hd hc
          have fv := field_value
          go_enter Try.func25, Try.ntmps25
          go_wp2_with (first | (go_at_call 43; refine (check_one p a _ _ (new_one _ _ _)).mono ?_; rintro e w1 ⟨rfl, rfl⟩; rw [HC.out]) | (go_at_call 52; refine (power_neg p a k _ HP.out a0 a1 hneg (by omega)).mono ?_; rintro e w3 ⟨rfl, hb3⟩))
          go_ret2
          clear fv
          exact ⟨by rw [HV.out, HD.out]; rfl, by (have hs_hb3 := hb3.size; (repeat' (first | with_reducible exact Below.refl _ _ | (with_reducible refine Below.setCell ?_ ?_ _) | (with_reducible refine Below.alloc ?_ ?_ _) | (with_reducible refine Below.drew ?_) | (with_reducible refine below_step ?_ ?_ hb3))); all_goals (first | (simp; done) | omega | (simp; omega) | (simp at hs_hb3 ⊢; omega)))⟩
      · have hk0 : 0 ≤ k := by omega
        clear hneg
        by_cases hz : a = 0
        · subst hz
          obtain ⟨hv, hd⟩ := pow_pos hc hk0 k1
          have HV := Lib.hid hv
          have HD := Lib.hid hd
          have HC := Lib.hid hc
          clear hv hd hc
          have fv := field_value
          go_enter Try.func25, Try.ntmps25
          go_wp2_with (first | (go_at_call 43; refine (check_one p 0 _ _ (new_one _ _ _)).mono ?_; rintro e w1 ⟨rfl, rfl⟩; rw [HC.out]) | (go_at_call 52; refine (power_any p 0 k _ HP.out a0 a1 (by omega) (by omega)).mono ?_; rintro e w3 ⟨rfl, hb3⟩))
          go_ret2
          clear fv
          exact ⟨by rw [HV.out, HD.out]; rfl, by (have hs_hb3 := hb3.size; (repeat' (first | with_reducible exact Below.refl _ _ | (with_reducible refine Below.setCell ?_ ?_ _) | (with_reducible refine Below.alloc ?_ ?_ _) | (with_reducible refine Below.drew ?_) | (with_reducible refine below_step ?_ ?_ hb3))); all_goals (first | (simp; done) | omega | (simp; omega) | (simp at hs_hb3 ⊢; omega)))⟩
        · have ha1 : 1 ≤ a := by omega
          obtain ⟨hv, hd⟩ := pow_pos hc hk0 k1
          have HV := Lib.hid hv
          have HD := Lib.hid hd
          have HC := Lib.hid hc
          clear hv hd hc
          have fv := field_value
          go_enter Try.func25, Try.ntmps25
          go_wp2_with (first | (go_at_call 43; refine (check_one p a _ _ (new_one _ _ _)).mono ?_; rintro e w1 ⟨rfl, rfl⟩; rw [HC.out]) | (go_at_call 52; refine (power_any p a k _ HP.out a0 a1 (by omega) (by omega)).mono ?_; rintro e w3 ⟨rfl, hb3⟩))
          go_ret2
          clear fv
          exact ⟨by rw [HV.out, HD.out]; rfl, by (have hs_hb3 := hb3.size; (repeat' (first | with_reducible exact Below.refl _ _ | (with_reducible refine Below.setCell ?_ ?_ _) | (with_reducible refine Below.alloc ?_ ?_ _) | (with_reducible refine Below.drew ?_) | (with_reducible refine below_step ?_ ?_ hb3))); all_goals (first | (simp; done) | omega | (simp; omega) | (simp at hs_hb3 ⊢; omega)))⟩
    · by_cases hlo : k < -1000
      · obtain ⟨hv, hd⟩ := pow_far hc hk
        have HV := Lib.hid hv
        have HD := Lib.hid hd
        have HC := Lib.hid hc
        clear hv hd hc
        clear hk
        go_enter Try.func25, Try.ntmps25
        go_wp2_with (first | (go_at_call 43; refine (check_one p a _ _ (new_one _ _ _)).mono ?_; rintro e w1 ⟨rfl, rfl⟩; rw [HC.out]))
        go_ret2
        exact ⟨by rw [HV.out, HD.out]; rfl, by ((repeat' (first | with_reducible exact Below.refl _ _ | (with_reducible refine Below.setCell ?_ ?_ _) | (with_reducible refine Below.alloc ?_ ?_ _) | (with_reducible refine Below.drew ?_))); all_goals (first | (simp; done) | omega | (simp; omega)))⟩
      · have hhi : 1000 < k := by omega
        obtain ⟨hv, hd⟩ := pow_far hc hk
        have HV := Lib.hid hv
        have HD := Lib.hid hd
        have HC := Lib.hid hc
        clear hv hd hc
        clear hk
        go_enter Try.func25, Try.ntmps25
        go_wp2_with (first | (go_at_call 43; refine (check_one p a _ _ (new_one _ _ _)).mono ?_; rintro e w1 ⟨rfl, rfl⟩; rw [HC.out]))
        go_ret2
        exact ⟨by rw [HV.out, HD.out]; rfl, by ((repeat' (first | with_reducible exact Below.refl _ _ | (with_reducible refine Below.setCell ?_ ?_ _) | (with_reducible refine Below.alloc ?_ ?_ _) | (with_reducible refine Below.drew ?_))); all_goals (first | (simp; done) | omega | (simp; omega)))⟩
  all_goals
    obtain ⟨hv, hd⟩ := pow_no (k := k) hc (by decide)
    have HV := Lib.hid hv
    have HD := Lib.hid hd
    have HC := Lib.hid hc
    clear hv hd hc
    clear hp
    try clear hn
    go_enter Try.func25, Try.ntmps25
    go_wp2_with (first | (go_at_call 43; refine (check_one p a _ _ (new_one _ _ _)).mono ?_; rintro e w1 ⟨rfl, rfl⟩; rw [HC.out]))
    go_ret2
    exact ⟨by rw [HV.out, HD.out]; rfl, by ((repeat' (first | with_reducible exact Below.refl _ _ | (with_reducible refine Below.setCell ?_ ?_ _) | (with_reducible refine Below.alloc ?_ ?_ _) | (with_reducible refine Below.drew ?_))); all_goals (first | (simp; done) | omega | (simp; omega)))⟩

theorem law_divideNumbers (p a b : Int) (w : World) :
    Calls Try.prog 10 #[.int .i64 p, .int .i64 a, .int .i64 b] w fun e w' => e = .returned (.bool true) ∧ Below w.heap.size w w' := by
  go_enter Try.func10, Try.ntmps10
  go_wp2_with (first | (go_at_call 17; refine (divideNumbers_spec p a b _).mono ?_; rintro e w1 ⟨rfl, hb1⟩) | (go_at_call 16; refine (divideNumbers_impl p a b _).mono ?_; rintro e w2 ⟨rfl, hb2⟩))
  go_ret
  exact ⟨rfl, by (have hs_hb2 := hb2.size; have hs_hb1 := hb1.size; (repeat' (first | with_reducible exact Below.refl _ _ | (with_reducible refine Below.setCell ?_ ?_ _) | (with_reducible refine Below.alloc ?_ ?_ _) | (with_reducible refine Below.drew ?_) | (with_reducible refine below_step ?_ ?_ hb2) | (with_reducible refine below_step ?_ ?_ hb1))); all_goals (first | (simp; done) | omega | (simp; omega) | (simp at hs_hb2 hs_hb1 ⊢; omega)))⟩

theorem law_powerNumber (p a b : Int) (w : World) :
    Calls Try.prog 11 #[.int .i64 p, .int .i64 a, .int .i64 b] w fun e w' => e = .returned (.bool true) ∧ Below w.heap.size w w' := by
  go_enter Try.func11, Try.ntmps11
  go_wp2_with (first | (go_at_call 41; refine (powerNumber_spec p a b _).mono ?_; rintro e w1 ⟨rfl, hb1⟩) | (go_at_call 25; refine (powerNumber_impl p a b _).mono ?_; rintro e w2 ⟨rfl, hb2⟩))
  go_ret
  exact ⟨rfl, by (have hs_hb2 := hb2.size; have hs_hb1 := hb1.size; (repeat' (first | with_reducible exact Below.refl _ _ | (with_reducible refine Below.setCell ?_ ?_ _) | (with_reducible refine Below.alloc ?_ ?_ _) | (with_reducible refine Below.drew ?_) | (with_reducible refine below_step ?_ ?_ hb2) | (with_reducible refine below_step ?_ ?_ hb1))); all_goals (first | (simp; done) | omega | (simp; omega) | (simp at hs_hb2 hs_hb1 ⊢; omega)))⟩

end Go.Proofs.Ytgkifpampmmhoaa
