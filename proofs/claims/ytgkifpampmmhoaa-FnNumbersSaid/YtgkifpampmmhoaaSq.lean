/-
  What IsSquare and SquareRoot return, in the program and in the model, and the walks of their laws.
  No conditions but that the arguments are whole numbers of 64 bits.
-/
import Derived.Test.YtgkifpampmmhoaaRoot
namespace Go.Proofs.Ytgkifpampmmhoaa
open Go.RowKit
set_option linter.unusedVariables false

def sqB (p a : Int) : Bool := decide (codeOf p [a] = 0 ∧ 0 ≤ rt p a)
def sqV (p a : Int) : Int := if codeOf p [a] = 0 ∧ 0 ≤ rt p a then rt p a else 0
def sqC (p a : Int) : Int := if codeOf p [a] = 0 then (if 0 ≤ rt p a then 0 else 4) else codeOf p [a]
theorem sq_yes {p a : Int} (h : codeOf p [a] = 0) (hr : 0 ≤ rt p a) : sqB p a = true ∧ sqV p a = rt p a ∧ sqC p a = 0 := by simp [sqB, sqV, sqC, h, hr]
theorem sq_none {p a : Int} (h : codeOf p [a] = 0) (hr : rt p a < 0) : sqB p a = false ∧ sqV p a = 0 ∧ sqC p a = 4 := by
  have h1 : ¬ 0 ≤ rt p a := by omega
  simp [sqB, sqV, sqC, h, h1]
theorem sq_no {p a c : Int} (h : codeOf p [a] = c) (hc : c ≠ 0) : sqB p a = false ∧ sqV p a = 0 ∧ sqC p a = c := by simp [sqB, sqV, sqC, h, hc]

set_option maxHeartbeats 400000 in
theorem isSquare_spec (p a : Int) (w : World) :
    Calls Try.prog 34 #[.int .i64 p, .int .i64 a] w fun e w' => e = .returned (.tuple #[.bool (sqB p a), .int .i64 (codeOf p [a])]) ∧ Below w.heap.size w w' := by
  rcases code_one p a with ⟨hc, hp, a0, a1⟩ | ⟨hc, hp⟩ | ⟨hc, hp, hn⟩
  · have HP := Lib.hid hp
    clear hp
    by_cases hr : 0 ≤ rt p a
    · have HS := Lib.hid (sq_yes hc hr)
      have HR := Lib.hid (rt_yes hr)
      have HC := Lib.hid hc
      clear hc
      go_enter Try.func34, Try.ntmps34
      go_wp2_with (first | (go_at_call 45; refine (l01Code_one p a _ _ (new_one _ _ _)).mono ?_; rintro e w1 ⟨rfl, rfl⟩; rw [HC.out]) | (go_at_call 56; refine (l01Root_any p a _ HP.out a0 a1).mono ?_; rintro e w2 ⟨rfl, rfl⟩))
      go_ret2
      exact ⟨by rw [HS.out.1, HC.out]; rfl, by ((repeat' (first | with_reducible exact Below.refl _ _ | (with_reducible refine Below.setCell ?_ ?_ _) | (with_reducible refine Below.alloc ?_ ?_ _) | (with_reducible refine Below.drew ?_))); all_goals (first | (simp; done) | omega | (simp; omega)))⟩
    · have hr2 : rt p a < 0 := by omega
      have HS := Lib.hid (sq_none hc hr2)
      have HR := Lib.hid (rt_no hr2)
      have HC := Lib.hid hc
      have hd : decide (0 ≤ rt p a) = false := by simp; omega
      clear hc hr
      go_enter Try.func34, Try.ntmps34
      go_wp2_with (first | (go_at_call 45; refine (l01Code_one p a _ _ (new_one _ _ _)).mono ?_; rintro e w1 ⟨rfl, rfl⟩; rw [HC.out]) | (go_at_call 56; refine (l01Root_any p a _ HP.out a0 a1).mono ?_; rintro e w2 ⟨rfl, rfl⟩))
      go_ret2
      exact ⟨by rw [HS.out.1, HC.out]; rfl, by ((repeat' (first | with_reducible exact Below.refl _ _ | (with_reducible refine Below.setCell ?_ ?_ _) | (with_reducible refine Below.alloc ?_ ?_ _) | (with_reducible refine Below.drew ?_))); all_goals (first | (simp; done) | omega | (simp; omega)))⟩
  all_goals
    have HS := Lib.hid (sq_no hc (by decide))
    have HC := Lib.hid hc
    clear hc hp
    try clear hn
    go_enter Try.func34, Try.ntmps34
    go_wp2_with (first | (go_at_call 45; refine (l01Code_one p a _ _ (new_one _ _ _)).mono ?_; rintro e w1 ⟨rfl, rfl⟩; rw [HC.out]))
    go_ret2
    exact ⟨by rw [HS.out.1, HC.out]; rfl, by ((repeat' (first | with_reducible exact Below.refl _ _ | (with_reducible refine Below.setCell ?_ ?_ _) | (with_reducible refine Below.alloc ?_ ?_ _) | (with_reducible refine Below.drew ?_))); all_goals (first | (simp; done) | omega | (simp; omega)))⟩

set_option maxHeartbeats 400000 in
theorem isSquare_impl (p a : Int) (w : World) :
    Calls Try.prog 33 #[.int .i64 p, .int .i64 a] w fun e w' => e = .returned (.tuple #[.bool (sqB p a), .int .i64 (codeOf p [a])]) ∧ Below w.heap.size w w' := by
  rcases code_one p a with ⟨hc, hp, a0, a1⟩ | ⟨hc, hp⟩ | ⟨hc, hp, hn⟩
  · have HP := Lib.hid hp
    clear hp
    by_cases hr : 0 ≤ rt p a
    · have HS := Lib.hid (sq_yes hc hr)
      have HR := Lib.hid (rt_yes hr)
      have HC := Lib.hid hc
      clear hc
      go_enter Try.func33, Try.ntmps33
      go_wp2_with (first | (go_at_call 43; refine (check_one p a _ _ (new_one _ _ _)).mono ?_; rintro e w1 ⟨rfl, rfl⟩; rw [HC.out]) | (go_at_call 55; refine (root_any p a _ HP.out a0 a1).mono ?_; rintro e w2 ⟨rfl, hb2⟩; rw [HR.out.1, HR.out.2.1, HR.out.2.2]))
      go_ret2
      exact ⟨by rw [HS.out.1, HC.out]; rfl, by (have hs_hb2 := hb2.size; (repeat' (first | with_reducible exact Below.refl _ _ | (with_reducible refine Below.setCell ?_ ?_ _) | (with_reducible refine Below.alloc ?_ ?_ _) | (with_reducible refine Below.drew ?_) | (with_reducible refine below_step ?_ ?_ hb2))); all_goals (first | (simp; done) | omega | (simp; omega) | (simp at hs_hb2 ⊢; omega)))⟩
    · have hr2 : rt p a < 0 := by omega
      have HS := Lib.hid (sq_none hc hr2)
      have HR := Lib.hid (rt_no hr2)
      have HC := Lib.hid hc
      have hd : decide (0 ≤ rt p a) = false := by simp; omega
      clear hc hr
      go_enter Try.func33, Try.ntmps33
      go_wp2_with (first | (go_at_call 43; refine (check_one p a _ _ (new_one _ _ _)).mono ?_; rintro e w1 ⟨rfl, rfl⟩; rw [HC.out]) | (go_at_call 55; refine (root_any p a _ HP.out a0 a1).mono ?_; rintro e w2 ⟨rfl, hb2⟩; rw [HR.out.1, HR.out.2.1, HR.out.2.2]))
      go_ret2
      exact ⟨by rw [HS.out.1, HC.out]; rfl, by (have hs_hb2 := hb2.size; (repeat' (first | with_reducible exact Below.refl _ _ | (with_reducible refine Below.setCell ?_ ?_ _) | (with_reducible refine Below.alloc ?_ ?_ _) | (with_reducible refine Below.drew ?_) | (with_reducible refine below_step ?_ ?_ hb2))); all_goals (first | (simp; done) | omega | (simp; omega) | (simp at hs_hb2 ⊢; omega)))⟩
  all_goals
    have HS := Lib.hid (sq_no hc (by decide))
    have HC := Lib.hid hc
    clear hc hp
    try clear hn
    go_enter Try.func33, Try.ntmps33
    go_wp2_with (first | (go_at_call 43; refine (check_one p a _ _ (new_one _ _ _)).mono ?_; rintro e w1 ⟨rfl, rfl⟩; rw [HC.out]))
    go_ret2
    exact ⟨by rw [HS.out.1, HC.out]; rfl, by ((repeat' (first | with_reducible exact Below.refl _ _ | (with_reducible refine Below.setCell ?_ ?_ _) | (with_reducible refine Below.alloc ?_ ?_ _) | (with_reducible refine Below.drew ?_))); all_goals (first | (simp; done) | omega | (simp; omega)))⟩

theorem law_isSquare (p a : Int) (w : World) :
    Calls Try.prog 12 #[.int .i64 p, .int .i64 a] w fun e w' => e = .returned (.bool true) ∧ Below w.heap.size w w' := by
  go_enter Try.func12, Try.ntmps12
  go_wp2_with (first | (go_at_call 34; refine (isSquare_spec p a _).mono ?_; rintro e w1 ⟨rfl, hb1⟩) | (go_at_call 33; refine (isSquare_impl p a _).mono ?_; rintro e w2 ⟨rfl, hb2⟩))
  go_ret
  exact ⟨rfl, by (have hs_hb2 := hb2.size; have hs_hb1 := hb1.size; (repeat' (first | with_reducible exact Below.refl _ _ | (with_reducible refine Below.setCell ?_ ?_ _) | (with_reducible refine Below.alloc ?_ ?_ _) | (with_reducible refine Below.drew ?_) | (with_reducible refine below_step ?_ ?_ hb2) | (with_reducible refine below_step ?_ ?_ hb1))); all_goals (first | (simp; done) | omega | (simp; omega) | (simp at hs_hb2 hs_hb1 ⊢; omega)))⟩

set_option maxHeartbeats 400000 in
theorem squareRoot_spec (p a : Int) (w : World) :
    Calls Try.prog 32 #[.int .i64 p, .int .i64 a] w fun e w' => e = .returned (.tuple #[.int .i64 (sqV p a), .int .i64 (sqC p a)]) ∧ Below w.heap.size w w' := by
  rcases code_one p a with ⟨hc, hp, a0, a1⟩ | ⟨hc, hp⟩ | ⟨hc, hp, hn⟩
  · have HP := Lib.hid hp
    clear hp
    by_cases hr : 0 ≤ rt p a
    · have HS := Lib.hid (sq_yes hc hr)
      have HR := Lib.hid (rt_yes hr)
      have HC := Lib.hid hc
      clear hc
      go_enter Try.func32, Try.ntmps32
      go_wp2_with (first | (go_at_call 45; refine (l01Code_one p a _ _ (new_one _ _ _)).mono ?_; rintro e w1 ⟨rfl, rfl⟩; rw [HC.out]) | (go_at_call 56; refine (l01Root_any p a _ HP.out a0 a1).mono ?_; rintro e w2 ⟨rfl, rfl⟩))
      go_ret2
      exact ⟨by rw [HS.out.2.1, HS.out.2.2]; rfl, by ((repeat' (first | with_reducible exact Below.refl _ _ | (with_reducible refine Below.setCell ?_ ?_ _) | (with_reducible refine Below.alloc ?_ ?_ _) | (with_reducible refine Below.drew ?_))); all_goals (first | (simp; done) | omega | (simp; omega)))⟩
    · have hr2 : rt p a < 0 := by omega
      have HS := Lib.hid (sq_none hc hr2)
      have HR := Lib.hid (rt_no hr2)
      have HC := Lib.hid hc
      have hd : decide (0 ≤ rt p a) = false := by simp; omega
      clear hc hr
      go_enter Try.func32, Try.ntmps32
      go_wp2_with (first | (go_at_call 45; refine (l01Code_one p a _ _ (new_one _ _ _)).mono ?_; rintro e w1 ⟨rfl, rfl⟩; rw [HC.out]) | (go_at_call 56; refine (l01Root_any p a _ HP.out a0 a1).mono ?_; rintro e w2 ⟨rfl, rfl⟩))
      go_ret2
      exact ⟨by rw [HS.out.2.1, HS.out.2.2]; rfl, by ((repeat' (first | with_reducible exact Below.refl _ _ | (with_reducible refine Below.setCell ?_ ?_ _) | (with_reducible refine Below.alloc ?_ ?_ _) | (with_reducible refine Below.drew ?_))); all_goals (first | (simp; done) | omega | (simp; omega)))⟩
  all_goals
    have HS := Lib.hid (sq_no hc (by decide))
    have HC := Lib.hid hc
    clear hc hp
    try clear hn
    go_enter Try.func32, Try.ntmps32
    go_wp2_with (first | (go_at_call 45; refine (l01Code_one p a _ _ (new_one _ _ _)).mono ?_; rintro e w1 ⟨rfl, rfl⟩; rw [HC.out]))
    go_ret2
    exact ⟨by rw [HS.out.2.1, HS.out.2.2]; rfl, by ((repeat' (first | with_reducible exact Below.refl _ _ | (with_reducible refine Below.setCell ?_ ?_ _) | (with_reducible refine Below.alloc ?_ ?_ _) | (with_reducible refine Below.drew ?_))); all_goals (first | (simp; done) | omega | (simp; omega)))⟩

set_option maxHeartbeats 400000 in
theorem squareRoot_impl (p a : Int) (w : World) :
    Calls Try.prog 31 #[.int .i64 p, .int .i64 a] w fun e w' => e = .returned (.tuple #[.int .i64 (sqV p a), .int .i64 (sqC p a)]) ∧ Below w.heap.size w w' := by
  rcases code_one p a with ⟨hc, hp, a0, a1⟩ | ⟨hc, hp⟩ | ⟨hc, hp, hn⟩
  · have HP := Lib.hid hp
    clear hp
    by_cases hr : 0 ≤ rt p a
    · have HS := Lib.hid (sq_yes hc hr)
      have HR := Lib.hid (rt_yes hr)
      have HC := Lib.hid hc
      clear hc
      go_enter Try.func31, Try.ntmps31
      go_wp2_with (first | (go_at_call 43; refine (check_one p a _ _ (new_one _ _ _)).mono ?_; rintro e w1 ⟨rfl, rfl⟩; rw [HC.out]) | (go_at_call 55; refine (root_any p a _ HP.out a0 a1).mono ?_; rintro e w2 ⟨rfl, hb2⟩; rw [HR.out.1, HR.out.2.1, HR.out.2.2]))
      go_ret2
      exact ⟨by rw [HS.out.2.1, HS.out.2.2]; rfl, by (have hs_hb2 := hb2.size; (repeat' (first | with_reducible exact Below.refl _ _ | (with_reducible refine Below.setCell ?_ ?_ _) | (with_reducible refine Below.alloc ?_ ?_ _) | (with_reducible refine Below.drew ?_) | (with_reducible refine below_step ?_ ?_ hb2))); all_goals (first | (simp; done) | omega | (simp; omega) | (simp at hs_hb2 ⊢; omega)))⟩
    · have hr2 : rt p a < 0 := by omega
      have HS := Lib.hid (sq_none hc hr2)
      have HR := Lib.hid (rt_no hr2)
      have HC := Lib.hid hc
      have hd : decide (0 ≤ rt p a) = false := by simp; omega
      clear hc hr
      go_enter Try.func31, Try.ntmps31
      go_wp2_with (first | (go_at_call 43; refine (check_one p a _ _ (new_one _ _ _)).mono ?_; rintro e w1 ⟨rfl, rfl⟩; rw [HC.out]) | (go_at_call 55; refine (root_any p a _ HP.out a0 a1).mono ?_; rintro e w2 ⟨rfl, hb2⟩; rw [HR.out.1, HR.out.2.1, HR.out.2.2]))
      go_ret2
      exact ⟨by rw [HS.out.2.1, HS.out.2.2]; rfl, by (have hs_hb2 := hb2.size; (repeat' (first | with_reducible exact Below.refl _ _ | (with_reducible refine Below.setCell ?_ ?_ _) | (with_reducible refine Below.alloc ?_ ?_ _) | (with_reducible refine Below.drew ?_) | (with_reducible refine below_step ?_ ?_ hb2))); all_goals (first | (simp; done) | omega | (simp; omega) | (simp at hs_hb2 ⊢; omega)))⟩
  all_goals
    have HS := Lib.hid (sq_no hc (by decide))
    have HC := Lib.hid hc
    clear hc hp
    try clear hn
    go_enter Try.func31, Try.ntmps31
    go_wp2_with (first | (go_at_call 43; refine (check_one p a _ _ (new_one _ _ _)).mono ?_; rintro e w1 ⟨rfl, rfl⟩; rw [HC.out]))
    go_ret2
    exact ⟨by rw [HS.out.2.1, HS.out.2.2]; rfl, by ((repeat' (first | with_reducible exact Below.refl _ _ | (with_reducible refine Below.setCell ?_ ?_ _) | (with_reducible refine Below.alloc ?_ ?_ _) | (with_reducible refine Below.drew ?_))); all_goals (first | (simp; done) | omega | (simp; omega)))⟩

theorem law_squareRoot (p a : Int) (w : World) :
    Calls Try.prog 13 #[.int .i64 p, .int .i64 a] w fun e w' => e = .returned (.bool true) ∧ Below w.heap.size w w' := by
  go_enter Try.func13, Try.ntmps13
  go_wp2_with (first | (go_at_call 32; refine (squareRoot_spec p a _).mono ?_; rintro e w1 ⟨rfl, hb1⟩) | (go_at_call 31; refine (squareRoot_impl p a _).mono ?_; rintro e w2 ⟨rfl, hb2⟩))
  go_ret
  exact ⟨rfl, by (have hs_hb2 := hb2.size; have hs_hb1 := hb1.size; (repeat' (first | with_reducible exact Below.refl _ _ | (with_reducible refine Below.setCell ?_ ?_ _) | (with_reducible refine Below.alloc ?_ ?_ _) | (with_reducible refine Below.drew ?_) | (with_reducible refine below_step ?_ ?_ hb2) | (with_reducible refine below_step ?_ ?_ hb1))); all_goals (first | (simp; done) | omega | (simp; omega) | (simp at hs_hb2 hs_hb1 ⊢; omega)))⟩

end Go.Proofs.Ytgkifpampmmhoaa
