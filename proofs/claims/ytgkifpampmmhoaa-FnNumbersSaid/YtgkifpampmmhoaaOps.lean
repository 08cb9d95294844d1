/-
  What sums, differences and products of numbers return, in the program and in the model.
  No conditions but that the arguments are whole numbers of 64 bits.
-/
import Derived.Test.YtgkifpampmmhoaaArith
import Derived.Test.YtgkifpampmmhoaaCodes
import Derived.Test.YtgkifpampmmhoaaNumA
namespace Go.Proofs.Ytgkifpampmmhoaa
open Go.RowKit
set_option linter.unusedVariables false

def opV (g : Int → Int → Int) (p a b : Int) : Int := if codeOf p [a, b] = 0 then g a b % p else 0
theorem opV_ok {g : Int → Int → Int} {p a b : Int} (h : codeOf p [a, b] = 0) : opV g p a b = g a b % p := by simp [opV, h]
theorem opV_no {g : Int → Int → Int} {p a b : Int} {c : Int} (h : codeOf p [a, b] = c) (hc : c ≠ 0) : opV g p a b = 0 := by simp [opV, h, hc]

set_option maxHeartbeats 400000 in
theorem addNumbers_spec (p a b : Int) (w : World) :
    Calls Try.prog 38 #[.int .i64 p, .int .i64 a, .int .i64 b] w fun e w' => e = .returned (.tuple #[.int .i64 (opV (· + ·) p a b), .int .i64 (codeOf p [a, b])]) ∧ Below w.heap.size w w' := by
  rcases code_two p a b with ⟨hc, hp, ⟨a0, a1⟩, b0, b1⟩ | ⟨hc, hp⟩ | ⟨hc, hp, hn⟩
  · have hb := prm_bd hp
    have HV := Lib.hid (opV_ok (g := (· + ·)) hc)
    have HC := Lib.hid hc
    clear hc hp
    go_enter Try.func38, Try.ntmps38
    go_wp2_with (go_at_call 45; refine (l01Code_two p a b _ _ (new_two0 _ _ _ _) (new_two1 _ _ _ _)).mono ?_; rintro e w1 ⟨rfl, rfl⟩; rw [HC.out])
    go_ret2
    exact ⟨by rw [HV.out, HC.out]; rfl, by ((repeat' (first | with_reducible exact Below.refl _ _ | (with_reducible refine Below.setCell ?_ ?_ _) | (with_reducible refine Below.alloc ?_ ?_ _) | (with_reducible refine Below.drew ?_))); all_goals (first | (simp; done) | omega | (simp; omega)))⟩
  all_goals
    have HV := Lib.hid (opV_no (g := (· + ·)) hc (by decide))
    have HC := Lib.hid hc
    clear hc hp
    try clear hn
    go_enter Try.func38, Try.ntmps38
    go_wp2_with (go_at_call 45; refine (l01Code_two p a b _ _ (new_two0 _ _ _ _) (new_two1 _ _ _ _)).mono ?_; rintro e w1 ⟨rfl, rfl⟩; rw [HC.out])
    go_ret2
    exact ⟨by rw [HV.out, HC.out]; rfl, by ((repeat' (first | with_reducible exact Below.refl _ _ | (with_reducible refine Below.setCell ?_ ?_ _) | (with_reducible refine Below.alloc ?_ ?_ _) | (with_reducible refine Below.drew ?_))); all_goals (first | (simp; done) | omega | (simp; omega)))⟩

set_option maxHeartbeats 400000 in
theorem combine_plus (p a b : Int) (w : World) :
    Calls Try.prog 48 #[.int .i64 p, .int .i64 a, .int .i64 b, .func (Fn.func 50) #[] #[]] w fun e w' => e = .returned (.tuple #[.int .i64 (opV (· + ·) p a b), .int .i64 (codeOf p [a, b])]) ∧ Below w.heap.size w w' := by
  rcases code_two p a b with ⟨hc, hp, ⟨a0, a1⟩, b0, b1⟩ | ⟨hc, hp⟩ | ⟨hc, hp, hn⟩
  · have hb := prm_bd hp
    have HV := Lib.hid (opV_ok (g := (· + ·)) hc)
    have HC := Lib.hid hc
    have HP := Lib.hid hp
    have fv := field_value
    clear hc hp
    go_enter Try.func48, Try.ntmps48
    go_wp2_with (first | (go_at_call 43; refine (check_two p a b _ _ (new_two0 _ _ _ _) (new_two1 _ _ _ _)).mono ?_; rintro e w1 ⟨rfl, rfl⟩; rw [HC.out]) | (go_at_call 50; refine (plus_any p a b _ HP.out (by omega) (by omega) (by omega) (by omega)).mono ?_; rintro e w2 ⟨rfl, hb2⟩))
    go_ret2
    clear fv
    exact ⟨by rw [HV.out, HC.out]; rfl, by (have hs_hb2 := hb2.size; (repeat' (first | with_reducible exact Below.refl _ _ | (with_reducible refine Below.setCell ?_ ?_ _) | (with_reducible refine Below.alloc ?_ ?_ _) | (with_reducible refine Below.drew ?_) | (with_reducible refine below_step ?_ ?_ hb2))); all_goals (first | (simp; done) | omega | (simp; omega) | (simp at hs_hb2 ⊢; omega)))⟩
  all_goals
    have HV := Lib.hid (opV_no (g := (· + ·)) hc (by decide))
    have HC := Lib.hid hc
    clear hc hp
    try clear hn
    go_enter Try.func48, Try.ntmps48
    go_wp2_with (go_at_call 43; refine (check_two p a b _ _ (new_two0 _ _ _ _) (new_two1 _ _ _ _)).mono ?_; rintro e w1 ⟨rfl, rfl⟩; rw [HC.out])
    go_ret2
    exact ⟨by rw [HV.out, HC.out]; rfl, by ((repeat' (first | with_reducible exact Below.refl _ _ | (with_reducible refine Below.setCell ?_ ?_ _) | (with_reducible refine Below.alloc ?_ ?_ _) | (with_reducible refine Below.drew ?_))); all_goals (first | (simp; done) | omega | (simp; omega)))⟩

theorem addNumbers_impl (p a b : Int) (w : World) :
    Calls Try.prog 23 #[.int .i64 p, .int .i64 a, .int .i64 b] w fun e w' => e = .returned (.tuple #[.int .i64 (opV (· + ·) p a b), .int .i64 (codeOf p [a, b])]) ∧ Below w.heap.size w w' := by
  go_enter Try.func23, Try.ntmps23
  go_wp2_with (go_at_call 48; refine (combine_plus p a b _).mono ?_; rintro e w1 ⟨rfl, hb1⟩)
  go_ret2
  exact ⟨rfl, hb1⟩

set_option maxHeartbeats 400000 in
theorem subtractNumbers_spec (p a b : Int) (w : World) :
    Calls Try.prog 39 #[.int .i64 p, .int .i64 a, .int .i64 b] w fun e w' => e = .returned (.tuple #[.int .i64 (opV (· - ·) p a b), .int .i64 (codeOf p [a, b])]) ∧ Below w.heap.size w w' := by
  rcases code_two p a b with ⟨hc, hp, ⟨a0, a1⟩, b0, b1⟩ | ⟨hc, hp⟩ | ⟨hc, hp, hn⟩
  · have hb := prm_bd hp
    have e0 : Hid ((a + p - b) % p = (a - b) % p) := by show _ = _; rw [show a + p - b = a - b + p by omega, Int.add_emod_right]
    have HV := Lib.hid (opV_ok (g := (· - ·)) hc)
    have HC := Lib.hid hc
    clear hc hp
    go_enter Try.func39, Try.ntmps39
    go_wp2_with (go_at_call 45; refine (l01Code_two p a b _ _ (new_two0 _ _ _ _) (new_two1 _ _ _ _)).mono ?_; rintro e w1 ⟨rfl, rfl⟩; rw [HC.out])
    go_ret2
    exact ⟨by rw [HV.out, HC.out, ← e0.out]; rfl, by ((repeat' (first | with_reducible exact Below.refl _ _ | (with_reducible refine Below.setCell ?_ ?_ _) | (with_reducible refine Below.alloc ?_ ?_ _) | (with_reducible refine Below.drew ?_))); all_goals (first | (simp; done) | omega | (simp; omega)))⟩
  all_goals
    have HV := Lib.hid (opV_no (g := (· - ·)) hc (by decide))
    have HC := Lib.hid hc
    clear hc hp
    try clear hn
    go_enter Try.func39, Try.ntmps39
    go_wp2_with (go_at_call 45; refine (l01Code_two p a b _ _ (new_two0 _ _ _ _) (new_two1 _ _ _ _)).mono ?_; rintro e w1 ⟨rfl, rfl⟩; rw [HC.out])
    go_ret2
    exact ⟨by rw [HV.out, HC.out]; rfl, by ((repeat' (first | with_reducible exact Below.refl _ _ | (with_reducible refine Below.setCell ?_ ?_ _) | (with_reducible refine Below.alloc ?_ ?_ _) | (with_reducible refine Below.drew ?_))); all_goals (first | (simp; done) | omega | (simp; omega)))⟩

set_option maxHeartbeats 400000 in
theorem combine_minus (p a b : Int) (w : World) :
    Calls Try.prog 48 #[.int .i64 p, .int .i64 a, .int .i64 b, .func (Fn.func 51) #[] #[]] w fun e w' => e = .returned (.tuple #[.int .i64 (opV (· - ·) p a b), .int .i64 (codeOf p [a, b])]) ∧ Below w.heap.size w w' := by
  rcases code_two p a b with ⟨hc, hp, ⟨a0, a1⟩, b0, b1⟩ | ⟨hc, hp⟩ | ⟨hc, hp, hn⟩
  · have hb := prm_bd hp
    have HV := Lib.hid (opV_ok (g := (· - ·)) hc)
    have HC := Lib.hid hc
    have HP := Lib.hid hp
    have fv := field_value
    clear hc hp
    go_enter Try.func48, Try.ntmps48
    go_wp2_with (first | (go_at_call 43; refine (check_two p a b _ _ (new_two0 _ _ _ _) (new_two1 _ _ _ _)).mono ?_; rintro e w1 ⟨rfl, rfl⟩; rw [HC.out]) | (go_at_call 51; refine (minus_any p a b _ HP.out (by omega) (by omega) (by omega) (by omega)).mono ?_; rintro e w2 ⟨rfl, hb2⟩))
    go_ret2
    clear fv
    exact ⟨by rw [HV.out, HC.out]; rfl, by (have hs_hb2 := hb2.size; (repeat' (first | with_reducible exact Below.refl _ _ | (with_reducible refine Below.setCell ?_ ?_ _) | (with_reducible refine Below.alloc ?_ ?_ _) | (with_reducible refine Below.drew ?_) | (with_reducible refine below_step ?_ ?_ hb2))); all_goals (first | (simp; done) | omega | (simp; omega) | (simp at hs_hb2 ⊢; omega)))⟩
  all_goals
    have HV := Lib.hid (opV_no (g := (· - ·)) hc (by decide))
    have HC := Lib.hid hc
    clear hc hp
    try clear hn
    go_enter Try.func48, Try.ntmps48
    go_wp2_with (go_at_call 43; refine (check_two p a b _ _ (new_two0 _ _ _ _) (new_two1 _ _ _ _)).mono ?_; rintro e w1 ⟨rfl, rfl⟩; rw [HC.out])
    go_ret2
    exact ⟨by rw [HV.out, HC.out]; rfl, by ((repeat' (first | with_reducible exact Below.refl _ _ | (with_reducible refine Below.setCell ?_ ?_ _) | (with_reducible refine Below.alloc ?_ ?_ _) | (with_reducible refine Below.drew ?_))); all_goals (first | (simp; done) | omega | (simp; omega)))⟩

theorem subtractNumbers_impl (p a b : Int) (w : World) :
    Calls Try.prog 24 #[.int .i64 p, .int .i64 a, .int .i64 b] w fun e w' => e = .returned (.tuple #[.int .i64 (opV (· - ·) p a b), .int .i64 (codeOf p [a, b])]) ∧ Below w.heap.size w w' := by
  go_enter Try.func24, Try.ntmps24
  go_wp2_with (go_at_call 48; refine (combine_minus p a b _).mono ?_; rintro e w1 ⟨rfl, hb1⟩)
  go_ret2
  exact ⟨rfl, hb1⟩

set_option maxHeartbeats 400000 in
theorem multiplyNumbers_spec (p a b : Int) (w : World) :
    Calls Try.prog 40 #[.int .i64 p, .int .i64 a, .int .i64 b] w fun e w' => e = .returned (.tuple #[.int .i64 (opV (· * ·) p a b), .int .i64 (codeOf p [a, b])]) ∧ Below w.heap.size w w' := by
  rcases code_two p a b with ⟨hc, hp, ⟨a0, a1⟩, b0, b1⟩ | ⟨hc, hp⟩ | ⟨hc, hp, hn⟩
  · have hb := prm_bd hp
    obtain ⟨m0, m1⟩ := mul_bd hp a0 a1 b0 b1
    have HV := Lib.hid (opV_ok (g := (· * ·)) hc)
    have HC := Lib.hid hc
    clear hc hp
    go_enter Try.func40, Try.ntmps40
    go_wp2_with (go_at_call 45; refine (l01Code_two p a b _ _ (new_two0 _ _ _ _) (new_two1 _ _ _ _)).mono ?_; rintro e w1 ⟨rfl, rfl⟩; rw [HC.out])
    go_ret2
    exact ⟨by rw [HV.out, HC.out]; rfl, by ((repeat' (first | with_reducible exact Below.refl _ _ | (with_reducible refine Below.setCell ?_ ?_ _) | (with_reducible refine Below.alloc ?_ ?_ _) | (with_reducible refine Below.drew ?_))); all_goals (first | (simp; done) | omega | (simp; omega)))⟩
  all_goals
    have HV := Lib.hid (opV_no (g := (· * ·)) hc (by decide))
    have HC := Lib.hid hc
    clear hc hp
    try clear hn
    go_enter Try.func40, Try.ntmps40
    go_wp2_with (go_at_call 45; refine (l01Code_two p a b _ _ (new_two0 _ _ _ _) (new_two1 _ _ _ _)).mono ?_; rintro e w1 ⟨rfl, rfl⟩; rw [HC.out])
    go_ret2
    exact ⟨by rw [HV.out, HC.out]; rfl, by ((repeat' (first | with_reducible exact Below.refl _ _ | (with_reducible refine Below.setCell ?_ ?_ _) | (with_reducible refine Below.alloc ?_ ?_ _) | (with_reducible refine Below.drew ?_))); all_goals (first | (simp; done) | omega | (simp; omega)))⟩

set_option maxHeartbeats 400000 in
theorem combine_times (p a b : Int) (w : World) :
    Calls Try.prog 48 #[.int .i64 p, .int .i64 a, .int .i64 b, .func (Fn.func 49) #[] #[]] w fun e w' => e = .returned (.tuple #[.int .i64 (opV (· * ·) p a b), .int .i64 (codeOf p [a, b])]) ∧ Below w.heap.size w w' := by
  rcases code_two p a b with ⟨hc, hp, ⟨a0, a1⟩, b0, b1⟩ | ⟨hc, hp⟩ | ⟨hc, hp, hn⟩
  · have hb := prm_bd hp
    have HV := Lib.hid (opV_ok (g := (· * ·)) hc)
    have HC := Lib.hid hc
    have HP := Lib.hid hp
    have fv := field_value
    clear hc hp
    go_enter Try.func48, Try.ntmps48
    go_wp2_with (first | (go_at_call 43; refine (check_two p a b _ _ (new_two0 _ _ _ _) (new_two1 _ _ _ _)).mono ?_; rintro e w1 ⟨rfl, rfl⟩; rw [HC.out]) | (go_at_call 49; refine (times_any p a b _ HP.out (by omega) (by omega) (by omega) (by omega)).mono ?_; rintro e w2 ⟨rfl, hb2⟩))
    go_ret2
    clear fv
    exact ⟨by rw [HV.out, HC.out]; rfl, by (have hs_hb2 := hb2.size; (repeat' (first | with_reducible exact Below.refl _ _ | (with_reducible refine Below.setCell ?_ ?_ _) | (with_reducible refine Below.alloc ?_ ?_ _) | (with_reducible refine Below.drew ?_) | (with_reducible refine below_step ?_ ?_ hb2))); all_goals (first | (simp; done) | omega | (simp; omega) | (simp at hs_hb2 ⊢; omega)))⟩
  all_goals
    have HV := Lib.hid (opV_no (g := (· * ·)) hc (by decide))
    have HC := Lib.hid hc
    clear hc hp
    try clear hn
    go_enter Try.func48, Try.ntmps48
    go_wp2_with (go_at_call 43; refine (check_two p a b _ _ (new_two0 _ _ _ _) (new_two1 _ _ _ _)).mono ?_; rintro e w1 ⟨rfl, rfl⟩; rw [HC.out])
    go_ret2
    exact ⟨by rw [HV.out, HC.out]; rfl, by ((repeat' (first | with_reducible exact Below.refl _ _ | (with_reducible refine Below.setCell ?_ ?_ _) | (with_reducible refine Below.alloc ?_ ?_ _) | (with_reducible refine Below.drew ?_))); all_goals (first | (simp; done) | omega | (simp; omega)))⟩

theorem multiplyNumbers_impl (p a b : Int) (w : World) :
    Calls Try.prog 22 #[.int .i64 p, .int .i64 a, .int .i64 b] w fun e w' => e = .returned (.tuple #[.int .i64 (opV (· * ·) p a b), .int .i64 (codeOf p [a, b])]) ∧ Below w.heap.size w w' := by
  go_enter Try.func22, Try.ntmps22
  go_wp2_with (go_at_call 48; refine (combine_times p a b _).mono ?_; rintro e w1 ⟨rfl, hb1⟩)
  go_ret2
  exact ⟨rfl, hb1⟩

end Go.Proofs.Ytgkifpampmmhoaa
