/-
  What NumberText and ParseNumber return, in the program and in the model.
  No conditions but that the arguments are whole numbers of 64 bits and a text.
-/
import Derived.Test.YtgkifpampmmhoabDoorText
namespace Go.Proofs.YtgkifpampmmhoabDoor
open Go.RowKit
set_option linter.unusedVariables false

def ntS (p a : Int) : ByteArray := if codeOf p [a] = 0 then textOf p a else ⟨#[]⟩
theorem nt_yes {p a : Int} (h : codeOf p [a] = 0) : ntS p a = textOf p a := by simp [ntS, h]
theorem nt_no {p a c : Int} (h : codeOf p [a] = c) (hc : c ≠ 0) : ntS p a = ⟨#[]⟩ := by simp [ntS, h, hc]

theorem numberText_spec (p a : Int) (w : World) :
    Calls Tryd.prog 5 #[.int .i64 p, .int .i64 a] w fun e w' => e = .returned (.tuple #[.string (ntS p a), .int .i64 (codeOf p [a])]) ∧ Below w.heap.size w w' := by
  rcases code_one p a with ⟨hc, hp, a0, a1⟩ | ⟨hc, hp⟩ | ⟨hc, hp, hn⟩
  · have HP := Lib.hid hp
    have HS := Lib.hid (nt_yes hc)
    have HC := Lib.hid hc
    clear hp hc
    go_enter Tryd.func5, Tryd.ntmps5
    go_wp2_with (first | (go_at_call 9; refine (l01Code_one p a _ _ (new_one _ _ _)).mono ?_; rintro e w1 ⟨rfl, rfl⟩; rw [HC.out]) | (go_at_call 10; refine (l01Text_any p a _ HP.out a0 a1).mono ?_; rintro e w2 ⟨rfl, hb2⟩))
    go_ret2
    exact ⟨by rw [HS.out, HC.out]; rfl, by (have hs_hb2 := hb2.size; (repeat' (first | with_reducible exact Below.refl _ _ | (with_reducible refine Below.setCell ?_ ?_ _) | (with_reducible refine Below.alloc ?_ ?_ _) | (with_reducible refine Below.drew ?_) | (with_reducible refine below_step ?_ ?_ hb2))); all_goals (first | (simp; done) | omega | (simp; omega) | (simp at hs_hb2 ⊢; omega)))⟩
  all_goals
    have HS := Lib.hid (nt_no hc (by decide))
    have HC := Lib.hid hc
    clear hc hp
    try clear hn
    go_enter Tryd.func5, Tryd.ntmps5
    go_wp2_with (go_at_call 9; refine (l01Code_one p a _ _ (new_one _ _ _)).mono ?_; rintro e w1 ⟨rfl, rfl⟩; rw [HC.out])
    go_ret2
    exact ⟨by rw [HS.out, HC.out]; rfl, by ((repeat' (first | with_reducible exact Below.refl _ _ | (with_reducible refine Below.setCell ?_ ?_ _) | (with_reducible refine Below.alloc ?_ ?_ _) | (with_reducible refine Below.drew ?_))); all_goals (first | (simp; done) | omega | (simp; omega)))⟩

theorem numberText_impl (p a : Int) (w : World) :
    Calls Tryd.prog 6 #[.int .i64 p, .int .i64 a] w fun e w' => e = .returned (.tuple #[.string (ntS p a), .int .i64 (codeOf p [a])]) ∧ Below w.heap.size w w' := by
  rcases code_one p a with ⟨hc, hp, a0, a1⟩ | ⟨hc, hp⟩ | ⟨hc, hp, hn⟩
  · have HP := Lib.hid hp
    have HS := Lib.hid (nt_yes hc)
    have HC := Lib.hid hc
    clear hp hc
    go_enter Tryd.func6, Tryd.ntmps6
    go_wp2_with (first | (go_at_call 11; refine (check_one p a _ _ (new_one _ _ _)).mono ?_; rintro e w1 ⟨rfl, rfl⟩; rw [HC.out]) | (go_at_call 12; refine (text_any p a _ HP.out a0 a1).mono ?_; rintro e w2 ⟨rfl, hb2⟩))
    go_ret2
    exact ⟨by rw [HS.out, HC.out]; rfl, by (have hs_hb2 := hb2.size; (repeat' (first | with_reducible exact Below.refl _ _ | (with_reducible refine Below.setCell ?_ ?_ _) | (with_reducible refine Below.alloc ?_ ?_ _) | (with_reducible refine Below.drew ?_) | (with_reducible refine below_step ?_ ?_ hb2))); all_goals (first | (simp; done) | omega | (simp; omega) | (simp at hs_hb2 ⊢; omega)))⟩
  all_goals
    have HS := Lib.hid (nt_no hc (by decide))
    have HC := Lib.hid hc
    clear hc hp
    try clear hn
    go_enter Tryd.func6, Tryd.ntmps6
    go_wp2_with (go_at_call 11; refine (check_one p a _ _ (new_one _ _ _)).mono ?_; rintro e w1 ⟨rfl, rfl⟩; rw [HC.out])
    go_ret2
    exact ⟨by rw [HS.out, HC.out]; rfl, by ((repeat' (first | with_reducible exact Below.refl _ _ | (with_reducible refine Below.setCell ?_ ?_ _) | (with_reducible refine Below.alloc ?_ ?_ _) | (with_reducible refine Below.drew ?_))); all_goals (first | (simp; done) | omega | (simp; omega)))⟩

/-- The first number with a text, or -1. -/
def psF (p : Int) (s : ByteArray) : Nat → Int → Int
  | 0, _ => -1
  | f + 1, v => if ((textOf p v).toList == s.toList) = true then v else psF p s f (v + 1)
def ps (p : Int) (s : ByteArray) : Int := psF p s p.toNat 0
theorem psF_hit {p v : Int} {s : ByteArray} (h : v < p) (ht : ((textOf p v).toList == s.toList) = true) : psF p s (p - v).toNat v = v := by
  rw [show (p - v).toNat = (p - (v + 1)).toNat + 1 by omega, psF, if_pos ht]
theorem psF_miss {p v : Int} {s : ByteArray} (h : v < p) (ht : ((textOf p v).toList == s.toList) = false) : psF p s (p - v).toNat v = psF p s (p - (v + 1)).toNat (v + 1) := by
  rw [show (p - v).toNat = (p - (v + 1)).toNat + 1 by omega, psF, if_neg (by simp [ht])]
def paV (p : Int) (s : ByteArray) : Int := if prm p = true ∧ 0 ≤ ps p s then ps p s else 0
def paC (p : Int) (s : ByteArray) : Int := if prm p = true then (if 0 ≤ ps p s then 0 else 6) else 1
theorem pa_yes {p : Int} {s : ByteArray} (h : prm p = true) (k : 0 ≤ ps p s) : paV p s = ps p s ∧ paC p s = 0 := by simp [paV, paC, h, k]
theorem pa_none {p : Int} {s : ByteArray} (h : prm p = true) (k : ps p s = -1) : paV p s = 0 ∧ paC p s = 6 := by simp [paV, paC, h, k]
theorem pa_no {p : Int} {s : ByteArray} (h : prm p = false) : paV p s = 0 ∧ paC p s = 1 := by simp [paV, paC, h]

set_option maxHeartbeats 400000 in
theorem parseNumber_spec (p : Int) (s : ByteArray) (w : World) :
    Calls Tryd.prog 7 #[.int .i64 p, .string s] w fun e w' => e = .returned (.tuple #[.int .i64 (paV p s), .int .i64 (paC p s)]) ∧ Below w.heap.size w w' := by
  by_cases hp : prm p = true
  · have hb := prm_bd hp
    have HP := Lib.hid hp
    clear hp
    go_enter Tryd.func7, Tryd.ntmps7
    go_wp2_with (go_at_call 13; refine (l01Prime_any p _).mono ?_; rintro e w1 ⟨rfl, rfl⟩; rw [HP.out])
    go_loopw [6] (fun t wr => ∃ v : Int, 0 ≤ v ∧ v ≤ p ∧ t = .int .i64 v ∧ Hid (psF p s (p - v).toNat v = ps p s) ∧ Below w.heap.size w wr) (fun t _ => (p - intOf t).toNat)
    case atStart => exact ⟨0, by omega, by omega, rfl, (by show psF p s (p - 0).toNat 0 = ps p s; rw [Int.sub_zero]; rfl), Below.refl _ _⟩
    case round =>
      obtain ⟨v, v0, v1, rfl, HV, hbel⟩ := hrel
      by_cases hlt : v < p
      · by_cases ht : ((textOf p v).toList == s.toList) = true
        · have HQ : Hid (ps p s = v) := by show ps p s = v; rw [← HV.out]; exact psF_hit hlt ht
          have HS := Lib.hid (pa_yes (s := s) HP.out (by rw [HQ.out]; exact v0))
          go_wp2_with (go_at_call 10; refine (l01Text_any p v _ HP.out v0 hlt).mono ?_; rintro e w2 ⟨rfl, hb2⟩)
          go_ret2
          exact ⟨by rw [HS.out.1, HS.out.2, HQ.out]; rfl, by (have hs_hb2 := hb2.size; have hs_hbel := hbel.size; (repeat' (first | with_reducible exact Below.refl _ _ | (with_reducible refine Below.setCell ?_ ?_ _) | (with_reducible refine Below.alloc ?_ ?_ _) | (with_reducible refine Below.drew ?_) | (with_reducible refine below_step ?_ ?_ hb2) | (with_reducible refine below_step ?_ ?_ hbel))); all_goals (first | (simp; done) | omega | (simp; omega) | (simp at hs_hb2 hs_hbel ⊢; omega)))⟩
        · have ht' : ((textOf p v).toList == s.toList) = false := by simpa using ht
          have HQ : Hid (psF p s (p - (v + 1)).toNat (v + 1) = ps p s) := by show psF p s (p - (v + 1)).toNat (v + 1) = ps p s; rw [← HV.out]; exact (psF_miss hlt ht').symm
          clear ht
          go_wp2_with (go_at_call 10; refine (l01Text_any p v _ HP.out v0 hlt).mono ?_; rintro e w2 ⟨rfl, hb2⟩)
          go_roundw
          case rel => exact ⟨v + 1, by omega, by omega, rfl, HQ, by (have hs_hb2 := hb2.size; have hs_hbel := hbel.size; (repeat' (first | with_reducible exact Below.refl _ _ | (with_reducible refine Below.setCell ?_ ?_ _) | (with_reducible refine Below.alloc ?_ ?_ _) | (with_reducible refine Below.drew ?_) | (with_reducible refine below_step ?_ ?_ hb2) | (with_reducible refine below_step ?_ ?_ hbel))); all_goals (first | (simp; done) | omega | (simp; omega) | (simp at hs_hb2 hs_hbel ⊢; omega)))⟩
          case measure => simp [intOf]; omega
      · have HQ : Hid (ps p s = -1) := by show ps p s = -1; rw [← HV.out, show (p - v).toNat = 0 by omega]; rfl
        have HS := Lib.hid (pa_none (s := s) HP.out HQ.out)
        go_wp2
        go_ret2
        exact ⟨by rw [HS.out.1, HS.out.2]; rfl, hbel⟩
  · have hp' : prm p = false := by simpa using hp
    have HP := Lib.hid hp'
    have HS := Lib.hid (pa_no (s := s) hp')
    clear hp hp'
    go_enter Tryd.func7, Tryd.ntmps7
    go_wp2_with (go_at_call 13; refine (l01Prime_any p _).mono ?_; rintro e w1 ⟨rfl, rfl⟩; rw [HP.out])
    go_ret2
    exact ⟨by rw [HS.out.1, HS.out.2]; rfl, Below.refl _ _⟩

set_option maxHeartbeats 400000 in
theorem parseNumber_impl (p : Int) (s : ByteArray) (w : World) :
    Calls Tryd.prog 8 #[.int .i64 p, .string s] w fun e w' => e = .returned (.tuple #[.int .i64 (paV p s), .int .i64 (paC p s)]) ∧ Below w.heap.size w w' := by
  by_cases hp : prm p = true
  · have hb := prm_bd hp
    have HP := Lib.hid hp
    clear hp
    go_enter Tryd.func8, Tryd.ntmps8
    go_wp2_with (go_at_call 14; refine (isPrime_any p _).mono ?_; rintro e w1 ⟨rfl, rfl⟩; rw [HP.out])
    go_loopw [11] (fun t wr => ∃ v : Int, 0 ≤ v ∧ v ≤ p ∧ t = .int .i64 v ∧ Hid (psF p s (p - v).toNat v = ps p s) ∧ Below w.heap.size w wr) (fun t _ => (p - intOf t).toNat)
    case atStart => exact ⟨0, by omega, by omega, rfl, (by show psF p s (p - 0).toNat 0 = ps p s; rw [Int.sub_zero]; rfl), Below.refl _ _⟩
    case round =>
      obtain ⟨v, v0, v1, rfl, HV, hbel⟩ := hrel
      by_cases hlt : v < p
      · by_cases ht : ((textOf p v).toList == s.toList) = true
        · have HQ : Hid (ps p s = v) := by show ps p s = v; rw [← HV.out]; exact psF_hit hlt ht
          have HS := Lib.hid (pa_yes (s := s) HP.out (by rw [HQ.out]; exact v0))
          go_wp2_with (go_at_call 12; refine (text_any p v _ HP.out v0 hlt).mono ?_; rintro e w2 ⟨rfl, hb2⟩)
          go_ret2
          exact ⟨by rw [HS.out.1, HS.out.2, HQ.out]; rfl, by (have hs_hb2 := hb2.size; have hs_hbel := hbel.size; (repeat' (first | with_reducible exact Below.refl _ _ | (with_reducible refine Below.setCell ?_ ?_ _) | (with_reducible refine Below.alloc ?_ ?_ _) | (with_reducible refine Below.drew ?_) | (with_reducible refine below_step ?_ ?_ hb2) | (with_reducible refine below_step ?_ ?_ hbel))); all_goals (first | (simp; done) | omega | (simp; omega) | (simp at hs_hb2 hs_hbel ⊢; omega)))⟩
        · have ht' : ((textOf p v).toList == s.toList) = false := by simpa using ht
          have HQ : Hid (psF p s (p - (v + 1)).toNat (v + 1) = ps p s) := by show psF p s (p - (v + 1)).toNat (v + 1) = ps p s; rw [← HV.out]; exact (psF_miss hlt ht').symm
          clear ht
          go_wp2_with (go_at_call 12; refine (text_any p v _ HP.out v0 hlt).mono ?_; rintro e w2 ⟨rfl, hb2⟩)
          go_roundw
          case rel => exact ⟨v + 1, by omega, by omega, rfl, HQ, by (have hs_hb2 := hb2.size; have hs_hbel := hbel.size; (repeat' (first | with_reducible exact Below.refl _ _ | (with_reducible refine Below.setCell ?_ ?_ _) | (with_reducible refine Below.alloc ?_ ?_ _) | (with_reducible refine Below.drew ?_) | (with_reducible refine below_step ?_ ?_ hb2) | (with_reducible refine below_step ?_ ?_ hbel))); all_goals (first | (simp; done) | omega | (simp; omega) | (simp at hs_hb2 hs_hbel ⊢; omega)))⟩
          case measure => simp [intOf]; omega
      · have HQ : Hid (ps p s = -1) := by show ps p s = -1; rw [← HV.out, show (p - v).toNat = 0 by omega]; rfl
        have HS := Lib.hid (pa_none (s := s) HP.out HQ.out)
        go_wp2
        go_ret2
        exact ⟨by rw [HS.out.1, HS.out.2]; rfl, hbel⟩
  · have hp' : prm p = false := by simpa using hp
    have HP := Lib.hid hp'
    have HS := Lib.hid (pa_no (s := s) hp')
    clear hp hp'
    go_enter Tryd.func8, Tryd.ntmps8
    go_wp2_with (go_at_call 14; refine (isPrime_any p _).mono ?_; rintro e w1 ⟨rfl, rfl⟩; rw [HP.out])
    go_ret2
    exact ⟨by rw [HS.out.1, HS.out.2]; rfl, Below.refl _ _⟩

end Go.Proofs.YtgkifpampmmhoabDoor
