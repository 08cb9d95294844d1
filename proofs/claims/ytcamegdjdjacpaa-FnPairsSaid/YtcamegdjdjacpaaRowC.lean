/-
  What the program's and the model's checks of lists of numbers return.
  Conditions: they are nil or rows of known cells.
-/
import Derived.Test.YtcamegdjdjacpaaMats
namespace Go.Proofs.Ytcamegdjdjacpaa
open Go.RowKit Go.ChangeShapes Go.WideShapes
set_option linter.unusedVariables false

set_option maxHeartbeats 800000 in
theorem checkRow (p : Int) (a : Option Addr) (zs : List Int) (cap lo tp : Nat) (w : World) (hp : prm p = true) (hrow : RowIn lo tp w a zs) (hlen : zs.length ≤ 9223372036854775807) :
    Calls Try.prog 129 #[.int .i64 p, .slice a zs.length cap] w fun e w' => e = .returned (.int .i64 (codeOf p zs)) ∧ w = w' := by
  have HP := Lib.hid hp
  have HR := Lib.hid hrow
  clear hrow hp
  go_enter Try.func129, Try.ntmps129
  go_wp2_with (go_at_call 187; refine (isPrime_any _ _).mono ?_; rintro e w' ⟨rfl, rfl⟩; rw [HP.out])
  go_loop [12] (fun t => ∃ k : Nat, k ≤ zs.length ∧ t = .int .i64 k ∧ (zs.take k).all (inr p) = true) (fun t => zs.length - (intOf t).toNat)
  case atStart => exact ⟨0, Nat.zero_le _, rfl, rfl⟩
  case round =>
    obtain ⟨k, hk, rfl, hall⟩ := hrel
    have HA := Lib.hid hall
    clear hall
    by_cases hlt : k < zs.length
    · obtain ⟨b, o, ha, _, _, hcell⟩ := HR.out.num hlt
      subst ha
      obtain ⟨x, hx⟩ : ∃ x, x = zs.getD k 0 := ⟨_, rfl⟩
      rw [← hx] at hcell
      have HX := Lib.hid hx
      clear hx
      by_cases hin : 0 ≤ x ∧ x < p
      · have HI : Hid (inr p x = true) := inr_iff.2 hin
        obtain ⟨hi0, hi1⟩ := hin
        go_wp2
        go_round
        case rel => exact ⟨k + 1, by omega, by go_num, by rw [all_take_succ hlt HX.out, HA.out, HI.out]; rfl⟩
        case measure => simp [intOf]; omega
      · have HI : Hid (inr p x = false) := inr_not.2 hin
        have HC : Hid (codeOf p zs = 2) := code_bad HP.out (all_false_of hlt HX.out HI.out)
        by_cases h0 : x < 0
        · clear hin
          go_wp2
          go_ret
          exact ⟨by rw [HC.out]; rfl, rfl⟩
        · have h1 : p ≤ x := by omega
          clear hin
          go_wp2
          go_ret
          exact ⟨by rw [HC.out]; rfl, rfl⟩
    · have HC : Hid (codeOf p zs = 0) := code_ok HP.out (by have := HA.out; rwa [List.take_of_length_le (by omega)] at this)
      go_wp2
      go_ret
      exact ⟨by rw [HC.out]; rfl, rfl⟩

set_option maxHeartbeats 800000 in
theorem numsRow (p : Int) (a : Option Addr) (zs : List Int) (cap lo tp : Nat) (w : World) (hp : prm p = true) (hrow : RowIn lo tp w a zs) (hlen : zs.length ≤ 9223372036854775807) :
    Calls Try.prog 164 #[.int .i64 p, .slice a zs.length cap] w fun e w' => e = .returned (.bool (zs.all (inr p))) ∧ w = w' := by
  have hpb := prm_bd hp
  clear hp
  have HR := Lib.hid hrow
  clear hrow
  go_enter Try.func164, Try.ntmps164
  go_wp2
  go_loop [5] (fun t => ∃ k : Nat, k ≤ zs.length ∧ t = .int .i64 k ∧ (zs.take k).all (inr p) = true) (fun t => zs.length - (intOf t).toNat)
  case atStart => exact ⟨0, Nat.zero_le _, rfl, rfl⟩
  case round =>
    obtain ⟨k, hk, rfl, hall⟩ := hrel
    have HA := Lib.hid hall
    clear hall
    by_cases hlt : k < zs.length
    · obtain ⟨b, o, ha, _, _, hcell⟩ := HR.out.num hlt
      subst ha
      obtain ⟨x, hx⟩ : ∃ x, x = zs.getD k 0 := ⟨_, rfl⟩
      rw [← hx] at hcell
      have HX := Lib.hid hx
      clear hx
      by_cases hin : 0 ≤ x ∧ x < p
      · have HI : Hid (inr p x = true) := inr_iff.2 hin
        obtain ⟨hi0, hi1⟩ := hin
        go_wp2_with (go_at_call 151; refine (l01In_yes _ _ _ _ (by omega) (by omega)).mono ?_; rintro e w' ⟨rfl, rfl⟩)
        go_round
        case rel => exact ⟨k + 1, by omega, by go_num, by rw [all_take_succ hlt HX.out, HA.out, HI.out]; rfl⟩
        case measure => simp [intOf]; omega
      · have HI : Hid (inr p x = false) := inr_not.2 hin
        have HC : Hid (zs.all (inr p) = false) := all_false_of hlt HX.out HI.out
        have hin' : ¬ (0 ≤ x ∧ x ≤ p - 1) := by omega
        have HN := Lib.hid hin'
        clear hin hin'
        go_wp2_with (go_at_call 151; refine (l01In_no _ _ _ _ HN.out).mono ?_; rintro e w' ⟨rfl, rfl⟩)
        go_ret
        exact ⟨by rw [HC.out]; rfl, rfl⟩
    · have HC : Hid (zs.all (inr p) = true) := by have := HA.out; rwa [List.take_of_length_le (by omega)] at this
      go_wp2
      go_ret
      exact ⟨by rw [HC.out]; rfl, rfl⟩

set_option maxHeartbeats 800000 in
theorem checkRow_any (p : Int) (a : Option Addr) (zs : List Int) (cap lo tp : Nat) (w : World) (hrow : RowIn lo tp w a zs) (hlen : zs.length ≤ 9223372036854775807) :
    Calls Try.prog 129 #[.int .i64 p, .slice a zs.length cap] w fun e w' => e = .returned (.int .i64 (codeOf p zs)) ∧ w = w' := by
  by_cases hp : prm p = true
  · exact checkRow p a zs cap lo tp w hp hrow hlen
  · have HP : Hid (prm p = false) := by show _ = _; simpa using hp
    clear hp hrow
    go_enter Try.func129, Try.ntmps129
    go_wp2_with (go_at_call 187; refine (isPrime_any _ _).mono ?_; rintro e w' ⟨rfl, rfl⟩; rw [HP.out])
    go_ret
    exact ⟨by rw [code_np HP.out]; rfl, rfl⟩

set_option maxHeartbeats 800000 in
theorem isVector_any (p : Int) (a : Option Addr) (v : List Int) (c n lo tp : Nat) (w : World) (hp : prm p = true) (hv : RowIn lo tp w a v) (hs : v.length ≤ 1048576) (hn : n ≤ 1048576) :
    Calls Try.prog 162 #[.int .i64 p, .slice a v.length c, .int .i64 n] w fun e w' => e = .returned (.bool (decide (v.length = n) && v.all (inr p))) ∧ w = w' := by
  have HV := Lib.hid hv
  have HP := Lib.hid hp
  clear hv hp
  by_cases h : v.length = n
  · subst h
    by_cases ha : v.all (inr p) = true
    · have HA := Lib.hid ha
      have HC := Lib.hid (code_ok HP.out ha)
      clear ha
      go_enter Try.func162, Try.ntmps162
      go_wp2_with (go_at_call 129; (with_reducible refine (checkRow _ _ _ _ lo tp _ HP.out HV.out (by omega)).mono ?_); rintro e w1 ⟨rfl, rfl⟩; rw [HC.out])
      go_ret
      exact ⟨by rw [HA.out]; simp, rfl⟩
    · have HA : Hid (v.all (inr p) = false) := by show v.all (inr p) = false; simpa using ha
      have HC := Lib.hid (code_bad HP.out HA.out)
      clear ha
      go_enter Try.func162, Try.ntmps162
      go_wp2_with (go_at_call 129; (with_reducible refine (checkRow _ _ _ _ lo tp _ HP.out HV.out (by omega)).mono ?_); rintro e w1 ⟨rfl, rfl⟩; rw [HC.out])
      go_ret
      exact ⟨by rw [HA.out]; simp, rfl⟩
  · have HF : Hid ((decide (v.length = n) && v.all (inr p)) = false) := by show _ = _; simp [h]
    have e1 : ((v.length : Int) == (n : Int)) = false := by simp; omega
    have e2 : decide ((v.length : Int) = (n : Int)) = false := by simp; omega
    clear h
    go_enter Try.func162, Try.ntmps162
    go_wp2
    go_ret
    exact ⟨by rw [HF.out]; rfl, rfl⟩

end Go.Proofs.Ytcamegdjdjacpaa
