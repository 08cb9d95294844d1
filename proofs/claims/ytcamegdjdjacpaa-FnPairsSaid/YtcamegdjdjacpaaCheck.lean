/-
  What the program's and the model's checks of a prime and of numbers return: contracts of the functions that the laws of chapter 1 call first.
  Conditions: the lists that are checked are rows of cells that are known.
-/
import Derived.Test.YtcamegdjdjacpaaRows
import Derived.Test.YtcamegdjdjacpaaPure
import Derived.Test.YtcamegdjdjacpaaBase
import Derived.WalkKit
import Derived.LoopTactic
import Derived.Lib.Hide
namespace Go.Proofs.Ytcamegdjdjacpaa
open Go.RowKit
set_option linter.unusedVariables false

theorem isPrime_any (p : Int) (w : World) :
    Calls Try.prog 187 #[.int .i64 p] w fun e w' => e = .returned (.bool (prm p)) ∧ w = w' := by
  by_cases h : prm p = true
  · rcases prm_or h with rfl | rfl | rfl | rfl | rfl
    all_goals
      clear h
      go_enter Try.func187, Try.ntmps187
      go_wp2
      go_ret
      exact ⟨rfl, rfl⟩
  · have h' : prm p = false := by simpa using h
    obtain ⟨h1, h2, h3, h4, h5⟩ := prm_not h'
    have H := Lib.hid h'
    clear h h'
    go_enter Try.func187, Try.ntmps187
    go_wp2
    go_ret
    exact ⟨by rw [H.out]; rfl, rfl⟩

theorem l01Prime_any (p : Int) (w : World) :
    Calls Try.prog 170 #[.int .i64 p] w fun e w' => e = .returned (.bool (prm p)) ∧ w = w' := by
  by_cases h : prm p = true
  · rcases prm_or h with rfl | rfl | rfl | rfl | rfl
    all_goals
      clear h
      go_enter Try.func170, Try.ntmps170
      go_wp2
      go_ret
      exact ⟨rfl, rfl⟩
  · have h' : prm p = false := by simpa using h
    obtain ⟨h1, h2, h3, h4, h5⟩ := prm_not h'
    have H := Lib.hid h'
    clear h h'
    go_enter Try.func170, Try.ntmps170
    go_wp2
    go_ret
    exact ⟨rfl, rfl⟩

theorem l01In_yes (n lo hi : Int) (w : World) (h : lo ≤ n) (k : n ≤ hi) :
    Calls Try.prog 151 #[.int .i64 n, .int .i64 lo, .int .i64 hi] w fun e w' => e = .returned (.bool true) ∧ w = w' := by
  go_enter Try.func151, Try.ntmps151
  go_wp2
  go_ret
  exact ⟨rfl, rfl⟩
theorem l01In_no (n lo hi : Int) (w : World) (h : ¬ (lo ≤ n ∧ n ≤ hi)) :
    Calls Try.prog 151 #[.int .i64 n, .int .i64 lo, .int .i64 hi] w fun e w' => e = .returned (.bool false) ∧ w = w' := by
  by_cases h1 : lo ≤ n
  · have h2 : ¬ n ≤ hi := fun k => h ⟨h1, k⟩
    clear h
    go_enter Try.func151, Try.ntmps151
    go_wp2
    go_ret
    exact ⟨rfl, rfl⟩
  · clear h
    go_enter Try.func151, Try.ntmps151
    go_wp2
    go_ret
    exact ⟨rfl, rfl⟩

/-- A row of integers that a slice leads to. -/
def RowAt (w : World) (b : Nat) (zs : List Int) : Prop := ∀ i, i < zs.length → w.cell? ⟨b, i, none⟩ = some (.int .i64 (zs.getD i 0))

theorem getD_at {zs : List Int} {k : Nat} (h : k < zs.length) : zs.getD k 0 = zs[k] := by simp [h]
theorem all_take_succ {p x : Int} {zs : List Int} {k : Nat} (h : k < zs.length) (hx : x = zs.getD k 0) : (zs.take (k + 1)).all (inr p) = ((zs.take k).all (inr p) && inr p x) := by
  rw [List.take_succ_eq_append_getElem h, List.all_append, hx, getD_at h]
  simp
theorem all_false_of {p x : Int} {zs : List Int} {k : Nat} (h : k < zs.length) (hx : x = zs.getD k 0) (hf : inr p x = false) : zs.all (inr p) = false := by
  rw [List.all_eq_false]
  refine ⟨x, ?_, by simp [hf]⟩
  rw [hx, getD_at h]
  exact List.getElem_mem h

set_option maxHeartbeats 400000 in
theorem checkNumbers_any (p : Int) (b : Nat) (zs : List Int) (cap : Nat) (w : World) (hrow : RowAt w b zs) (hlen : zs.length ≤ 1000000) :
    Calls Try.prog 129 #[.int .i64 p, .slice (some ⟨b, 0, none⟩) zs.length cap] w fun e w' => e = .returned (.int .i64 (codeOf p zs)) ∧ w = w' := by
  by_cases hp : prm p = true
  · have HP := Lib.hid hp
    clear hp
    have HR := Lib.hid hrow
    clear hrow
    go_enter Try.func129, Try.ntmps129
    go_wp2_with (go_at_call 187; refine (isPrime_any _ _).mono ?_; rintro e w' ⟨rfl, rfl⟩; rw [HP.out])
    go_loop [12] (fun t => ∃ k : Nat, k ≤ zs.length ∧ t = .int .i64 k ∧ (zs.take k).all (inr p) = true) (fun t => zs.length - (intOf t).toNat)
    case atStart => exact ⟨0, Nat.zero_le _, rfl, rfl⟩
    case round =>
      obtain ⟨k, hk, rfl, hall⟩ := hrel
      have HA := Lib.hid hall
      clear hall
      by_cases hlt : k < zs.length
      · have hcell := HR.out k hlt
        obtain ⟨x, hx⟩ : ∃ x, x = zs.getD k 0 := ⟨_, rfl⟩
        rw [← hx] at hcell
        have HX := Lib.hid hx
        clear hx
        by_cases hin : 0 ≤ x ∧ x < p
        · have HI : Hid (inr p x = true) := inr_iff.2 hin
          obtain ⟨hi0, hi1⟩ := hin
          go_wp2
          go_round
          case rel => exact ⟨k + 1, by omega, by go_num, by rw [all_take_succ hlt HX.out, HA.out, HI.out]; rfl⟩
          case measure => simp [intOf]; omega
        · have HI : Hid (inr p x = false) := inr_not.2 hin
          have HC : Hid (codeOf p zs = 2) := code_bad HP.out (all_false_of hlt HX.out HI.out)
          by_cases h0 : x < 0
          · clear hin
            go_wp2
            go_ret
            exact ⟨by rw [HC.out]; rfl, rfl⟩
          · have h1 : p ≤ x := by omega
            clear hin
            go_wp2
            go_ret
            exact ⟨by rw [HC.out]; rfl, rfl⟩
      · have HC : Hid (codeOf p zs = 0) := code_ok HP.out (by have := HA.out; rwa [List.take_of_length_le (by omega)] at this)
        go_wp2
        go_ret
        exact ⟨by rw [HC.out]; rfl, rfl⟩
  · have hp' : prm p = false := by simpa using hp
    have HP := Lib.hid hp'
    clear hp hp' hrow
    go_enter Try.func129, Try.ntmps129
    go_wp2_with (go_at_call 187; refine (isPrime_any _ _).mono ?_; rintro e w' ⟨rfl, rfl⟩; rw [HP.out])
    go_ret
    exact ⟨by rw [code_np HP.out]; rfl, rfl⟩

end Go.Proofs.Ytcamegdjdjacpaa
