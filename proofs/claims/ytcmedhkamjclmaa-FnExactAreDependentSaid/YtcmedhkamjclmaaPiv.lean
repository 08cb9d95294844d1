/-
  The program's opposites and first numbers: contracts.
-/
import Derived.Test.YtcmedhkamjclmaaBasS
namespace Go.Proofs.Ytcmedhkamjclmaa
open Go.RowKit
set_option linter.unusedVariables false

theorem opposite_any (p a : Int) (w : World) (hp : prm p = true) (a0 : 0 ≤ a) (a1 : a < p) :
    Calls Try.prog 131 #[.int .i64 p, .int .i64 a] w fun e w' => e = .returned (.int .i64 (-a % p)) ∧ w = w' := by
  have hb := prm_bd hp
  have e2 : IntKind.i64.wrap (p - a) = p - a := IntWalk.i64_in _ (by omega)
  have hyy : (p - a) % p = -a % p := by simp
  have e3 : (p - a).tmod p = -a % p := (Int.tmod_eq_emod_of_nonneg (by omega)).trans hyy
  have hp0 : ¬ p = 0 := by omega
  have hp1 : (p == 0) = false := by simpa using hp0
  clear hyy hp
  go_enter Try.func131, Try.ntmps131
  go_wp2
  go_ret
  exact ⟨rfl, rfl⟩

theorem isNot0_any (x : Int) (w : World) :
    Calls Try.prog 133 #[.int .i64 x] w fun e w' => e = .returned (.bool (x != 0)) ∧ w = w' := by
  go_enter Try.func133, Try.ntmps133
  go_wp2
  go_ret
  exact ⟨rfl, rfl⟩

/-- The place of the first number that is not 0 from k on, or -1. -/
def fstAt (z : List Int) (k : Nat) : Prop := k < z.length ∧ (∀ j, j < k → z.getD j 0 = 0) ∧ z.getD k 0 ≠ 0

set_option maxHeartbeats 800000 in
theorem indexFunc_yes (a : Option Addr) (z : List Int) (n k ca lo tp : Nat) (w : World) (hz : RowIn lo tp w a z) (hn : z.length = n) (hl : n ≤ 1024) (hk : fstAt z k) :
    Calls Try.prog 132 #[.slice a n ca, .func (.func 133) #[] #[]] w fun e w' => e = .returned (.int .i64 k) ∧ w = w' := by
  subst hn
  have HZ := Lib.hid hz
  have HK := Lib.hid hk
  clear hz hk
  go_enter Try.func132, Try.ntmps132
  go_wp2
  go_loop [8] (fun t => ∃ i : Nat, i ≤ k ∧ t = .int .i64 i) (fun t => z.length - (intOf t).toNat)
  case atStart => exact ⟨0, Nat.zero_le _, rfl⟩
  case round =>
    obtain ⟨i, hi, rfl⟩ := hrel
    have hkl := HK.out.1
    have hi1 : (i : Int) < (z.length : Int) := by omega
    obtain ⟨b1, o1, ha1, _, _, hc1⟩ := HZ.out.num (by omega : i < z.length)
    subst ha1
    by_cases e : i = k
    · subst e
      have h3 := HK.out.2.2
      obtain ⟨x, hx⟩ : ∃ x, x = z.getD i 0 := ⟨_, rfl⟩
      rw [← hx] at hc1 h3
      have HX : Hid ((x != 0) = true) := by show _ = _; simpa using h3
      clear hx h3
      go_wp2_with (go_at_call 133; refine (isNot0_any x _).mono ?_; rintro e w1 ⟨rfl, rfl⟩; rw [HX.out])
      go_ret
      exact ⟨rfl, rfl⟩
    · have h2 := HK.out.2.1 i (by omega)
      rw [h2] at hc1
      go_wp2_with (go_at_call 133; refine (isNot0_any 0 _).mono ?_; rintro e w1 ⟨rfl, rfl⟩)
      go_round
      case rel => exact ⟨i + 1, by omega, by go_num⟩
      case measure => simp [intOf]; omega

set_option maxHeartbeats 800000 in
theorem indexFunc_no (a : Option Addr) (z : List Int) (n ca lo tp : Nat) (w : World) (hz : RowIn lo tp w a z) (hn : z.length = n) (hl : n ≤ 1024) (hk : ∀ j, j < z.length → z.getD j 0 = 0) :
    Calls Try.prog 132 #[.slice a n ca, .func (.func 133) #[] #[]] w fun e w' => e = .returned (.int .i64 (-1)) ∧ w = w' := by
  subst hn
  have HZ := Lib.hid hz
  have HK := Lib.hid hk
  clear hz hk
  go_enter Try.func132, Try.ntmps132
  go_wp2
  go_loop [8] (fun t => ∃ i : Nat, i ≤ z.length ∧ t = .int .i64 i) (fun t => z.length - (intOf t).toNat)
  case atStart => exact ⟨0, Nat.zero_le _, rfl⟩
  case round =>
    obtain ⟨i, hi, rfl⟩ := hrel
    by_cases hlt : i < z.length
    · have hi1 : (i : Int) < (z.length : Int) := by omega
      obtain ⟨b1, o1, ha1, _, _, hc1⟩ := HZ.out.num hlt
      subst ha1
      rw [HK.out i hlt] at hc1
      go_wp2_with (go_at_call 133; refine (isNot0_any 0 _).mono ?_; rintro e w1 ⟨rfl, rfl⟩)
      go_round
      case rel => exact ⟨i + 1, by omega, by go_num⟩
      case measure => simp [intOf]; omega
    · have hn : i = z.length := by omega
      subst hn
      go_wp2
      go_ret
      exact ⟨rfl, rfl⟩

theorem fst_cases (z : List Int) : (∃ k, fstAt z k) ∨ ∀ j, j < z.length → z.getD j 0 = 0 := by
  by_cases h : ∀ j, j < z.length → z.getD j 0 = 0
  · exact .inr h
  · left
    have h2 : ∃ k, k < z.length ∧ z.getD k 0 ≠ 0 := Classical.byContradiction fun c => h fun j hj => Classical.byContradiction fun d => c ⟨j, hj, d⟩
    have key : ∀ n, (∃ k, k ≤ n ∧ k < z.length ∧ z.getD k 0 ≠ 0) → ∃ k, fstAt z k := by
      intro n
      induction n with
      | zero =>
        rintro ⟨k, h1, h2, h3⟩
        have : k = 0 := by omega
        subst this
        exact ⟨0, h2, fun j hj => by omega, h3⟩
      | succ n ih =>
        rintro ⟨k, h1, h2, h3⟩
        by_cases e : ∃ k, k ≤ n ∧ k < z.length ∧ z.getD k 0 ≠ 0
        · exact ih e
        · refine ⟨k, h2, fun j hj => Classical.byContradiction fun d => e ⟨j, by omega, by omega, d⟩, h3⟩
    obtain ⟨k, k1, k2⟩ := h2
    exact key k ⟨k, Nat.le_refl _, k1, k2⟩

end Go.Proofs.Ytcmedhkamjclmaa
