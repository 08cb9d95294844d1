/-
  Where a number stands in a list, and whether it does: l01Index, l01Has, l02First in the model, slices.Index and slices.Contains in the program.
  Conditions: the list is nil or a row of known cells, of at most 1048576 numbers.
  DiscriminantOf and IsRegular: contracts of the program and of the model.
  Conditions: the lists are nil or rows of known cells, of at most 1048576 numbers.
-/
import Derived.Test.YtkibkkdeaojjoaaQe13
import Derived.Test.YtkibkkdeaojjoaaQe1
import Derived.Test.YtkibkkdeaojjoaaQe12
namespace Go.Proofs.Ytkibkkdeaojjoaa
open Go.RowKit
set_option linter.unusedVariables false

/-- The first place of a number. -/
def isAt (z : List Int) (x : Int) (k : Nat) : Prop := k < z.length ∧ (∀ j, j < k → z.getD j 0 ≠ x) ∧ z.getD k 0 = x
theorem isAt_cases (z : List Int) (x : Int) : (∃ k, isAt z x k ∧ z.any (· == x) = true) ∨ ((∀ j, j < z.length → z.getD j 0 ≠ x) ∧ z.any (· == x) = false) := by
  by_cases h : z.findIdx (· == x) < z.length
  · left
    have h1 := List.findIdx_getElem (xs := z) (p := (· == x)) (w := h)
    refine ⟨z.findIdx (· == x), ⟨h, fun j hj e => ?_, ?_⟩, ?_⟩
    · have h2 := List.not_of_lt_findIdx hj
      have hj' : j < z.length := by omega
      simp [List.getD, hj'] at e
      simp [e] at h2
    · simpa [List.getD, h] using h1
    · exact List.any_eq_true.2 ⟨_, List.getElem_mem h, h1⟩
  · right
    have h2 : ∀ y ∈ z, (y == x) = false := fun y hy => by
      have h3 : z.findIdx (· == x) = z.length := Nat.le_antisymm List.findIdx_le_length (by omega)
      simpa using List.findIdx_eq_length.1 h3 y hy
    refine ⟨fun j hj e => ?_, ?_⟩
    · have := h2 (z.getD j 0) (by simp [List.getD, hj])
      rw [e] at this; simp at this
    · simpa using h2

set_option maxHeartbeats 800000 in
theorem index64_yes (a : Option Addr) (z : List Int) (x : Int) (n k ca lo tp : Nat) (w : World) (hz : RowIn lo tp w a z) (hn : z.length = n) (hl : n ≤ 1048576) (hk : isAt z x k) :
    Calls Try.prog 114 #[.slice a n ca, .int .i64 x] w fun e w' => e = .returned (.int .i64 k) ∧ w = w' := by
  subst hn
  have HZ := Lib.hid hz
  have HK := Lib.hid hk
  clear hz hk
  go_enter Try.func114, Try.ntmps114
  go_wp2
  go_loop [8] (fun t => ∃ i : Nat, i ≤ k ∧ t = .int .i64 i) (fun t => z.length - (intOf t).toNat)
  case atStart => exact ⟨0, Nat.zero_le _, rfl⟩
  case round =>
    obtain ⟨i, hi, rfl⟩ := hrel
    have hkl := HK.out.1
    have hi1 : (i : Int) < (z.length : Int) := by omega
    obtain ⟨b1, o1, ha1, _, _, hc1⟩ := HZ.out.num (by omega : i < z.length)
    subst ha1
    by_cases e : i = k
    · subst e
      rw [HK.out.2.2] at hc1
      go_wp2
      go_ret
      exact ⟨rfl, rfl⟩
    · have h2 := HK.out.2.1 i (by omega)
      obtain ⟨y, hy⟩ : ∃ y, y = z.getD i 0 := ⟨_, rfl⟩
      rw [← hy] at hc1 h2
      have e1 : (y == x) = false := by simpa using h2
      have e2 : (x == y) = false := by simpa using fun e : x = y => h2 e.symm
      clear hy h2
      go_wp2
      go_round
      case rel => exact ⟨i + 1, by omega, by go_num⟩
      case measure => simp [intOf]; omega

set_option maxHeartbeats 800000 in
theorem index64_no (a : Option Addr) (z : List Int) (x : Int) (n ca lo tp : Nat) (w : World) (hz : RowIn lo tp w a z) (hn : z.length = n) (hl : n ≤ 1048576) (hk : ∀ j, j < z.length → z.getD j 0 ≠ x) :
    Calls Try.prog 114 #[.slice a n ca, .int .i64 x] w fun e w' => e = .returned (.int .i64 (-1)) ∧ w = w' := by
  subst hn
  have HZ := Lib.hid hz
  have HK := Lib.hid hk
  clear hz hk
  go_enter Try.func114, Try.ntmps114
  go_wp2
  go_loop [8] (fun t => ∃ i : Nat, i ≤ z.length ∧ t = .int .i64 i) (fun t => z.length - (intOf t).toNat)
  case atStart => exact ⟨0, Nat.zero_le _, rfl⟩
  case round =>
    obtain ⟨i, hi, rfl⟩ := hrel
    by_cases hlt : i < z.length
    · have hi1 : (i : Int) < (z.length : Int) := by omega
      obtain ⟨b1, o1, ha1, _, _, hc1⟩ := HZ.out.num hlt
      subst ha1
      have h2 := HK.out i hlt
      obtain ⟨y, hy⟩ : ∃ y, y = z.getD i 0 := ⟨_, rfl⟩
      rw [← hy] at hc1 h2
      have e1 : (y == x) = false := by simpa using h2
      have e2 : (x == y) = false := by simpa using fun e : x = y => h2 e.symm
      clear hy h2
      go_wp2
      go_round
      case rel => exact ⟨i + 1, by omega, by go_num⟩
      case measure => simp [intOf]; omega
    · have hn : i = z.length := by omega
      subst hn
      go_wp2
      go_ret
      exact ⟨rfl, rfl⟩

set_option maxHeartbeats 800000 in
theorem contains64_any (a : Option Addr) (z : List Int) (x : Int) (n ca lo tp : Nat) (w : World) (hz : RowIn lo tp w a z) (hn : z.length = n) (hl : n ≤ 1048576) :
    Calls Try.prog 98 #[.slice a n ca, .int .i64 x] w fun e w' => e = .returned (.bool (z.any (· == x))) ∧ w = w' := by
  have HZ := Lib.hid hz
  clear hz
  rcases isAt_cases z x with ⟨k, hk, he⟩ | ⟨hk, he⟩
  · have HK := Lib.hid hk
    have hk2 : k ≤ 1048576 := by have := hk.1; omega
    rw [he]
    clear hk he
    go_enter Try.func98, Try.ntmps98
    go_wp2_with (go_at_call 114; (with_reducible refine (index64_yes _ z x _ k _ lo tp _ HZ.out hn hl HK.out).mono ?_); rintro e w1 ⟨rfl, rfl⟩)
    go_ret
    exact ⟨rfl, rfl⟩
  · have HK := Lib.hid hk
    rw [he]
    clear hk he
    go_enter Try.func98, Try.ntmps98
    go_wp2_with (go_at_call 114; (with_reducible refine (index64_no _ z x _ _ lo tp _ HZ.out hn hl HK.out).mono ?_); rintro e w1 ⟨rfl, rfl⟩)
    go_ret
    exact ⟨rfl, rfl⟩

end Go.Proofs.Ytkibkkdeaojjoaa

namespace Go.Proofs.Ytkibkkdeaojjoaa
open Go.RowKit
set_option linter.unusedVariables false

theorem mul_zero_iff {p a b : Int} (hp : prm p = true) (a0 : 0 ≤ a) (a1 : a < p) (b0 : 0 ≤ b) (b1 : b < p) : a * b % p = 0 ↔ a = 0 ∨ b = 0 := by
  have := every2_at (Q := fun p a b => decide (a * b % p = 0 ↔ a = 0 ∨ b = 0)) (by decide +kernel) hp a0 a1 b0 b1
  exact of_decide_eq_true this
theorem disN_zero {p : Int} {S : List Int} (hp : prm p = true) {i : Nat} (h : ∀ j, j < i → 0 ≤ S.getD j 0 ∧ S.getD j 0 < p) : disN p S i = 0 ↔ ∃ j, j < i ∧ S.getD j 0 = 0 := by
  induction i with
  | zero => simp [disN]
  | succ i ih =>
    have b := disN_bd hp S i
    have c := h i (by omega)
    show disN p S i * S.getD i 0 % p = 0 ↔ _
    rw [mul_zero_iff hp b.1 b.2 c.1 c.2, ih (fun j hj => h j (by omega))]
    constructor
    · rintro (⟨j, h1, h2⟩ | h1)
      · exact ⟨j, by omega, h2⟩
      · exact ⟨i, by omega, h1⟩
    · rintro ⟨j, h1, h2⟩
      by_cases e : j = i
      · subst e; exact .inr h2
      · exact .inl ⟨j, by omega, h2⟩
theorem disc_any {p : Int} {S : List Int} (hs : isSp p S = true) : S.any (· == 0) = !(discN p S != 0) := by
  have K := isSp_iff.1 hs
  have e := disN_zero K.prime (i := S.length) (fun j hj => K.num hj)
  rcases isAt_cases S 0 with ⟨k, hk, he⟩ | ⟨hk, he⟩
  · rw [he]
    have : discN p S = 0 := e.2 ⟨k, hk.1, hk.2.2⟩
    simp [this]
  · rw [he]
    have : discN p S ≠ 0 := fun h => by obtain ⟨j, h1, h2⟩ := e.1 h; exact hk j h1 h2
    simp [this]

theorem isRegular_any (pS : Int) (aS : Option Addr) (S : List Int) (cS loS tpS : Nat) (w : World)
    (hS : RowIn loS tpS w aS S) (tS : tpS ≤ w.heap.size) (hs : isSp pS S = true) :
    Calls Try.prog 70 #[.agg #[.int .i64 pS, .slice aS S.length cS]] w fun e w' => e = .returned (.bool (discN pS S != 0)) ∧ Below w.heap.size w w' := by
  have HS := Lib.hid hS
  have HD := Lib.hid (disc_any hs)
  have hl := (isSp_iff.1 hs).hi
  clear hS hs
  go_enter Try.func70, Try.ntmps70
  go_wp2_with (first | (go_at_call 98; (with_reducible refine (contains64_any aS S 0 _ cS loS tpS _ (HS.out.below ((Below.refl _ _).alloc (Nat.le_refl _) (.cells #[.int .i64 pS, .slice aS S.length cS] 28)) tS) rfl (by omega)).mono ?_); rintro e w' ⟨rfl, rfl⟩; rw [HD.out]))
  go_ret
  exact ⟨by simp, ((Below.refl _ _).alloc (Nat.le_refl _) (.cells #[.int .i64 pS, .slice aS S.length cS] 28))⟩

end Go.Proofs.Ytkibkkdeaojjoaa
