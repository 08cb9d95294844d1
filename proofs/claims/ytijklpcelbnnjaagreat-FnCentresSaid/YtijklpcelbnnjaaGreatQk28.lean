/-
  Where a number stands in a list, and whether it does: l01Index, l01Has, l02First in the model, slices.Index and slices.Contains in the program.
  Conditions: the list is nil or a row of known cells, of at most 1048576 numbers.
  The model's kernel: the walk.
  Conditions: the matrix is a row of rows of known cells with numbers of the prime.
  What the program's elimination hands back, to be read: rows, pivots.
  Conditions: the list of vectors is a row of rows of known cells.
-/
import Derived.Test.YtijklpcelbnnjaaGreatQk17
import Derived.Test.YtijklpcelbnnjaaGreatQk1
import Derived.Test.YtijklpcelbnnjaaGreatQk18
import Derived.Test.YtijklpcelbnnjaaGreatQk25
import Derived.Test.YtijklpcelbnnjaaGreatQk27
namespace Go.Proofs.YtijklpcelbnnjaaGreat
open Go.RowKit
set_option linter.unusedVariables false

/-- The first place of a number. -/
def isAt (z : List Int) (x : Int) (k : Nat) : Prop := k < z.length ∧ (∀ j, j < k → z.getD j 0 ≠ x) ∧ z.getD k 0 = x
theorem isAt_cases (z : List Int) (x : Int) : (∃ k, isAt z x k ∧ z.any (· == x) = true) ∨ ((∀ j, j < z.length → z.getD j 0 ≠ x) ∧ z.any (· == x) = false) := by
  by_cases h : z.findIdx (· == x) < z.length
  · left
    have h1 := List.findIdx_getElem (xs := z) (p := (· == x)) (w := h)
    refine ⟨z.findIdx (· == x), ⟨h, fun j hj e => ?_, ?_⟩, ?_⟩
    · have h2 := List.not_of_lt_findIdx hj
      have hj' : j < z.length := by omega
      simp [List.getD, hj'] at e
      simp [e] at h2
    · simpa [List.getD, h] using h1
    · exact List.any_eq_true.2 ⟨_, List.getElem_mem h, h1⟩
  · right
    have h2 : ∀ y ∈ z, (y == x) = false := fun y hy => by
      have h3 : z.findIdx (· == x) = z.length := Nat.le_antisymm List.findIdx_le_length (by omega)
      simpa using List.findIdx_eq_length.1 h3 y hy
    refine ⟨fun j hj e => ?_, ?_⟩
    · have := h2 (z.getD j 0) (by simp [List.getD, hj])
      rw [e] at this; simp at this
    · simpa using h2

set_option maxHeartbeats 800000 in
theorem l01Index_yes (a : Option Addr) (z : List Int) (x : Int) (n k ca lo tp : Nat) (w : World) (hz : RowIn lo tp w a z) (hn : z.length = n) (hl : n ≤ 1048576) (hk : isAt z x k) :
    Calls Tryz.prog 84 #[.slice a n ca, .int .i64 x] w fun e w' => e = .returned (.int .i64 k) ∧ w = w' := by
  subst hn
  have HZ := Lib.hid hz
  have HK := Lib.hid hk
  clear hz hk
  go_enter Tryz.func84, Tryz.ntmps84
  go_wp2
  go_loop [5] (fun t => ∃ i : Nat, i ≤ k ∧ t = .int .i64 i) (fun t => z.length - (intOf t).toNat)
  case atStart => exact ⟨0, Nat.zero_le _, rfl⟩
  case round =>
    obtain ⟨i, hi, rfl⟩ := hrel
    have hkl := HK.out.1
    have hi1 : (i : Int) < (z.length : Int) := by omega
    obtain ⟨b1, o1, ha1, _, _, hc1⟩ := HZ.out.num (by omega : i < z.length)
    subst ha1
    by_cases e : i = k
    · subst e
      rw [HK.out.2.2] at hc1
      go_wp2
      go_ret
      exact ⟨rfl, rfl⟩
    · have h2 := HK.out.2.1 i (by omega)
      obtain ⟨y, hy⟩ : ∃ y, y = z.getD i 0 := ⟨_, rfl⟩
      rw [← hy] at hc1 h2
      have e1 : (y == x) = false := by simpa using h2
      have e2 : (x == y) = false := by simpa using fun e : x = y => h2 e.symm
      clear hy h2
      go_wp2
      go_round
      case rel => exact ⟨i + 1, by omega, by go_num⟩
      case measure => simp [intOf]; omega

set_option maxHeartbeats 800000 in
theorem l01Index_no (a : Option Addr) (z : List Int) (x : Int) (n ca lo tp : Nat) (w : World) (hz : RowIn lo tp w a z) (hn : z.length = n) (hl : n ≤ 1048576) (hk : ∀ j, j < z.length → z.getD j 0 ≠ x) :
    Calls Tryz.prog 84 #[.slice a n ca, .int .i64 x] w fun e w' => e = .returned (.int .i64 (-1)) ∧ w = w' := by
  subst hn
  have HZ := Lib.hid hz
  have HK := Lib.hid hk
  clear hz hk
  go_enter Tryz.func84, Tryz.ntmps84
  go_wp2
  go_loop [5] (fun t => ∃ i : Nat, i ≤ z.length ∧ t = .int .i64 i) (fun t => z.length - (intOf t).toNat)
  case atStart => exact ⟨0, Nat.zero_le _, rfl⟩
  case round =>
    obtain ⟨i, hi, rfl⟩ := hrel
    by_cases hlt : i < z.length
    · have hi1 : (i : Int) < (z.length : Int) := by omega
      obtain ⟨b1, o1, ha1, _, _, hc1⟩ := HZ.out.num hlt
      subst ha1
      have h2 := HK.out i hlt
      obtain ⟨y, hy⟩ : ∃ y, y = z.getD i 0 := ⟨_, rfl⟩
      rw [← hy] at hc1 h2
      have e1 : (y == x) = false := by simpa using h2
      have e2 : (x == y) = false := by simpa using fun e : x = y => h2 e.symm
      clear hy h2
      go_wp2
      go_round
      case rel => exact ⟨i + 1, by omega, by go_num⟩
      case measure => simp [intOf]; omega
    · have hn : i = z.length := by omega
      subst hn
      go_wp2
      go_ret
      exact ⟨rfl, rfl⟩

set_option maxHeartbeats 800000 in
theorem l01Has_any (a : Option Addr) (z : List Int) (x : Int) (n ca lo tp : Nat) (w : World) (hz : RowIn lo tp w a z) (hn : z.length = n) (hl : n ≤ 1048576) :
    Calls Tryz.prog 51 #[.slice a n ca, .int .i64 x] w fun e w' => e = .returned (.bool (z.any (· == x))) ∧ w = w' := by
  have HZ := Lib.hid hz
  clear hz
  rcases isAt_cases z x with ⟨k, hk, he⟩ | ⟨hk, he⟩
  · have HK := Lib.hid hk
    have hk2 : k ≤ 1048576 := by have := hk.1; omega
    rw [he]
    clear hk he
    go_enter Tryz.func51, Tryz.ntmps51
    go_wp2_with (go_at_call 84; (with_reducible refine (l01Index_yes _ z x _ k _ lo tp _ HZ.out hn hl HK.out).mono ?_); rintro e w1 ⟨rfl, rfl⟩)
    go_ret
    exact ⟨rfl, rfl⟩
  · have HK := Lib.hid hk
    rw [he]
    clear hk he
    go_enter Tryz.func51, Tryz.ntmps51
    go_wp2_with (go_at_call 84; (with_reducible refine (l01Index_no _ z x _ _ lo tp _ HZ.out hn hl HK.out).mono ?_); rintro e w1 ⟨rfl, rfl⟩)
    go_ret
    exact ⟨rfl, rfl⟩

set_option maxHeartbeats 800000 in
theorem indexI_yes (a : Option Addr) (z : List Int) (x : Int) (n k ca lo tp : Nat) (w : World) (hz : RowIn lo tp w a z) (hn : z.length = n) (hl : n ≤ 1048576) (hk : isAt z x k) :
    Calls Tryz.prog 108 #[.slice a n ca, .int .i64 x] w fun e w' => e = .returned (.int .i64 k) ∧ w = w' := by
  subst hn
  have HZ := Lib.hid hz
  have HK := Lib.hid hk
  clear hz hk
  go_enter Tryz.func108, Tryz.ntmps108
  go_wp2
  go_loop [8] (fun t => ∃ i : Nat, i ≤ k ∧ t = .int .i64 i) (fun t => z.length - (intOf t).toNat)
  case atStart => exact ⟨0, Nat.zero_le _, rfl⟩
  case round =>
    obtain ⟨i, hi, rfl⟩ := hrel
    have hkl := HK.out.1
    have hi1 : (i : Int) < (z.length : Int) := by omega
    obtain ⟨b1, o1, ha1, _, _, hc1⟩ := HZ.out.num (by omega : i < z.length)
    subst ha1
    by_cases e : i = k
    · subst e
      rw [HK.out.2.2] at hc1
      go_wp2
      go_ret
      exact ⟨rfl, rfl⟩
    · have h2 := HK.out.2.1 i (by omega)
      obtain ⟨y, hy⟩ : ∃ y, y = z.getD i 0 := ⟨_, rfl⟩
      rw [← hy] at hc1 h2
      have e1 : (y == x) = false := by simpa using h2
      have e2 : (x == y) = false := by simpa using fun e : x = y => h2 e.symm
      clear hy h2
      go_wp2
      go_round
      case rel => exact ⟨i + 1, by omega, by go_num⟩
      case measure => simp [intOf]; omega

set_option maxHeartbeats 800000 in
theorem indexI_no (a : Option Addr) (z : List Int) (x : Int) (n ca lo tp : Nat) (w : World) (hz : RowIn lo tp w a z) (hn : z.length = n) (hl : n ≤ 1048576) (hk : ∀ j, j < z.length → z.getD j 0 ≠ x) :
    Calls Tryz.prog 108 #[.slice a n ca, .int .i64 x] w fun e w' => e = .returned (.int .i64 (-1)) ∧ w = w' := by
  subst hn
  have HZ := Lib.hid hz
  have HK := Lib.hid hk
  clear hz hk
  go_enter Tryz.func108, Tryz.ntmps108
  go_wp2
  go_loop [8] (fun t => ∃ i : Nat, i ≤ z.length ∧ t = .int .i64 i) (fun t => z.length - (intOf t).toNat)
  case atStart => exact ⟨0, Nat.zero_le _, rfl⟩
  case round =>
    obtain ⟨i, hi, rfl⟩ := hrel
    by_cases hlt : i < z.length
    · have hi1 : (i : Int) < (z.length : Int) := by omega
      obtain ⟨b1, o1, ha1, _, _, hc1⟩ := HZ.out.num hlt
      subst ha1
      have h2 := HK.out i hlt
      obtain ⟨y, hy⟩ : ∃ y, y = z.getD i 0 := ⟨_, rfl⟩
      rw [← hy] at hc1 h2
      have e1 : (y == x) = false := by simpa using h2
      have e2 : (x == y) = false := by simpa using fun e : x = y => h2 e.symm
      clear hy h2
      go_wp2
      go_round
      case rel => exact ⟨i + 1, by omega, by go_num⟩
      case measure => simp [intOf]; omega
    · have hn : i = z.length := by omega
      subst hn
      go_wp2
      go_ret
      exact ⟨rfl, rfl⟩

set_option maxHeartbeats 800000 in
theorem containsI_any (a : Option Addr) (z : List Int) (x : Int) (n ca lo tp : Nat) (w : World) (hz : RowIn lo tp w a z) (hn : z.length = n) (hl : n ≤ 1048576) :
    Calls Tryz.prog 79 #[.slice a n ca, .int .i64 x] w fun e w' => e = .returned (.bool (z.any (· == x))) ∧ w = w' := by
  have HZ := Lib.hid hz
  clear hz
  rcases isAt_cases z x with ⟨k, hk, he⟩ | ⟨hk, he⟩
  · have HK := Lib.hid hk
    have hk2 : k ≤ 1048576 := by have := hk.1; omega
    rw [he]
    clear hk he
    go_enter Tryz.func79, Tryz.ntmps79
    go_wp2_with (go_at_call 108; (with_reducible refine (indexI_yes _ z x _ k _ lo tp _ HZ.out hn hl HK.out).mono ?_); rintro e w1 ⟨rfl, rfl⟩)
    go_ret
    exact ⟨rfl, rfl⟩
  · have HK := Lib.hid hk
    rw [he]
    clear hk he
    go_enter Tryz.func79, Tryz.ntmps79
    go_wp2_with (go_at_call 108; (with_reducible refine (indexI_no _ z x _ _ lo tp _ HZ.out hn hl HK.out).mono ?_); rintro e w1 ⟨rfl, rfl⟩)
    go_ret
    exact ⟨rfl, rfl⟩

set_option maxHeartbeats 800000 in
theorem index64_yes (a : Option Addr) (z : List Int) (x : Int) (n k ca lo tp : Nat) (w : World) (hz : RowIn lo tp w a z) (hn : z.length = n) (hl : n ≤ 1048576) (hk : isAt z x k) :
    Calls Tryz.prog 111 #[.slice a n ca, .int .i64 x] w fun e w' => e = .returned (.int .i64 k) ∧ w = w' := by
  subst hn
  have HZ := Lib.hid hz
  have HK := Lib.hid hk
  clear hz hk
  go_enter Tryz.func111, Tryz.ntmps111
  go_wp2
  go_loop [8] (fun t => ∃ i : Nat, i ≤ k ∧ t = .int .i64 i) (fun t => z.length - (intOf t).toNat)
  case atStart => exact ⟨0, Nat.zero_le _, rfl⟩
  case round =>
    obtain ⟨i, hi, rfl⟩ := hrel
    have hkl := HK.out.1
    have hi1 : (i : Int) < (z.length : Int) := by omega
    obtain ⟨b1, o1, ha1, _, _, hc1⟩ := HZ.out.num (by omega : i < z.length)
    subst ha1
    by_cases e : i = k
    · subst e
      rw [HK.out.2.2] at hc1
      go_wp2
      go_ret
      exact ⟨rfl, rfl⟩
    · have h2 := HK.out.2.1 i (by omega)
      obtain ⟨y, hy⟩ : ∃ y, y = z.getD i 0 := ⟨_, rfl⟩
      rw [← hy] at hc1 h2
      have e1 : (y == x) = false := by simpa using h2
      have e2 : (x == y) = false := by simpa using fun e : x = y => h2 e.symm
      clear hy h2
      go_wp2
      go_round
      case rel => exact ⟨i + 1, by omega, by go_num⟩
      case measure => simp [intOf]; omega

set_option maxHeartbeats 800000 in
theorem index64_no (a : Option Addr) (z : List Int) (x : Int) (n ca lo tp : Nat) (w : World) (hz : RowIn lo tp w a z) (hn : z.length = n) (hl : n ≤ 1048576) (hk : ∀ j, j < z.length → z.getD j 0 ≠ x) :
    Calls Tryz.prog 111 #[.slice a n ca, .int .i64 x] w fun e w' => e = .returned (.int .i64 (-1)) ∧ w = w' := by
  subst hn
  have HZ := Lib.hid hz
  have HK := Lib.hid hk
  clear hz hk
  go_enter Tryz.func111, Tryz.ntmps111
  go_wp2
  go_loop [8] (fun t => ∃ i : Nat, i ≤ z.length ∧ t = .int .i64 i) (fun t => z.length - (intOf t).toNat)
  case atStart => exact ⟨0, Nat.zero_le _, rfl⟩
  case round =>
    obtain ⟨i, hi, rfl⟩ := hrel
    by_cases hlt : i < z.length
    · have hi1 : (i : Int) < (z.length : Int) := by omega
      obtain ⟨b1, o1, ha1, _, _, hc1⟩ := HZ.out.num hlt
      subst ha1
      have h2 := HK.out i hlt
      obtain ⟨y, hy⟩ : ∃ y, y = z.getD i 0 := ⟨_, rfl⟩
      rw [← hy] at hc1 h2
      have e1 : (y == x) = false := by simpa using h2
      have e2 : (x == y) = false := by simpa using fun e : x = y => h2 e.symm
      clear hy h2
      go_wp2
      go_round
      case rel => exact ⟨i + 1, by omega, by go_num⟩
      case measure => simp [intOf]; omega
    · have hn : i = z.length := by omega
      subst hn
      go_wp2
      go_ret
      exact ⟨rfl, rfl⟩

set_option maxHeartbeats 800000 in
theorem contains64_any (a : Option Addr) (z : List Int) (x : Int) (n ca lo tp : Nat) (w : World) (hz : RowIn lo tp w a z) (hn : z.length = n) (hl : n ≤ 1048576) :
    Calls Tryz.prog 89 #[.slice a n ca, .int .i64 x] w fun e w' => e = .returned (.bool (z.any (· == x))) ∧ w = w' := by
  have HZ := Lib.hid hz
  clear hz
  rcases isAt_cases z x with ⟨k, hk, he⟩ | ⟨hk, he⟩
  · have HK := Lib.hid hk
    have hk2 : k ≤ 1048576 := by have := hk.1; omega
    rw [he]
    clear hk he
    go_enter Tryz.func89, Tryz.ntmps89
    go_wp2_with (go_at_call 111; (with_reducible refine (index64_yes _ z x _ k _ lo tp _ HZ.out hn hl HK.out).mono ?_); rintro e w1 ⟨rfl, rfl⟩)
    go_ret
    exact ⟨rfl, rfl⟩
  · have HK := Lib.hid hk
    rw [he]
    clear hk he
    go_enter Tryz.func89, Tryz.ntmps89
    go_wp2_with (go_at_call 111; (with_reducible refine (index64_no _ z x _ _ lo tp _ HZ.out hn hl HK.out).mono ?_); rintro e w1 ⟨rfl, rfl⟩)
    go_ret
    exact ⟨rfl, rfl⟩

set_option maxHeartbeats 800000 in
theorem l02First_any (a : Option Addr) (z : List Int) (n k ca lo tp : Nat) (w : World) (hz : RowIn lo tp w a z) (hn : z.length = n) (hl : n ≤ 1048576) (hk : fstN z = k) (hk2 : k < n) :
    Calls Tryz.prog 38 #[.slice a n ca] w fun e w' => e = .returned (.int .i64 k) ∧ w = w' := by
  subst hn
  have HZ := Lib.hid hz
  have HK := Lib.hid hk
  have HL : Hid (∀ j, j < k → z.getD j 0 = 0) := fun j hj => by
    rw [← hk] at hj
    have h2 := List.not_of_lt_findIdx hj
    have hj' : j < z.length := by omega
    simp [List.getD, hj']
    simpa using h2
  have HG : Hid (z.getD k 0 ≠ 0) := by
    show _
    have := fstN_lt (z := z) (by omega)
    rwa [hk] at this
  clear hz hk
  go_enter Tryz.func38, Tryz.ntmps38
  go_wp2
  go_loop [3] (fun t => ∃ i : Nat, i ≤ k ∧ t = .int .i64 i) (fun t => z.length - (intOf t).toNat)
  case atStart => exact ⟨0, Nat.zero_le _, rfl⟩
  case round =>
    obtain ⟨i, hi, rfl⟩ := hrel
    have hi1 : (i : Int) < (z.length : Int) := by omega
    obtain ⟨b1, o1, ha1, _, _, hc1⟩ := HZ.out.num (by omega : i < z.length)
    subst ha1
    by_cases e : i = k
    · subst e
      have h3 := HG.out
      obtain ⟨y, hy⟩ : ∃ y, y = z.getD i 0 := ⟨_, rfl⟩
      rw [← hy] at hc1 h3
      have e1 : (y != 0) = true := by simpa using h3
      have e2 : (y == 0) = false := by simpa using h3
      clear hy h3
      go_wp2
      go_ret
      exact ⟨rfl, rfl⟩
    · rw [HL.out i (by omega)] at hc1
      go_wp2
      go_round
      case rel => exact ⟨i + 1, by omega, by go_num⟩
      case measure => simp [intOf]; omega

theorem any_pivs (P : Nat → Nat) (n k : Nat) : ((List.range n).map fun i => (P i : Int)).any (· == (k : Int)) = isPv P n k := by
  unfold isPv
  rw [List.any_map]
  congr 1
  funext i
  show ((P i : Int) == (k : Int)) = (P i == k)
  by_cases e : P i = k
  · subst e; rw [beq_self_eq_true, beq_self_eq_true]
  · have h : ¬ (P i : Int) = (k : Int) := by omega
    rw [beq_eq_false_iff_ne.2 e, beq_eq_false_iff_ne.2 h]

end Go.Proofs.YtijklpcelbnnjaaGreat

namespace Go.Proofs.YtijklpcelbnnjaaGreat
open Go.RowKit
set_option linter.unusedVariables false

theorem balloc (w : World) (o : Obj) : Below w.heap.size w (w.alloc o) := (Below.refl _ _).alloc (Nat.le_refl _) o
theorem bdrew (w : World) : Below w.heap.size w w.drew := (Below.refl _ _).drew
/-- The places of the pivots, as numbers. -/
def pvL (P : Nat → Nat) (n : Nat) : List Int := (List.range n).map fun i => (P i : Int)
theorem pvL_len (P : Nat → Nat) (n : Nat) : (pvL P n).length = n := by simp [pvL]
theorem pvL_at {P : Nat → Nat} {n i : Nat} (h : i < n) : (pvL P n).getD i 0 = P i := by simp [pvL, List.getD, h]
theorem pvL_succ (P : Nat → Nat) (n : Nat) : pvL P (n + 1) = pvL P n ++ [(P n : Int)] := by simp [pvL, List.range_succ]
theorem pvL_any (P : Nat → Nat) (n k : Nat) : (pvL P n).any (· == (k : Int)) = isPv P n k := any_pivs P n k
/-- The vectors that the free columns make, and their reduced basis. -/
noncomputable def kerP (p : Int) (A : List (List Int)) : List (List Int) := kerN p (bas p A) (pvs (bas p A)) (rw' A 0).length (bas p A).length (rw' A 0).length
noncomputable def kerB (p : Int) (A : List (List Int)) : List (List Int) := bas p (kerP p A)
/-- A list of numbers stays where a list of lists is appended to. -/
theorem TagR.push {B lo tp n : Nat} {w w1 : World} {v : Value} {vals : List Value} {r : Option Addr} {z : List Int} (ho : w.ownsRow B 24 1 v n vals) (hg : w.grownBy w1 v.ownBlock) (ht : tp ≤ w.heap.size) (hz : TagR lo tp w r z) : TagR lo tp w1 r z := by
  refine hz.block (Nat.le_refl _) (Nat.le_refl _) (fun b cur _ h1 hc => hg.block b (Nat.lt_of_lt_of_le h1 ht) (fun e => ?_))
  rcases ho.2 with ⟨rfl, _⟩ | ⟨g, cap, cur', rfl, _, hgg, _⟩
  · simp [Value.ownBlock] at e
  · simp [Value.ownBlock] at e
    subst e
    rw [hgg] at hc
    simp at hc
/-- A list of lists stays where a list of numbers is appended to. -/
theorem OutM.beside {B n : Nat} {w w1 : World} {v v' : Value} {xs : List Value} (h : OutM B w v []) (ho : w.ownsRow B 2 1 v' n xs) (hg : w.grownBy w1 v'.ownBlock) : OutM B w1 v [] := by
  obtain ⟨vals, h1, _⟩ := h
  exact ⟨vals, h1.kept hg (own_apart h1 ho (by decide)), fun i hi => by simp at hi⟩
/-- A number is put into a list in place. -/
theorem TagR.set {lo tp : Nat} {w : World} {b o j : Nat} {z : List Int} (h : TagR lo tp w (some ⟨b, o, none⟩) z) (hj : j < z.length) (x : Int) : TagR lo tp (w.setCell ⟨b, o + j, none⟩ (.int .i64 x)) (some ⟨b, o, none⟩) (z.set j x) := by
  rcases h with h | ⟨b', o', cur, e, h0, h1, hc, hv⟩
  · rw [h] at hj; simp at hj
  · cases e
    refine .inr ⟨b, o, cur.setIfInBounds (o + j) (.int .i64 x), rfl, h0, h1, by simp [World.setCell, Array.getElem?_modify, hc], fun i hi => ?_⟩
    rw [List.length_set] at hi
    by_cases e : i = j
    · subst e
      rw [World.cell?_setCell_same w _ _ (hv i hi)]
      simp [List.getD, hi]
    · rw [World.cell?_setCell_other _ _ _ _ (fun e2 => e (by injection e2 with _ e3; omega)), hv i hi]
      simp only [List.getD_eq_getElem?_getD]
      rw [List.getElem?_set_ne (fun h => e h.symm)]
theorem mkR_set {c k : Nat} {x : Int} (f g : Nat → Int) (h : ∀ j, j < c → g j = if j = k then x else f j) : (mkR c f).set k x = mkR c g := by
  apply row_ext (by simp [mkR_len])
  intro j hj
  rw [List.length_set, mkR_len] at hj
  rw [mkR_at _ hj, h j hj]
  simp only [List.getD_eq_getElem?_getD]
  by_cases e : j = k
  · subst e
    rw [List.getElem?_set_self (by rw [mkR_len]; exact hj), if_pos rfl]; rfl
  · rw [List.getElem?_set_ne (fun h => e h.symm), if_neg e, ← List.getD_eq_getElem?_getD, mkR_at _ hj]
theorem kvec_next {p : Int} {c : Nat} {B : List (List Int)} {P : Nat → Nat} {n i k : Nat} (h : Rref p n c (at' B) P) (hi : i < n) (hk : P i ≠ k) : (kvec p B P c i k).set (P i) ((p - at' B i k) % p) = kvec p B P c (i + 1) k :=
  mkR_set _ _ (fun j hj => kvec_step h hi hk hj)

theorem OutM.start2 (w : World) (B : Nat) (t t' : TypeId) (hB : B ≤ w.heap.size) (ht : t' = 24) : OutM B ((w.alloc (.cells #[] t)).alloc (.cells #[] t')) (.slice (some ⟨w.heap.size + 1, 0, none⟩) 0 0) [] := by
  have h := OutM.start (w.alloc (.cells #[] t)) B t' (by simp; omega) ht
  have e : (w.alloc (.cells #[] t)).heap.size = w.heap.size + 1 := by simp
  rw [e] at h; exact h
theorem OutM.pushW {B n : Nat} {w w2 w1 : World} {o : Obj} {v v' : Value} {m : List (List Int)} {z : List Int} {vals : List Value} {r : Option Addr} {cz cp : Nat} (hl : m.length = n) (hzl : z.length = cz)
    (ho : w.ownsRow B 24 1 v n vals) (hr : ∀ i, i < n → ∃ r c', vals[i]? = some (.slice r (rw' m i).length c') ∧ TagR B w.heap.size w r (rw' m i))
    (hz : TagR w.heap.size w2.heap.size w2 r z) (hB : B ≤ w.heap.size) (h2 : Below w.heap.size w w2) (h1 : w1.ownsRow B 24 1 v' (n + 1) (vals ++ [.slice r cz cp])) (hg : (w2.alloc o).grownBy w1 v.ownBlock) : OutM B w1 v' (m ++ [z]) := by
  subst hl hzl
  have hb : Below w2.heap.size w2 (w2.alloc o) := (Below.refl _ _).alloc (Nat.le_refl _) o
  refine OutM.push (m := m) (w := w2.alloc o) (vals := vals) ((ho.kept (below_grown h2) (by cases hv : v.ownBlock <;> simp)).alloc o) (fun i hi => ?_) (hz.below hb (Nat.le_refl _) hB hb.size) (c := cp) h1 hg
  obtain ⟨r', c', g1, g2⟩ := hr i hi
  exact ⟨r', c', g1, (g2.below h2 (Nat.le_refl _) (Nat.le_refl _) h2.size).below hb (Nat.le_refl _) (Nat.le_refl _) hb.size⟩
theorem kvec_unit {p : Int} (hp : 1 < p) (B : List (List Int)) (P : Nat → Nat) (c k : Nat) : (mkR c fun j => if k = j then 1 else 0) = kvec p B P c 0 k := mkR_congr (fun j _ => by
  rw [kv_zero]
  by_cases e : j = k
  · rw [if_pos e, if_pos e.symm]; exact (Int.emod_eq_of_lt (by omega) hp).symm
  · rw [if_neg e, if_neg (fun h => e h.symm)]; rfl)
theorem kvec_len (p : Int) (B : List (List Int)) (P : Nat → Nat) (c i k : Nat) : (kvec p B P c i k).length = c := mkR_len _ _
theorem neg_mod (p x : Int) : (p - x) % p = -x % p := by simp

end Go.Proofs.YtijklpcelbnnjaaGreat

namespace Go.Proofs.YtijklpcelbnnjaaGreat
open Go.RowKit Go.ChangeShapes Go.WideShapes
set_option linter.unusedVariables false

theorem EchM.pivRow {w : World} {kb c nr np : Nat} {Z : Nat → Nat → Int} {P : Nat → Nat} {ar ap : Option Addr} {cr cp : Nat} {d : Int} {RB RO RC : Nat → Nat} (h : EchM w kb c nr np Z P (.slice ar nr cr) (.slice ap np cp) d RB RO RC) : RowIn kb w.heap.size w ap (pvL P np) := by
  by_cases h0 : 0 < np
  · obtain ⟨g, rfl, _, hg0, hg1⟩ := h.pivA h0
    refine .inr ⟨g, 0, rfl, by omega, hg1, fun j hj => ?_⟩
    rw [pvL_len] at hj
    obtain ⟨g', e, hc, _, _⟩ := h.pivA hj
    injection e with e1
    injection e1 with e2
    subst e2
    rw [Nat.zero_add, pvL_at hj]; exact hc
  · have : np = 0 := by omega
    subst this
    exact .inl rfl
def ElimK (p : Int) (A : List (List Int)) (w : World) (e : Ending) (w' : World) : Prop :=
  ∃ ar cr ap cp dd, e = .returned (.agg #[.slice ar (bas p A).length cr, .slice ap (bas p A).length cp, .int .i64 dd]) ∧ OwnM w.heap.size w'.heap.size w' ar (bas p A) ∧ RowIn w.heap.size w'.heap.size w' ap (pvL (pvs (bas p A)) (bas p A).length) ∧
    IsBas p (rw' A 0).length A (bas p A) ∧ Below w.heap.size w w'
theorem pvL_congr {P P' : Nat → Nat} {n : Nat} (h : ∀ i, i < n → P i = P' i) : pvL P n = pvL P' n := by
  unfold pvL
  apply List.map_congr_left
  intro i hi
  rw [h i (List.mem_range.1 hi)]
/-- Rows of one length with numbers of the prime, at least one. -/
structure RowsW (p : Int) (A : List (List Int)) : Prop where
  prime : prm p = true
  lo : 0 < A.length
  hi : A.length ≤ 1024
  c0 : 1 ≤ (rw' A 0).length
  c1 : (rw' A 0).length ≤ 16
  len : ∀ i, i < A.length → (rw' A i).length = (rw' A 0).length
  rng : ∀ i, i < A.length → ∀ j, j < (rw' A 0).length → 0 ≤ at' A i j ∧ at' A i j < p
theorem elimK (p : Int) (a : Option Addr) (A : List (List Int)) (ca lo tp : Nat) (w : World) (hm : MatIn lo tp w a A) (ht : tp ≤ w.heap.size) (hA : RowsW p A) :
    Calls Tryz.prog 78 #[.int .i64 p, .slice a A.length ca] w (ElimK p A w) := by
  have hp := hA.prime
  have hc0 := hA.c0
  have hc1 := hA.c1
  refine (eliminate_bas p a A ca lo tp w hp hm ht hA.hi (fun i hi => by rw [hA.len i hi]; exact ⟨hc0, by omega, rfl⟩) (fun i hi j hj => hA.rng i hi j (by rw [← hA.len i hi]; exact hj))).mono ?_
  rintro e w' ⟨P, d, dd, ar, ap, cr, cp, kb, c, RB, RO, RC, rfl, hE, hM, hB, hk, hd⟩
  obtain ⟨_, rfl⟩ := hd hA.lo
  have hK := hM.kept hp
  refine ⟨ar, cr, ap, cp, dd, rfl, hE.own hK.len hk, ?_, hK.bas, hB⟩
  rw [pvL_congr (fun i hi => hK.red.pvs hK.len hi)]
  exact hE.pivRow.mono hk (Nat.le_refl _)
theorem kerP_lstW {p : Int} {A : List (List Int)} (h : RowsW p A) : isL 0 p (kerP p A) = true :=
  isL_iff.2 (kerN_lst h.prime h.c0 h.c1 (Nat.le_refl _))

end Go.Proofs.YtijklpcelbnnjaaGreat
