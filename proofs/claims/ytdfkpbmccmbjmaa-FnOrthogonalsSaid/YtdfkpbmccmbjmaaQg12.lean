/-
  Where a number stands in a list, and whether it does: l01Index, l01Has, l02First in the model, slices.Index and slices.Contains in the program.
  Conditions: the list is nil or a row of known cells, of at most 1048576 numbers.
  The model's kernel: the walk.
  Conditions: the matrix is a row of rows of known cells with numbers of the prime.
-/
import Derived.Test.YtdfkpbmccmbjmaaQg11
import Derived.Test.YtdfkpbmccmbjmaaQg1
import Derived.Test.YtdfkpbmccmbjmaaQg9
import Derived.Test.YtdfkpbmccmbjmaaQg7
namespace Go.Proofs.Ytdfkpbmccmbjmaa
open Go.RowKit
set_option linter.unusedVariables false

/-- The first place of a number. -/
def isAt (z : List Int) (x : Int) (k : Nat) : Prop := k < z.length ∧ (∀ j, j < k → z.getD j 0 ≠ x) ∧ z.getD k 0 = x
theorem isAt_cases (z : List Int) (x : Int) : (∃ k, isAt z x k ∧ z.any (· == x) = true) ∨ ((∀ j, j < z.length → z.getD j 0 ≠ x) ∧ z.any (· == x) = false) := by
  by_cases h : z.findIdx (· == x) < z.length
  · left
    have h1 := List.findIdx_getElem (xs := z) (p := (· == x)) (w := h)
    refine ⟨z.findIdx (· == x), ⟨h, fun j hj e => ?_, ?_⟩, ?_⟩
    · have h2 := List.not_of_lt_findIdx hj
      have hj' : j < z.length := by omega
      simp [List.getD, hj'] at e
      simp [e] at h2
    · simpa [List.getD, h] using h1
    · exact List.any_eq_true.2 ⟨_, List.getElem_mem h, h1⟩
  · right
    have h2 : ∀ y ∈ z, (y == x) = false := fun y hy => by
      have h3 : z.findIdx (· == x) = z.length := Nat.le_antisymm List.findIdx_le_length (by omega)
      simpa using List.findIdx_eq_length.1 h3 y hy
    refine ⟨fun j hj e => ?_, ?_⟩
    · have := h2 (z.getD j 0) (by simp [List.getD, hj])
      rw [e] at this; simp at this
    · simpa using h2

set_option maxHeartbeats 800000 in
theorem l01Index_yes (a : Option Addr) (z : List Int) (x : Int) (n k ca lo tp : Nat) (w : World) (hz : RowIn lo tp w a z) (hn : z.length = n) (hl : n ≤ 1048576) (hk : isAt z x k) :
    Calls Try.prog 74 #[.slice a n ca, .int .i64 x] w fun e w' => e = .returned (.int .i64 k) ∧ w = w' := by
  subst hn
  have HZ := Lib.hid hz
  have HK := Lib.hid hk
  clear hz hk
  go_enter Try.func74, Try.ntmps74
  go_wp2
  go_loop [5] (fun t => ∃ i : Nat, i ≤ k ∧ t = .int .i64 i) (fun t => z.length - (intOf t).toNat)
  case atStart => exact ⟨0, Nat.zero_le _, rfl⟩
  case round =>
    obtain ⟨i, hi, rfl⟩ := hrel
    have hkl := HK.out.1
    have hi1 : (i : Int) < (z.length : Int) := by omega
    obtain ⟨b1, o1, ha1, _, _, hc1⟩ := HZ.out.num (by omega : i < z.length)
    subst ha1
    by_cases e : i = k
    · subst e
      rw [HK.out.2.2] at hc1
      go_wp2
      go_ret
      exact ⟨rfl, rfl⟩
    · have h2 := HK.out.2.1 i (by omega)
      obtain ⟨y, hy⟩ : ∃ y, y = z.getD i 0 := ⟨_, rfl⟩
      rw [← hy] at hc1 h2
      have e1 : (y == x) = false := by simpa using h2
      have e2 : (x == y) = false := by simpa using fun e : x = y => h2 e.symm
      clear hy h2
      go_wp2
      go_round
      case rel => exact ⟨i + 1, by omega, by go_num⟩
      case measure => simp [intOf]; omega

set_option maxHeartbeats 800000 in
theorem l01Index_no (a : Option Addr) (z : List Int) (x : Int) (n ca lo tp : Nat) (w : World) (hz : RowIn lo tp w a z) (hn : z.length = n) (hl : n ≤ 1048576) (hk : ∀ j, j < z.length → z.getD j 0 ≠ x) :
    Calls Try.prog 74 #[.slice a n ca, .int .i64 x] w fun e w' => e = .returned (.int .i64 (-1)) ∧ w = w' := by
  subst hn
  have HZ := Lib.hid hz
  have HK := Lib.hid hk
  clear hz hk
  go_enter Try.func74, Try.ntmps74
  go_wp2
  go_loop [5] (fun t => ∃ i : Nat, i ≤ z.length ∧ t = .int .i64 i) (fun t => z.length - (intOf t).toNat)
  case atStart => exact ⟨0, Nat.zero_le _, rfl⟩
  case round =>
    obtain ⟨i, hi, rfl⟩ := hrel
    by_cases hlt : i < z.length
    · have hi1 : (i : Int) < (z.length : Int) := by omega
      obtain ⟨b1, o1, ha1, _, _, hc1⟩ := HZ.out.num hlt
      subst ha1
      have h2 := HK.out i hlt
      obtain ⟨y, hy⟩ : ∃ y, y = z.getD i 0 := ⟨_, rfl⟩
      rw [← hy] at hc1 h2
      have e1 : (y == x) = false := by simpa using h2
      have e2 : (x == y) = false := by simpa using fun e : x = y => h2 e.symm
      clear hy h2
      go_wp2
      go_round
      case rel => exact ⟨i + 1, by omega, by go_num⟩
      case measure => simp [intOf]; omega
    · have hn : i = z.length := by omega
      subst hn
      go_wp2
      go_ret
      exact ⟨rfl, rfl⟩

set_option maxHeartbeats 800000 in
theorem l01Has_any (a : Option Addr) (z : List Int) (x : Int) (n ca lo tp : Nat) (w : World) (hz : RowIn lo tp w a z) (hn : z.length = n) (hl : n ≤ 1048576) :
    Calls Try.prog 55 #[.slice a n ca, .int .i64 x] w fun e w' => e = .returned (.bool (z.any (· == x))) ∧ w = w' := by
  have HZ := Lib.hid hz
  clear hz
  rcases isAt_cases z x with ⟨k, hk, he⟩ | ⟨hk, he⟩
  · have HK := Lib.hid hk
    have hk2 : k ≤ 1048576 := by have := hk.1; omega
    rw [he]
    clear hk he
    go_enter Try.func55, Try.ntmps55
    go_wp2_with (go_at_call 74; (with_reducible refine (l01Index_yes _ z x _ k _ lo tp _ HZ.out hn hl HK.out).mono ?_); rintro e w1 ⟨rfl, rfl⟩)
    go_ret
    exact ⟨rfl, rfl⟩
  · have HK := Lib.hid hk
    rw [he]
    clear hk he
    go_enter Try.func55, Try.ntmps55
    go_wp2_with (go_at_call 74; (with_reducible refine (l01Index_no _ z x _ _ lo tp _ HZ.out hn hl HK.out).mono ?_); rintro e w1 ⟨rfl, rfl⟩)
    go_ret
    exact ⟨rfl, rfl⟩

set_option maxHeartbeats 800000 in
theorem indexI_yes (a : Option Addr) (z : List Int) (x : Int) (n k ca lo tp : Nat) (w : World) (hz : RowIn lo tp w a z) (hn : z.length = n) (hl : n ≤ 1048576) (hk : isAt z x k) :
    Calls Try.prog 52 #[.slice a n ca, .int .i64 x] w fun e w' => e = .returned (.int .i64 k) ∧ w = w' := by
  subst hn
  have HZ := Lib.hid hz
  have HK := Lib.hid hk
  clear hz hk
  go_enter Try.func52, Try.ntmps52
  go_wp2
  go_loop [8] (fun t => ∃ i : Nat, i ≤ k ∧ t = .int .i64 i) (fun t => z.length - (intOf t).toNat)
  case atStart => exact ⟨0, Nat.zero_le _, rfl⟩
  case round =>
    obtain ⟨i, hi, rfl⟩ := hrel
    have hkl := HK.out.1
    have hi1 : (i : Int) < (z.length : Int) := by omega
    obtain ⟨b1, o1, ha1, _, _, hc1⟩ := HZ.out.num (by omega : i < z.length)
    subst ha1
    by_cases e : i = k
    · subst e
      rw [HK.out.2.2] at hc1
      go_wp2
      go_ret
      exact ⟨rfl, rfl⟩
    · have h2 := HK.out.2.1 i (by omega)
      obtain ⟨y, hy⟩ : ∃ y, y = z.getD i 0 := ⟨_, rfl⟩
      rw [← hy] at hc1 h2
      have e1 : (y == x) = false := by simpa using h2
      have e2 : (x == y) = false := by simpa using fun e : x = y => h2 e.symm
      clear hy h2
      go_wp2
      go_round
      case rel => exact ⟨i + 1, by omega, by go_num⟩
      case measure => simp [intOf]; omega

set_option maxHeartbeats 800000 in
theorem indexI_no (a : Option Addr) (z : List Int) (x : Int) (n ca lo tp : Nat) (w : World) (hz : RowIn lo tp w a z) (hn : z.length = n) (hl : n ≤ 1048576) (hk : ∀ j, j < z.length → z.getD j 0 ≠ x) :
    Calls Try.prog 52 #[.slice a n ca, .int .i64 x] w fun e w' => e = .returned (.int .i64 (-1)) ∧ w = w' := by
  subst hn
  have HZ := Lib.hid hz
  have HK := Lib.hid hk
  clear hz hk
  go_enter Try.func52, Try.ntmps52
  go_wp2
  go_loop [8] (fun t => ∃ i : Nat, i ≤ z.length ∧ t = .int .i64 i) (fun t => z.length - (intOf t).toNat)
  case atStart => exact ⟨0, Nat.zero_le _, rfl⟩
  case round =>
    obtain ⟨i, hi, rfl⟩ := hrel
    by_cases hlt : i < z.length
    · have hi1 : (i : Int) < (z.length : Int) := by omega
      obtain ⟨b1, o1, ha1, _, _, hc1⟩ := HZ.out.num hlt
      subst ha1
      have h2 := HK.out i hlt
      obtain ⟨y, hy⟩ : ∃ y, y = z.getD i 0 := ⟨_, rfl⟩
      rw [← hy] at hc1 h2
      have e1 : (y == x) = false := by simpa using h2
      have e2 : (x == y) = false := by simpa using fun e : x = y => h2 e.symm
      clear hy h2
      go_wp2
      go_round
      case rel => exact ⟨i + 1, by omega, by go_num⟩
      case measure => simp [intOf]; omega
    · have hn : i = z.length := by omega
      subst hn
      go_wp2
      go_ret
      exact ⟨rfl, rfl⟩

set_option maxHeartbeats 800000 in
theorem containsI_any (a : Option Addr) (z : List Int) (x : Int) (n ca lo tp : Nat) (w : World) (hz : RowIn lo tp w a z) (hn : z.length = n) (hl : n ≤ 1048576) :
    Calls Try.prog 35 #[.slice a n ca, .int .i64 x] w fun e w' => e = .returned (.bool (z.any (· == x))) ∧ w = w' := by
  have HZ := Lib.hid hz
  clear hz
  rcases isAt_cases z x with ⟨k, hk, he⟩ | ⟨hk, he⟩
  · have HK := Lib.hid hk
    have hk2 : k ≤ 1048576 := by have := hk.1; omega
    rw [he]
    clear hk he
    go_enter Try.func35, Try.ntmps35
    go_wp2_with (go_at_call 52; (with_reducible refine (indexI_yes _ z x _ k _ lo tp _ HZ.out hn hl HK.out).mono ?_); rintro e w1 ⟨rfl, rfl⟩)
    go_ret
    exact ⟨rfl, rfl⟩
  · have HK := Lib.hid hk
    rw [he]
    clear hk he
    go_enter Try.func35, Try.ntmps35
    go_wp2_with (go_at_call 52; (with_reducible refine (indexI_no _ z x _ _ lo tp _ HZ.out hn hl HK.out).mono ?_); rintro e w1 ⟨rfl, rfl⟩)
    go_ret
    exact ⟨rfl, rfl⟩

set_option maxHeartbeats 800000 in
theorem index64_yes (a : Option Addr) (z : List Int) (x : Int) (n k ca lo tp : Nat) (w : World) (hz : RowIn lo tp w a z) (hn : z.length = n) (hl : n ≤ 1048576) (hk : isAt z x k) :
    Calls Try.prog 57 #[.slice a n ca, .int .i64 x] w fun e w' => e = .returned (.int .i64 k) ∧ w = w' := by
  subst hn
  have HZ := Lib.hid hz
  have HK := Lib.hid hk
  clear hz hk
  go_enter Try.func57, Try.ntmps57
  go_wp2
  go_loop [8] (fun t => ∃ i : Nat, i ≤ k ∧ t = .int .i64 i) (fun t => z.length - (intOf t).toNat)
  case atStart => exact ⟨0, Nat.zero_le _, rfl⟩
  case round =>
    obtain ⟨i, hi, rfl⟩ := hrel
    have hkl := HK.out.1
    have hi1 : (i : Int) < (z.length : Int) := by omega
    obtain ⟨b1, o1, ha1, _, _, hc1⟩ := HZ.out.num (by omega : i < z.length)
    subst ha1
    by_cases e : i = k
    · subst e
      rw [HK.out.2.2] at hc1
      go_wp2
      go_ret
      exact ⟨rfl, rfl⟩
    · have h2 := HK.out.2.1 i (by omega)
      obtain ⟨y, hy⟩ : ∃ y, y = z.getD i 0 := ⟨_, rfl⟩
      rw [← hy] at hc1 h2
      have e1 : (y == x) = false := by simpa using h2
      have e2 : (x == y) = false := by simpa using fun e : x = y => h2 e.symm
      clear hy h2
      go_wp2
      go_round
      case rel => exact ⟨i + 1, by omega, by go_num⟩
      case measure => simp [intOf]; omega

set_option maxHeartbeats 800000 in
theorem index64_no (a : Option Addr) (z : List Int) (x : Int) (n ca lo tp : Nat) (w : World) (hz : RowIn lo tp w a z) (hn : z.length = n) (hl : n ≤ 1048576) (hk : ∀ j, j < z.length → z.getD j 0 ≠ x) :
    Calls Try.prog 57 #[.slice a n ca, .int .i64 x] w fun e w' => e = .returned (.int .i64 (-1)) ∧ w = w' := by
  subst hn
  have HZ := Lib.hid hz
  have HK := Lib.hid hk
  clear hz hk
  go_enter Try.func57, Try.ntmps57
  go_wp2
  go_loop [8] (fun t => ∃ i : Nat, i ≤ z.length ∧ t = .int .i64 i) (fun t => z.length - (intOf t).toNat)
  case atStart => exact ⟨0, Nat.zero_le _, rfl⟩
  case round =>
    obtain ⟨i, hi, rfl⟩ := hrel
    by_cases hlt : i < z.length
    · have hi1 : (i : Int) < (z.length : Int) := by omega
      obtain ⟨b1, o1, ha1, _, _, hc1⟩ := HZ.out.num hlt
      subst ha1
      have h2 := HK.out i hlt
      obtain ⟨y, hy⟩ : ∃ y, y = z.getD i 0 := ⟨_, rfl⟩
      rw [← hy] at hc1 h2
      have e1 : (y == x) = false := by simpa using h2
      have e2 : (x == y) = false := by simpa using fun e : x = y => h2 e.symm
      clear hy h2
      go_wp2
      go_round
      case rel => exact ⟨i + 1, by omega, by go_num⟩
      case measure => simp [intOf]; omega
    · have hn : i = z.length := by omega
      subst hn
      go_wp2
      go_ret
      exact ⟨rfl, rfl⟩

set_option maxHeartbeats 800000 in
theorem contains64_any (a : Option Addr) (z : List Int) (x : Int) (n ca lo tp : Nat) (w : World) (hz : RowIn lo tp w a z) (hn : z.length = n) (hl : n ≤ 1048576) :
    Calls Try.prog 45 #[.slice a n ca, .int .i64 x] w fun e w' => e = .returned (.bool (z.any (· == x))) ∧ w = w' := by
  have HZ := Lib.hid hz
  clear hz
  rcases isAt_cases z x with ⟨k, hk, he⟩ | ⟨hk, he⟩
  · have HK := Lib.hid hk
    have hk2 : k ≤ 1048576 := by have := hk.1; omega
    rw [he]
    clear hk he
    go_enter Try.func45, Try.ntmps45
    go_wp2_with (go_at_call 57; (with_reducible refine (index64_yes _ z x _ k _ lo tp _ HZ.out hn hl HK.out).mono ?_); rintro e w1 ⟨rfl, rfl⟩)
    go_ret
    exact ⟨rfl, rfl⟩
  · have HK := Lib.hid hk
    rw [he]
    clear hk he
    go_enter Try.func45, Try.ntmps45
    go_wp2_with (go_at_call 57; (with_reducible refine (index64_no _ z x _ _ lo tp _ HZ.out hn hl HK.out).mono ?_); rintro e w1 ⟨rfl, rfl⟩)
    go_ret
    exact ⟨rfl, rfl⟩

set_option maxHeartbeats 800000 in
theorem l02First_any (a : Option Addr) (z : List Int) (n k ca lo tp : Nat) (w : World) (hz : RowIn lo tp w a z) (hn : z.length = n) (hl : n ≤ 1048576) (hk : fstN z = k) (hk2 : k < n) :
    Calls Try.prog 54 #[.slice a n ca] w fun e w' => e = .returned (.int .i64 k) ∧ w = w' := by
  subst hn
  have HZ := Lib.hid hz
  have HK := Lib.hid hk
  have HL : Hid (∀ j, j < k → z.getD j 0 = 0) := fun j hj => by
    rw [← hk] at hj
    have h2 := List.not_of_lt_findIdx hj
    have hj' : j < z.length := by omega
    simp [List.getD, hj']
    simpa using h2
  have HG : Hid (z.getD k 0 ≠ 0) := by
    show _
    have := fstN_lt (z := z) (by omega)
    rwa [hk] at this
  clear hz hk
  go_enter Try.func54, Try.ntmps54
  go_wp2
  go_loop [3] (fun t => ∃ i : Nat, i ≤ k ∧ t = .int .i64 i) (fun t => z.length - (intOf t).toNat)
  case atStart => exact ⟨0, Nat.zero_le _, rfl⟩
  case round =>
    obtain ⟨i, hi, rfl⟩ := hrel
    have hi1 : (i : Int) < (z.length : Int) := by omega
    obtain ⟨b1, o1, ha1, _, _, hc1⟩ := HZ.out.num (by omega : i < z.length)
    subst ha1
    by_cases e : i = k
    · subst e
      have h3 := HG.out
      obtain ⟨y, hy⟩ : ∃ y, y = z.getD i 0 := ⟨_, rfl⟩
      rw [← hy] at hc1 h3
      have e1 : (y != 0) = true := by simpa using h3
      have e2 : (y == 0) = false := by simpa using h3
      clear hy h3
      go_wp2
      go_ret
      exact ⟨rfl, rfl⟩
    · rw [HL.out i (by omega)] at hc1
      go_wp2
      go_round
      case rel => exact ⟨i + 1, by omega, by go_num⟩
      case measure => simp [intOf]; omega

theorem any_pivs (P : Nat → Nat) (n k : Nat) : ((List.range n).map fun i => (P i : Int)).any (· == (k : Int)) = isPv P n k := by
  unfold isPv
  rw [List.any_map]
  congr 1
  funext i
  show ((P i : Int) == (k : Int)) = (P i == k)
  by_cases e : P i = k
  · subst e; rw [beq_self_eq_true, beq_self_eq_true]
  · have h : ¬ (P i : Int) = (k : Int) := by omega
    rw [beq_eq_false_iff_ne.2 e, beq_eq_false_iff_ne.2 h]

end Go.Proofs.Ytdfkpbmccmbjmaa

namespace Go.Proofs.Ytdfkpbmccmbjmaa
open Go.RowKit
set_option linter.unusedVariables false

theorem balloc (w : World) (o : Obj) : Below w.heap.size w (w.alloc o) := (Below.refl _ _).alloc (Nat.le_refl _) o
theorem bdrew (w : World) : Below w.heap.size w w.drew := (Below.refl _ _).drew
theorem lst0 {p : Int} {m : List (List Int)} (h : Lst 1 p m) : isL 0 p m = true := isL_iff.2 { h with lo := Nat.zero_le _ }
/-- The places of the pivots, as numbers. -/
def pvL (P : Nat → Nat) (n : Nat) : List Int := (List.range n).map fun i => (P i : Int)
theorem pvL_len (P : Nat → Nat) (n : Nat) : (pvL P n).length = n := by simp [pvL]
theorem pvL_at {P : Nat → Nat} {n i : Nat} (h : i < n) : (pvL P n).getD i 0 = P i := by simp [pvL, List.getD, h]
theorem pvL_succ (P : Nat → Nat) (n : Nat) : pvL P (n + 1) = pvL P n ++ [(P n : Int)] := by simp [pvL, List.range_succ]
theorem pvL_any (P : Nat → Nat) (n k : Nat) : (pvL P n).any (· == (k : Int)) = isPv P n k := any_pivs P n k
/-- The vectors that the free columns make, and their reduced basis. -/
noncomputable def kerP (p : Int) (A : List (List Int)) : List (List Int) := kerN p (bas p A) (pvs (bas p A)) (rw' A 0).length (bas p A).length (rw' A 0).length
noncomputable def kerB (p : Int) (A : List (List Int)) : List (List Int) := bas p (kerP p A)
theorem kerP_lst {p : Int} {A : List (List Int)} (h : Lst 1 p A) : isL 0 p (kerP p A) = true :=
  isL_iff.2 (kerN_lst h.prime (h.c0 0 h.lo) (h.c1 0 h.lo) (Nat.le_refl _))

/-- A list of numbers stays where a list of lists is appended to. -/
theorem TagR.push {B lo tp n : Nat} {w w1 : World} {v : Value} {vals : List Value} {r : Option Addr} {z : List Int} (ho : w.ownsRow B 24 1 v n vals) (hg : w.grownBy w1 v.ownBlock) (ht : tp ≤ w.heap.size) (hz : TagR lo tp w r z) : TagR lo tp w1 r z := by
  refine hz.block (Nat.le_refl _) (Nat.le_refl _) (fun b cur _ h1 hc => hg.block b (Nat.lt_of_lt_of_le h1 ht) (fun e => ?_))
  rcases ho.2 with ⟨rfl, _⟩ | ⟨g, cap, cur', rfl, _, hgg, _⟩
  · simp [Value.ownBlock] at e
  · simp [Value.ownBlock] at e
    subst e
    rw [hgg] at hc
    simp at hc
/-- A list of lists stays where a list of numbers is appended to. -/
theorem OutM.beside {B n : Nat} {w w1 : World} {v v' : Value} {xs : List Value} (h : OutM B w v []) (ho : w.ownsRow B 2 1 v' n xs) (hg : w.grownBy w1 v'.ownBlock) : OutM B w1 v [] := by
  obtain ⟨vals, h1, _⟩ := h
  exact ⟨vals, h1.kept hg (own_apart h1 ho (by decide)), fun i hi => by simp at hi⟩
/-- A number is put into a list in place. -/
theorem TagR.set {lo tp : Nat} {w : World} {b o j : Nat} {z : List Int} (h : TagR lo tp w (some ⟨b, o, none⟩) z) (hj : j < z.length) (x : Int) : TagR lo tp (w.setCell ⟨b, o + j, none⟩ (.int .i64 x)) (some ⟨b, o, none⟩) (z.set j x) := by
  rcases h with h | ⟨b', o', cur, e, h0, h1, hc, hv⟩
  · rw [h] at hj; simp at hj
  · cases e
    refine .inr ⟨b, o, cur.setIfInBounds (o + j) (.int .i64 x), rfl, h0, h1, by simp [World.setCell, Array.getElem?_modify, hc], fun i hi => ?_⟩
    rw [List.length_set] at hi
    by_cases e : i = j
    · subst e
      rw [World.cell?_setCell_same w _ _ (hv i hi)]
      simp [List.getD, hi]
    · rw [World.cell?_setCell_other _ _ _ _ (fun e2 => e (by injection e2 with _ e3; omega)), hv i hi]
      simp only [List.getD_eq_getElem?_getD]
      rw [List.getElem?_set_ne (fun h => e h.symm)]
theorem mkR_set {c k : Nat} {x : Int} (f g : Nat → Int) (h : ∀ j, j < c → g j = if j = k then x else f j) : (mkR c f).set k x = mkR c g := by
  apply row_ext (by simp [mkR_len])
  intro j hj
  rw [List.length_set, mkR_len] at hj
  rw [mkR_at _ hj, h j hj]
  simp only [List.getD_eq_getElem?_getD]
  by_cases e : j = k
  · subst e
    rw [List.getElem?_set_self (by rw [mkR_len]; exact hj), if_pos rfl]; rfl
  · rw [List.getElem?_set_ne (fun h => e h.symm), if_neg e, ← List.getD_eq_getElem?_getD, mkR_at _ hj]
theorem kvec_next {p : Int} {c : Nat} {B : List (List Int)} {P : Nat → Nat} {n i k : Nat} (h : Rref p n c (at' B) P) (hi : i < n) (hk : P i ≠ k) : (kvec p B P c i k).set (P i) ((p - at' B i k) % p) = kvec p B P c (i + 1) k :=
  mkR_set _ _ (fun j hj => kvec_step h hi hk hj)

theorem OutM.start2 (w : World) (B : Nat) (t t' : TypeId) (hB : B ≤ w.heap.size) (ht : t' = 24) : OutM B ((w.alloc (.cells #[] t)).alloc (.cells #[] t')) (.slice (some ⟨w.heap.size + 1, 0, none⟩) 0 0) [] := by
  have h := OutM.start (w.alloc (.cells #[] t)) B t' (by simp; omega) ht
  have e : (w.alloc (.cells #[] t)).heap.size = w.heap.size + 1 := by simp
  rw [e] at h; exact h
theorem OutM.pushW {B n : Nat} {w w2 w1 : World} {o : Obj} {v v' : Value} {m : List (List Int)} {z : List Int} {vals : List Value} {r : Option Addr} {cz cp : Nat} (hl : m.length = n) (hzl : z.length = cz)
    (ho : w.ownsRow B 24 1 v n vals) (hr : ∀ i, i < n → ∃ r c', vals[i]? = some (.slice r (rw' m i).length c') ∧ TagR B w.heap.size w r (rw' m i))
    (hz : TagR w.heap.size w2.heap.size w2 r z) (hB : B ≤ w.heap.size) (h2 : Below w.heap.size w w2) (h1 : w1.ownsRow B 24 1 v' (n + 1) (vals ++ [.slice r cz cp])) (hg : (w2.alloc o).grownBy w1 v.ownBlock) : OutM B w1 v' (m ++ [z]) := by
  subst hl hzl
  have hb : Below w2.heap.size w2 (w2.alloc o) := (Below.refl _ _).alloc (Nat.le_refl _) o
  refine OutM.push (m := m) (w := w2.alloc o) (vals := vals) ((ho.kept (below_grown h2) (by cases hv : v.ownBlock <;> simp)).alloc o) (fun i hi => ?_) (hz.below hb (Nat.le_refl _) hB hb.size) (c := cp) h1 hg
  obtain ⟨r', c', g1, g2⟩ := hr i hi
  exact ⟨r', c', g1, (g2.below h2 (Nat.le_refl _) (Nat.le_refl _) h2.size).below hb (Nat.le_refl _) (Nat.le_refl _) hb.size⟩
theorem kvec_unit {p : Int} (hp : 1 < p) (B : List (List Int)) (P : Nat → Nat) (c k : Nat) : (mkR c fun j => if k = j then 1 else 0) = kvec p B P c 0 k := mkR_congr (fun j _ => by
  rw [kv_zero]
  by_cases e : j = k
  · rw [if_pos e, if_pos e.symm]; exact (Int.emod_eq_of_lt (by omega) hp).symm
  · rw [if_neg e, if_neg (fun h => e h.symm)]; rfl)
theorem kvec_len (p : Int) (B : List (List Int)) (P : Nat → Nat) (c i k : Nat) : (kvec p B P c i k).length = c := mkR_len _ _
theorem neg_mod (p x : Int) : (p - x) % p = -x % p := by simp

set_option maxRecDepth 100000 in
set_option maxHeartbeats 6400000 in
theorem l02Kernel_any (p : Int) (a : Option Addr) (A : List (List Int)) (ca lo tp : Nat) (w : World) (hm : MatIn lo tp w a A) (ht : tp ≤ w.heap.size) (hA : Lst 1 p A) :
    Calls Try.prog 42 #[.int .i64 p, .slice a A.length ca] w (NewM (kerB p A) w) := by
  obtain ⟨i0, hi, hz0, hz1, hz2⟩ := info_parts info64
  obtain ⟨j0, kj, kz0, kz1, kz2⟩ := info_parts info_slice
  have hpb := prm_bd hA.prime
  have HP := Lib.hid hA.prime
  have HM := Lib.hid hm
  have HA := Lib.hid (lst0 hA)
  have HKL := Lib.hid (kerP_lst hA)
  have hA0 : 0 < A.length := hA.lo
  obtain ⟨b, o, r0, c0, ha, _, hb, hr0, _⟩ := HM.out.row (i := 0) hA.lo
  subst ha
  rw [Nat.add_zero] at hr0
  have c1 := hA.c0 0 hA.lo
  have c16 := hA.c1 0 hA.lo
  obtain ⟨KP, hKP⟩ : ∃ x, x = kerP p A := ⟨_, rfl⟩
  have HKP : Hid (KP = kerN p (bas p A) (pvs (bas p A)) (rw' A 0).length (bas p A).length (rw' A 0).length) := hKP
  have HKB : Hid (kerB p A = bas p KP) := by show _ = _; rw [hKP]; rfl
  rw [← hKP] at HKL
  obtain ⟨c, hcc⟩ : ∃ c, c = (rw' A 0).length := ⟨_, rfl⟩
  rw [← hcc] at hr0 c1 c16 HKP
  have HCC := Lib.hid hcc
  have hb' : b < w.heap.size := Nat.lt_of_lt_of_le hb ht
  obtain ⟨B, hB⟩ : ∃ B, B = bas p A := ⟨_, rfl⟩
  rw [← hB] at HKP
  have HBE := Lib.hid hB
  obtain ⟨n, hn⟩ : ∃ n, n = B.length := ⟨_, rfl⟩
  rw [← hn] at HKP
  have HN := Lib.hid hn
  obtain ⟨P, hP⟩ : ∃ P, P = pvs B := ⟨_, rfl⟩
  rw [← hP] at HKP
  have HPE := Lib.hid hP
  rw [HKB.out]
  clear hm hA hKP hcc hB hn hP
  have HMD := Lib.hid (HM.out.below (bdrew w) ht)
  have htd : tp ≤ w.drew.heap.size := ht
  go_enter Try.func42, Try.ntmps42
  go_wp2
  go_region_held3 (fun w' => w'.cell? ⟨b, o, none⟩ = some (.slice r0 c c0)) (first | go_keep | exact SS2.out) (first | (go_at_call 53; (with_reducible refine (basis_any p _ A _ lo tp w.drew HMD.out htd HA.out).mono ?_); rintro e w2 ⟨r2, k2, rfl, ho2, hb2, hi2⟩; rw [← HBE.out, ← HN.out]; rw [← HBE.out, ← HCC.out] at hi2; rw [← HBE.out] at ho2; have HIB := Lib.hid hi2; have HO2 : Hid (MatIn w.heap.size w2.heap.size w2 r2 B) := ho2; have HB2 : Hid (Below w.heap.size w w2) := (bdrew w).trans hb2; have SS2 : Hid (w2.cell? ⟨b, o, none⟩ = some (.slice r0 c c0)) := (HB2.out.cell (p := ⟨b, o, none⟩) hb').trans hr0; clear ho2 hb2 hi2))
  have zw2 := HB2.out.size
  have hRR : Rref p n c (at' B) P := by rw [HPE.out, HN.out]; exact HIB.out.pivs
  have HRR := Lib.hid hRR
  have hnc : n ≤ c := hRR.rows_le
  have HPF : Hid (∀ i, i < n → fstN (rw' B i) = P i) := fun i _ => by rw [HPE.out]; rfl
  have HLB : Hid (∀ i, i < n → (rw' B i).length = c) := fun i hi => HIB.out.len i (by rw [← HN.out]; exact hi)
  clear hRR
  go_wp2
  go_loopw [7, 9] (fun v t wr => ∃ i : Nat, i ≤ n ∧ t = .int .i64 i ∧ OutR w2.heap.size wr v (pvL P i) ∧ OutM w2.heap.size wr (.slice (some ⟨w2.heap.size + 1, 0, none⟩) 0 0) [] ∧ Below w2.heap.size w2 wr) (fun _ t _ => n - (intOf t).toNat)
  case atStart => exact ⟨0, Nat.zero_le _, rfl, (OutR.start w2 w2.heap.size _ (Nat.le_refl _) rfl).below (balloc _ _), OutM.start2 w2 _ _ _ (Nat.le_refl _) rfl, by ((repeat' (first | with_reducible exact Below.refl _ _ | (with_reducible refine Below.setCell ?_ ?_ _) | (with_reducible refine Below.alloc ?_ ?_ _) | (with_reducible refine Below.drew ?_))); all_goals (first | (simp; done) | omega | (simp; omega)))⟩
  case round =>
    obtain ⟨i, hi', rfl, ho, hm0, hbel⟩ := hrel
    have HO := Lib.hid ho
    have HM0 := Lib.hid hm0
    have HBEL := Lib.hid hbel
    have hwz := hbel.size
    clear ho hm0
    by_cases hlt : i < n
    · obtain ⟨b1, o1, r, c1', ha1, _, hb1, hr1, hrow⟩ := (HO2.out.below hbel (Nat.le_refl _)).row (show i < B.length by rw [← HN.out]; exact hlt)
      subst ha1
      have hcl := HLB.out i hlt
      rw [hcl] at hr1
      have HROW := Lib.hid hrow
      have hpf := HPF.out i hlt
      have hpc := HRR.out.pv i hlt
      obtain ⟨X, hX⟩ : ∃ X, X = (pvL P i).map (Value.int .i64) := ⟨_, rfl⟩
      have HX := Lib.hid hX
      have HO' : Hid (wr.ownsRow w2.heap.size 2 1 u7 i X) := by
        have := HO.out; unfold OutR at this; rw [pvL_len, ← hX] at this; exact this
      clear hX hrow hbel
      go_wp2_with (first | (go_at_call 54; (with_reducible refine (l02First_any _ (rw' B i) c (P i) _ _ _ _ HROW.out hcl (by omega) hpf hpc).mono ?_); rintro e w' ⟨rfl, rfl⟩) | (at_builtin; refine wpList_append_lies _ rfl _ _ 24 rfl w2.heap.size 2 i0 (.int .i64 0) 1 8 Try.underlying24 hi hz0 hz1 hz2 rfl (by decide) u7 i X rfl (HO'.out.alloc _) ⟨wr.heap.size, 0, none⟩ 1 1 [.int .i64 (P i)] rfl rfl (World.news_of_block (cs := #[.int .i64 (P i)]) (t := 2) (fr := (0, 0)) (heap_alloc_new wr _)) (by simp [Value.oneCell']) (by omega) (by unfold maxLen; omega) (by omega) (by simp; omega) (wr.heap.size + 1) (by simp) ?_; intro gg cap w1 hown1 hgrow hat hlt1))
      go_wp2
      go_roundw
      case rel =>
        exact ⟨i + 1, by omega, by go_num, by unfold OutR; rw [pvL_len, pvL_succ, List.map_append, ← HX.out]; exact hown1, (HM0.out.below (balloc wr _)).beside (HO'.out.alloc _) hgrow, (HBEL.out.alloc hwz _).grown hgrow (by simp; omega) (fun _ hk => (HO'.out.lt _ hk).1)⟩
      case measure => simp [intOf]; omega
    · have hin : i = n := by omega
      subst hin
      obtain ⟨a7, c7, e7, ht7⟩ := HO.out.tag
      rw [pvL_len] at e7
      subst e7
      have HT7 := Lib.hid ht7
      clear ht7 hbel
      rename World => w3
      have hmk := fun W => run_make_row' (P := Try.prog) 24 2 (.int .i64 0) 8 Try.underlying24 info64 rfl .i64 .i64 c (by omega) (by omega) W
      have HMK := Lib.hid hmk
      clear hmk
      go_wp2
      go_loopw [8, 10] (fun v t wr => ∃ k : Nat, k ≤ c ∧ t = .int .i64 k ∧ OutM w2.heap.size wr v (kerN p B P c i k) ∧ TagR w2.heap.size wr.heap.size wr a7 (pvL P i) ∧ Below w2.heap.size w2 wr) (fun _ t _ => c - (intOf t).toNat)
      case atStart => exact ⟨0, Nat.zero_le _, rfl, HM0.out, HT7.out, HBEL.out⟩
      case round =>
        obtain ⟨k, hk, rfl, ho, ht7, hbel⟩ := hrel
        have HO := Lib.hid ho
        have HT := Lib.hid ht7
        have HB := Lib.hid hbel
        have hwk := hbel.size
        rename World => wk
        clear ho ht7 hbel
        by_cases hltk : k < c
        · have hk1 : (k : Int) < (c : Int) := by omega
          cases hpv : isPv P i k with
          | true =>
            have HPV : Hid ((pvL P i).any (· == (k : Int)) = true) := by show _ = _; rw [pvL_any]; exact hpv
            have HE := Lib.hid (kerN_pv (p := p) (B := B) (c := c) hpv)
            clear hpv
            go_wp2_with (go_at_call 55; (with_reducible refine (l01Has_any a7 (pvL P i) k i _ _ _ _ HT.out.row (pvL_len _ _) (by omega)).mono ?_); rintro e w' ⟨rfl, rfl⟩; rw [HPV.out])
            go_roundw
            case rel => exact ⟨k + 1, by omega, by go_num, by rw [HE.out]; exact HO.out, HT.out, HB.out⟩
            case measure => simp [intOf]; omega
          | false =>
            have HPV : Hid ((pvL P i).any (· == (k : Int)) = false) := by show _ = _; rw [pvL_any]; exact hpv
            have HE := Lib.hid (kerN_no (p := p) (B := B) (c := c) hpv)
            have HNP : Hid (∀ j, j < i → P j ≠ k) := fun j hj => isPv_no hpv hj
            have g0 := made_cell wk (.int .i64 0) c 2 hltk
            have f0 : (wk.alloc (.cells (madeCells #[.int .i64 0] c) 2)).frozen? ⟨wk.heap.size, k, none⟩ = false := by simp [go_sem]
            have HU := Lib.hid (unit_tag wk hltk)
            have hmk := HMK.out
            clear hpv
            go_wp2_with (go_at_call 55; (with_reducible refine (l01Has_any a7 (pvL P i) k i _ _ _ _ HT.out.row (pvL_len _ _) (by omega)).mono ?_); rintro e w' ⟨rfl, rfl⟩; rw [HPV.out])
            clear hmk g0 f0
            go_loopw [12] (fun t wr => ∃ j : Nat, j ≤ i ∧ t = .int .i64 j ∧ TagR wk.heap.size wr.heap.size wr (some ⟨wk.heap.size, 0, none⟩) (kvec p B P c j k) ∧ Below wk.heap.size wk wr) (fun t _ => i - (intOf t).toNat)
            case atStart => exact ⟨0, Nat.zero_le _, rfl, by rw [← kvec_unit (by omega)]; exact HU.out, by ((repeat' (first | with_reducible exact Below.refl _ _ | (with_reducible refine Below.setCell ?_ ?_ _) | (with_reducible refine Below.alloc ?_ ?_ _) | (with_reducible refine Below.drew ?_))); all_goals (first | (simp; done) | omega | (simp; omega)))⟩
            case round =>
              obtain ⟨j, hj, rfl, htv, hbv⟩ := hrel
              have HTV := Lib.hid htv
              have HBV := Lib.hid hbv
              have hwv := hbv.size
              have HBW : Hid (Below w2.heap.size w2 wr) := HB.out.trans (hbv.mono hwk)
              clear htv hbv
              by_cases hltj : j < i
              · have hj1 : (j : Int) < (i : Int) := by omega
                obtain ⟨bp, op, hap, _, _, hcp⟩ := (HT.out.below HBV.out (Nat.le_refl _) (Nat.le_refl _) hwv).row.num (j := j) (by rw [pvL_len]; exact hltj)
                subst hap
                rw [pvL_at hltj] at hcp
                obtain ⟨bq, oq, rq, cq, haq, _, _, hrq, hrowq⟩ := (HO2.out.below HBW.out (Nat.le_refl _)).row (show j < B.length by rw [← HN.out]; exact hltj)
                cases haq
                have hcl := HLB.out j hltj
                rw [hcl] at hrq
                obtain ⟨bx, ox, hax, _, _, hcx0⟩ := hrowq.num (j := k) (by omega)
                subst hax
                obtain ⟨x0, x1⟩ := HRR.out.rng j hltj k hltk
                obtain ⟨x, hx⟩ : ∃ x, x = at' B j k := ⟨_, rfl⟩
                have hcx : wr.cell? ⟨bx, ox + k, none⟩ = some (.int .i64 x) := by rw [hx]; exact hcx0
                rw [← hx] at x0 x1
                have HST : Hid ((kvec p B P c j k).set (P j) (-x % p) = kvec p B P c (j + 1) k) := by
                  show _ = _
                  rw [hx, ← neg_mod]
                  exact kvec_next HRR.out hltj (HNP.out j hltj)
                have hpc := HRR.out.pv j hltj
                have hpc1 : (P j : Int) < (c : Int) := by omega
                obtain ⟨bv, ov, hav, _, _, hcv⟩ := HTV.out.row.num (j := P j) (by rw [kvec_len]; exact hpc)
                cases hav
                rw [Nat.zero_add] at hcv
                obtain ⟨y, hy⟩ : ∃ y, y = (kvec p B P c j k).getD (P j) 0 := ⟨_, rfl⟩
                rw [← hy] at hcv
                have hfv : wr.frozen? ⟨wk.heap.size, P j, none⟩ = false := by
                  rcases HTV.out with h | ⟨b', o', cur, e, _, _, ht, _⟩
                  · have := kvec_len p B P c j k; rw [h] at this; simp at this; omega
                  · cases e; exact free_of ht _
                have e4 : IntKind.i64.wrap (p - x) = p - x := IntWalk.i64_in _ (by omega)
                have e3 : (p - x).tmod p = -x % p := (Int.tmod_eq_emod_of_nonneg (by omega)).trans (neg_mod p x)
                have hp0 : ¬ p = 0 := by omega
                have hp1 : (p == 0) = false := by simpa using hp0
                have HTD := Lib.hid (HTV.out.below (bdrew wr) (Nat.le_refl _) (Nat.le_refl _) (Nat.le_refl _))
                clear hx hy hcx0 hrowq hcl
                go_wp2
                go_region
                go_wp2
                go_roundw
                case rel =>
                  refine ⟨j + 1, by omega, by go_num, ?_, (Below.setCell HBV.out (Nat.le_refl wk.heap.size) _).drew⟩
                  have h := HTV.out.set (j := P j) (by rw [kvec_len]; exact hpc) (-x % p)
                  rw [HST.out, Nat.zero_add] at h
                  exact h.block (Nat.le_refl _) (by simp [World.setCell]) (fun _ _ _ _ _ => rfl)
                case measure => simp [intOf]; omega
              · have hji : j = i := by omega
                subst hji
                obtain ⟨vals, hvo, hvr⟩ := HO.out
                have hkb := kerN_len p B P c j k
                obtain ⟨kl, hkl⟩ : ∃ x, x = (kerN p B P c j k).length := ⟨_, rfl⟩
                rw [← hkl] at hvo hvr hkb
                have HKN := Lib.hid hkl
                have HV := Lib.hid hvo
                have HVR := Lib.hid hvr
                have HVW := Lib.hid (hvo.kept (below_grown HBV.out) (by cases hv : Value.ownBlock u8 <;> simp))
                have HTW := Lib.hid ((HT.out.below HBV.out (Nat.le_refl _) (Nat.le_refl _) hwv))
                clear hvo hvr hkl
                go_wp2_with (at_builtin; refine wpList_append_lies _ rfl _ _ 27 rfl w2.heap.size 24 j0 (.slice none 0 0) 1 24 Try.underlying27 kj kz0 kz1 kz2 rfl (by decide) u8 kl vals rfl (HVW.out.alloc _) ⟨wr.heap.size, 0, none⟩ 1 1 [.slice (some ⟨wk.heap.size, 0, none⟩) c c] rfl rfl (World.news_of_block (cs := #[.slice (some ⟨wk.heap.size, 0, none⟩) c c]) (t := 24) (fr := (0, 0)) (heap_alloc_new wr _)) (by simp [Value.oneCell']) (by omega) (by unfold maxLen; omega) (by omega) (by simp; omega) (wr.heap.size + 1) (by simp) ?_; intro gg cap w1 hown1 hgrow hat hlt1)
                go_roundw
                case rel =>
                  exact ⟨k + 1, by omega, by go_num, by rw [HE.out]; exact OutM.pushW HKN.out.symm (kvec_len _ _ _ _ _ _) HV.out HVR.out HTV.out hwk HBV.out hown1 hgrow,
                    (TagR.push (HVW.out.alloc _) hgrow (Nat.le_refl _) (HTW.out.below (balloc wr _) (Nat.le_refl _) (Nat.le_refl _) (balloc wr _).size)).block (Nat.le_refl _) hgrow.size (fun _ _ _ _ _ => rfl),
                    ((HB.out.trans (HBV.out.mono hwk)).alloc (by omega) _).grown hgrow (by simp; omega) (fun _ hk => (HV.out.lt _ hk).1)⟩
                case measure => simp [intOf]; omega
        · have hkc : k = c := by omega
          subst hkc
          obtain ⟨a8, c8, e8, hm8⟩ := HO.out.mat
          subst e8
          have HM8 := Lib.hid hm8
          have HE : Hid (kerN p B P k i k = KP) := by show _ = _; exact HKP.out.symm
          rw [HE.out] at HM8 ⊢
          clear hm8
          go_wp2_with (first | (go_at_call 53; (with_reducible refine (basis_any p a8 KP c8 w2.heap.size wk.heap.size wk HM8.out (Nat.le_refl _) HKL.out).mono ?_); rintro e w5 ⟨r5, k5, rfl, ho5, hb5, hi5⟩; have HO5 := Lib.hid ho5; have HB5 := Lib.hid hb5; have HS5 := Lib.hid (bas_small HKL.out hi5); have z5 := hb5.size; clear ho5 hb5 hi5) | (go_at_call 56; (with_reducible refine (l01Own2_any _ (bas p KP) _ wk.heap.size w5.heap.size _ HO5.out (Nat.le_refl _) HS5.out.1 HS5.out.2).mono ?_); rintro e w6 ⟨r6, k6, rfl, ho6, hb6⟩; have HO6 := Lib.hid ho6; have HB6 := Lib.hid hb6; clear ho6 hb6))
          go_ret
          exact ⟨_, _, rfl, HO6.out.mono (by omega) (Nat.le_refl _), ((HB2.out.trans (HB.out.mono zw2)).trans (HB5.out.mono (by omega))).trans (HB6.out.mono (by omega))⟩

end Go.Proofs.Ytdfkpbmccmbjmaa
