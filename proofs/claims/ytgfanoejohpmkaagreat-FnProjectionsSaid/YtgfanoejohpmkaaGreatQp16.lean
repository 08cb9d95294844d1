/-
  Contracts and facts that the walk of the law rests on.
  Conditions: those that each theorem names.
-/
import Derived.Test.YtgfanoejohpmkaaGreatQp15
import Derived.Test.YtgfanoejohpmkaaGreatQp1
import Derived.Test.YtgfanoejohpmkaaGreatQp10
import Derived.Test.YtgfanoejohpmkaaGreatQp14
namespace Go.Proofs.YtgfanoejohpmkaaGreat
open Go.RowKit
set_option linter.unusedVariables false
def isAt (z : List Int) (x : Int) (k : Nat) : Prop := k < z.length ∧ (∀ j, j < k → z.getD j 0 ≠ x) ∧ z.getD k 0 = x
theorem isAt_cases (z : List Int) (x : Int) : (∃ k, isAt z x k ∧ z.any (· == x) = true) ∨ ((∀ j, j < z.length → z.getD j 0 ≠ x) ∧ z.any (· == x) = false) := by
 by_cases h : z.findIdx (· == x) < z.length
 · left
   have h1 := List.findIdx_getElem (xs := z) (p := (· == x)) (w := h)
   refine ⟨z.findIdx (· == x), ⟨h, fun j hj e => ?_, ?_⟩, ?_⟩
   · have h2 := List.not_of_lt_findIdx hj
     have hj' : j < z.length := by omega
     simp [List.getD, hj'] at e
     simp [e] at h2
   · simpa [List.getD, h] using h1
   · exact List.any_eq_true.2 ⟨_, List.getElem_mem h, h1⟩
 · right
   have h2 : ∀ y ∈ z, (y == x) = false := fun y hy => by
    have h3 : z.findIdx (· == x) = z.length := Nat.le_antisymm List.findIdx_le_length (by omega)
    simpa using List.findIdx_eq_length.1 h3 y hy
   refine ⟨fun j hj e => ?_, ?_⟩
   · have := h2 (z.getD j 0) (by simp [List.getD, hj])
     rw [e] at this; simp at this
   · simpa using h2
set_option maxHeartbeats 800000 in
theorem l01Index_yes (a : Option Addr) (z : List Int) (x : Int) (n k ca lo tp : Nat) (w : World) (hz : RowIn lo tp w a z) (hn : z.length = n) (hl : n ≤ 1048576) (hk : isAt z x k) :
 Calls Tryz.prog 266 #[.slice a n ca, .int .i64 x] w fun e w' => e = .returned (.int .i64 k) ∧ w = w' := by
 subst hn
 have HZ := Lib.hid hz
 have HK := Lib.hid hk
 clear hz hk
 go_enter Tryz.func266, Tryz.ntmps266
 go_wp2
 go_loop [5] (fun t => ∃ i : Nat, i ≤ k ∧ t = .int .i64 i) (fun t => z.length - (intOf t).toNat)
 case atStart => exact ⟨0, Nat.zero_le _, rfl⟩
 case round =>
  obtain ⟨i, hi, rfl⟩ := hrel
  have hkl := HK.out.1
  have hi1 : (i : Int) < (z.length : Int) := by omega
  obtain ⟨b1, o1, ha1, _, _, hc1⟩ := HZ.out.num (by omega : i < z.length)
  subst ha1
  by_cases e : i = k
  · subst e
    rw [HK.out.2.2] at hc1
    go_wp2
    go_ret
    exact ⟨rfl, rfl⟩
  · have h2 := HK.out.2.1 i (by omega)
    obtain ⟨y, hy⟩ : ∃ y, y = z.getD i 0 := ⟨_, rfl⟩
    rw [← hy] at hc1 h2
    have e1 : (y == x) = false := by simpa using h2
    have e2 : (x == y) = false := by simpa using fun e : x = y => h2 e.symm
    clear hy h2
    go_wp2
    go_round
    case rel => exact ⟨i + 1, by omega, by go_num⟩
    case measure => simp [intOf]; omega
set_option maxHeartbeats 800000 in
theorem l01Index_no (a : Option Addr) (z : List Int) (x : Int) (n ca lo tp : Nat) (w : World) (hz : RowIn lo tp w a z) (hn : z.length = n) (hl : n ≤ 1048576) (hk : ∀ j, j < z.length → z.getD j 0 ≠ x) :
 Calls Tryz.prog 266 #[.slice a n ca, .int .i64 x] w fun e w' => e = .returned (.int .i64 (-1)) ∧ w = w' := by
 subst hn
 have HZ := Lib.hid hz
 have HK := Lib.hid hk
 clear hz hk
 go_enter Tryz.func266, Tryz.ntmps266
 go_wp2
 go_loop [5] (fun t => ∃ i : Nat, i ≤ z.length ∧ t = .int .i64 i) (fun t => z.length - (intOf t).toNat)
 case atStart => exact ⟨0, Nat.zero_le _, rfl⟩
 case round =>
  obtain ⟨i, hi, rfl⟩ := hrel
  by_cases hlt : i < z.length
  · have hi1 : (i : Int) < (z.length : Int) := by omega
    obtain ⟨b1, o1, ha1, _, _, hc1⟩ := HZ.out.num hlt
    subst ha1
    have h2 := HK.out i hlt
    obtain ⟨y, hy⟩ : ∃ y, y = z.getD i 0 := ⟨_, rfl⟩
    rw [← hy] at hc1 h2
    have e1 : (y == x) = false := by simpa using h2
    have e2 : (x == y) = false := by simpa using fun e : x = y => h2 e.symm
    clear hy h2
    go_wp2
    go_round
    case rel => exact ⟨i + 1, by omega, by go_num⟩
    case measure => simp [intOf]; omega
  · have hn : i = z.length := by omega
    subst hn
    go_wp2
    go_ret
    exact ⟨rfl, rfl⟩
set_option maxHeartbeats 800000 in
theorem l01Has_any (a : Option Addr) (z : List Int) (x : Int) (n ca lo tp : Nat) (w : World) (hz : RowIn lo tp w a z) (hn : z.length = n) (hl : n ≤ 1048576) :
 Calls Tryz.prog 249 #[.slice a n ca, .int .i64 x] w fun e w' => e = .returned (.bool (z.any (· == x))) ∧ w = w' := by
 have HZ := Lib.hid hz
 clear hz
 rcases isAt_cases z x with ⟨k, hk, he⟩ | ⟨hk, he⟩
 · have HK := Lib.hid hk
   have hk2 : k ≤ 1048576 := by have := hk.1; omega
   rw [he]
   clear hk he
   go_enter Tryz.func249, Tryz.ntmps249
   go_wp2_with (go_at_call 266; (with_reducible refine (l01Index_yes _ z x _ k _ lo tp _ HZ.out hn hl HK.out).mono ?_); rintro e w1 ⟨rfl, rfl⟩)
   go_ret
   exact ⟨rfl, rfl⟩
 · have HK := Lib.hid hk
   rw [he]
   clear hk he
   go_enter Tryz.func249, Tryz.ntmps249
   go_wp2_with (go_at_call 266; (with_reducible refine (l01Index_no _ z x _ _ lo tp _ HZ.out hn hl HK.out).mono ?_); rintro e w1 ⟨rfl, rfl⟩)
   go_ret
   exact ⟨rfl, rfl⟩
set_option maxHeartbeats 800000 in
theorem indexI_yes (a : Option Addr) (z : List Int) (x : Int) (n k ca lo tp : Nat) (w : World) (hz : RowIn lo tp w a z) (hn : z.length = n) (hl : n ≤ 1048576) (hk : isAt z x k) :
 Calls Tryz.prog 254 #[.slice a n ca, .int .i64 x] w fun e w' => e = .returned (.int .i64 k) ∧ w = w' := by
 subst hn
 have HZ := Lib.hid hz
 have HK := Lib.hid hk
 clear hz hk
 go_enter Tryz.func254, Tryz.ntmps254
 go_wp2
 go_loop [8] (fun t => ∃ i : Nat, i ≤ k ∧ t = .int .i64 i) (fun t => z.length - (intOf t).toNat)
 case atStart => exact ⟨0, Nat.zero_le _, rfl⟩
 case round =>
  obtain ⟨i, hi, rfl⟩ := hrel
  have hkl := HK.out.1
  have hi1 : (i : Int) < (z.length : Int) := by omega
  obtain ⟨b1, o1, ha1, _, _, hc1⟩ := HZ.out.num (by omega : i < z.length)
  subst ha1
  by_cases e : i = k
  · subst e
    rw [HK.out.2.2] at hc1
    go_wp2
    go_ret
    exact ⟨rfl, rfl⟩
  · have h2 := HK.out.2.1 i (by omega)
    obtain ⟨y, hy⟩ : ∃ y, y = z.getD i 0 := ⟨_, rfl⟩
    rw [← hy] at hc1 h2
    have e1 : (y == x) = false := by simpa using h2
    have e2 : (x == y) = false := by simpa using fun e : x = y => h2 e.symm
    clear hy h2
    go_wp2
    go_round
    case rel => exact ⟨i + 1, by omega, by go_num⟩
    case measure => simp [intOf]; omega
set_option maxHeartbeats 800000 in
theorem indexI_no (a : Option Addr) (z : List Int) (x : Int) (n ca lo tp : Nat) (w : World) (hz : RowIn lo tp w a z) (hn : z.length = n) (hl : n ≤ 1048576) (hk : ∀ j, j < z.length → z.getD j 0 ≠ x) :
 Calls Tryz.prog 254 #[.slice a n ca, .int .i64 x] w fun e w' => e = .returned (.int .i64 (-1)) ∧ w = w' := by
 subst hn
 have HZ := Lib.hid hz
 have HK := Lib.hid hk
 clear hz hk
 go_enter Tryz.func254, Tryz.ntmps254
 go_wp2
 go_loop [8] (fun t => ∃ i : Nat, i ≤ z.length ∧ t = .int .i64 i) (fun t => z.length - (intOf t).toNat)
 case atStart => exact ⟨0, Nat.zero_le _, rfl⟩
 case round =>
  obtain ⟨i, hi, rfl⟩ := hrel
  by_cases hlt : i < z.length
  · have hi1 : (i : Int) < (z.length : Int) := by omega
    obtain ⟨b1, o1, ha1, _, _, hc1⟩ := HZ.out.num hlt
    subst ha1
    have h2 := HK.out i hlt
    obtain ⟨y, hy⟩ : ∃ y, y = z.getD i 0 := ⟨_, rfl⟩
    rw [← hy] at hc1 h2
    have e1 : (y == x) = false := by simpa using h2
    have e2 : (x == y) = false := by simpa using fun e : x = y => h2 e.symm
    clear hy h2
    go_wp2
    go_round
    case rel => exact ⟨i + 1, by omega, by go_num⟩
    case measure => simp [intOf]; omega
  · have hn : i = z.length := by omega
    subst hn
    go_wp2
    go_ret
    exact ⟨rfl, rfl⟩
set_option maxHeartbeats 800000 in
theorem containsI_any (a : Option Addr) (z : List Int) (x : Int) (n ca lo tp : Nat) (w : World) (hz : RowIn lo tp w a z) (hn : z.length = n) (hl : n ≤ 1048576) :
 Calls Tryz.prog 229 #[.slice a n ca, .int .i64 x] w fun e w' => e = .returned (.bool (z.any (· == x))) ∧ w = w' := by
 have HZ := Lib.hid hz
 clear hz
 rcases isAt_cases z x with ⟨k, hk, he⟩ | ⟨hk, he⟩
 · have HK := Lib.hid hk
   have hk2 : k ≤ 1048576 := by have := hk.1; omega
   rw [he]
   clear hk he
   go_enter Tryz.func229, Tryz.ntmps229
   go_wp2_with (go_at_call 254; (with_reducible refine (indexI_yes _ z x _ k _ lo tp _ HZ.out hn hl HK.out).mono ?_); rintro e w1 ⟨rfl, rfl⟩)
   go_ret
   exact ⟨rfl, rfl⟩
 · have HK := Lib.hid hk
   rw [he]
   clear hk he
   go_enter Tryz.func229, Tryz.ntmps229
   go_wp2_with (go_at_call 254; (with_reducible refine (indexI_no _ z x _ _ lo tp _ HZ.out hn hl HK.out).mono ?_); rintro e w1 ⟨rfl, rfl⟩)
   go_ret
   exact ⟨rfl, rfl⟩
set_option maxHeartbeats 800000 in
theorem index64_yes (a : Option Addr) (z : List Int) (x : Int) (n k ca lo tp : Nat) (w : World) (hz : RowIn lo tp w a z) (hn : z.length = n) (hl : n ≤ 1048576) (hk : isAt z x k) :
 Calls Tryz.prog 240 #[.slice a n ca, .int .i64 x] w fun e w' => e = .returned (.int .i64 k) ∧ w = w' := by
 subst hn
 have HZ := Lib.hid hz
 have HK := Lib.hid hk
 clear hz hk
 go_enter Tryz.func240, Tryz.ntmps240
 go_wp2
 go_loop [8] (fun t => ∃ i : Nat, i ≤ k ∧ t = .int .i64 i) (fun t => z.length - (intOf t).toNat)
 case atStart => exact ⟨0, Nat.zero_le _, rfl⟩
 case round =>
  obtain ⟨i, hi, rfl⟩ := hrel
  have hkl := HK.out.1
  have hi1 : (i : Int) < (z.length : Int) := by omega
  obtain ⟨b1, o1, ha1, _, _, hc1⟩ := HZ.out.num (by omega : i < z.length)
  subst ha1
  by_cases e : i = k
  · subst e
    rw [HK.out.2.2] at hc1
    go_wp2
    go_ret
    exact ⟨rfl, rfl⟩
  · have h2 := HK.out.2.1 i (by omega)
    obtain ⟨y, hy⟩ : ∃ y, y = z.getD i 0 := ⟨_, rfl⟩
    rw [← hy] at hc1 h2
    have e1 : (y == x) = false := by simpa using h2
    have e2 : (x == y) = false := by simpa using fun e : x = y => h2 e.symm
    clear hy h2
    go_wp2
    go_round
    case rel => exact ⟨i + 1, by omega, by go_num⟩
    case measure => simp [intOf]; omega
set_option maxHeartbeats 800000 in
theorem index64_no (a : Option Addr) (z : List Int) (x : Int) (n ca lo tp : Nat) (w : World) (hz : RowIn lo tp w a z) (hn : z.length = n) (hl : n ≤ 1048576) (hk : ∀ j, j < z.length → z.getD j 0 ≠ x) :
 Calls Tryz.prog 240 #[.slice a n ca, .int .i64 x] w fun e w' => e = .returned (.int .i64 (-1)) ∧ w = w' := by
 subst hn
 have HZ := Lib.hid hz
 have HK := Lib.hid hk
 clear hz hk
 go_enter Tryz.func240, Tryz.ntmps240
 go_wp2
 go_loop [8] (fun t => ∃ i : Nat, i ≤ z.length ∧ t = .int .i64 i) (fun t => z.length - (intOf t).toNat)
 case atStart => exact ⟨0, Nat.zero_le _, rfl⟩
 case round =>
  obtain ⟨i, hi, rfl⟩ := hrel
  by_cases hlt : i < z.length
  · have hi1 : (i : Int) < (z.length : Int) := by omega
    obtain ⟨b1, o1, ha1, _, _, hc1⟩ := HZ.out.num hlt
    subst ha1
    have h2 := HK.out i hlt
    obtain ⟨y, hy⟩ : ∃ y, y = z.getD i 0 := ⟨_, rfl⟩
    rw [← hy] at hc1 h2
    have e1 : (y == x) = false := by simpa using h2
    have e2 : (x == y) = false := by simpa using fun e : x = y => h2 e.symm
    clear hy h2
    go_wp2
    go_round
    case rel => exact ⟨i + 1, by omega, by go_num⟩
    case measure => simp [intOf]; omega
  · have hn : i = z.length := by omega
    subst hn
    go_wp2
    go_ret
    exact ⟨rfl, rfl⟩
set_option maxHeartbeats 800000 in
theorem contains64_any (a : Option Addr) (z : List Int) (x : Int) (n ca lo tp : Nat) (w : World) (hz : RowIn lo tp w a z) (hn : z.length = n) (hl : n ≤ 1048576) :
 Calls Tryz.prog 181 #[.slice a n ca, .int .i64 x] w fun e w' => e = .returned (.bool (z.any (· == x))) ∧ w = w' := by
 have HZ := Lib.hid hz
 clear hz
 rcases isAt_cases z x with ⟨k, hk, he⟩ | ⟨hk, he⟩
 · have HK := Lib.hid hk
   have hk2 : k ≤ 1048576 := by have := hk.1; omega
   rw [he]
   clear hk he
   go_enter Tryz.func181, Tryz.ntmps181
   go_wp2_with (go_at_call 240; (with_reducible refine (index64_yes _ z x _ k _ lo tp _ HZ.out hn hl HK.out).mono ?_); rintro e w1 ⟨rfl, rfl⟩)
   go_ret
   exact ⟨rfl, rfl⟩
 · have HK := Lib.hid hk
   rw [he]
   clear hk he
   go_enter Tryz.func181, Tryz.ntmps181
   go_wp2_with (go_at_call 240; (with_reducible refine (index64_no _ z x _ _ lo tp _ HZ.out hn hl HK.out).mono ?_); rintro e w1 ⟨rfl, rfl⟩)
   go_ret
   exact ⟨rfl, rfl⟩
set_option maxHeartbeats 800000 in
theorem l02First_any (a : Option Addr) (z : List Int) (n k ca lo tp : Nat) (w : World) (hz : RowIn lo tp w a z) (hn : z.length = n) (hl : n ≤ 1048576) (hk : fstN z = k) (hk2 : k < n) :
 Calls Tryz.prog 144 #[.slice a n ca] w fun e w' => e = .returned (.int .i64 k) ∧ w = w' := by
 subst hn
 have HZ := Lib.hid hz
 have HK := Lib.hid hk
 have HL : Hid (∀ j, j < k → z.getD j 0 = 0) := fun j hj => by
  rw [← hk] at hj
  have h2 := List.not_of_lt_findIdx hj
  have hj' : j < z.length := by omega
  simp [List.getD, hj']
  simpa using h2
 have HG : Hid (z.getD k 0 ≠ 0) := by
  show _
  have := fstN_lt (z := z) (by omega)
  rwa [hk] at this
 clear hz hk
 go_enter Tryz.func144, Tryz.ntmps144
 go_wp2
 go_loop [3] (fun t => ∃ i : Nat, i ≤ k ∧ t = .int .i64 i) (fun t => z.length - (intOf t).toNat)
 case atStart => exact ⟨0, Nat.zero_le _, rfl⟩
 case round =>
  obtain ⟨i, hi, rfl⟩ := hrel
  have hi1 : (i : Int) < (z.length : Int) := by omega
  obtain ⟨b1, o1, ha1, _, _, hc1⟩ := HZ.out.num (by omega : i < z.length)
  subst ha1
  by_cases e : i = k
  · subst e
    have h3 := HG.out
    obtain ⟨y, hy⟩ : ∃ y, y = z.getD i 0 := ⟨_, rfl⟩
    rw [← hy] at hc1 h3
    have e1 : (y != 0) = true := by simpa using h3
    have e2 : (y == 0) = false := by simpa using h3
    clear hy h3
    go_wp2
    go_ret
    exact ⟨rfl, rfl⟩
  · rw [HL.out i (by omega)] at hc1
    go_wp2
    go_round
    case rel => exact ⟨i + 1, by omega, by go_num⟩
    case measure => simp [intOf]; omega
theorem any_pivs (P : Nat → Nat) (n k : Nat) : ((List.range n).map fun i => (P i : Int)).any (· == (k : Int)) = isPv P n k := by
 unfold isPv
 rw [List.any_map]
 congr 1
 funext i
 show ((P i : Int) == (k : Int)) = (P i == k)
 by_cases e : P i = k
 · subst e; rw [beq_self_eq_true, beq_self_eq_true]
 · have h : ¬ (P i : Int) = (k : Int) := by omega
   rw [beq_eq_false_iff_ne.2 e, beq_eq_false_iff_ne.2 h]
def regV (p : Int) (S : List Int) : Bool := if isSp p S = true then discN p S != 0 else false
theorem mul_zero_iff {p a b : Int} (hp : prm p = true) (a0 : 0 ≤ a) (a1 : a < p) (b0 : 0 ≤ b) (b1 : b < p) : a * b % p = 0 ↔ a = 0 ∨ b = 0 := by
 have := every2_at (Q := fun p a b => decide (a * b % p = 0 ↔ a = 0 ∨ b = 0)) (by decide +kernel) hp a0 a1 b0 b1
 exact of_decide_eq_true this
theorem disN_zero {p : Int} {S : List Int} (hp : prm p = true) {i : Nat} (h : ∀ j, j < i → 0 ≤ S.getD j 0 ∧ S.getD j 0 < p) : disN p S i = 0 ↔ ∃ j, j < i ∧ S.getD j 0 = 0 := by
 induction i with
 | zero => simp [disN]
 | succ i ih =>
  have b := disN_bd hp S i
  have c := h i (by omega)
  show disN p S i * S.getD i 0 % p = 0 ↔ _
  rw [mul_zero_iff hp b.1 b.2 c.1 c.2, ih (fun j hj => h j (by omega))]
  constructor
  · rintro (⟨j, h1, h2⟩ | h1)
    · exact ⟨j, by omega, h2⟩
    · exact ⟨i, by omega, h1⟩
  · rintro ⟨j, h1, h2⟩
    by_cases e : j = i
    · subst e; exact .inr h2
    · exact .inl ⟨j, by omega, h2⟩
theorem disc_any {p : Int} {S : List Int} (hs : isSp p S = true) : S.any (· == 0) = !(discN p S != 0) := by
 have K := isSp_iff.1 hs
 have e := disN_zero K.prime (i := S.length) (fun j hj => K.num hj)
 rcases isAt_cases S 0 with ⟨k, hk, he⟩ | ⟨hk, he⟩
 · rw [he]
   have : discN p S = 0 := e.2 ⟨k, hk.1, hk.2.2⟩
   simp [this]
 · rw [he]
   have : discN p S ≠ 0 := fun h => by obtain ⟨j, h1, h2⟩ := e.1 h; exact hk j h1 h2
   simp [this]
theorem isRegular_any (pS : Int) (aS : Option Addr) (S : List Int) (cS loS tpS : Nat) (w : World)
 (hS : RowIn loS tpS w aS S) (tS : tpS ≤ w.heap.size) (hs : isSp pS S = true) :
 Calls Tryz.prog 90 #[.agg #[.int .i64 pS, .slice aS S.length cS]] w fun e w' => e = .returned (.bool (discN pS S != 0)) ∧ Below w.heap.size w w' := by
 have HS := Lib.hid hS
 have HD := Lib.hid (disc_any hs)
 have hl := (isSp_iff.1 hs).hi
 clear hS hs
 go_enter Tryz.func90, Tryz.ntmps90
 go_wp2_with (first | (go_at_call 181; (with_reducible refine (contains64_any aS S 0 _ cS loS tpS _ (HS.out.below ((Below.refl _ _).alloc (Nat.le_refl _) (.cells #[.int .i64 pS, .slice aS S.length cS] 26)) tS) rfl (by omega)).mono ?_); rintro e w' ⟨rfl, rfl⟩; rw [HD.out]))
 go_ret
 exact ⟨by simp, ((Below.refl _ _).alloc (Nat.le_refl _) (.cells #[.int .i64 pS, .slice aS S.length cS] 26))⟩
set_option maxRecDepth 100000 in
set_option maxHeartbeats 1600000 in
theorem impl_IsRegular (pS : Int) (aS : Option Addr) (S : List Int) (cS loS tpS : Nat) (w : World) (hS : RowIn loS tpS w aS S) (tS : tpS ≤ w.heap.size) (sS : S.length ≤ 1048576) :
 Calls Tryz.prog 45 #[.agg #[.int .i64 pS, .slice aS S.length cS]] w (RetB (regV pS S) (code1 pS S) w) := by
 have HS := Lib.hid hS
 clear hS
 by_cases hi : isSp pS S = true
 · have HI := Lib.hid hi
   have HC := Lib.hid (code1_yes hi)
   have HV : Hid (regV pS S = (discN pS S != 0)) := by show _ = _; unfold regV; rw [if_pos hi]
   clear hi
   go_enter Tryz.func45, Tryz.ntmps45
   go_wp2_with (first | (go_at_call 138; (with_reducible refine (checkSp1 pS aS S cS loS tpS _ (w.heap.size + 1) _ _ (by simp) (HS.out.below ((Below.refl _ _).alloc (Nat.le_refl _) (.cells #[.int .i64 pS, .slice aS S.length cS] 26)) tS) (Nat.le_trans tS (((Below.refl _ _).alloc (Nat.le_refl _) (.cells #[.int .i64 pS, .slice aS S.length cS] 26))).size) sS).mono ?_); rintro e w3 ⟨rfl, b3⟩; rw [HC.out]; have B3 := Lib.hid b3; have K3_0_0 := (b3.cell (p := ⟨w.heap.size, 0, none⟩) (Nat.lt_of_lt_of_le (show w.heap.size < (w.alloc (.cells #[.int .i64 pS, .slice aS S.length cS] 26)).heap.size by simp) (Nat.le_trans (Nat.le_refl _) (size_alloc (w.alloc (.cells #[.int .i64 pS, .slice aS S.length cS] 26)) (.cells #[.int .i64 pS, .slice aS S.length cS] 26))))).trans (show ((w.alloc (.cells #[.int .i64 pS, .slice aS S.length cS] 26)).alloc (.cells #[.int .i64 pS, .slice aS S.length cS] 26)).cell? ⟨w.heap.size, 0, none⟩ = some (.int .i64 pS) from (World.cell?_alloc_old _ _ _ (by simp)).trans (by simp [go_sem])); have K3_0_1 := (b3.cell (p := ⟨w.heap.size, 1, none⟩) (Nat.lt_of_lt_of_le (show w.heap.size < (w.alloc (.cells #[.int .i64 pS, .slice aS S.length cS] 26)).heap.size by simp) (Nat.le_trans (Nat.le_refl _) (size_alloc (w.alloc (.cells #[.int .i64 pS, .slice aS S.length cS] 26)) (.cells #[.int .i64 pS, .slice aS S.length cS] 26))))).trans (show ((w.alloc (.cells #[.int .i64 pS, .slice aS S.length cS] 26)).alloc (.cells #[.int .i64 pS, .slice aS S.length cS] 26)).cell? ⟨w.heap.size, 1, none⟩ = some (.slice aS S.length cS) from (World.cell?_alloc_old _ _ _ (by simp)).trans (by simp [go_sem])); clear b3) | (go_at_call 90; (with_reducible refine (isRegular_any pS aS S cS loS tpS _ (HS.out.below (below_step (((Below.refl _ _).alloc (Nat.le_refl _) (.cells #[.int .i64 pS, .slice aS S.length cS] 26)).alloc (show w.heap.size ≤ (w.alloc (.cells #[.int .i64 pS, .slice aS S.length cS] 26)).heap.size from (((Below.refl _ _).alloc (Nat.le_refl _) (.cells #[.int .i64 pS, .slice aS S.length cS] 26))).size) (.cells #[.int .i64 pS, .slice aS S.length cS] 26)) (show w.heap.size ≤ ((w.alloc (.cells #[.int .i64 pS, .slice aS S.length cS] 26)).alloc (.cells #[.int .i64 pS, .slice aS S.length cS] 26)).heap.size from ((((Below.refl _ _).alloc (Nat.le_refl _) (.cells #[.int .i64 pS, .slice aS S.length cS] 26)).alloc (show w.heap.size ≤ (w.alloc (.cells #[.int .i64 pS, .slice aS S.length cS] 26)).heap.size from (((Below.refl _ _).alloc (Nat.le_refl _) (.cells #[.int .i64 pS, .slice aS S.length cS] 26))).size) (.cells #[.int .i64 pS, .slice aS S.length cS] 26))).size) B3.out) tS) (Nat.le_trans tS ((below_step (((Below.refl _ _).alloc (Nat.le_refl _) (.cells #[.int .i64 pS, .slice aS S.length cS] 26)).alloc (show w.heap.size ≤ (w.alloc (.cells #[.int .i64 pS, .slice aS S.length cS] 26)).heap.size from (((Below.refl _ _).alloc (Nat.le_refl _) (.cells #[.int .i64 pS, .slice aS S.length cS] 26))).size) (.cells #[.int .i64 pS, .slice aS S.length cS] 26)) (show w.heap.size ≤ ((w.alloc (.cells #[.int .i64 pS, .slice aS S.length cS] 26)).alloc (.cells #[.int .i64 pS, .slice aS S.length cS] 26)).heap.size from ((((Below.refl _ _).alloc (Nat.le_refl _) (.cells #[.int .i64 pS, .slice aS S.length cS] 26)).alloc (show w.heap.size ≤ (w.alloc (.cells #[.int .i64 pS, .slice aS S.length cS] 26)).heap.size from (((Below.refl _ _).alloc (Nat.le_refl _) (.cells #[.int .i64 pS, .slice aS S.length cS] 26))).size) (.cells #[.int .i64 pS, .slice aS S.length cS] 26))).size) B3.out)).size) HI.out).mono ?_); rintro e w4 ⟨rfl, b4⟩; have B4 := Lib.hid b4; have K4_0_0 := (b4.cell (p := ⟨w.heap.size, 0, none⟩) (Nat.lt_of_lt_of_le (show w.heap.size < (w.alloc (.cells #[.int .i64 pS, .slice aS S.length cS] 26)).heap.size by simp) (Nat.le_trans (Nat.le_trans (Nat.le_refl _) (size_alloc (w.alloc (.cells #[.int .i64 pS, .slice aS S.length cS] 26)) (.cells #[.int .i64 pS, .slice aS S.length cS] 26))) B3.out.size))).trans K3_0_0; clear K3_0_0; have K4_0_1 := (b4.cell (p := ⟨w.heap.size, 1, none⟩) (Nat.lt_of_lt_of_le (show w.heap.size < (w.alloc (.cells #[.int .i64 pS, .slice aS S.length cS] 26)).heap.size by simp) (Nat.le_trans (Nat.le_trans (Nat.le_refl _) (size_alloc (w.alloc (.cells #[.int .i64 pS, .slice aS S.length cS] 26)) (.cells #[.int .i64 pS, .slice aS S.length cS] 26))) B3.out.size))).trans K3_0_1; clear K3_0_1; clear b4))
   go_ret2
   exact ⟨by rw [HV.out, HC.out]; rfl, (below_step (below_step (((Below.refl _ _).alloc (Nat.le_refl _) (.cells #[.int .i64 pS, .slice aS S.length cS] 26)).alloc (show w.heap.size ≤ (w.alloc (.cells #[.int .i64 pS, .slice aS S.length cS] 26)).heap.size from (((Below.refl _ _).alloc (Nat.le_refl _) (.cells #[.int .i64 pS, .slice aS S.length cS] 26))).size) (.cells #[.int .i64 pS, .slice aS S.length cS] 26)) (show w.heap.size ≤ ((w.alloc (.cells #[.int .i64 pS, .slice aS S.length cS] 26)).alloc (.cells #[.int .i64 pS, .slice aS S.length cS] 26)).heap.size from ((((Below.refl _ _).alloc (Nat.le_refl _) (.cells #[.int .i64 pS, .slice aS S.length cS] 26)).alloc (show w.heap.size ≤ (w.alloc (.cells #[.int .i64 pS, .slice aS S.length cS] 26)).heap.size from (((Below.refl _ _).alloc (Nat.le_refl _) (.cells #[.int .i64 pS, .slice aS S.length cS] 26))).size) (.cells #[.int .i64 pS, .slice aS S.length cS] 26))).size) B3.out) (show w.heap.size ≤ w3.heap.size from ((below_step (((Below.refl _ _).alloc (Nat.le_refl _) (.cells #[.int .i64 pS, .slice aS S.length cS] 26)).alloc (show w.heap.size ≤ (w.alloc (.cells #[.int .i64 pS, .slice aS S.length cS] 26)).heap.size from (((Below.refl _ _).alloc (Nat.le_refl _) (.cells #[.int .i64 pS, .slice aS S.length cS] 26))).size) (.cells #[.int .i64 pS, .slice aS S.length cS] 26)) (show w.heap.size ≤ ((w.alloc (.cells #[.int .i64 pS, .slice aS S.length cS] 26)).alloc (.cells #[.int .i64 pS, .slice aS S.length cS] 26)).heap.size from ((((Below.refl _ _).alloc (Nat.le_refl _) (.cells #[.int .i64 pS, .slice aS S.length cS] 26)).alloc (show w.heap.size ≤ (w.alloc (.cells #[.int .i64 pS, .slice aS S.length cS] 26)).heap.size from (((Below.refl _ _).alloc (Nat.le_refl _) (.cells #[.int .i64 pS, .slice aS S.length cS] 26))).size) (.cells #[.int .i64 pS, .slice aS S.length cS] 26))).size) B3.out)).size) B4.out)⟩
 · have HI : Hid (isSp pS S = false) := by show _ = _; simpa using hi
   have HC := Lib.hid (code1_no (by simpa using hi : isSp pS S = false))
   have HV : Hid (regV pS S = false) := by show _ = _; unfold regV; rw [if_neg hi]
   clear hi
   go_enter Tryz.func45, Tryz.ntmps45
   go_wp2_with (first | (go_at_call 138; (with_reducible refine (checkSp1 pS aS S cS loS tpS _ (w.heap.size + 1) _ _ (by simp) (HS.out.below ((Below.refl _ _).alloc (Nat.le_refl _) (.cells #[.int .i64 pS, .slice aS S.length cS] 26)) tS) (Nat.le_trans tS (((Below.refl _ _).alloc (Nat.le_refl _) (.cells #[.int .i64 pS, .slice aS S.length cS] 26))).size) sS).mono ?_); rintro e w3 ⟨rfl, b3⟩; rw [HC.out]; have B3 := Lib.hid b3; have K3_0_0 := (b3.cell (p := ⟨w.heap.size, 0, none⟩) (Nat.lt_of_lt_of_le (show w.heap.size < (w.alloc (.cells #[.int .i64 pS, .slice aS S.length cS] 26)).heap.size by simp) (Nat.le_trans (Nat.le_refl _) (size_alloc (w.alloc (.cells #[.int .i64 pS, .slice aS S.length cS] 26)) (.cells #[.int .i64 pS, .slice aS S.length cS] 26))))).trans (show ((w.alloc (.cells #[.int .i64 pS, .slice aS S.length cS] 26)).alloc (.cells #[.int .i64 pS, .slice aS S.length cS] 26)).cell? ⟨w.heap.size, 0, none⟩ = some (.int .i64 pS) from (World.cell?_alloc_old _ _ _ (by simp)).trans (by simp [go_sem])); have K3_0_1 := (b3.cell (p := ⟨w.heap.size, 1, none⟩) (Nat.lt_of_lt_of_le (show w.heap.size < (w.alloc (.cells #[.int .i64 pS, .slice aS S.length cS] 26)).heap.size by simp) (Nat.le_trans (Nat.le_refl _) (size_alloc (w.alloc (.cells #[.int .i64 pS, .slice aS S.length cS] 26)) (.cells #[.int .i64 pS, .slice aS S.length cS] 26))))).trans (show ((w.alloc (.cells #[.int .i64 pS, .slice aS S.length cS] 26)).alloc (.cells #[.int .i64 pS, .slice aS S.length cS] 26)).cell? ⟨w.heap.size, 1, none⟩ = some (.slice aS S.length cS) from (World.cell?_alloc_old _ _ _ (by simp)).trans (by simp [go_sem])); clear b3))
   go_ret2
   exact ⟨by rw [HV.out, HC.out]; rfl, (below_step (((Below.refl _ _).alloc (Nat.le_refl _) (.cells #[.int .i64 pS, .slice aS S.length cS] 26)).alloc (show w.heap.size ≤ (w.alloc (.cells #[.int .i64 pS, .slice aS S.length cS] 26)).heap.size from (((Below.refl _ _).alloc (Nat.le_refl _) (.cells #[.int .i64 pS, .slice aS S.length cS] 26))).size) (.cells #[.int .i64 pS, .slice aS S.length cS] 26)) (show w.heap.size ≤ ((w.alloc (.cells #[.int .i64 pS, .slice aS S.length cS] 26)).alloc (.cells #[.int .i64 pS, .slice aS S.length cS] 26)).heap.size from ((((Below.refl _ _).alloc (Nat.le_refl _) (.cells #[.int .i64 pS, .slice aS S.length cS] 26)).alloc (show w.heap.size ≤ (w.alloc (.cells #[.int .i64 pS, .slice aS S.length cS] 26)).heap.size from (((Below.refl _ _).alloc (Nat.le_refl _) (.cells #[.int .i64 pS, .slice aS S.length cS] 26))).size) (.cells #[.int .i64 pS, .slice aS S.length cS] 26))).size) B3.out)⟩
def kp (κ a b : Nat) : Bool := if κ = 0 then a &&& b == 0 else if κ = 1 then a &&& b == a else a &&& b == b
def tk (p : Int) (S : List Int) (κ : Nat) (x y : List Int) (c a : Nat) : Int := if kp κ a (a ^^^ c) = true then tm p S x y c a else 0
def kF (p : Int) (S : List Int) (κ : Nat) (x y : List Int) (c : Nat) : Int := sm (bl S) (tk p S κ x y c) % p
def kM (p : Int) (S : List Int) (κ : Nat) (x y : List Int) : List Int := mkR (bl S) (kF p S κ x y)
theorem kM_len (p : Int) (S : List Int) (κ : Nat) (x y : List Int) : (kM p S κ x y).length = bl S := mkR_len _ _
theorem kM_at (p : Int) (S : List Int) (κ : Nat) (x y : List Int) {c : Nat} (hc : c < bl S) : (kM p S κ x y).getD c 0 = kF p S κ x y c := mkR_at _ hc
theorem kF_bd {p : Int} (hp : 0 < p) (S : List Int) (κ : Nat) (x y : List Int) (c : Nat) : 0 ≤ kF p S κ x y c ∧ kF p S κ x y c < p := ⟨Int.emod_nonneg _ (by omega), Int.emod_lt_of_pos _ hp⟩
theorem tk_yes {p : Int} {S : List Int} {κ : Nat} {x y : List Int} {a b : Nat} (h : kp κ a b = true) : tk p S κ x y (a ^^^ b) a = tm p S x y (a ^^^ b) a := by unfold tk; rw [xor_back, if_pos h]
theorem tk_no {p : Int} {S : List Int} {κ : Nat} {x y : List Int} {a b : Nat} (h : kp κ a b = false) : tk p S κ x y (a ^^^ b) a = 0 := by unfold tk; rw [xor_back, if_neg (by simp [h])]
def pk (p : Int) (S : List Int) (κ : Nat) (x y : List Int) (i k c : Nat) : Int := (sm i (tk p S κ x y c) + if i ^^^ c < k then tk p S κ x y c i else 0) % p
theorem pk_bd {p : Int} (hp : 0 < p) (S : List Int) (κ : Nat) (x y : List Int) (i k c : Nat) : 0 ≤ pk p S κ x y i k c ∧ pk p S κ x y i k c < p := ⟨Int.emod_nonneg _ (by omega), Int.emod_lt_of_pos _ hp⟩
theorem pk_start (p : Int) (S : List Int) (κ : Nat) (x y : List Int) (i c : Nat) : pk p S κ x y i 0 c = sm i (tk p S κ x y c) % p := by
 unfold pk; rw [if_neg (Nat.not_lt_zero _), Int.add_zero]
theorem pk_end (p : Int) (S : List Int) (κ : Nat) (x y : List Int) {i c : Nat} (hi : i < bl S) (hc : c < bl S) : pk p S κ x y i (bl S) c = sm (i + 1) (tk p S κ x y c) % p := by
 unfold pk; rw [if_pos (show i ^^^ c < bl S from Nat.xor_lt_two_pow hi hc)]; rfl
theorem pk_skip {p : Int} {S : List Int} {κ : Nat} {x y : List Int} {i k : Nat} (h : kp κ i k = false) (c : Nat) : pk p S κ x y i k c = pk p S κ x y i (k + 1) c := by
 unfold pk
 by_cases e : i ^^^ c = k
 · have e2 : c = i ^^^ k := by rw [← e, xor_back]
   rw [if_neg (by omega), if_pos (by omega), e2, tk_no h]
 · by_cases e2 : i ^^^ c < k
   · rw [if_pos e2, if_pos (by omega)]
   · rw [if_neg e2, if_neg (by omega)]
theorem pk_here (p : Int) (S : List Int) (κ : Nat) (x y : List Int) (i k : Nat) : pk p S κ x y i k (i ^^^ k) = sm i (tk p S κ x y (i ^^^ k)) % p := by
 unfold pk; rw [xor_back, if_neg (Nat.lt_irrefl _), Int.add_zero]
theorem pk_put (p : Int) (S : List Int) (κ : Nat) (x y : List Int) {i k : Nat} (hk : kp κ i k = true) {v : Int} (hv : v = (pk p S κ x y i k (i ^^^ k) + x.getD i 0 * y.getD k 0 % p * fm p S i k S.length) % p) (c : Nat) : (if c = i ^^^ k then v else pk p S κ x y i k c) = pk p S κ x y i (k + 1) c := by
 by_cases e : c = i ^^^ k
 · rw [if_pos e, hv, e, pk_here]
   unfold pk
   rw [xor_back, if_pos (Nat.lt_succ_self k), tk_yes hk]
   unfold tm
   rw [xor_back, Int.add_emod, em_l, Int.emod_emod, ← Int.add_emod]
   congr 2
   rw [Int.mul_assoc, Int.mul_assoc, Int.mul_comm (y.getD k 0)]
 · rw [if_neg e]
   have e3 : ¬ i ^^^ c = k := fun h => e (by rw [← h, xor_back])
   unfold pk
   by_cases e2 : i ^^^ c < k
   · rw [if_pos e2, if_pos (by omega)]
   · rw [if_neg e2, if_neg (by omega)]
theorem and_64 {a b : Nat} (ha : a < 64) (hb : b < 64) : bits .and .i64 (a : Int) (b : Int) = ((a &&& b : Nat) : Int) := by
 have h : ∀ a : Nat, a < 64 → ∀ b : Nat, b < 64 → bits .and .i64 (a : Int) (b : Int) = ((a &&& b : Nat) : Int) := by decide +kernel
 exact h a ha b hb
theorem beq_nat (a b : Nat) : ((a : Int) == (b : Int)) = (a == b) := by
 by_cases h : a = b
 · subst h; simp
 · have h2 : ¬ (a : Int) = (b : Int) := by omega
   rw [beq_eq_false_iff_ne.2 h2, beq_eq_false_iff_ne.2 h]
theorem bne_nat (a b : Nat) : ((a : Int) != (b : Int)) = !(a == b) := by unfold bne; rw [beq_nat]
theorem beq_nat0 (a : Nat) : ((a : Int) == 0) = (a == 0) := beq_nat a 0
theorem bne_nat0 (a : Nat) : ((a : Int) != 0) = !(a == 0) := bne_nat a 0
end Go.Proofs.YtgfanoejohpmkaaGreat