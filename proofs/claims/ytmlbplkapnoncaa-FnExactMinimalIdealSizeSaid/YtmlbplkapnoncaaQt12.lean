/-
  Where a number stands in a list, and whether it does: l01Index, l01Has, l02First in the model, slices.Index and slices.Contains in the program.
  Conditions: the list is nil or a row of known cells, of at most 1048576 numbers.
  DiscriminantOf and IsRegular: contracts of the program and of the model.
  Conditions: the lists are nil or rows of known cells, of at most 1048576 numbers.
  DualOf, UndualOf, MeetOf: contracts of the program and of the model.
  Conditions: the lists are nil or rows of known cells, of at most 1048576 numbers.
  What square roots of numbers are, in the program and in the model: contracts of the method root and of the model's helper.
  Conditions: the prime is one, the number is a remainder by it.
-/
import Derived.Test.YtmlbplkapnoncaaQt11
import Derived.Test.YtmlbplkapnoncaaQt1
import Derived.Test.YtmlbplkapnoncaaQt10
import Derived.Deep.RegionHeld3
import Derived.Deep.DeepCutAuto
import Derived.Test.YtmlbplkapnoncaaQt9
import Derived.RegionTactic
import Derived.Laws.StructEq
import Derived.Outline
namespace Go.Proofs.Ytmlbplkapnoncaa
open Go.RowKit
set_option linter.unusedVariables false

/-- The first place of a number. -/
def isAt (z : List Int) (x : Int) (k : Nat) : Prop := k < z.length ∧ (∀ j, j < k → z.getD j 0 ≠ x) ∧ z.getD k 0 = x
theorem isAt_cases (z : List Int) (x : Int) : (∃ k, isAt z x k ∧ z.any (· == x) = true) ∨ ((∀ j, j < z.length → z.getD j 0 ≠ x) ∧ z.any (· == x) = false) := by
  by_cases h : z.findIdx (· == x) < z.length
  · left
    have h1 := List.findIdx_getElem (xs := z) (p := (· == x)) (w := h)
    refine ⟨z.findIdx (· == x), ⟨h, fun j hj e => ?_, ?_⟩, ?_⟩
    · have h2 := List.not_of_lt_findIdx hj
      have hj' : j < z.length := by omega
      simp [List.getD, hj'] at e
      simp [e] at h2
    · simpa [List.getD, h] using h1
    · exact List.any_eq_true.2 ⟨_, List.getElem_mem h, h1⟩
  · right
    have h2 : ∀ y ∈ z, (y == x) = false := fun y hy => by
      have h3 : z.findIdx (· == x) = z.length := Nat.le_antisymm List.findIdx_le_length (by omega)
      simpa using List.findIdx_eq_length.1 h3 y hy
    refine ⟨fun j hj e => ?_, ?_⟩
    · have := h2 (z.getD j 0) (by simp [List.getD, hj])
      rw [e] at this; simp at this
    · simpa using h2

set_option maxHeartbeats 800000 in
theorem index64_yes (a : Option Addr) (z : List Int) (x : Int) (n k ca lo tp : Nat) (w : World) (hz : RowIn lo tp w a z) (hn : z.length = n) (hl : n ≤ 1048576) (hk : isAt z x k) :
    Calls Try.prog 164 #[.slice a n ca, .int .i64 x] w fun e w' => e = .returned (.int .i64 k) ∧ w = w' := by
  subst hn
  have HZ := Lib.hid hz
  have HK := Lib.hid hk
  clear hz hk
  go_enter Try.func164, Try.ntmps164
  go_wp2
  go_loop [8] (fun t => ∃ i : Nat, i ≤ k ∧ t = .int .i64 i) (fun t => z.length - (intOf t).toNat)
  case atStart => exact ⟨0, Nat.zero_le _, rfl⟩
  case round =>
    obtain ⟨i, hi, rfl⟩ := hrel
    have hkl := HK.out.1
    have hi1 : (i : Int) < (z.length : Int) := by omega
    obtain ⟨b1, o1, ha1, _, _, hc1⟩ := HZ.out.num (by omega : i < z.length)
    subst ha1
    by_cases e : i = k
    · subst e
      rw [HK.out.2.2] at hc1
      go_wp2
      go_ret
      exact ⟨rfl, rfl⟩
    · have h2 := HK.out.2.1 i (by omega)
      obtain ⟨y, hy⟩ : ∃ y, y = z.getD i 0 := ⟨_, rfl⟩
      rw [← hy] at hc1 h2
      have e1 : (y == x) = false := by simpa using h2
      have e2 : (x == y) = false := by simpa using fun e : x = y => h2 e.symm
      clear hy h2
      go_wp2
      go_round
      case rel => exact ⟨i + 1, by omega, by go_num⟩
      case measure => simp [intOf]; omega

set_option maxHeartbeats 800000 in
theorem index64_no (a : Option Addr) (z : List Int) (x : Int) (n ca lo tp : Nat) (w : World) (hz : RowIn lo tp w a z) (hn : z.length = n) (hl : n ≤ 1048576) (hk : ∀ j, j < z.length → z.getD j 0 ≠ x) :
    Calls Try.prog 164 #[.slice a n ca, .int .i64 x] w fun e w' => e = .returned (.int .i64 (-1)) ∧ w = w' := by
  subst hn
  have HZ := Lib.hid hz
  have HK := Lib.hid hk
  clear hz hk
  go_enter Try.func164, Try.ntmps164
  go_wp2
  go_loop [8] (fun t => ∃ i : Nat, i ≤ z.length ∧ t = .int .i64 i) (fun t => z.length - (intOf t).toNat)
  case atStart => exact ⟨0, Nat.zero_le _, rfl⟩
  case round =>
    obtain ⟨i, hi, rfl⟩ := hrel
    by_cases hlt : i < z.length
    · have hi1 : (i : Int) < (z.length : Int) := by omega
      obtain ⟨b1, o1, ha1, _, _, hc1⟩ := HZ.out.num hlt
      subst ha1
      have h2 := HK.out i hlt
      obtain ⟨y, hy⟩ : ∃ y, y = z.getD i 0 := ⟨_, rfl⟩
      rw [← hy] at hc1 h2
      have e1 : (y == x) = false := by simpa using h2
      have e2 : (x == y) = false := by simpa using fun e : x = y => h2 e.symm
      clear hy h2
      go_wp2
      go_round
      case rel => exact ⟨i + 1, by omega, by go_num⟩
      case measure => simp [intOf]; omega
    · have hn : i = z.length := by omega
      subst hn
      go_wp2
      go_ret
      exact ⟨rfl, rfl⟩

set_option maxHeartbeats 800000 in
theorem contains64_any (a : Option Addr) (z : List Int) (x : Int) (n ca lo tp : Nat) (w : World) (hz : RowIn lo tp w a z) (hn : z.length = n) (hl : n ≤ 1048576) :
    Calls Try.prog 148 #[.slice a n ca, .int .i64 x] w fun e w' => e = .returned (.bool (z.any (· == x))) ∧ w = w' := by
  have HZ := Lib.hid hz
  clear hz
  rcases isAt_cases z x with ⟨k, hk, he⟩ | ⟨hk, he⟩
  · have HK := Lib.hid hk
    have hk2 : k ≤ 1048576 := by have := hk.1; omega
    rw [he]
    clear hk he
    go_enter Try.func148, Try.ntmps148
    go_wp2_with (go_at_call 164; (with_reducible refine (index64_yes _ z x _ k _ lo tp _ HZ.out hn hl HK.out).mono ?_); rintro e w1 ⟨rfl, rfl⟩)
    go_ret
    exact ⟨rfl, rfl⟩
  · have HK := Lib.hid hk
    rw [he]
    clear hk he
    go_enter Try.func148, Try.ntmps148
    go_wp2_with (go_at_call 164; (with_reducible refine (index64_no _ z x _ _ lo tp _ HZ.out hn hl HK.out).mono ?_); rintro e w1 ⟨rfl, rfl⟩)
    go_ret
    exact ⟨rfl, rfl⟩

end Go.Proofs.Ytmlbplkapnoncaa

namespace Go.Proofs.Ytmlbplkapnoncaa
open Go.RowKit
set_option linter.unusedVariables false

theorem mul_zero_iff {p a b : Int} (hp : prm p = true) (a0 : 0 ≤ a) (a1 : a < p) (b0 : 0 ≤ b) (b1 : b < p) : a * b % p = 0 ↔ a = 0 ∨ b = 0 := by
  have := every2_at (Q := fun p a b => decide (a * b % p = 0 ↔ a = 0 ∨ b = 0)) (by decide +kernel) hp a0 a1 b0 b1
  exact of_decide_eq_true this
theorem disN_zero {p : Int} {S : List Int} (hp : prm p = true) {i : Nat} (h : ∀ j, j < i → 0 ≤ S.getD j 0 ∧ S.getD j 0 < p) : disN p S i = 0 ↔ ∃ j, j < i ∧ S.getD j 0 = 0 := by
  induction i with
  | zero => simp [disN]
  | succ i ih =>
    have b := disN_bd hp S i
    have c := h i (by omega)
    show disN p S i * S.getD i 0 % p = 0 ↔ _
    rw [mul_zero_iff hp b.1 b.2 c.1 c.2, ih (fun j hj => h j (by omega))]
    constructor
    · rintro (⟨j, h1, h2⟩ | h1)
      · exact ⟨j, by omega, h2⟩
      · exact ⟨i, by omega, h1⟩
    · rintro ⟨j, h1, h2⟩
      by_cases e : j = i
      · subst e; exact .inr h2
      · exact .inl ⟨j, by omega, h2⟩
theorem disc_any {p : Int} {S : List Int} (hs : isSp p S = true) : S.any (· == 0) = !(discN p S != 0) := by
  have K := isSp_iff.1 hs
  have e := disN_zero K.prime (i := S.length) (fun j hj => K.num hj)
  rcases isAt_cases S 0 with ⟨k, hk, he⟩ | ⟨hk, he⟩
  · rw [he]
    have : discN p S = 0 := e.2 ⟨k, hk.1, hk.2.2⟩
    simp [this]
  · rw [he]
    have : discN p S ≠ 0 := fun h => by obtain ⟨j, h1, h2⟩ := e.1 h; exact hk j h1 h2
    simp [this]

theorem isRegular_any (pS : Int) (aS : Option Addr) (S : List Int) (cS loS tpS : Nat) (w : World)
    (hS : RowIn loS tpS w aS S) (tS : tpS ≤ w.heap.size) (hs : isSp pS S = true) :
    Calls Try.prog 121 #[.agg #[.int .i64 pS, .slice aS S.length cS]] w fun e w' => e = .returned (.bool (discN pS S != 0)) ∧ Below w.heap.size w w' := by
  have HS := Lib.hid hS
  have HD := Lib.hid (disc_any hs)
  have hl := (isSp_iff.1 hs).hi
  clear hS hs
  go_enter Try.func121, Try.ntmps121
  go_wp2_with (first | (go_at_call 148; (with_reducible refine (contains64_any aS S 0 _ cS loS tpS _ (HS.out.below ((Below.refl _ _).alloc (Nat.le_refl _) (.cells #[.int .i64 pS, .slice aS S.length cS] 28)) tS) rfl (by omega)).mono ?_); rintro e w' ⟨rfl, rfl⟩; rw [HD.out]))
  go_ret
  exact ⟨by simp, ((Below.refl _ _).alloc (Nat.le_refl _) (.cells #[.int .i64 pS, .slice aS S.length cS] 28))⟩

end Go.Proofs.Ytmlbplkapnoncaa

namespace Go.Proofs.Ytmlbplkapnoncaa
open Go.RowKit
set_option linter.unusedVariables false

theorem l01Root_any (p a : Int) (w : World) (hp : prm p = true) (a0 : 0 ≤ a) (a1 : a < p) :
    Calls Try.prog 85 #[.int .i64 p, .int .i64 a] w fun e w' => e = .returned (.int .i64 (rt p a)) ∧ w = w' := by
  have hb := prm_bd hp
  obtain ⟨v0, v1⟩ := rtEnd_bd hp a0 a1
  have HP := Lib.hid hp
  clear hp
  go_enter Try.func85, Try.ntmps85
  go_wp2
  go_loop [5] (fun t => ∃ r : Int, 0 ≤ r ∧ r ≤ rtEnd p a ∧ t = .int .i64 r) (fun t => (rtEnd p a - intOf t).toNat)
  case atStart => exact ⟨0, by omega, by omega, rfl⟩
  case round =>
    obtain ⟨r, r0, r1, rfl⟩ := hrel
    by_cases hlt : r < p
    · obtain ⟨m0, m1⟩ := mul_bd HP.out r0 hlt r0 hlt
      obtain ⟨q0, q1⟩ := mod_bd HP.out (r * r)
      have hi := rt_iff HP.out a0 a1 r0 hlt r1
      by_cases hq : r = rt p a
      · have ht := hi.2 hq
        have HQ := Lib.hid hq
        clear hi hq
        go_wp2
        go_ret
        exact ⟨by rw [← HQ.out]; rfl, rfl⟩
      · have ht : ¬ r * r % p = a := fun h => hq (hi.1 h)
        have hr1 : r + 1 ≤ rtEnd p a := by
          have h1 := rt_bd HP.out a0 a1
          unfold rtEnd at r1 v0 v1 ⊢
          split at r1 <;> omega
        clear hi
        go_wp2
        go_round
        case rel => exact ⟨r + 1, by omega, by omega, rfl⟩
        case measure => simp [intOf]; omega
    · have HQ : Hid (rt p a = -1) := by
        show rt p a = -1
        have h1 := rt_bd HP.out a0 a1
        unfold rtEnd at r1
        split at r1 <;> omega
      go_wp2
      go_ret
      exact ⟨by rw [HQ.out]; rfl, rfl⟩

/-- What the method root hands back: the prime and the value of the root (0 and 0 if there is none), and whether there is one. -/
def rtP (p a : Int) : Int := if rt p a < 0 then 0 else p
def rtV (p a : Int) : Int := if rt p a < 0 then 0 else rt p a
def rtB (p a : Int) : Bool := decide (0 ≤ rt p a)
theorem rt_yes {p a : Int} (h : 0 ≤ rt p a) : rtP p a = p ∧ rtV p a = rt p a ∧ rtB p a = true := by
  have h1 : ¬ rt p a < 0 := by omega
  simp [rtP, rtV, rtB, h, h1]
theorem rt_no {p a : Int} (h : rt p a < 0) : rtP p a = 0 ∧ rtV p a = 0 ∧ rtB p a = false := by
  have h1 : ¬ 0 ≤ rt p a := by omega
  simp [rtP, rtV, rtB, h]

set_option maxHeartbeats 1600000 in
theorem root_any (p a : Int) (w : World) (hp : prm p = true) (a0 : 0 ≤ a) (a1 : a < p) :
    Calls Try.prog 93 #[.agg #[.int .i64 p, .int .i64 a]] w fun e w' => e = .returned (.tuple #[.agg #[.int .i64 (rtP p a), .int .i64 (rtV p a)], .bool (rtB p a)]) ∧ Below w.heap.size w w' := by
  have hb := prm_bd hp
  obtain ⟨v0, v1⟩ := rtEnd_bd hp a0 a1
  have HP := Lib.hid hp
  clear hp
  go_enter Try.func93, Try.ntmps93
  go_wp2
  go_loopw [8] (fun t wr => ∃ r : Int, 0 ≤ r ∧ r ≤ rtEnd p a ∧ t = .int .i64 r ∧ NumAt wr w.heap.size p a ∧ NumAt wr (w.heap.size + 1) 0 0 ∧ Below w.heap.size w wr ∧ w.heap.size + 2 ≤ wr.heap.size) (fun t _ => (rtEnd p a - intOf t).toNat)
  case atStart => exact ⟨0, by omega, by omega, rfl, (numAt_new w p a _).alloc (by simp) _, numAt_new1 w _ 0 0 _, by ((repeat' (first | with_reducible exact Below.refl _ _ | (with_reducible refine Below.setCell ?_ ?_ _) | (with_reducible refine Below.alloc ?_ ?_ _) | (with_reducible refine Below.drew ?_))); all_goals (first | (simp; done) | omega | (simp; omega))), by simp⟩
  case round =>
    obtain ⟨r, r0, r1, rfl, n0, n1, hbel, hz⟩ := hrel
    by_cases hlt : r < p
    · obtain ⟨q0, q1⟩ := mod_bd HP.out (r * r)
      have hi := rt_iff HP.out a0 a1 r0 hlt r1
      have N0 := Lib.hid n0
      have z0 : w.heap.size < wr.heap.size := by omega
      have z1 : w.heap.size + 1 < wr.heap.size := by omega
      obtain ⟨g00, g01, k00, k01⟩ := n0
      by_cases hq : r = rt p a
      · have ht := hi.2 hq
        have HR : Hid (rtP p a = p ∧ rtV p a = r ∧ rtB p a = true) := by
          obtain ⟨h1, h2, h3⟩ := rt_yes (p := p) (a := a) (by omega)
          exact ⟨h1, h2.trans hq.symm, h3⟩
        clear hi hq
        go_wp2
        go_region_with (go_at_call 125; refine (times_any p r r _ HP.out r0 hlt r0 hlt).mono ?_; rintro e w1 ⟨rfl, hb1⟩; obtain ⟨e0, e1, h0, h1⟩ := (N0.out.alloc (by omega) _).drew.keep hb1 (by simp; omega); obtain ⟨x0, x1, y0, y1⟩ := (numAt_new wr p r _).drew.keep hb1 (by simp); obtain ⟨s0, s1, t0, t1⟩ := (n1.alloc (by omega) _).drew.keep hb1 (by simp; omega))
        all_goals
          go_wp2
          refine bodyPost_ret (v := .tuple #[.agg #[.int .i64 p, .int .i64 r], .bool true]) (by simp [results, Try.results93, go_sem, s0, s1]) rfl ⟨by rw [HR.out.1, HR.out.2.1, HR.out.2.2], ?_⟩
          (have hs_hb1 := hb1.size; have hs_hbel := hbel.size; (repeat' (first | with_reducible exact Below.refl _ _ | (with_reducible refine Below.setCell ?_ ?_ _) | (with_reducible refine Below.alloc ?_ ?_ _) | (with_reducible refine Below.drew ?_) | (with_reducible refine below_step ?_ ?_ hb1) | (with_reducible refine below_step ?_ ?_ hbel))); all_goals (first | (simp; done) | omega | (simp; omega) | (simp at hs_hb1 hs_hbel ⊢; omega)))
      · have ht : ¬ r * r % p = a := fun h => hq (hi.1 h)
        have hr1 : r + 1 ≤ rtEnd p a := by
          have h1 := rt_bd HP.out a0 a1
          unfold rtEnd at r1 v0 v1 ⊢
          split at r1 <;> omega
        clear hi
        have N1 := Lib.hid n1
        clear n1
        go_wp2
        go_region_with (go_at_call 125; refine (times_any p r r _ HP.out r0 hlt r0 hlt).mono ?_; rintro e w1 ⟨rfl, hb1⟩; obtain ⟨e0, e1, h0, h1⟩ := (N0.out.alloc (by omega) _).drew.keep hb1 (by simp; omega); obtain ⟨x0, x1, y0, y1⟩ := (numAt_new wr p r _).drew.keep hb1 (by simp); obtain ⟨s0, s1, t0, t1⟩ := (N1.out.alloc (by omega) _).drew.keep hb1 (by simp; omega))
        all_goals
          go_wp2
          go_roundw
          case rel =>
            have hs1 := hb1.size
            simp at hs1
            exact ⟨r + 1, by omega, by omega, rfl, ⟨e0, e1, h0, h1⟩, ⟨s0, s1, t0, t1⟩, by (have hs_hb1 := hb1.size; have hs_hbel := hbel.size; (repeat' (first | with_reducible exact Below.refl _ _ | (with_reducible refine Below.setCell ?_ ?_ _) | (with_reducible refine Below.alloc ?_ ?_ _) | (with_reducible refine Below.drew ?_) | (with_reducible refine below_step ?_ ?_ hb1) | (with_reducible refine below_step ?_ ?_ hbel))); all_goals (first | (simp; done) | omega | (simp; omega) | (simp at hs_hb1 hs_hbel ⊢; omega))), by omega⟩
          case measure => simp [intOf]; omega
    · have HR : Hid (rtP p a = 0 ∧ rtV p a = 0 ∧ rtB p a = false) := by
        refine rt_no (p := p) (a := a) ?_
        have h1 := rt_bd HP.out a0 a1
        unfold rtEnd at r1
        split at r1 <;> omega
      obtain ⟨s0, s1, t0, t1⟩ := n1
      go_wp2
      refine bodyPost_ret (v := .tuple #[.agg #[.int .i64 0, .int .i64 0], .bool false]) (by simp [results, Try.results93, go_sem, s0, s1]) rfl ⟨by rw [HR.out.1, HR.out.2.1, HR.out.2.2], ?_⟩
      (have hs_hbel := hbel.size; (repeat' (first | with_reducible exact Below.refl _ _ | (with_reducible refine Below.setCell ?_ ?_ _) | (with_reducible refine Below.alloc ?_ ?_ _) | (with_reducible refine Below.drew ?_) | (with_reducible refine below_step ?_ ?_ hbel))); all_goals (first | (simp; done) | omega | (simp; omega) | (simp at hs_hbel ⊢; omega)))

end Go.Proofs.Ytmlbplkapnoncaa
