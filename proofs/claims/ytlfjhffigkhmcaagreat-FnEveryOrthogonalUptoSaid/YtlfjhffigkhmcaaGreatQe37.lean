/-
  slices.EqualFunc of lists of rows, the rows compared by slices.Equal.
  Conditions: rows of rows of known cells, at most 1024 rows of at most 1048576 numbers.
  IsMatrix, in the program and in the model.
  Conditions: the matrix is nil or a row of rows of known cells.
  The program's search among the pivots: a contract.
-/
import Derived.Test.YtlfjhffigkhmcaaGreatQe14
import Derived.Test.YtlfjhffigkhmcaaGreatQe2
import Derived.Test.YtlfjhffigkhmcaaGreatQe17
import Derived.Test.YtlfjhffigkhmcaaGreatQe33
import Derived.BigQuiet
import Derived.Deep.QuietTactic
import Derived.Deep.Draws
namespace Go.Proofs.YtlfjhffigkhmcaaGreat
open Go.RowKit
set_option linter.unusedVariables false

set_option maxRecDepth 100000 in
set_option maxHeartbeats 1600000 in
theorem equalF_any (a b : Option Addr) (A B : List (List Int)) (ca cb lo tp lo' tp' : Nat) (w : World) (ha : MatIn lo tp w a A) (ta : tp ≤ w.heap.size) (hb : MatIn lo' tp' w b B) (tb : tp' ≤ w.heap.size) (sa : A.length ≤ 1024) (sr : ∀ i, i < A.length → (rw' A i).length ≤ 1048576) :
    Calls Tryz.prog 60 #[.slice a A.length ca, .slice b B.length cb, .func (.func 62) #[] #[]] w fun e w' => e = .returned (.bool (decide (A = B))) ∧ Quiet w w' := by
  have HA := Lib.hid ha
  have HB := Lib.hid hb
  have HSR := Lib.hid sr
  clear ha hb sr
  by_cases hl : A.length = B.length
  · have HL := Lib.hid hl
    obtain ⟨n, hn⟩ : ∃ n, n = A.length := ⟨_, rfl⟩
    have HN := Lib.hid hn
    rw [← hl]
    rw [← hn] at sa ⊢
    clear hl hn
    go_enter Tryz.func60, Tryz.ntmps60
    go_wp2
    go_loopw [17] (fun t wr => ∃ i : Nat, i ≤ n ∧ t = .int .i64 i ∧ (∀ j, j < i → rw' A j = rw' B j) ∧ Quiet w wr) (fun t _ => n - (intOf t).toNat)
    case atStart => exact ⟨0, Nat.zero_le _, rfl, fun j hj => absurd hj (Nat.not_lt_zero _), Quiet.refl _⟩
    case round =>
      obtain ⟨i, hi, rfl, hall, hq⟩ := hrel
      have HQ := Lib.hid hq
      have HALL := Lib.hid hall
      by_cases hlt : i < n
      · have bq := hq.below w.heap.size
        obtain ⟨b1, o1, r1, k1, ha1, _, _, hc1, hr1⟩ := (HA.out.below bq ta).row (show i < A.length by rw [← HN.out]; exact hlt)
        obtain ⟨b2, o2, r2, k2, ha2, _, _, hc2, hr2⟩ := (HB.out.below bq tb).row (show i < B.length by rw [← HL.out, ← HN.out]; exact hlt)
        subst ha1
        subst ha2
        have hi1 : (i : Int) < (n : Int) := by omega
        have HR1 := Lib.hid hr1
        have HR2 := Lib.hid hr2
        have hs1 : (rw' A i).length ≤ 1048576 := HSR.out i (by rw [← HN.out]; exact hlt)
        clear hr1 hr2 hall hq bq
        by_cases hxy : rw' A i = rw' B i
        · have HD : Hid (decide (rw' A i = rw' B i) = true) := decide_eq_true hxy
          have HXY := Lib.hid hxy
          clear hxy
          go_wp2_with (go_at_call 62; ((with_reducible refine (equal_any r1 r2 (rw' A i) (rw' B i) k1 k2 lo tp lo' tp' wr HR1.out HR2.out hs1).mono ?_); rintro e w1 ⟨rfl, q_⟩; rw [HD.out]; have HQ1 := Lib.hid (HQ.out.trans q_); clear q_))
          go_roundw
          case rel => exact ⟨i + 1, by omega, by go_num, fun j hj => by
            by_cases e : j = i
            · subst e; exact HXY.out
            · exact HALL.out j (by omega), HQ1.out⟩
          case measure => (simp [intOf] <;> omega)
        · have HD : Hid (decide (rw' A i = rw' B i) = false) := decide_eq_false hxy
          have HR : Hid (decide (A = B) = false) := decide_eq_false fun e => hxy (by rw [e])
          clear hxy
          go_wp2_with (go_at_call 62; ((with_reducible refine (equal_any r1 r2 (rw' A i) (rw' B i) k1 k2 lo tp lo' tp' wr HR1.out HR2.out hs1).mono ?_); rintro e w1 ⟨rfl, q_⟩; rw [HD.out]; have HQ1 := Lib.hid (HQ.out.trans q_); clear q_))
          go_ret
          exact ⟨by rw [HR.out]; rfl, HQ1.out⟩
      · have hin : i = n := by omega
        subst hin
        have HR : Hid (decide (A = B) = true) := decide_eq_true (mat_ext HL.out (fun j hj => hall j (by rw [HN.out]; exact hj)))
        clear hall hq
        go_wp2
        go_ret
        exact ⟨by rw [HR.out]; rfl, HQ.out⟩
  · have HR : Hid (decide (A = B) = false) := decide_eq_false fun e => hl (by rw [e])
    obtain ⟨n, hn⟩ : ∃ n, n = A.length := ⟨_, rfl⟩
    obtain ⟨m, hm⟩ : ∃ m, m = B.length := ⟨_, rfl⟩
    rw [← hn, ← hm] at hl ⊢
    have hl2 : ((n : Int) != (m : Int)) = true := by simp; omega
    go_enter Tryz.func60, Tryz.ntmps60
    go_wp2
    go_ret
    exact ⟨by rw [HR.out]; rfl, Quiet.refl _⟩

end Go.Proofs.YtlfjhffigkhmcaaGreat

namespace Go.Proofs.YtlfjhffigkhmcaaGreat
open Go.RowKit
set_option linter.unusedVariables false

theorem impl_IsMatrix (p : Int) (a : Option Addr) (m : List (List Int)) (cap lo tp : Nat) (w : World) (hm : MatIn lo tp w a m) (ht : tp ≤ w.heap.size) (hs : m.length + tot m m.length ≤ 1048576) :
    Calls Tryz.prog 59 #[.int .i64 p, .slice a m.length cap] w (Ret1 (isM p m) w) := by
  have HM := Lib.hid hm
  have HS := Lib.hid hs
  clear hm hs
  go_enter Tryz.func59, Tryz.ntmps59
  go_wp2_with (go_at_call 81; (with_reducible refine (isRows_one _ _ _ _ lo tp _ HM.out HS.out).mono ?_); rintro e w1 ⟨rfl, rfl⟩)
  go_ret
  exact ⟨rfl, Below.refl _ _⟩

end Go.Proofs.YtlfjhffigkhmcaaGreat

namespace Go.Proofs.YtlfjhffigkhmcaaGreat
open Go.RowKit Go.ChangeShapes Go.WideShapes
set_option linter.unusedVariables false

/-- A readable list of n places. -/
def IntsIn (lo tp : Nat) (w : World) (a : Option Addr) (n : Nat) (P : Nat → Nat) : Prop :=
  n = 0 ∨ ∃ b o, a = some ⟨b, o, none⟩ ∧ lo ≤ b ∧ b < tp ∧ ∀ j, j < n → w.cell? ⟨b, o + j, none⟩ = some (.int .i64 (P j))
theorem IntsIn.at {lo tp : Nat} {w : World} {a : Option Addr} {n : Nat} {P : Nat → Nat} (h : IntsIn lo tp w a n P) {j : Nat} (hj : j < n) : ∃ b o, a = some ⟨b, o, none⟩ ∧ lo ≤ b ∧ b < tp ∧ w.cell? ⟨b, o + j, none⟩ = some (.int .i64 (P j)) := by
  rcases h with h | ⟨b, o, ha, h1, h2, hc⟩
  · omega
  · exact ⟨b, o, ha, h1, h2, hc j hj⟩

theorem isNaNc_any (x : Int) (w : World) : Calls Tryz.prog 113 #[.int .i64 x] w fun e w' => e = .returned (.bool false) ∧ w = w' := by
  go_enter Tryz.func113, Tryz.ntmps113
  go_wp2
  go_ret
  exact ⟨rfl, rfl⟩
theorem isNaNs_any (x : Int) (w : World) : Calls Tryz.prog 106 #[.int .i64 x] w fun e w' => e = .returned (.bool false) ∧ w = w' := by
  go_enter Tryz.func106, Tryz.ntmps106
  go_wp2
  go_ret
  exact ⟨rfl, rfl⟩
theorem less_any (x y : Int) (w : World) : Calls Tryz.prog 105 #[.int .i64 x, .int .i64 y] w fun e w' => e = .returned (.bool (decide (x < y))) ∧ Quiet w w' := by
  go_enter Tryz.func105, Tryz.ntmps105
  go_wp2_with (go_at_call 113; refine (isNaNc_any _ _).mono ?_; rintro e w1 ⟨rfl, rfl⟩)
  all_goals (go_ret; exact ⟨by simp, Quiet.refl _⟩)

set_option maxRecDepth 100000 in
set_option maxHeartbeats 1600000 in
theorem search_any (a : Option Addr) (n ca lo tp q : Nat) (P : Nat → Nat) (w : World) (hP : IntsIn lo tp w a n P) (hn : n ≤ 1024) (hq : q ≤ 1024) (hb : ∀ i, i < n → P i ≤ 1024) (hm : ∀ i i', i < i' → i' < n → P i < P i') (hne : ∀ i, i < n → P i ≠ q) :
    Calls Tryz.prog 97 #[.slice a n ca, .int .i64 q] w fun e w' => ∃ t : Nat, e = .returned (.tuple #[.int .i64 t, .bool false]) ∧ Quiet w w' ∧ t ≤ n ∧ (∀ i, i < t → P i < q) ∧ ∀ i, t ≤ i → i < n → q < P i := by
  have HP := Lib.hid hP
  have HB := Lib.hid hb
  have HM := Lib.hid hm
  have HE := Lib.hid hne
  clear hP hb hm hne
  go_enter Tryz.func97, Tryz.ntmps97
  go_wp2
  go_loopw [7, 8] (fun s t wr => ∃ i j : Nat, i ≤ j ∧ j ≤ n ∧ s = .int .i64 i ∧ t = .int .i64 j ∧ Quiet w wr ∧ (∀ k, k < i → P k < q) ∧ ∀ k, j ≤ k → k < n → q < P k) (fun s t _ => (intOf t).toNat - (intOf s).toNat)
  case atStart => exact ⟨0, n, Nat.zero_le _, Nat.le_refl _, rfl, rfl, Quiet.refl _, fun k hk => by omega, fun k hk hk2 => by omega⟩
  case round =>
    obtain ⟨i, j, hij, hj, rfl, rfl, hqt, h1, h2⟩ := hrel
    have HQ := Lib.hid hqt
    have H1 := Lib.hid h1
    have H2 := Lib.hid h2
    clear h1 h2
    by_cases hlt : i < j
    · have hi1 : (i : Int) < (j : Int) := by omega
      obtain ⟨h, hdef⟩ : ∃ h, h = (i + j) / 2 := ⟨_, rfl⟩
      have hh : ((i : Int) + (j : Int)) / 2 = (h : Int) := by omega
      have hih : i ≤ h := by omega
      have hhj : h < j := by omega
      have hh1 : (h : Int) < (n : Int) := by omega
      obtain ⟨b1, o1, ha1, _, _, hc0⟩ := HP.out.at (by omega : h < n)
      subst ha1
      have hc1 := ((hqt.below _).cell (p := ⟨b1, o1 + h, none⟩) (by assumption)).trans hc0
      have hpb := HB.out h (by omega)
      have hne := HE.out h (by omega)
      clear hc0 hqt hdef
      by_cases hx : P h < q
      · have HD : Hid (decide ((P h : Int) < (q : Int)) = true) := by show _ = _; simp; exact hx
        go_wp2_with (go_at_call 105; refine (less_any _ _ _).mono ?_; rintro e w1 ⟨rfl, hq1⟩; rw [HD.out]; have HQ1 := Lib.hid hq1; clear hq1)
        go_roundw
        case rel => exact ⟨h + 1, j, by omega, by omega, by go_num, rfl, HQ.out.trans HQ1.out, fun k hk => by
            by_cases e : k = h
            · subst e; exact hx
            · have := HM.out k h (by omega) (by omega); omega, H2.out⟩
        case measure => simp [intOf]; omega
      · have HD : Hid (decide ((P h : Int) < (q : Int)) = false) := by show _ = _; simp; omega
        go_wp2_with (go_at_call 105; refine (less_any _ _ _).mono ?_; rintro e w1 ⟨rfl, hq1⟩; rw [HD.out]; have HQ1 := Lib.hid hq1; clear hq1)
        go_roundw
        case rel => exact ⟨i, h, by omega, by omega, rfl, rfl, HQ.out.trans HQ1.out, H1.out, fun k hk hk2 => by
            by_cases e : k = h
            · subst e; omega
            · have := HM.out h k (by omega) (by omega); omega⟩
        case measure => simp [intOf]; omega
    · have hij : i = j := by omega
      subst hij
      by_cases hin : i < n
      · have hi1 : (i : Int) < (n : Int) := by omega
        obtain ⟨b1, o1, ha1, _, _, hc0⟩ := HP.out.at hin
        subst ha1
        have hc1 := ((hqt.below _).cell (p := ⟨b1, o1 + i, none⟩) (by assumption)).trans hc0
        have hne := HE.out i hin
        have hne1 : ((P i : Int) == (q : Int)) = false := by simp; omega
        have hne2 : ¬ (P i : Int) = (q : Int) := by omega
        clear hc0 hqt
        go_wp2_with (go_at_call 106; refine (isNaNs_any _ _).mono ?_; rintro e w1 ⟨rfl, rfl⟩)
        all_goals (refine bodyPost_ret (v := .tuple #[.int .i64 i, .bool false]) (by simp [results, Tryz.results97, go_sem]) rfl ⟨i, rfl, HQ.out, hj, H1.out, H2.out⟩)
      · have hin2 : ¬ (i : Int) < (n : Int) := by omega
        clear hqt
        go_wp2
        refine bodyPost_ret (v := .tuple #[.int .i64 i, .bool false]) (by simp [results, Tryz.results97, go_sem]) rfl ⟨i, rfl, HQ.out, hj, H1.out, H2.out⟩
end Go.Proofs.YtlfjhffigkhmcaaGreat
