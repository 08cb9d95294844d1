/-
  slices.EqualFunc of lists of rows, the rows compared by slices.Equal.
  Conditions: rows of rows of known cells, at most 1024 rows of at most 1048576 numbers.
-/
import Derived.Test.YtkibkkdeaojjoabQf38
namespace Go.Proofs.Ytkibkkdeaojjoab
open Go.RowKit
set_option linter.unusedVariables false

set_option maxRecDepth 100000 in
set_option maxHeartbeats 1600000 in
theorem equalF_any (a b : Option Addr) (A B : List (List Int)) (ca cb lo tp lo' tp' : Nat) (w : World) (ha : MatIn lo tp w a A) (ta : tp ≤ w.heap.size) (hb : MatIn lo' tp' w b B) (tb : tp' ≤ w.heap.size) (sa : A.length ≤ 1024) (sr : ∀ i, i < A.length → (rw' A i).length ≤ 1048576) :
    Calls Try.prog 101 #[.slice a A.length ca, .slice b B.length cb, .func (.func 104) #[] #[]] w fun e w' => e = .returned (.bool (decide (A = B))) ∧ Quiet w w' := by
  have HA := Lib.hid ha
  have HB := Lib.hid hb
  have HSR := Lib.hid sr
  clear ha hb sr
  by_cases hl : A.length = B.length
  · have HL := Lib.hid hl
    obtain ⟨n, hn⟩ : ∃ n, n = A.length := ⟨_, rfl⟩
    have HN := Lib.hid hn
    rw [← hl]
    rw [← hn] at sa ⊢
    clear hl hn
    go_enter Try.func101, Try.ntmps101
    go_wp2
    go_loopw [17] (fun t wr => ∃ i : Nat, i ≤ n ∧ t = .int .i64 i ∧ (∀ j, j < i → rw' A j = rw' B j) ∧ Quiet w wr) (fun t _ => n - (intOf t).toNat)
    case atStart => exact ⟨0, Nat.zero_le _, rfl, fun j hj => absurd hj (Nat.not_lt_zero _), Quiet.refl _⟩
    case round =>
      obtain ⟨i, hi, rfl, hall, hq⟩ := hrel
      have HQ := Lib.hid hq
      have HALL := Lib.hid hall
      by_cases hlt : i < n
      · have bq := hq.below w.heap.size
        obtain ⟨b1, o1, r1, k1, ha1, _, _, hc1, hr1⟩ := (HA.out.below bq ta).row (show i < A.length by rw [← HN.out]; exact hlt)
        obtain ⟨b2, o2, r2, k2, ha2, _, _, hc2, hr2⟩ := (HB.out.below bq tb).row (show i < B.length by rw [← HL.out, ← HN.out]; exact hlt)
        subst ha1
        subst ha2
        have hi1 : (i : Int) < (n : Int) := by omega
        have HR1 := Lib.hid hr1
        have HR2 := Lib.hid hr2
        have hs1 : (rw' A i).length ≤ 1048576 := HSR.out i (by rw [← HN.out]; exact hlt)
        clear hr1 hr2 hall hq bq
        by_cases hxy : rw' A i = rw' B i
        · have HD : Hid (decide (rw' A i = rw' B i) = true) := decide_eq_true hxy
          have HXY := Lib.hid hxy
          clear hxy
          go_wp2_with (go_at_call 104; ((with_reducible refine (equal_any r1 r2 (rw' A i) (rw' B i) k1 k2 lo tp lo' tp' wr HR1.out HR2.out hs1).mono ?_); rintro e w1 ⟨rfl, q_⟩; rw [HD.out]; have HQ1 := Lib.hid (HQ.out.trans q_); clear q_))
          go_roundw
          case rel => exact ⟨i + 1, by omega, by go_num, fun j hj => by
            by_cases e : j = i
            · subst e; exact HXY.out
            · exact HALL.out j (by omega), HQ1.out⟩
          case measure => (simp [intOf] <;> omega)
        · have HD : Hid (decide (rw' A i = rw' B i) = false) := decide_eq_false hxy
          have HR : Hid (decide (A = B) = false) := decide_eq_false fun e => hxy (by rw [e])
          clear hxy
          go_wp2_with (go_at_call 104; ((with_reducible refine (equal_any r1 r2 (rw' A i) (rw' B i) k1 k2 lo tp lo' tp' wr HR1.out HR2.out hs1).mono ?_); rintro e w1 ⟨rfl, q_⟩; rw [HD.out]; have HQ1 := Lib.hid (HQ.out.trans q_); clear q_))
          go_ret
          exact ⟨by rw [HR.out]; rfl, HQ1.out⟩
      · have hin : i = n := by omega
        subst hin
        have HR : Hid (decide (A = B) = true) := decide_eq_true (mat_ext HL.out (fun j hj => hall j (by rw [HN.out]; exact hj)))
        clear hall hq
        go_wp2
        go_ret
        exact ⟨by rw [HR.out]; rfl, HQ.out⟩
  · have HR : Hid (decide (A = B) = false) := decide_eq_false fun e => hl (by rw [e])
    obtain ⟨n, hn⟩ : ∃ n, n = A.length := ⟨_, rfl⟩
    obtain ⟨m, hm⟩ : ∃ m, m = B.length := ⟨_, rfl⟩
    rw [← hn, ← hm] at hl ⊢
    have hl2 : ((n : Int) != (m : Int)) = true := by simp; omega
    go_enter Try.func101, Try.ntmps101
    go_wp2
    go_ret
    exact ⟨by rw [HR.out]; rfl, Quiet.refl _⟩

end Go.Proofs.Ytkibkkdeaojjoab
