/-
  Changes of signs by grades, and the signs of all grades: contracts of the program.
  Conditions: the lists are nil or rows of known cells, of at most 1048576 numbers.
-/
import Derived.Test.YtdamdlihicinlaaMvT
import Derived.Test.YtdamdlihicinlaaMvA
namespace Go.Proofs.Ytdamdlihicinlaa
open Go.RowKit
set_option linter.unusedVariables false

theorem seven {g : Nat} (h : g < 7) : g = 0 ∨ g = 1 ∨ g = 2 ∨ g = 3 ∨ g = 4 ∨ g = 5 ∨ g = 6 := by omega
/-- The sign of a grade. -/
def sg (c : Nat → Nat) (g : Nat) : Int := 1 - 2 * ((c g % 2 : Nat) : Int)
def c_constancy : Nat → Nat := fun _ => 0
theorem c_constancy_le {g : Nat} (hg : g < 7) : c_constancy g ≤ 21 := by rcases seven hg with rfl | rfl | rfl | rfl | rfl | rfl | rfl <;> decide
set_option maxHeartbeats 800000 in
theorem constancy_any (g : Nat) (hg : g < 7) (w : World) : Calls Try.prog 79 #[.int .i64 g] w fun e w' => e = .returned (.int .i64 (c_constancy g)) ∧ w = w' := by
  rcases seven hg with rfl | rfl | rfl | rfl | rfl | rfl | rfl <;>
  · go_enter Try.func79, Try.ntmps79
    go_wp2
    go_ret
    exact ⟨rfl, rfl⟩
def c_reversal : Nat → Nat := fun g => g * (g - 1) / 2
theorem c_reversal_le {g : Nat} (hg : g < 7) : c_reversal g ≤ 21 := by rcases seven hg with rfl | rfl | rfl | rfl | rfl | rfl | rfl <;> decide
set_option maxHeartbeats 800000 in
theorem reversal_any (g : Nat) (hg : g < 7) (w : World) : Calls Try.prog 109 #[.int .i64 g] w fun e w' => e = .returned (.int .i64 (c_reversal g)) ∧ w = w' := by
  rcases seven hg with rfl | rfl | rfl | rfl | rfl | rfl | rfl <;>
  · go_enter Try.func109, Try.ntmps109
    go_wp2
    go_ret
    exact ⟨rfl, rfl⟩
def c_involution : Nat → Nat := fun g => g
theorem c_involution_le {g : Nat} (hg : g < 7) : c_involution g ≤ 21 := by rcases seven hg with rfl | rfl | rfl | rfl | rfl | rfl | rfl <;> decide
set_option maxHeartbeats 800000 in
theorem involution_any (g : Nat) (hg : g < 7) (w : World) : Calls Try.prog 82 #[.int .i64 g] w fun e w' => e = .returned (.int .i64 (c_involution g)) ∧ w = w' := by
  rcases seven hg with rfl | rfl | rfl | rfl | rfl | rfl | rfl <;>
  · go_enter Try.func82, Try.ntmps82
    go_wp2
    go_ret
    exact ⟨rfl, rfl⟩
def c_conjugation : Nat → Nat := fun g => g * (g - 1) / 2 + g
theorem c_conjugation_le {g : Nat} (hg : g < 7) : c_conjugation g ≤ 21 := by rcases seven hg with rfl | rfl | rfl | rfl | rfl | rfl | rfl <;> decide
set_option maxHeartbeats 800000 in
theorem conjugation_any (g : Nat) (hg : g < 7) (w : World) : Calls Try.prog 110 #[.int .i64 g] w fun e w' => e = .returned (.int .i64 (c_conjugation g)) ∧ w = w' := by
  have h1 := c_reversal_le hg
  have h2 := c_involution_le hg
  go_enter Try.func110, Try.ntmps110
  go_wp2_with (first | (go_at_call 109; (with_reducible refine (reversal_any g hg _).mono ?_); rintro e w1 ⟨rfl, rfl⟩) | (go_at_call 82; (with_reducible refine (involution_any g hg _).mono ?_); rintro e w1 ⟨rfl, rfl⟩))
  go_ret
  exact ⟨rfl, rfl⟩
set_option maxRecDepth 100000 in
set_option maxHeartbeats 1600000 in
theorem signsBy_constancy (w : World) : Calls Try.prog 78 #[.func (.func 79) #[] #[]] w fun e w' => e = .returned (.agg #[.int .i64 1, .int .i64 1, .int .i64 1, .int .i64 1, .int .i64 1, .int .i64 1, .int .i64 1]) ∧ Below w.heap.size w w' := by
  go_enter Try.func78, Try.ntmps78
  go_wp2
  go_loopw [5] (fun t wr => ∃ i : Nat, i ≤ 7 ∧ t = .int .i64 i ∧ RowOwn wr (w.heap.size + 1) 0 7 (fun j => if j < i then sg c_constancy j else 0) ∧ RowOwn wr w.heap.size 0 7 (fun _ => 0) ∧ Below w.heap.size w wr) (fun t _ => 7 - (intOf t).toNat)
  case atStart => exact ⟨0, Nat.zero_le _, rfl, ⟨fun j hj => by rcases seven hj with rfl | rfl | rfl | rfl | rfl | rfl | rfl <;> simp [go_sem], fun j hj => by simp [go_sem]⟩, ⟨fun j hj => by rcases seven hj with rfl | rfl | rfl | rfl | rfl | rfl | rfl <;> simp [go_sem], fun j hj => by simp [go_sem]⟩, (below_alloc w _).alloc (by simp) _⟩
  case round =>
    obtain ⟨i, hi, rfl, hr, hz, hb⟩ := hrel
    have HR := Lib.hid hr
    have HZ := Lib.hid hz
    have HB := Lib.hid hb
    by_cases hlt : i < 7
    · have c0 := hr.cell i hlt
      have f0 := hr.free i hlt
      rw [Nat.zero_add] at c0 f0
      rw [if_neg (Nat.lt_irrefl _)] at c0
      obtain ⟨q, hq⟩ : ∃ q, q = c_constancy i := ⟨_, rfl⟩
      have hq21 : q ≤ 21 := by rw [hq]; exact c_constancy_le hlt
      have HQ := Lib.hid hq
      have hi1 : (i : Int) < 7 := by omega
      clear hr hz hb hq
      go_wp2_with (go_at_call 79; (with_reducible refine (constancy_any i hlt _).mono ?_); rintro e w1 ⟨rfl, rfl⟩; rw [← HQ.out])
      go_roundw
      case rel => exact ⟨i + 1, by omega, by go_num, row_fill HR.out hlt (by unfold sg; rw [← HQ.out]; omega), HZ.out.stay (Below.heap_setCell _ _ _ _ (show w.heap.size ≠ w.heap.size + 1 by omega)), HB.out.trans ((wrote_put0 (Wrote.refl (w.heap.size + 1) 0 7 _) hlt _).belowB (by omega))⟩
      case measure => simp [intOf]; omega
    · have hn : i = 7 := by omega
      subst hn
      have A0 : wr.cell? ⟨w.heap.size + 1, 0, none⟩ = some (.int .i64 (1)) := hr.cell 0 (by omega)
      have A1 : wr.cell? ⟨w.heap.size + 1, 1, none⟩ = some (.int .i64 (1)) := hr.cell 1 (by omega)
      have A2 : wr.cell? ⟨w.heap.size + 1, 2, none⟩ = some (.int .i64 (1)) := hr.cell 2 (by omega)
      have A3 : wr.cell? ⟨w.heap.size + 1, 3, none⟩ = some (.int .i64 (1)) := hr.cell 3 (by omega)
      have A4 : wr.cell? ⟨w.heap.size + 1, 4, none⟩ = some (.int .i64 (1)) := hr.cell 4 (by omega)
      have A5 : wr.cell? ⟨w.heap.size + 1, 5, none⟩ = some (.int .i64 (1)) := hr.cell 5 (by omega)
      have A6 : wr.cell? ⟨w.heap.size + 1, 6, none⟩ = some (.int .i64 (1)) := hr.cell 6 (by omega)
      have Z0 : wr.cell? ⟨w.heap.size, 0, none⟩ = some (.int .i64 0) := hz.cell 0 (by omega)
      have F0 : wr.frozen? ⟨w.heap.size, 0, none⟩ = false := hz.free 0 (by omega)
      have Z1 : wr.cell? ⟨w.heap.size, 1, none⟩ = some (.int .i64 0) := hz.cell 1 (by omega)
      have F1 : wr.frozen? ⟨w.heap.size, 1, none⟩ = false := hz.free 1 (by omega)
      have Z2 : wr.cell? ⟨w.heap.size, 2, none⟩ = some (.int .i64 0) := hz.cell 2 (by omega)
      have F2 : wr.frozen? ⟨w.heap.size, 2, none⟩ = false := hz.free 2 (by omega)
      have Z3 : wr.cell? ⟨w.heap.size, 3, none⟩ = some (.int .i64 0) := hz.cell 3 (by omega)
      have F3 : wr.frozen? ⟨w.heap.size, 3, none⟩ = false := hz.free 3 (by omega)
      have Z4 : wr.cell? ⟨w.heap.size, 4, none⟩ = some (.int .i64 0) := hz.cell 4 (by omega)
      have F4 : wr.frozen? ⟨w.heap.size, 4, none⟩ = false := hz.free 4 (by omega)
      have Z5 : wr.cell? ⟨w.heap.size, 5, none⟩ = some (.int .i64 0) := hz.cell 5 (by omega)
      have F5 : wr.frozen? ⟨w.heap.size, 5, none⟩ = false := hz.free 5 (by omega)
      have Z6 : wr.cell? ⟨w.heap.size, 6, none⟩ = some (.int .i64 0) := hz.cell 6 (by omega)
      have F6 : wr.frozen? ⟨w.heap.size, 6, none⟩ = false := hz.free 6 (by omega)
      clear hr hz
      go_wp2
      refine bodyPost_ret (v := .agg #[.int .i64 1, .int .i64 1, .int .i64 1, .int .i64 1, .int .i64 1, .int .i64 1, .int .i64 1]) (by simp [results, Try.results78, go_sem, Z0, Z1, Z2, Z3, Z4, Z5, Z6]) rfl ⟨rfl, ?_⟩
      have hb := HB.out
      have hz := hb.size
      (have hs_hb := hb.size; (repeat' (first | with_reducible exact Below.refl _ _ | (with_reducible refine Below.setCell ?_ ?_ _) | (with_reducible refine Below.alloc ?_ ?_ _) | (with_reducible refine Below.drew ?_) | (with_reducible refine below_step ?_ ?_ hb))); all_goals (first | (simp; done) | omega | (simp; omega) | (simp at hs_hb ⊢; omega)))
set_option maxRecDepth 100000 in
set_option maxHeartbeats 1600000 in
theorem signsBy_reversal (w : World) : Calls Try.prog 78 #[.func (.func 109) #[] #[]] w fun e w' => e = .returned (.agg #[.int .i64 1, .int .i64 1, .int .i64 (-1), .int .i64 (-1), .int .i64 1, .int .i64 1, .int .i64 (-1)]) ∧ Below w.heap.size w w' := by
  go_enter Try.func78, Try.ntmps78
  go_wp2
  go_loopw [5] (fun t wr => ∃ i : Nat, i ≤ 7 ∧ t = .int .i64 i ∧ RowOwn wr (w.heap.size + 1) 0 7 (fun j => if j < i then sg c_reversal j else 0) ∧ RowOwn wr w.heap.size 0 7 (fun _ => 0) ∧ Below w.heap.size w wr) (fun t _ => 7 - (intOf t).toNat)
  case atStart => exact ⟨0, Nat.zero_le _, rfl, ⟨fun j hj => by rcases seven hj with rfl | rfl | rfl | rfl | rfl | rfl | rfl <;> simp [go_sem], fun j hj => by simp [go_sem]⟩, ⟨fun j hj => by rcases seven hj with rfl | rfl | rfl | rfl | rfl | rfl | rfl <;> simp [go_sem], fun j hj => by simp [go_sem]⟩, (below_alloc w _).alloc (by simp) _⟩
  case round =>
    obtain ⟨i, hi, rfl, hr, hz, hb⟩ := hrel
    have HR := Lib.hid hr
    have HZ := Lib.hid hz
    have HB := Lib.hid hb
    by_cases hlt : i < 7
    · have c0 := hr.cell i hlt
      have f0 := hr.free i hlt
      rw [Nat.zero_add] at c0 f0
      rw [if_neg (Nat.lt_irrefl _)] at c0
      obtain ⟨q, hq⟩ : ∃ q, q = c_reversal i := ⟨_, rfl⟩
      have hq21 : q ≤ 21 := by rw [hq]; exact c_reversal_le hlt
      have HQ := Lib.hid hq
      have hi1 : (i : Int) < 7 := by omega
      clear hr hz hb hq
      go_wp2_with (go_at_call 109; (with_reducible refine (reversal_any i hlt _).mono ?_); rintro e w1 ⟨rfl, rfl⟩; rw [← HQ.out])
      go_roundw
      case rel => exact ⟨i + 1, by omega, by go_num, row_fill HR.out hlt (by unfold sg; rw [← HQ.out]; omega), HZ.out.stay (Below.heap_setCell _ _ _ _ (show w.heap.size ≠ w.heap.size + 1 by omega)), HB.out.trans ((wrote_put0 (Wrote.refl (w.heap.size + 1) 0 7 _) hlt _).belowB (by omega))⟩
      case measure => simp [intOf]; omega
    · have hn : i = 7 := by omega
      subst hn
      have A0 : wr.cell? ⟨w.heap.size + 1, 0, none⟩ = some (.int .i64 (1)) := hr.cell 0 (by omega)
      have A1 : wr.cell? ⟨w.heap.size + 1, 1, none⟩ = some (.int .i64 (1)) := hr.cell 1 (by omega)
      have A2 : wr.cell? ⟨w.heap.size + 1, 2, none⟩ = some (.int .i64 (-1)) := hr.cell 2 (by omega)
      have A3 : wr.cell? ⟨w.heap.size + 1, 3, none⟩ = some (.int .i64 (-1)) := hr.cell 3 (by omega)
      have A4 : wr.cell? ⟨w.heap.size + 1, 4, none⟩ = some (.int .i64 (1)) := hr.cell 4 (by omega)
      have A5 : wr.cell? ⟨w.heap.size + 1, 5, none⟩ = some (.int .i64 (1)) := hr.cell 5 (by omega)
      have A6 : wr.cell? ⟨w.heap.size + 1, 6, none⟩ = some (.int .i64 (-1)) := hr.cell 6 (by omega)
      have Z0 : wr.cell? ⟨w.heap.size, 0, none⟩ = some (.int .i64 0) := hz.cell 0 (by omega)
      have F0 : wr.frozen? ⟨w.heap.size, 0, none⟩ = false := hz.free 0 (by omega)
      have Z1 : wr.cell? ⟨w.heap.size, 1, none⟩ = some (.int .i64 0) := hz.cell 1 (by omega)
      have F1 : wr.frozen? ⟨w.heap.size, 1, none⟩ = false := hz.free 1 (by omega)
      have Z2 : wr.cell? ⟨w.heap.size, 2, none⟩ = some (.int .i64 0) := hz.cell 2 (by omega)
      have F2 : wr.frozen? ⟨w.heap.size, 2, none⟩ = false := hz.free 2 (by omega)
      have Z3 : wr.cell? ⟨w.heap.size, 3, none⟩ = some (.int .i64 0) := hz.cell 3 (by omega)
      have F3 : wr.frozen? ⟨w.heap.size, 3, none⟩ = false := hz.free 3 (by omega)
      have Z4 : wr.cell? ⟨w.heap.size, 4, none⟩ = some (.int .i64 0) := hz.cell 4 (by omega)
      have F4 : wr.frozen? ⟨w.heap.size, 4, none⟩ = false := hz.free 4 (by omega)
      have Z5 : wr.cell? ⟨w.heap.size, 5, none⟩ = some (.int .i64 0) := hz.cell 5 (by omega)
      have F5 : wr.frozen? ⟨w.heap.size, 5, none⟩ = false := hz.free 5 (by omega)
      have Z6 : wr.cell? ⟨w.heap.size, 6, none⟩ = some (.int .i64 0) := hz.cell 6 (by omega)
      have F6 : wr.frozen? ⟨w.heap.size, 6, none⟩ = false := hz.free 6 (by omega)
      clear hr hz
      go_wp2
      refine bodyPost_ret (v := .agg #[.int .i64 1, .int .i64 1, .int .i64 (-1), .int .i64 (-1), .int .i64 1, .int .i64 1, .int .i64 (-1)]) (by simp [results, Try.results78, go_sem, Z0, Z1, Z2, Z3, Z4, Z5, Z6]) rfl ⟨rfl, ?_⟩
      have hb := HB.out
      have hz := hb.size
      (have hs_hb := hb.size; (repeat' (first | with_reducible exact Below.refl _ _ | (with_reducible refine Below.setCell ?_ ?_ _) | (with_reducible refine Below.alloc ?_ ?_ _) | (with_reducible refine Below.drew ?_) | (with_reducible refine below_step ?_ ?_ hb))); all_goals (first | (simp; done) | omega | (simp; omega) | (simp at hs_hb ⊢; omega)))
set_option maxRecDepth 100000 in
set_option maxHeartbeats 1600000 in
theorem signsBy_involution (w : World) : Calls Try.prog 78 #[.func (.func 82) #[] #[]] w fun e w' => e = .returned (.agg #[.int .i64 1, .int .i64 (-1), .int .i64 1, .int .i64 (-1), .int .i64 1, .int .i64 (-1), .int .i64 1]) ∧ Below w.heap.size w w' := by
  go_enter Try.func78, Try.ntmps78
  go_wp2
  go_loopw [5] (fun t wr => ∃ i : Nat, i ≤ 7 ∧ t = .int .i64 i ∧ RowOwn wr (w.heap.size + 1) 0 7 (fun j => if j < i then sg c_involution j else 0) ∧ RowOwn wr w.heap.size 0 7 (fun _ => 0) ∧ Below w.heap.size w wr) (fun t _ => 7 - (intOf t).toNat)
  case atStart => exact ⟨0, Nat.zero_le _, rfl, ⟨fun j hj => by rcases seven hj with rfl | rfl | rfl | rfl | rfl | rfl | rfl <;> simp [go_sem], fun j hj => by simp [go_sem]⟩, ⟨fun j hj => by rcases seven hj with rfl | rfl | rfl | rfl | rfl | rfl | rfl <;> simp [go_sem], fun j hj => by simp [go_sem]⟩, (below_alloc w _).alloc (by simp) _⟩
  case round =>
    obtain ⟨i, hi, rfl, hr, hz, hb⟩ := hrel
    have HR := Lib.hid hr
    have HZ := Lib.hid hz
    have HB := Lib.hid hb
    by_cases hlt : i < 7
    · have c0 := hr.cell i hlt
      have f0 := hr.free i hlt
      rw [Nat.zero_add] at c0 f0
      rw [if_neg (Nat.lt_irrefl _)] at c0
      obtain ⟨q, hq⟩ : ∃ q, q = c_involution i := ⟨_, rfl⟩
      have hq21 : q ≤ 21 := by rw [hq]; exact c_involution_le hlt
      have HQ := Lib.hid hq
      have hi1 : (i : Int) < 7 := by omega
      clear hr hz hb hq
      go_wp2_with (go_at_call 82; (with_reducible refine (involution_any i hlt _).mono ?_); rintro e w1 ⟨rfl, rfl⟩; rw [← HQ.out])
      go_roundw
      case rel => exact ⟨i + 1, by omega, by go_num, row_fill HR.out hlt (by unfold sg; rw [← HQ.out]; omega), HZ.out.stay (Below.heap_setCell _ _ _ _ (show w.heap.size ≠ w.heap.size + 1 by omega)), HB.out.trans ((wrote_put0 (Wrote.refl (w.heap.size + 1) 0 7 _) hlt _).belowB (by omega))⟩
      case measure => simp [intOf]; omega
    · have hn : i = 7 := by omega
      subst hn
      have A0 : wr.cell? ⟨w.heap.size + 1, 0, none⟩ = some (.int .i64 (1)) := hr.cell 0 (by omega)
      have A1 : wr.cell? ⟨w.heap.size + 1, 1, none⟩ = some (.int .i64 (-1)) := hr.cell 1 (by omega)
      have A2 : wr.cell? ⟨w.heap.size + 1, 2, none⟩ = some (.int .i64 (1)) := hr.cell 2 (by omega)
      have A3 : wr.cell? ⟨w.heap.size + 1, 3, none⟩ = some (.int .i64 (-1)) := hr.cell 3 (by omega)
      have A4 : wr.cell? ⟨w.heap.size + 1, 4, none⟩ = some (.int .i64 (1)) := hr.cell 4 (by omega)
      have A5 : wr.cell? ⟨w.heap.size + 1, 5, none⟩ = some (.int .i64 (-1)) := hr.cell 5 (by omega)
      have A6 : wr.cell? ⟨w.heap.size + 1, 6, none⟩ = some (.int .i64 (1)) := hr.cell 6 (by omega)
      have Z0 : wr.cell? ⟨w.heap.size, 0, none⟩ = some (.int .i64 0) := hz.cell 0 (by omega)
      have F0 : wr.frozen? ⟨w.heap.size, 0, none⟩ = false := hz.free 0 (by omega)
      have Z1 : wr.cell? ⟨w.heap.size, 1, none⟩ = some (.int .i64 0) := hz.cell 1 (by omega)
      have F1 : wr.frozen? ⟨w.heap.size, 1, none⟩ = false := hz.free 1 (by omega)
      have Z2 : wr.cell? ⟨w.heap.size, 2, none⟩ = some (.int .i64 0) := hz.cell 2 (by omega)
      have F2 : wr.frozen? ⟨w.heap.size, 2, none⟩ = false := hz.free 2 (by omega)
      have Z3 : wr.cell? ⟨w.heap.size, 3, none⟩ = some (.int .i64 0) := hz.cell 3 (by omega)
      have F3 : wr.frozen? ⟨w.heap.size, 3, none⟩ = false := hz.free 3 (by omega)
      have Z4 : wr.cell? ⟨w.heap.size, 4, none⟩ = some (.int .i64 0) := hz.cell 4 (by omega)
      have F4 : wr.frozen? ⟨w.heap.size, 4, none⟩ = false := hz.free 4 (by omega)
      have Z5 : wr.cell? ⟨w.heap.size, 5, none⟩ = some (.int .i64 0) := hz.cell 5 (by omega)
      have F5 : wr.frozen? ⟨w.heap.size, 5, none⟩ = false := hz.free 5 (by omega)
      have Z6 : wr.cell? ⟨w.heap.size, 6, none⟩ = some (.int .i64 0) := hz.cell 6 (by omega)
      have F6 : wr.frozen? ⟨w.heap.size, 6, none⟩ = false := hz.free 6 (by omega)
      clear hr hz
      go_wp2
      refine bodyPost_ret (v := .agg #[.int .i64 1, .int .i64 (-1), .int .i64 1, .int .i64 (-1), .int .i64 1, .int .i64 (-1), .int .i64 1]) (by simp [results, Try.results78, go_sem, Z0, Z1, Z2, Z3, Z4, Z5, Z6]) rfl ⟨rfl, ?_⟩
      have hb := HB.out
      have hz := hb.size
      (have hs_hb := hb.size; (repeat' (first | with_reducible exact Below.refl _ _ | (with_reducible refine Below.setCell ?_ ?_ _) | (with_reducible refine Below.alloc ?_ ?_ _) | (with_reducible refine Below.drew ?_) | (with_reducible refine below_step ?_ ?_ hb))); all_goals (first | (simp; done) | omega | (simp; omega) | (simp at hs_hb ⊢; omega)))
set_option maxRecDepth 100000 in
set_option maxHeartbeats 1600000 in
theorem signsBy_conjugation (w : World) : Calls Try.prog 78 #[.func (.func 110) #[] #[]] w fun e w' => e = .returned (.agg #[.int .i64 1, .int .i64 (-1), .int .i64 (-1), .int .i64 1, .int .i64 1, .int .i64 (-1), .int .i64 (-1)]) ∧ Below w.heap.size w w' := by
  go_enter Try.func78, Try.ntmps78
  go_wp2
  go_loopw [5] (fun t wr => ∃ i : Nat, i ≤ 7 ∧ t = .int .i64 i ∧ RowOwn wr (w.heap.size + 1) 0 7 (fun j => if j < i then sg c_conjugation j else 0) ∧ RowOwn wr w.heap.size 0 7 (fun _ => 0) ∧ Below w.heap.size w wr) (fun t _ => 7 - (intOf t).toNat)
  case atStart => exact ⟨0, Nat.zero_le _, rfl, ⟨fun j hj => by rcases seven hj with rfl | rfl | rfl | rfl | rfl | rfl | rfl <;> simp [go_sem], fun j hj => by simp [go_sem]⟩, ⟨fun j hj => by rcases seven hj with rfl | rfl | rfl | rfl | rfl | rfl | rfl <;> simp [go_sem], fun j hj => by simp [go_sem]⟩, (below_alloc w _).alloc (by simp) _⟩
  case round =>
    obtain ⟨i, hi, rfl, hr, hz, hb⟩ := hrel
    have HR := Lib.hid hr
    have HZ := Lib.hid hz
    have HB := Lib.hid hb
    by_cases hlt : i < 7
    · have c0 := hr.cell i hlt
      have f0 := hr.free i hlt
      rw [Nat.zero_add] at c0 f0
      rw [if_neg (Nat.lt_irrefl _)] at c0
      obtain ⟨q, hq⟩ : ∃ q, q = c_conjugation i := ⟨_, rfl⟩
      have hq21 : q ≤ 21 := by rw [hq]; exact c_conjugation_le hlt
      have HQ := Lib.hid hq
      have hi1 : (i : Int) < 7 := by omega
      clear hr hz hb hq
      go_wp2_with (go_at_call 110; (with_reducible refine (conjugation_any i hlt _).mono ?_); rintro e w1 ⟨rfl, rfl⟩; rw [← HQ.out])
      go_roundw
      case rel => exact ⟨i + 1, by omega, by go_num, row_fill HR.out hlt (by unfold sg; rw [← HQ.out]; omega), HZ.out.stay (Below.heap_setCell _ _ _ _ (show w.heap.size ≠ w.heap.size + 1 by omega)), HB.out.trans ((wrote_put0 (Wrote.refl (w.heap.size + 1) 0 7 _) hlt _).belowB (by omega))⟩
      case measure => simp [intOf]; omega
    · have hn : i = 7 := by omega
      subst hn
      have A0 : wr.cell? ⟨w.heap.size + 1, 0, none⟩ = some (.int .i64 (1)) := hr.cell 0 (by omega)
      have A1 : wr.cell? ⟨w.heap.size + 1, 1, none⟩ = some (.int .i64 (-1)) := hr.cell 1 (by omega)
      have A2 : wr.cell? ⟨w.heap.size + 1, 2, none⟩ = some (.int .i64 (-1)) := hr.cell 2 (by omega)
      have A3 : wr.cell? ⟨w.heap.size + 1, 3, none⟩ = some (.int .i64 (1)) := hr.cell 3 (by omega)
      have A4 : wr.cell? ⟨w.heap.size + 1, 4, none⟩ = some (.int .i64 (1)) := hr.cell 4 (by omega)
      have A5 : wr.cell? ⟨w.heap.size + 1, 5, none⟩ = some (.int .i64 (-1)) := hr.cell 5 (by omega)
      have A6 : wr.cell? ⟨w.heap.size + 1, 6, none⟩ = some (.int .i64 (-1)) := hr.cell 6 (by omega)
      have Z0 : wr.cell? ⟨w.heap.size, 0, none⟩ = some (.int .i64 0) := hz.cell 0 (by omega)
      have F0 : wr.frozen? ⟨w.heap.size, 0, none⟩ = false := hz.free 0 (by omega)
      have Z1 : wr.cell? ⟨w.heap.size, 1, none⟩ = some (.int .i64 0) := hz.cell 1 (by omega)
      have F1 : wr.frozen? ⟨w.heap.size, 1, none⟩ = false := hz.free 1 (by omega)
      have Z2 : wr.cell? ⟨w.heap.size, 2, none⟩ = some (.int .i64 0) := hz.cell 2 (by omega)
      have F2 : wr.frozen? ⟨w.heap.size, 2, none⟩ = false := hz.free 2 (by omega)
      have Z3 : wr.cell? ⟨w.heap.size, 3, none⟩ = some (.int .i64 0) := hz.cell 3 (by omega)
      have F3 : wr.frozen? ⟨w.heap.size, 3, none⟩ = false := hz.free 3 (by omega)
      have Z4 : wr.cell? ⟨w.heap.size, 4, none⟩ = some (.int .i64 0) := hz.cell 4 (by omega)
      have F4 : wr.frozen? ⟨w.heap.size, 4, none⟩ = false := hz.free 4 (by omega)
      have Z5 : wr.cell? ⟨w.heap.size, 5, none⟩ = some (.int .i64 0) := hz.cell 5 (by omega)
      have F5 : wr.frozen? ⟨w.heap.size, 5, none⟩ = false := hz.free 5 (by omega)
      have Z6 : wr.cell? ⟨w.heap.size, 6, none⟩ = some (.int .i64 0) := hz.cell 6 (by omega)
      have F6 : wr.frozen? ⟨w.heap.size, 6, none⟩ = false := hz.free 6 (by omega)
      clear hr hz
      go_wp2
      refine bodyPost_ret (v := .agg #[.int .i64 1, .int .i64 (-1), .int .i64 (-1), .int .i64 1, .int .i64 1, .int .i64 (-1), .int .i64 (-1)]) (by simp [results, Try.results78, go_sem, Z0, Z1, Z2, Z3, Z4, Z5, Z6]) rfl ⟨rfl, ?_⟩
      have hb := HB.out
      have hz := hb.size
      (have hs_hb := hb.size; (repeat' (first | with_reducible exact Below.refl _ _ | (with_reducible refine Below.setCell ?_ ?_ _) | (with_reducible refine Below.alloc ?_ ?_ _) | (with_reducible refine Below.drew ?_) | (with_reducible refine below_step ?_ ?_ hb))); all_goals (first | (simp; done) | omega | (simp; omega) | (simp at hs_hb ⊢; omega)))

end Go.Proofs.Ytdamdlihicinlaa
