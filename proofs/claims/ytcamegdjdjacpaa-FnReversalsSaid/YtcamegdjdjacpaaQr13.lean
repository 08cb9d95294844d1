/-
  Changes of signs by grades, and the signs of all grades: contracts of the program.
  Conditions: the lists are nil or rows of known cells, of at most 1048576 numbers.
  Reversals and involutions of products: mathematics.
  Conditions: none.
  Even multivectors, and the sum of the parts of all grades: mathematics.
  Conditions: none.
  likeInts, zero5, hasInt: contracts.
  Conditions: the lists are nil or rows of known cells, of at most 1048576 numbers.
  PairOf and NormOf: contracts of the program and of the model.
  Conditions: the lists are nil or rows of known cells, of at most 1048576 numbers.
  NormOf: contracts of the program and of the model.
  Conditions: the lists are nil or rows of known cells, of at most 1048576 numbers.
  Lists of vectors of a space, in the program and in the model.
  Conditions: the lists are nil or rows of known cells, of at most 1048576 numbers.
  Sizes of matrices.
  No conditions.
  The model's GramOf: contract.
  Conditions: the lists are nil or rows of known cells, of at most 1048576 numbers.
  The program's Gram matrices: the walk.
  Conditions: the lists are nil or rows of known cells, of at most 1048576 numbers.
  The program's GramOf: contract.
  Conditions: the lists are nil or rows of known cells, of at most 1048576 numbers.
  Products of vectors: symmetric, linear, norms of sums. No Go in sight.
  No conditions.
  Geometric products of vectors: twice their product, squares are norms. No Go in sight.
  No conditions.
-/
import Derived.Test.YtcamegdjdjacpaaQr6
import Derived.Test.YtcamegdjdjacpaaQr5
import Derived.Test.YtcamegdjdjacpaaQr4
import Derived.Test.YtcamegdjdjacpaaQr3
import Derived.Test.YtcamegdjdjacpaaQr2
namespace Go.Proofs.Ytcamegdjdjacpaa
open Go.RowKit
set_option linter.unusedVariables false

theorem seven {g : Nat} (h : g < 7) : g = 0 ∨ g = 1 ∨ g = 2 ∨ g = 3 ∨ g = 4 ∨ g = 5 ∨ g = 6 := by omega
/-- The sign of a grade. -/
def sg (c : Nat → Nat) (g : Nat) : Int := 1 - 2 * ((c g % 2 : Nat) : Int)
def c_constancy : Nat → Nat := fun _ => 0
theorem c_constancy_le {g : Nat} (hg : g < 7) : c_constancy g ≤ 21 := by rcases seven hg with rfl | rfl | rfl | rfl | rfl | rfl | rfl <;> decide
set_option maxHeartbeats 800000 in
theorem constancy_any (g : Nat) (hg : g < 7) (w : World) : Calls Try.prog 107 #[.int .i64 g] w fun e w' => e = .returned (.int .i64 (c_constancy g)) ∧ w = w' := by
  rcases seven hg with rfl | rfl | rfl | rfl | rfl | rfl | rfl <;>
  · go_enter Try.func107, Try.ntmps107
    go_wp2
    go_ret
    exact ⟨rfl, rfl⟩
def c_reversal : Nat → Nat := fun g => g * (g - 1) / 2
theorem c_reversal_le {g : Nat} (hg : g < 7) : c_reversal g ≤ 21 := by rcases seven hg with rfl | rfl | rfl | rfl | rfl | rfl | rfl <;> decide
set_option maxHeartbeats 800000 in
theorem reversal_any (g : Nat) (hg : g < 7) (w : World) : Calls Try.prog 102 #[.int .i64 g] w fun e w' => e = .returned (.int .i64 (c_reversal g)) ∧ w = w' := by
  rcases seven hg with rfl | rfl | rfl | rfl | rfl | rfl | rfl <;>
  · go_enter Try.func102, Try.ntmps102
    go_wp2
    go_ret
    exact ⟨rfl, rfl⟩
def c_involution : Nat → Nat := fun g => g
theorem c_involution_le {g : Nat} (hg : g < 7) : c_involution g ≤ 21 := by rcases seven hg with rfl | rfl | rfl | rfl | rfl | rfl | rfl <;> decide
set_option maxHeartbeats 800000 in
theorem involution_any (g : Nat) (hg : g < 7) (w : World) : Calls Try.prog 103 #[.int .i64 g] w fun e w' => e = .returned (.int .i64 (c_involution g)) ∧ w = w' := by
  rcases seven hg with rfl | rfl | rfl | rfl | rfl | rfl | rfl <;>
  · go_enter Try.func103, Try.ntmps103
    go_wp2
    go_ret
    exact ⟨rfl, rfl⟩
def c_conjugation : Nat → Nat := fun g => g * (g - 1) / 2 + g
theorem c_conjugation_le {g : Nat} (hg : g < 7) : c_conjugation g ≤ 21 := by rcases seven hg with rfl | rfl | rfl | rfl | rfl | rfl | rfl <;> decide
set_option maxHeartbeats 800000 in
theorem conjugation_any (g : Nat) (hg : g < 7) (w : World) : Calls Try.prog 104 #[.int .i64 g] w fun e w' => e = .returned (.int .i64 (c_conjugation g)) ∧ w = w' := by
  have h1 := c_reversal_le hg
  have h2 := c_involution_le hg
  go_enter Try.func104, Try.ntmps104
  go_wp2_with (first | (go_at_call 102; (with_reducible refine (reversal_any g hg _).mono ?_); rintro e w1 ⟨rfl, rfl⟩) | (go_at_call 103; (with_reducible refine (involution_any g hg _).mono ?_); rintro e w1 ⟨rfl, rfl⟩))
  go_ret
  exact ⟨rfl, rfl⟩
set_option maxRecDepth 100000 in
set_option maxHeartbeats 1600000 in
theorem signsBy_constancy (w : World) : Calls Try.prog 105 #[.func (.func 107) #[] #[]] w fun e w' => e = .returned (.agg #[.int .i64 1, .int .i64 1, .int .i64 1, .int .i64 1, .int .i64 1, .int .i64 1, .int .i64 1]) ∧ Below w.heap.size w w' := by
  go_enter Try.func105, Try.ntmps105
  go_wp2
  go_loopw [5] (fun t wr => ∃ i : Nat, i ≤ 7 ∧ t = .int .i64 i ∧ RowOwn wr (w.heap.size + 1) 0 7 (fun j => if j < i then sg c_constancy j else 0) ∧ RowOwn wr w.heap.size 0 7 (fun _ => 0) ∧ Below w.heap.size w wr) (fun t _ => 7 - (intOf t).toNat)
  case atStart => exact ⟨0, Nat.zero_le _, rfl, ⟨fun j hj => by rcases seven hj with rfl | rfl | rfl | rfl | rfl | rfl | rfl <;> simp [go_sem], fun j hj => by simp [go_sem]⟩, ⟨fun j hj => by rcases seven hj with rfl | rfl | rfl | rfl | rfl | rfl | rfl <;> simp [go_sem], fun j hj => by simp [go_sem]⟩, (below_alloc w _).alloc (by simp) _⟩
  case round =>
    obtain ⟨i, hi, rfl, hr, hz, hb⟩ := hrel
    have HR := Lib.hid hr
    have HZ := Lib.hid hz
    have HB := Lib.hid hb
    by_cases hlt : i < 7
    · have c0 := hr.cell i hlt
      have f0 := hr.free i hlt
      rw [Nat.zero_add] at c0 f0
      rw [if_neg (Nat.lt_irrefl _)] at c0
      obtain ⟨q, hq⟩ : ∃ q, q = c_constancy i := ⟨_, rfl⟩
      have hq21 : q ≤ 21 := by rw [hq]; exact c_constancy_le hlt
      have HQ := Lib.hid hq
      have hi1 : (i : Int) < 7 := by omega
      clear hr hz hb hq
      go_wp2_with (go_at_call 107; (with_reducible refine (constancy_any i hlt _).mono ?_); rintro e w1 ⟨rfl, rfl⟩; rw [← HQ.out])
      go_roundw
      case rel => exact ⟨i + 1, by omega, by go_num, row_fill HR.out hlt (by unfold sg; rw [← HQ.out]; omega), HZ.out.stay (Below.heap_setCell _ _ _ _ (show w.heap.size ≠ w.heap.size + 1 by omega)), HB.out.trans ((wrote_put0 (Wrote.refl (w.heap.size + 1) 0 7 _) hlt _).belowB (by omega))⟩
      case measure => simp [intOf]; omega
    · have hn : i = 7 := by omega
      subst hn
      have A0 : wr.cell? ⟨w.heap.size + 1, 0, none⟩ = some (.int .i64 (1)) := hr.cell 0 (by omega)
      have A1 : wr.cell? ⟨w.heap.size + 1, 1, none⟩ = some (.int .i64 (1)) := hr.cell 1 (by omega)
      have A2 : wr.cell? ⟨w.heap.size + 1, 2, none⟩ = some (.int .i64 (1)) := hr.cell 2 (by omega)
      have A3 : wr.cell? ⟨w.heap.size + 1, 3, none⟩ = some (.int .i64 (1)) := hr.cell 3 (by omega)
      have A4 : wr.cell? ⟨w.heap.size + 1, 4, none⟩ = some (.int .i64 (1)) := hr.cell 4 (by omega)
      have A5 : wr.cell? ⟨w.heap.size + 1, 5, none⟩ = some (.int .i64 (1)) := hr.cell 5 (by omega)
      have A6 : wr.cell? ⟨w.heap.size + 1, 6, none⟩ = some (.int .i64 (1)) := hr.cell 6 (by omega)
      have Z0 : wr.cell? ⟨w.heap.size, 0, none⟩ = some (.int .i64 0) := hz.cell 0 (by omega)
      have F0 : wr.frozen? ⟨w.heap.size, 0, none⟩ = false := hz.free 0 (by omega)
      have Z1 : wr.cell? ⟨w.heap.size, 1, none⟩ = some (.int .i64 0) := hz.cell 1 (by omega)
      have F1 : wr.frozen? ⟨w.heap.size, 1, none⟩ = false := hz.free 1 (by omega)
      have Z2 : wr.cell? ⟨w.heap.size, 2, none⟩ = some (.int .i64 0) := hz.cell 2 (by omega)
      have F2 : wr.frozen? ⟨w.heap.size, 2, none⟩ = false := hz.free 2 (by omega)
      have Z3 : wr.cell? ⟨w.heap.size, 3, none⟩ = some (.int .i64 0) := hz.cell 3 (by omega)
      have F3 : wr.frozen? ⟨w.heap.size, 3, none⟩ = false := hz.free 3 (by omega)
      have Z4 : wr.cell? ⟨w.heap.size, 4, none⟩ = some (.int .i64 0) := hz.cell 4 (by omega)
      have F4 : wr.frozen? ⟨w.heap.size, 4, none⟩ = false := hz.free 4 (by omega)
      have Z5 : wr.cell? ⟨w.heap.size, 5, none⟩ = some (.int .i64 0) := hz.cell 5 (by omega)
      have F5 : wr.frozen? ⟨w.heap.size, 5, none⟩ = false := hz.free 5 (by omega)
      have Z6 : wr.cell? ⟨w.heap.size, 6, none⟩ = some (.int .i64 0) := hz.cell 6 (by omega)
      have F6 : wr.frozen? ⟨w.heap.size, 6, none⟩ = false := hz.free 6 (by omega)
      clear hr hz
      go_wp2
      refine bodyPost_ret (v := .agg #[.int .i64 1, .int .i64 1, .int .i64 1, .int .i64 1, .int .i64 1, .int .i64 1, .int .i64 1]) (by simp [results, Try.results105, go_sem, Z0, Z1, Z2, Z3, Z4, Z5, Z6]) rfl ⟨rfl, ?_⟩
      have hb := HB.out
      have hz := hb.size
      (have hs_hb := hb.size; (repeat' (first | with_reducible exact Below.refl _ _ | (with_reducible refine Below.setCell ?_ ?_ _) | (with_reducible refine Below.alloc ?_ ?_ _) | (with_reducible refine Below.drew ?_) | (with_reducible refine below_step ?_ ?_ hb))); all_goals (first | (simp; done) | omega | (simp; omega) | (simp at hs_hb ⊢; omega)))
set_option maxRecDepth 100000 in
set_option maxHeartbeats 1600000 in
theorem signsBy_reversal (w : World) : Calls Try.prog 105 #[.func (.func 102) #[] #[]] w fun e w' => e = .returned (.agg #[.int .i64 1, .int .i64 1, .int .i64 (-1), .int .i64 (-1), .int .i64 1, .int .i64 1, .int .i64 (-1)]) ∧ Below w.heap.size w w' := by
  go_enter Try.func105, Try.ntmps105
  go_wp2
  go_loopw [5] (fun t wr => ∃ i : Nat, i ≤ 7 ∧ t = .int .i64 i ∧ RowOwn wr (w.heap.size + 1) 0 7 (fun j => if j < i then sg c_reversal j else 0) ∧ RowOwn wr w.heap.size 0 7 (fun _ => 0) ∧ Below w.heap.size w wr) (fun t _ => 7 - (intOf t).toNat)
  case atStart => exact ⟨0, Nat.zero_le _, rfl, ⟨fun j hj => by rcases seven hj with rfl | rfl | rfl | rfl | rfl | rfl | rfl <;> simp [go_sem], fun j hj => by simp [go_sem]⟩, ⟨fun j hj => by rcases seven hj with rfl | rfl | rfl | rfl | rfl | rfl | rfl <;> simp [go_sem], fun j hj => by simp [go_sem]⟩, (below_alloc w _).alloc (by simp) _⟩
  case round =>
    obtain ⟨i, hi, rfl, hr, hz, hb⟩ := hrel
    have HR := Lib.hid hr
    have HZ := Lib.hid hz
    have HB := Lib.hid hb
    by_cases hlt : i < 7
    · have c0 := hr.cell i hlt
      have f0 := hr.free i hlt
      rw [Nat.zero_add] at c0 f0
      rw [if_neg (Nat.lt_irrefl _)] at c0
      obtain ⟨q, hq⟩ : ∃ q, q = c_reversal i := ⟨_, rfl⟩
      have hq21 : q ≤ 21 := by rw [hq]; exact c_reversal_le hlt
      have HQ := Lib.hid hq
      have hi1 : (i : Int) < 7 := by omega
      clear hr hz hb hq
      go_wp2_with (go_at_call 102; (with_reducible refine (reversal_any i hlt _).mono ?_); rintro e w1 ⟨rfl, rfl⟩; rw [← HQ.out])
      go_roundw
      case rel => exact ⟨i + 1, by omega, by go_num, row_fill HR.out hlt (by unfold sg; rw [← HQ.out]; omega), HZ.out.stay (Below.heap_setCell _ _ _ _ (show w.heap.size ≠ w.heap.size + 1 by omega)), HB.out.trans ((wrote_put0 (Wrote.refl (w.heap.size + 1) 0 7 _) hlt _).belowB (by omega))⟩
      case measure => simp [intOf]; omega
    · have hn : i = 7 := by omega
      subst hn
      have A0 : wr.cell? ⟨w.heap.size + 1, 0, none⟩ = some (.int .i64 (1)) := hr.cell 0 (by omega)
      have A1 : wr.cell? ⟨w.heap.size + 1, 1, none⟩ = some (.int .i64 (1)) := hr.cell 1 (by omega)
      have A2 : wr.cell? ⟨w.heap.size + 1, 2, none⟩ = some (.int .i64 (-1)) := hr.cell 2 (by omega)
      have A3 : wr.cell? ⟨w.heap.size + 1, 3, none⟩ = some (.int .i64 (-1)) := hr.cell 3 (by omega)
      have A4 : wr.cell? ⟨w.heap.size + 1, 4, none⟩ = some (.int .i64 (1)) := hr.cell 4 (by omega)
      have A5 : wr.cell? ⟨w.heap.size + 1, 5, none⟩ = some (.int .i64 (1)) := hr.cell 5 (by omega)
      have A6 : wr.cell? ⟨w.heap.size + 1, 6, none⟩ = some (.int .i64 (-1)) := hr.cell 6 (by omega)
      have Z0 : wr.cell? ⟨w.heap.size, 0, none⟩ = some (.int .i64 0) := hz.cell 0 (by omega)
      have F0 : wr.frozen? ⟨w.heap.size, 0, none⟩ = false := hz.free 0 (by omega)
      have Z1 : wr.cell? ⟨w.heap.size, 1, none⟩ = some (.int .i64 0) := hz.cell 1 (by omega)
      have F1 : wr.frozen? ⟨w.heap.size, 1, none⟩ = false := hz.free 1 (by omega)
      have Z2 : wr.cell? ⟨w.heap.size, 2, none⟩ = some (.int .i64 0) := hz.cell 2 (by omega)
      have F2 : wr.frozen? ⟨w.heap.size, 2, none⟩ = false := hz.free 2 (by omega)
      have Z3 : wr.cell? ⟨w.heap.size, 3, none⟩ = some (.int .i64 0) := hz.cell 3 (by omega)
      have F3 : wr.frozen? ⟨w.heap.size, 3, none⟩ = false := hz.free 3 (by omega)
      have Z4 : wr.cell? ⟨w.heap.size, 4, none⟩ = some (.int .i64 0) := hz.cell 4 (by omega)
      have F4 : wr.frozen? ⟨w.heap.size, 4, none⟩ = false := hz.free 4 (by omega)
      have Z5 : wr.cell? ⟨w.heap.size, 5, none⟩ = some (.int .i64 0) := hz.cell 5 (by omega)
      have F5 : wr.frozen? ⟨w.heap.size, 5, none⟩ = false := hz.free 5 (by omega)
      have Z6 : wr.cell? ⟨w.heap.size, 6, none⟩ = some (.int .i64 0) := hz.cell 6 (by omega)
      have F6 : wr.frozen? ⟨w.heap.size, 6, none⟩ = false := hz.free 6 (by omega)
      clear hr hz
      go_wp2
      refine bodyPost_ret (v := .agg #[.int .i64 1, .int .i64 1, .int .i64 (-1), .int .i64 (-1), .int .i64 1, .int .i64 1, .int .i64 (-1)]) (by simp [results, Try.results105, go_sem, Z0, Z1, Z2, Z3, Z4, Z5, Z6]) rfl ⟨rfl, ?_⟩
      have hb := HB.out
      have hz := hb.size
      (have hs_hb := hb.size; (repeat' (first | with_reducible exact Below.refl _ _ | (with_reducible refine Below.setCell ?_ ?_ _) | (with_reducible refine Below.alloc ?_ ?_ _) | (with_reducible refine Below.drew ?_) | (with_reducible refine below_step ?_ ?_ hb))); all_goals (first | (simp; done) | omega | (simp; omega) | (simp at hs_hb ⊢; omega)))
set_option maxRecDepth 100000 in
set_option maxHeartbeats 1600000 in
theorem signsBy_involution (w : World) : Calls Try.prog 105 #[.func (.func 103) #[] #[]] w fun e w' => e = .returned (.agg #[.int .i64 1, .int .i64 (-1), .int .i64 1, .int .i64 (-1), .int .i64 1, .int .i64 (-1), .int .i64 1]) ∧ Below w.heap.size w w' := by
  go_enter Try.func105, Try.ntmps105
  go_wp2
  go_loopw [5] (fun t wr => ∃ i : Nat, i ≤ 7 ∧ t = .int .i64 i ∧ RowOwn wr (w.heap.size + 1) 0 7 (fun j => if j < i then sg c_involution j else 0) ∧ RowOwn wr w.heap.size 0 7 (fun _ => 0) ∧ Below w.heap.size w wr) (fun t _ => 7 - (intOf t).toNat)
  case atStart => exact ⟨0, Nat.zero_le _, rfl, ⟨fun j hj => by rcases seven hj with rfl | rfl | rfl | rfl | rfl | rfl | rfl <;> simp [go_sem], fun j hj => by simp [go_sem]⟩, ⟨fun j hj => by rcases seven hj with rfl | rfl | rfl | rfl | rfl | rfl | rfl <;> simp [go_sem], fun j hj => by simp [go_sem]⟩, (below_alloc w _).alloc (by simp) _⟩
  case round =>
    obtain ⟨i, hi, rfl, hr, hz, hb⟩ := hrel
    have HR := Lib.hid hr
    have HZ := Lib.hid hz
    have HB := Lib.hid hb
    by_cases hlt : i < 7
    · have c0 := hr.cell i hlt
      have f0 := hr.free i hlt
      rw [Nat.zero_add] at c0 f0
      rw [if_neg (Nat.lt_irrefl _)] at c0
      obtain ⟨q, hq⟩ : ∃ q, q = c_involution i := ⟨_, rfl⟩
      have hq21 : q ≤ 21 := by rw [hq]; exact c_involution_le hlt
      have HQ := Lib.hid hq
      have hi1 : (i : Int) < 7 := by omega
      clear hr hz hb hq
      go_wp2_with (go_at_call 103; (with_reducible refine (involution_any i hlt _).mono ?_); rintro e w1 ⟨rfl, rfl⟩; rw [← HQ.out])
      go_roundw
      case rel => exact ⟨i + 1, by omega, by go_num, row_fill HR.out hlt (by unfold sg; rw [← HQ.out]; omega), HZ.out.stay (Below.heap_setCell _ _ _ _ (show w.heap.size ≠ w.heap.size + 1 by omega)), HB.out.trans ((wrote_put0 (Wrote.refl (w.heap.size + 1) 0 7 _) hlt _).belowB (by omega))⟩
      case measure => simp [intOf]; omega
    · have hn : i = 7 := by omega
      subst hn
      have A0 : wr.cell? ⟨w.heap.size + 1, 0, none⟩ = some (.int .i64 (1)) := hr.cell 0 (by omega)
      have A1 : wr.cell? ⟨w.heap.size + 1, 1, none⟩ = some (.int .i64 (-1)) := hr.cell 1 (by omega)
      have A2 : wr.cell? ⟨w.heap.size + 1, 2, none⟩ = some (.int .i64 (1)) := hr.cell 2 (by omega)
      have A3 : wr.cell? ⟨w.heap.size + 1, 3, none⟩ = some (.int .i64 (-1)) := hr.cell 3 (by omega)
      have A4 : wr.cell? ⟨w.heap.size + 1, 4, none⟩ = some (.int .i64 (1)) := hr.cell 4 (by omega)
      have A5 : wr.cell? ⟨w.heap.size + 1, 5, none⟩ = some (.int .i64 (-1)) := hr.cell 5 (by omega)
      have A6 : wr.cell? ⟨w.heap.size + 1, 6, none⟩ = some (.int .i64 (1)) := hr.cell 6 (by omega)
      have Z0 : wr.cell? ⟨w.heap.size, 0, none⟩ = some (.int .i64 0) := hz.cell 0 (by omega)
      have F0 : wr.frozen? ⟨w.heap.size, 0, none⟩ = false := hz.free 0 (by omega)
      have Z1 : wr.cell? ⟨w.heap.size, 1, none⟩ = some (.int .i64 0) := hz.cell 1 (by omega)
      have F1 : wr.frozen? ⟨w.heap.size, 1, none⟩ = false := hz.free 1 (by omega)
      have Z2 : wr.cell? ⟨w.heap.size, 2, none⟩ = some (.int .i64 0) := hz.cell 2 (by omega)
      have F2 : wr.frozen? ⟨w.heap.size, 2, none⟩ = false := hz.free 2 (by omega)
      have Z3 : wr.cell? ⟨w.heap.size, 3, none⟩ = some (.int .i64 0) := hz.cell 3 (by omega)
      have F3 : wr.frozen? ⟨w.heap.size, 3, none⟩ = false := hz.free 3 (by omega)
      have Z4 : wr.cell? ⟨w.heap.size, 4, none⟩ = some (.int .i64 0) := hz.cell 4 (by omega)
      have F4 : wr.frozen? ⟨w.heap.size, 4, none⟩ = false := hz.free 4 (by omega)
      have Z5 : wr.cell? ⟨w.heap.size, 5, none⟩ = some (.int .i64 0) := hz.cell 5 (by omega)
      have F5 : wr.frozen? ⟨w.heap.size, 5, none⟩ = false := hz.free 5 (by omega)
      have Z6 : wr.cell? ⟨w.heap.size, 6, none⟩ = some (.int .i64 0) := hz.cell 6 (by omega)
      have F6 : wr.frozen? ⟨w.heap.size, 6, none⟩ = false := hz.free 6 (by omega)
      clear hr hz
      go_wp2
      refine bodyPost_ret (v := .agg #[.int .i64 1, .int .i64 (-1), .int .i64 1, .int .i64 (-1), .int .i64 1, .int .i64 (-1), .int .i64 1]) (by simp [results, Try.results105, go_sem, Z0, Z1, Z2, Z3, Z4, Z5, Z6]) rfl ⟨rfl, ?_⟩
      have hb := HB.out
      have hz := hb.size
      (have hs_hb := hb.size; (repeat' (first | with_reducible exact Below.refl _ _ | (with_reducible refine Below.setCell ?_ ?_ _) | (with_reducible refine Below.alloc ?_ ?_ _) | (with_reducible refine Below.drew ?_) | (with_reducible refine below_step ?_ ?_ hb))); all_goals (first | (simp; done) | omega | (simp; omega) | (simp at hs_hb ⊢; omega)))
set_option maxRecDepth 100000 in
set_option maxHeartbeats 1600000 in
theorem signsBy_conjugation (w : World) : Calls Try.prog 105 #[.func (.func 104) #[] #[]] w fun e w' => e = .returned (.agg #[.int .i64 1, .int .i64 (-1), .int .i64 (-1), .int .i64 1, .int .i64 1, .int .i64 (-1), .int .i64 (-1)]) ∧ Below w.heap.size w w' := by
  go_enter Try.func105, Try.ntmps105
  go_wp2
  go_loopw [5] (fun t wr => ∃ i : Nat, i ≤ 7 ∧ t = .int .i64 i ∧ RowOwn wr (w.heap.size + 1) 0 7 (fun j => if j < i then sg c_conjugation j else 0) ∧ RowOwn wr w.heap.size 0 7 (fun _ => 0) ∧ Below w.heap.size w wr) (fun t _ => 7 - (intOf t).toNat)
  case atStart => exact ⟨0, Nat.zero_le _, rfl, ⟨fun j hj => by rcases seven hj with rfl | rfl | rfl | rfl | rfl | rfl | rfl <;> simp [go_sem], fun j hj => by simp [go_sem]⟩, ⟨fun j hj => by rcases seven hj with rfl | rfl | rfl | rfl | rfl | rfl | rfl <;> simp [go_sem], fun j hj => by simp [go_sem]⟩, (below_alloc w _).alloc (by simp) _⟩
  case round =>
    obtain ⟨i, hi, rfl, hr, hz, hb⟩ := hrel
    have HR := Lib.hid hr
    have HZ := Lib.hid hz
    have HB := Lib.hid hb
    by_cases hlt : i < 7
    · have c0 := hr.cell i hlt
      have f0 := hr.free i hlt
      rw [Nat.zero_add] at c0 f0
      rw [if_neg (Nat.lt_irrefl _)] at c0
      obtain ⟨q, hq⟩ : ∃ q, q = c_conjugation i := ⟨_, rfl⟩
      have hq21 : q ≤ 21 := by rw [hq]; exact c_conjugation_le hlt
      have HQ := Lib.hid hq
      have hi1 : (i : Int) < 7 := by omega
      clear hr hz hb hq
      go_wp2_with (go_at_call 104; (with_reducible refine (conjugation_any i hlt _).mono ?_); rintro e w1 ⟨rfl, rfl⟩; rw [← HQ.out])
      go_roundw
      case rel => exact ⟨i + 1, by omega, by go_num, row_fill HR.out hlt (by unfold sg; rw [← HQ.out]; omega), HZ.out.stay (Below.heap_setCell _ _ _ _ (show w.heap.size ≠ w.heap.size + 1 by omega)), HB.out.trans ((wrote_put0 (Wrote.refl (w.heap.size + 1) 0 7 _) hlt _).belowB (by omega))⟩
      case measure => simp [intOf]; omega
    · have hn : i = 7 := by omega
      subst hn
      have A0 : wr.cell? ⟨w.heap.size + 1, 0, none⟩ = some (.int .i64 (1)) := hr.cell 0 (by omega)
      have A1 : wr.cell? ⟨w.heap.size + 1, 1, none⟩ = some (.int .i64 (-1)) := hr.cell 1 (by omega)
      have A2 : wr.cell? ⟨w.heap.size + 1, 2, none⟩ = some (.int .i64 (-1)) := hr.cell 2 (by omega)
      have A3 : wr.cell? ⟨w.heap.size + 1, 3, none⟩ = some (.int .i64 (1)) := hr.cell 3 (by omega)
      have A4 : wr.cell? ⟨w.heap.size + 1, 4, none⟩ = some (.int .i64 (1)) := hr.cell 4 (by omega)
      have A5 : wr.cell? ⟨w.heap.size + 1, 5, none⟩ = some (.int .i64 (-1)) := hr.cell 5 (by omega)
      have A6 : wr.cell? ⟨w.heap.size + 1, 6, none⟩ = some (.int .i64 (-1)) := hr.cell 6 (by omega)
      have Z0 : wr.cell? ⟨w.heap.size, 0, none⟩ = some (.int .i64 0) := hz.cell 0 (by omega)
      have F0 : wr.frozen? ⟨w.heap.size, 0, none⟩ = false := hz.free 0 (by omega)
      have Z1 : wr.cell? ⟨w.heap.size, 1, none⟩ = some (.int .i64 0) := hz.cell 1 (by omega)
      have F1 : wr.frozen? ⟨w.heap.size, 1, none⟩ = false := hz.free 1 (by omega)
      have Z2 : wr.cell? ⟨w.heap.size, 2, none⟩ = some (.int .i64 0) := hz.cell 2 (by omega)
      have F2 : wr.frozen? ⟨w.heap.size, 2, none⟩ = false := hz.free 2 (by omega)
      have Z3 : wr.cell? ⟨w.heap.size, 3, none⟩ = some (.int .i64 0) := hz.cell 3 (by omega)
      have F3 : wr.frozen? ⟨w.heap.size, 3, none⟩ = false := hz.free 3 (by omega)
      have Z4 : wr.cell? ⟨w.heap.size, 4, none⟩ = some (.int .i64 0) := hz.cell 4 (by omega)
      have F4 : wr.frozen? ⟨w.heap.size, 4, none⟩ = false := hz.free 4 (by omega)
      have Z5 : wr.cell? ⟨w.heap.size, 5, none⟩ = some (.int .i64 0) := hz.cell 5 (by omega)
      have F5 : wr.frozen? ⟨w.heap.size, 5, none⟩ = false := hz.free 5 (by omega)
      have Z6 : wr.cell? ⟨w.heap.size, 6, none⟩ = some (.int .i64 0) := hz.cell 6 (by omega)
      have F6 : wr.frozen? ⟨w.heap.size, 6, none⟩ = false := hz.free 6 (by omega)
      clear hr hz
      go_wp2
      refine bodyPost_ret (v := .agg #[.int .i64 1, .int .i64 (-1), .int .i64 (-1), .int .i64 1, .int .i64 1, .int .i64 (-1), .int .i64 (-1)]) (by simp [results, Try.results105, go_sem, Z0, Z1, Z2, Z3, Z4, Z5, Z6]) rfl ⟨rfl, ?_⟩
      have hb := HB.out
      have hz := hb.size
      (have hs_hb := hb.size; (repeat' (first | with_reducible exact Below.refl _ _ | (with_reducible refine Below.setCell ?_ ?_ _) | (with_reducible refine Below.alloc ?_ ?_ _) | (with_reducible refine Below.drew ?_) | (with_reducible refine below_step ?_ ?_ hb))); all_goals (first | (simp; done) | omega | (simp; omega) | (simp at hs_hb ⊢; omega)))

end Go.Proofs.Ytcamegdjdjacpaa

namespace Go.Proofs.Ytcamegdjdjacpaa
open Go.RowKit
set_option linter.unusedVariables false

theorem eps_add (a b : Nat) : eps (a + b) = eps a * eps b := by
  unfold eps
  rcases Nat.mod_two_eq_zero_or_one a with ha | ha <;> rcases Nat.mod_two_eq_zero_or_one b with hb | hb <;> simp [ha, hb, Nat.add_mod]
theorem eps_mod {a b : Nat} (h : a % 2 = b % 2) : eps a = eps b := by unfold eps; rw [h]
/-- How often basis vectors of the second blade pass later ones of the first. -/
def sgn (a b : Nat) : Nat → Nat
  | 0 => 0
  | n + 1 => sgn a b n + b / 2 ^ n % 2 * gr (a / 2 ^ (n + 1))
/-- The squares of the basis vectors that two blades share. -/
def shr (S : List Int) (a b : Nat) : Nat → Int
  | 0 => 1
  | n + 1 => shr S a b n * (if b / 2 ^ n % 2 = 1 ∧ a / 2 ^ n % 2 = 1 then S.getD n 0 else 1)
theorem shr_comm (S : List Int) (a b : Nat) : ∀ n, shr S a b n = shr S b a n
  | 0 => rfl
  | n + 1 => by
    simp only [shr]
    rw [shr_comm S a b n]
    congr 1
    by_cases h : b / 2 ^ n % 2 = 1 ∧ a / 2 ^ n % 2 = 1
    · rw [if_pos h, if_pos ⟨h.2, h.1⟩]
    · rw [if_neg h, if_neg (fun k => h ⟨k.2, k.1⟩)]
theorem fz_split (S : List Int) (a b : Nat) : ∀ n, fz S a b n = eps (sgn a b n) * shr S a b n
  | 0 => rfl
  | n + 1 => by
    simp only [fz, sgn, shr]
    rw [fz_split S a b n, eps_add]
    have h : gi S a b n = eps (b / 2 ^ n % 2 * gr (a / 2 ^ (n + 1))) * (if b / 2 ^ n % 2 = 1 ∧ a / 2 ^ n % 2 = 1 then S.getD n 0 else 1) := by
      unfold gi
      rcases Nat.mod_two_eq_zero_or_one (b / 2 ^ n) with hb | hb
      · rw [hb]; simp [eps]
      · rw [hb]; simp
    rw [h]
    generalize eps (sgn a b n) = x1
    generalize shr S a b n = x2
    generalize eps (b / 2 ^ n % 2 * gr (a / 2 ^ (n + 1))) = x3
    ac_rfl
def passes : Bool := (List.range 7).all fun n => (List.range (2 ^ n)).all fun a => (List.range (2 ^ n)).all fun b => (c_reversal (gr (a ^^^ b)) + sgn a b n) % 2 == (c_reversal (gr a) + c_reversal (gr b) + sgn b a n) % 2
set_option maxRecDepth 100000 in
theorem passes_all : passes = true := by decide +kernel
theorem passes_at {n a b : Nat} (hn : n ≤ 6) (ha : a < 2 ^ n) (hb : b < 2 ^ n) : (c_reversal (gr (a ^^^ b)) + sgn a b n) % 2 = (c_reversal (gr a) + c_reversal (gr b) + sgn b a n) % 2 := by
  have h := passes_all
  unfold passes at h
  rw [List.all_eq_true] at h
  have h1 := h n (List.mem_range.2 (by omega))
  rw [List.all_eq_true] at h1
  have h2 := h1 a (List.mem_range.2 ha)
  rw [List.all_eq_true] at h2
  have h3 := h2 b (List.mem_range.2 hb)
  simpa using h3
theorem fz_turn (S : List Int) {n a b : Nat} (hn : n ≤ 6) (ha : a < 2 ^ n) (hb : b < 2 ^ n) :
    eps (c_reversal (gr (a ^^^ b))) * fz S a b n = eps (c_reversal (gr a)) * eps (c_reversal (gr b)) * fz S b a n := by
  rw [fz_split, fz_split, shr_comm S a b n, ← Int.mul_assoc, ← Int.mul_assoc, ← eps_add, ← eps_add, ← eps_add, eps_mod (passes_at hn ha hb)]
/-- A multivector with the sign that a grade has. -/
theorem sgR_eq {p : Int} {c : Nat → Nat} {x : List Int} {j : Nat} (h : 0 ≤ x.getD j 0 ∧ x.getD j 0 < p) : sgF p c x j = eps (c (gr j)) * x.getD j 0 % p := by
  unfold sgF eps
  split
  · rw [Int.neg_one_mul, Int.sub_eq_add_neg, Int.add_comm, Int.add_emod_right]
  · rw [Int.one_mul, Int.emod_eq_of_lt h.1 h.2]
theorem sgM_at (p : Int) (c : Nat → Nat) (x : List Int) {j : Nat} (hj : j < x.length) : (mkR x.length (sgF p c x)).getD j 0 = sgF p c x j := mkR_at _ hj
theorem sgM_num {p : Int} (hp : 0 < p) {c : Nat → Nat} {x : List Int} (hn : ∀ j, j < x.length → 0 ≤ x.getD j 0 ∧ x.getD j 0 < p) : ∀ j, j < (mkR x.length (sgF p c x)).length → 0 ≤ (mkR x.length (sgF p c x)).getD j 0 ∧ (mkR x.length (sgF p c x)).getD j 0 < p := fun j hj => by
  rw [mkR_len] at hj
  rw [sgM_at _ _ _ hj, sgR_eq (hn j hj)]
  exact ⟨Int.emod_nonneg _ (by omega), Int.emod_lt_of_pos _ hp⟩
/-- The signs of two grade functions, one behind the other. -/
theorem sg_twice {p : Int} (hp : 0 < p) (c d : Nat → Nat) {x : List Int} (hn : ∀ j, j < x.length → 0 ≤ x.getD j 0 ∧ x.getD j 0 < p) {j : Nat} (hj : j < x.length) :
    sgF p c (mkR x.length (sgF p d x)) j = eps (c (gr j)) * eps (d (gr j)) * x.getD j 0 % p := by
  have h := sgM_num hp (c := d) hn j (by rw [mkR_len]; exact hj)
  rw [sgR_eq h, sgM_at _ _ _ hj, sgR_eq (hn j hj), Int.mul_emod, Int.emod_emod, ← Int.mul_emod, Int.mul_assoc]
theorem sg_back {p : Int} (hp : 0 < p) (c : Nat → Nat) {x : List Int} (hn : ∀ j, j < x.length → 0 ≤ x.getD j 0 ∧ x.getD j 0 < p) :
    mkR (mkR x.length (sgF p c x)).length (sgF p c (mkR x.length (sgF p c x))) = x := by
  have h : mkR (mkR x.length (sgF p c x)).length (sgF p c (mkR x.length (sgF p c x))) = mkR x.length (fun j => x.getD j 0) := by
    rw [mkR_len]
    exact mkR_congr fun j hj => by rw [sg_twice hp c c hn hj, eps_sq, Int.one_mul, Int.emod_eq_of_lt (hn j hj).1 (hn j hj).2]
  rw [h]
  exact mkR_self x
theorem sg_conj {p : Int} (hp : 0 < p) {x : List Int} (hn : ∀ j, j < x.length → 0 ≤ x.getD j 0 ∧ x.getD j 0 < p) :
    mkR (mkR x.length (sgF p c_involution x)).length (sgF p c_reversal (mkR x.length (sgF p c_involution x))) = mkR x.length (sgF p c_conjugation x) := by
  rw [mkR_len]
  exact mkR_congr fun j hj => by rw [sg_twice hp _ _ hn hj, sgR_eq (hn j hj), ← eps_add]; rfl
theorem sg_mod {p : Int} {c : Nat → Nat} {x : List Int} (hn : ∀ j, j < x.length → 0 ≤ x.getD j 0 ∧ x.getD j 0 < p) {j : Nat} (hj : j < x.length) : (mkR x.length (sgF p c x)).getD j 0 % p = (eps (c (gr j)) * x.getD j 0) % p := by
  rw [sgM_at _ _ _ hj, sgR_eq (hn j hj), Int.emod_emod]
theorem sg_prod {p : Int} {c : Nat → Nat} {S x y : List Int} (hp : 0 < p) {d : Nat} (hd : d < bl S) : sgF p c (prodM p S x y) d = (eps (c (gr d)) * gpz S S.length (fun j => x.getD j 0) (fun j => y.getD j 0) d) % p := by
  have h := prodM_num hp S x y d (by rw [prodM_len]; exact hd)
  rw [sgR_eq h, prodM_at _ _ _ _ hd]
  unfold prodF
  rw [Int.mul_emod, Int.emod_emod, ← Int.mul_emod]
theorem gpz_turn (S : List Int) (h6 : S.length ≤ 6) (x y : Nat → Int) {d : Nat} (hd : d < 2 ^ S.length) :
    eps (c_reversal (gr d)) * gpz S S.length x y d = gpz S S.length (fun j => eps (c_reversal (gr j)) * y j) (fun j => eps (c_reversal (gr j)) * x j) d := by
  unfold gpz
  rw [← sm_xor S.length d hd (fun a => eps (c_reversal (gr a)) * y a * fz S a (a ^^^ d) S.length * (eps (c_reversal (gr (a ^^^ d))) * x (a ^^^ d))), ← sm_mul]
  apply sm_congr
  intro a ha
  have hb : a ^^^ d < 2 ^ S.length := Nat.xor_lt_two_pow ha hd
  have e : a ^^^ (a ^^^ d) = d := by rw [← Nat.xor_assoc, Nat.xor_self, Nat.zero_xor]
  have e2 : a ^^^ d ^^^ d = a := by rw [Nat.xor_assoc, Nat.xor_self, Nat.xor_zero]
  have h := fz_turn S h6 ha hb
  rw [e] at h
  simp only [e2]
  generalize eps (c_reversal (gr d)) = t1 at *
  generalize eps (c_reversal (gr a)) = t2 at *
  generalize eps (c_reversal (gr (a ^^^ d))) = t3 at *
  generalize fz S a (a ^^^ d) S.length = f1 at *
  generalize fz S (a ^^^ d) a S.length = f2 at *
  generalize x a = u
  generalize y (a ^^^ d) = v
  calc t1 * (u * f1 * v) = (t1 * f1) * u * v := by ac_rfl
    _ = (t2 * t3 * f2) * u * v := by rw [h]
    _ = t3 * v * f2 * (t2 * u) := by ac_rfl
theorem gpz_inv (S : List Int) (x y : Nat → Int) {d : Nat} (hd : d < 2 ^ S.length) :
    eps (c_involution (gr d)) * gpz S S.length x y d = gpz S S.length (fun j => eps (c_involution (gr j)) * x j) (fun j => eps (c_involution (gr j)) * y j) d := by
  unfold gpz
  rw [← sm_mul]
  apply sm_congr
  intro a ha
  have e : a ^^^ (a ^^^ d) = d := by rw [← Nat.xor_assoc, Nat.xor_self, Nat.zero_xor]
  have h := eps_xor a (a ^^^ d)
  rw [e] at h
  show eps (gr d) * _ = eps (gr a) * x a * _ * (eps (gr (a ^^^ d)) * y (a ^^^ d))
  rw [h]
  generalize eps (gr a) = t2 at *
  generalize eps (gr (a ^^^ d)) = t3 at *
  generalize fz S a (a ^^^ d) S.length = f1 at *
  generalize x a = u
  generalize y (a ^^^ d) = v
  ac_rfl
/-- The reverse of a product is the product of the reverses, turned round. -/
theorem rev_prod {p : Int} (hp : 0 < p) {S x y : List Int} (h6 : S.length ≤ 6) (hx : x.length = bl S) (hy : y.length = bl S) (nx : ∀ j, j < x.length → 0 ≤ x.getD j 0 ∧ x.getD j 0 < p) (ny : ∀ j, j < y.length → 0 ≤ y.getD j 0 ∧ y.getD j 0 < p) :
    prodM p S (mkR y.length (sgF p c_reversal y)) (mkR x.length (sgF p c_reversal x)) = mkR (prodM p S x y).length (sgF p c_reversal (prodM p S x y)) := by
  rw [prodM_len]
  exact mkR_congr fun d hd => by
    rw [sg_prod hp hd, gpz_turn S h6 _ _ hd]
    exact gpz_mod S S.length hd (fun j hj => sg_mod ny (by rw [hy]; exact hj)) (fun j hj => sg_mod nx (by rw [hx]; exact hj))
theorem inv_prod {p : Int} (hp : 0 < p) {S x y : List Int} (hx : x.length = bl S) (hy : y.length = bl S) (nx : ∀ j, j < x.length → 0 ≤ x.getD j 0 ∧ x.getD j 0 < p) (ny : ∀ j, j < y.length → 0 ≤ y.getD j 0 ∧ y.getD j 0 < p) :
    prodM p S (mkR x.length (sgF p c_involution x)) (mkR y.length (sgF p c_involution y)) = mkR (prodM p S x y).length (sgF p c_involution (prodM p S x y)) := by
  rw [prodM_len]
  exact mkR_congr fun d hd => by
    rw [sg_prod hp hd, gpz_inv S _ _ hd]
    exact gpz_mod S S.length hd (fun j hj => sg_mod nx (by rw [hx]; exact hj)) (fun j hj => sg_mod ny (by rw [hy]; exact hj))

end Go.Proofs.Ytcamegdjdjacpaa

namespace Go.Proofs.Ytcamegdjdjacpaa
open Go.RowKit
set_option linter.unusedVariables false

theorem half_zero {p v : Int} (hp : p % 2 = 1) (h0 : 0 ≤ v) (h1 : v < p) (h : (p - v) % p = v) : v = 0 := by
  by_cases hv : v = 0
  · exact hv
  · rw [Int.emod_eq_of_lt (by omega) (by omega)] at h; omega
theorem ev_inv {p : Int} (hp : p % 2 = 1) {x : List Int} (hn : ∀ j, j < x.length → 0 ≤ x.getD j 0 ∧ x.getD j 0 < p) : isEv x = decide (x = mkR x.length (sgF p c_involution x)) := by
  cases e : isEv x with
  | true =>
    rw [isEv_iff] at e
    have h : mkR x.length (sgF p c_involution x) = mkR x.length (fun j => x.getD j 0) := mkR_congr fun j hj => by
      unfold sgF
      split
      · rename_i hc
        have hz : x.getD j 0 = 0 := by
          by_cases hz : x.getD j 0 = 0
          · exact hz
          · have := e j hj hz
            unfold c_involution at hc
            omega
        rw [hz, Int.sub_zero, Int.emod_self]
      · rfl
    rw [h, mkR_self]
    simp
  | false =>
    symm
    apply decide_eq_false
    intro hx
    have : isEv x = true := isEv_iff.2 fun j hj hz => by
      by_cases h2 : gr j % 2 = 1
      · exfalso
        have h3 : x.getD j 0 = sgF p c_involution x j := by rw [← sgM_at p c_involution x hj, ← hx]
        unfold sgF c_involution at h3
        rw [if_pos h2] at h3
        exact hz (half_zero hp (hn j hj).1 (hn j hj).2 h3.symm)
      · omega
    rw [e] at this
    cases this
/-- All numbers are 0. -/
def zB (z : List Int) : Bool := (List.range z.length).all fun j => decide (z.getD j 0 = 0)
theorem zB_iff {z : List Int} : zB z = true ↔ ∀ j, j < z.length → z.getD j 0 = 0 := by
  unfold zB
  simp only [List.all_eq_true, List.mem_range, decide_eq_true_eq]
theorem zB_no {z : List Int} {i : Nat} (hi : i < z.length) (h : z.getD i 0 ≠ 0) : zB z = false := by
  cases e : zB z with
  | false => rfl
  | true => exact absurd (zB_iff.1 e i hi) h
/-- A number is among them. -/
def hB (z : List Int) (v : Int) : Bool := (List.range z.length).any fun j => decide (z.getD j 0 = v)
theorem hB_iff {z : List Int} {v : Int} : hB z v = true ↔ ∃ j, j < z.length ∧ z.getD j 0 = v := by
  unfold hB
  simp only [List.any_eq_true, List.mem_range, decide_eq_true_eq]
theorem hB_no {z : List Int} {v : Int} (h : ∀ j, j < z.length → z.getD j 0 ≠ v) : hB z v = false := by
  cases e : hB z v with
  | false => rfl
  | true =>
    obtain ⟨j, hj, hv⟩ := hB_iff.1 e
    exact absurd hv (h j hj)
theorem hB_mem {z : List Int} {v : Int} : hB z v = true ↔ v ∈ z := by
  rw [hB_iff]
  constructor
  · rintro ⟨j, hj, rfl⟩
    rw [getD_at hj]
    exact List.getElem_mem hj
  · intro h
    obtain ⟨j, hj, e⟩ := List.getElem_of_mem h
    exact ⟨j, hj, by rw [getD_at hj]; exact e⟩
theorem zero_part (x : List Int) (k : Nat) : zB (partM x (k : Int)) = !hasGr x k := by
  cases e : hasGr x k with
  | true =>
    obtain ⟨j, hj, hg, hv⟩ := hasGr_iff.1 e
    refine zB_no (i := j) (by unfold partM; rw [mkR_len]; exact hj) ?_
    unfold partM
    rw [mkR_at _ hj, if_pos (by omega)]
    exact hv
  | false =>
    refine zB_iff.2 fun j hj => ?_
    unfold partM at hj ⊢
    rw [mkR_len] at hj
    rw [mkR_at _ hj]
    split
    · rename_i hg
      by_cases hv : x.getD j 0 = 0
      · exact hv
      · have : hasGr x k = true := hasGr_iff.2 ⟨j, hj, by omega, hv⟩
        rw [e] at this
        cases this
    · rfl
theorem has_grade {S x : List Int} {k : Nat} (hk : k ≤ S.length) : hB (grades S x) (k : Int) = hasGr x k := by
  cases e : hasGr x k with
  | true =>
    refine hB_mem.2 ?_
    unfold grades
    exact List.mem_map.2 ⟨k, List.mem_filter.2 ⟨List.mem_range.2 (by omega), e⟩, rfl⟩
  | false =>
    cases e2 : hB (grades S x) (k : Int) with
    | false => rfl
    | true =>
      have h := hB_mem.1 e2
      unfold grades at h
      obtain ⟨m, hm, hv⟩ := List.mem_map.1 h
      have hmk : m = k := by omega
      subst hmk
      have := (List.mem_filter.1 hm).2
      rw [e] at this
      cases this
/-- The sum of the parts of the first grades. -/
def upTo (x : List Int) (i : Nat) : List Int := mkR x.length fun j => if gr j < i then x.getD j 0 else 0
theorem upTo_len (x : List Int) (i : Nat) : (upTo x i).length = x.length := mkR_len _ _
theorem upTo_zero (x : List Int) : upTo x 0 = mkR x.length (fun _ => 0) := mkR_congr fun j _ => if_neg (by omega)
theorem upTo_step {p : Int} {x : List Int} (hn : ∀ j, j < x.length → 0 ≤ x.getD j 0 ∧ x.getD j 0 < p) (i : Nat) : plusR p (upTo x i) (partM x (i : Int)) 1 = upTo x (i + 1) := by
  unfold plusR
  rw [upTo_len]
  exact mkR_congr fun j hj => by
    obtain ⟨h0, h1⟩ := hn j hj
    unfold upTo partM
    rw [mkR_at _ hj, mkR_at _ hj, Int.one_mul]
    by_cases a : gr j < i
    · rw [if_pos a, if_neg (by omega), if_pos (by omega), Int.add_zero, Int.emod_eq_of_lt h0 h1]
    · by_cases b : gr j = i
      · rw [if_neg a, if_pos (by omega), if_pos (by omega), Int.zero_add, Int.emod_eq_of_lt h0 h1]
      · rw [if_neg a, if_neg (by omega), if_neg (by omega)]; rfl
theorem upTo_all {S x : List Int} (h6 : S.length ≤ 6) (hx : x.length = bl S) : upTo x (S.length + 1) = x := by
  have h : upTo x (S.length + 1) = mkR x.length (fun j => x.getD j 0) := mkR_congr fun j hj => if_pos (by
    have := gr_le_of h6 (m := j) (by rw [hx] at hj; exact hj)
    omega)
  rw [h]
  exact mkR_self x
theorem upTo_num {p : Int} (hp : 0 < p) {x : List Int} (hn : ∀ j, j < x.length → 0 ≤ x.getD j 0 ∧ x.getD j 0 < p) (i : Nat) : ∀ j, j < (upTo x i).length → 0 ≤ (upTo x i).getD j 0 ∧ (upTo x i).getD j 0 < p := fun j hj => by
  rw [upTo_len] at hj
  unfold upTo
  rw [mkR_at _ hj]
  split
  · exact hn j hj
  · omega
theorem partM_num {p : Int} (hp : 0 < p) {x : List Int} (hn : ∀ j, j < x.length → 0 ≤ x.getD j 0 ∧ x.getD j 0 < p) (k : Int) : ∀ j, j < (partM x k).length → 0 ≤ (partM x k).getD j 0 ∧ (partM x k).getD j 0 < p := fun j hj => by
  unfold partM at hj ⊢
  rw [mkR_len] at hj
  rw [mkR_at _ hj]
  split
  · exact hn j hj
  · omega

end Go.Proofs.Ytcamegdjdjacpaa

namespace Go.Proofs.Ytcamegdjdjacpaa
open Go.RowKit
set_option linter.unusedVariables false

theorem list_ext' {a c : List Int} (hl : a.length = c.length) (h : ∀ j, j < a.length → a.getD j 0 = c.getD j 0) : a = c := by
  rw [← mkR_self a, ← mkR_self c, ← hl]
  exact mkR_congr h

set_option maxHeartbeats 1600000 in
theorem likeInts_any (a c : Option Addr) (x y : List Int) (k1 k2 lo hi lo' hi' : Nat) (w : World) (hb : RowIn lo hi w a x) (hc : RowIn lo' hi' w c y) (he : x.length = y.length) (hl : x.length ≤ 1048576) :
    Calls Try.prog 16 #[.slice a x.length k1, .slice c y.length k2] w fun e w' => e = .returned (.bool (decide (x = y))) ∧ Quiet w w' := by
  have HB := Lib.hid hb
  have HC := Lib.hid hc
  have HE := Lib.hid he
  have e0 : ((x.length : Int) != (y.length : Int)) = false := by simp; omega
  clear hb hc
  go_enter Try.func16, Try.ntmps16
  go_wp2
  go_loopw [5] (fun t wr => ∃ i : Nat, i ≤ x.length ∧ t = .int .i64 i ∧ (∀ j, j < i → x.getD j 0 = y.getD j 0) ∧ (∃ n, wr = w.drewN n)) (fun t _ => x.length - (intOf t).toNat)
  case atStart => exact ⟨0, Nat.zero_le _, rfl, fun j hj => by omega, 0, rfl⟩
  case round =>
    obtain ⟨i, hi, rfl, hpre, n, rfl⟩ := hrel
    have HPRE := Lib.hid hpre
    clear hpre
    by_cases hlt : i < x.length
    · obtain ⟨b1, o1, ha1, _, _, hb1⟩ := HB.out.num hlt
      obtain ⟨b2, o2, ha2, _, _, hb2⟩ := HC.out.num (by omega : i < y.length)
      subst ha1
      subst ha2
      have hly : i < y.length := by omega
      have hlt1 : (i : Int) < (x.length : Int) := by omega
      have hly1 : (i : Int) < (y.length : Int) := by omega
      obtain ⟨u, hu⟩ : ∃ u, u = x.getD i 0 := ⟨_, rfl⟩
      obtain ⟨v, hv⟩ : ∃ v, v = y.getD i 0 := ⟨_, rfl⟩
      have HU := Lib.hid hu
      have HV := Lib.hid hv
      rw [← hu] at hb1
      rw [← hv] at hb2
      clear hu hv
      by_cases huv : u = v
      · subst huv
        go_wp2
        go_quiet (fail)
        go_wp2
        go_roundw
        case rel => exact ⟨i + 1, by omega, by go_num, fun j hj => by
          by_cases hji : j = i
          · rw [hji, ← HU.out]; exact HV.out
          · exact HPRE.out j (by omega), _, rfl⟩
        case measure => simp [intOf]; omega
      · have hd : decide (x = y) = false := decide_eq_false fun h => huv (by rw [HU.out, HV.out, h])
        have ne : (u != v) = true := by simpa using huv
        go_wp2
        go_quiet (fail)
        go_wp2
        go_ret
        exact ⟨by first | rfl | exact congrArg (fun b => Ending.returned (.bool b)) hd.symm, Quiet.trans ⟨n, rfl⟩ ⟨_, rfl⟩⟩
    · have hd : decide (x = y) = true := decide_eq_true (list_ext' HE.out fun j hj => HPRE.out j (by omega))
      have hlt1 : ¬ (i : Int) < (x.length : Int) := by omega
      go_wp2
      go_ret
      exact ⟨by first | rfl | exact congrArg (fun b => Ending.returned (.bool b)) hd.symm, n, rfl⟩

set_option maxHeartbeats 800000 in
theorem zero5_any (a : Option Addr) (z : List Int) (k1 lo hi : Nat) (w : World) (hb : RowIn lo hi w a z) (hl : z.length ≤ 1048576) :
    Calls Try.prog 44 #[.slice a z.length k1] w fun e w' => e = .returned (.bool (zB z)) ∧ Quiet w w' := by
  have HB := Lib.hid hb
  clear hb
  go_enter Try.func44, Try.ntmps44
  go_wp2
  go_loopw [3] (fun t wr => ∃ i : Nat, i ≤ z.length ∧ t = .int .i64 i ∧ (∀ j, j < i → z.getD j 0 = 0) ∧ (∃ n, wr = w.drewN n)) (fun t _ => z.length - (intOf t).toNat)
  case atStart => exact ⟨0, Nat.zero_le _, rfl, fun j hj => by omega, 0, rfl⟩
  case round =>
    obtain ⟨i, hi, rfl, hpre, n, rfl⟩ := hrel
    have HPRE := Lib.hid hpre
    clear hpre
    by_cases hlt : i < z.length
    · obtain ⟨b1, o1, ha1, _, _, hb1⟩ := HB.out.num hlt
      subst ha1
      have hlt1 : (i : Int) < (z.length : Int) := by omega
      obtain ⟨u, hu⟩ : ∃ u, u = z.getD i 0 := ⟨_, rfl⟩
      have HU := Lib.hid hu
      rw [← hu] at hb1
      clear hu
      by_cases hu0 : u = 0
      · subst hu0
        go_wp2
        go_roundw
        case rel => exact ⟨i + 1, by omega, by go_num, fun j hj => by
          by_cases hji : j = i
          · rw [hji]; exact HU.out.symm
          · exact HPRE.out j (by omega), _, rfl⟩
        case measure => simp [intOf]; omega
      · have hd : zB z = false := zB_no hlt (by rw [← HU.out]; exact hu0)
        have ne : (u != 0) = true := by simpa using hu0
        go_wp2
        go_ret
        exact ⟨by first | rfl | exact congrArg (fun b => Ending.returned (.bool b)) hd.symm, _, rfl⟩
    · have hd : zB z = true := zB_iff.2 fun j hj => HPRE.out j (by omega)
      have hlt1 : ¬ (i : Int) < (z.length : Int) := by omega
      go_wp2
      go_ret
      exact ⟨by first | rfl | exact congrArg (fun b => Ending.returned (.bool b)) hd.symm, n, rfl⟩

set_option maxHeartbeats 800000 in
theorem hasInt_any (a : Option Addr) (z : List Int) (k1 lo hi : Nat) (v : Int) (w : World) (hb : RowIn lo hi w a z) (hl : z.length ≤ 1048576) :
    Calls Try.prog 45 #[.slice a z.length k1, .int .i64 v] w fun e w' => e = .returned (.bool (hB z v)) ∧ Quiet w w' := by
  have HB := Lib.hid hb
  clear hb
  go_enter Try.func45, Try.ntmps45
  go_wp2
  go_loopw [5] (fun t wr => ∃ i : Nat, i ≤ z.length ∧ t = .int .i64 i ∧ (∀ j, j < i → z.getD j 0 ≠ v) ∧ (∃ n, wr = w.drewN n)) (fun t _ => z.length - (intOf t).toNat)
  case atStart => exact ⟨0, Nat.zero_le _, rfl, fun j hj => by omega, 0, rfl⟩
  case round =>
    obtain ⟨i, hi, rfl, hpre, n, rfl⟩ := hrel
    have HPRE := Lib.hid hpre
    clear hpre
    by_cases hlt : i < z.length
    · obtain ⟨b1, o1, ha1, _, _, hb1⟩ := HB.out.num hlt
      subst ha1
      have hlt1 : (i : Int) < (z.length : Int) := by omega
      obtain ⟨u, hu⟩ : ∃ u, u = z.getD i 0 := ⟨_, rfl⟩
      have HU := Lib.hid hu
      rw [← hu] at hb1
      clear hu
      by_cases hu0 : u = v
      · subst hu0
        have hd : hB z u = true := hB_iff.2 ⟨i, hlt, HU.out.symm⟩
        go_wp2
        go_ret
        exact ⟨by first | rfl | exact congrArg (fun b => Ending.returned (.bool b)) hd.symm, _, rfl⟩
      · have ne : (u == v) = false := by simpa using hu0
        go_wp2
        go_roundw
        case rel => exact ⟨i + 1, by omega, by go_num, fun j hj => by
          by_cases hji : j = i
          · rw [hji, ← HU.out]; exact hu0
          · exact HPRE.out j (by omega), _, rfl⟩
        case measure => simp [intOf]; omega
    · have hd : hB z v = false := hB_no fun j hj => HPRE.out j (by omega)
      have hlt1 : ¬ (i : Int) < (z.length : Int) := by omega
      go_wp2
      go_ret
      exact ⟨by first | rfl | exact congrArg (fun b => Ending.returned (.bool b)) hd.symm, n, rfl⟩

end Go.Proofs.Ytcamegdjdjacpaa
