/-
  Changes of signs by grades, and the signs of all grades: contracts of the program.
  Conditions: the lists are nil or rows of known cells, of at most 1048576 numbers.
  What the program's operations on numbers return: contracts of remainderOf, plus, minus, times.
  Conditions: the prime is one, and the numbers are remainders by it.
  A number that lies in memory: what keeps it, what writes it, what reads it.
  No conditions.
-/
import Derived.Test.YtlfjhffigkhmcaaGreatQe8
import Derived.Test.YtlfjhffigkhmcaaGreatQe1
import Derived.Outline
namespace Go.Proofs.YtlfjhffigkhmcaaGreat
open Go.RowKit
set_option linter.unusedVariables false

theorem seven {g : Nat} (h : g < 7) : g = 0 ∨ g = 1 ∨ g = 2 ∨ g = 3 ∨ g = 4 ∨ g = 5 ∨ g = 6 := by omega
/-- The sign of a grade. -/
def sg (c : Nat → Nat) (g : Nat) : Int := 1 - 2 * ((c g % 2 : Nat) : Int)
def c_reversal : Nat → Nat := fun g => g * (g - 1) / 2
theorem c_reversal_le {g : Nat} (hg : g < 7) : c_reversal g ≤ 21 := by rcases seven hg with rfl | rfl | rfl | rfl | rfl | rfl | rfl <;> decide
set_option maxHeartbeats 800000 in
theorem reversal_any (g : Nat) (hg : g < 7) (w : World) : Calls Tryz.prog 88 #[.int .i64 g] w fun e w' => e = .returned (.int .i64 (c_reversal g)) ∧ w = w' := by
  rcases seven hg with rfl | rfl | rfl | rfl | rfl | rfl | rfl <;>
  · go_enter Tryz.func88, Tryz.ntmps88
    go_wp2
    go_ret
    exact ⟨rfl, rfl⟩
def c_involution : Nat → Nat := fun g => g
theorem c_involution_le {g : Nat} (hg : g < 7) : c_involution g ≤ 21 := by rcases seven hg with rfl | rfl | rfl | rfl | rfl | rfl | rfl <;> decide
set_option maxHeartbeats 800000 in
theorem involution_any (g : Nat) (hg : g < 7) (w : World) : Calls Tryz.prog 104 #[.int .i64 g] w fun e w' => e = .returned (.int .i64 (c_involution g)) ∧ w = w' := by
  rcases seven hg with rfl | rfl | rfl | rfl | rfl | rfl | rfl <;>
  · go_enter Tryz.func104, Tryz.ntmps104
    go_wp2
    go_ret
    exact ⟨rfl, rfl⟩
set_option maxRecDepth 100000 in
set_option maxHeartbeats 1600000 in
theorem signsBy_reversal (w : World) : Calls Tryz.prog 103 #[.func (.func 88) #[] #[]] w fun e w' => e = .returned (.agg #[.int .i64 1, .int .i64 1, .int .i64 (-1), .int .i64 (-1), .int .i64 1, .int .i64 1, .int .i64 (-1)]) ∧ Below w.heap.size w w' := by
  go_enter Tryz.func103, Tryz.ntmps103
  go_wp2
  go_loopw [5] (fun t wr => ∃ i : Nat, i ≤ 7 ∧ t = .int .i64 i ∧ RowOwn wr (w.heap.size + 1) 0 7 (fun j => if j < i then sg c_reversal j else 0) ∧ RowOwn wr w.heap.size 0 7 (fun _ => 0) ∧ Below w.heap.size w wr) (fun t _ => 7 - (intOf t).toNat)
  case atStart => exact ⟨0, Nat.zero_le _, rfl, ⟨fun j hj => by rcases seven hj with rfl | rfl | rfl | rfl | rfl | rfl | rfl <;> simp [go_sem], fun j hj => by simp [go_sem]⟩, ⟨fun j hj => by rcases seven hj with rfl | rfl | rfl | rfl | rfl | rfl | rfl <;> simp [go_sem], fun j hj => by simp [go_sem]⟩, (below_alloc w _).alloc (by simp) _⟩
  case round =>
    obtain ⟨i, hi, rfl, hr, hz, hb⟩ := hrel
    have HR := Lib.hid hr
    have HZ := Lib.hid hz
    have HB := Lib.hid hb
    by_cases hlt : i < 7
    · have c0 := hr.cell i hlt
      have f0 := hr.free i hlt
      rw [Nat.zero_add] at c0 f0
      rw [if_neg (Nat.lt_irrefl _)] at c0
      obtain ⟨q, hq⟩ : ∃ q, q = c_reversal i := ⟨_, rfl⟩
      have hq21 : q ≤ 21 := by rw [hq]; exact c_reversal_le hlt
      have HQ := Lib.hid hq
      have hi1 : (i : Int) < 7 := by omega
      clear hr hz hb hq
      go_wp2_with (go_at_call 88; (with_reducible refine (reversal_any i hlt _).mono ?_); rintro e w1 ⟨rfl, rfl⟩; rw [← HQ.out])
      go_roundw
      case rel => exact ⟨i + 1, by omega, by go_num, row_fill HR.out hlt (by unfold sg; rw [← HQ.out]; omega), HZ.out.stay (Below.heap_setCell _ _ _ _ (show w.heap.size ≠ w.heap.size + 1 by omega)), HB.out.trans ((wrote_put0 (Wrote.refl (w.heap.size + 1) 0 7 _) hlt _).belowB (by omega))⟩
      case measure => simp [intOf]; omega
    · have hn : i = 7 := by omega
      subst hn
      have A0 : wr.cell? ⟨w.heap.size + 1, 0, none⟩ = some (.int .i64 (1)) := hr.cell 0 (by omega)
      have A1 : wr.cell? ⟨w.heap.size + 1, 1, none⟩ = some (.int .i64 (1)) := hr.cell 1 (by omega)
      have A2 : wr.cell? ⟨w.heap.size + 1, 2, none⟩ = some (.int .i64 (-1)) := hr.cell 2 (by omega)
      have A3 : wr.cell? ⟨w.heap.size + 1, 3, none⟩ = some (.int .i64 (-1)) := hr.cell 3 (by omega)
      have A4 : wr.cell? ⟨w.heap.size + 1, 4, none⟩ = some (.int .i64 (1)) := hr.cell 4 (by omega)
      have A5 : wr.cell? ⟨w.heap.size + 1, 5, none⟩ = some (.int .i64 (1)) := hr.cell 5 (by omega)
      have A6 : wr.cell? ⟨w.heap.size + 1, 6, none⟩ = some (.int .i64 (-1)) := hr.cell 6 (by omega)
      have Z0 : wr.cell? ⟨w.heap.size, 0, none⟩ = some (.int .i64 0) := hz.cell 0 (by omega)
      have F0 : wr.frozen? ⟨w.heap.size, 0, none⟩ = false := hz.free 0 (by omega)
      have Z1 : wr.cell? ⟨w.heap.size, 1, none⟩ = some (.int .i64 0) := hz.cell 1 (by omega)
      have F1 : wr.frozen? ⟨w.heap.size, 1, none⟩ = false := hz.free 1 (by omega)
      have Z2 : wr.cell? ⟨w.heap.size, 2, none⟩ = some (.int .i64 0) := hz.cell 2 (by omega)
      have F2 : wr.frozen? ⟨w.heap.size, 2, none⟩ = false := hz.free 2 (by omega)
      have Z3 : wr.cell? ⟨w.heap.size, 3, none⟩ = some (.int .i64 0) := hz.cell 3 (by omega)
      have F3 : wr.frozen? ⟨w.heap.size, 3, none⟩ = false := hz.free 3 (by omega)
      have Z4 : wr.cell? ⟨w.heap.size, 4, none⟩ = some (.int .i64 0) := hz.cell 4 (by omega)
      have F4 : wr.frozen? ⟨w.heap.size, 4, none⟩ = false := hz.free 4 (by omega)
      have Z5 : wr.cell? ⟨w.heap.size, 5, none⟩ = some (.int .i64 0) := hz.cell 5 (by omega)
      have F5 : wr.frozen? ⟨w.heap.size, 5, none⟩ = false := hz.free 5 (by omega)
      have Z6 : wr.cell? ⟨w.heap.size, 6, none⟩ = some (.int .i64 0) := hz.cell 6 (by omega)
      have F6 : wr.frozen? ⟨w.heap.size, 6, none⟩ = false := hz.free 6 (by omega)
      clear hr hz
      go_wp2
      refine bodyPost_ret (v := .agg #[.int .i64 1, .int .i64 1, .int .i64 (-1), .int .i64 (-1), .int .i64 1, .int .i64 1, .int .i64 (-1)]) (by simp [results, Tryz.results103, go_sem, Z0, Z1, Z2, Z3, Z4, Z5, Z6]) rfl ⟨rfl, ?_⟩
      have hb := HB.out
      have hz := hb.size
      (have hs_hb := hb.size; (repeat' (first | with_reducible exact Below.refl _ _ | (with_reducible refine Below.setCell ?_ ?_ _) | (with_reducible refine Below.alloc ?_ ?_ _) | (with_reducible refine Below.drew ?_) | (with_reducible refine below_step ?_ ?_ hb))); all_goals (first | (simp; done) | omega | (simp; omega) | (simp at hs_hb ⊢; omega)))
set_option maxRecDepth 100000 in
set_option maxHeartbeats 1600000 in
theorem signsBy_involution (w : World) : Calls Tryz.prog 103 #[.func (.func 104) #[] #[]] w fun e w' => e = .returned (.agg #[.int .i64 1, .int .i64 (-1), .int .i64 1, .int .i64 (-1), .int .i64 1, .int .i64 (-1), .int .i64 1]) ∧ Below w.heap.size w w' := by
  go_enter Tryz.func103, Tryz.ntmps103
  go_wp2
  go_loopw [5] (fun t wr => ∃ i : Nat, i ≤ 7 ∧ t = .int .i64 i ∧ RowOwn wr (w.heap.size + 1) 0 7 (fun j => if j < i then sg c_involution j else 0) ∧ RowOwn wr w.heap.size 0 7 (fun _ => 0) ∧ Below w.heap.size w wr) (fun t _ => 7 - (intOf t).toNat)
  case atStart => exact ⟨0, Nat.zero_le _, rfl, ⟨fun j hj => by rcases seven hj with rfl | rfl | rfl | rfl | rfl | rfl | rfl <;> simp [go_sem], fun j hj => by simp [go_sem]⟩, ⟨fun j hj => by rcases seven hj with rfl | rfl | rfl | rfl | rfl | rfl | rfl <;> simp [go_sem], fun j hj => by simp [go_sem]⟩, (below_alloc w _).alloc (by simp) _⟩
  case round =>
    obtain ⟨i, hi, rfl, hr, hz, hb⟩ := hrel
    have HR := Lib.hid hr
    have HZ := Lib.hid hz
    have HB := Lib.hid hb
    by_cases hlt : i < 7
    · have c0 := hr.cell i hlt
      have f0 := hr.free i hlt
      rw [Nat.zero_add] at c0 f0
      rw [if_neg (Nat.lt_irrefl _)] at c0
      obtain ⟨q, hq⟩ : ∃ q, q = c_involution i := ⟨_, rfl⟩
      have hq21 : q ≤ 21 := by rw [hq]; exact c_involution_le hlt
      have HQ := Lib.hid hq
      have hi1 : (i : Int) < 7 := by omega
      clear hr hz hb hq
      go_wp2_with (go_at_call 104; (with_reducible refine (involution_any i hlt _).mono ?_); rintro e w1 ⟨rfl, rfl⟩; rw [← HQ.out])
      go_roundw
      case rel => exact ⟨i + 1, by omega, by go_num, row_fill HR.out hlt (by unfold sg; rw [← HQ.out]; omega), HZ.out.stay (Below.heap_setCell _ _ _ _ (show w.heap.size ≠ w.heap.size + 1 by omega)), HB.out.trans ((wrote_put0 (Wrote.refl (w.heap.size + 1) 0 7 _) hlt _).belowB (by omega))⟩
      case measure => simp [intOf]; omega
    · have hn : i = 7 := by omega
      subst hn
      have A0 : wr.cell? ⟨w.heap.size + 1, 0, none⟩ = some (.int .i64 (1)) := hr.cell 0 (by omega)
      have A1 : wr.cell? ⟨w.heap.size + 1, 1, none⟩ = some (.int .i64 (-1)) := hr.cell 1 (by omega)
      have A2 : wr.cell? ⟨w.heap.size + 1, 2, none⟩ = some (.int .i64 (1)) := hr.cell 2 (by omega)
      have A3 : wr.cell? ⟨w.heap.size + 1, 3, none⟩ = some (.int .i64 (-1)) := hr.cell 3 (by omega)
      have A4 : wr.cell? ⟨w.heap.size + 1, 4, none⟩ = some (.int .i64 (1)) := hr.cell 4 (by omega)
      have A5 : wr.cell? ⟨w.heap.size + 1, 5, none⟩ = some (.int .i64 (-1)) := hr.cell 5 (by omega)
      have A6 : wr.cell? ⟨w.heap.size + 1, 6, none⟩ = some (.int .i64 (1)) := hr.cell 6 (by omega)
      have Z0 : wr.cell? ⟨w.heap.size, 0, none⟩ = some (.int .i64 0) := hz.cell 0 (by omega)
      have F0 : wr.frozen? ⟨w.heap.size, 0, none⟩ = false := hz.free 0 (by omega)
      have Z1 : wr.cell? ⟨w.heap.size, 1, none⟩ = some (.int .i64 0) := hz.cell 1 (by omega)
      have F1 : wr.frozen? ⟨w.heap.size, 1, none⟩ = false := hz.free 1 (by omega)
      have Z2 : wr.cell? ⟨w.heap.size, 2, none⟩ = some (.int .i64 0) := hz.cell 2 (by omega)
      have F2 : wr.frozen? ⟨w.heap.size, 2, none⟩ = false := hz.free 2 (by omega)
      have Z3 : wr.cell? ⟨w.heap.size, 3, none⟩ = some (.int .i64 0) := hz.cell 3 (by omega)
      have F3 : wr.frozen? ⟨w.heap.size, 3, none⟩ = false := hz.free 3 (by omega)
      have Z4 : wr.cell? ⟨w.heap.size, 4, none⟩ = some (.int .i64 0) := hz.cell 4 (by omega)
      have F4 : wr.frozen? ⟨w.heap.size, 4, none⟩ = false := hz.free 4 (by omega)
      have Z5 : wr.cell? ⟨w.heap.size, 5, none⟩ = some (.int .i64 0) := hz.cell 5 (by omega)
      have F5 : wr.frozen? ⟨w.heap.size, 5, none⟩ = false := hz.free 5 (by omega)
      have Z6 : wr.cell? ⟨w.heap.size, 6, none⟩ = some (.int .i64 0) := hz.cell 6 (by omega)
      have F6 : wr.frozen? ⟨w.heap.size, 6, none⟩ = false := hz.free 6 (by omega)
      clear hr hz
      go_wp2
      refine bodyPost_ret (v := .agg #[.int .i64 1, .int .i64 (-1), .int .i64 1, .int .i64 (-1), .int .i64 1, .int .i64 (-1), .int .i64 1]) (by simp [results, Tryz.results103, go_sem, Z0, Z1, Z2, Z3, Z4, Z5, Z6]) rfl ⟨rfl, ?_⟩
      have hb := HB.out
      have hz := hb.size
      (have hs_hb := hb.size; (repeat' (first | with_reducible exact Below.refl _ _ | (with_reducible refine Below.setCell ?_ ?_ _) | (with_reducible refine Below.alloc ?_ ?_ _) | (with_reducible refine Below.drew ?_) | (with_reducible refine below_step ?_ ?_ hb))); all_goals (first | (simp; done) | omega | (simp; omega) | (simp at hs_hb ⊢; omega)))
end Go.Proofs.YtlfjhffigkhmcaaGreat

namespace Go.Proofs.YtlfjhffigkhmcaaGreat
open Go.RowKit
set_option linter.unusedVariables false

theorem tmod_neg {n p : Int} (hn : n < 0) (hp : 0 < p) : n.tmod p = -((-n) % p) := by
  have h : n = -(-n) := by omega
  rw [h, Int.neg_tmod, Int.tmod_eq_emod_of_nonneg (by omega)]
  simp
theorem tmod_facts {n p : Int} (hn : n < 0) (hp : 0 < p) : -p < n.tmod p ∧ n.tmod p ≤ 0 ∧ (n.tmod p < 0 → n.tmod p + p = n % p) ∧ (n.tmod p = 0 → n % p = 0) := by
  rw [tmod_neg hn hp]
  have h1 := Int.emod_nonneg (-n) (by omega : p ≠ 0)
  have h2 := Int.emod_lt_of_pos (-n) hp
  have h3 := Int.emod_nonneg n (by omega : p ≠ 0)
  have h4 := Int.emod_lt_of_pos n hp
  have h5 := Int.mul_ediv_add_emod (-n) p
  have h6 := Int.mul_ediv_add_emod n p
  have key : ∀ q : Int, (0 < (-n) % p + n % p - 0 → True) := fun _ _ => trivial
  have h7 : ((-n) % p + n % p) % p = 0 := by rw [← Int.add_emod, Int.add_left_neg]; simp
  refine ⟨by omega, by omega, fun h => ?_, fun h => ?_⟩
  · have h8 : (-n) % p + n % p = p := by
      by_cases hlt : (-n) % p + n % p < p
      · rw [Int.emod_eq_of_lt (by omega) hlt] at h7; omega
      · have h9 : ((-n) % p + n % p - p) % p = 0 := by rw [Int.sub_emod, h7]; simp
        rw [Int.emod_eq_of_lt (by omega) (by omega)] at h9; omega
    omega
  · have h8 : (-n) % p = 0 := by omega
    rw [h8, Int.zero_add, Int.emod_eq_of_lt h3 h4] at h7
    exact h7

set_option maxHeartbeats 400000 in
theorem remainderOf_any (p n : Int) (w : World) (hp : prm p = true) (n0 : -9223372036854775808 ≤ n) (n1 : n ≤ 9223372036854775807) :
    Calls Tryz.prog 69 #[.int .i64 p, .int .i64 n] w fun e w' => e = .returned (.agg #[.int .i64 p, .int .i64 (n % p)]) ∧ Below w.heap.size w w' := by
  have hb := prm_bd hp
  have hm := mod_bd hp n
  clear hp
  by_cases hn : 0 ≤ n
  · go_enter Tryz.func69, Tryz.ntmps69
    go_wp2
    exact bodyPost_ret (v := .agg #[.int .i64 p, .int .i64 (n % p)]) (by simp [results, Tryz.results69, go_sem]) rfl ⟨rfl, (Below.refl _ _).alloc (Nat.le_refl _) _⟩
  · obtain ⟨t1, t2, t3, t4⟩ := tmod_facts (n := n) (p := p) (by omega) (by omega)
    by_cases ht : n.tmod p < 0
    · have H := Lib.hid (t3 ht)
      clear t3 t4
      go_enter Tryz.func69, Tryz.ntmps69
      go_wp2
      rw [H.out]
      exact bodyPost_ret (v := .agg #[.int .i64 p, .int .i64 (n % p)]) (by simp [results, Tryz.results69, go_sem]) rfl ⟨rfl, (Below.refl _ _).alloc (Nat.le_refl _) _⟩
    · have H0 : Hid (n.tmod p = n % p) := by show n.tmod p = n % p; have : n.tmod p = 0 := by omega
                                             rw [t4 this, this]
      clear t3 t4
      go_enter Tryz.func69, Tryz.ntmps69
      go_wp2
      rw [H0.out]
      exact bodyPost_ret (v := .agg #[.int .i64 p, .int .i64 (n % p)]) (by simp [results, Tryz.results69, go_sem]) rfl ⟨rfl, (Below.refl _ _).alloc (Nat.le_refl _) _⟩

set_option maxHeartbeats 400000 in
theorem times_any (p a b : Int) (w : World) (hp : prm p = true) (a0 : 0 ≤ a) (a1 : a < p) (b0 : 0 ≤ b) (b1 : b < p) :
    Calls Tryz.prog 54 #[.agg #[.int .i64 p, .int .i64 a], .agg #[.int .i64 p, .int .i64 b]] w fun e w' => e = .returned (.agg #[.int .i64 p, .int .i64 (a * b % p)]) ∧ Below w.heap.size w w' := by
  have hb := prm_bd hp
  obtain ⟨m0, m1⟩ := mul_bd hp a0 a1 b0 b1
  have HP := Lib.hid hp
  clear hp
  go_enter Tryz.func54, Tryz.ntmps54
  go_wp2_with (go_at_call 69; refine (remainderOf_any _ _ _ HP.out (by omega) (by omega)).mono ?_; rintro e w1 ⟨rfl, hb1⟩; obtain ⟨hc, hf⟩ := bcell hb1)
  refine bodyPost_ret (v := .agg #[.int .i64 p, .int .i64 (a * b % p)]) (by simp [results, Tryz.results54, go_sem, hc]) rfl ⟨rfl, ?_⟩
  (have hs_hb1 := hb1.size; (repeat' (first | with_reducible exact Below.refl _ _ | (with_reducible refine Below.setCell ?_ ?_ _) | (with_reducible refine Below.alloc ?_ ?_ _) | (with_reducible refine Below.drew ?_) | (with_reducible refine below_step ?_ ?_ hb1))); all_goals (first | (simp; done) | omega | (simp; omega) | (simp at hs_hb1 ⊢; omega)))

end Go.Proofs.YtlfjhffigkhmcaaGreat

namespace Go.Proofs.YtlfjhffigkhmcaaGreat
open Go.RowKit
set_option linter.unusedVariables false

theorem field_value (x y : Value) (w : World) : (Instr.field 50 (.agg #[x, y]) 1).run Tryz.prog w = .ok y w := by kernel_rfl

/-- A number lies in a block: its prime and its value. -/
structure NumAt (w : World) (b : Nat) (p v : Int) : Prop where
  c0 : w.cell? ⟨b, 0, none⟩ = some (.int .i64 p)
  c1 : w.cell? ⟨b, 1, none⟩ = some (.int .i64 v)
  f0 : w.frozen? ⟨b, 0, none⟩ = false
  f1 : w.frozen? ⟨b, 1, none⟩ = false
theorem NumAt.keep {w w1 : World} {b : Nat} {p v : Int} (h : NumAt w b p v) (hb : Below w.heap.size w w1) (lt : b < w.heap.size) : NumAt w1 b p v :=
  ⟨(hb.cell (p := ⟨b, 0, none⟩) lt).trans h.c0, (hb.cell (p := ⟨b, 1, none⟩) lt).trans h.c1, (hb.frozen (p := ⟨b, 0, none⟩) lt).trans h.f0, (hb.frozen (p := ⟨b, 1, none⟩) lt).trans h.f1⟩
theorem NumAt.alloc {w : World} {b : Nat} {p v : Int} (h : NumAt w b p v) (lt : b < w.heap.size) (o : Obj) : NumAt (w.alloc o) b p v :=
  h.keep ((Below.refl _ _).alloc (Nat.le_refl _) o) lt
theorem numAt_new (w : World) (p v : Int) (t : TypeId) : NumAt (w.alloc (.cells #[.int .i64 p, .int .i64 v] t)) w.heap.size p v :=
  ⟨by simp [go_sem], by simp [go_sem], by simp [go_sem], by simp [go_sem]⟩
theorem NumAt.drew {w : World} {b : Nat} {p v : Int} (h : NumAt w b p v) : NumAt w.drew b p v := ⟨h.c0, h.c1, h.f0, h.f1⟩
theorem numAt_new2 (w : World) (o o' : Obj) (p v : Int) (t : TypeId) : NumAt (((w.alloc o).alloc o').alloc (.cells #[.int .i64 p, .int .i64 v] t)) (w.heap.size + 1 + 1) p v := by
  simpa using numAt_new ((w.alloc o).alloc o') p v t
theorem NumAt.set {w : World} {b : Nat} {p v : Int} (h : NumAt w b p v) (q u : Int) : NumAt ((w.setCell ⟨b, 0, none⟩ (.int .i64 q)).setCell ⟨b, 1, none⟩ (.int .i64 u)) b q u :=
  ⟨by simp [go_sem, h.c0], by simp [go_sem, h.c1], by simp [go_sem, h.f0], by simp [go_sem, h.f1]⟩
theorem NumAt.far {w : World} {b c : Nat} {p v : Int} (h : NumAt w b p v) (hne : b ≠ c) (o : Nat) (x : Value) : NumAt (w.setCell ⟨c, o, none⟩ x) b p v :=
  ⟨(World.cell?_setCell_other _ _ _ _ (fun e => hne (by injection e with e1; exact e1.symm))).trans h.c0, (World.cell?_setCell_other _ _ _ _ (fun e => hne (by injection e with e1; exact e1.symm))).trans h.c1, by simp [go_sem, h.f0], by simp [go_sem, h.f1]⟩

end Go.Proofs.YtlfjhffigkhmcaaGreat
