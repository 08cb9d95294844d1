/-
  Changes of signs by grades, and the signs of all grades: contracts of the program.
  Conditions: the lists are nil or rows of known cells, of at most 1048576 numbers.
  Reversals and involutions of products: mathematics.
  Conditions: none.
  Even multivectors, and the sum of the parts of all grades: mathematics.
  Conditions: none.
  likeInts, zero5, hasInt: contracts.
  Conditions: the lists are nil or rows of known cells, of at most 1048576 numbers.
  PairOf and NormOf: contracts of the program and of the model.
  Conditions: the lists are nil or rows of known cells, of at most 1048576 numbers.
-/
import Derived.Test.YtgfanoejohpmkaaGreatQs10
import Derived.Test.YtgfanoejohpmkaaGreatQs11
import Derived.Test.YtgfanoejohpmkaaGreatQs9
import Derived.Test.YtgfanoejohpmkaaGreatQs7
import Derived.Test.YtgfanoejohpmkaaGreatQs8
namespace Go.Proofs.YtgfanoejohpmkaaGreat
open Go.RowKit
set_option linter.unusedVariables false

theorem seven {g : Nat} (h : g < 7) : g = 0 ∨ g = 1 ∨ g = 2 ∨ g = 3 ∨ g = 4 ∨ g = 5 ∨ g = 6 := by omega
/-- The sign of a grade. -/
def sg (c : Nat → Nat) (g : Nat) : Int := 1 - 2 * ((c g % 2 : Nat) : Int)
def c_reversal : Nat → Nat := fun g => g * (g - 1) / 2
theorem c_reversal_le {g : Nat} (hg : g < 7) : c_reversal g ≤ 21 := by rcases seven hg with rfl | rfl | rfl | rfl | rfl | rfl | rfl <;> decide
set_option maxHeartbeats 800000 in
theorem reversal_any (g : Nat) (hg : g < 7) (w : World) : Calls Tryz.prog 192 #[.int .i64 g] w fun e w' => e = .returned (.int .i64 (c_reversal g)) ∧ w = w' := by
  rcases seven hg with rfl | rfl | rfl | rfl | rfl | rfl | rfl <;>
  · go_enter Tryz.func192, Tryz.ntmps192
    go_wp2
    go_ret
    exact ⟨rfl, rfl⟩
def c_involution : Nat → Nat := fun g => g
theorem c_involution_le {g : Nat} (hg : g < 7) : c_involution g ≤ 21 := by rcases seven hg with rfl | rfl | rfl | rfl | rfl | rfl | rfl <;> decide
set_option maxHeartbeats 800000 in
theorem involution_any (g : Nat) (hg : g < 7) (w : World) : Calls Tryz.prog 199 #[.int .i64 g] w fun e w' => e = .returned (.int .i64 (c_involution g)) ∧ w = w' := by
  rcases seven hg with rfl | rfl | rfl | rfl | rfl | rfl | rfl <;>
  · go_enter Tryz.func199, Tryz.ntmps199
    go_wp2
    go_ret
    exact ⟨rfl, rfl⟩
set_option maxRecDepth 100000 in
set_option maxHeartbeats 1600000 in
theorem signsBy_reversal (w : World) : Calls Tryz.prog 245 #[.func (.func 192) #[] #[]] w fun e w' => e = .returned (.agg #[.int .i64 1, .int .i64 1, .int .i64 (-1), .int .i64 (-1), .int .i64 1, .int .i64 1, .int .i64 (-1)]) ∧ Below w.heap.size w w' := by
  go_enter Tryz.func245, Tryz.ntmps245
  go_wp2
  go_loopw [5] (fun t wr => ∃ i : Nat, i ≤ 7 ∧ t = .int .i64 i ∧ RowOwn wr (w.heap.size + 1) 0 7 (fun j => if j < i then sg c_reversal j else 0) ∧ RowOwn wr w.heap.size 0 7 (fun _ => 0) ∧ Below w.heap.size w wr) (fun t _ => 7 - (intOf t).toNat)
  case atStart => exact ⟨0, Nat.zero_le _, rfl, ⟨fun j hj => by rcases seven hj with rfl | rfl | rfl | rfl | rfl | rfl | rfl <;> simp [go_sem], fun j hj => by simp [go_sem]⟩, ⟨fun j hj => by rcases seven hj with rfl | rfl | rfl | rfl | rfl | rfl | rfl <;> simp [go_sem], fun j hj => by simp [go_sem]⟩, (below_alloc w _).alloc (by simp) _⟩
  case round =>
    obtain ⟨i, hi, rfl, hr, hz, hb⟩ := hrel
    have HR := Lib.hid hr
    have HZ := Lib.hid hz
    have HB := Lib.hid hb
    by_cases hlt : i < 7
    · have c0 := hr.cell i hlt
      have f0 := hr.free i hlt
      rw [Nat.zero_add] at c0 f0
      rw [if_neg (Nat.lt_irrefl _)] at c0
      obtain ⟨q, hq⟩ : ∃ q, q = c_reversal i := ⟨_, rfl⟩
      have hq21 : q ≤ 21 := by rw [hq]; exact c_reversal_le hlt
      have HQ := Lib.hid hq
      have hi1 : (i : Int) < 7 := by omega
      clear hr hz hb hq
      go_wp2_with (go_at_call 192; (with_reducible refine (reversal_any i hlt _).mono ?_); rintro e w1 ⟨rfl, rfl⟩; rw [← HQ.out])
      go_roundw
      case rel => exact ⟨i + 1, by omega, by go_num, row_fill HR.out hlt (by unfold sg; rw [← HQ.out]; omega), HZ.out.stay (Below.heap_setCell _ _ _ _ (show w.heap.size ≠ w.heap.size + 1 by omega)), HB.out.trans ((wrote_put0 (Wrote.refl (w.heap.size + 1) 0 7 _) hlt _).belowB (by omega))⟩
      case measure => simp [intOf]; omega
    · have hn : i = 7 := by omega
      subst hn
      have A0 : wr.cell? ⟨w.heap.size + 1, 0, none⟩ = some (.int .i64 (1)) := hr.cell 0 (by omega)
      have A1 : wr.cell? ⟨w.heap.size + 1, 1, none⟩ = some (.int .i64 (1)) := hr.cell 1 (by omega)
      have A2 : wr.cell? ⟨w.heap.size + 1, 2, none⟩ = some (.int .i64 (-1)) := hr.cell 2 (by omega)
      have A3 : wr.cell? ⟨w.heap.size + 1, 3, none⟩ = some (.int .i64 (-1)) := hr.cell 3 (by omega)
      have A4 : wr.cell? ⟨w.heap.size + 1, 4, none⟩ = some (.int .i64 (1)) := hr.cell 4 (by omega)
      have A5 : wr.cell? ⟨w.heap.size + 1, 5, none⟩ = some (.int .i64 (1)) := hr.cell 5 (by omega)
      have A6 : wr.cell? ⟨w.heap.size + 1, 6, none⟩ = some (.int .i64 (-1)) := hr.cell 6 (by omega)
      have Z0 : wr.cell? ⟨w.heap.size, 0, none⟩ = some (.int .i64 0) := hz.cell 0 (by omega)
      have F0 : wr.frozen? ⟨w.heap.size, 0, none⟩ = false := hz.free 0 (by omega)
      have Z1 : wr.cell? ⟨w.heap.size, 1, none⟩ = some (.int .i64 0) := hz.cell 1 (by omega)
      have F1 : wr.frozen? ⟨w.heap.size, 1, none⟩ = false := hz.free 1 (by omega)
      have Z2 : wr.cell? ⟨w.heap.size, 2, none⟩ = some (.int .i64 0) := hz.cell 2 (by omega)
      have F2 : wr.frozen? ⟨w.heap.size, 2, none⟩ = false := hz.free 2 (by omega)
      have Z3 : wr.cell? ⟨w.heap.size, 3, none⟩ = some (.int .i64 0) := hz.cell 3 (by omega)
      have F3 : wr.frozen? ⟨w.heap.size, 3, none⟩ = false := hz.free 3 (by omega)
      have Z4 : wr.cell? ⟨w.heap.size, 4, none⟩ = some (.int .i64 0) := hz.cell 4 (by omega)
      have F4 : wr.frozen? ⟨w.heap.size, 4, none⟩ = false := hz.free 4 (by omega)
      have Z5 : wr.cell? ⟨w.heap.size, 5, none⟩ = some (.int .i64 0) := hz.cell 5 (by omega)
      have F5 : wr.frozen? ⟨w.heap.size, 5, none⟩ = false := hz.free 5 (by omega)
      have Z6 : wr.cell? ⟨w.heap.size, 6, none⟩ = some (.int .i64 0) := hz.cell 6 (by omega)
      have F6 : wr.frozen? ⟨w.heap.size, 6, none⟩ = false := hz.free 6 (by omega)
      clear hr hz
      go_wp2
      refine bodyPost_ret (v := .agg #[.int .i64 1, .int .i64 1, .int .i64 (-1), .int .i64 (-1), .int .i64 1, .int .i64 1, .int .i64 (-1)]) (by simp [results, Tryz.results245, go_sem, Z0, Z1, Z2, Z3, Z4, Z5, Z6]) rfl ⟨rfl, ?_⟩
      have hb := HB.out
      have hz := hb.size
      (have hs_hb := hb.size; (repeat' (first | with_reducible exact Below.refl _ _ | (with_reducible refine Below.setCell ?_ ?_ _) | (with_reducible refine Below.alloc ?_ ?_ _) | (with_reducible refine Below.drew ?_) | (with_reducible refine below_step ?_ ?_ hb))); all_goals (first | (simp; done) | omega | (simp; omega) | (simp at hs_hb ⊢; omega)))
set_option maxRecDepth 100000 in
set_option maxHeartbeats 1600000 in
theorem signsBy_involution (w : World) : Calls Tryz.prog 245 #[.func (.func 199) #[] #[]] w fun e w' => e = .returned (.agg #[.int .i64 1, .int .i64 (-1), .int .i64 1, .int .i64 (-1), .int .i64 1, .int .i64 (-1), .int .i64 1]) ∧ Below w.heap.size w w' := by
  go_enter Tryz.func245, Tryz.ntmps245
  go_wp2
  go_loopw [5] (fun t wr => ∃ i : Nat, i ≤ 7 ∧ t = .int .i64 i ∧ RowOwn wr (w.heap.size + 1) 0 7 (fun j => if j < i then sg c_involution j else 0) ∧ RowOwn wr w.heap.size 0 7 (fun _ => 0) ∧ Below w.heap.size w wr) (fun t _ => 7 - (intOf t).toNat)
  case atStart => exact ⟨0, Nat.zero_le _, rfl, ⟨fun j hj => by rcases seven hj with rfl | rfl | rfl | rfl | rfl | rfl | rfl <;> simp [go_sem], fun j hj => by simp [go_sem]⟩, ⟨fun j hj => by rcases seven hj with rfl | rfl | rfl | rfl | rfl | rfl | rfl <;> simp [go_sem], fun j hj => by simp [go_sem]⟩, (below_alloc w _).alloc (by simp) _⟩
  case round =>
    obtain ⟨i, hi, rfl, hr, hz, hb⟩ := hrel
    have HR := Lib.hid hr
    have HZ := Lib.hid hz
    have HB := Lib.hid hb
    by_cases hlt : i < 7
    · have c0 := hr.cell i hlt
      have f0 := hr.free i hlt
      rw [Nat.zero_add] at c0 f0
      rw [if_neg (Nat.lt_irrefl _)] at c0
      obtain ⟨q, hq⟩ : ∃ q, q = c_involution i := ⟨_, rfl⟩
      have hq21 : q ≤ 21 := by rw [hq]; exact c_involution_le hlt
      have HQ := Lib.hid hq
      have hi1 : (i : Int) < 7 := by omega
      clear hr hz hb hq
      go_wp2_with (go_at_call 199; (with_reducible refine (involution_any i hlt _).mono ?_); rintro e w1 ⟨rfl, rfl⟩; rw [← HQ.out])
      go_roundw
      case rel => exact ⟨i + 1, by omega, by go_num, row_fill HR.out hlt (by unfold sg; rw [← HQ.out]; omega), HZ.out.stay (Below.heap_setCell _ _ _ _ (show w.heap.size ≠ w.heap.size + 1 by omega)), HB.out.trans ((wrote_put0 (Wrote.refl (w.heap.size + 1) 0 7 _) hlt _).belowB (by omega))⟩
      case measure => simp [intOf]; omega
    · have hn : i = 7 := by omega
      subst hn
      have A0 : wr.cell? ⟨w.heap.size + 1, 0, none⟩ = some (.int .i64 (1)) := hr.cell 0 (by omega)
      have A1 : wr.cell? ⟨w.heap.size + 1, 1, none⟩ = some (.int .i64 (-1)) := hr.cell 1 (by omega)
      have A2 : wr.cell? ⟨w.heap.size + 1, 2, none⟩ = some (.int .i64 (1)) := hr.cell 2 (by omega)
      have A3 : wr.cell? ⟨w.heap.size + 1, 3, none⟩ = some (.int .i64 (-1)) := hr.cell 3 (by omega)
      have A4 : wr.cell? ⟨w.heap.size + 1, 4, none⟩ = some (.int .i64 (1)) := hr.cell 4 (by omega)
      have A5 : wr.cell? ⟨w.heap.size + 1, 5, none⟩ = some (.int .i64 (-1)) := hr.cell 5 (by omega)
      have A6 : wr.cell? ⟨w.heap.size + 1, 6, none⟩ = some (.int .i64 (1)) := hr.cell 6 (by omega)
      have Z0 : wr.cell? ⟨w.heap.size, 0, none⟩ = some (.int .i64 0) := hz.cell 0 (by omega)
      have F0 : wr.frozen? ⟨w.heap.size, 0, none⟩ = false := hz.free 0 (by omega)
      have Z1 : wr.cell? ⟨w.heap.size, 1, none⟩ = some (.int .i64 0) := hz.cell 1 (by omega)
      have F1 : wr.frozen? ⟨w.heap.size, 1, none⟩ = false := hz.free 1 (by omega)
      have Z2 : wr.cell? ⟨w.heap.size, 2, none⟩ = some (.int .i64 0) := hz.cell 2 (by omega)
      have F2 : wr.frozen? ⟨w.heap.size, 2, none⟩ = false := hz.free 2 (by omega)
      have Z3 : wr.cell? ⟨w.heap.size, 3, none⟩ = some (.int .i64 0) := hz.cell 3 (by omega)
      have F3 : wr.frozen? ⟨w.heap.size, 3, none⟩ = false := hz.free 3 (by omega)
      have Z4 : wr.cell? ⟨w.heap.size, 4, none⟩ = some (.int .i64 0) := hz.cell 4 (by omega)
      have F4 : wr.frozen? ⟨w.heap.size, 4, none⟩ = false := hz.free 4 (by omega)
      have Z5 : wr.cell? ⟨w.heap.size, 5, none⟩ = some (.int .i64 0) := hz.cell 5 (by omega)
      have F5 : wr.frozen? ⟨w.heap.size, 5, none⟩ = false := hz.free 5 (by omega)
      have Z6 : wr.cell? ⟨w.heap.size, 6, none⟩ = some (.int .i64 0) := hz.cell 6 (by omega)
      have F6 : wr.frozen? ⟨w.heap.size, 6, none⟩ = false := hz.free 6 (by omega)
      clear hr hz
      go_wp2
      refine bodyPost_ret (v := .agg #[.int .i64 1, .int .i64 (-1), .int .i64 1, .int .i64 (-1), .int .i64 1, .int .i64 (-1), .int .i64 1]) (by simp [results, Tryz.results245, go_sem, Z0, Z1, Z2, Z3, Z4, Z5, Z6]) rfl ⟨rfl, ?_⟩
      have hb := HB.out
      have hz := hb.size
      (have hs_hb := hb.size; (repeat' (first | with_reducible exact Below.refl _ _ | (with_reducible refine Below.setCell ?_ ?_ _) | (with_reducible refine Below.alloc ?_ ?_ _) | (with_reducible refine Below.drew ?_) | (with_reducible refine below_step ?_ ?_ hb))); all_goals (first | (simp; done) | omega | (simp; omega) | (simp at hs_hb ⊢; omega)))
end Go.Proofs.YtgfanoejohpmkaaGreat

namespace Go.Proofs.YtgfanoejohpmkaaGreat
open Go.RowKit
set_option linter.unusedVariables false

theorem eps_add (a b : Nat) : eps (a + b) = eps a * eps b := by
  unfold eps
  rcases Nat.mod_two_eq_zero_or_one a with ha | ha <;> rcases Nat.mod_two_eq_zero_or_one b with hb | hb <;> simp [ha, hb, Nat.add_mod]
theorem eps_mod {a b : Nat} (h : a % 2 = b % 2) : eps a = eps b := by unfold eps; rw [h]
/-- How often basis vectors of the second blade pass later ones of the first. -/
def sgn (a b : Nat) : Nat → Nat
  | 0 => 0
  | n + 1 => sgn a b n + b / 2 ^ n % 2 * gr (a / 2 ^ (n + 1))
/-- The squares of the basis vectors that two blades share. -/
def shr (S : List Int) (a b : Nat) : Nat → Int
  | 0 => 1
  | n + 1 => shr S a b n * (if b / 2 ^ n % 2 = 1 ∧ a / 2 ^ n % 2 = 1 then S.getD n 0 else 1)
theorem shr_comm (S : List Int) (a b : Nat) : ∀ n, shr S a b n = shr S b a n
  | 0 => rfl
  | n + 1 => by
    simp only [shr]
    rw [shr_comm S a b n]
    congr 1
    by_cases h : b / 2 ^ n % 2 = 1 ∧ a / 2 ^ n % 2 = 1
    · rw [if_pos h, if_pos ⟨h.2, h.1⟩]
    · rw [if_neg h, if_neg (fun k => h ⟨k.2, k.1⟩)]
theorem fz_split (S : List Int) (a b : Nat) : ∀ n, fz S a b n = eps (sgn a b n) * shr S a b n
  | 0 => rfl
  | n + 1 => by
    simp only [fz, sgn, shr]
    rw [fz_split S a b n, eps_add]
    have h : gi S a b n = eps (b / 2 ^ n % 2 * gr (a / 2 ^ (n + 1))) * (if b / 2 ^ n % 2 = 1 ∧ a / 2 ^ n % 2 = 1 then S.getD n 0 else 1) := by
      unfold gi
      rcases Nat.mod_two_eq_zero_or_one (b / 2 ^ n) with hb | hb
      · rw [hb]; simp [eps]
      · rw [hb]; simp
    rw [h]
    generalize eps (sgn a b n) = x1
    generalize shr S a b n = x2
    generalize eps (b / 2 ^ n % 2 * gr (a / 2 ^ (n + 1))) = x3
    ac_rfl
def passes : Bool := (List.range 7).all fun n => (List.range (2 ^ n)).all fun a => (List.range (2 ^ n)).all fun b => (c_reversal (gr (a ^^^ b)) + sgn a b n) % 2 == (c_reversal (gr a) + c_reversal (gr b) + sgn b a n) % 2
set_option maxRecDepth 100000 in
theorem passes_all : passes = true := by decide +kernel
theorem passes_at {n a b : Nat} (hn : n ≤ 6) (ha : a < 2 ^ n) (hb : b < 2 ^ n) : (c_reversal (gr (a ^^^ b)) + sgn a b n) % 2 = (c_reversal (gr a) + c_reversal (gr b) + sgn b a n) % 2 := by
  have h := passes_all
  unfold passes at h
  rw [List.all_eq_true] at h
  have h1 := h n (List.mem_range.2 (by omega))
  rw [List.all_eq_true] at h1
  have h2 := h1 a (List.mem_range.2 ha)
  rw [List.all_eq_true] at h2
  have h3 := h2 b (List.mem_range.2 hb)
  simpa using h3
theorem fz_turn (S : List Int) {n a b : Nat} (hn : n ≤ 6) (ha : a < 2 ^ n) (hb : b < 2 ^ n) :
    eps (c_reversal (gr (a ^^^ b))) * fz S a b n = eps (c_reversal (gr a)) * eps (c_reversal (gr b)) * fz S b a n := by
  rw [fz_split, fz_split, shr_comm S a b n, ← Int.mul_assoc, ← Int.mul_assoc, ← eps_add, ← eps_add, ← eps_add, eps_mod (passes_at hn ha hb)]
/-- A multivector with the sign that a grade has. -/
theorem sgR_eq {p : Int} {c : Nat → Nat} {x : List Int} {j : Nat} (h : 0 ≤ x.getD j 0 ∧ x.getD j 0 < p) : sgF p c x j = eps (c (gr j)) * x.getD j 0 % p := by
  unfold sgF eps
  split
  · rw [Int.neg_one_mul, Int.sub_eq_add_neg, Int.add_comm, Int.add_emod_right]
  · rw [Int.one_mul, Int.emod_eq_of_lt h.1 h.2]
theorem sgM_at (p : Int) (c : Nat → Nat) (x : List Int) {j : Nat} (hj : j < x.length) : (mkR x.length (sgF p c x)).getD j 0 = sgF p c x j := mkR_at _ hj
theorem sg_mod {p : Int} {c : Nat → Nat} {x : List Int} (hn : ∀ j, j < x.length → 0 ≤ x.getD j 0 ∧ x.getD j 0 < p) {j : Nat} (hj : j < x.length) : (mkR x.length (sgF p c x)).getD j 0 % p = (eps (c (gr j)) * x.getD j 0) % p := by
  rw [sgM_at _ _ _ hj, sgR_eq (hn j hj), Int.emod_emod]
theorem sg_prod {p : Int} {c : Nat → Nat} {S x y : List Int} (hp : 0 < p) {d : Nat} (hd : d < bl S) : sgF p c (prodM p S x y) d = (eps (c (gr d)) * gpz S S.length (fun j => x.getD j 0) (fun j => y.getD j 0) d) % p := by
  have h := prodM_num hp S x y d (by rw [prodM_len]; exact hd)
  rw [sgR_eq h, prodM_at _ _ _ _ hd]
  unfold prodF
  rw [Int.mul_emod, Int.emod_emod, ← Int.mul_emod]
theorem gpz_turn (S : List Int) (h6 : S.length ≤ 6) (x y : Nat → Int) {d : Nat} (hd : d < 2 ^ S.length) :
    eps (c_reversal (gr d)) * gpz S S.length x y d = gpz S S.length (fun j => eps (c_reversal (gr j)) * y j) (fun j => eps (c_reversal (gr j)) * x j) d := by
  unfold gpz
  rw [← sm_xor S.length d hd (fun a => eps (c_reversal (gr a)) * y a * fz S a (a ^^^ d) S.length * (eps (c_reversal (gr (a ^^^ d))) * x (a ^^^ d))), ← sm_mul]
  apply sm_congr
  intro a ha
  have hb : a ^^^ d < 2 ^ S.length := Nat.xor_lt_two_pow ha hd
  have e : a ^^^ (a ^^^ d) = d := by rw [← Nat.xor_assoc, Nat.xor_self, Nat.zero_xor]
  have e2 : a ^^^ d ^^^ d = a := by rw [Nat.xor_assoc, Nat.xor_self, Nat.xor_zero]
  have h := fz_turn S h6 ha hb
  rw [e] at h
  simp only [e2]
  generalize eps (c_reversal (gr d)) = t1 at *
  generalize eps (c_reversal (gr a)) = t2 at *
  generalize eps (c_reversal (gr (a ^^^ d))) = t3 at *
  generalize fz S a (a ^^^ d) S.length = f1 at *
  generalize fz S (a ^^^ d) a S.length = f2 at *
  generalize x a = u
  generalize y (a ^^^ d) = v
  calc t1 * (u * f1 * v) = (t1 * f1) * u * v := by ac_rfl
    _ = (t2 * t3 * f2) * u * v := by rw [h]
    _ = t3 * v * f2 * (t2 * u) := by ac_rfl
theorem gpz_inv (S : List Int) (x y : Nat → Int) {d : Nat} (hd : d < 2 ^ S.length) :
    eps (c_involution (gr d)) * gpz S S.length x y d = gpz S S.length (fun j => eps (c_involution (gr j)) * x j) (fun j => eps (c_involution (gr j)) * y j) d := by
  unfold gpz
  rw [← sm_mul]
  apply sm_congr
  intro a ha
  have e : a ^^^ (a ^^^ d) = d := by rw [← Nat.xor_assoc, Nat.xor_self, Nat.zero_xor]
  have h := eps_xor a (a ^^^ d)
  rw [e] at h
  show eps (gr d) * _ = eps (gr a) * x a * _ * (eps (gr (a ^^^ d)) * y (a ^^^ d))
  rw [h]
  generalize eps (gr a) = t2 at *
  generalize eps (gr (a ^^^ d)) = t3 at *
  generalize fz S a (a ^^^ d) S.length = f1 at *
  generalize x a = u
  generalize y (a ^^^ d) = v
  ac_rfl
/-- The reverse of a product is the product of the reverses, turned round. -/
theorem rev_prod {p : Int} (hp : 0 < p) {S x y : List Int} (h6 : S.length ≤ 6) (hx : x.length = bl S) (hy : y.length = bl S) (nx : ∀ j, j < x.length → 0 ≤ x.getD j 0 ∧ x.getD j 0 < p) (ny : ∀ j, j < y.length → 0 ≤ y.getD j 0 ∧ y.getD j 0 < p) :
    prodM p S (mkR y.length (sgF p c_reversal y)) (mkR x.length (sgF p c_reversal x)) = mkR (prodM p S x y).length (sgF p c_reversal (prodM p S x y)) := by
  rw [prodM_len]
  exact mkR_congr fun d hd => by
    rw [sg_prod hp hd, gpz_turn S h6 _ _ hd]
    exact gpz_mod S S.length hd (fun j hj => sg_mod ny (by rw [hy]; exact hj)) (fun j hj => sg_mod nx (by rw [hx]; exact hj))
theorem inv_prod {p : Int} (hp : 0 < p) {S x y : List Int} (hx : x.length = bl S) (hy : y.length = bl S) (nx : ∀ j, j < x.length → 0 ≤ x.getD j 0 ∧ x.getD j 0 < p) (ny : ∀ j, j < y.length → 0 ≤ y.getD j 0 ∧ y.getD j 0 < p) :
    prodM p S (mkR x.length (sgF p c_involution x)) (mkR y.length (sgF p c_involution y)) = mkR (prodM p S x y).length (sgF p c_involution (prodM p S x y)) := by
  rw [prodM_len]
  exact mkR_congr fun d hd => by
    rw [sg_prod hp hd, gpz_inv S _ _ hd]
    exact gpz_mod S S.length hd (fun j hj => sg_mod nx (by rw [hx]; exact hj)) (fun j hj => sg_mod ny (by rw [hy]; exact hj))

end Go.Proofs.YtgfanoejohpmkaaGreat

namespace Go.Proofs.YtgfanoejohpmkaaGreat
open Go.RowKit
set_option linter.unusedVariables false

theorem half_zero {p v : Int} (hp : p % 2 = 1) (h0 : 0 ≤ v) (h1 : v < p) (h : (p - v) % p = v) : v = 0 := by
  by_cases hv : v = 0
  · exact hv
  · rw [Int.emod_eq_of_lt (by omega) (by omega)] at h; omega
theorem ev_inv {p : Int} (hp : p % 2 = 1) {x : List Int} (hn : ∀ j, j < x.length → 0 ≤ x.getD j 0 ∧ x.getD j 0 < p) : isEv x = decide (x = mkR x.length (sgF p c_involution x)) := by
  cases e : isEv x with
  | true =>
    rw [isEv_iff] at e
    have h : mkR x.length (sgF p c_involution x) = mkR x.length (fun j => x.getD j 0) := mkR_congr fun j hj => by
      unfold sgF
      split
      · rename_i hc
        have hz : x.getD j 0 = 0 := by
          by_cases hz : x.getD j 0 = 0
          · exact hz
          · have := e j hj hz
            unfold c_involution at hc
            omega
        rw [hz, Int.sub_zero, Int.emod_self]
      · rfl
    rw [h, mkR_self]
    simp
  | false =>
    symm
    apply decide_eq_false
    intro hx
    have : isEv x = true := isEv_iff.2 fun j hj hz => by
      by_cases h2 : gr j % 2 = 1
      · exfalso
        have h3 : x.getD j 0 = sgF p c_involution x j := by rw [← sgM_at p c_involution x hj, ← hx]
        unfold sgF c_involution at h3
        rw [if_pos h2] at h3
        exact hz (half_zero hp (hn j hj).1 (hn j hj).2 h3.symm)
      · omega
    rw [e] at this
    cases this
/-- All numbers are 0. -/
def zB (z : List Int) : Bool := (List.range z.length).all fun j => decide (z.getD j 0 = 0)
/-- A number is among them. -/
def hB (z : List Int) (v : Int) : Bool := (List.range z.length).any fun j => decide (z.getD j 0 = v)
end Go.Proofs.YtgfanoejohpmkaaGreat

namespace Go.Proofs.YtgfanoejohpmkaaGreat
open Go.RowKit
set_option linter.unusedVariables false

def pairV (p : Int) (S v u : List Int) : Int := if codeVs p S [v, u] = 0 then pairN p S v u else 0
theorem two_all {f : List Int → Bool} {v u : List Int} : [v, u].all f = (f v && f u) := by simp
theorem one_all {f : List Int → Bool} {v : List Int} : [v].all f = f v := by simp
theorem codeVs_one (p : Int) (S v : List Int) : codeVs p S [v] = codeVs p S [v, v] := by unfold codeVs; rw [one_all, two_all, Bool.and_self]
theorem mat_one {W : World} {lo tp cv b : Nat} {a : Option Addr} {v : List Int} (hb' : b = W.heap.size) (hv : RowIn lo tp W a v) (tv : tp ≤ W.heap.size) (T : TypeId) :
    MatIn 0 (W.alloc (.cells #[.slice a v.length cv] T)).heap.size (W.alloc (.cells #[.slice a v.length cv] T)) (some ⟨b, 0, none⟩) [v] := by
  subst hb'
  refine .inr ⟨W.heap.size, 0, rfl, Nat.zero_le _, lt_alloc W _, fun i hi => ?_⟩
  have hb := below_alloc W (.cells #[.slice a v.length cv] T)
  match i, hi with
  | 0, _ => exact ⟨a, cv, by simp [go_sem, rw'], (hv.below hb tv).mono (Nat.zero_le _) (Nat.le_trans tv (size_alloc W _))⟩
end Go.Proofs.YtgfanoejohpmkaaGreat
