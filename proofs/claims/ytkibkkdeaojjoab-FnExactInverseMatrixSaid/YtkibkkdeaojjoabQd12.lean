/-
  What the program's checks of matrices return, and its new matrices of zeros.
  Conditions: the matrices are nil or rows of known cells.
  Sizes of matrices.
  No conditions.
  The reduced basis as a function of the rows; the model's SpanBasis and RankOf: contracts.
  Conditions: the list of vectors is a row of rows of known cells.
  Solutions of linear equations out of reduced rows. No Go in sight.
  No conditions.
-/
import Derived.Test.YtkibkkdeaojjoabQd11
import Derived.Test.YtkibkkdeaojjoabQd7
import Derived.RegionTactic
import Derived.ChangeAlike
import Derived.Test.YtkibkkdeaojjoabQd8
import Derived.Test.YtkibkkdeaojjoabQd9
import Derived.Test.YtkibkkdeaojjoabQd10
import Derived.Test.YtkibkkdeaojjoabQd5
import Derived.Test.YtkibkkdeaojjoabQd6
namespace Go.Proofs.Ytkibkkdeaojjoab
open Go.RowKit
set_option linter.unusedVariables false

set_option maxHeartbeats 800000 in
theorem isMatrix_q (p : Int) (a : Option Addr) (m : List (List Int)) (cap lo tp : Nat) (w : World) (hm : MatIn lo tp w a m) (hs : m.length + tot m m.length ≤ 1048576) :
    Calls Try.prog 69 #[.int .i64 p, .slice a m.length cap] w fun e w' => e = .returned (.bool (isM p m)) ∧ w = w' := by
  have HM := Lib.hid hm
  have HS := Lib.hid hs
  clear hm hs
  go_enter Try.func69, Try.ntmps69
  go_wp2_with (go_at_call 100; (with_reducible refine (isRows_one _ _ _ _ lo tp _ HM.out HS.out).mono ?_); rintro e w1 ⟨rfl, rfl⟩)
  go_ret
  exact ⟨rfl, rfl⟩

/-- The code of one matrix, of two. -/
def chk1 (p : Int) (m : List (List Int)) : Int := if isM p m = true then 0 else 1
theorem chk1_yes {p : Int} {m : List (List Int)} (h : isM p m = true) : chk1 p m = 0 := if_pos h
theorem chk1_no {p : Int} {m : List (List Int)} (h : isM p m = false) : chk1 p m = 1 := if_neg (by simp [h])
set_option maxHeartbeats 800000 in
theorem checkOne (p : Int) (b : Nat) (a : Option Addr) (m : List (List Int)) (cap c lo tp : Nat) (w : World) (hb : w.cell? ⟨b, 0, none⟩ = some (.slice a m.length cap)) (hm : MatIn lo tp w a m) (hs : m.length + tot m m.length ≤ 1048576) :
    Calls Try.prog 86 #[.int .i64 p, .slice (some ⟨b, 0, none⟩) 1 c] w fun e w' => e = .returned (.int .i64 (chk1 p m)) ∧ w = w' := by
  have HM := Lib.hid hm
  have HS := Lib.hid hs
  clear hm hs
  by_cases h : isM p m = true
  · have H := Lib.hid h
    clear h
    go_enter Try.func86, Try.ntmps86
    go_wp2
    go_loop [9] (fun t => ∃ i : Nat, i ≤ 1 ∧ t = .int .i64 i) (fun t => 1 - (intOf t).toNat)
    case atStart => exact ⟨0, Nat.zero_le _, rfl⟩
    case round =>
      obtain ⟨i, hi, rfl⟩ := hrel
      by_cases hlt : i < 1
      · obtain rfl : 0 = i := by omega
        go_wp2_with (go_at_call 69; (with_reducible refine (isMatrix_q _ _ _ _ lo tp _ HM.out HS.out).mono ?_); rintro e w1 ⟨rfl, rfl⟩; rw [H.out])
        go_round
        case rel => exact ⟨1, by omega, by go_num⟩
        case measure => simp [intOf]
      · go_wp2
        go_ret
        exact ⟨by rw [chk1_yes H.out]; rfl, rfl⟩
  · have H : Hid (isM p m = false) := by show isM p m = false; simpa using h
    clear h
    go_enter Try.func86, Try.ntmps86
    go_wp2
    go_loop [9] (fun t => t = .int .i64 0) (fun t => 0)
    case atStart => exact rfl
    case round =>
      subst hrel
      go_wp2_with (go_at_call 69; (with_reducible refine (isMatrix_q _ _ _ _ lo tp _ HM.out HS.out).mono ?_); rintro e w1 ⟨rfl, rfl⟩; rw [H.out])
      go_ret
      exact ⟨by rw [chk1_no H.out]; rfl, rfl⟩

theorem checkOne_new (p : Int) (a : Option Addr) (m : List (List Int)) (cap lo tp : Nat) (w : World) (t : TypeId) (hm : MatIn lo tp w a m) (ht : tp ≤ w.heap.size) (hs : m.length + tot m m.length ≤ 1048576) :
    Calls Try.prog 86 #[.int .i64 p, .slice (some ⟨w.heap.size, 0, none⟩) 1 1] (w.alloc (.cells #[.slice a m.length cap] t)) fun e w' => e = .returned (.int .i64 (chk1 p m)) ∧ (w.alloc (.cells #[.slice a m.length cap] t)) = w' :=
  checkOne p w.heap.size a m cap 1 lo tp _ (new_one w _ t) (hm.below ((Below.refl _ _).alloc (Nat.le_refl _) _) ht) hs
/-- The code of a square matrix. -/
def sqC (p : Int) (m : List (List Int)) : Int := if isM p m = true then (if m.length = (rw' m 0).length then 0 else 2) else 1

set_option maxHeartbeats 800000 in
theorem checkSquare_any (p : Int) (a : Option Addr) (m : List (List Int)) (cap lo tp : Nat) (w : World) (hm : MatIn lo tp w a m) (ht : tp ≤ w.heap.size) (hs : m.length + tot m m.length ≤ 1048576) :
    Calls Try.prog 49 #[.int .i64 p, .slice a m.length cap] w fun e w' => e = .returned (.int .i64 (sqC p m)) ∧ Below w.heap.size w w' := by
  have HM := Lib.hid hm
  have HS := Lib.hid hs
  by_cases h : isM p m = true
  · have H : Hid (chk1 p m = 0) := chk1_yes h
    have h0 := (isL_iff.1 h).lo
    obtain ⟨b, o, r0, c0, ha, _, hb, hr0, _⟩ := hm.row (i := 0) (by omega)
    subst ha
    rw [Nat.add_zero] at hr0
    have hb' : b < w.heap.size := Nat.lt_of_lt_of_le hb ht
    have hl := tot_row (m := m) (i := 0) (by omega)
    have HI := Lib.hid h
    by_cases hq : m.length = (rw' m 0).length
    · have HQ := Lib.hid hq
      rw [← hq] at hr0
      clear hm hs h hq hl
      go_enter Try.func49, Try.ntmps49
      go_wp2_with (go_at_call 86; (with_reducible refine (checkOne_new p _ m cap lo tp w _ HM.out ht HS.out).mono ?_); rintro e w1 ⟨rfl, rfl⟩; rw [H.out])
      go_ret
      exact ⟨by unfold sqC; rw [if_pos HI.out, if_pos HQ.out]; rfl, (Below.refl _ _).alloc (Nat.le_refl _) _⟩
    · have HQ : Hid (¬ m.length = (rw' m 0).length) := hq
      obtain ⟨e1, e2⟩ := neq_spell hq
      clear hm hs h hq hl
      go_enter Try.func49, Try.ntmps49
      go_wp2_with (go_at_call 86; (with_reducible refine (checkOne_new p _ m cap lo tp w _ HM.out ht HS.out).mono ?_); rintro e w1 ⟨rfl, rfl⟩; rw [H.out])
      go_ret
      exact ⟨by unfold sqC; rw [if_pos HI.out, if_neg HQ.out]; rfl, (Below.refl _ _).alloc (Nat.le_refl _) _⟩
  · have H : Hid (chk1 p m = 1) := chk1_no (by simpa using h)
    have HI : Hid (¬ isM p m = true) := h
    clear hm hs h
    go_enter Try.func49, Try.ntmps49
    go_wp2_with (go_at_call 86; (with_reducible refine (checkOne_new p _ m cap lo tp w _ HM.out ht HS.out).mono ?_); rintro e w1 ⟨rfl, rfl⟩; rw [H.out])
    go_ret
    exact ⟨by unfold sqC; rw [if_neg HI.out]; rfl, (Below.refl _ _).alloc (Nat.le_refl _) _⟩

end Go.Proofs.Ytkibkkdeaojjoab

namespace Go.Proofs.Ytkibkkdeaojjoab
set_option linter.unusedVariables false

theorem rect_of {n : Nat} {p : Int} {m : List (List Int)} (h : Lst n p m) : Rect p m (rw' m 0).length where
  rows := by have := h.hi; omega
  cols := by
    by_cases h0 : 0 < m.length
    · have := h.c1 0 h0; omega
    · have e : m = [] := List.eq_nil_of_length_eq_zero (by omega)
      rw [e]; simp [rw']
  len := h.len
  num i hi := Nums.of (h.all i hi)

theorem tot_const {m : List (List Int)} {c : Nat} (h : ∀ i, i < m.length → (rw' m i).length = c) : ∀ {k : Nat}, k ≤ m.length → tot m k = k * c := by
  intro k
  induction k with
  | zero => intro _; simp [tot]
  | succ k ih => intro hk; simp only [tot]; rw [ih (by omega), h k (by omega), Nat.succ_mul]
end Go.Proofs.Ytkibkkdeaojjoab

namespace Go.Proofs.Ytkibkkdeaojjoab
open Go.RowKit
set_option linter.unusedVariables false

open Classical in
/-- The reduced basis of what the rows make. -/
noncomputable def bas (p : Int) (A : List (List Int)) : List (List Int) := if h : ∃ m, IsBas p (rw' A 0).length A m then Classical.choose h else []
theorem bas_eq {p : Int} {A m : List (List Int)} (hp : 1 < p) (h : IsBas p (rw' A 0).length A m) : m = bas p A := by
  unfold bas
  rw [dif_pos ⟨m, h⟩]
  exact h.unique hp (Classical.choose_spec (⟨m, h⟩ : ∃ m, IsBas p (rw' A 0).length A m))
theorem bas_nil {p : Int} (hp : 1 < p) : bas p [] = [] := by
  refine (bas_eq hp (m := []) ⟨fun i hi => by simp at hi, ⟨fun _ => 0, ?_⟩, fun x => Iff.rfl⟩).symm
  constructor <;> intros <;> simp at * <;> omega
theorem Rref.rows_le {p : Int} {n c : Nat} {R : Nat → Nat → Int} {P : Nat → Nat} (h : Rref p n c R P) : n ≤ c := by
  have key : ∀ i, i < n → i ≤ P i := by
    intro i
    induction i with
    | zero => intro _; exact Nat.zero_le _
    | succ i ih => intro hi; have := ih (by omega); have := h.mono i (i + 1) (by omega) hi; omega
  by_cases h0 : n = 0
  · omega
  · have := key (n - 1) (by omega); have := h.pv (n - 1) (by omega); omega
end Go.Proofs.Ytkibkkdeaojjoab

namespace Go.Proofs.Ytkibkkdeaojjoab
set_option linter.unusedVariables false

/-- Rows with the rows of others behind them. -/
def bes (A O : List (List Int)) : List (List Int) := (List.range A.length).map fun i => rw' A i ++ rw' O i
theorem bes_len (A O : List (List Int)) : (bes A O).length = A.length := by simp [bes]
theorem bes_row {A O : List (List Int)} {i : Nat} (h : i < A.length) : rw' (bes A O) i = rw' A i ++ rw' O i := by simp [bes, rw', List.getD, h]
theorem bes_at {A O : List (List Int)} {i j c : Nat} (h : i < A.length) (hc : (rw' A i).length = c) : at' (bes A O) i j = if j < c then at' A i j else at' O i (j - c) := by
  unfold at'
  rw [bes_row h]
  simp only [List.getD_eq_getElem?_getD]
  split
  · rename_i e; rw [List.getElem?_append_left (by omega)]
  · rename_i e; rw [List.getElem?_append_right (by omega), hc]
/-- Rows of one length with numbers of the prime, at least one, longer ones too. -/
structure RowsX (p : Int) (c : Nat) (A : List (List Int)) : Prop where
  prime : prm p = true
  lo : 0 < A.length
  hi : A.length ≤ 1024
  c0 : 1 ≤ c
  c1 : c ≤ 1024
  len : ∀ i, i < A.length → (rw' A i).length = c
  rng : ∀ i, i < A.length → ∀ j, j < c → 0 ≤ at' A i j ∧ at' A i j < p
theorem RowsX.len0 {p : Int} {c : Nat} {A : List (List Int)} (h : RowsX p c A) : (rw' A 0).length = c := h.len 0 h.lo
theorem bes_rows {p : Int} {A O : List (List Int)} {d : Nat} (h : Lst 1 p A) (hO : ∀ i, i < A.length → (rw' O i).length = d) (hd : d ≤ 64) (hr : ∀ i, i < A.length → ∀ j, j < d → 0 ≤ at' O i j ∧ at' O i j < p) : RowsX p ((rw' A 0).length + d) (bes A O) where
  prime := h.prime
  lo := by rw [bes_len]; exact h.lo
  hi := by rw [bes_len]; have := h.hi; omega
  c0 := by have := h.c0 0 h.lo; omega
  c1 := by have := h.c1 0 h.lo; omega
  len i hi := by
    rw [bes_len] at hi
    rw [bes_row hi, List.length_append, h.len i hi, hO i hi]
  rng i hi j hj := by
    rw [bes_len] at hi
    have hl : (rw' A i).length = (rw' A 0).length := h.len i hi
    rw [bes_at hi hl]
    split
    · rename_i e; exact h.at hi e
    · exact hr i hi _ (by omega)
end Go.Proofs.Ytkibkkdeaojjoab
