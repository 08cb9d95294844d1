/-
  Checks of lists of vectors under one bound on all numbers.
  Conditions: they are nil or rows of known cells, of at most 1048576 numbers.
  What the program's checks of matrices return, and its new matrices of zeros.
  Conditions: the matrices are nil or rows of known cells.
  Sizes of matrices.
  No conditions.
  The reduced basis as a function of the rows; the model's SpanBasis and RankOf: contracts.
  Conditions: the list of vectors is a row of rows of known cells.
-/
import Derived.Test.YtdfkpbmccmbjmaaQg8
import Derived.Test.YtdfkpbmccmbjmaaQg2
import Derived.RegionTactic
import Derived.ChangeAlike
import Derived.Test.YtdfkpbmccmbjmaaQg3
import Derived.Test.YtdfkpbmccmbjmaaQg4
namespace Go.Proofs.Ytdfkpbmccmbjmaa
open Go.RowKit
set_option linter.unusedVariables false

theorem len_of {m : List (List Int)} (h : m.length + tot m m.length ≤ 1048576) : m.length ≤ 9223372036854775807 ∧ ∀ i, i < m.length → (rw' m i).length ≤ 9223372036854775807 :=
  ⟨by omega, fun i hi => by have := tot_row (m := m) hi; omega⟩

theorem isRows_none (p : Int) (a : Option Addr) (m : List (List Int)) (cap lo tp : Nat) (w : World) (hm : MatIn lo tp w a m) (hs : m.length + tot m m.length ≤ 1048576) :
    Calls Try.prog 29 #[.int .i64 p, .slice a m.length cap, .int .i64 0] w fun e w' => e = .returned (.bool (isL 0 p m)) ∧ w = w' :=
  isRows_any p a m 0 cap lo tp w (by omega) hm (len_of hs).1 (len_of hs).2

end Go.Proofs.Ytdfkpbmccmbjmaa

namespace Go.Proofs.Ytdfkpbmccmbjmaa
set_option linter.unusedVariables false

theorem rect_of {n : Nat} {p : Int} {m : List (List Int)} (h : Lst n p m) : Rect p m (rw' m 0).length where
  rows := by have := h.hi; omega
  cols := by
    by_cases h0 : 0 < m.length
    · have := h.c1 0 h0; omega
    · have e : m = [] := List.eq_nil_of_length_eq_zero (by omega)
      rw [e]; simp [rw']
  len := h.len
  num i hi := Nums.of (h.all i hi)

theorem tot_const {m : List (List Int)} {c : Nat} (h : ∀ i, i < m.length → (rw' m i).length = c) : ∀ {k : Nat}, k ≤ m.length → tot m k = k * c := by
  intro k
  induction k with
  | zero => intro _; simp [tot]
  | succ k ih => intro hk; simp only [tot]; rw [ih (by omega), h k (by omega), Nat.succ_mul]
theorem mk_size {n c : Nat} {f : Nat → Nat → Int} (hn : n ≤ 1024) (hc : c ≤ 1023) : (mk n c f).length + tot (mk n c f) (mk n c f).length ≤ 1048576 := by
  have h := tot_const (m := mk n c f) (c := c) (fun i hi => mk_rowLen f (by rwa [mk_len] at hi)) (k := n) (by rw [mk_len]; exact Nat.le_refl _)
  rw [mk_len, h]
  have : n * c ≤ 1024 * 1023 := Nat.mul_le_mul hn hc
  omega
theorem Lst.c16 {n : Nat} {p : Int} {m : List (List Int)} (h : Lst n p m) : (rw' m 0).length ≤ 16 := by
  by_cases h0 : 0 < m.length
  · exact h.c1 0 h0
  · have e : m = [] := List.eq_nil_of_length_eq_zero (by omega)
    rw [e]; simp [rw']
end Go.Proofs.Ytdfkpbmccmbjmaa

namespace Go.Proofs.Ytdfkpbmccmbjmaa
open Go.RowKit
set_option linter.unusedVariables false

open Classical in
/-- The reduced basis of what the rows make. -/
noncomputable def bas (p : Int) (A : List (List Int)) : List (List Int) := if h : ∃ m, IsBas p (rw' A 0).length A m then Classical.choose h else []
theorem bas_eq {p : Int} {A m : List (List Int)} (hp : 1 < p) (h : IsBas p (rw' A 0).length A m) : m = bas p A := by
  unfold bas
  rw [dif_pos ⟨m, h⟩]
  exact h.unique hp (Classical.choose_spec (⟨m, h⟩ : ∃ m, IsBas p (rw' A 0).length A m))
theorem bas_nil {p : Int} (hp : 1 < p) : bas p [] = [] := by
  refine (bas_eq hp (m := []) ⟨fun i hi => by simp at hi, ⟨fun _ => 0, ?_⟩, fun x => Iff.rfl⟩).symm
  constructor <;> intros <;> simp at * <;> omega
noncomputable def basV (p : Int) (m : List (List Int)) : List (List Int) := if isL 0 p m = true then bas p m else []
def chk0 (p : Int) (m : List (List Int)) : Int := if isL 0 p m = true then 0 else 1
theorem chk0_yes {p : Int} {m : List (List Int)} (h : isL 0 p m = true) : chk0 p m = 0 := if_pos h
theorem chk0_no {p : Int} {m : List (List Int)} (h : isL 0 p m = false) : chk0 p m = 1 := if_neg (by simp [h])
theorem l01Own2_nil (a : Option Addr) (ca : Nat) (w : World) :
    Calls Try.prog 56 #[.slice a 0 ca] w fun e w' => ∃ r k, e = .returned (.slice r 0 k) ∧ Below w.heap.size w w' := by
  have h := l01Own2_any a ([] : List (List Int)) ca 0 0 w (.inl rfl) (Nat.zero_le _) (by simp) (fun i hi => by simp at hi)
  refine h.mono ?_
  rintro e w' ⟨r, k, rfl, _, hb⟩
  exact ⟨r, k, rfl, hb⟩
set_option maxHeartbeats 800000 in
theorem l02Basis_nil (p : Int) (a : Option Addr) (ca : Nat) (w : World) :
    Calls Try.prog 53 #[.int .i64 p, .slice a 0 ca] w fun e w' => ∃ r k, e = .returned (.slice r 0 k) ∧ Below w.heap.size w w' := by
  go_enter Try.func53, Try.ntmps53
  go_wp2_with (go_at_call 56; (with_reducible refine (l01Own2_nil _ _ _).mono ?_); rintro e w1 ⟨r, k, rfl, hb1⟩; have HB := Lib.hid hb1; clear hb1)
  go_loopw [6, 7] (fun s t wr => s = .int .i64 0 ∧ t = .int .i64 0 ∧ wr = w1) (fun _ _ _ => 0)
  case atStart => exact ⟨rfl, rfl, rfl⟩
  case round =>
    obtain ⟨rfl, rfl, rfl⟩ := hrel
    go_wp2
    go_ret
    exact ⟨_, _, rfl, HB.out⟩

/-- The reduced basis in new memory. -/
def NewBas (p : Int) (A : List (List Int)) (w : World) (e : Ending) (w' : World) : Prop :=
  ∃ r k, e = .returned (.slice r (bas p A).length k) ∧ MatIn w.heap.size w'.heap.size w' r (bas p A) ∧ Below w.heap.size w w' ∧ IsBas p (rw' A 0).length A (bas p A)
theorem basis_any (p : Int) (a : Option Addr) (A : List (List Int)) (ca lo tp : Nat) (w : World) (hm : MatIn lo tp w a A) (ht : tp ≤ w.heap.size) (hA : isL 0 p A = true) :
    Calls Try.prog 53 #[.int .i64 p, .slice a A.length ca] w (NewBas p A w) := by
  have hL := isL_iff.1 hA
  have hp := (prm_bd hL.prime).1
  by_cases h0 : A = []
  · subst h0
    refine (l02Basis_nil p a ca w).mono ?_
    rintro e w' ⟨r, k, rfl, hb⟩
    have e0 := bas_nil (p := p) (by omega)
    refine ⟨r, k, by rw [e0]; rfl, by rw [e0]; exact .inl rfl, hb, ?_⟩
    rw [e0]
    refine ⟨fun i hi => by simp at hi, ⟨fun _ => 0, ?_⟩, fun x => Iff.rfl⟩
    constructor <;> intros <;> simp at * <;> omega
  · have h1 : 0 < A.length := List.length_pos_iff.2 h0
    have hR := rect_of hL
    have hc := hL.c0 0 h1
    have hc16 := hL.c16
    refine (l02Basis_any p a A ca lo tp (rw' A 0).length w hL.prime hm ht h1 (by have := hL.hi; omega) (by omega) (by omega) hL.len (fun i hi j hj => hR.at hi hj)).mono ?_
    rintro e w' ⟨r, k, m, rfl, hM, hB, hb⟩
    have e1 := bas_eq (by omega) hB
    subst e1
    exact ⟨r, k, rfl, hM, hb, hB⟩
theorem Rref.rows_le {p : Int} {n c : Nat} {R : Nat → Nat → Int} {P : Nat → Nat} (h : Rref p n c R P) : n ≤ c := by
  have key : ∀ i, i < n → i ≤ P i := by
    intro i
    induction i with
    | zero => intro _; exact Nat.zero_le _
    | succ i ih => intro hi; have := ih (by omega); have := h.mono i (i + 1) (by omega) hi; omega
  by_cases h0 : n = 0
  · omega
  · have := key (n - 1) (by omega); have := h.pv (n - 1) (by omega); omega
theorem bas_small {p : Int} {A : List (List Int)} (hA : isL 0 p A = true) (h : IsBas p (rw' A 0).length A (bas p A)) : (bas p A).length ≤ 1024 ∧ ∀ i, i < (bas p A).length → 0 < (rw' (bas p A) i).length ∧ (rw' (bas p A) i).length ≤ 1024 := by
  have hL := isL_iff.1 hA
  have hc16 := hL.c16
  obtain ⟨P, hP⟩ := h.red
  have hle : (bas p A).length ≤ (rw' A 0).length := hP.rows_le
  refine ⟨by omega, fun i hi => ?_⟩
  rw [h.len i hi]
  omega

end Go.Proofs.Ytdfkpbmccmbjmaa
