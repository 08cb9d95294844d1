/-
  What the orders of numbers and primitive numbers are, in the program.
  No conditions but that the arguments are whole numbers of 64 bits.
-/
import Derived.Test.YtgkifpampmmhoaaArith
import Derived.Test.YtgkifpampmmhoaaNumAt
import Derived.Test.YtgkifpampmmhoaaCodes
namespace Go.Proofs.Ytgkifpampmmhoaa
open Go.RowKit
set_option linter.unusedVariables false

set_option maxHeartbeats 800000 in
theorem order_any (p a : Int) (w : World) (hp : prm p = true) (a0 : 1 ≤ a) (a1 : a < p) :
    Calls Try.prog 54 #[.agg #[.int .i64 p, .int .i64 a]] w fun e w' => e = .returned (.int .i64 (ord p a : Nat)) ∧ Below w.heap.size w w' := by
  have hb := prm_bd hp
  obtain ⟨o0, o1⟩ := ord_bd hp a0 a1
  have HP := Lib.hid hp
  have H1 := Lib.hid (pw_one (p := p) (a := a) (by omega) a1)
  clear hp
  go_enter Try.func54, Try.ntmps54
  go_wp2
  go_loopw [3, 4] (fun t u wr => ∃ k c : Nat, 1 ≤ k ∧ k ≤ ord p a ∧ t = .int .i64 k ∧ u = .pointer (some ⟨c, 0, none⟩) ∧ NumAt wr c p (pw p a k) ∧ NumAt wr w.heap.size p a ∧ Below w.heap.size w wr ∧ w.heap.size < wr.heap.size ∧ c < wr.heap.size) (fun t _ _ => ord p a - (intOf t).toNat)
  case atStart => exact ⟨1, w.heap.size + 1, by omega, by omega, rfl, rfl, by rw [H1.out]; exact numAt_new1 w _ p a _, (numAt_new w p a _).alloc (by simp) _, by ((repeat' (first | with_reducible exact Below.refl _ _ | (with_reducible refine Below.setCell ?_ ?_ _) | (with_reducible refine Below.alloc ?_ ?_ _) | (with_reducible refine Below.drew ?_))); all_goals (first | (simp; done) | omega | (simp; omega))), by simp; omega, by simp⟩
  case round =>
    obtain ⟨k, c, k0, k1, rfl, rfl, nc, n0, hbel, z0, zc⟩ := hrel
    obtain ⟨q0, q1⟩ := pw_bd (a := a) HP.out k
    have hi := ord_iff HP.out a0 a1 k0 k1
    have N0 := Lib.hid n0
    obtain ⟨g00, g01, k00, k01⟩ := n0
    obtain ⟨gc0, gc1, kc0, kc1⟩ := nc
    by_cases hq : k = ord p a
    · have ht := hi.2 hq
      have HQ := Lib.hid hq
      clear hi hq
      go_wp2
      go_ret
      exact ⟨by rw [← HQ.out]; rfl, hbel⟩
    · have ht : ¬ pw p a k = 1 := fun h => hq (hi.1 h)
      clear hi
      go_wp2_with (go_at_call 49; refine (times_any p (pw p a k) a _ HP.out q0 q1 (by omega) a1).mono ?_; rintro e w1 ⟨rfl, hb1⟩; obtain ⟨x0, x1, y0, y1⟩ := (numAt_new wr p (pw p a k) _).keep hb1 (by simp))
      go_roundw
      case rel =>
        have hs1 := hb1.size
        simp at hs1
        exact ⟨k + 1, wr.heap.size, by omega, by omega, by go_num, rfl, NumAt.set ⟨x0, x1, y0, y1⟩ p _, (((N0.out.alloc z0 _).keep hb1 (by simp; omega)).far (by omega) _ _).far (by omega) _ _, by (have hs_hb1 := hb1.size; have hs_hbel := hbel.size; (repeat' (first | with_reducible exact Below.refl _ _ | (with_reducible refine Below.setCell ?_ ?_ _) | (with_reducible refine Below.alloc ?_ ?_ _) | (with_reducible refine Below.drew ?_) | (with_reducible refine below_step ?_ ?_ hb1) | (with_reducible refine below_step ?_ ?_ hbel))); all_goals (first | (simp; done) | omega | (simp; omega) | (simp at hs_hb1 hs_hbel ⊢; omega))), by simp; omega, by simp; omega⟩
      case measure => simp [intOf]; omega

def orV (p a : Int) : Int := if codeOf p [a] = 0 ∧ a ≠ 0 then (ord p a : Nat) else 0
def orC (p a : Int) : Int := if codeOf p [a] = 0 ∧ a = 0 then 5 else codeOf p [a]
theorem or_yes {p a : Int} (h : codeOf p [a] = 0) (ha : a ≠ 0) : orV p a = (ord p a : Nat) ∧ orC p a = 0 := by simp [orV, orC, h, ha]
theorem or_zero {p : Int} (h : codeOf p [0] = 0) : orV p 0 = 0 ∧ orC p 0 = 5 := by simp [orV, orC, h]
theorem or_no {p a c : Int} (h : codeOf p [a] = c) (hc : c ≠ 0) : orV p a = 0 ∧ orC p a = c := by simp [orV, orC, h, hc]

set_option maxHeartbeats 400000 in
theorem orderOfNumber_impl (p a : Int) (w : World) :
    Calls Try.prog 27 #[.int .i64 p, .int .i64 a] w fun e w' => e = .returned (.tuple #[.int .i64 (orV p a), .int .i64 (orC p a)]) ∧ Below w.heap.size w w' := by
  rcases code_one p a with ⟨hc, hp, a0, a1⟩ | ⟨hc, hp⟩ | ⟨hc, hp, hn⟩
  · have HP := Lib.hid hp
    clear hp
    by_cases hz : a = 0
    · subst hz
      have HS := Lib.hid (or_zero hc)
      have HC := Lib.hid hc
      clear hc
      go_enter Try.func27, Try.ntmps27
      go_wp2_with (first | (go_at_call 43; refine (check_one p 0 _ _ (new_one _ _ _)).mono ?_; rintro e w1 ⟨rfl, rfl⟩; rw [HC.out]))
      go_ret2
      exact ⟨by rw [HS.out.1, HS.out.2]; rfl, by ((repeat' (first | with_reducible exact Below.refl _ _ | (with_reducible refine Below.setCell ?_ ?_ _) | (with_reducible refine Below.alloc ?_ ?_ _) | (with_reducible refine Below.drew ?_))); all_goals (first | (simp; done) | omega | (simp; omega)))⟩
    · have ha1 : 1 ≤ a := by omega
      have HS := Lib.hid (or_yes hc hz)
      have HC := Lib.hid hc
      clear hc hz
      go_enter Try.func27, Try.ntmps27
      go_wp2_with (first | (go_at_call 43; refine (check_one p a _ _ (new_one _ _ _)).mono ?_; rintro e w1 ⟨rfl, rfl⟩; rw [HC.out]) | (go_at_call 54; refine (order_any p a _ HP.out (by omega) a1).mono ?_; rintro e w2 ⟨rfl, hb2⟩))
      go_ret2
      exact ⟨by rw [HS.out.1, HS.out.2]; rfl, by (have hs_hb2 := hb2.size; (repeat' (first | with_reducible exact Below.refl _ _ | (with_reducible refine Below.setCell ?_ ?_ _) | (with_reducible refine Below.alloc ?_ ?_ _) | (with_reducible refine Below.drew ?_) | (with_reducible refine below_step ?_ ?_ hb2))); all_goals (first | (simp; done) | omega | (simp; omega) | (simp at hs_hb2 ⊢; omega)))⟩
  all_goals
    have HS := Lib.hid (or_no hc (by decide))
    have HC := Lib.hid hc
    clear hc hp
    try clear hn
    go_enter Try.func27, Try.ntmps27
    go_wp2_with (first | (go_at_call 43; refine (check_one p a _ _ (new_one _ _ _)).mono ?_; rintro e w1 ⟨rfl, rfl⟩; rw [HC.out]))
    go_ret2
    exact ⟨by rw [HS.out.1, HS.out.2]; rfl, by ((repeat' (first | with_reducible exact Below.refl _ _ | (with_reducible refine Below.setCell ?_ ?_ _) | (with_reducible refine Below.alloc ?_ ?_ _) | (with_reducible refine Below.drew ?_))); all_goals (first | (simp; done) | omega | (simp; omega)))⟩

def prV (p : Int) : Int := if prm p then prim p else 0
def prC (p : Int) : Int := if prm p then 0 else 1
theorem pr_yes {p : Int} (h : prm p = true) : prV p = prim p ∧ prC p = 0 := by simp [prV, prC, h]
theorem pr_no {p : Int} (h : prm p = false) : prV p = 0 ∧ prC p = 1 := by simp [prV, prC, h]

def cellInt (w : World) (b : Nat) : Int := intOf ((w.cell? ⟨b, 1, none⟩).getD undef)
theorem cellInt_of {w : World} {b : Nat} {p x : Int} (h : NumAt w b p x) : cellInt w b = x := by simp [cellInt, h.c1, intOf]

set_option maxHeartbeats 800000 in
theorem primitiveNumber_impl (p : Int) (w : World) :
    Calls Try.prog 28 #[.int .i64 p] w fun e w' => e = .returned (.tuple #[.int .i64 (prV p), .int .i64 (prC p)]) ∧ Below w.heap.size w w' := by
  by_cases hp : prm p = true
  · have hb := prm_bd hp
    have HP := Lib.hid hp
    have HS := Lib.hid (pr_yes hp)
    obtain ⟨v0, v1⟩ := prim_bd hp
    clear hp
    go_enter Try.func28, Try.ntmps28
    go_wp2_with (go_at_call 18; refine (isPrime_any p _).mono ?_; rintro e w1 ⟨rfl, rfl⟩; rw [HP.out])
    go_loopw [14] (fun _ wr => ∃ x : Int, 1 ≤ x ∧ x ≤ prim p ∧ NumAt wr w.heap.size p x ∧ Below w.heap.size w wr ∧ w.heap.size < wr.heap.size) (fun _ wr => (prim p - cellInt wr w.heap.size).toNat)
    case atStart => exact ⟨1, by omega, by omega, numAt_new w p 1 _, by ((repeat' (first | with_reducible exact Below.refl _ _ | (with_reducible refine Below.setCell ?_ ?_ _) | (with_reducible refine Below.alloc ?_ ?_ _) | (with_reducible refine Below.drew ?_))); all_goals (first | (simp; done) | omega | (simp; omega))), by simp⟩
    case round =>
      obtain ⟨x, x0, x1, n0, hbel, z0⟩ := hrel
      have hi := prim_iff HP.out x0 x1
      obtain ⟨o0, o1⟩ := ord_bd HP.out x0 (by omega : x < p)
      have N0 := Lib.hid n0
      obtain ⟨g0, g1, f0, f1⟩ := n0
      by_cases hq : x = prim p
      · have ht := hi.2 hq
        have HQ := Lib.hid hq
        clear hi hq
        go_wp2_with (go_at_call 54; refine (order_any p x _ HP.out x0 (by omega)).mono ?_; rintro e w2 ⟨rfl, hb2⟩; obtain ⟨e0, e1, h0, h1⟩ := N0.out.keep hb2 z0)
        go_ret2
        exact ⟨by rw [HS.out.1, HS.out.2, ← HQ.out]; rfl, by (have hs_hb2 := hb2.size; have hs_hbel := hbel.size; (repeat' (first | with_reducible exact Below.refl _ _ | (with_reducible refine Below.setCell ?_ ?_ _) | (with_reducible refine Below.alloc ?_ ?_ _) | (with_reducible refine Below.drew ?_) | (with_reducible refine below_step ?_ ?_ hb2) | (with_reducible refine below_step ?_ ?_ hbel))); all_goals (first | (simp; done) | omega | (simp; omega) | (simp at hs_hb2 hs_hbel ⊢; omega)))⟩
      · have ht : ¬ (ord p x : Int) = p - 1 := fun h => hq (hi.1 h)
        clear hi
        go_wp2_with (go_at_call 54; refine (order_any p x _ HP.out x0 (by omega)).mono ?_; rintro e w2 ⟨rfl, hb2⟩; obtain ⟨e0, e1, h0, h1⟩ := N0.out.keep hb2 z0)
        go_roundw
        case rel =>
          have hs2 := hb2.size
          exact ⟨x + 1, by omega, by omega, NumAt.setValue ⟨e0, e1, h0, h1⟩ (x + 1), by (have hs_hb2 := hb2.size; have hs_hbel := hbel.size; (repeat' (first | with_reducible exact Below.refl _ _ | (with_reducible refine Below.setCell ?_ ?_ _) | (with_reducible refine Below.alloc ?_ ?_ _) | (with_reducible refine Below.drew ?_) | (with_reducible refine below_step ?_ ?_ hb2) | (with_reducible refine below_step ?_ ?_ hbel))); all_goals (first | (simp; done) | omega | (simp; omega) | (simp at hs_hb2 hs_hbel ⊢; omega))), by simp; omega⟩
        case measure =>
          rw [cellInt_of (NumAt.setValue ⟨e0, e1, h0, h1⟩ (x + 1)), cellInt_of N0.out]
          omega
  · have hp' : prm p = false := by simpa using hp
    have HP := Lib.hid hp'
    have HS := Lib.hid (pr_no hp')
    clear hp hp'
    go_enter Try.func28, Try.ntmps28
    go_wp2_with (go_at_call 18; refine (isPrime_any p _).mono ?_; rintro e w1 ⟨rfl, rfl⟩; rw [HP.out])
    go_ret2
    exact ⟨by rw [HS.out.1, HS.out.2]; rfl, Below.refl _ _⟩

end Go.Proofs.Ytgkifpampmmhoaa
