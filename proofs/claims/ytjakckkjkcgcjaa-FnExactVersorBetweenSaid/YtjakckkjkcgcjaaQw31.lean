/-
  What square roots of numbers are, in the program and in the model: contracts of the method root and of the model's helper.
  Conditions: the prime is one, the number is a remainder by it.
-/
import Derived.Test.YtjakckkjkcgcjaaQw16
import Derived.Test.YtjakckkjkcgcjaaQw19
import Derived.RegionTactic
import Derived.Deep.RegionHeld3
import Derived.Laws.StructEq
import Derived.Outline
namespace Go.Proofs.Ytjakckkjkcgcjaa
open Go.RowKit
set_option linter.unusedVariables false

theorem l01Root_any (p a : Int) (w : World) (hp : prm p = true) (a0 : 0 ≤ a) (a1 : a < p) :
    Calls Try.prog 80 #[.int .i64 p, .int .i64 a] w fun e w' => e = .returned (.int .i64 (rt p a)) ∧ w = w' := by
  have hb := prm_bd hp
  obtain ⟨v0, v1⟩ := rtEnd_bd hp a0 a1
  have HP := Lib.hid hp
  clear hp
  go_enter Try.func80, Try.ntmps80
  go_wp2
  go_loop [5] (fun t => ∃ r : Int, 0 ≤ r ∧ r ≤ rtEnd p a ∧ t = .int .i64 r) (fun t => (rtEnd p a - intOf t).toNat)
  case atStart => exact ⟨0, by omega, by omega, rfl⟩
  case round =>
    obtain ⟨r, r0, r1, rfl⟩ := hrel
    by_cases hlt : r < p
    · obtain ⟨m0, m1⟩ := mul_bd HP.out r0 hlt r0 hlt
      obtain ⟨q0, q1⟩ := mod_bd HP.out (r * r)
      have hi := rt_iff HP.out a0 a1 r0 hlt r1
      by_cases hq : r = rt p a
      · have ht := hi.2 hq
        have HQ := Lib.hid hq
        clear hi hq
        go_wp2
        go_ret
        exact ⟨by rw [← HQ.out]; rfl, rfl⟩
      · have ht : ¬ r * r % p = a := fun h => hq (hi.1 h)
        have hr1 : r + 1 ≤ rtEnd p a := by
          have h1 := rt_bd HP.out a0 a1
          unfold rtEnd at r1 v0 v1 ⊢
          split at r1 <;> omega
        clear hi
        go_wp2
        go_round
        case rel => exact ⟨r + 1, by omega, by omega, rfl⟩
        case measure => simp [intOf]; omega
    · have HQ : Hid (rt p a = -1) := by
        show rt p a = -1
        have h1 := rt_bd HP.out a0 a1
        unfold rtEnd at r1
        split at r1 <;> omega
      go_wp2
      go_ret
      exact ⟨by rw [HQ.out]; rfl, rfl⟩

/-- What the method root hands back: the prime and the value of the root (0 and 0 if there is none), and whether there is one. -/
def rtP (p a : Int) : Int := if rt p a < 0 then 0 else p
def rtV (p a : Int) : Int := if rt p a < 0 then 0 else rt p a
def rtB (p a : Int) : Bool := decide (0 ≤ rt p a)
theorem rt_yes {p a : Int} (h : 0 ≤ rt p a) : rtP p a = p ∧ rtV p a = rt p a ∧ rtB p a = true := by
  have h1 : ¬ rt p a < 0 := by omega
  simp [rtP, rtV, rtB, h, h1]
theorem rt_no {p a : Int} (h : rt p a < 0) : rtP p a = 0 ∧ rtV p a = 0 ∧ rtB p a = false := by
  have h1 : ¬ 0 ≤ rt p a := by omega
  simp [rtP, rtV, rtB, h]

set_option maxHeartbeats 1600000 in
theorem root_any (p a : Int) (w : World) (hp : prm p = true) (a0 : 0 ≤ a) (a1 : a < p) :
    Calls Try.prog 83 #[.agg #[.int .i64 p, .int .i64 a]] w fun e w' => e = .returned (.tuple #[.agg #[.int .i64 (rtP p a), .int .i64 (rtV p a)], .bool (rtB p a)]) ∧ Below w.heap.size w w' := by
  have hb := prm_bd hp
  obtain ⟨v0, v1⟩ := rtEnd_bd hp a0 a1
  have HP := Lib.hid hp
  clear hp
  go_enter Try.func83, Try.ntmps83
  go_wp2
  go_loopw [8] (fun t wr => ∃ r : Int, 0 ≤ r ∧ r ≤ rtEnd p a ∧ t = .int .i64 r ∧ NumAt wr w.heap.size p a ∧ NumAt wr (w.heap.size + 1) 0 0 ∧ Below w.heap.size w wr ∧ w.heap.size + 2 ≤ wr.heap.size) (fun t _ => (rtEnd p a - intOf t).toNat)
  case atStart => exact ⟨0, by omega, by omega, rfl, (numAt_new w p a _).alloc (by simp) _, numAt_new1 w _ 0 0 _, by ((repeat' (first | with_reducible exact Below.refl _ _ | (with_reducible refine Below.setCell ?_ ?_ _) | (with_reducible refine Below.alloc ?_ ?_ _) | (with_reducible refine Below.drew ?_))); all_goals (first | (simp; done) | omega | (simp; omega))), by simp⟩
  case round =>
    obtain ⟨r, r0, r1, rfl, n0, n1, hbel, hz⟩ := hrel
    by_cases hlt : r < p
    · obtain ⟨q0, q1⟩ := mod_bd HP.out (r * r)
      have hi := rt_iff HP.out a0 a1 r0 hlt r1
      have N0 := Lib.hid n0
      have z0 : w.heap.size < wr.heap.size := by omega
      have z1 : w.heap.size + 1 < wr.heap.size := by omega
      obtain ⟨g00, g01, k00, k01⟩ := n0
      by_cases hq : r = rt p a
      · have ht := hi.2 hq
        have HR : Hid (rtP p a = p ∧ rtV p a = r ∧ rtB p a = true) := by
          obtain ⟨h1, h2, h3⟩ := rt_yes (p := p) (a := a) (by omega)
          exact ⟨h1, h2.trans hq.symm, h3⟩
        clear hi hq
        go_wp2
        go_region_with (go_at_call 100; refine (times_any p r r _ HP.out r0 hlt r0 hlt).mono ?_; rintro e w1 ⟨rfl, hb1⟩; obtain ⟨e0, e1, h0, h1⟩ := (N0.out.alloc (by omega) _).drew.keep hb1 (by simp; omega); obtain ⟨x0, x1, y0, y1⟩ := (numAt_new wr p r _).drew.keep hb1 (by simp); obtain ⟨s0, s1, t0, t1⟩ := (n1.alloc (by omega) _).drew.keep hb1 (by simp; omega))
        all_goals
          go_wp2
          refine bodyPost_ret (v := .tuple #[.agg #[.int .i64 p, .int .i64 r], .bool true]) (by simp [results, Try.results83, go_sem, s0, s1]) rfl ⟨by rw [HR.out.1, HR.out.2.1, HR.out.2.2], ?_⟩
          (have hs_hb1 := hb1.size; have hs_hbel := hbel.size; (repeat' (first | with_reducible exact Below.refl _ _ | (with_reducible refine Below.setCell ?_ ?_ _) | (with_reducible refine Below.alloc ?_ ?_ _) | (with_reducible refine Below.drew ?_) | (with_reducible refine below_step ?_ ?_ hb1) | (with_reducible refine below_step ?_ ?_ hbel))); all_goals (first | (simp; done) | omega | (simp; omega) | (simp at hs_hb1 hs_hbel ⊢; omega)))
      · have ht : ¬ r * r % p = a := fun h => hq (hi.1 h)
        have hr1 : r + 1 ≤ rtEnd p a := by
          have h1 := rt_bd HP.out a0 a1
          unfold rtEnd at r1 v0 v1 ⊢
          split at r1 <;> omega
        clear hi
        have N1 := Lib.hid n1
        clear n1
        go_wp2
        go_region_with (go_at_call 100; refine (times_any p r r _ HP.out r0 hlt r0 hlt).mono ?_; rintro e w1 ⟨rfl, hb1⟩; obtain ⟨e0, e1, h0, h1⟩ := (N0.out.alloc (by omega) _).drew.keep hb1 (by simp; omega); obtain ⟨x0, x1, y0, y1⟩ := (numAt_new wr p r _).drew.keep hb1 (by simp); obtain ⟨s0, s1, t0, t1⟩ := (N1.out.alloc (by omega) _).drew.keep hb1 (by simp; omega))
        all_goals
          go_wp2
          go_roundw
          case rel =>
            have hs1 := hb1.size
            simp at hs1
            exact ⟨r + 1, by omega, by omega, rfl, ⟨e0, e1, h0, h1⟩, ⟨s0, s1, t0, t1⟩, by (have hs_hb1 := hb1.size; have hs_hbel := hbel.size; (repeat' (first | with_reducible exact Below.refl _ _ | (with_reducible refine Below.setCell ?_ ?_ _) | (with_reducible refine Below.alloc ?_ ?_ _) | (with_reducible refine Below.drew ?_) | (with_reducible refine below_step ?_ ?_ hb1) | (with_reducible refine below_step ?_ ?_ hbel))); all_goals (first | (simp; done) | omega | (simp; omega) | (simp at hs_hb1 hs_hbel ⊢; omega))), by omega⟩
          case measure => simp [intOf]; omega
    · have HR : Hid (rtP p a = 0 ∧ rtV p a = 0 ∧ rtB p a = false) := by
        refine rt_no (p := p) (a := a) ?_
        have h1 := rt_bd HP.out a0 a1
        unfold rtEnd at r1
        split at r1 <;> omega
      obtain ⟨s0, s1, t0, t1⟩ := n1
      go_wp2
      refine bodyPost_ret (v := .tuple #[.agg #[.int .i64 0, .int .i64 0], .bool false]) (by simp [results, Try.results83, go_sem, s0, s1]) rfl ⟨by rw [HR.out.1, HR.out.2.1, HR.out.2.2], ?_⟩
      (have hs_hbel := hbel.size; (repeat' (first | with_reducible exact Below.refl _ _ | (with_reducible refine Below.setCell ?_ ?_ _) | (with_reducible refine Below.alloc ?_ ?_ _) | (with_reducible refine Below.drew ?_) | (with_reducible refine below_step ?_ ?_ hbel))); all_goals (first | (simp; done) | omega | (simp; omega) | (simp at hs_hbel ⊢; omega)))

end Go.Proofs.Ytjakckkjkcgcjaa
