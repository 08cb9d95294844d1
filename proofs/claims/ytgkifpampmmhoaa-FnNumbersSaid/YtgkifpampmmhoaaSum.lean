/-
  What sums of two squares are, in the program and in the model, and the walk of the law.
  No conditions but that the arguments are whole numbers of 64 bits.
-/
import Derived.Test.YtgkifpampmmhoaaRoot
import Derived.Test.YtgkifpampmmhoaaMod
import Derived.BigQuiet
import Derived.Deep.QuietTactic
namespace Go.Proofs.Ytgkifpampmmhoaa
open Go.RowKit
set_option linter.unusedVariables false

/-- The y beside the least x. -/
def sy (p a : Int) : Int := rt p ((a - sx p a * sx p a) % p)
def ssX (p a : Int) : Int := if codeOf p [a] = 0 then sx p a else 0
def ssY (p a : Int) : Int := if codeOf p [a] = 0 then sy p a else 0
theorem ss_yes {p a : Int} (h : codeOf p [a] = 0) : ssX p a = sx p a ∧ ssY p a = sy p a := by simp [ssX, ssY, h]
theorem ss_no {p a c : Int} (h : codeOf p [a] = c) (hc : c ≠ 0) : ssX p a = 0 ∧ ssY p a = 0 := by simp [ssX, ssY, h, hc]

theorem held2 {w' : World} {b c : Nat} {p a q x : Int} (h : NumAt w' b p a) (k : NumAt w' c q x) : w'.cell? ⟨b, 0, none⟩ = some (.int .i64 p) ∧ w'.cell? ⟨b, 1, none⟩ = some (.int .i64 a) ∧ w'.cell? ⟨c, 0, none⟩ = some (.int .i64 q) ∧ w'.cell? ⟨c, 1, none⟩ = some (.int .i64 x) := ⟨h.c0, h.c1, k.c0, k.c1⟩
def cellVal (w : World) (b : Nat) : Int := intOf ((w.cell? ⟨b, 1, none⟩).getD undef)
theorem cellVal_of {w : World} {b : Nat} {p x : Int} (h : NumAt w b p x) : cellVal w b = x := by simp [cellVal, h.c1, intOf]
theorem below_drewN {B : Nat} {a w : World} (h : Below B a w) (n : Nat) : Below B a (w.drewN n) := ⟨h.os, h.tape, h.output, h.size, h.block⟩

set_option maxHeartbeats 800000 in
theorem sumOfSquares_spec (p a : Int) (w : World) :
    Calls Try.prog 36 #[.int .i64 p, .int .i64 a] w fun e w' => e = .returned (.tuple #[.int .i64 (ssX p a), .int .i64 (ssY p a), .int .i64 (codeOf p [a])]) ∧ Below w.heap.size w w' := by
  rcases code_one p a with ⟨hc, hp, a0, a1⟩ | ⟨hc, hp⟩ | ⟨hc, hp, hn⟩
  · have hb := prm_bd hp
    obtain ⟨v0, v1⟩ := sx_bd hp a0 a1
    have HP := Lib.hid hp
    have HS := Lib.hid (ss_yes hc)
    have HC := Lib.hid hc
    clear hp hc
    go_enter Try.func36, Try.ntmps36
    go_wp2_with (go_at_call 45; refine (l01Code_one p a _ _ (new_one _ _ _)).mono ?_; rintro e w1 ⟨rfl, rfl⟩; rw [HC.out])
    go_loop [8] (fun t => ∃ x : Int, 0 ≤ x ∧ x ≤ sx p a ∧ t = .int .i64 x) (fun t => (sx p a - intOf t).toNat)
    case atStart => exact ⟨0, by omega, by omega, rfl⟩
    case round =>
      obtain ⟨x, x0, x1, rfl⟩ := hrel
      have hi := sx_iff HP.out a0 a1 x0 x1
      obtain ⟨m0, m1⟩ := mul_bd HP.out x0 (by omega) x0 (by omega)
      obtain ⟨q0, q1⟩ := mod_bd HP.out (a - x * x)
      by_cases hq : x = sx p a
      · have ht := hi.2 hq
        have HQ := Lib.hid hq
        have HY : Hid (rt p ((a - x * x) % p) = sy p a) := by show rt p ((a - x * x) % p) = sy p a; rw [hq]; rfl
        clear hi hq
        go_wp2_with (first | (go_at_call 57; refine (l01Mod_any p (a - x * x) _ HP.out (by omega) (by omega)).mono ?_; rintro e w2 ⟨rfl, rfl⟩) | (go_at_call 56; refine (l01Root_any p ((a - x * x) % p) _ HP.out q0 q1).mono ?_; rintro e w3 ⟨rfl, rfl⟩))
        go_ret3
        exact ⟨by rw [HS.out.1, HS.out.2, HC.out, ← HY.out, ← HQ.out]; rfl, by ((repeat' (first | with_reducible exact Below.refl _ _ | (with_reducible refine Below.setCell ?_ ?_ _) | (with_reducible refine Below.alloc ?_ ?_ _) | (with_reducible refine Below.drew ?_))); all_goals (first | (simp; done) | omega | (simp; omega)))⟩
      · have ht : ¬ 0 ≤ rt p ((a - x * x) % p) := fun h => hq (hi.1 h)
        clear hi
        go_wp2_with (first | (go_at_call 57; refine (l01Mod_any p (a - x * x) _ HP.out (by omega) (by omega)).mono ?_; rintro e w2 ⟨rfl, rfl⟩) | (go_at_call 56; refine (l01Root_any p ((a - x * x) % p) _ HP.out q0 q1).mono ?_; rintro e w3 ⟨rfl, rfl⟩))
        go_round
        case rel => exact ⟨x + 1, by omega, by omega, rfl⟩
        case measure => simp [intOf]; omega
  all_goals
    have HS := Lib.hid (ss_no hc (by decide))
    have HC := Lib.hid hc
    clear hc hp
    try clear hn
    go_enter Try.func36, Try.ntmps36
    go_wp2_with (go_at_call 45; refine (l01Code_one p a _ _ (new_one _ _ _)).mono ?_; rintro e w1 ⟨rfl, rfl⟩; rw [HC.out])
    go_ret3
    exact ⟨by rw [HS.out.1, HS.out.2, HC.out]; rfl, by ((repeat' (first | with_reducible exact Below.refl _ _ | (with_reducible refine Below.setCell ?_ ?_ _) | (with_reducible refine Below.alloc ?_ ?_ _) | (with_reducible refine Below.drew ?_))); all_goals (first | (simp; done) | omega | (simp; omega)))⟩

theorem sumOfSquares_err (p a : Int) (w : World) (h : codeOf p [a] ≠ 0) :
    Calls Try.prog 35 #[.int .i64 p, .int .i64 a] w fun e w' => e = .returned (.tuple #[.int .i64 (ssX p a), .int .i64 (ssY p a), .int .i64 (codeOf p [a])]) ∧ Below w.heap.size w w' := by
  rcases code_one p a with ⟨hc, hp, a0, a1⟩ | ⟨hc, hp⟩ | ⟨hc, hp, hn⟩
  · exact absurd hc h
  all_goals
    have HS := Lib.hid (ss_no hc (by decide))
    have HC := Lib.hid hc
    clear hc hp h
    try clear hn
    go_enter Try.func35, Try.ntmps35
    go_wp2_with (go_at_call 43; refine (check_one p a _ _ (new_one _ _ _)).mono ?_; rintro e w1 ⟨rfl, rfl⟩; rw [HC.out])
    go_ret3
    exact ⟨by rw [HS.out.1, HS.out.2, HC.out]; rfl, by ((repeat' (first | with_reducible exact Below.refl _ _ | (with_reducible refine Below.setCell ?_ ?_ _) | (with_reducible refine Below.alloc ?_ ?_ _) | (with_reducible refine Below.drew ?_))); all_goals (first | (simp; done) | omega | (simp; omega)))⟩

set_option maxHeartbeats 4000000 in
theorem sumOfSquares_ok (p a : Int) (w : World) (hc : codeOf p [a] = 0) (hp : prm p = true) (a0 : 0 ≤ a) (a1 : a < p) :
    Calls Try.prog 35 #[.int .i64 p, .int .i64 a] w fun e w' => e = .returned (.tuple #[.int .i64 (ssX p a), .int .i64 (ssY p a), .int .i64 (codeOf p [a])]) ∧ Below w.heap.size w w' := by
  have hb := prm_bd hp
  obtain ⟨v0, v1⟩ := sx_bd hp a0 a1
  have HP := Lib.hid hp
  have HS := Lib.hid (ss_yes hc)
  have HC := Lib.hid hc
  have HA : Hid ((a - 0 * 0) % p = a) := by show (a - 0 * 0) % p = a; simp [Int.emod_eq_of_lt a0 a1]
  clear hp hc
  go_enter Try.func35, Try.ntmps35
  go_wp2_with (first | (go_at_call 43; refine (check_one p a _ _ (new_one _ _ _)).mono ?_; rintro e w1 ⟨rfl, rfl⟩; rw [HC.out]) | (go_at_call 55; refine (root_any p a _ HP.out a0 a1).mono ?_; rintro e w2 ⟨rfl, hb2⟩))
  have z2 : w.heap.size + 1 + 1 < w2.heap.size := by have := hb2.size; simp at this; omega
  have M2 := Lib.hid ((numAt_new2 w _ _ p 0 _).keep hb2 (by simp))
  have M1 := Lib.hid (((numAt_new1 w _ p a _).alloc (by simp) _).keep hb2 (by simp))
  have MB0 : Below w.heap.size w w2 := by (have hs_hb2 := hb2.size; (repeat' (first | with_reducible exact Below.refl _ _ | (with_reducible refine Below.setCell ?_ ?_ _) | (with_reducible refine Below.alloc ?_ ?_ _) | (with_reducible refine Below.drew ?_) | (with_reducible refine below_step ?_ ?_ hb2))); all_goals (first | (simp; done) | omega | (simp; omega) | (simp at hs_hb2 ⊢; omega)))
  have MB := Lib.hid MB0
  clear hb2 MB0
  go_loopw [11] (fun u wr => ∃ x : Int, 0 ≤ x ∧ x ≤ sx p a ∧ u = .bool (rtB p ((a - x * x) % p)) ∧ NumAt wr (w.heap.size + 1) p a ∧ NumAt wr (w.heap.size + 1 + 1) p x ∧ NumAt wr w2.heap.size (rtP p ((a - x * x) % p)) (rtV p ((a - x * x) % p)) ∧ Below w.heap.size w wr ∧ w2.heap.size < wr.heap.size) (fun _ wr => (sx p a - cellVal wr (w.heap.size + 1 + 1)).toNat)
  case atStart =>
    exact ⟨0, by omega, by omega, by rw [HA.out], M1.out.alloc (by omega) _, M2.out.alloc (by omega) _, by rw [HA.out]; exact numAt_new w2 _ _ _, MB.out.alloc (by omega) _, by simp⟩
  case round =>
    obtain ⟨x, x0, x1, rfl, n1, n2, nT0, hbel, zT⟩ := hrel
    have hi := sx_iff HP.out a0 a1 x0 x1
    have N1 := Lib.hid n1
    have N2 := Lib.hid n2
    have NT := Lib.hid nT0
    obtain ⟨a00, a01, b00, b01⟩ := n1
    obtain ⟨a10, a11, b10, b11⟩ := n2
    by_cases hq : x = sx p a
    · have HQ := Lib.hid hq
      have HR := Lib.hid (rt_yes (hi.2 hq))
      have HY : Hid (rt p ((a - x * x) % p) = sy p a) := by show rt p ((a - x * x) % p) = sy p a; rw [hq]; rfl
      rw [HR.out.1, HR.out.2.1] at nT0
      have hB := HR.out.2.2
      obtain ⟨a20, a21, b20, b21⟩ := nT0
      clear hi hq
      go_wp2
      go_quiet (fail)
      go_wp2
      go_ret3
      exact ⟨by rw [HS.out.1, HS.out.2, HC.out, ← HY.out, ← HQ.out]; rfl, below_drewN hbel _⟩
    · have HR := Lib.hid (rt_no (by have := fun h => hq (hi.1 h); omega : rt p ((a - x * x) % p) < 0))
      have hB := HR.out.2.2
      have hx1 : x + 1 ≤ sx p a := by omega
      obtain ⟨m0, m1⟩ := mul_bd HP.out (by omega : 0 ≤ x + 1) (by omega) (by omega : 0 ≤ x + 1) (by omega)
      obtain ⟨q0, q1⟩ := mod_bd HP.out ((x + 1) * (x + 1))
      obtain ⟨r0, r1⟩ := mod_bd HP.out (a - (x + 1) * (x + 1))
      clear hi hq nT0
      go_wp2
      have S0 := held2 (N1.out.far (by omega) 1 (.int .i64 (x + 1))).drew (N2.out.setValue (x + 1)).drew
      go_region_held3 (fun w' => w'.cell? ⟨w.heap.size + 1, 0, none⟩ = some (.int .i64 p) ∧ w'.cell? ⟨w.heap.size + 1, 1, none⟩ = some (.int .i64 a) ∧ w'.cell? ⟨w.heap.size + 1 + 1, 0, none⟩ = some (.int .i64 p) ∧ w'.cell? ⟨w.heap.size + 1 + 1, 1, none⟩ = some (.int .i64 (x + 1))) (first | exact S0 | exact S3 | exact S4 | exact S5 | exact S6 _ _) (first | (go_at_call 49; refine (times_any p (x + 1) (x + 1) _ HP.out (by omega) (by omega) (by omega) (by omega)).mono ?_; rintro e w3 ⟨rfl, hb3⟩; have hs3 := hb3.size; simp at hs3; have ns := (N1.out.far (by omega) 1 (.int .i64 (x + 1))).drew.keep hb3 (by simp; omega); have nx := (N2.out.setValue (x + 1)).drew.keep hb3 (by simp; omega); have nT := (NT.out.far (by omega) 1 (.int .i64 (x + 1))).drew.keep hb3 (by simp; omega); have S3 := held2 ns nx) | (go_at_call 51; refine (minus_any p a ((x + 1) * (x + 1) % p) _ HP.out a0 a1 q0 (by omega)).mono ?_; rintro e w4 ⟨rfl, hb4⟩; have hs4 := hb4.size; have ms := ns.keep hb4 (by omega); have mx := nx.keep hb4 (by omega); have mT := nT.keep hb4 (by omega); have S4 := held2 ms mx) | (go_at_call 55; refine (root_any p ((a - (x + 1) * (x + 1)) % p) _ HP.out r0 r1).mono ?_; rintro e w5 ⟨rfl, hb5⟩; have hs5 := hb5.size; have ls := ms.keep hb5 (by omega); have lx := mx.keep hb5 (by omega); obtain ⟨d0, d1, f0, f1⟩ := mT.keep hb5 (by omega); have S5 := held2 ls lx; have S6 := fun u v => held2 ((ls.far (c := w2.heap.size) (by omega) 0 u).far (c := w2.heap.size) (by omega) 1 v) ((lx.far (c := w2.heap.size) (by omega) 0 u).far (c := w2.heap.size) (by omega) 1 v)))
      go_wp2
      go_roundw
      case rel => exact ⟨x + 1, by omega, by omega, rfl, (ls.far (by omega) _ _).far (by omega) _ _, (lx.far (by omega) _ _).far (by omega) _ _, NumAt.set ⟨d0, d1, f0, f1⟩ _ _, by (have hs_hb5 := hb5.size; have hs_hb4 := hb4.size; have hs_hb3 := hb3.size; have hs_hbel := hbel.size; (repeat' (first | with_reducible exact Below.refl _ _ | (with_reducible refine Below.setCell ?_ ?_ _) | (with_reducible refine Below.alloc ?_ ?_ _) | (with_reducible refine Below.drew ?_) | (with_reducible refine below_step ?_ ?_ hb5) | (with_reducible refine below_step ?_ ?_ hb4) | (with_reducible refine below_step ?_ ?_ hb3) | (with_reducible refine below_step ?_ ?_ hbel))); all_goals (first | (simp; done) | omega | (simp; omega) | (simp at hs_hb5 hs_hb4 hs_hb3 hs_hbel ⊢; omega))), by simp; omega⟩
      case measure =>
        rw [cellVal_of ((lx.far (by omega) _ _).far (by omega) _ _), cellVal_of N2.out]
        omega

theorem sumOfSquares_impl (p a : Int) (w : World) :
    Calls Try.prog 35 #[.int .i64 p, .int .i64 a] w fun e w' => e = .returned (.tuple #[.int .i64 (ssX p a), .int .i64 (ssY p a), .int .i64 (codeOf p [a])]) ∧ Below w.heap.size w w' := by
  rcases code_one p a with ⟨hc, hp, a0, a1⟩ | ⟨hc, hp⟩ | ⟨hc, hp, hn⟩
  · exact sumOfSquares_ok p a w hc hp a0 a1
  · exact sumOfSquares_err p a w (by rw [hc]; decide)
  · exact sumOfSquares_err p a w (by rw [hc]; decide)

end Go.Proofs.Ytgkifpampmmhoaa
