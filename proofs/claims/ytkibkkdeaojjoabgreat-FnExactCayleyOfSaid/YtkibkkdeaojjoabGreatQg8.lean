/-
  What the program's operations on numbers return: contracts of remainderOf, plus, minus, times.
  Conditions: the prime is one, and the numbers are remainders by it.
  What the model's check of a prime and of a list of numbers returns, and both checks at the short lists that the functions of chapter 1 build.
  Conditions: the lists are rows of cells that are known.
  What powers, inverses and quotients of numbers return: contracts of the program's methods and of the model's helpers.
  Conditions: the prime is one, the numbers are remainders by it, an exponent is at most 1000.
  What inverses, powers with negative exponents and quotients of numbers return, in the program.
  Conditions: the prime is one, the numbers are remainders by it, a divisor is not 0, an exponent is from -1000000 to 1000000.
  Inverses of numbers, for the linear algebra: what XPower and XOver have.
  No conditions.
  What the model's sums, multiples, copies, turned matrices and unit matrices are: contracts.
  Conditions: the lists and matrices are rows of known cells with numbers of the prime; their sizes fit.
-/
import Derived.Test.YtkibkkdeaojjoabGreatQg1
import Derived.Outline
import Derived.Test.YtkibkkdeaojjoabGreatQg7
import Derived.BigQuiet
import Derived.Deep.QuietTactic
import Derived.Deep.RegionHeld3
import Derived.RegionTactic
import Derived.Deep.AppendLies
namespace Go.Proofs.YtkibkkdeaojjoabGreat
open Go.RowKit
set_option linter.unusedVariables false

theorem tmod_neg {n p : Int} (hn : n < 0) (hp : 0 < p) : n.tmod p = -((-n) % p) := by
  have h : n = -(-n) := by omega
  rw [h, Int.neg_tmod, Int.tmod_eq_emod_of_nonneg (by omega)]
  simp
theorem tmod_facts {n p : Int} (hn : n < 0) (hp : 0 < p) : -p < n.tmod p ∧ n.tmod p ≤ 0 ∧ (n.tmod p < 0 → n.tmod p + p = n % p) ∧ (n.tmod p = 0 → n % p = 0) := by
  rw [tmod_neg hn hp]
  have h1 := Int.emod_nonneg (-n) (by omega : p ≠ 0)
  have h2 := Int.emod_lt_of_pos (-n) hp
  have h3 := Int.emod_nonneg n (by omega : p ≠ 0)
  have h4 := Int.emod_lt_of_pos n hp
  have h5 := Int.mul_ediv_add_emod (-n) p
  have h6 := Int.mul_ediv_add_emod n p
  have key : ∀ q : Int, (0 < (-n) % p + n % p - 0 → True) := fun _ _ => trivial
  have h7 : ((-n) % p + n % p) % p = 0 := by rw [← Int.add_emod, Int.add_left_neg]; simp
  refine ⟨by omega, by omega, fun h => ?_, fun h => ?_⟩
  · have h8 : (-n) % p + n % p = p := by
      by_cases hlt : (-n) % p + n % p < p
      · rw [Int.emod_eq_of_lt (by omega) hlt] at h7; omega
      · have h9 : ((-n) % p + n % p - p) % p = 0 := by rw [Int.sub_emod, h7]; simp
        rw [Int.emod_eq_of_lt (by omega) (by omega)] at h9; omega
    omega
  · have h8 : (-n) % p = 0 := by omega
    rw [h8, Int.zero_add, Int.emod_eq_of_lt h3 h4] at h7
    exact h7

set_option maxHeartbeats 400000 in
theorem remainderOf_any (p n : Int) (w : World) (hp : prm p = true) (n0 : -9223372036854775808 ≤ n) (n1 : n ≤ 9223372036854775807) :
    Calls Tryz.prog 124 #[.int .i64 p, .int .i64 n] w fun e w' => e = .returned (.agg #[.int .i64 p, .int .i64 (n % p)]) ∧ Below w.heap.size w w' := by
  have hb := prm_bd hp
  have hm := mod_bd hp n
  clear hp
  by_cases hn : 0 ≤ n
  · go_enter Tryz.func124, Tryz.ntmps124
    go_wp2
    exact bodyPost_ret (v := .agg #[.int .i64 p, .int .i64 (n % p)]) (by simp [results, Tryz.results124, go_sem]) rfl ⟨rfl, (Below.refl _ _).alloc (Nat.le_refl _) _⟩
  · obtain ⟨t1, t2, t3, t4⟩ := tmod_facts (n := n) (p := p) (by omega) (by omega)
    by_cases ht : n.tmod p < 0
    · have H := Lib.hid (t3 ht)
      clear t3 t4
      go_enter Tryz.func124, Tryz.ntmps124
      go_wp2
      rw [H.out]
      exact bodyPost_ret (v := .agg #[.int .i64 p, .int .i64 (n % p)]) (by simp [results, Tryz.results124, go_sem]) rfl ⟨rfl, (Below.refl _ _).alloc (Nat.le_refl _) _⟩
    · have H0 : Hid (n.tmod p = n % p) := by show n.tmod p = n % p; have : n.tmod p = 0 := by omega
                                             rw [t4 this, this]
      clear t3 t4
      go_enter Tryz.func124, Tryz.ntmps124
      go_wp2
      rw [H0.out]
      exact bodyPost_ret (v := .agg #[.int .i64 p, .int .i64 (n % p)]) (by simp [results, Tryz.results124, go_sem]) rfl ⟨rfl, (Below.refl _ _).alloc (Nat.le_refl _) _⟩

set_option maxHeartbeats 400000 in
theorem times_any (p a b : Int) (w : World) (hp : prm p = true) (a0 : 0 ≤ a) (a1 : a < p) (b0 : 0 ≤ b) (b1 : b < p) :
    Calls Tryz.prog 106 #[.agg #[.int .i64 p, .int .i64 a], .agg #[.int .i64 p, .int .i64 b]] w fun e w' => e = .returned (.agg #[.int .i64 p, .int .i64 (a * b % p)]) ∧ Below w.heap.size w w' := by
  have hb := prm_bd hp
  obtain ⟨m0, m1⟩ := mul_bd hp a0 a1 b0 b1
  have HP := Lib.hid hp
  clear hp
  go_enter Tryz.func106, Tryz.ntmps106
  go_wp2_with (go_at_call 124; refine (remainderOf_any _ _ _ HP.out (by omega) (by omega)).mono ?_; rintro e w1 ⟨rfl, hb1⟩; obtain ⟨hc, hf⟩ := bcell hb1)
  refine bodyPost_ret (v := .agg #[.int .i64 p, .int .i64 (a * b % p)]) (by simp [results, Tryz.results106, go_sem, hc]) rfl ⟨rfl, ?_⟩
  (have hs_hb1 := hb1.size; (repeat' (first | with_reducible exact Below.refl _ _ | (with_reducible refine Below.setCell ?_ ?_ _) | (with_reducible refine Below.alloc ?_ ?_ _) | (with_reducible refine Below.drew ?_) | (with_reducible refine below_step ?_ ?_ hb1))); all_goals (first | (simp; done) | omega | (simp; omega) | (simp at hs_hb1 ⊢; omega)))

end Go.Proofs.YtkibkkdeaojjoabGreat

namespace Go.Proofs.YtkibkkdeaojjoabGreat
open Go.RowKit
set_option linter.unusedVariables false

theorem new_one (w : World) (x : Value) (t : TypeId) : (w.alloc (.cells #[x] t)).cell? ⟨w.heap.size, 0, none⟩ = some x := by simp [go_sem]
end Go.Proofs.YtkibkkdeaojjoabGreat

namespace Go.Proofs.YtkibkkdeaojjoabGreat
open Go.RowKit
set_option linter.unusedVariables false

theorem l01Inv_any (p a : Int) (w : World) (hp : prm p = true) (a0 : 1 ≤ a) (a1 : a < p) :
    Calls Tryz.prog 48 #[.int .i64 p, .int .i64 a] w fun e w' => e = .returned (.int .i64 (inv p a)) ∧ w = w' := by
  have hb := prm_bd hp
  obtain ⟨v0, v1⟩ := inv_bd hp a
  have v2 := inv_pos hp a0 a1
  have HP := Lib.hid hp
  clear hp
  go_enter Tryz.func48, Tryz.ntmps48
  go_wp2
  go_loop [5] (fun t => ∃ b : Int, 1 ≤ b ∧ b ≤ inv p a ∧ t = .int .i64 b) (fun t => (inv p a - intOf t).toNat)
  case atStart => exact ⟨1, by omega, by omega, rfl⟩
  case round =>
    obtain ⟨b, b0, b1, rfl⟩ := hrel
    obtain ⟨m0, m1⟩ := mul_bd (a := a) (b := b) HP.out (by omega) (by omega) (by omega) (by omega)
    obtain ⟨q0, q1⟩ := mod_bd HP.out (a * b)
    have hi := inv_iff (a := a) HP.out a0 a1 b0 b1
    by_cases hq : b = inv p a
    · have ht := hi.2 hq
      have HQ := Lib.hid hq
      clear hi hq
      go_wp2
      go_ret
      exact ⟨by rw [← HQ.out]; rfl, rfl⟩
    · have ht : ¬ a * b % p = 1 := fun h => hq (hi.1 h)
      clear hi
      go_wp2
      go_round
      case rel => exact ⟨b + 1, by omega, by omega, rfl⟩
      case measure => simp [intOf]; omega

set_option maxHeartbeats 800000 in
theorem power_pos (p a : Int) (m : Nat) (w : World) (hp : prm p = true) (a0 : 0 ≤ a) (a1 : a < p) (hm : m ≤ 1000000) :
    Calls Tryz.prog 99 #[.agg #[.int .i64 p, .int .i64 a], .int .i64 m] w fun e w' => e = .returned (.agg #[.int .i64 p, .int .i64 (pw p a m)]) ∧ Below w.heap.size w w' := by
  have HP := Lib.hid hp
  have hb := prm_bd hp
  clear hp
  go_enter Tryz.func99, Tryz.ntmps99
  go_wp2
  go_loopw [17] (fun t wr => ∃ j : Nat, j ≤ m ∧ t = .int .i64 j ∧ NumAt wr (w.heap.size + 1 + 1) p (pw p a j) ∧ NumAt wr w.heap.size p a ∧ NumAt wr (w.heap.size + 1) 0 0 ∧ Below w.heap.size w wr ∧ w.heap.size + 3 ≤ wr.heap.size) (fun t _ => m - (intOf t).toNat)
  case atStart =>
    refine ⟨0, Nat.zero_le _, rfl, ?_, ?_, ?_, by ((repeat' (first | with_reducible exact Below.refl _ _ | (with_reducible refine Below.setCell ?_ ?_ _) | (with_reducible refine Below.alloc ?_ ?_ _) | (with_reducible refine Below.drew ?_))); all_goals (first | (simp; done) | omega | (simp; omega))), by simp⟩
    · exact (by simpa [pw] using numAt_new ((w.alloc (Obj.cells #[.int .i64 p, .int .i64 a] _)).alloc (Obj.cells #[.int .i64 0, .int .i64 0] _)) p 1 _)
    · exact ((numAt_new w p a _).alloc (by simp) _).alloc (by simp; omega) _
    · exact NumAt.alloc (by simpa using numAt_new (w.alloc (Obj.cells #[.int .i64 p, .int .i64 a] _)) 0 0 _) (by simp) _
  case round =>
    obtain ⟨j, hj, rfl, n2, n0, n1, hbel, hz⟩ := hrel
    obtain ⟨q0, q1⟩ := pw_bd (a := a) HP.out j
    obtain ⟨g20, g21, k20, k21⟩ := n2
    obtain ⟨g00, g01, k00, k01⟩ := n0
    by_cases hlt : j < m
    · go_wp2_with (go_at_call 106; refine (times_any p (pw p a j) a _ HP.out q0 q1 a0 a1).mono ?_; rintro e w1 ⟨rfl, hb1⟩; have n2' := NumAt.keep (b := w.heap.size + 1 + 1) ⟨g20, g21, k20, k21⟩ hb1 (by omega); obtain ⟨e20, e21, h20, h21⟩ := n2')
      go_roundw
      case rel =>
        have hs1 := hb1.size
        have n2' : NumAt w1 (w.heap.size + 1 + 1) p (pw p a j) := ⟨e20, e21, h20, h21⟩
        refine ⟨j + 1, by omega, by go_num, n2'.set p _, ((NumAt.keep (b := w.heap.size) ⟨g00, g01, k00, k01⟩ hb1 (by omega)).far (by omega) _ _).far (by omega) _ _, ((n1.keep hb1 (by omega)).far (by omega) _ _).far (by omega) _ _, by (have hs_hb1 := hb1.size; have hs_hbel := hbel.size; (repeat' (first | with_reducible exact Below.refl _ _ | (with_reducible refine Below.setCell ?_ ?_ _) | (with_reducible refine Below.alloc ?_ ?_ _) | (with_reducible refine Below.drew ?_) | (with_reducible refine below_step ?_ ?_ hb1) | (with_reducible refine below_step ?_ ?_ hbel))); all_goals (first | (simp; done) | omega | (simp; omega) | (simp at hs_hb1 hs_hbel ⊢; omega))), by simp; omega⟩
      case measure => simp [intOf]; omega
    · have hjm : Hid (j = m) := by show j = m; omega
      obtain ⟨g10, g11, k10, k11⟩ := n1
      go_wp2
      refine bodyPost_ret (v := .agg #[.int .i64 p, .int .i64 (pw p a j)]) (by simp [results, Tryz.results99, go_sem, g10, g11]) rfl ⟨by rw [hjm.out], ?_⟩
      (have hs_hbel := hbel.size; (repeat' (first | with_reducible exact Below.refl _ _ | (with_reducible refine Below.setCell ?_ ?_ _) | (with_reducible refine Below.alloc ?_ ?_ _) | (with_reducible refine Below.drew ?_) | (with_reducible refine below_step ?_ ?_ hbel))); all_goals (first | (simp; done) | omega | (simp; omega) | (simp at hs_hbel ⊢; omega)))

end Go.Proofs.YtkibkkdeaojjoabGreat

namespace Go.Proofs.YtkibkkdeaojjoabGreat
open Go.RowKit
set_option linter.unusedVariables false

theorem power_any (p a : Int) (k : Int) (w : World) (hp : prm p = true) (a0 : 0 ≤ a) (a1 : a < p) (k0 : 0 ≤ k) (k1 : k ≤ 1000000) :
    Calls Tryz.prog 99 #[.agg #[.int .i64 p, .int .i64 a], .int .i64 k] w fun e w' => e = .returned (.agg #[.int .i64 p, .int .i64 (pw p a k.toNat)]) ∧ Below w.heap.size w w' := by
  have h := power_pos p a k.toNat w hp a0 a1 (by omega)
  rwa [Int.toNat_of_nonneg k0] at h

set_option maxHeartbeats 400000 in
theorem inverse_any (p a : Int) (w : World) (hp : prm p = true) (a0 : 0 ≤ a) (a1 : a < p) :
    Calls Tryz.prog 78 #[.agg #[.int .i64 p, .int .i64 a]] w fun e w' => e = .returned (.agg #[.int .i64 p, .int .i64 (inv p a)]) ∧ Below w.heap.size w w' := by
  have HP := Lib.hid hp
  have hb := prm_bd hp
  clear hp
  go_enter Tryz.func78, Tryz.ntmps78
  go_wp2_with (go_at_call 99; refine (power_any p a (p - 2) _ HP.out a0 a1 (by omega) (by omega)).mono ?_; rintro e w1 ⟨rfl, hb1⟩; obtain ⟨hc, hf⟩ := bcell hb1)
  refine bodyPost_ret (v := .agg #[.int .i64 p, .int .i64 (inv p a)]) (by simp [results, Tryz.results78, go_sem, hc, inv]) rfl ⟨rfl, ?_⟩
  (have hs_hb1 := hb1.size; (repeat' (first | with_reducible exact Below.refl _ _ | (with_reducible refine Below.setCell ?_ ?_ _) | (with_reducible refine Below.alloc ?_ ?_ _) | (with_reducible refine Below.drew ?_) | (with_reducible refine below_step ?_ ?_ hb1))); all_goals (first | (simp; done) | omega | (simp; omega) | (simp at hs_hb1 ⊢; omega)))

set_option maxHeartbeats 400000 in
theorem over_any (p a b : Int) (w : World) (hp : prm p = true) (a0 : 0 ≤ a) (a1 : a < p) (b0 : 0 ≤ b) (b1 : b < p) :
    Calls Tryz.prog 88 #[.agg #[.int .i64 p, .int .i64 a], .agg #[.int .i64 p, .int .i64 b]] w fun e w' => e = .returned (.agg #[.int .i64 p, .int .i64 (a * inv p b % p)]) ∧ Below w.heap.size w w' := by
  have HP := Lib.hid hp
  obtain ⟨i0, i1⟩ := inv_bd hp b
  have hb := prm_bd hp
  clear hp
  go_enter Tryz.func88, Tryz.ntmps88
  go_wp2_with fail
  go_region_with (first | (go_at_call 78; refine (inverse_any p b _ HP.out b0 b1).mono ?_; rintro e w1 ⟨rfl, hb1⟩; have n2 := (numAt_new2 w _ _ 0 0 _).drew.keep hb1 (by simp); obtain ⟨g0, g1, f0, f1⟩ := (((numAt_new w p a _).alloc (by simp) _).alloc (by simp; omega) _).drew.keep hb1 (by simp; omega)) | (go_at_call 106; refine (times_any p a (inv p b) _ HP.out a0 a1 i0 i1).mono ?_; rintro e w2 ⟨rfl, hb2⟩; obtain ⟨g20, g21, f20, f21⟩ := n2.keep hb2 (by have := hb1.size; simp at this; omega)))
  all_goals
    go_wp2
    refine bodyPost_ret (v := .agg #[.int .i64 p, .int .i64 (a * inv p b % p)]) (by simp [results, Tryz.results88, go_sem, g20, g21]) rfl ⟨rfl, ?_⟩
    (have hs_hb2 := hb2.size; have hs_hb1 := hb1.size; (repeat' (first | with_reducible exact Below.refl _ _ | (with_reducible refine Below.setCell ?_ ?_ _) | (with_reducible refine Below.alloc ?_ ?_ _) | (with_reducible refine Below.drew ?_) | (with_reducible refine below_step ?_ ?_ hb2) | (with_reducible refine below_step ?_ ?_ hb1))); all_goals (first | (simp; done) | omega | (simp; omega) | (simp at hs_hb2 hs_hb1 ⊢; omega)))

end Go.Proofs.YtkibkkdeaojjoabGreat

namespace Go.Proofs.YtkibkkdeaojjoabGreat
open Go.RowKit
set_option linter.unusedVariables false

def plusR (p : Int) (a b : List Int) (k : Int) : List Int := mkR a.length fun j => (a.getD j 0 + k * b.getD j 0) % p

set_option maxHeartbeats 1600000 in
set_option maxRecDepth 100000 in
theorem l02Plus_any (p k : Int) (a b : Option Addr) (za zb : List Int) (ca cb lo tp lo' tp' : Nat) (w : World) (hp : prm p = true) (ha : RowIn lo tp w a za) (hb : RowIn lo' tp' w b zb) (ht : tp ≤ w.heap.size) (ht' : tp' ≤ w.heap.size)
    (hl : za.length ≤ zb.length) (hs : za.length ≤ 1048576) (hna : ∀ j, j < za.length → 0 ≤ za.getD j 0 ∧ za.getD j 0 < p) (hnb : ∀ j, j < zb.length → 0 ≤ zb.getD j 0 ∧ zb.getD j 0 < p) (k0 : 0 ≤ k) (k1 : k ≤ p) :
    Calls Tryz.prog 42 #[.int .i64 p, .slice a za.length ca, .slice b zb.length cb, .int .i64 k] w (NewR (plusR p za zb k) w) := by
  obtain ⟨i0, hi, hz0, hz1, hz2⟩ := info_parts info64
  have hpb := prm_bd hp
  have HA := Lib.hid ha
  have HB := Lib.hid hb
  have HNA := Lib.hid hna
  have HNB := Lib.hid hnb
  clear ha hb hna hnb hp
  go_enter Tryz.func42, Tryz.ntmps42
  go_wp2
  go_loopw [9, 10] (fun v t wr => ∃ i : Nat, i ≤ za.length ∧ t = .int .i64 i ∧ OutR w.heap.size wr v (mkR i fun j => (za.getD j 0 + k * zb.getD j 0) % p) ∧ Below w.heap.size w wr) (fun _ t _ => za.length - (intOf t).toNat)
  case atStart => exact ⟨0, Nat.zero_le _, rfl, OutR.start w _ _ (Nat.le_refl _) rfl, by ((repeat' (first | with_reducible exact Below.refl _ _ | (with_reducible refine Below.setCell ?_ ?_ _) | (with_reducible refine Below.alloc ?_ ?_ _) | (with_reducible refine Below.drew ?_))); all_goals (first | (simp; done) | omega | (simp; omega)))⟩
  case round =>
    obtain ⟨i, hi', rfl, ho, hbel⟩ := hrel
    have HO := Lib.hid ho
    have hwz := hbel.size
    clear ho
    by_cases hlt : i < za.length
    · obtain ⟨b1, o1, ha1, _, hb1, hc1⟩ := HA.out.num hlt
      obtain ⟨b2, o2, ha2, _, hb2, hc2⟩ := HB.out.num (by omega : i < zb.length)
      subst ha1
      subst ha2
      have hc1 := (hbel.cell (p := ⟨b1, o1 + i, none⟩) (Nat.lt_of_lt_of_le hb1 ht)).trans hc1
      have hc2 := (hbel.cell (p := ⟨b2, o2 + i, none⟩) (Nat.lt_of_lt_of_le hb2 ht')).trans hc2
      obtain ⟨x0, x1⟩ := HNA.out i hlt
      obtain ⟨y0, y1⟩ := HNB.out i (by omega)
      have HS : Hid (mkR (i + 1) (fun j => (za.getD j 0 + k * zb.getD j 0) % p) = mkR i (fun j => (za.getD j 0 + k * zb.getD j 0) % p) ++ [(za.getD i 0 + k * zb.getD i 0) % p]) := mkR_succ _ _
      obtain ⟨x, hx⟩ : ∃ x, x = za.getD i 0 := ⟨_, rfl⟩
      obtain ⟨y, hy⟩ : ∃ y, y = zb.getD i 0 := ⟨_, rfl⟩
      rw [← hx] at hc1 x0 x1 HS
      rw [← hy] at hc2 y0 y1 HS
      clear hx hy
      have m0 : 0 ≤ k * y := Int.mul_nonneg k0 y0
      have m1 : k * y ≤ 13 * 13 := Int.le_trans (Int.mul_le_mul_of_nonneg_right (by omega : k ≤ 13) y0) (Int.mul_le_mul_of_nonneg_left (by omega) (by omega))
      have hi1 : (i : Int) < (za.length : Int) := by omega
      have hi2 : (i : Int) < (zb.length : Int) := by omega
      have e1 : IntKind.i64.wrap (k * y) = k * y := IntWalk.i64_in _ (by omega)
      have e2 : IntKind.i64.wrap (x + k * y) = x + k * y := IntWalk.i64_in _ (by omega)
      have e3 : (x + k * y).tmod p = (x + k * y) % p := Int.tmod_eq_emod_of_nonneg (by omega)
      obtain ⟨X, hX⟩ : ∃ X, X = (mkR i (fun j => (za.getD j 0 + k * zb.getD j 0) % p)).map (Value.int .i64) := ⟨_, rfl⟩
      have HX := Lib.hid hX
      have HO2 : Hid (wr.ownsRow w.heap.size 2 1 u9 i X) := by
        have := HO.out; unfold OutR at this; rw [mkR_len, ← hX] at this; exact this
      have n1 : u9.ownBlock ≠ some b1 := fun e => by have := (HO2.out.lt _ e).1; omega
      have n2 : u9.ownBlock ≠ some b2 := fun e => by have := (HO2.out.lt _ e).1; omega
      have lb1 : b1 < wr.heap.size := by omega
      have lb2 : b2 < wr.heap.size := by omega
      have hp0 : ¬ p = 0 := by omega
      have hp1 : (p == 0) = false := by simpa using hp0
      clear hX
      go_wp2
      go_region_held3 (fun w' => w'.cell? ⟨b1, o1 + i, none⟩ = some (.int .i64 x) ∧ w'.cell? ⟨b2, o2 + i, none⟩ = some (.int .i64 y)) (first | go_keep | (go_split_ands; refine ⟨?_, ?_⟩; (rw [hgrow.cell_far _ (by simp; omega) (Ne.symm n1)]; assumption); (rw [hgrow.cell_far _ (by simp; omega) (Ne.symm n2)]; assumption))) ((refine step_append_lies _ (by rfl) _ _ _ (by rfl) w.heap.size 2 i0 _ 1 8 Tryz.underlying22 hi hz0 hz1 hz2 rfl (by omega) u9 i X (by rfl) ((HO2.out.alloc _).drew) ⟨wr.heap.size, 0, none⟩ 1 1 [.int .i64 ((x + k * y) % p)] (by rfl) (by rfl) (World.news_of_block (cs := #[.int .i64 ((x + k * y) % p)]) (t := 2) (fr := (0, 0)) (heap_alloc_new wr _)) (by simp [Value.oneCell']) (by omega) (by unfold maxLen; omega) (by omega) (by simp; omega) (wr.heap.size + 1) (by simp) ?_; intro gg cap w1 hown1 hgrow hat hlt1))
      clear e1 e2 e3
      go_wp2
      go_roundw
      case rel => exact ⟨i + 1, by omega, by go_num, OutR.step HO2.out HX.out HS.out hown1, ((hbel.alloc hwz _).drew).grown hgrow (by simp; omega) (fun _ hk => (HO2.out.lt _ hk).1)⟩
      case measure => simp [intOf]; omega
    · have hn : i = za.length := by omega
      subst hn
      go_wp2
      go_ret
      exact HO.out.new hbel

def sclR (p : Int) (a : List Int) (k : Int) : List Int := mkR a.length fun j => a.getD j 0 * k % p

end Go.Proofs.YtkibkkdeaojjoabGreat
