/-
  Discriminants, in the program and in the model.
  Conditions: the squares are nil or a row of known cells.
  What the model's check of a prime and of a list of numbers returns, and both checks at the short lists that the functions of chapter 1 build.
  Conditions: the lists are rows of cells that are known.
  What powers, inverses and quotients of numbers return: contracts of the program's methods and of the model's helpers.
  Conditions: the prime is one, the numbers are remainders by it, an exponent is at most 1000.
  What inverses, powers with negative exponents and quotients of numbers return, in the program.
  Conditions: the prime is one, the numbers are remainders by it, a divisor is not 0, an exponent is from -1000000 to 1000000.
  Pseudoscalars, their squares, duals, meets: numbers. No Go in sight.
  No conditions.
  PairOf and NormOf: contracts of the program and of the model.
  Conditions: the lists are nil or rows of known cells, of at most 1048576 numbers.
  Lists of vectors of a space, in the program and in the model.
  Conditions: the lists are nil or rows of known cells, of at most 1048576 numbers.
  WedgeOfVectors: contracts of the program and of the model.
  Conditions: the lists are nil or rows of known cells, of at most 1048576 numbers.
  The signs of those grades of which a multivector has blades: contracts of the program and of the model.
  Conditions: the lists are nil or rows of known cells, of at most 1048576 numbers.
  GradesOf: contracts of the program and of the model.
  Conditions: the lists are nil or rows of known cells, of at most 1048576 numbers.
  slices.Max and slices.Equal of lists of numbers.
  Conditions: rows of known cells, of at most 1048576 numbers.
  Versors: spinor norms, parities, what is around vectors. No Go in sight.
  No conditions.
  Two lists compared: contracts of the program and of the model.
  Conditions: the lists are nil or rows of known cells, of at most 1048576 numbers.
  IsEven: contracts of the program and of the model.
  Conditions: the lists are nil or rows of known cells, of at most 1048576 numbers.
  Pseudoscalars, their squares, scalar products: contracts of the program and of the model.
  Conditions: the lists are nil or rows of known cells, of at most 1048576 numbers.
  What is around vectors, parities, numbers of basis vectors (program): contracts of the program and of the model.
  Conditions: the lists are nil or rows of known cells, of at most 1048576 numbers.
-/
import Derived.Test.YtigdepahbnidjaaQo5
import Derived.Test.YtigdepahbnidjaaQo9
import Derived.Test.YtigdepahbnidjaaQo1
import Derived.BigQuiet
import Derived.Deep.QuietTactic
import Derived.Deep.RegionHeld3
import Derived.RegionTactic
import Derived.Deep.DeepCutAuto
import Derived.Laws.AppendOwn
import Derived.Test.YtigdepahbnidjaaQo8
import Derived.ChangeKeysEq
import Derived.Laws.StructEq
namespace Go.Proofs.Ytigdepahbnidjaa
open Go.RowKit
set_option linter.unusedVariables false

def disN (p : Int) (S : List Int) : Nat → Int
  | 0 => 1
  | i + 1 => disN p S i * S.getD i 0 % p
def discN (p : Int) (S : List Int) : Int := disN p S S.length
theorem disN_bd {p : Int} (hp : prm p = true) (S : List Int) (i : Nat) : 0 ≤ disN p S i ∧ disN p S i < p := by
  have := prm_bd hp
  cases i with
  | zero => show 0 ≤ (1 : Int) ∧ (1 : Int) < p; omega
  | succ i => exact mod_bd hp _
theorem discN_bd {p : Int} (hp : prm p = true) (S : List Int) : 0 ≤ discN p S ∧ discN p S < p := disN_bd hp S _

set_option maxRecDepth 100000 in
set_option maxHeartbeats 3200000 in
theorem l03Disc_any (p : Int) (aS : Option Addr) (S : List Int) (cS loS tpS : Nat) (w : World)
    (hS : RowIn loS tpS w aS S) (tS : tpS ≤ w.heap.size) (hs : isSp p S = true) :
    Calls Try.prog 47 #[.agg #[.int .i64 p, .slice aS S.length cS]] w fun e w' => e = .returned (.int .i64 (discN p S)) ∧ Below w.heap.size w w' := by
  have K := isSp_iff.1 hs
  have hpb := prm_bd K.prime
  have hS6 := K.hi
  have HS := Lib.hid hS
  have HK := Lib.hid K
  obtain ⟨n, hn⟩ : ∃ n, n = S.length := ⟨_, rfl⟩
  rw [← hn] at hS6
  have HN := Lib.hid hn
  have hn1 : S.length ≤ n ∧ n ≤ S.length := by omega
  rw [← hn]
  clear hS hs K hn
  go_enter Try.func47, Try.ntmps47
  go_wp2
  go_loopw [3, 4] (fun s t wr => ∃ i : Nat, i ≤ n ∧ s = .int .i64 (disN p S i) ∧ t = .int .i64 i ∧ Quiet (w.alloc (.cells #[.int .i64 p, .slice aS n cS] 30)) wr) (fun _ t _ => n - (intOf t).toNat)
  case atStart => exact ⟨0, Nat.zero_le _, rfl, rfl, Quiet.refl _⟩
  case round =>
    obtain ⟨i, hi, rfl, rfl, hq⟩ := hrel
    have HQ := Lib.hid hq
    have hb0 := (hq.cell ⟨w.heap.size, 0, none⟩).trans (nw0 w _ _ _)
    have hb1 := (hq.cell ⟨w.heap.size, 1, none⟩).trans (nw1 w _ _ _)
    have hqb := (below_alloc w (.cells #[.int .i64 p, .slice aS n cS] 30)).trans (hq.below _)
    by_cases hlt : i < n
    · obtain ⟨bs, os, ha1, _, _, cs⟩ := (HS.out.below hqb tS).num (by omega : i < S.length)
      subst ha1
      obtain ⟨z0, z1⟩ := HK.out.num (by omega : i < S.length)
      obtain ⟨q0, q1⟩ := disN_bd HK.out.prime S i
      have HST : Hid (∀ s z : Int, s = disN p S i → z = S.getD i 0 → s * z % p = disN p S (i + 1)) := by
        intro s z e1 e2
        subst e1 e2
        rfl
      obtain ⟨s, hs⟩ : ∃ s, s = disN p S i := ⟨_, rfl⟩
      obtain ⟨z, hz⟩ : ∃ z, z = S.getD i 0 := ⟨_, rfl⟩
      have HE := Lib.hid (HST.out s z hs hz)
      rw [← hs] at q0 q1
      rw [← hz] at cs z0 z1
      rw [← hs]
      clear hs hz HST hq hqb
      obtain ⟨p1, p2, _, _⟩ := prod3 hpb.2 q0 q1 z0 z1 z0 z1
      have e1 : IntKind.i64.wrap (s * z) = s * z := IntWalk.i64_in _ (by omega)
      have e2 : (s * z).tmod p = s * z % p := Int.tmod_eq_emod_of_nonneg p1
      have hp0 : ¬ p = 0 := by omega
      have hp1 : (p == 0) = false := by simpa using hp0
      have hi1 : (i : Int) < (n : Int) := by omega
      go_wp2
      go_quiet (fail)
      clear e1 e2
      go_wp2
      go_roundw
      case rel => exact ⟨i + 1, by omega, by rw [HE.out], by go_num, HQ.out.next _⟩
      case measure => simp [intOf]; omega
    · have hin : i = n := by omega
      subst hin
      have HE : Hid (disN p S i = discN p S) := by show _ = _; unfold discN; rw [HN.out]
      rw [HE.out]
      clear hq hqb
      go_wp2
      go_ret
      exact ⟨rfl, (below_alloc w _).trans (HQ.out.below _)⟩

set_option maxRecDepth 100000 in
set_option maxHeartbeats 3200000 in
theorem discriminant_any (p : Int) (aS : Option Addr) (S : List Int) (cS loS tpS : Nat) (w : World)
    (hS : RowIn loS tpS w aS S) (tS : tpS ≤ w.heap.size) (hs : isSp p S = true) :
    Calls Try.prog 156 #[.agg #[.int .i64 p, .slice aS S.length cS]] w fun e w' => e = .returned (.agg #[.int .i64 p, .int .i64 (discN p S)]) ∧ Below w.heap.size w w' := by
  have K := isSp_iff.1 hs
  have hpb := prm_bd K.prime
  have hS6 := K.hi
  have HS := Lib.hid hS
  have HK := Lib.hid K
  obtain ⟨n, hn⟩ : ∃ n, n = S.length := ⟨_, rfl⟩
  rw [← hn] at hS6
  have HN := Lib.hid hn
  have hn1 : S.length ≤ n ∧ n ≤ S.length := by omega
  rw [← hn]
  clear hS hs K hn
  go_enter Try.func156, Try.ntmps156
  go_wp2
  go_loopw [12] (fun t wr => ∃ i : Nat, i ≤ n ∧ t = .int .i64 i ∧ NumAt wr (w.heap.size + 1 + 1) p (disN p S i) ∧ NumAt wr (w.heap.size + 1) 0 0 ∧ wr.cell? ⟨w.heap.size, 0, none⟩ = some (.int .i64 p) ∧ wr.cell? ⟨w.heap.size, 1, none⟩ = some (.slice aS n cS) ∧ Below w.heap.size w wr ∧ w.heap.size + 3 ≤ wr.heap.size) (fun t _ => n - (intOf t).toNat)
  case atStart => exact ⟨0, Nat.zero_le _, rfl, numAt_new2 w _ _ p 1 _, (numAt_new1 w _ 0 0 _).alloc (by simp) _, by simp [go_sem], by simp [go_sem], by ((repeat' (first | with_reducible exact Below.refl _ _ | (with_reducible refine Below.setCell ?_ ?_ _) | (with_reducible refine Below.alloc ?_ ?_ _) | (with_reducible refine Below.drew ?_))); all_goals (first | (simp; done) | omega | (simp; omega))), by simp⟩
  case round =>
    obtain ⟨i, hi, rfl, n2, n1, hc0, hc1, hbel, hz⟩ := hrel
    have N2 := Lib.hid n2
    have N1 := Lib.hid n1
    have HB := Lib.hid hbel
    by_cases hlt : i < n
    · obtain ⟨bs, os, ha1, _, _, cs⟩ := (HS.out.below hbel tS).num (by omega : i < S.length)
      subst ha1
      obtain ⟨z0, z1⟩ := HK.out.num (by omega : i < S.length)
      obtain ⟨q0, q1⟩ := disN_bd HK.out.prime S i
      have HST : Hid (∀ s z : Int, s = disN p S i → z = S.getD i 0 → s * z % p = disN p S (i + 1)) := by
        intro s z e1 e2
        subst e1 e2
        rfl
      obtain ⟨s, hs⟩ : ∃ s, s = disN p S i := ⟨_, rfl⟩
      obtain ⟨z, hz'⟩ : ∃ z, z = S.getD i 0 := ⟨_, rfl⟩
      have HE := Lib.hid (HST.out s z hs hz')
      have N2 : Hid (NumAt wr (w.heap.size + 1 + 1) p s) := by show NumAt _ _ _ _; rw [hs]; exact N2.out
      rw [← hs] at q0 q1 n2
      rw [← hz'] at cs z0 z1
      clear hs hz' HST hbel n1
      obtain ⟨g0, g1, k0, k1⟩ := n2
      have hi1 : (i : Int) < (n : Int) := by omega
      go_wp2_with (go_at_call 157; refine (times_any p s z _ HK.out.prime q0 q1 z0 z1).mono ?_; rintro e w1 ⟨rfl, hb1⟩; obtain ⟨s0, s1, t0, t1⟩ := N2.out.keep hb1 (by omega))
      go_roundw
      case rel =>
        have hs1 := hb1.size
        refine ⟨i + 1, by omega, by go_num, by rw [← HE.out]; exact (show NumAt w1 _ p s from ⟨s0, s1, t0, t1⟩).set p (s * z % p), ((N1.out.keep hb1 (by omega)).far (by omega) 0 _).far (by omega) 1 _, ?_, ?_, (Below.setCell (Below.setCell (HB.out.trans (hb1.mono (show w.heap.size ≤ wr.heap.size by omega))) (show w.heap.size ≤ w.heap.size + 1 + 1 by omega) _) (show w.heap.size ≤ w.heap.size + 1 + 1 by omega) _), by simp [World.setCell]; omega⟩
        · exact (World.cell?_setCell_other _ _ _ _ (by simp)).trans ((World.cell?_setCell_other _ _ _ _ (by simp)).trans ((hb1.cell (p := ⟨w.heap.size, 0, none⟩) (show w.heap.size < wr.heap.size by omega)).trans hc0))
        · exact (World.cell?_setCell_other _ _ _ _ (by simp)).trans ((World.cell?_setCell_other _ _ _ _ (by simp)).trans ((hb1.cell (p := ⟨w.heap.size, 1, none⟩) (show w.heap.size < wr.heap.size by omega)).trans hc1))
      case measure => simp [intOf]; omega
    · have hin : i = n := by omega
      subst hin
      have HE : Hid (disN p S i = discN p S) := by show _ = _; unfold discN; rw [HN.out]
      rw [HE.out] at n2
      obtain ⟨g0, g1, k0, k1⟩ := n2
      obtain ⟨s0, s1, t0, t1⟩ := n1
      go_wp2
      refine bodyPost_ret (v := .agg #[.int .i64 p, .int .i64 (discN p S)]) (by simp [results, Try.results156, go_sem, s0, s1]) rfl ⟨rfl, ?_⟩
      exact Below.setCell (Below.setCell HB.out (show w.heap.size ≤ w.heap.size + 1 by omega) _) (show w.heap.size ≤ w.heap.size + 1 by omega) _

end Go.Proofs.Ytigdepahbnidjaa

namespace Go.Proofs.Ytigdepahbnidjaa
open Go.RowKit
set_option linter.unusedVariables false

theorem l01Inv_any (p a : Int) (w : World) (hp : prm p = true) (a0 : 1 ≤ a) (a1 : a < p) :
    Calls Try.prog 104 #[.int .i64 p, .int .i64 a] w fun e w' => e = .returned (.int .i64 (inv p a)) ∧ w = w' := by
  have hb := prm_bd hp
  obtain ⟨v0, v1⟩ := inv_bd hp a
  have v2 := inv_pos hp a0 a1
  have HP := Lib.hid hp
  clear hp
  go_enter Try.func104, Try.ntmps104
  go_wp2
  go_loop [5] (fun t => ∃ b : Int, 1 ≤ b ∧ b ≤ inv p a ∧ t = .int .i64 b) (fun t => (inv p a - intOf t).toNat)
  case atStart => exact ⟨1, by omega, by omega, rfl⟩
  case round =>
    obtain ⟨b, b0, b1, rfl⟩ := hrel
    obtain ⟨m0, m1⟩ := mul_bd (a := a) (b := b) HP.out (by omega) (by omega) (by omega) (by omega)
    obtain ⟨q0, q1⟩ := mod_bd HP.out (a * b)
    have hi := inv_iff (a := a) HP.out a0 a1 b0 b1
    by_cases hq : b = inv p a
    · have ht := hi.2 hq
      have HQ := Lib.hid hq
      clear hi hq
      go_wp2
      go_ret
      exact ⟨by rw [← HQ.out]; rfl, rfl⟩
    · have ht : ¬ a * b % p = 1 := fun h => hq (hi.1 h)
      clear hi
      go_wp2
      go_round
      case rel => exact ⟨b + 1, by omega, by omega, rfl⟩
      case measure => simp [intOf]; omega

set_option maxHeartbeats 800000 in
theorem power_pos (p a : Int) (m : Nat) (w : World) (hp : prm p = true) (a0 : 0 ≤ a) (a1 : a < p) (hm : m ≤ 1000000) :
    Calls Try.prog 155 #[.agg #[.int .i64 p, .int .i64 a], .int .i64 m] w fun e w' => e = .returned (.agg #[.int .i64 p, .int .i64 (pw p a m)]) ∧ Below w.heap.size w w' := by
  have HP := Lib.hid hp
  have hb := prm_bd hp
  clear hp
  go_enter Try.func155, Try.ntmps155
  go_wp2
  go_loopw [17] (fun t wr => ∃ j : Nat, j ≤ m ∧ t = .int .i64 j ∧ NumAt wr (w.heap.size + 1 + 1) p (pw p a j) ∧ NumAt wr w.heap.size p a ∧ NumAt wr (w.heap.size + 1) 0 0 ∧ Below w.heap.size w wr ∧ w.heap.size + 3 ≤ wr.heap.size) (fun t _ => m - (intOf t).toNat)
  case atStart =>
    refine ⟨0, Nat.zero_le _, rfl, ?_, ?_, ?_, by ((repeat' (first | with_reducible exact Below.refl _ _ | (with_reducible refine Below.setCell ?_ ?_ _) | (with_reducible refine Below.alloc ?_ ?_ _) | (with_reducible refine Below.drew ?_))); all_goals (first | (simp; done) | omega | (simp; omega))), by simp⟩
    · exact (by simpa [pw] using numAt_new ((w.alloc (Obj.cells #[.int .i64 p, .int .i64 a] _)).alloc (Obj.cells #[.int .i64 0, .int .i64 0] _)) p 1 _)
    · exact ((numAt_new w p a _).alloc (by simp) _).alloc (by simp; omega) _
    · exact NumAt.alloc (by simpa using numAt_new (w.alloc (Obj.cells #[.int .i64 p, .int .i64 a] _)) 0 0 _) (by simp) _
  case round =>
    obtain ⟨j, hj, rfl, n2, n0, n1, hbel, hz⟩ := hrel
    obtain ⟨q0, q1⟩ := pw_bd (a := a) HP.out j
    obtain ⟨g20, g21, k20, k21⟩ := n2
    obtain ⟨g00, g01, k00, k01⟩ := n0
    by_cases hlt : j < m
    · go_wp2_with (go_at_call 157; refine (times_any p (pw p a j) a _ HP.out q0 q1 a0 a1).mono ?_; rintro e w1 ⟨rfl, hb1⟩; have n2' := NumAt.keep (b := w.heap.size + 1 + 1) ⟨g20, g21, k20, k21⟩ hb1 (by omega); obtain ⟨e20, e21, h20, h21⟩ := n2')
      go_roundw
      case rel =>
        have hs1 := hb1.size
        have n2' : NumAt w1 (w.heap.size + 1 + 1) p (pw p a j) := ⟨e20, e21, h20, h21⟩
        refine ⟨j + 1, by omega, by go_num, n2'.set p _, ((NumAt.keep (b := w.heap.size) ⟨g00, g01, k00, k01⟩ hb1 (by omega)).far (by omega) _ _).far (by omega) _ _, ((n1.keep hb1 (by omega)).far (by omega) _ _).far (by omega) _ _, by (have hs_hb1 := hb1.size; have hs_hbel := hbel.size; (repeat' (first | with_reducible exact Below.refl _ _ | (with_reducible refine Below.setCell ?_ ?_ _) | (with_reducible refine Below.alloc ?_ ?_ _) | (with_reducible refine Below.drew ?_) | (with_reducible refine below_step ?_ ?_ hb1) | (with_reducible refine below_step ?_ ?_ hbel))); all_goals (first | (simp; done) | omega | (simp; omega) | (simp at hs_hb1 hs_hbel ⊢; omega))), by simp; omega⟩
      case measure => simp [intOf]; omega
    · have hjm : Hid (j = m) := by show j = m; omega
      obtain ⟨g10, g11, k10, k11⟩ := n1
      go_wp2
      refine bodyPost_ret (v := .agg #[.int .i64 p, .int .i64 (pw p a j)]) (by simp [results, Try.results155, go_sem, g10, g11]) rfl ⟨by rw [hjm.out], ?_⟩
      (have hs_hbel := hbel.size; (repeat' (first | with_reducible exact Below.refl _ _ | (with_reducible refine Below.setCell ?_ ?_ _) | (with_reducible refine Below.alloc ?_ ?_ _) | (with_reducible refine Below.drew ?_) | (with_reducible refine below_step ?_ ?_ hbel))); all_goals (first | (simp; done) | omega | (simp; omega) | (simp at hs_hbel ⊢; omega)))

end Go.Proofs.Ytigdepahbnidjaa

namespace Go.Proofs.Ytigdepahbnidjaa
open Go.RowKit
set_option linter.unusedVariables false

theorem power_any (p a : Int) (k : Int) (w : World) (hp : prm p = true) (a0 : 0 ≤ a) (a1 : a < p) (k0 : 0 ≤ k) (k1 : k ≤ 1000000) :
    Calls Try.prog 155 #[.agg #[.int .i64 p, .int .i64 a], .int .i64 k] w fun e w' => e = .returned (.agg #[.int .i64 p, .int .i64 (pw p a k.toNat)]) ∧ Below w.heap.size w w' := by
  have h := power_pos p a k.toNat w hp a0 a1 (by omega)
  rwa [Int.toNat_of_nonneg k0] at h

set_option maxHeartbeats 400000 in
theorem inverse_any (p a : Int) (w : World) (hp : prm p = true) (a0 : 0 ≤ a) (a1 : a < p) :
    Calls Try.prog 150 #[.agg #[.int .i64 p, .int .i64 a]] w fun e w' => e = .returned (.agg #[.int .i64 p, .int .i64 (inv p a)]) ∧ Below w.heap.size w w' := by
  have HP := Lib.hid hp
  have hb := prm_bd hp
  clear hp
  go_enter Try.func150, Try.ntmps150
  go_wp2_with (go_at_call 155; refine (power_any p a (p - 2) _ HP.out a0 a1 (by omega) (by omega)).mono ?_; rintro e w1 ⟨rfl, hb1⟩; obtain ⟨hc, hf⟩ := bcell hb1)
  refine bodyPost_ret (v := .agg #[.int .i64 p, .int .i64 (inv p a)]) (by simp [results, Try.results150, go_sem, hc, inv]) rfl ⟨rfl, ?_⟩
  (have hs_hb1 := hb1.size; (repeat' (first | with_reducible exact Below.refl _ _ | (with_reducible refine Below.setCell ?_ ?_ _) | (with_reducible refine Below.alloc ?_ ?_ _) | (with_reducible refine Below.drew ?_) | (with_reducible refine below_step ?_ ?_ hb1))); all_goals (first | (simp; done) | omega | (simp; omega) | (simp at hs_hb1 ⊢; omega)))

end Go.Proofs.Ytigdepahbnidjaa

namespace Go.Proofs.Ytigdepahbnidjaa
open Go.RowKit
set_option linter.unusedVariables false

def listB (p : Int) (S : List Int) (m : List (List Int)) : Bool := m.all (isVec p S.length) && decide (m.length ≤ 16)
/-- What a list of vectors is. -/
theorem listB_iff {p : Int} {S : List Int} {m : List (List Int)} (h : listB p S m = true) : m.length ≤ 16 ∧ ∀ i, i < m.length → isVec p S.length (rw' m i) = true := by
  unfold listB at h
  rw [Bool.and_eq_true, List.all_eq_true] at h
  exact ⟨of_decide_eq_true h.2, fun i hi => h.1 _ (mem_row hi)⟩

end Go.Proofs.Ytigdepahbnidjaa

namespace Go.Proofs.Ytigdepahbnidjaa
open Go.RowKit
set_option linter.unusedVariables false

/-- Whether a term of grade g has come. -/
def cm (x : List Int) (left : Lit → Bool) (g : Nat) : Bool := (List.range x.length).any fun j => decide (gr j = g) && decide (x.getD j 0 ≠ 0) && !(td left j)
end Go.Proofs.Ytigdepahbnidjaa

namespace Go.Proofs.Ytigdepahbnidjaa
open Go.RowKit
set_option linter.unusedVariables false

theorem OutR.more {B : Nat} {w1 : World} {v' : Value} {zs ys : List Int} {N : Nat} {X : List Value} {k : Int} (hX : X = zs.map (Value.int .i64)) (hN : N = zs.length) (hs : ys = zs ++ [k]) (h1 : w1.ownsRow B 2 1 v' (N + 1) (X ++ [.int .i64 k])) : OutR B w1 v' ys := by
  subst hs hN hX
  unfold OutR
  rw [List.length_append, List.map_append]
  exact h1
end Go.Proofs.Ytigdepahbnidjaa

namespace Go.Proofs.Ytigdepahbnidjaa
open Go.RowKit
set_option linter.unusedVariables false

set_option maxHeartbeats 1600000 in
theorem equal_any (a b : Option Addr) (za zb : List Int) (ca cb lo tp lo' tp' : Nat) (w : World) (ha : RowIn lo tp w a za) (hb : RowIn lo' tp' w b zb) (sa : za.length ≤ 1048576) :
    Calls Try.prog 76 #[.slice a za.length ca, .slice b zb.length cb] w fun e w' => e = .returned (.bool (decide (za = zb))) ∧ Quiet w w' := by
  have HA := Lib.hid ha
  have HB := Lib.hid hb
  clear ha hb
  by_cases hl : za.length = zb.length
  · have HL := Lib.hid hl
    obtain ⟨n, hn⟩ : ∃ n, n = zb.length := ⟨_, rfl⟩
    have HN := Lib.hid hn
    rw [hl] at sa ⊢
    rw [← hn] at sa ⊢
    clear hl hn
    go_enter Try.func76, Try.ntmps76
    go_wp2
    go_loopw [13] (fun t wr => ∃ i : Nat, i ≤ n ∧ t = .int .i64 i ∧ (∀ j, j < i → za.getD j 0 = zb.getD j 0) ∧ Quiet w wr) (fun t _ => n - (intOf t).toNat)
    case atStart => exact ⟨0, Nat.zero_le _, rfl, fun j hj => by omega, Quiet.refl _⟩
    case round =>
      obtain ⟨i, hi, rfl, hall, hq⟩ := hrel
      have HQ := Lib.hid hq
      have HALL := Lib.hid hall
      by_cases hlt : i < n
      · obtain ⟨b1, o1, ha1, _, _, hc1⟩ := (HA.out.same (hq.same _ _)).num (show i < za.length by rw [HL.out, ← HN.out]; exact hlt)
        obtain ⟨b2, o2, ha2, _, _, hc2⟩ := (HB.out.same (hq.same _ _)).num (show i < zb.length by rw [← HN.out]; exact hlt)
        subst ha1
        subst ha2
        have hi1 : (i : Int) < (n : Int) := by omega
        obtain ⟨x, hx⟩ : ∃ x, x = za.getD i 0 := ⟨_, rfl⟩
        obtain ⟨y, hy⟩ : ∃ y, y = zb.getD i 0 := ⟨_, rfl⟩
        have HX := Lib.hid hx
        have HY := Lib.hid hy
        rw [← hx] at hc1
        rw [← hy] at hc2
        clear hx hy hall hq
        by_cases hxy : x = y
        · have e1 : (x != y) = false := by simp [hxy]
          have HXY := Lib.hid hxy
          clear hxy
          go_wp2
          go_quiet (fail)
          go_wp2
          go_roundw
          case rel => exact ⟨i + 1, by omega, by go_num, fun j hj => by
            by_cases e : j = i
            · subst e; rw [← HX.out, ← HY.out, HXY.out]
            · exact HALL.out j (by omega), HQ.out.next _⟩
          case measure => simp [intOf]; omega
        · have e1 : (x != y) = true := by simp [hxy]
          have HR : Hid (decide (za = zb) = false) := decide_eq_false fun e => hxy (by rw [HX.out, HY.out, e])
          clear hxy
          go_wp2
          go_quiet (fail)
          go_wp2
          go_ret
          exact ⟨by rw [HR.out]; rfl, HQ.out.next _⟩
      · have hin : i = n := by omega
        subst hin
        have HR : Hid (decide (za = zb) = true) := decide_eq_true (row_ext HL.out (fun j hj => hall j (by rw [HN.out, ← HL.out]; exact hj)))
        clear hall hq
        go_wp2
        go_ret
        exact ⟨by rw [HR.out]; rfl, HQ.out⟩
  · have HR : Hid (decide (za = zb) = false) := decide_eq_false fun e => hl (by rw [e])
    obtain ⟨n, hn⟩ : ∃ n, n = za.length := ⟨_, rfl⟩
    obtain ⟨m, hm⟩ : ∃ m, m = zb.length := ⟨_, rfl⟩
    rw [← hn, ← hm] at hl ⊢
    have hl2 : ((n : Int) != (m : Int)) = true := by simp; omega
    go_enter Try.func76, Try.ntmps76
    go_wp2
    go_ret
    exact ⟨by rw [HR.out]; rfl, Quiet.refl _⟩

end Go.Proofs.Ytigdepahbnidjaa

namespace Go.Proofs.Ytigdepahbnidjaa
open Go.RowKit
set_option linter.unusedVariables false

set_option maxHeartbeats 1600000 in
theorem l01Same_any (a b : Option Addr) (za zb : List Int) (ca cb lo tp lo' tp' : Nat) (w : World) (ha : RowIn lo tp w a za) (hb : RowIn lo' tp' w b zb) (sa : za.length ≤ 1048576) :
    Calls Try.prog 99 #[.slice a za.length ca, .slice b zb.length cb] w fun e w' => e = .returned (.bool (decide (za = zb))) ∧ Quiet w w' := by
  have HA := Lib.hid ha
  have HB := Lib.hid hb
  clear ha hb
  by_cases hl : za.length = zb.length
  · have HL := Lib.hid hl
    obtain ⟨n, hn⟩ : ∃ n, n = zb.length := ⟨_, rfl⟩
    have HN := Lib.hid hn
    rw [hl] at sa ⊢
    rw [← hn] at sa ⊢
    clear hl hn
    go_enter Try.func99, Try.ntmps99
    go_wp2
    go_loopw [5] (fun t wr => ∃ i : Nat, i ≤ n ∧ t = .int .i64 i ∧ (∀ j, j < i → za.getD j 0 = zb.getD j 0) ∧ Quiet w wr) (fun t _ => n - (intOf t).toNat)
    case atStart => exact ⟨0, Nat.zero_le _, rfl, fun j hj => by omega, Quiet.refl _⟩
    case round =>
      obtain ⟨i, hi, rfl, hall, hq⟩ := hrel
      have HQ := Lib.hid hq
      have HALL := Lib.hid hall
      by_cases hlt : i < n
      · obtain ⟨b1, o1, ha1, _, _, hc1⟩ := (HA.out.same (hq.same _ _)).num (show i < za.length by rw [HL.out, ← HN.out]; exact hlt)
        obtain ⟨b2, o2, ha2, _, _, hc2⟩ := (HB.out.same (hq.same _ _)).num (show i < zb.length by rw [← HN.out]; exact hlt)
        subst ha1
        subst ha2
        have hi1 : (i : Int) < (n : Int) := by omega
        obtain ⟨x, hx⟩ : ∃ x, x = za.getD i 0 := ⟨_, rfl⟩
        obtain ⟨y, hy⟩ : ∃ y, y = zb.getD i 0 := ⟨_, rfl⟩
        have HX := Lib.hid hx
        have HY := Lib.hid hy
        rw [← hx] at hc1
        rw [← hy] at hc2
        clear hx hy hall hq
        by_cases hxy : x = y
        · have e1 : (x != y) = false := by simp [hxy]
          have HXY := Lib.hid hxy
          clear hxy
          go_wp2
          go_quiet (fail)
          go_wp2
          go_roundw
          case rel => exact ⟨i + 1, by omega, by go_num, fun j hj => by
            by_cases e : j = i
            · subst e; rw [← HX.out, ← HY.out, HXY.out]
            · exact HALL.out j (by omega), HQ.out.next _⟩
          case measure => simp [intOf]; omega
        · have e1 : (x != y) = true := by simp [hxy]
          have HR : Hid (decide (za = zb) = false) := decide_eq_false fun e => hxy (by rw [HX.out, HY.out, e])
          clear hxy
          go_wp2
          go_quiet (fail)
          go_wp2
          go_ret
          exact ⟨by rw [HR.out]; rfl, HQ.out.next _⟩
      · have hin : i = n := by omega
        subst hin
        have HR : Hid (decide (za = zb) = true) := decide_eq_true (row_ext HL.out (fun j hj => hall j (by rw [HN.out, ← HL.out]; exact hj)))
        clear hall hq
        go_wp2
        go_ret
        exact ⟨by rw [HR.out]; rfl, HQ.out⟩
  · have HR : Hid (decide (za = zb) = false) := decide_eq_false fun e => hl (by rw [e])
    obtain ⟨n, hn⟩ : ∃ n, n = za.length := ⟨_, rfl⟩
    obtain ⟨m, hm⟩ : ∃ m, m = zb.length := ⟨_, rfl⟩
    rw [← hn, ← hm] at hl ⊢
    have hl2 : ((n : Int) != (m : Int)) = true := by simp; omega
    go_enter Try.func99, Try.ntmps99
    go_wp2
    go_ret
    exact ⟨by rw [HR.out]; rfl, Quiet.refl _⟩

end Go.Proofs.Ytigdepahbnidjaa

namespace Go.Proofs.Ytigdepahbnidjaa
open Go.RowKit
set_option linter.unusedVariables false

theorem ss2s {w : World} {b i j : Nat} {u v : Value} {g : Nat} {u0 u1 : Value} (l : g ≠ b) (h0 : w.cell? ⟨g, 0, none⟩ = some u0 ∧ w.cell? ⟨g, 1, none⟩ = some u1) : ((w.setCell ⟨b, i, none⟩ u).setCell ⟨b, j, none⟩ v).cell? ⟨g, 0, none⟩ = some u0 ∧ ((w.setCell ⟨b, i, none⟩ u).setCell ⟨b, j, none⟩ v).cell? ⟨g, 1, none⟩ = some u1 := by
  have e : ∀ (W : World) (i k : Nat) (v : Value), (W.setCell ⟨b, i, none⟩ v).cell? ⟨g, k, none⟩ = W.cell? ⟨g, k, none⟩ := fun W i k v => World.cell?_setCell_other W ⟨b, i, none⟩ ⟨g, k, none⟩ v (fun h => by injection h with h1; omega)
  rw [e, e, e, e]; exact h0

end Go.Proofs.Ytigdepahbnidjaa

namespace Go.Proofs.Ytigdepahbnidjaa
open Go.RowKit
set_option linter.unusedVariables false

/-- The cells of the box of a multivector. -/
def BoxM (g : Nat) (p : Int) (aS : Option Addr) (n cS : Nat) (ax : Option Addr) (l cx : Nat) (W : World) : Prop :=
  W.cell? ⟨g, 0, none⟩ = some (.int .i64 p) ∧ W.cell? ⟨g, 1, none⟩ = some (.slice aS n cS) ∧ W.cell? ⟨g, 2, none⟩ = some (.slice ax l cx)
theorem BoxM.below {g : Nat} {p : Int} {aS ax : Option Addr} {n cS l cx B : Nat} {w w' : World} (h : BoxM g p aS n cS ax l cx w) (hb : Below B w w') (hg : g < B) : BoxM g p aS n cS ax l cx w' :=
  ⟨(hb.cell (p := ⟨g, 0, none⟩) hg).trans h.1, (hb.cell (p := ⟨g, 1, none⟩) hg).trans h.2.1, (hb.cell (p := ⟨g, 2, none⟩) hg).trans h.2.2⟩
theorem BoxM.new (w : World) (p : Int) (aS : Option Addr) (n cS : Nat) (ax : Option Addr) (l cx : Nat) (T : TypeId) : BoxM w.heap.size p aS n cS ax l cx (w.alloc (.cells #[.int .i64 p, .slice aS n cS, .slice ax l cx] T)) :=
  ⟨by simp [go_sem], by simp [go_sem], by simp [go_sem]⟩
/-- The box of a multivector and that of its space. -/
def BoxV (g gs : Nat) (p : Int) (aS : Option Addr) (n cS : Nat) (ax : Option Addr) (l cx : Nat) (W : World) : Prop :=
  W.cell? ⟨g, 0, none⟩ = some (.int .i64 p) ∧ W.cell? ⟨g, 1, none⟩ = some (.slice aS n cS) ∧ W.cell? ⟨g, 2, none⟩ = some (.slice ax l cx) ∧ W.cell? ⟨gs, 0, none⟩ = some (.int .i64 p) ∧ W.cell? ⟨gs, 1, none⟩ = some (.slice aS n cS)
theorem BoxV.below {g gs : Nat} {p : Int} {aS ax : Option Addr} {n cS l cx B : Nat} {w w' : World} (h : BoxV g gs p aS n cS ax l cx w) (hb : Below B w w') (hg : g < B ∧ gs < B) : BoxV g gs p aS n cS ax l cx w' :=
  ⟨(hb.cell (p := ⟨g, 0, none⟩) hg.1).trans h.1, (hb.cell (p := ⟨g, 1, none⟩) hg.1).trans h.2.1, (hb.cell (p := ⟨g, 2, none⟩) hg.1).trans h.2.2.1, (hb.cell (p := ⟨gs, 0, none⟩) hg.2).trans h.2.2.2.1, (hb.cell (p := ⟨gs, 1, none⟩) hg.2).trans h.2.2.2.2⟩
end Go.Proofs.Ytigdepahbnidjaa
