/-
  Discriminants, in the program and in the model.
  Conditions: the squares are nil or a row of known cells.
  What the model's check of a prime and of a list of numbers returns, and both checks at the short lists that the functions of chapter 1 build.
  Conditions: the lists are rows of cells that are known.
  What powers, inverses and quotients of numbers return: contracts of the program's methods and of the model's helpers.
  Conditions: the prime is one, the numbers are remainders by it, an exponent is at most 1000.
  What inverses, powers with negative exponents and quotients of numbers return, in the program.
  Conditions: the prime is one, the numbers are remainders by it, a divisor is not 0, an exponent is from -1000000 to 1000000.
  Pseudoscalars, their squares, duals, meets: numbers. No Go in sight.
  No conditions.
  PairOf and NormOf: contracts of the program and of the model.
  Conditions: the lists are nil or rows of known cells, of at most 1048576 numbers.
  Lists of vectors of a space, in the program and in the model.
  Conditions: the lists are nil or rows of known cells, of at most 1048576 numbers.
-/
import Derived.Test.YtigdepahbnidjaaQp5
import Derived.Test.YtigdepahbnidjaaQp15
import Derived.Test.YtigdepahbnidjaaQp1
import Derived.BigQuiet
import Derived.Deep.QuietTactic
import Derived.Deep.RegionHeld3
import Derived.RegionTactic
import Derived.Test.YtigdepahbnidjaaQp17
namespace Go.Proofs.Ytigdepahbnidjaa
open Go.RowKit
set_option linter.unusedVariables false

def disN (p : Int) (S : List Int) : Nat → Int
  | 0 => 1
  | i + 1 => disN p S i * S.getD i 0 % p
def discN (p : Int) (S : List Int) : Int := disN p S S.length
theorem disN_bd {p : Int} (hp : prm p = true) (S : List Int) (i : Nat) : 0 ≤ disN p S i ∧ disN p S i < p := by
  have := prm_bd hp
  cases i with
  | zero => show 0 ≤ (1 : Int) ∧ (1 : Int) < p; omega
  | succ i => exact mod_bd hp _
set_option maxRecDepth 100000 in
set_option maxHeartbeats 3200000 in
theorem l03Disc_any (p : Int) (aS : Option Addr) (S : List Int) (cS loS tpS : Nat) (w : World)
    (hS : RowIn loS tpS w aS S) (tS : tpS ≤ w.heap.size) (hs : isSp p S = true) :
    Calls Try.prog 47 #[.agg #[.int .i64 p, .slice aS S.length cS]] w fun e w' => e = .returned (.int .i64 (discN p S)) ∧ Below w.heap.size w w' := by
  have K := isSp_iff.1 hs
  have hpb := prm_bd K.prime
  have hS6 := K.hi
  have HS := Lib.hid hS
  have HK := Lib.hid K
  obtain ⟨n, hn⟩ : ∃ n, n = S.length := ⟨_, rfl⟩
  rw [← hn] at hS6
  have HN := Lib.hid hn
  have hn1 : S.length ≤ n ∧ n ≤ S.length := by omega
  rw [← hn]
  clear hS hs K hn
  go_enter Try.func47, Try.ntmps47
  go_wp2
  go_loopw [3, 4] (fun s t wr => ∃ i : Nat, i ≤ n ∧ s = .int .i64 (disN p S i) ∧ t = .int .i64 i ∧ Quiet (w.alloc (.cells #[.int .i64 p, .slice aS n cS] 30)) wr) (fun _ t _ => n - (intOf t).toNat)
  case atStart => exact ⟨0, Nat.zero_le _, rfl, rfl, Quiet.refl _⟩
  case round =>
    obtain ⟨i, hi, rfl, rfl, hq⟩ := hrel
    have HQ := Lib.hid hq
    have hb0 := (hq.cell ⟨w.heap.size, 0, none⟩).trans (nw0 w _ _ _)
    have hb1 := (hq.cell ⟨w.heap.size, 1, none⟩).trans (nw1 w _ _ _)
    have hqb := (below_alloc w (.cells #[.int .i64 p, .slice aS n cS] 30)).trans (hq.below _)
    by_cases hlt : i < n
    · obtain ⟨bs, os, ha1, _, _, cs⟩ := (HS.out.below hqb tS).num (by omega : i < S.length)
      subst ha1
      obtain ⟨z0, z1⟩ := HK.out.num (by omega : i < S.length)
      obtain ⟨q0, q1⟩ := disN_bd HK.out.prime S i
      have HST : Hid (∀ s z : Int, s = disN p S i → z = S.getD i 0 → s * z % p = disN p S (i + 1)) := by
        intro s z e1 e2
        subst e1 e2
        rfl
      obtain ⟨s, hs⟩ : ∃ s, s = disN p S i := ⟨_, rfl⟩
      obtain ⟨z, hz⟩ : ∃ z, z = S.getD i 0 := ⟨_, rfl⟩
      have HE := Lib.hid (HST.out s z hs hz)
      rw [← hs] at q0 q1
      rw [← hz] at cs z0 z1
      rw [← hs]
      clear hs hz HST hq hqb
      obtain ⟨p1, p2, _, _⟩ := prod3 hpb.2 q0 q1 z0 z1 z0 z1
      have e1 : IntKind.i64.wrap (s * z) = s * z := IntWalk.i64_in _ (by omega)
      have e2 : (s * z).tmod p = s * z % p := Int.tmod_eq_emod_of_nonneg p1
      have hp0 : ¬ p = 0 := by omega
      have hp1 : (p == 0) = false := by simpa using hp0
      have hi1 : (i : Int) < (n : Int) := by omega
      go_wp2
      go_quiet (fail)
      clear e1 e2
      go_wp2
      go_roundw
      case rel => exact ⟨i + 1, by omega, by rw [HE.out], by go_num, HQ.out.next _⟩
      case measure => simp [intOf]; omega
    · have hin : i = n := by omega
      subst hin
      have HE : Hid (disN p S i = discN p S) := by show _ = _; unfold discN; rw [HN.out]
      rw [HE.out]
      clear hq hqb
      go_wp2
      go_ret
      exact ⟨rfl, (below_alloc w _).trans (HQ.out.below _)⟩

end Go.Proofs.Ytigdepahbnidjaa

namespace Go.Proofs.Ytigdepahbnidjaa
open Go.RowKit
set_option linter.unusedVariables false

theorem l01Inv_any (p a : Int) (w : World) (hp : prm p = true) (a0 : 1 ≤ a) (a1 : a < p) :
    Calls Try.prog 104 #[.int .i64 p, .int .i64 a] w fun e w' => e = .returned (.int .i64 (inv p a)) ∧ w = w' := by
  have hb := prm_bd hp
  obtain ⟨v0, v1⟩ := inv_bd hp a
  have v2 := inv_pos hp a0 a1
  have HP := Lib.hid hp
  clear hp
  go_enter Try.func104, Try.ntmps104
  go_wp2
  go_loop [5] (fun t => ∃ b : Int, 1 ≤ b ∧ b ≤ inv p a ∧ t = .int .i64 b) (fun t => (inv p a - intOf t).toNat)
  case atStart => exact ⟨1, by omega, by omega, rfl⟩
  case round =>
    obtain ⟨b, b0, b1, rfl⟩ := hrel
    obtain ⟨m0, m1⟩ := mul_bd (a := a) (b := b) HP.out (by omega) (by omega) (by omega) (by omega)
    obtain ⟨q0, q1⟩ := mod_bd HP.out (a * b)
    have hi := inv_iff (a := a) HP.out a0 a1 b0 b1
    by_cases hq : b = inv p a
    · have ht := hi.2 hq
      have HQ := Lib.hid hq
      clear hi hq
      go_wp2
      go_ret
      exact ⟨by rw [← HQ.out]; rfl, rfl⟩
    · have ht : ¬ a * b % p = 1 := fun h => hq (hi.1 h)
      clear hi
      go_wp2
      go_round
      case rel => exact ⟨b + 1, by omega, by omega, rfl⟩
      case measure => simp [intOf]; omega

set_option maxHeartbeats 800000 in
theorem power_pos (p a : Int) (m : Nat) (w : World) (hp : prm p = true) (a0 : 0 ≤ a) (a1 : a < p) (hm : m ≤ 1000000) :
    Calls Try.prog 155 #[.agg #[.int .i64 p, .int .i64 a], .int .i64 m] w fun e w' => e = .returned (.agg #[.int .i64 p, .int .i64 (pw p a m)]) ∧ Below w.heap.size w w' := by
  have HP := Lib.hid hp
  have hb := prm_bd hp
  clear hp
  go_enter Try.func155, Try.ntmps155
  go_wp2
  go_loopw [17] (fun t wr => ∃ j : Nat, j ≤ m ∧ t = .int .i64 j ∧ NumAt wr (w.heap.size + 1 + 1) p (pw p a j) ∧ NumAt wr w.heap.size p a ∧ NumAt wr (w.heap.size + 1) 0 0 ∧ Below w.heap.size w wr ∧ w.heap.size + 3 ≤ wr.heap.size) (fun t _ => m - (intOf t).toNat)
  case atStart =>
    refine ⟨0, Nat.zero_le _, rfl, ?_, ?_, ?_, by ((repeat' (first | with_reducible exact Below.refl _ _ | (with_reducible refine Below.setCell ?_ ?_ _) | (with_reducible refine Below.alloc ?_ ?_ _) | (with_reducible refine Below.drew ?_))); all_goals (first | (simp; done) | omega | (simp; omega))), by simp⟩
    · exact (by simpa [pw] using numAt_new ((w.alloc (Obj.cells #[.int .i64 p, .int .i64 a] _)).alloc (Obj.cells #[.int .i64 0, .int .i64 0] _)) p 1 _)
    · exact ((numAt_new w p a _).alloc (by simp) _).alloc (by simp; omega) _
    · exact NumAt.alloc (by simpa using numAt_new (w.alloc (Obj.cells #[.int .i64 p, .int .i64 a] _)) 0 0 _) (by simp) _
  case round =>
    obtain ⟨j, hj, rfl, n2, n0, n1, hbel, hz⟩ := hrel
    obtain ⟨q0, q1⟩ := pw_bd (a := a) HP.out j
    obtain ⟨g20, g21, k20, k21⟩ := n2
    obtain ⟨g00, g01, k00, k01⟩ := n0
    by_cases hlt : j < m
    · go_wp2_with (go_at_call 157; refine (times_any p (pw p a j) a _ HP.out q0 q1 a0 a1).mono ?_; rintro e w1 ⟨rfl, hb1⟩; have n2' := NumAt.keep (b := w.heap.size + 1 + 1) ⟨g20, g21, k20, k21⟩ hb1 (by omega); obtain ⟨e20, e21, h20, h21⟩ := n2')
      go_roundw
      case rel =>
        have hs1 := hb1.size
        have n2' : NumAt w1 (w.heap.size + 1 + 1) p (pw p a j) := ⟨e20, e21, h20, h21⟩
        refine ⟨j + 1, by omega, by go_num, n2'.set p _, ((NumAt.keep (b := w.heap.size) ⟨g00, g01, k00, k01⟩ hb1 (by omega)).far (by omega) _ _).far (by omega) _ _, ((n1.keep hb1 (by omega)).far (by omega) _ _).far (by omega) _ _, by (have hs_hb1 := hb1.size; have hs_hbel := hbel.size; (repeat' (first | with_reducible exact Below.refl _ _ | (with_reducible refine Below.setCell ?_ ?_ _) | (with_reducible refine Below.alloc ?_ ?_ _) | (with_reducible refine Below.drew ?_) | (with_reducible refine below_step ?_ ?_ hb1) | (with_reducible refine below_step ?_ ?_ hbel))); all_goals (first | (simp; done) | omega | (simp; omega) | (simp at hs_hb1 hs_hbel ⊢; omega))), by simp; omega⟩
      case measure => simp [intOf]; omega
    · have hjm : Hid (j = m) := by show j = m; omega
      obtain ⟨g10, g11, k10, k11⟩ := n1
      go_wp2
      refine bodyPost_ret (v := .agg #[.int .i64 p, .int .i64 (pw p a j)]) (by simp [results, Try.results155, go_sem, g10, g11]) rfl ⟨by rw [hjm.out], ?_⟩
      (have hs_hbel := hbel.size; (repeat' (first | with_reducible exact Below.refl _ _ | (with_reducible refine Below.setCell ?_ ?_ _) | (with_reducible refine Below.alloc ?_ ?_ _) | (with_reducible refine Below.drew ?_) | (with_reducible refine below_step ?_ ?_ hbel))); all_goals (first | (simp; done) | omega | (simp; omega) | (simp at hs_hbel ⊢; omega)))

end Go.Proofs.Ytigdepahbnidjaa

namespace Go.Proofs.Ytigdepahbnidjaa
open Go.RowKit
set_option linter.unusedVariables false

theorem power_any (p a : Int) (k : Int) (w : World) (hp : prm p = true) (a0 : 0 ≤ a) (a1 : a < p) (k0 : 0 ≤ k) (k1 : k ≤ 1000000) :
    Calls Try.prog 155 #[.agg #[.int .i64 p, .int .i64 a], .int .i64 k] w fun e w' => e = .returned (.agg #[.int .i64 p, .int .i64 (pw p a k.toNat)]) ∧ Below w.heap.size w w' := by
  have h := power_pos p a k.toNat w hp a0 a1 (by omega)
  rwa [Int.toNat_of_nonneg k0] at h

set_option maxHeartbeats 400000 in
theorem inverse_any (p a : Int) (w : World) (hp : prm p = true) (a0 : 0 ≤ a) (a1 : a < p) :
    Calls Try.prog 150 #[.agg #[.int .i64 p, .int .i64 a]] w fun e w' => e = .returned (.agg #[.int .i64 p, .int .i64 (inv p a)]) ∧ Below w.heap.size w w' := by
  have HP := Lib.hid hp
  have hb := prm_bd hp
  clear hp
  go_enter Try.func150, Try.ntmps150
  go_wp2_with (go_at_call 155; refine (power_any p a (p - 2) _ HP.out a0 a1 (by omega) (by omega)).mono ?_; rintro e w1 ⟨rfl, hb1⟩; obtain ⟨hc, hf⟩ := bcell hb1)
  refine bodyPost_ret (v := .agg #[.int .i64 p, .int .i64 (inv p a)]) (by simp [results, Try.results150, go_sem, hc, inv]) rfl ⟨rfl, ?_⟩
  (have hs_hb1 := hb1.size; (repeat' (first | with_reducible exact Below.refl _ _ | (with_reducible refine Below.setCell ?_ ?_ _) | (with_reducible refine Below.alloc ?_ ?_ _) | (with_reducible refine Below.drew ?_) | (with_reducible refine below_step ?_ ?_ hb1))); all_goals (first | (simp; done) | omega | (simp; omega) | (simp at hs_hb1 ⊢; omega)))

set_option maxHeartbeats 400000 in
theorem over_any (p a b : Int) (w : World) (hp : prm p = true) (a0 : 0 ≤ a) (a1 : a < p) (b0 : 0 ≤ b) (b1 : b < p) :
    Calls Try.prog 145 #[.agg #[.int .i64 p, .int .i64 a], .agg #[.int .i64 p, .int .i64 b]] w fun e w' => e = .returned (.agg #[.int .i64 p, .int .i64 (a * inv p b % p)]) ∧ Below w.heap.size w w' := by
  have HP := Lib.hid hp
  obtain ⟨i0, i1⟩ := inv_bd hp b
  have hb := prm_bd hp
  clear hp
  go_enter Try.func145, Try.ntmps145
  go_wp2_with fail
  go_region_with (first | (go_at_call 150; refine (inverse_any p b _ HP.out b0 b1).mono ?_; rintro e w1 ⟨rfl, hb1⟩; have n2 := (numAt_new2 w _ _ 0 0 _).drew.keep hb1 (by simp); obtain ⟨g0, g1, f0, f1⟩ := (((numAt_new w p a _).alloc (by simp) _).alloc (by simp; omega) _).drew.keep hb1 (by simp; omega)) | (go_at_call 157; refine (times_any p a (inv p b) _ HP.out a0 a1 i0 i1).mono ?_; rintro e w2 ⟨rfl, hb2⟩; obtain ⟨g20, g21, f20, f21⟩ := n2.keep hb2 (by have := hb1.size; simp at this; omega)))
  all_goals
    go_wp2
    refine bodyPost_ret (v := .agg #[.int .i64 p, .int .i64 (a * inv p b % p)]) (by simp [results, Try.results145, go_sem, g20, g21]) rfl ⟨rfl, ?_⟩
    (have hs_hb2 := hb2.size; have hs_hb1 := hb1.size; (repeat' (first | with_reducible exact Below.refl _ _ | (with_reducible refine Below.setCell ?_ ?_ _) | (with_reducible refine Below.alloc ?_ ?_ _) | (with_reducible refine Below.drew ?_) | (with_reducible refine below_step ?_ ?_ hb2) | (with_reducible refine below_step ?_ ?_ hb1))); all_goals (first | (simp; done) | omega | (simp; omega) | (simp at hs_hb2 hs_hb1 ⊢; omega)))

end Go.Proofs.Ytigdepahbnidjaa

namespace Go.Proofs.Ytigdepahbnidjaa
open Go.RowKit
set_option linter.unusedVariables false

def revM (p : Int) (x : List Int) : List Int := mkR x.length (sgF p c_reversal x)
theorem rev_mv {p : Int} {S x : List Int} (hs : isSp p S = true) (h : isMv p S x = true) : isMv p S (revM p x) = true :=
  isMv_of (by unfold revM; rw [mkR_len]; exact Mv.len h) fun j hj => by
    have hp := prm_bd (isSp_iff.1 hs).prime
    unfold revM at hj ⊢
    rw [mkR_len] at hj
    rw [mkR_at _ hj]
    unfold sgF
    have hx := Mv.num h j hj
    split
    · exact ⟨Int.emod_nonneg _ (by omega), Int.emod_lt_of_pos _ (by omega)⟩
    · exact hx
end Go.Proofs.Ytigdepahbnidjaa

namespace Go.Proofs.Ytigdepahbnidjaa
open Go.RowKit
set_option linter.unusedVariables false

def listB (p : Int) (S : List Int) (m : List (List Int)) : Bool := m.all (isVec p S.length) && decide (m.length ≤ 16)
def codeL (p : Int) (S : List Int) (m : List (List Int)) : Int := if isSp p S = true then (if listB p S m = true then 0 else 2) else 1
theorem codeL_sp {p : Int} {S : List Int} {m : List (List Int)} (h : isSp p S = false) : codeL p S m = 1 := if_neg (by simp [h])
theorem codeL_ok {p : Int} {S : List Int} {m : List (List Int)} (h : isSp p S = true) (k : listB p S m = true) : codeL p S m = 0 := by unfold codeL; rw [if_pos h, if_pos k]
theorem codeL_no {p : Int} {S : List Int} {m : List (List Int)} (h : isSp p S = true) (k : listB p S m = false) : codeL p S m = 2 := by unfold codeL; rw [if_pos h, if_neg (by simp [k])]
theorem codeL_cases (p : Int) (S : List Int) (m : List (List Int)) : (isSp p S = false ∧ codeL p S m = 1) ∨ (isSp p S = true ∧ listB p S m = true ∧ codeL p S m = 0) ∨ (isSp p S = true ∧ listB p S m = false ∧ codeL p S m = 2) := by
  by_cases h : isSp p S = true
  · by_cases k : listB p S m = true
    · exact .inr (.inl ⟨h, k, codeL_ok h k⟩)
    · have k' : listB p S m = false := by simpa using k
      exact .inr (.inr ⟨h, k', codeL_no h k'⟩)
  · have h' : isSp p S = false := by simpa using h
    exact .inl ⟨h', codeL_sp h'⟩
set_option maxRecDepth 100000 in
set_option maxHeartbeats 3200000 in
theorem l03List_any (p : Int) (aS : Option Addr) (S : List Int) (cS : Nat) (am : Option Addr) (m : List (List Int)) (cm lom tpm : Nat) (w : World) (hp : prm p = true) (sS : S.length ≤ 1048576)
    (hm : MatIn lom tpm w am m) (tm : tpm ≤ w.heap.size) (sm : m.length ≤ 1048576) (sr : ∀ i, i < m.length → (rw' m i).length ≤ 1048576) :
    Calls Try.prog 142 #[.agg #[.int .i64 p, .slice aS S.length cS], .slice am m.length cm] w fun e w' => e = .returned (.bool (listB p S m)) ∧ Below w.heap.size w w' := by
  have HM := Lib.hid hm
  have HP := Lib.hid hp
  have HT := Lib.hid sr
  clear hm hp sr
  go_enter Try.func142, Try.ntmps142
  go_wp2
  go_loopw [5] (fun t wr => ∃ i : Nat, i ≤ m.length ∧ t = .int .i64 i ∧ (m.take i).all (isVec p S.length) = true ∧ wr.cell? ⟨w.heap.size, 0, none⟩ = some (.int .i64 p) ∧ wr.cell? ⟨w.heap.size, 1, none⟩ = some (.slice aS S.length cS) ∧ Below w.heap.size w wr ∧ w.heap.size < wr.heap.size) (fun t _ => m.length - (intOf t).toNat)
  case atStart => exact ⟨0, Nat.zero_le _, rfl, rfl, nw0 w _ _ _, nw1 w _ _ _, below_alloc w _, lt_alloc w _⟩
  case round =>
    obtain ⟨i, hi, rfl, hA, k0, k1, hbel, hlw⟩ := hrel
    have HA := Lib.hid hA
    have HB := Lib.hid hbel
    clear hA
    by_cases hlt : i < m.length
    · obtain ⟨b1, o1, r, c1, ha1, _, hb1, hr, hrow⟩ := (HM.out.below hbel tm).row hlt
      subst ha1
      have hl := HT.out i hlt
      have hwz := hbel.size
      have HR := Lib.hid (hrow.below (below_drew wr) (Nat.le_trans tm hwz))
      have HTD : Hid (tpm ≤ wr.drew.heap.size) := Nat.le_trans tm hwz
      have hi1 : (i : Int) < (m.length : Int) := by omega
      have hb1w : b1 < wr.heap.size := Nat.lt_of_lt_of_le hb1 (Nat.le_trans tm hwz)
      clear hrow hbel
      by_cases hv : isVec p S.length (rw' m i) = true
      · have HV := Lib.hid hv
        clear hv
        go_wp2
        go_region_held3 (fun w' => w'.cell? ⟨w.heap.size, 0, none⟩ = some (.int .i64 p) ∧ w'.cell? ⟨w.heap.size, 1, none⟩ = some (.slice aS S.length cS) ∧ w'.cell? ⟨b1, o1 + i, none⟩ = some (.slice r (rw' m i).length c1)) (first | go_keep | exact SS3.out) (first | (go_at_call 183; (with_reducible refine (l03Vector_any p aS S cS r (rw' m i) c1 lom tpm wr.drew HP.out sS HR.out HTD.out hl).mono ?_); rintro e w3 ⟨rfl, hb3⟩; rw [HV.out]; have HB3 : Hid (Below wr.heap.size wr w3) := (below_drew wr).trans hb3; have SS3 := Lib.hid (And.intro ((HB3.out.cell (p := ⟨w.heap.size, 0, none⟩) hlw).trans k0) (And.intro ((HB3.out.cell (p := ⟨w.heap.size, 1, none⟩) hlw).trans k1) ((HB3.out.cell (p := ⟨b1, o1 + i, none⟩) hb1w).trans hr))); clear hb3))
        go_wp2
        go_roundw
        case rel => exact ⟨i + 1, by omega, by go_num, by rw [all_take_vec hlt, HA.out, HV.out]; rfl, SS3.out.1, SS3.out.2.1, HB.out.trans (HB3.out.mono hwz), Nat.lt_of_lt_of_le hlw HB3.out.size⟩
        case measure => simp [intOf]; omega
      · have HV : Hid (isVec p S.length (rw' m i) = false) := by show _ = _; simpa using hv
        have HCV : Hid (listB p S m = false) := by show _ = _; unfold listB; rw [all_false_vec hlt HV.out]; rfl
        clear hv
        go_wp2
        go_region_held3 (fun w' => w'.cell? ⟨w.heap.size, 0, none⟩ = some (.int .i64 p) ∧ w'.cell? ⟨w.heap.size, 1, none⟩ = some (.slice aS S.length cS) ∧ w'.cell? ⟨b1, o1 + i, none⟩ = some (.slice r (rw' m i).length c1)) (first | go_keep | exact SS3.out) (first | (go_at_call 183; (with_reducible refine (l03Vector_any p aS S cS r (rw' m i) c1 lom tpm wr.drew HP.out sS HR.out HTD.out hl).mono ?_); rintro e w3 ⟨rfl, hb3⟩; rw [HV.out]; have HB3 : Hid (Below wr.heap.size wr w3) := (below_drew wr).trans hb3; have SS3 := Lib.hid (And.intro ((HB3.out.cell (p := ⟨w.heap.size, 0, none⟩) hlw).trans k0) (And.intro ((HB3.out.cell (p := ⟨w.heap.size, 1, none⟩) hlw).trans k1) ((HB3.out.cell (p := ⟨b1, o1 + i, none⟩) hb1w).trans hr))); clear hb3))
        go_wp2
        go_ret
        exact ⟨by rw [HCV.out]; rfl, HB.out.trans (HB3.out.mono hwz)⟩
    · have HAll : Hid (m.all (isVec p S.length) = true) := by have h := HA.out; rwa [List.take_of_length_le (by omega)] at h
      by_cases h16 : m.length ≤ 16
      · have e1 : (m.length : Int) ≤ 16 := by omega
        have HCV : Hid (listB p S m = true) := by show _ = _; unfold listB; rw [HAll.out]; simp [h16]
        go_wp2
        go_ret
        exact ⟨by rw [HCV.out]; rfl, HB.out⟩
      · have e1 : ¬ (m.length : Int) ≤ 16 := by omega
        have HCV : Hid (listB p S m = false) := by show _ = _; unfold listB; rw [HAll.out]; simp; omega
        go_wp2
        go_ret
        exact ⟨by rw [HCV.out]; rfl, HB.out⟩

end Go.Proofs.Ytigdepahbnidjaa
