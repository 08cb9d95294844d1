/-
  Discriminants, in the program and in the model.
  Conditions: the squares are nil or a row of known cells.
  What the model's check of a prime and of a list of numbers returns, and both checks at the short lists that the functions of chapter 1 build.
  Conditions: the lists are rows of cells that are known.
  What powers, inverses and quotients of numbers return: contracts of the program's methods and of the model's helpers.
  Conditions: the prime is one, the numbers are remainders by it, an exponent is at most 1000.
  What inverses, powers with negative exponents and quotients of numbers return, in the program.
  Conditions: the prime is one, the numbers are remainders by it, a divisor is not 0, an exponent is from -1000000 to 1000000.
  Pseudoscalars, their squares, duals, meets: numbers. No Go in sight.
  No conditions.
  PairOf and NormOf: contracts of the program and of the model.
  Conditions: the lists are nil or rows of known cells, of at most 1048576 numbers.
  Lists of vectors of a space, in the program and in the model.
  Conditions: the lists are nil or rows of known cells, of at most 1048576 numbers.
  WedgeOfVectors: contracts of the program and of the model.
  Conditions: the lists are nil or rows of known cells, of at most 1048576 numbers.
  The signs of those grades of which a multivector has blades: contracts of the program and of the model.
  Conditions: the lists are nil or rows of known cells, of at most 1048576 numbers.
  GradesOf: contracts of the program and of the model.
  Conditions: the lists are nil or rows of known cells, of at most 1048576 numbers.
-/
import Derived.Test.YtjakckkjkcgcjaaQv6
import Derived.Test.YtjakckkjkcgcjaaQv17
import Derived.Test.YtjakckkjkcgcjaaQv18
import Derived.Test.YtjakckkjkcgcjaaQv1
import Derived.BigQuiet
import Derived.Deep.QuietTactic
import Derived.Deep.RegionHeld3
import Derived.RegionTactic
import Derived.Test.YtjakckkjkcgcjaaQv20
import Derived.Deep.DeepCutAuto
import Derived.Test.YtjakckkjkcgcjaaQv12
import Derived.Test.YtjakckkjkcgcjaaQv19
import Derived.Laws.AppendOwn
namespace Go.Proofs.Ytjakckkjkcgcjaa
open Go.RowKit
set_option linter.unusedVariables false

def disN (p : Int) (S : List Int) : Nat → Int
  | 0 => 1
  | i + 1 => disN p S i * S.getD i 0 % p
def discN (p : Int) (S : List Int) : Int := disN p S S.length
theorem disN_bd {p : Int} (hp : prm p = true) (S : List Int) (i : Nat) : 0 ≤ disN p S i ∧ disN p S i < p := by
  have := prm_bd hp
  cases i with
  | zero => show 0 ≤ (1 : Int) ∧ (1 : Int) < p; omega
  | succ i => exact mod_bd hp _
set_option maxRecDepth 100000 in
set_option maxHeartbeats 3200000 in
theorem l03Disc_any (p : Int) (aS : Option Addr) (S : List Int) (cS loS tpS : Nat) (w : World)
    (hS : RowIn loS tpS w aS S) (tS : tpS ≤ w.heap.size) (hs : isSp p S = true) :
    Calls Try.prog 47 #[.agg #[.int .i64 p, .slice aS S.length cS]] w fun e w' => e = .returned (.int .i64 (discN p S)) ∧ Below w.heap.size w w' := by
  have K := isSp_iff.1 hs
  have hpb := prm_bd K.prime
  have hS6 := K.hi
  have HS := Lib.hid hS
  have HK := Lib.hid K
  obtain ⟨n, hn⟩ : ∃ n, n = S.length := ⟨_, rfl⟩
  rw [← hn] at hS6
  have HN := Lib.hid hn
  have hn1 : S.length ≤ n ∧ n ≤ S.length := by omega
  rw [← hn]
  clear hS hs K hn
  go_enter Try.func47, Try.ntmps47
  go_wp2
  go_loopw [3, 4] (fun s t wr => ∃ i : Nat, i ≤ n ∧ s = .int .i64 (disN p S i) ∧ t = .int .i64 i ∧ Quiet (w.alloc (.cells #[.int .i64 p, .slice aS n cS] 30)) wr) (fun _ t _ => n - (intOf t).toNat)
  case atStart => exact ⟨0, Nat.zero_le _, rfl, rfl, Quiet.refl _⟩
  case round =>
    obtain ⟨i, hi, rfl, rfl, hq⟩ := hrel
    have HQ := Lib.hid hq
    have hb0 := (hq.cell ⟨w.heap.size, 0, none⟩).trans (nw0 w _ _ _)
    have hb1 := (hq.cell ⟨w.heap.size, 1, none⟩).trans (nw1 w _ _ _)
    have hqb := (below_alloc w (.cells #[.int .i64 p, .slice aS n cS] 30)).trans (hq.below _)
    by_cases hlt : i < n
    · obtain ⟨bs, os, ha1, _, _, cs⟩ := (HS.out.below hqb tS).num (by omega : i < S.length)
      subst ha1
      obtain ⟨z0, z1⟩ := HK.out.num (by omega : i < S.length)
      obtain ⟨q0, q1⟩ := disN_bd HK.out.prime S i
      have HST : Hid (∀ s z : Int, s = disN p S i → z = S.getD i 0 → s * z % p = disN p S (i + 1)) := by
        intro s z e1 e2
        subst e1 e2
        rfl
      obtain ⟨s, hs⟩ : ∃ s, s = disN p S i := ⟨_, rfl⟩
      obtain ⟨z, hz⟩ : ∃ z, z = S.getD i 0 := ⟨_, rfl⟩
      have HE := Lib.hid (HST.out s z hs hz)
      rw [← hs] at q0 q1
      rw [← hz] at cs z0 z1
      rw [← hs]
      clear hs hz HST hq hqb
      obtain ⟨p1, p2, _, _⟩ := prod3 hpb.2 q0 q1 z0 z1 z0 z1
      have e1 : IntKind.i64.wrap (s * z) = s * z := IntWalk.i64_in _ (by omega)
      have e2 : (s * z).tmod p = s * z % p := Int.tmod_eq_emod_of_nonneg p1
      have hp0 : ¬ p = 0 := by omega
      have hp1 : (p == 0) = false := by simpa using hp0
      have hi1 : (i : Int) < (n : Int) := by omega
      go_wp2
      go_quiet (fail)
      clear e1 e2
      go_wp2
      go_roundw
      case rel => exact ⟨i + 1, by omega, by rw [HE.out], by go_num, HQ.out.next _⟩
      case measure => simp [intOf]; omega
    · have hin : i = n := by omega
      subst hin
      have HE : Hid (disN p S i = discN p S) := by show _ = _; unfold discN; rw [HN.out]
      rw [HE.out]
      clear hq hqb
      go_wp2
      go_ret
      exact ⟨rfl, (below_alloc w _).trans (HQ.out.below _)⟩

end Go.Proofs.Ytjakckkjkcgcjaa

namespace Go.Proofs.Ytjakckkjkcgcjaa
open Go.RowKit
set_option linter.unusedVariables false

theorem l01Inv_any (p a : Int) (w : World) (hp : prm p = true) (a0 : 1 ≤ a) (a1 : a < p) :
    Calls Try.prog 82 #[.int .i64 p, .int .i64 a] w fun e w' => e = .returned (.int .i64 (inv p a)) ∧ w = w' := by
  have hb := prm_bd hp
  obtain ⟨v0, v1⟩ := inv_bd hp a
  have v2 := inv_pos hp a0 a1
  have HP := Lib.hid hp
  clear hp
  go_enter Try.func82, Try.ntmps82
  go_wp2
  go_loop [5] (fun t => ∃ b : Int, 1 ≤ b ∧ b ≤ inv p a ∧ t = .int .i64 b) (fun t => (inv p a - intOf t).toNat)
  case atStart => exact ⟨1, by omega, by omega, rfl⟩
  case round =>
    obtain ⟨b, b0, b1, rfl⟩ := hrel
    obtain ⟨m0, m1⟩ := mul_bd (a := a) (b := b) HP.out (by omega) (by omega) (by omega) (by omega)
    obtain ⟨q0, q1⟩ := mod_bd HP.out (a * b)
    have hi := inv_iff (a := a) HP.out a0 a1 b0 b1
    by_cases hq : b = inv p a
    · have ht := hi.2 hq
      have HQ := Lib.hid hq
      clear hi hq
      go_wp2
      go_ret
      exact ⟨by rw [← HQ.out]; rfl, rfl⟩
    · have ht : ¬ a * b % p = 1 := fun h => hq (hi.1 h)
      clear hi
      go_wp2
      go_round
      case rel => exact ⟨b + 1, by omega, by omega, rfl⟩
      case measure => simp [intOf]; omega

set_option maxHeartbeats 800000 in
theorem power_pos (p a : Int) (m : Nat) (w : World) (hp : prm p = true) (a0 : 0 ≤ a) (a1 : a < p) (hm : m ≤ 1000000) :
    Calls Try.prog 118 #[.agg #[.int .i64 p, .int .i64 a], .int .i64 m] w fun e w' => e = .returned (.agg #[.int .i64 p, .int .i64 (pw p a m)]) ∧ Below w.heap.size w w' := by
  have HP := Lib.hid hp
  have hb := prm_bd hp
  clear hp
  go_enter Try.func118, Try.ntmps118
  go_wp2
  go_loopw [17] (fun t wr => ∃ j : Nat, j ≤ m ∧ t = .int .i64 j ∧ NumAt wr (w.heap.size + 1 + 1) p (pw p a j) ∧ NumAt wr w.heap.size p a ∧ NumAt wr (w.heap.size + 1) 0 0 ∧ Below w.heap.size w wr ∧ w.heap.size + 3 ≤ wr.heap.size) (fun t _ => m - (intOf t).toNat)
  case atStart =>
    refine ⟨0, Nat.zero_le _, rfl, ?_, ?_, ?_, by ((repeat' (first | with_reducible exact Below.refl _ _ | (with_reducible refine Below.setCell ?_ ?_ _) | (with_reducible refine Below.alloc ?_ ?_ _) | (with_reducible refine Below.drew ?_))); all_goals (first | (simp; done) | omega | (simp; omega))), by simp⟩
    · exact (by simpa [pw] using numAt_new ((w.alloc (Obj.cells #[.int .i64 p, .int .i64 a] _)).alloc (Obj.cells #[.int .i64 0, .int .i64 0] _)) p 1 _)
    · exact ((numAt_new w p a _).alloc (by simp) _).alloc (by simp; omega) _
    · exact NumAt.alloc (by simpa using numAt_new (w.alloc (Obj.cells #[.int .i64 p, .int .i64 a] _)) 0 0 _) (by simp) _
  case round =>
    obtain ⟨j, hj, rfl, n2, n0, n1, hbel, hz⟩ := hrel
    obtain ⟨q0, q1⟩ := pw_bd (a := a) HP.out j
    obtain ⟨g20, g21, k20, k21⟩ := n2
    obtain ⟨g00, g01, k00, k01⟩ := n0
    by_cases hlt : j < m
    · go_wp2_with (go_at_call 100; refine (times_any p (pw p a j) a _ HP.out q0 q1 a0 a1).mono ?_; rintro e w1 ⟨rfl, hb1⟩; have n2' := NumAt.keep (b := w.heap.size + 1 + 1) ⟨g20, g21, k20, k21⟩ hb1 (by omega); obtain ⟨e20, e21, h20, h21⟩ := n2')
      go_roundw
      case rel =>
        have hs1 := hb1.size
        have n2' : NumAt w1 (w.heap.size + 1 + 1) p (pw p a j) := ⟨e20, e21, h20, h21⟩
        refine ⟨j + 1, by omega, by go_num, n2'.set p _, ((NumAt.keep (b := w.heap.size) ⟨g00, g01, k00, k01⟩ hb1 (by omega)).far (by omega) _ _).far (by omega) _ _, ((n1.keep hb1 (by omega)).far (by omega) _ _).far (by omega) _ _, by (have hs_hb1 := hb1.size; have hs_hbel := hbel.size; (repeat' (first | with_reducible exact Below.refl _ _ | (with_reducible refine Below.setCell ?_ ?_ _) | (with_reducible refine Below.alloc ?_ ?_ _) | (with_reducible refine Below.drew ?_) | (with_reducible refine below_step ?_ ?_ hb1) | (with_reducible refine below_step ?_ ?_ hbel))); all_goals (first | (simp; done) | omega | (simp; omega) | (simp at hs_hb1 hs_hbel ⊢; omega))), by simp; omega⟩
      case measure => simp [intOf]; omega
    · have hjm : Hid (j = m) := by show j = m; omega
      obtain ⟨g10, g11, k10, k11⟩ := n1
      go_wp2
      refine bodyPost_ret (v := .agg #[.int .i64 p, .int .i64 (pw p a j)]) (by simp [results, Try.results118, go_sem, g10, g11]) rfl ⟨by rw [hjm.out], ?_⟩
      (have hs_hbel := hbel.size; (repeat' (first | with_reducible exact Below.refl _ _ | (with_reducible refine Below.setCell ?_ ?_ _) | (with_reducible refine Below.alloc ?_ ?_ _) | (with_reducible refine Below.drew ?_) | (with_reducible refine below_step ?_ ?_ hbel))); all_goals (first | (simp; done) | omega | (simp; omega) | (simp at hs_hbel ⊢; omega)))

end Go.Proofs.Ytjakckkjkcgcjaa

namespace Go.Proofs.Ytjakckkjkcgcjaa
open Go.RowKit
set_option linter.unusedVariables false

theorem power_any (p a : Int) (k : Int) (w : World) (hp : prm p = true) (a0 : 0 ≤ a) (a1 : a < p) (k0 : 0 ≤ k) (k1 : k ≤ 1000000) :
    Calls Try.prog 118 #[.agg #[.int .i64 p, .int .i64 a], .int .i64 k] w fun e w' => e = .returned (.agg #[.int .i64 p, .int .i64 (pw p a k.toNat)]) ∧ Below w.heap.size w w' := by
  have h := power_pos p a k.toNat w hp a0 a1 (by omega)
  rwa [Int.toNat_of_nonneg k0] at h

set_option maxHeartbeats 400000 in
theorem inverse_any (p a : Int) (w : World) (hp : prm p = true) (a0 : 0 ≤ a) (a1 : a < p) :
    Calls Try.prog 86 #[.agg #[.int .i64 p, .int .i64 a]] w fun e w' => e = .returned (.agg #[.int .i64 p, .int .i64 (inv p a)]) ∧ Below w.heap.size w w' := by
  have HP := Lib.hid hp
  have hb := prm_bd hp
  clear hp
  go_enter Try.func86, Try.ntmps86
  go_wp2_with (go_at_call 118; refine (power_any p a (p - 2) _ HP.out a0 a1 (by omega) (by omega)).mono ?_; rintro e w1 ⟨rfl, hb1⟩; obtain ⟨hc, hf⟩ := bcell hb1)
  refine bodyPost_ret (v := .agg #[.int .i64 p, .int .i64 (inv p a)]) (by simp [results, Try.results86, go_sem, hc, inv]) rfl ⟨rfl, ?_⟩
  (have hs_hb1 := hb1.size; (repeat' (first | with_reducible exact Below.refl _ _ | (with_reducible refine Below.setCell ?_ ?_ _) | (with_reducible refine Below.alloc ?_ ?_ _) | (with_reducible refine Below.drew ?_) | (with_reducible refine below_step ?_ ?_ hb1))); all_goals (first | (simp; done) | omega | (simp; omega) | (simp at hs_hb1 ⊢; omega)))

end Go.Proofs.Ytjakckkjkcgcjaa

namespace Go.Proofs.Ytjakckkjkcgcjaa
open Go.RowKit
set_option linter.unusedVariables false

def revM (p : Int) (x : List Int) : List Int := mkR x.length (sgF p c_reversal x)
theorem rev_mv {p : Int} {S x : List Int} (hs : isSp p S = true) (h : isMv p S x = true) : isMv p S (revM p x) = true :=
  isMv_of (by unfold revM; rw [mkR_len]; exact Mv.len h) fun j hj => by
    have hp := prm_bd (isSp_iff.1 hs).prime
    unfold revM at hj ⊢
    rw [mkR_len] at hj
    rw [mkR_at _ hj]
    unfold sgF
    have hx := Mv.num h j hj
    split
    · exact ⟨Int.emod_nonneg _ (by omega), Int.emod_lt_of_pos _ (by omega)⟩
    · exact hx
end Go.Proofs.Ytjakckkjkcgcjaa

namespace Go.Proofs.Ytjakckkjkcgcjaa
open Go.RowKit
set_option linter.unusedVariables false

theorem one_mv' {p : Int} {S : List Int} (hs : isSp p S = true) : isMv p S (mOne S) = true :=
  isMv_of (by unfold mOne; rw [mkR_len]) fun j hj => by
    have hp := prm_bd (isSp_iff.1 hs).prime
    unfold mOne at hj ⊢
    rw [mkR_len] at hj
    rw [mkR_at _ hj]
    unfold oneF
    split <;> omega
theorem vecF_bd {p : Int} (hp : 0 < p) {v : List Int} (hn : ∀ j, j < v.length → 0 ≤ v.getD j 0 ∧ v.getD j 0 < p) (b : Nat) : ∀ k, k ≤ v.length → 0 ≤ vecF v k b ∧ vecF v k b < p
  | 0, _ => by show 0 ≤ (0 : Int) ∧ (0 : Int) < p; omega
  | k + 1, h => by
    show 0 ≤ (if b = 2 ^ k then v.getD k 0 else vecF v k b) ∧ (if b = 2 ^ k then v.getD k 0 else vecF v k b) < p
    have h1 := hn k (by omega)
    have h2 := vecF_bd hp hn b k (by omega)
    split
    · exact h1
    · exact h2
theorem vec_mv' {p : Int} {S v : List Int} (hs : isSp p S = true) (hv : isVec p S.length v = true) : isMv p S (mkR (bl S) (vecF v v.length)) = true :=
  isMv_of (mkR_len _ _) fun j hj => by
    have hp := prm_bd (isSp_iff.1 hs).prime
    rw [mkR_len] at hj
    rw [mkR_at _ hj]
    exact vecF_bd (by omega) (fun i hi => (isVec_iff.1 hv).num (by rw [← (isVec_iff.1 hv).len]; exact hi)) j v.length (Nat.le_refl _)
end Go.Proofs.Ytjakckkjkcgcjaa

namespace Go.Proofs.Ytjakckkjkcgcjaa
open Go.RowKit
set_option linter.unusedVariables false

/-- Whether a term of grade g has come. -/
def cm (x : List Int) (left : Lit → Bool) (g : Nat) : Bool := (List.range x.length).any fun j => decide (gr j = g) && decide (x.getD j 0 ≠ 0) && !(td left j)
theorem bool_ext {a b : Bool} (h : a = true ↔ b = true) : a = b := by cases a <;> cases b <;> simp at h ⊢
end Go.Proofs.Ytjakckkjkcgcjaa

namespace Go.Proofs.Ytjakckkjkcgcjaa
open Go.RowKit
set_option linter.unusedVariables false

def gradesTo (x : List Int) (k : Nat) : List Int := ((List.range k).filter (hasGr x)).map fun (k : Nat) => (k : Int)
theorem grades_eq (S x : List Int) : grades S x = gradesTo x (S.length + 1) := rfl
theorem gradesTo_yes {x : List Int} {k : Nat} (h : hasGr x k = true) : gradesTo x (k + 1) = gradesTo x k ++ [(k : Int)] := by
  unfold gradesTo; rw [List.range_succ, List.filter_append, List.map_append]; simp [h]
theorem gradesTo_no {x : List Int} {k : Nat} (h : hasGr x k = false) : gradesTo x (k + 1) = gradesTo x k := by
  unfold gradesTo; rw [List.range_succ, List.filter_append, List.map_append]; simp [h]
theorem gradesTo_le (x : List Int) (k : Nat) : (gradesTo x k).length ≤ k := by
  unfold gradesTo; rw [List.length_map]; exact Nat.le_trans (List.length_filter_le _ _) (by simp)
theorem hasGr_far {S x : List Int} (hS : S.length ≤ 6) (hx : x.length = bl S) {k : Nat} (hk : S.length < k) : hasGr x k = false := by
  cases e : hasGr x k with
  | false => rfl
  | true =>
    obtain ⟨j, h1, h2, _⟩ := hasGr_iff.1 e
    have := gr_le_of hS (m := j) (by rw [hx] at h1; exact h1)
    omega
theorem OutR.more {B : Nat} {w1 : World} {v' : Value} {zs ys : List Int} {N : Nat} {X : List Value} {k : Int} (hX : X = zs.map (Value.int .i64)) (hN : N = zs.length) (hs : ys = zs ++ [k]) (h1 : w1.ownsRow B 2 1 v' (N + 1) (X ++ [.int .i64 k])) : OutR B w1 v' ys := by
  subst hs hN hX
  unfold OutR
  rw [List.length_append, List.map_append]
  exact h1
def Nz (n : Nat) (f : Nat → Int) : Prop := ∃ j, j < n ∧ f j ≠ 0
theorem pg_has {x : List Int} {k : Nat} : Nz x.length (pg x k) ↔ hasGr x k = true := by
  rw [hasGr_iff]
  constructor
  · rintro ⟨j, h1, h2⟩
    unfold pg at h2
    by_cases e : ((gr j : Nat) : Int) = k
    · rw [if_pos e] at h2; exact ⟨j, h1, by omega, h2⟩
    · rw [if_neg e] at h2; exact absurd rfl h2
  · rintro ⟨j, h1, h2, h3⟩
    exact ⟨j, h1, by unfold pg; rw [if_pos (by rw [h2])]; exact h3⟩

set_option maxHeartbeats 1600000 in
theorem l02First_sign (b n : Nat) (f : Nat → Int) (c : Nat) (w : World) (h : RowOwn w b 0 n f) (hn : n ≤ 1048576) :
    Calls Try.prog 139 #[.slice (some ⟨b, 0, none⟩) n c] w fun e w' => ∃ r, e = .returned (.int .i64 r) ∧ (Nz n f → 0 ≤ r) ∧ (¬ Nz n f → r = -1) ∧ w = w' := by
  have H := Lib.hid h
  clear h
  go_enter Try.func139, Try.ntmps139
  go_wp2
  go_loop [3] (fun t => ∃ k : Nat, k ≤ n ∧ t = .int .i64 k ∧ ∀ j, j < k → f j = 0) (fun t => n - (intOf t).toNat)
  case atStart => exact ⟨0, Nat.zero_le _, rfl, fun j hj => by omega⟩
  case round =>
    obtain ⟨k, hk, rfl, hall⟩ := hrel
    have HA := Lib.hid hall
    clear hall
    by_cases hlt : k < n
    · have hc := H.out.cell k hlt
      rw [Nat.zero_add] at hc
      have hi1 : (k : Int) < (n : Int) := by omega
      obtain ⟨y, hy⟩ : ∃ y, y = f k := ⟨_, rfl⟩
      have HY := Lib.hid hy
      rw [← hy] at hc
      clear hy
      by_cases h0 : y = 0
      · have e0 : (y != 0) = false := by simp [h0]
        go_wp2
        go_round
        case rel => exact ⟨k + 1, by omega, by go_num, fun j hj => by
          by_cases e : j = k
          · subst e; rw [← HY.out]; exact h0
          · exact HA.out j (by omega)⟩
        case measure => simp [intOf]; omega
      · have e0 : (y != 0) = true := by simp [h0]
        go_wp2
        go_ret
        exact ⟨k, rfl, fun _ => by omega, fun hno => (hno ⟨k, hlt, by rw [← HY.out]; exact h0⟩).elim, rfl⟩
    · go_wp2
      go_ret
      refine ⟨-1, rfl, fun h => ?_, fun _ => rfl, rfl⟩
      obtain ⟨j, h1, h2⟩ := h
      exact absurd (HA.out j (by omega)) h2

set_option maxRecDepth 100000 in
set_option maxHeartbeats 3200000 in
theorem l04Grades_any (p : Int) (aS : Option Addr) (S : List Int) (cS : Nat) (ax : Option Addr) (x : List Int) (cx lox tpx : Nat) (w : World) (h6 : S.length ≤ 6) (hx : RowIn lox tpx w ax x) (tx : tpx ≤ w.heap.size) (sx : x.length ≤ 64) :
    Calls Try.prog 128 #[.agg #[.int .i64 p, .slice aS S.length cS], .slice ax x.length cx] w (SRow (grades S x) w) := by
  obtain ⟨i0, hi, hz0, hz1, hz2⟩ := info_parts info64
  have Hx := Lib.hid hx
  have HB0 := Lib.hid (below_alloc w (.cells #[.int .i64 p, .slice aS S.length cS] 30))
  have k1 := nw1 w (.int .i64 p) (.slice aS S.length cS) 30
  clear hx
  go_enter Try.func128, Try.ntmps128
  go_upto_region 1 with fail
  obtain ⟨w1, hw1⟩ : ∃ z, z = w.alloc (.cells #[.int .i64 p, .slice aS S.length cS] 30) := ⟨_, rfl⟩
  rw [← hw1] at HB0 k1
  rw [← hw1]
  have hw0 : w.heap.size < w1.heap.size := by rw [hw1]; simp
  clear hw1
  go_wp2
  go_loopw [5, 6] (fun v t wr => ∃ i : Nat, i ≤ S.length + 1 ∧ t = .int .i64 i ∧ OutR w1.heap.size wr v (gradesTo x i) ∧ wr.cell? ⟨w.heap.size, 1, none⟩ = some (.slice aS S.length cS) ∧ Below w1.heap.size w1 wr) (fun _ t _ => S.length + 1 - (intOf t).toNat)
  case atStart => exact ⟨0, Nat.zero_le _, rfl, OutR.start w1 _ _ (Nat.le_refl _) rfl, ca0 k1, below_alloc w1 _⟩
  case round =>
    obtain ⟨i, hi', rfl, ho, hk, hbel⟩ := hrel
    have HO := Lib.hid ho
    have HB := Lib.hid hbel
    have HK := Lib.hid hk
    have hwz := hbel.size
    clear ho hbel
    by_cases hlt : i ≤ S.length
    · have hi1 : (i : Int) ≤ (S.length : Int) := by omega
      have HXR := Lib.hid ((Hx.out.below HB0.out tx).below HB.out (by omega))
      obtain ⟨N, hN⟩ : ∃ N, N = (gradesTo x i).length := ⟨_, rfl⟩
      have hN7 : N ≤ 7 := by have := gradesTo_le x i; omega
      have HN := Lib.hid hN
      obtain ⟨X, hX⟩ : ∃ X, X = (gradesTo x i).map (Value.int .i64) := ⟨_, rfl⟩
      have HX := Lib.hid hX
      have HO2 : Hid (wr.ownsRow w1.heap.size 2 1 u5 N X) := by
        have := HO.out; unfold OutR at this; rw [← hN, ← hX] at this; exact this
      have n0 : u5.ownBlock ≠ some w.heap.size := fun e => by have := (HO2.out.lt _ e).1; omega
      clear hX hN
      by_cases hg : hasGr x i = true
      · have HSU := Lib.hid (gradesTo_yes hg)
        have HEX := Lib.hid (pg_has.2 hg)
        clear hg
        go_wp2_with (first | (go_at_call 104; (with_reducible refine (l04Part_any ax x cx lox tpx i wr HXR.out (by omega) sx).mono ?_); rintro e w3 ⟨d3, rfl, l3, u3', o3, b3⟩; have O3 := Lib.hid o3; have B3 := Lib.hid b3; have z3 := b3.size; have HV3 := Lib.hid (HO2.out.kept (below_grown b3) (by cases hv : Value.ownBlock u5 <;> simp)); have hk3 := (b3.cell (p := ⟨w.heap.size, 1, none⟩) (show w.heap.size < wr.heap.size by omega)).trans HK.out; clear o3 b3) | (go_at_call 139; (with_reducible refine (l02First_sign d3 x.length _ _ w3 O3.out (by omega)).mono ?_); rintro e w4 ⟨r4, rfl, hr4, hr5, rfl⟩; have hr6 := hr4 HEX.out; clear hr4 hr5) | (at_builtin; refine wpList_append_lies _ rfl _ _ 22 rfl w1.heap.size 2 i0 (.int .i64 0) 1 8 Try.underlying22 hi hz0 hz1 hz2 rfl (by decide) u5 N X rfl (HV3.out.alloc _) ⟨w3.heap.size, 0, none⟩ 1 1 [.int .i64 i] rfl rfl (World.news_of_block (cs := #[.int .i64 i]) (t := 2) (fr := (0, 0)) (heap_alloc_new w3 _)) (by simp [Value.oneCell']) (by omega) (by unfold maxLen; omega) (by omega) (by simp; omega) (w3.heap.size + 1) (by simp) ?_; intro gg cap w1 hown1 hgrow hat hlt1))
        go_wp2
        go_roundw
        case rel => exact ⟨i + 1, by omega, by go_num, OutR.more HX.out HN.out HSU.out hown1, (hgrow.cell_far ⟨w.heap.size, 1, none⟩ (by simp; omega) (Ne.symm n0)).trans (ca0 hk3), ((HB.out.trans (B3.out.mono hwz)).alloc (by omega) _).grown hgrow (by simp; omega) (fun _ hk => (HO2.out.lt _ hk).1)⟩
        case measure => simp [intOf]; omega
      · have hg' : hasGr x i = false := by simpa using hg
        have HSU := Lib.hid (gradesTo_no hg')
        have HEX : Hid (¬ Nz x.length (pg x i)) := fun e => hg (pg_has.1 e)
        clear hg hg'
        go_wp2_with (first | (go_at_call 104; (with_reducible refine (l04Part_any ax x cx lox tpx i wr HXR.out (by omega) sx).mono ?_); rintro e w3 ⟨d3, rfl, l3, u3', o3, b3⟩; have O3 := Lib.hid o3; have B3 := Lib.hid b3; have z3 := b3.size; have HV3 := Lib.hid (HO2.out.kept (below_grown b3) (by cases hv : Value.ownBlock u5 <;> simp)); have hk3 := (b3.cell (p := ⟨w.heap.size, 1, none⟩) (show w.heap.size < wr.heap.size by omega)).trans HK.out; clear o3 b3) | (go_at_call 139; (with_reducible refine (l02First_sign d3 x.length _ _ w3 O3.out (by omega)).mono ?_); rintro e w4 ⟨r4, rfl, hr4, hr5, rfl⟩; have hr6 := hr5 HEX.out; clear hr4 hr5; subst hr6))
        go_roundw
        case rel => exact ⟨i + 1, by omega, by go_num, by rw [HSU.out]; unfold OutR; rw [← HN.out, ← HX.out]; exact HV3.out, hk3, HB.out.trans (B3.out.mono hwz)⟩
        case measure => simp [intOf]; omega
    · have hn : i = S.length + 1 := by omega
      subst hn
      have hi1 : (S.length : Int) < ((S.length + 1 : Nat) : Int) := by omega
      obtain ⟨a8, c8, e8, ht8⟩ := HO.out.tag
      subst e8
      have HT8 := Lib.hid ht8
      clear ht8
      go_wp2
      go_ret
      exact ⟨a8, c8, by rw [grades_eq]; rfl, by rw [grades_eq]; exact HT8.out.row.mono (by omega) (Nat.le_refl _), HB0.out.trans (HB.out.mono (by omega))⟩

end Go.Proofs.Ytjakckkjkcgcjaa
