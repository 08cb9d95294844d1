/-
  Numbers of orthogonal matrices: contracts of the program and of the model.
  Conditions: the lists are nil or rows of known cells, of at most 1048576 numbers.
-/
import Derived.Test.YtigdepahbnidjaaQo32
import Derived.Test.YtigdepahbnidjaaQo33
import Derived.Test.YtigdepahbnidjaaQo38
import Derived.Test.YtigdepahbnidjaaQo39
import Derived.Deep.RegionHeld3
import Derived.Deep.DeepCutAuto
namespace Go.Proofs.Ytigdepahbnidjaa
open Go.RowKit
set_option linter.unusedVariables false

/-- The number behind j rounds. -/
def cnP (p c : Int) : Nat → Int
  | 0 => c
  | j + 1 => cnP p c j * (p ^ (2 * (j + 1)) - 1)
def sgn8 (p : Int) (S : List Int) : Int := if wittN p S = (S.length : Int) / 2 then 1 else -1
def cnN (p : Int) (S : List Int) : Int :=
  if (S.length : Int) % 2 = 1 then cnP p (2 * p ^ (S.length / 2 * (S.length / 2))) (S.length / 2) else cnP p (2 * p ^ (S.length / 2 * (S.length / 2 - 1)) * (p ^ (S.length / 2) - sgn8 p S)) (S.length / 2 - 1)
def cnV (p : Int) (S : List Int) : Int := if regC p S [] = 0 then cnN p S else 0
theorem pow_13 {p : Int} {n : Nat} (hp : prm p = true) (hn : n ≤ 9) : 1 ≤ p ^ n ∧ p ^ n ≤ 10604499373 := by
  have h : ∀ n, n < 10 → (∀ p, p ∈ [(3 : Int), 5, 7, 11, 13] → 1 ≤ p ^ n ∧ p ^ n ≤ 10604499373) := by decide +kernel
  exact h n (by omega) p (by rcases prm_or hp with rfl | rfl | rfl | rfl | rfl <;> decide)
theorem cn_odd {p : Int} {k j : Nat} (hp : prm p = true) (hk : k ≤ 2) (hj : j ≤ 2) : 0 ≤ cnP p (2 * p ^ (k * k)) j ∧ cnP p (2 * p ^ (k * k)) j ≤ 1000000000000000000 := by
  have h : ∀ k, k < 3 → ∀ j, j < 3 → (∀ p, p ∈ [(3 : Int), 5, 7, 11, 13] → 0 ≤ cnP p (2 * p ^ (k * k)) j ∧ cnP p (2 * p ^ (k * k)) j ≤ 1000000000000000000) := by decide +kernel
  exact h k (by omega) j (by omega) p (by rcases prm_or hp with rfl | rfl | rfl | rfl | rfl <;> decide)
theorem cn_even {p w : Int} {k j : Nat} (hp : prm p = true) (hk : k ≤ 3) (hj : j ≤ 2) (hw : w = 1 ∨ w = -1) : 0 ≤ cnP p (2 * p ^ (k * (k - 1)) * (p ^ k - w)) j ∧ cnP p (2 * p ^ (k * (k - 1)) * (p ^ k - w)) j ≤ 1000000000000000000 := by
  have h : ∀ k, k < 4 → ∀ j, j < 3 → ∀ w, w ∈ [(1 : Int), -1] → (∀ p, p ∈ [(3 : Int), 5, 7, 11, 13] → 0 ≤ cnP p (2 * p ^ (k * (k - 1)) * (p ^ k - w)) j ∧ cnP p (2 * p ^ (k * (k - 1)) * (p ^ k - w)) j ≤ 1000000000000000000) := by decide +kernel
  exact h k (by omega) j (by omega) w (by rcases hw with rfl | rfl <;> decide) p (by rcases prm_or hp with rfl | rfl | rfl | rfl | rfl <;> decide)
theorem witt_two {p : Int} {S : List Int} (h : ¬ (S.length : Int) % 2 = 1) : wittN p S = (S.length : Int) / 2 ∨ wittN p S = (S.length : Int) / 2 - 1 := by
  unfold wittN
  rw [if_neg h]
  split
  · exact .inl rfl
  · exact .inr rfl
theorem cnV_yes {p : Int} {S : List Int} (h : regC p S [] = 0) : cnV p S = cnN p S := if_pos h
theorem cnV_no {p : Int} {S : List Int} (h : regC p S [] ≠ 0) : cnV p S = 0 := if_neg h

set_option maxHeartbeats 1600000 in
theorem l08Raise_any (p K : Int) (n : Nat) (w : World) (hp : prm p = true) (hK : K = n) (hn : n ≤ 9) :
    Calls Try.prog 106 #[.int .i64 p, .int .i64 K] w (fun e w' => e = .returned (.int .i64 (p ^ n)) ∧ Below w.heap.size w w') := by
  subst hK
  have HP := Lib.hid hp
  clear hp
  go_enter Try.func106, Try.ntmps106
  go_wp2
  go_loopw [1, 5] (fun t u wr => ∃ r j : Nat, r + j = n ∧ t = .int .i64 r ∧ u = .int .i64 (p ^ j) ∧ wr = w) (fun t _ _ => (intOf t).toNat)
  case atStart => exact ⟨n, 0, rfl, rfl, by simp, by trivial⟩
  case round =>
    obtain ⟨r, j, hr, rfl, rfl, rfl⟩ := hrel
    by_cases h0 : 0 < r
    · have h1 : (0 : Int) < (r : Int) := by omega
      have hb := pow_13 (n := j + 1) HP.out (by omega)
      rw [Int.pow_succ] at hb
      obtain ⟨Y, hY⟩ : ∃ Y, Y = p ^ j := ⟨_, rfl⟩
      obtain ⟨Z, hZ⟩ : ∃ Z, Z = p ^ j * p := ⟨_, rfl⟩
      have HZ : Hid (p ^ (j + 1) = Z) := by show _ = _; rw [Int.pow_succ, hZ]
      rw [← hZ] at hb
      rw [← hY] at hZ ⊢
      have ez : wrap64 (Y * p) = Z := (show wrap64 (Y * p) = Y * p by rw [← hZ]; unfold wrap64; omega).trans hZ.symm
      have ez' : IntKind.i64.wrap (Y * p) = Z := (show IntKind.i64.wrap (Y * p) = Y * p by rw [← hZ]; exact IntWalk.i64_in _ (by omega)).trans hZ.symm
      clear hZ hY
      go_wp2
      go_roundw
      case rel => exact ⟨r - 1, j + 1, by omega, by go_num, by rw [HZ.out], by trivial⟩
      case measure => simp [intOf]; omega
    · have h1 : ¬ (0 : Int) < (r : Int) := by omega
      have hj : j = n := by omega
      subst hj
      go_wp2
      go_ret
      exact ⟨rfl, Below.refl _ _⟩

set_option maxHeartbeats 1600000 in
theorem wholePower_any (p K : Int) (n : Nat) (w : World) (hp : prm p = true) (hK : K = n) (hn : n ≤ 9) :
    Calls Try.prog 108 #[.int .i64 p, .int .i64 K] w (fun e w' => e = .returned (.int .i64 (p ^ n)) ∧ Below w.heap.size w w') := by
  subst hK
  have HP := Lib.hid hp
  clear hp
  go_enter Try.func108, Try.ntmps108
  go_wp2
  go_loopw [5, 7] (fun u t wr => ∃ j : Nat, j ≤ n ∧ t = .int .i64 j ∧ u = .int .i64 (p ^ j) ∧ wr = w) (fun _ t _ => n - (intOf t).toNat)
  case atStart => exact ⟨0, Nat.zero_le _, rfl, by simp, by trivial⟩
  case round =>
    obtain ⟨j, hj, rfl, rfl, rfl⟩ := hrel
    by_cases h0 : j < n
    · have h1 : (j : Int) < (n : Int) := by omega
      have hb := pow_13 (n := j + 1) HP.out (by omega)
      rw [Int.pow_succ] at hb
      obtain ⟨Y, hY⟩ : ∃ Y, Y = p ^ j := ⟨_, rfl⟩
      obtain ⟨Z, hZ⟩ : ∃ Z, Z = p ^ j * p := ⟨_, rfl⟩
      have HZ : Hid (p ^ (j + 1) = Z) := by show _ = _; rw [Int.pow_succ, hZ]
      rw [← hZ] at hb
      rw [← hY] at hZ ⊢
      have ez : wrap64 (Y * p) = Z := (show wrap64 (Y * p) = Y * p by rw [← hZ]; unfold wrap64; omega).trans hZ.symm
      have ez' : IntKind.i64.wrap (Y * p) = Z := (show IntKind.i64.wrap (Y * p) = Y * p by rw [← hZ]; exact IntWalk.i64_in _ (by omega)).trans hZ.symm
      clear hZ hY
      go_wp2
      go_roundw
      case rel => exact ⟨j + 1, by omega, by go_num, by rw [HZ.out], by trivial⟩
      case measure => simp [intOf]; omega
    · have h1 : ¬ (j : Int) < (n : Int) := by omega
      have hj : j = n := by omega
      subst hj
      go_wp2
      go_ret
      exact ⟨rfl, Below.refl _ _⟩

set_option maxRecDepth 100000 in
set_option maxHeartbeats 6400000 in
theorem l08Count_any (pS : Int) (aS : Option Addr) (S : List Int) (cS loS tpS : Nat) (w : World) (hS : RowIn loS tpS w aS S) (tS : tpS ≤ w.heap.size) (hs : isSp pS S = true) :
    Calls Try.prog 67 #[.agg #[.int .i64 pS, .slice aS S.length cS]] w (fun e w' => e = .returned (.int .i64 (cnN pS S)) ∧ Below w.heap.size w w') := by
  have HS := Lib.hid hS
  have k0 := nw0 w (.int .i64 pS) (.slice aS S.length cS) 30
  have k1 := nw1 w (.int .i64 pS) (.slice aS S.length cS) 30
  have HB0 := Lib.hid (below_alloc w (.cells #[.int .i64 pS, .slice aS S.length cS] 30))
  clear hS
  have HI := Lib.hid hs
  have h6 := (isSp_iff.1 HI.out).hi
  have hl1 := (isSp_iff.1 HI.out).lo
  have hpb := prm_bd (isSp_iff.1 HI.out).prime
  obtain ⟨k, hk⟩ : ∃ k, k = S.length / 2 := ⟨_, rfl⟩
  have hkI : (S.length : Int) / 2 = (k : Int) := by omega
  have HKI : Hid ((S.length : Int) / 2 = (k : Int)) := hkI
  obtain ⟨KK, hKK⟩ : ∃ z, z = ((k * k : Nat) : Int) := ⟨_, rfl⟩
  have hk3 : k ≤ 3 := by omega
  have hq : k * k ≤ 9 := by have h := Nat.mul_le_mul hk3 hk3; omega
  have hKe : (k : Int) * (k : Int) = KK := by rw [hKK]; simp
  obtain ⟨A, hA⟩ : ∃ z, z = pS ^ (k * k) := ⟨_, rfl⟩
  have hAb := pow_13 (n := k * k) (isSp_iff.1 HI.out).prime hq
  rw [← hA] at hAb
  have HAE := Lib.hid hA
  have HKK := Lib.hid hKK
  have HQ := Lib.hid hq
  have Xekk : Hid (wrap64 ((k : Int) * (k : Int)) = KK) := (show wrap64 ((k : Int) * (k : Int)) = (k : Int) * (k : Int) by rw [hKe, hKK]; unfold wrap64; omega).trans hKe
  have Xekk' : Hid (IntKind.i64.wrap ((k : Int) * (k : Int)) = KK) := (show IntKind.i64.wrap ((k : Int) * (k : Int)) = (k : Int) * (k : Int) by rw [hKe, hKK]; exact IntWalk.i64_in _ (by omega)).trans hKe
  clear hs hKK hKe
  by_cases ho : (S.length : Int) % 2 = 1
  · have e0 : ((S.length : Int) % 2 == 1) = true := by simpa using ho
    have hk2 : k ≤ 2 := by omega
    obtain ⟨C0, hC0⟩ : ∃ z, z = 2 * A := ⟨_, rfl⟩
    have HCN : Hid (∀ j, j ≤ 2 → 0 ≤ cnP pS C0 j ∧ cnP pS C0 j ≤ 1000000000000000000) := fun j hj => by rw [hC0, hA]; exact cn_odd (isSp_iff.1 HI.out).prime hk2 hj
    have HV : Hid (cnN pS S = cnP pS C0 k) := by show _ = _; unfold cnN; rw [if_pos ho, ← hk, hC0, hA]
    have Xe4 : Hid (wrap64 (2 * A) = C0) := (show wrap64 (2 * A) = 2 * A by unfold wrap64; omega).trans hC0.symm
    have Xe4' : Hid (IntKind.i64.wrap (2 * A) = C0) := (IntWalk.i64_in _ (by omega)).trans hC0.symm
    clear hA hC0 ho hk
    have ekk := Xekk.out; have ekk' := Xekk'.out; have e4 := Xe4.out; have e4' := Xe4'.out
    go_enter Try.func67, Try.ntmps67
    go_upto_region 1 with fail
    obtain ⟨w1, hw1⟩ : ∃ z, z = w.alloc (.cells #[.int .i64 pS, .slice aS S.length cS] 30) := ⟨_, rfl⟩
    rw [← hw1] at HB0 k0 k1 ⊢
    have hd1 : w.heap.size < w1.heap.size := by rw [hw1]; simp
    have HB1 := HB0
    clear hw1
    have SS1 := Lib.hid (And.intro k0 k1)
    clear hkI
    go_quiet (fail)
    obtain ⟨w2, hwq⟩ : ∃ z, z = w1.drewN nq := ⟨_, rfl⟩
    have q_ : Quiet w1 w2 := ⟨nq, hwq⟩
    have b_ := q_.below w1.heap.size
    rw [← hwq]
    clear hwq q_
    have SS2 := Lib.hid (ss2 b_ hd1 SS1.out)
    have HB2 := Lib.hid (below_step HB1.out HB1.out.size b_)
    have hd2 := Nat.lt_of_lt_of_le hd1 b_.size
    clear b_ k0 k1
    obtain ⟨k0, k1⟩ := SS2.out
    go_upto_region 3 with fail
    rw [HKI.out]
    go_wp2_with (go_at_call 106; ((with_reducible refine (l08Raise_any pS KK (k * k) w2 (isSp_iff.1 HI.out).prime HKK.out HQ.out).mono ?_); rintro e w3 ⟨rfl, b_⟩; rw [← HAE.out]; have SS3 := Lib.hid (ss2 b_ hd2 SS2.out); have HB3 := Lib.hid (below_step HB2.out HB2.out.size b_); have hd3 := Nat.lt_of_lt_of_le hd2 b_.size; clear k0 k1; obtain ⟨k0, k1⟩ := SS3.out; clear b_))
    clear ekk ekk' e4 e4'
    go_loopw [6, 9] (fun u t wr => ∃ j : Nat, j ≤ k ∧ t = .int .i64 ((j : Int) + 1) ∧ u = .int .i64 (cnP pS C0 j) ∧ Below w.heap.size w wr ∧ (wr.cell? ⟨w.heap.size, 0, none⟩ = some (.int .i64 pS) ∧ wr.cell? ⟨w.heap.size, 1, none⟩ = some (.slice aS S.length cS)) ∧ w.heap.size < wr.heap.size) (fun _ t _ => k + 1 - (intOf t).toNat)
    case atStart => exact ⟨0, Nat.zero_le _, rfl, rfl, HB3.out, SS3.out, hd3⟩
    case round =>
      obtain ⟨j, hj, rfl, rfl, hbel, ⟨k0, k1⟩, hlw⟩ := hrel
      have HB := Lib.hid hbel
      have SSr := Lib.hid (And.intro k0 k1)
      by_cases hlt : j < k
      · have hi1 : (j : Int) + 1 ≤ (k : Int) := by omega
        have hj2 : j ≤ 2 := by omega
        have hx0 := HCN.out j (by omega)
        have hx1 := HCN.out (j + 1) (by omega)
        have hB := pow_13 (n := 2 * (j + 1)) (isSp_iff.1 HI.out).prime (by omega)
        obtain ⟨X, hX⟩ : ∃ z, z = cnP pS C0 j := ⟨_, rfl⟩
        obtain ⟨Y, hY⟩ : ∃ z, z = cnP pS C0 (j + 1) := ⟨_, rfl⟩
        obtain ⟨B, hBe⟩ : ∃ z, z = pS ^ (2 * (j + 1)) := ⟨_, rfl⟩
        rw [← hX] at hx0 ⊢
        rw [← hY] at hx1
        rw [← hBe] at hB
        have HBE := Lib.hid hBe
        have HYE := Lib.hid hY
        have hXY : X * (B - 1) = Y := by rw [hX, hY, hBe]; rfl
        obtain ⟨Q, hQ⟩ : ∃ z, z = ((2 * (j + 1) : Nat) : Int) := ⟨_, rfl⟩
        have hQe : 2 * ((j : Int) + 1) = Q := by rw [hQ]; omega
        have HQQ := Lib.hid hQ
        have Xe1 : Hid (wrap64 (2 * ((j : Int) + 1)) = Q) := (show wrap64 (2 * ((j : Int) + 1)) = 2 * ((j : Int) + 1) by unfold wrap64; omega).trans hQe
        have Xe1' : Hid (IntKind.i64.wrap (2 * ((j : Int) + 1)) = Q) := (IntWalk.i64_in _ (by omega)).trans hQe
        have Xe2 : Hid (wrap64 (B - 1) = B - 1) := by show _ = _; unfold wrap64; omega
        have Xe2' : Hid (IntKind.i64.wrap (B - 1) = B - 1) := IntWalk.i64_in _ (by omega)
        have Xe3 : Hid (wrap64 (X * (B - 1)) = Y) := (show wrap64 (X * (B - 1)) = X * (B - 1) by rw [hXY]; unfold wrap64; omega).trans hXY
        have Xe3' : Hid (IntKind.i64.wrap (X * (B - 1)) = Y) := (show IntKind.i64.wrap (X * (B - 1)) = X * (B - 1) by rw [hXY]; exact IntWalk.i64_in _ (by omega)).trans hXY
        have HJ9 : Hid (2 * (j + 1) ≤ 9) := by show _ ≤ _; omega
        have hjs : j + 1 ≤ k := by omega
        clear hX hY hBe hXY hQ hQe hbel hx0 hx1 hB
        have e1 := Xe1.out; have e1' := Xe1'.out; have e2 := Xe2.out; have e2' := Xe2'.out; have e3 := Xe3.out; have e3' := Xe3'.out
        go_wp2_with (go_at_call 106; ((with_reducible refine (l08Raise_any pS Q (2 * (j + 1)) wr (isSp_iff.1 HI.out).prime HQQ.out HJ9.out).mono ?_); rintro e wz ⟨rfl, b_⟩; rw [← HBE.out]; have SSz := Lib.hid (ss2 b_ hlw SSr.out); have HBz := Lib.hid (below_step HB.out HB.out.size b_); have hlz := Nat.lt_of_lt_of_le hlw b_.size; clear b_))
        clear e1 e1' e2 e2' e3 e3'
        go_roundw
        case rel => exact ⟨j + 1, hjs, by go_num, by rw [HYE.out], HBz.out, SSz.out, hlz⟩
        case measure => simp [intOf]; omega
      · have hi1 : ¬ (j : Int) + 1 ≤ (k : Int) := by omega
        have hjn : j = k := by omega
        subst hjn
        have HV2 := Lib.hid HV.out
        clear hbel
        go_wp2
        go_ret
        exact ⟨by rw [HV2.out]; rfl, HB.out⟩
  · have e0 : ((S.length : Int) % 2 == 1) = false := by simpa using ho
    have hk1 : 1 ≤ k := by omega
    obtain ⟨K1, hK1⟩ : ∃ z, z = ((k - 1 : Nat) : Int) := ⟨_, rfl⟩
    have hK1e : (k : Int) - 1 = K1 := by omega
    have HK1 := Lib.hid hK1
    obtain ⟨KM, hKM⟩ : ∃ z, z = ((k * (k - 1) : Nat) : Int) := ⟨_, rfl⟩
    have hKMe : (k : Int) * K1 = KM := by rw [hKM, hK1]; simp
    have hq2 : k * (k - 1) ≤ 9 := by have h := Nat.mul_le_mul hk3 (show k - 1 ≤ 3 by omega); omega
    obtain ⟨A2, hA2⟩ : ∃ z, z = pS ^ (k * (k - 1)) := ⟨_, rfl⟩
    obtain ⟨B2, hB2⟩ : ∃ z, z = pS ^ k := ⟨_, rfl⟩
    have hA2b := pow_13 (n := k * (k - 1)) (isSp_iff.1 HI.out).prime hq2
    have hB2b := pow_13 (n := k) (isSp_iff.1 HI.out).prime (by omega)
    rw [← hA2] at hA2b
    rw [← hB2] at hB2b
    have HA2 := Lib.hid hA2
    have HB2E := Lib.hid hB2
    have HKM := Lib.hid hKM
    have HQ2 := Lib.hid hq2
    have Xek1 : Hid (wrap64 ((k : Int) - 1) = K1) := (show wrap64 ((k : Int) - 1) = (k : Int) - 1 by unfold wrap64; omega).trans hK1e
    have Xek1' : Hid (IntKind.i64.wrap ((k : Int) - 1) = K1) := (IntWalk.i64_in _ (by omega)).trans hK1e
    have Xekm : Hid (wrap64 ((k : Int) * K1) = KM) := (show wrap64 ((k : Int) * K1) = (k : Int) * K1 by rw [hKMe, hKM]; unfold wrap64; omega).trans hKMe
    have Xekm' : Hid (IntKind.i64.wrap ((k : Int) * K1) = KM) := (show IntKind.i64.wrap ((k : Int) * K1) = (k : Int) * K1 by rw [hKMe, hKM]; exact IntWalk.i64_in _ (by omega)).trans hKMe
    obtain ⟨A3, hA3⟩ : ∃ z, z = 2 * A2 := ⟨_, rfl⟩
    have Xe5 : Hid (wrap64 (2 * A2) = A3) := (show wrap64 (2 * A2) = 2 * A2 by unfold wrap64; omega).trans hA3.symm
    have Xe5' : Hid (IntKind.i64.wrap (2 * A2) = A3) := (IntWalk.i64_in _ (by omega)).trans hA3.symm
    have Xe6 : Hid (wrap64 (2 * A) = 2 * A) := by show _ = _; unfold wrap64; omega
    have Xe6' : Hid (IntKind.i64.wrap (2 * A) = 2 * A) := IntWalk.i64_in _ (by omega)
    obtain ⟨N, hN⟩ : ∃ z, z = wittN pS S := ⟨_, rfl⟩
    have HNE := Lib.hid hN
    have hw2 := witt_two (p := pS) ho
    rw [← hN, hkI] at hw2
    by_cases hwk : N = (k : Int)
    · have hwe : (N == (k : Int)) = true := by simpa using hwk
      obtain ⟨C0, hC0⟩ : ∃ z, z = A3 * (B2 - 1) := ⟨_, rfl⟩
      have hsg : sgn8 pS S = 1 := by unfold sgn8; rw [hkI, ← hN, if_pos hwk]
      have hse : B2 - 1 = B2 - 1 := by omega
      have HCN : Hid (∀ j, j ≤ 2 → 0 ≤ cnP pS C0 j ∧ cnP pS C0 j ≤ 1000000000000000000) := fun j hj => by rw [hC0, hse, hA3, hA2, hB2]; exact cn_even (isSp_iff.1 HI.out).prime hk3 hj (by decide)
      have HV : Hid (cnN pS S = cnP pS C0 (k - 1)) := by show _ = _; unfold cnN; rw [if_neg ho, ← hk, hC0, hse, hA3, hA2, hB2, hsg]
      have hc0 := HCN.out 0 (by omega)
      have hc0' : 0 ≤ C0 ∧ C0 ≤ 1000000000000000000 := hc0
      have Xe7 : Hid (wrap64 (B2 - 1) = B2 - 1) := by show _ = _; unfold wrap64; omega
      have Xe7' : Hid (IntKind.i64.wrap (B2 - 1) = B2 - 1) := IntWalk.i64_in _ (by omega)
      have Xe8 : Hid (wrap64 (A3 * (B2 - 1)) = C0) := (show wrap64 (A3 * (B2 - 1)) = A3 * (B2 - 1) by rw [← hC0]; unfold wrap64; omega).trans hC0.symm
      have Xe8' : Hid (IntKind.i64.wrap (A3 * (B2 - 1)) = C0) := (show IntKind.i64.wrap (A3 * (B2 - 1)) = A3 * (B2 - 1) by rw [← hC0]; exact IntWalk.i64_in _ (by omega)).trans hC0.symm
      clear hA hA2 hB2 hA3 hC0 ho hN hw2 hsg hse hwk hc0 hc0' hK1e hKMe hKM hK1 hk
      have ekm := Xekm.out; have ekm' := Xekm'.out; have ek1 := Xek1.out; have ek1' := Xek1'.out; have e5 := Xe5.out; have e5' := Xe5'.out; have e7 := Xe7.out; have e7' := Xe7'.out; have e8 := Xe8.out; have e8' := Xe8'.out
      go_enter Try.func67, Try.ntmps67
      go_upto_region 1 with fail
      obtain ⟨w1, hw1⟩ : ∃ z, z = w.alloc (.cells #[.int .i64 pS, .slice aS S.length cS] 30) := ⟨_, rfl⟩
      rw [← hw1] at HB0 k0 k1 ⊢
      have hd1 : w.heap.size < w1.heap.size := by rw [hw1]; simp
      have HB1 := HB0
      clear hw1
      have SS1 := Lib.hid (And.intro k0 k1)
      clear hkI
      go_quiet (fail)
      obtain ⟨w2, hwq⟩ : ∃ z, z = w1.drewN nq := ⟨_, rfl⟩
      have q_ : Quiet w1 w2 := ⟨nq, hwq⟩
      have b_ := q_.below w1.heap.size
      rw [← hwq]
      clear hwq q_
      have SS2 := Lib.hid (ss2 b_ hd1 SS1.out)
      have HB2 := Lib.hid (below_step HB1.out HB1.out.size b_)
      have hd2 := Nat.lt_of_lt_of_le hd1 b_.size
      clear b_ k0 k1
      obtain ⟨k0, k1⟩ := SS2.out
      go_upto_region 3 with fail
      rw [HKI.out]
      go_wp2_with (first | (go_at_call 107; ((with_reducible refine (l03Witt_any pS aS S cS loS tpS w2 (HS.out.below HB2.out tS) (Nat.le_trans tS HB2.out.size) HI.out).mono ?_); rintro e w3 ⟨rfl, b_⟩; rw [← HNE.out]; have SS3 := Lib.hid (ss2 b_ hd2 SS2.out); have HB3 := Lib.hid (below_step HB2.out HB2.out.size b_); have hd3 := Nat.lt_of_lt_of_le hd2 b_.size; clear k0 k1; obtain ⟨k0, k1⟩ := SS3.out; clear b_)) | (go_at_call 106; ((with_reducible refine (l08Raise_any pS KM (k * (k - 1)) w3 (isSp_iff.1 HI.out).prime HKM.out HQ2.out).mono ?_); rintro e w4 ⟨rfl, b_⟩; rw [← HA2.out]; have SS4 := Lib.hid (ss2 b_ hd3 SS3.out); have HB4 := Lib.hid (below_step HB3.out HB3.out.size b_); have hd4 := Nat.lt_of_lt_of_le hd3 b_.size; clear k0 k1; obtain ⟨k0, k1⟩ := SS4.out; clear b_)) | (go_at_call 106; ((with_reducible refine (l08Raise_any pS (k : Int) (k) w4 (isSp_iff.1 HI.out).prime rfl (by omega)).mono ?_); rintro e w5 ⟨rfl, b_⟩; rw [← HB2E.out]; have SS5 := Lib.hid (ss2 b_ hd4 SS4.out); have HB5 := Lib.hid (below_step HB4.out HB4.out.size b_); have hd5 := Nat.lt_of_lt_of_le hd4 b_.size; clear k0 k1; obtain ⟨k0, k1⟩ := SS5.out; clear b_)))
      clear ekm ekm' ek1 ek1' e5 e5' e7 e7' e8 e8'
      go_loopw [6, 9] (fun u t wr => ∃ j : Nat, j ≤ (k - 1) ∧ t = .int .i64 ((j : Int) + 1) ∧ u = .int .i64 (cnP pS C0 j) ∧ Below w.heap.size w wr ∧ (wr.cell? ⟨w.heap.size, 0, none⟩ = some (.int .i64 pS) ∧ wr.cell? ⟨w.heap.size, 1, none⟩ = some (.slice aS S.length cS)) ∧ w.heap.size < wr.heap.size) (fun _ t _ => (k - 1) + 1 - (intOf t).toNat)
      case atStart => exact ⟨0, Nat.zero_le _, rfl, rfl, HB5.out, SS5.out, hd5⟩
      case round =>
        obtain ⟨j, hj, rfl, rfl, hbel, ⟨k0, k1⟩, hlw⟩ := hrel
        have HB := Lib.hid hbel
        have SSr := Lib.hid (And.intro k0 k1)
        by_cases hlt : j < (k - 1)
        · have hi1 : (j : Int) + 1 ≤ K1 := by have h := HK1.out; omega
          have hj2 : j ≤ 2 := by omega
          have hx0 := HCN.out j (by omega)
          have hx1 := HCN.out (j + 1) (by omega)
          have hB := pow_13 (n := 2 * (j + 1)) (isSp_iff.1 HI.out).prime (by omega)
          obtain ⟨X, hX⟩ : ∃ z, z = cnP pS C0 j := ⟨_, rfl⟩
          obtain ⟨Y, hY⟩ : ∃ z, z = cnP pS C0 (j + 1) := ⟨_, rfl⟩
          obtain ⟨B, hBe⟩ : ∃ z, z = pS ^ (2 * (j + 1)) := ⟨_, rfl⟩
          rw [← hX] at hx0 ⊢
          rw [← hY] at hx1
          rw [← hBe] at hB
          have HBE := Lib.hid hBe
          have HYE := Lib.hid hY
          have hXY : X * (B - 1) = Y := by rw [hX, hY, hBe]; rfl
          obtain ⟨Q, hQ⟩ : ∃ z, z = ((2 * (j + 1) : Nat) : Int) := ⟨_, rfl⟩
          have hQe : 2 * ((j : Int) + 1) = Q := by rw [hQ]; omega
          have HQQ := Lib.hid hQ
          have Xe1 : Hid (wrap64 (2 * ((j : Int) + 1)) = Q) := (show wrap64 (2 * ((j : Int) + 1)) = 2 * ((j : Int) + 1) by unfold wrap64; omega).trans hQe
          have Xe1' : Hid (IntKind.i64.wrap (2 * ((j : Int) + 1)) = Q) := (IntWalk.i64_in _ (by omega)).trans hQe
          have Xe2 : Hid (wrap64 (B - 1) = B - 1) := by show _ = _; unfold wrap64; omega
          have Xe2' : Hid (IntKind.i64.wrap (B - 1) = B - 1) := IntWalk.i64_in _ (by omega)
          have Xe3 : Hid (wrap64 (X * (B - 1)) = Y) := (show wrap64 (X * (B - 1)) = X * (B - 1) by rw [hXY]; unfold wrap64; omega).trans hXY
          have Xe3' : Hid (IntKind.i64.wrap (X * (B - 1)) = Y) := (show IntKind.i64.wrap (X * (B - 1)) = X * (B - 1) by rw [hXY]; exact IntWalk.i64_in _ (by omega)).trans hXY
          have HJ9 : Hid (2 * (j + 1) ≤ 9) := by show _ ≤ _; omega
          have hjs : j + 1 ≤ (k - 1) := by omega
          clear hX hY hBe hXY hQ hQe hbel hx0 hx1 hB
          have e1 := Xe1.out; have e1' := Xe1'.out; have e2 := Xe2.out; have e2' := Xe2'.out; have e3 := Xe3.out; have e3' := Xe3'.out
          go_wp2_with (go_at_call 106; ((with_reducible refine (l08Raise_any pS Q (2 * (j + 1)) wr (isSp_iff.1 HI.out).prime HQQ.out HJ9.out).mono ?_); rintro e wz ⟨rfl, b_⟩; rw [← HBE.out]; have SSz := Lib.hid (ss2 b_ hlw SSr.out); have HBz := Lib.hid (below_step HB.out HB.out.size b_); have hlz := Nat.lt_of_lt_of_le hlw b_.size; clear b_))
          clear e1 e1' e2 e2' e3 e3'
          go_roundw
          case rel => exact ⟨j + 1, hjs, by go_num, by rw [HYE.out], HBz.out, SSz.out, hlz⟩
          case measure => simp [intOf]; omega
        · have hi1 : ¬ (j : Int) + 1 ≤ K1 := by have h := HK1.out; omega
          have hjn : j = (k - 1) := by omega
          subst hjn
          have HV2 := Lib.hid HV.out
          clear hbel
          go_wp2
          go_ret
          exact ⟨by rw [HV2.out]; rfl, HB.out⟩
    · have hwe : (N == (k : Int)) = false := by simpa using hwk
      obtain ⟨C0, hC0⟩ : ∃ z, z = A3 * (B2 + 1) := ⟨_, rfl⟩
      have hsg : sgn8 pS S = (-1) := by unfold sgn8; rw [hkI, ← hN, if_neg hwk]
      have hse : B2 + 1 = B2 - (-1) := by omega
      have HCN : Hid (∀ j, j ≤ 2 → 0 ≤ cnP pS C0 j ∧ cnP pS C0 j ≤ 1000000000000000000) := fun j hj => by rw [hC0, hse, hA3, hA2, hB2]; exact cn_even (isSp_iff.1 HI.out).prime hk3 hj (by decide)
      have HV : Hid (cnN pS S = cnP pS C0 (k - 1)) := by show _ = _; unfold cnN; rw [if_neg ho, ← hk, hC0, hse, hA3, hA2, hB2, hsg]
      have hc0 := HCN.out 0 (by omega)
      have hc0' : 0 ≤ C0 ∧ C0 ≤ 1000000000000000000 := hc0
      have Xe7 : Hid (wrap64 (B2 + 1) = B2 + 1) := by show _ = _; unfold wrap64; omega
      have Xe7' : Hid (IntKind.i64.wrap (B2 + 1) = B2 + 1) := IntWalk.i64_in _ (by omega)
      have Xe8 : Hid (wrap64 (A3 * (B2 + 1)) = C0) := (show wrap64 (A3 * (B2 + 1)) = A3 * (B2 + 1) by rw [← hC0]; unfold wrap64; omega).trans hC0.symm
      have Xe8' : Hid (IntKind.i64.wrap (A3 * (B2 + 1)) = C0) := (show IntKind.i64.wrap (A3 * (B2 + 1)) = A3 * (B2 + 1) by rw [← hC0]; exact IntWalk.i64_in _ (by omega)).trans hC0.symm
      clear hA hA2 hB2 hA3 hC0 ho hN hw2 hsg hse hwk hc0 hc0' hK1e hKMe hKM hK1 hk
      have ekm := Xekm.out; have ekm' := Xekm'.out; have ek1 := Xek1.out; have ek1' := Xek1'.out; have e5 := Xe5.out; have e5' := Xe5'.out; have e7 := Xe7.out; have e7' := Xe7'.out; have e8 := Xe8.out; have e8' := Xe8'.out
      go_enter Try.func67, Try.ntmps67
      go_upto_region 1 with fail
      obtain ⟨w1, hw1⟩ : ∃ z, z = w.alloc (.cells #[.int .i64 pS, .slice aS S.length cS] 30) := ⟨_, rfl⟩
      rw [← hw1] at HB0 k0 k1 ⊢
      have hd1 : w.heap.size < w1.heap.size := by rw [hw1]; simp
      have HB1 := HB0
      clear hw1
      have SS1 := Lib.hid (And.intro k0 k1)
      clear hkI
      go_quiet (fail)
      obtain ⟨w2, hwq⟩ : ∃ z, z = w1.drewN nq := ⟨_, rfl⟩
      have q_ : Quiet w1 w2 := ⟨nq, hwq⟩
      have b_ := q_.below w1.heap.size
      rw [← hwq]
      clear hwq q_
      have SS2 := Lib.hid (ss2 b_ hd1 SS1.out)
      have HB2 := Lib.hid (below_step HB1.out HB1.out.size b_)
      have hd2 := Nat.lt_of_lt_of_le hd1 b_.size
      clear b_ k0 k1
      obtain ⟨k0, k1⟩ := SS2.out
      go_upto_region 3 with fail
      rw [HKI.out]
      go_wp2_with (first | (go_at_call 107; ((with_reducible refine (l03Witt_any pS aS S cS loS tpS w2 (HS.out.below HB2.out tS) (Nat.le_trans tS HB2.out.size) HI.out).mono ?_); rintro e w3 ⟨rfl, b_⟩; rw [← HNE.out]; have SS3 := Lib.hid (ss2 b_ hd2 SS2.out); have HB3 := Lib.hid (below_step HB2.out HB2.out.size b_); have hd3 := Nat.lt_of_lt_of_le hd2 b_.size; clear k0 k1; obtain ⟨k0, k1⟩ := SS3.out; clear b_)) | (go_at_call 106; ((with_reducible refine (l08Raise_any pS KM (k * (k - 1)) w3 (isSp_iff.1 HI.out).prime HKM.out HQ2.out).mono ?_); rintro e w4 ⟨rfl, b_⟩; rw [← HA2.out]; have SS4 := Lib.hid (ss2 b_ hd3 SS3.out); have HB4 := Lib.hid (below_step HB3.out HB3.out.size b_); have hd4 := Nat.lt_of_lt_of_le hd3 b_.size; clear k0 k1; obtain ⟨k0, k1⟩ := SS4.out; clear b_)) | (go_at_call 106; ((with_reducible refine (l08Raise_any pS (k : Int) (k) w4 (isSp_iff.1 HI.out).prime rfl (by omega)).mono ?_); rintro e w5 ⟨rfl, b_⟩; rw [← HB2E.out]; have SS5 := Lib.hid (ss2 b_ hd4 SS4.out); have HB5 := Lib.hid (below_step HB4.out HB4.out.size b_); have hd5 := Nat.lt_of_lt_of_le hd4 b_.size; clear k0 k1; obtain ⟨k0, k1⟩ := SS5.out; clear b_)))
      clear ekm ekm' ek1 ek1' e5 e5' e7 e7' e8 e8'
      go_loopw [6, 9] (fun u t wr => ∃ j : Nat, j ≤ (k - 1) ∧ t = .int .i64 ((j : Int) + 1) ∧ u = .int .i64 (cnP pS C0 j) ∧ Below w.heap.size w wr ∧ (wr.cell? ⟨w.heap.size, 0, none⟩ = some (.int .i64 pS) ∧ wr.cell? ⟨w.heap.size, 1, none⟩ = some (.slice aS S.length cS)) ∧ w.heap.size < wr.heap.size) (fun _ t _ => (k - 1) + 1 - (intOf t).toNat)
      case atStart => exact ⟨0, Nat.zero_le _, rfl, rfl, HB5.out, SS5.out, hd5⟩
      case round =>
        obtain ⟨j, hj, rfl, rfl, hbel, ⟨k0, k1⟩, hlw⟩ := hrel
        have HB := Lib.hid hbel
        have SSr := Lib.hid (And.intro k0 k1)
        by_cases hlt : j < (k - 1)
        · have hi1 : (j : Int) + 1 ≤ K1 := by have h := HK1.out; omega
          have hj2 : j ≤ 2 := by omega
          have hx0 := HCN.out j (by omega)
          have hx1 := HCN.out (j + 1) (by omega)
          have hB := pow_13 (n := 2 * (j + 1)) (isSp_iff.1 HI.out).prime (by omega)
          obtain ⟨X, hX⟩ : ∃ z, z = cnP pS C0 j := ⟨_, rfl⟩
          obtain ⟨Y, hY⟩ : ∃ z, z = cnP pS C0 (j + 1) := ⟨_, rfl⟩
          obtain ⟨B, hBe⟩ : ∃ z, z = pS ^ (2 * (j + 1)) := ⟨_, rfl⟩
          rw [← hX] at hx0 ⊢
          rw [← hY] at hx1
          rw [← hBe] at hB
          have HBE := Lib.hid hBe
          have HYE := Lib.hid hY
          have hXY : X * (B - 1) = Y := by rw [hX, hY, hBe]; rfl
          obtain ⟨Q, hQ⟩ : ∃ z, z = ((2 * (j + 1) : Nat) : Int) := ⟨_, rfl⟩
          have hQe : 2 * ((j : Int) + 1) = Q := by rw [hQ]; omega
          have HQQ := Lib.hid hQ
          have Xe1 : Hid (wrap64 (2 * ((j : Int) + 1)) = Q) := (show wrap64 (2 * ((j : Int) + 1)) = 2 * ((j : Int) + 1) by unfold wrap64; omega).trans hQe
          have Xe1' : Hid (IntKind.i64.wrap (2 * ((j : Int) + 1)) = Q) := (IntWalk.i64_in _ (by omega)).trans hQe
          have Xe2 : Hid (wrap64 (B - 1) = B - 1) := by show _ = _; unfold wrap64; omega
          have Xe2' : Hid (IntKind.i64.wrap (B - 1) = B - 1) := IntWalk.i64_in _ (by omega)
          have Xe3 : Hid (wrap64 (X * (B - 1)) = Y) := (show wrap64 (X * (B - 1)) = X * (B - 1) by rw [hXY]; unfold wrap64; omega).trans hXY
          have Xe3' : Hid (IntKind.i64.wrap (X * (B - 1)) = Y) := (show IntKind.i64.wrap (X * (B - 1)) = X * (B - 1) by rw [hXY]; exact IntWalk.i64_in _ (by omega)).trans hXY
          have HJ9 : Hid (2 * (j + 1) ≤ 9) := by show _ ≤ _; omega
          have hjs : j + 1 ≤ (k - 1) := by omega
          clear hX hY hBe hXY hQ hQe hbel hx0 hx1 hB
          have e1 := Xe1.out; have e1' := Xe1'.out; have e2 := Xe2.out; have e2' := Xe2'.out; have e3 := Xe3.out; have e3' := Xe3'.out
          go_wp2_with (go_at_call 106; ((with_reducible refine (l08Raise_any pS Q (2 * (j + 1)) wr (isSp_iff.1 HI.out).prime HQQ.out HJ9.out).mono ?_); rintro e wz ⟨rfl, b_⟩; rw [← HBE.out]; have SSz := Lib.hid (ss2 b_ hlw SSr.out); have HBz := Lib.hid (below_step HB.out HB.out.size b_); have hlz := Nat.lt_of_lt_of_le hlw b_.size; clear b_))
          clear e1 e1' e2 e2' e3 e3'
          go_roundw
          case rel => exact ⟨j + 1, hjs, by go_num, by rw [HYE.out], HBz.out, SSz.out, hlz⟩
          case measure => simp [intOf]; omega
        · have hi1 : ¬ (j : Int) + 1 ≤ K1 := by have h := HK1.out; omega
          have hjn : j = (k - 1) := by omega
          subst hjn
          have HV2 := Lib.hid HV.out
          clear hbel
          go_wp2
          go_ret
          exact ⟨by rw [HV2.out]; rfl, HB.out⟩

set_option maxRecDepth 100000 in
set_option maxHeartbeats 6400000 in
theorem countOrthogonal_any (pS : Int) (aS : Option Addr) (S : List Int) (cS loS tpS : Nat) (w : World) (hS : RowIn loS tpS w aS S) (tS : tpS ≤ w.heap.size) (hs : isSp pS S = true) :
    Calls Try.prog 68 #[.agg #[.int .i64 pS, .slice aS S.length cS]] w (fun e w' => e = .returned (.int .i64 (cnN pS S)) ∧ Below w.heap.size w w') := by
  have HS := Lib.hid hS
  have k0 := nw0 w (.int .i64 pS) (.slice aS S.length cS) 30
  have k1 := nw1 w (.int .i64 pS) (.slice aS S.length cS) 30
  have HB0 := Lib.hid (below_alloc w (.cells #[.int .i64 pS, .slice aS S.length cS] 30))
  clear hS
  have HI := Lib.hid hs
  have h6 := (isSp_iff.1 HI.out).hi
  have hl1 := (isSp_iff.1 HI.out).lo
  have hpb := prm_bd (isSp_iff.1 HI.out).prime
  obtain ⟨k, hk⟩ : ∃ k, k = S.length / 2 := ⟨_, rfl⟩
  have hkI : (S.length : Int) / 2 = (k : Int) := by omega
  have HKI : Hid ((S.length : Int) / 2 = (k : Int)) := hkI
  obtain ⟨KK, hKK⟩ : ∃ z, z = ((k * k : Nat) : Int) := ⟨_, rfl⟩
  have hk3 : k ≤ 3 := by omega
  have hq : k * k ≤ 9 := by have h := Nat.mul_le_mul hk3 hk3; omega
  have hKe : (k : Int) * (k : Int) = KK := by rw [hKK]; simp
  obtain ⟨A, hA⟩ : ∃ z, z = pS ^ (k * k) := ⟨_, rfl⟩
  have hAb := pow_13 (n := k * k) (isSp_iff.1 HI.out).prime hq
  rw [← hA] at hAb
  have HAE := Lib.hid hA
  have HKK := Lib.hid hKK
  have HQ := Lib.hid hq
  have Xekk : Hid (wrap64 ((k : Int) * (k : Int)) = KK) := (show wrap64 ((k : Int) * (k : Int)) = (k : Int) * (k : Int) by rw [hKe, hKK]; unfold wrap64; omega).trans hKe
  have Xekk' : Hid (IntKind.i64.wrap ((k : Int) * (k : Int)) = KK) := (show IntKind.i64.wrap ((k : Int) * (k : Int)) = (k : Int) * (k : Int) by rw [hKe, hKK]; exact IntWalk.i64_in _ (by omega)).trans hKe
  clear hs hKK hKe
  by_cases ho : (S.length : Int) % 2 = 1
  · have e0 : ((S.length : Int) % 2 == 0) = false := by simp; omega
    have hk2 : k ≤ 2 := by omega
    obtain ⟨C0, hC0⟩ : ∃ z, z = 2 * A := ⟨_, rfl⟩
    have HCN : Hid (∀ j, j ≤ 2 → 0 ≤ cnP pS C0 j ∧ cnP pS C0 j ≤ 1000000000000000000) := fun j hj => by rw [hC0, hA]; exact cn_odd (isSp_iff.1 HI.out).prime hk2 hj
    have HV : Hid (cnN pS S = cnP pS C0 k) := by show _ = _; unfold cnN; rw [if_pos ho, ← hk, hC0, hA]
    have Xe4 : Hid (wrap64 (2 * A) = C0) := (show wrap64 (2 * A) = 2 * A by unfold wrap64; omega).trans hC0.symm
    have Xe4' : Hid (IntKind.i64.wrap (2 * A) = C0) := (IntWalk.i64_in _ (by omega)).trans hC0.symm
    clear hA hC0 ho hk
    have ekk := Xekk.out; have ekk' := Xekk'.out; have e4 := Xe4.out; have e4' := Xe4'.out
    go_enter Try.func68, Try.ntmps68
    go_upto_region 1 with fail
    obtain ⟨w1, hw1⟩ : ∃ z, z = w.alloc (.cells #[.int .i64 pS, .slice aS S.length cS] 30) := ⟨_, rfl⟩
    rw [← hw1] at HB0 k0 k1 ⊢
    have hd1 : w.heap.size < w1.heap.size := by rw [hw1]; simp
    have HB1 := HB0
    clear hw1
    have SS1 := Lib.hid (And.intro k0 k1)
    clear hkI
    go_upto_region 2 with fail
    rw [HKI.out]
    go_wp2_with (go_at_call 108; ((with_reducible refine (wholePower_any pS KK (k * k) w1 (isSp_iff.1 HI.out).prime HKK.out HQ.out).mono ?_); rintro e w2 ⟨rfl, b_⟩; rw [← HAE.out]; have SS2 := Lib.hid (ss2 b_ hd1 SS1.out); have HB2 := Lib.hid (below_step HB1.out HB1.out.size b_); have hd2 := Nat.lt_of_lt_of_le hd1 b_.size; clear k0 k1; obtain ⟨k0, k1⟩ := SS2.out; clear b_))
    clear ekk ekk' e4 e4'
    go_loopw [4, 7] (fun u t wr => ∃ j : Nat, j ≤ k ∧ t = .int .i64 ((j : Int) + 1) ∧ u = .int .i64 (cnP pS C0 j) ∧ Below w.heap.size w wr ∧ (wr.cell? ⟨w.heap.size, 0, none⟩ = some (.int .i64 pS) ∧ wr.cell? ⟨w.heap.size, 1, none⟩ = some (.slice aS S.length cS)) ∧ w.heap.size < wr.heap.size) (fun _ t _ => k + 1 - (intOf t).toNat)
    case atStart => exact ⟨0, Nat.zero_le _, rfl, rfl, HB2.out, SS2.out, hd2⟩
    case round =>
      obtain ⟨j, hj, rfl, rfl, hbel, ⟨k0, k1⟩, hlw⟩ := hrel
      have HB := Lib.hid hbel
      have SSr := Lib.hid (And.intro k0 k1)
      by_cases hlt : j < k
      · have hi1 : (j : Int) + 1 ≤ (k : Int) := by omega
        have hj2 : j ≤ 2 := by omega
        have hx0 := HCN.out j (by omega)
        have hx1 := HCN.out (j + 1) (by omega)
        have hB := pow_13 (n := 2 * (j + 1)) (isSp_iff.1 HI.out).prime (by omega)
        obtain ⟨X, hX⟩ : ∃ z, z = cnP pS C0 j := ⟨_, rfl⟩
        obtain ⟨Y, hY⟩ : ∃ z, z = cnP pS C0 (j + 1) := ⟨_, rfl⟩
        obtain ⟨B, hBe⟩ : ∃ z, z = pS ^ (2 * (j + 1)) := ⟨_, rfl⟩
        rw [← hX] at hx0 ⊢
        rw [← hY] at hx1
        rw [← hBe] at hB
        have HBE := Lib.hid hBe
        have HYE := Lib.hid hY
        have hXY : X * (B - 1) = Y := by rw [hX, hY, hBe]; rfl
        obtain ⟨Q, hQ⟩ : ∃ z, z = ((2 * (j + 1) : Nat) : Int) := ⟨_, rfl⟩
        have hQe : 2 * ((j : Int) + 1) = Q := by rw [hQ]; omega
        have HQQ := Lib.hid hQ
        have Xe1 : Hid (wrap64 (2 * ((j : Int) + 1)) = Q) := (show wrap64 (2 * ((j : Int) + 1)) = 2 * ((j : Int) + 1) by unfold wrap64; omega).trans hQe
        have Xe1' : Hid (IntKind.i64.wrap (2 * ((j : Int) + 1)) = Q) := (IntWalk.i64_in _ (by omega)).trans hQe
        have Xe2 : Hid (wrap64 (B - 1) = B - 1) := by show _ = _; unfold wrap64; omega
        have Xe2' : Hid (IntKind.i64.wrap (B - 1) = B - 1) := IntWalk.i64_in _ (by omega)
        have Xe3 : Hid (wrap64 (X * (B - 1)) = Y) := (show wrap64 (X * (B - 1)) = X * (B - 1) by rw [hXY]; unfold wrap64; omega).trans hXY
        have Xe3' : Hid (IntKind.i64.wrap (X * (B - 1)) = Y) := (show IntKind.i64.wrap (X * (B - 1)) = X * (B - 1) by rw [hXY]; exact IntWalk.i64_in _ (by omega)).trans hXY
        have HJ9 : Hid (2 * (j + 1) ≤ 9) := by show _ ≤ _; omega
        have hjs : j + 1 ≤ k := by omega
        clear hX hY hBe hXY hQ hQe hbel hx0 hx1 hB
        have e1 := Xe1.out; have e1' := Xe1'.out; have e2 := Xe2.out; have e2' := Xe2'.out; have e3 := Xe3.out; have e3' := Xe3'.out
        go_wp2_with (go_at_call 108; ((with_reducible refine (wholePower_any pS Q (2 * (j + 1)) wr (isSp_iff.1 HI.out).prime HQQ.out HJ9.out).mono ?_); rintro e wz ⟨rfl, b_⟩; rw [← HBE.out]; have SSz := Lib.hid (ss2 b_ hlw SSr.out); have HBz := Lib.hid (below_step HB.out HB.out.size b_); have hlz := Nat.lt_of_lt_of_le hlw b_.size; clear b_))
        clear e1 e1' e2 e2' e3 e3'
        go_roundw
        case rel => exact ⟨j + 1, hjs, by go_num, by rw [HYE.out], HBz.out, SSz.out, hlz⟩
        case measure => simp [intOf]; omega
      · have hi1 : ¬ (j : Int) + 1 ≤ (k : Int) := by omega
        have hjn : j = k := by omega
        subst hjn
        have HV2 := Lib.hid HV.out
        clear hbel
        go_wp2
        go_ret
        exact ⟨by rw [HV2.out]; rfl, HB.out⟩
  · have e0 : ((S.length : Int) % 2 == 0) = true := by simp; omega
    have hk1 : 1 ≤ k := by omega
    obtain ⟨K1, hK1⟩ : ∃ z, z = ((k - 1 : Nat) : Int) := ⟨_, rfl⟩
    have hK1e : (k : Int) - 1 = K1 := by omega
    have HK1 := Lib.hid hK1
    obtain ⟨KM, hKM⟩ : ∃ z, z = ((k * (k - 1) : Nat) : Int) := ⟨_, rfl⟩
    have hKMe : (k : Int) * K1 = KM := by rw [hKM, hK1]; simp
    have hq2 : k * (k - 1) ≤ 9 := by have h := Nat.mul_le_mul hk3 (show k - 1 ≤ 3 by omega); omega
    obtain ⟨A2, hA2⟩ : ∃ z, z = pS ^ (k * (k - 1)) := ⟨_, rfl⟩
    obtain ⟨B2, hB2⟩ : ∃ z, z = pS ^ k := ⟨_, rfl⟩
    have hA2b := pow_13 (n := k * (k - 1)) (isSp_iff.1 HI.out).prime hq2
    have hB2b := pow_13 (n := k) (isSp_iff.1 HI.out).prime (by omega)
    rw [← hA2] at hA2b
    rw [← hB2] at hB2b
    have HA2 := Lib.hid hA2
    have HB2E := Lib.hid hB2
    have HKM := Lib.hid hKM
    have HQ2 := Lib.hid hq2
    have Xek1 : Hid (wrap64 ((k : Int) - 1) = K1) := (show wrap64 ((k : Int) - 1) = (k : Int) - 1 by unfold wrap64; omega).trans hK1e
    have Xek1' : Hid (IntKind.i64.wrap ((k : Int) - 1) = K1) := (IntWalk.i64_in _ (by omega)).trans hK1e
    have Xekm : Hid (wrap64 ((k : Int) * K1) = KM) := (show wrap64 ((k : Int) * K1) = (k : Int) * K1 by rw [hKMe, hKM]; unfold wrap64; omega).trans hKMe
    have Xekm' : Hid (IntKind.i64.wrap ((k : Int) * K1) = KM) := (show IntKind.i64.wrap ((k : Int) * K1) = (k : Int) * K1 by rw [hKMe, hKM]; exact IntWalk.i64_in _ (by omega)).trans hKMe
    obtain ⟨A3, hA3⟩ : ∃ z, z = 2 * A2 := ⟨_, rfl⟩
    have Xe5 : Hid (wrap64 (2 * A2) = A3) := (show wrap64 (2 * A2) = 2 * A2 by unfold wrap64; omega).trans hA3.symm
    have Xe5' : Hid (IntKind.i64.wrap (2 * A2) = A3) := (IntWalk.i64_in _ (by omega)).trans hA3.symm
    have Xe6 : Hid (wrap64 (2 * A) = 2 * A) := by show _ = _; unfold wrap64; omega
    have Xe6' : Hid (IntKind.i64.wrap (2 * A) = 2 * A) := IntWalk.i64_in _ (by omega)
    obtain ⟨N, hN⟩ : ∃ z, z = wittN pS S := ⟨_, rfl⟩
    have HNE := Lib.hid hN
    have hw2 := witt_two (p := pS) ho
    rw [← hN, hkI] at hw2
    by_cases hwk : N = (k : Int)
    · have hwe : ¬ N < (k : Int) := by omega
      obtain ⟨C0, hC0⟩ : ∃ z, z = A3 * (B2 - 1) := ⟨_, rfl⟩
      have hsg : sgn8 pS S = 1 := by unfold sgn8; rw [hkI, ← hN, if_pos hwk]
      have hse : B2 - 1 = B2 - 1 := by omega
      have HCN : Hid (∀ j, j ≤ 2 → 0 ≤ cnP pS C0 j ∧ cnP pS C0 j ≤ 1000000000000000000) := fun j hj => by rw [hC0, hse, hA3, hA2, hB2]; exact cn_even (isSp_iff.1 HI.out).prime hk3 hj (by decide)
      have HV : Hid (cnN pS S = cnP pS C0 (k - 1)) := by show _ = _; unfold cnN; rw [if_neg ho, ← hk, hC0, hse, hA3, hA2, hB2, hsg]
      have hc0 := HCN.out 0 (by omega)
      have hc0' : 0 ≤ C0 ∧ C0 ≤ 1000000000000000000 := hc0
      have Xe7 : Hid (wrap64 (B2 - 1) = B2 - 1) := by show _ = _; unfold wrap64; omega
      have Xe7' : Hid (IntKind.i64.wrap (B2 - 1) = B2 - 1) := IntWalk.i64_in _ (by omega)
      have Xe8 : Hid (wrap64 (A3 * (B2 - 1)) = C0) := (show wrap64 (A3 * (B2 - 1)) = A3 * (B2 - 1) by rw [← hC0]; unfold wrap64; omega).trans hC0.symm
      have Xe8' : Hid (IntKind.i64.wrap (A3 * (B2 - 1)) = C0) := (show IntKind.i64.wrap (A3 * (B2 - 1)) = A3 * (B2 - 1) by rw [← hC0]; exact IntWalk.i64_in _ (by omega)).trans hC0.symm
      clear hA hA2 hB2 hA3 hC0 ho hN hw2 hsg hse hwk hc0 hc0' hK1e hKMe hKM hK1 hk
      have ekk := Xekk.out; have ekk' := Xekk'.out; have e6 := Xe6.out; have e6' := Xe6'.out; have ekm := Xekm.out; have ekm' := Xekm'.out; have ek1 := Xek1.out; have ek1' := Xek1'.out; have e5 := Xe5.out; have e5' := Xe5'.out; have e7 := Xe7.out; have e7' := Xe7'.out; have e8 := Xe8.out; have e8' := Xe8'.out
      go_enter Try.func68, Try.ntmps68
      go_upto_region 1 with fail
      obtain ⟨w1, hw1⟩ : ∃ z, z = w.alloc (.cells #[.int .i64 pS, .slice aS S.length cS] 30) := ⟨_, rfl⟩
      rw [← hw1] at HB0 k0 k1 ⊢
      have hd1 : w.heap.size < w1.heap.size := by rw [hw1]; simp
      have HB1 := HB0
      clear hw1
      have SS1 := Lib.hid (And.intro k0 k1)
      clear hkI
      go_upto_region 2 with fail
      rw [HKI.out]
      go_upto_region 7 with (first | (go_at_call 108; ((with_reducible refine (wholePower_any pS KK (k * k) w1 (isSp_iff.1 HI.out).prime HKK.out HQ.out).mono ?_); rintro e w2 ⟨rfl, b_⟩; rw [← HAE.out]; have SS2 := Lib.hid (ss2 b_ hd1 SS1.out); have HB2 := Lib.hid (below_step HB1.out HB1.out.size b_); have hd2 := Nat.lt_of_lt_of_le hd1 b_.size; clear k0 k1; obtain ⟨k0, k1⟩ := SS2.out; clear b_)) | (go_at_call 109; ((with_reducible refine (wittIndex_any pS aS S cS loS tpS w2 (HS.out.below HB2.out tS) (Nat.le_trans tS HB2.out.size) HI.out).mono ?_); rintro e w3 ⟨rfl, b_⟩; rw [← HNE.out]; have SS3 := Lib.hid (ss2 b_ hd2 SS2.out); have HB3 := Lib.hid (below_step HB2.out HB2.out.size b_); have hd3 := Nat.lt_of_lt_of_le hd2 b_.size; clear k0 k1; obtain ⟨k0, k1⟩ := SS3.out; clear b_)))
      have hs1 : Hid (w3.drew.cell? ⟨w.heap.size, 0, none⟩ = some (.int .i64 pS) ∧ w3.drew.cell? ⟨w.heap.size, 1, none⟩ = some (.slice aS S.length cS)) := SS3.out
      have HBD : Hid (Below w.heap.size w w3.drew) := HB3.out.drew
      have hdd : w.heap.size < w3.drew.heap.size := hd3
      go_region_held3 (fun w' => w'.cell? ⟨w.heap.size, 0, none⟩ = some (.int .i64 pS) ∧ w'.cell? ⟨w.heap.size, 1, none⟩ = some (.slice aS S.length cS)) (first | exact hs1.out | exact SSa.out | exact SSab.out | go_keep) (first | (go_at_call 108; (with_reducible refine (wholePower_any pS KM (k * (k - 1)) w3.drew (isSp_iff.1 HI.out).prime HKM.out HQ2.out).mono ?_); rintro e wa ⟨rfl, b_⟩; rw [← HA2.out]; have SSa := Lib.hid (ss2 b_ hdd hs1.out); have HBa := Lib.hid (below_step HBD.out (Nat.le_of_lt hdd) b_); have zz_ := b_.size; have hda := Nat.lt_of_lt_of_le hdd zz_; clear b_) | (go_at_call 108; (with_reducible refine (wholePower_any pS (k : Int) k wa (isSp_iff.1 HI.out).prime rfl (by omega)).mono ?_); rintro e wab ⟨rfl, b_⟩; rw [← HB2E.out]; have SSab := Lib.hid (ss2 b_ hda SSa.out); have HBab := Lib.hid (below_step HBa.out (Nat.le_of_lt hda) b_); have zz_ := b_.size; have hdab := Nat.lt_of_lt_of_le hda zz_; clear b_))
      go_wp2
      clear ekk ekk' e6 e6' ekm ekm' ek1 ek1' e5 e5' e7 e7' e8 e8'
      go_loopw [4, 7] (fun u t wr => ∃ j : Nat, j ≤ (k - 1) ∧ t = .int .i64 ((j : Int) + 1) ∧ u = .int .i64 (cnP pS C0 j) ∧ Below w.heap.size w wr ∧ (wr.cell? ⟨w.heap.size, 0, none⟩ = some (.int .i64 pS) ∧ wr.cell? ⟨w.heap.size, 1, none⟩ = some (.slice aS S.length cS)) ∧ w.heap.size < wr.heap.size) (fun _ t _ => (k - 1) + 1 - (intOf t).toNat)
      case atStart => exact ⟨0, Nat.zero_le _, rfl, rfl, HBab.out, SSab.out, hdab⟩
      case round =>
        obtain ⟨j, hj, rfl, rfl, hbel, ⟨k0, k1⟩, hlw⟩ := hrel
        have HB := Lib.hid hbel
        have SSr := Lib.hid (And.intro k0 k1)
        by_cases hlt : j < (k - 1)
        · have hi1 : (j : Int) + 1 ≤ K1 := by have h := HK1.out; omega
          have hj2 : j ≤ 2 := by omega
          have hx0 := HCN.out j (by omega)
          have hx1 := HCN.out (j + 1) (by omega)
          have hB := pow_13 (n := 2 * (j + 1)) (isSp_iff.1 HI.out).prime (by omega)
          obtain ⟨X, hX⟩ : ∃ z, z = cnP pS C0 j := ⟨_, rfl⟩
          obtain ⟨Y, hY⟩ : ∃ z, z = cnP pS C0 (j + 1) := ⟨_, rfl⟩
          obtain ⟨B, hBe⟩ : ∃ z, z = pS ^ (2 * (j + 1)) := ⟨_, rfl⟩
          rw [← hX] at hx0 ⊢
          rw [← hY] at hx1
          rw [← hBe] at hB
          have HBE := Lib.hid hBe
          have HYE := Lib.hid hY
          have hXY : X * (B - 1) = Y := by rw [hX, hY, hBe]; rfl
          obtain ⟨Q, hQ⟩ : ∃ z, z = ((2 * (j + 1) : Nat) : Int) := ⟨_, rfl⟩
          have hQe : 2 * ((j : Int) + 1) = Q := by rw [hQ]; omega
          have HQQ := Lib.hid hQ
          have Xe1 : Hid (wrap64 (2 * ((j : Int) + 1)) = Q) := (show wrap64 (2 * ((j : Int) + 1)) = 2 * ((j : Int) + 1) by unfold wrap64; omega).trans hQe
          have Xe1' : Hid (IntKind.i64.wrap (2 * ((j : Int) + 1)) = Q) := (IntWalk.i64_in _ (by omega)).trans hQe
          have Xe2 : Hid (wrap64 (B - 1) = B - 1) := by show _ = _; unfold wrap64; omega
          have Xe2' : Hid (IntKind.i64.wrap (B - 1) = B - 1) := IntWalk.i64_in _ (by omega)
          have Xe3 : Hid (wrap64 (X * (B - 1)) = Y) := (show wrap64 (X * (B - 1)) = X * (B - 1) by rw [hXY]; unfold wrap64; omega).trans hXY
          have Xe3' : Hid (IntKind.i64.wrap (X * (B - 1)) = Y) := (show IntKind.i64.wrap (X * (B - 1)) = X * (B - 1) by rw [hXY]; exact IntWalk.i64_in _ (by omega)).trans hXY
          have HJ9 : Hid (2 * (j + 1) ≤ 9) := by show _ ≤ _; omega
          have hjs : j + 1 ≤ (k - 1) := by omega
          clear hX hY hBe hXY hQ hQe hbel hx0 hx1 hB
          have e1 := Xe1.out; have e1' := Xe1'.out; have e2 := Xe2.out; have e2' := Xe2'.out; have e3 := Xe3.out; have e3' := Xe3'.out
          go_wp2_with (go_at_call 108; ((with_reducible refine (wholePower_any pS Q (2 * (j + 1)) wr (isSp_iff.1 HI.out).prime HQQ.out HJ9.out).mono ?_); rintro e wz ⟨rfl, b_⟩; rw [← HBE.out]; have SSz := Lib.hid (ss2 b_ hlw SSr.out); have HBz := Lib.hid (below_step HB.out HB.out.size b_); have hlz := Nat.lt_of_lt_of_le hlw b_.size; clear b_))
          clear e1 e1' e2 e2' e3 e3'
          go_roundw
          case rel => exact ⟨j + 1, hjs, by go_num, by rw [HYE.out], HBz.out, SSz.out, hlz⟩
          case measure => simp [intOf]; omega
        · have hi1 : ¬ (j : Int) + 1 ≤ K1 := by have h := HK1.out; omega
          have hjn : j = (k - 1) := by omega
          subst hjn
          have HV2 := Lib.hid HV.out
          clear hbel
          go_wp2
          go_ret
          exact ⟨by rw [HV2.out]; rfl, HB.out⟩
    · have hwe : N < (k : Int) := by omega
      obtain ⟨C0, hC0⟩ : ∃ z, z = A3 * (B2 + 1) := ⟨_, rfl⟩
      have hsg : sgn8 pS S = (-1) := by unfold sgn8; rw [hkI, ← hN, if_neg hwk]
      have hse : B2 + 1 = B2 - (-1) := by omega
      have HCN : Hid (∀ j, j ≤ 2 → 0 ≤ cnP pS C0 j ∧ cnP pS C0 j ≤ 1000000000000000000) := fun j hj => by rw [hC0, hse, hA3, hA2, hB2]; exact cn_even (isSp_iff.1 HI.out).prime hk3 hj (by decide)
      have HV : Hid (cnN pS S = cnP pS C0 (k - 1)) := by show _ = _; unfold cnN; rw [if_neg ho, ← hk, hC0, hse, hA3, hA2, hB2, hsg]
      have hc0 := HCN.out 0 (by omega)
      have hc0' : 0 ≤ C0 ∧ C0 ≤ 1000000000000000000 := hc0
      have Xe7 : Hid (wrap64 (B2 + 1) = B2 + 1) := by show _ = _; unfold wrap64; omega
      have Xe7' : Hid (IntKind.i64.wrap (B2 + 1) = B2 + 1) := IntWalk.i64_in _ (by omega)
      have Xe8 : Hid (wrap64 (A3 * (B2 + 1)) = C0) := (show wrap64 (A3 * (B2 + 1)) = A3 * (B2 + 1) by rw [← hC0]; unfold wrap64; omega).trans hC0.symm
      have Xe8' : Hid (IntKind.i64.wrap (A3 * (B2 + 1)) = C0) := (show IntKind.i64.wrap (A3 * (B2 + 1)) = A3 * (B2 + 1) by rw [← hC0]; exact IntWalk.i64_in _ (by omega)).trans hC0.symm
      clear hA hA2 hB2 hA3 hC0 ho hN hw2 hsg hse hwk hc0 hc0' hK1e hKMe hKM hK1 hk
      have ekk := Xekk.out; have ekk' := Xekk'.out; have e6 := Xe6.out; have e6' := Xe6'.out; have ekm := Xekm.out; have ekm' := Xekm'.out; have ek1 := Xek1.out; have ek1' := Xek1'.out; have e5 := Xe5.out; have e5' := Xe5'.out; have e7 := Xe7.out; have e7' := Xe7'.out; have e8 := Xe8.out; have e8' := Xe8'.out
      go_enter Try.func68, Try.ntmps68
      go_upto_region 1 with fail
      obtain ⟨w1, hw1⟩ : ∃ z, z = w.alloc (.cells #[.int .i64 pS, .slice aS S.length cS] 30) := ⟨_, rfl⟩
      rw [← hw1] at HB0 k0 k1 ⊢
      have hd1 : w.heap.size < w1.heap.size := by rw [hw1]; simp
      have HB1 := HB0
      clear hw1
      have SS1 := Lib.hid (And.intro k0 k1)
      clear hkI
      go_upto_region 2 with fail
      rw [HKI.out]
      go_upto_region 7 with (first | (go_at_call 108; ((with_reducible refine (wholePower_any pS KK (k * k) w1 (isSp_iff.1 HI.out).prime HKK.out HQ.out).mono ?_); rintro e w2 ⟨rfl, b_⟩; rw [← HAE.out]; have SS2 := Lib.hid (ss2 b_ hd1 SS1.out); have HB2 := Lib.hid (below_step HB1.out HB1.out.size b_); have hd2 := Nat.lt_of_lt_of_le hd1 b_.size; clear k0 k1; obtain ⟨k0, k1⟩ := SS2.out; clear b_)) | (go_at_call 109; ((with_reducible refine (wittIndex_any pS aS S cS loS tpS w2 (HS.out.below HB2.out tS) (Nat.le_trans tS HB2.out.size) HI.out).mono ?_); rintro e w3 ⟨rfl, b_⟩; rw [← HNE.out]; have SS3 := Lib.hid (ss2 b_ hd2 SS2.out); have HB3 := Lib.hid (below_step HB2.out HB2.out.size b_); have hd3 := Nat.lt_of_lt_of_le hd2 b_.size; clear k0 k1; obtain ⟨k0, k1⟩ := SS3.out; clear b_)))
      have hs1 : Hid (w3.drew.cell? ⟨w.heap.size, 0, none⟩ = some (.int .i64 pS) ∧ w3.drew.cell? ⟨w.heap.size, 1, none⟩ = some (.slice aS S.length cS)) := SS3.out
      have HBD : Hid (Below w.heap.size w w3.drew) := HB3.out.drew
      have hdd : w.heap.size < w3.drew.heap.size := hd3
      go_region_held3 (fun w' => w'.cell? ⟨w.heap.size, 0, none⟩ = some (.int .i64 pS) ∧ w'.cell? ⟨w.heap.size, 1, none⟩ = some (.slice aS S.length cS)) (first | exact hs1.out | exact SSa.out | exact SSab.out | go_keep) (first | (go_at_call 108; (with_reducible refine (wholePower_any pS KM (k * (k - 1)) w3.drew (isSp_iff.1 HI.out).prime HKM.out HQ2.out).mono ?_); rintro e wa ⟨rfl, b_⟩; rw [← HA2.out]; have SSa := Lib.hid (ss2 b_ hdd hs1.out); have HBa := Lib.hid (below_step HBD.out (Nat.le_of_lt hdd) b_); have zz_ := b_.size; have hda := Nat.lt_of_lt_of_le hdd zz_; clear b_) | (go_at_call 108; (with_reducible refine (wholePower_any pS (k : Int) k wa (isSp_iff.1 HI.out).prime rfl (by omega)).mono ?_); rintro e wab ⟨rfl, b_⟩; rw [← HB2E.out]; have SSab := Lib.hid (ss2 b_ hda SSa.out); have HBab := Lib.hid (below_step HBa.out (Nat.le_of_lt hda) b_); have zz_ := b_.size; have hdab := Nat.lt_of_lt_of_le hda zz_; clear b_))
      go_wp2
      clear ekk ekk' e6 e6' ekm ekm' ek1 ek1' e5 e5' e7 e7' e8 e8'
      go_loopw [4, 7] (fun u t wr => ∃ j : Nat, j ≤ (k - 1) ∧ t = .int .i64 ((j : Int) + 1) ∧ u = .int .i64 (cnP pS C0 j) ∧ Below w.heap.size w wr ∧ (wr.cell? ⟨w.heap.size, 0, none⟩ = some (.int .i64 pS) ∧ wr.cell? ⟨w.heap.size, 1, none⟩ = some (.slice aS S.length cS)) ∧ w.heap.size < wr.heap.size) (fun _ t _ => (k - 1) + 1 - (intOf t).toNat)
      case atStart => exact ⟨0, Nat.zero_le _, rfl, rfl, HBab.out, SSab.out, hdab⟩
      case round =>
        obtain ⟨j, hj, rfl, rfl, hbel, ⟨k0, k1⟩, hlw⟩ := hrel
        have HB := Lib.hid hbel
        have SSr := Lib.hid (And.intro k0 k1)
        by_cases hlt : j < (k - 1)
        · have hi1 : (j : Int) + 1 ≤ K1 := by have h := HK1.out; omega
          have hj2 : j ≤ 2 := by omega
          have hx0 := HCN.out j (by omega)
          have hx1 := HCN.out (j + 1) (by omega)
          have hB := pow_13 (n := 2 * (j + 1)) (isSp_iff.1 HI.out).prime (by omega)
          obtain ⟨X, hX⟩ : ∃ z, z = cnP pS C0 j := ⟨_, rfl⟩
          obtain ⟨Y, hY⟩ : ∃ z, z = cnP pS C0 (j + 1) := ⟨_, rfl⟩
          obtain ⟨B, hBe⟩ : ∃ z, z = pS ^ (2 * (j + 1)) := ⟨_, rfl⟩
          rw [← hX] at hx0 ⊢
          rw [← hY] at hx1
          rw [← hBe] at hB
          have HBE := Lib.hid hBe
          have HYE := Lib.hid hY
          have hXY : X * (B - 1) = Y := by rw [hX, hY, hBe]; rfl
          obtain ⟨Q, hQ⟩ : ∃ z, z = ((2 * (j + 1) : Nat) : Int) := ⟨_, rfl⟩
          have hQe : 2 * ((j : Int) + 1) = Q := by rw [hQ]; omega
          have HQQ := Lib.hid hQ
          have Xe1 : Hid (wrap64 (2 * ((j : Int) + 1)) = Q) := (show wrap64 (2 * ((j : Int) + 1)) = 2 * ((j : Int) + 1) by unfold wrap64; omega).trans hQe
          have Xe1' : Hid (IntKind.i64.wrap (2 * ((j : Int) + 1)) = Q) := (IntWalk.i64_in _ (by omega)).trans hQe
          have Xe2 : Hid (wrap64 (B - 1) = B - 1) := by show _ = _; unfold wrap64; omega
          have Xe2' : Hid (IntKind.i64.wrap (B - 1) = B - 1) := IntWalk.i64_in _ (by omega)
          have Xe3 : Hid (wrap64 (X * (B - 1)) = Y) := (show wrap64 (X * (B - 1)) = X * (B - 1) by rw [hXY]; unfold wrap64; omega).trans hXY
          have Xe3' : Hid (IntKind.i64.wrap (X * (B - 1)) = Y) := (show IntKind.i64.wrap (X * (B - 1)) = X * (B - 1) by rw [hXY]; exact IntWalk.i64_in _ (by omega)).trans hXY
          have HJ9 : Hid (2 * (j + 1) ≤ 9) := by show _ ≤ _; omega
          have hjs : j + 1 ≤ (k - 1) := by omega
          clear hX hY hBe hXY hQ hQe hbel hx0 hx1 hB
          have e1 := Xe1.out; have e1' := Xe1'.out; have e2 := Xe2.out; have e2' := Xe2'.out; have e3 := Xe3.out; have e3' := Xe3'.out
          go_wp2_with (go_at_call 108; ((with_reducible refine (wholePower_any pS Q (2 * (j + 1)) wr (isSp_iff.1 HI.out).prime HQQ.out HJ9.out).mono ?_); rintro e wz ⟨rfl, b_⟩; rw [← HBE.out]; have SSz := Lib.hid (ss2 b_ hlw SSr.out); have HBz := Lib.hid (below_step HB.out HB.out.size b_); have hlz := Nat.lt_of_lt_of_le hlw b_.size; clear b_))
          clear e1 e1' e2 e2' e3 e3'
          go_roundw
          case rel => exact ⟨j + 1, hjs, by go_num, by rw [HYE.out], HBz.out, SSz.out, hlz⟩
          case measure => simp [intOf]; omega
        · have hi1 : ¬ (j : Int) + 1 ≤ K1 := by have h := HK1.out; omega
          have hjn : j = (k - 1) := by omega
          subst hjn
          have HV2 := Lib.hid HV.out
          clear hbel
          go_wp2
          go_ret
          exact ⟨by rw [HV2.out]; rfl, HB.out⟩

set_option maxRecDepth 100000 in
set_option maxHeartbeats 6400000 in
theorem impl_CountOrthogonal (pS : Int) (aS : Option Addr) (S : List Int) (cS loS tpS : Nat) (w : World) (hS : RowIn loS tpS w aS S) (tS : tpS ≤ w.heap.size) (sS : S.length ≤ 1048576) :
    Calls Try.prog 35 #[.agg #[.int .i64 pS, .slice aS S.length cS]] w (RetI (cnV pS S) (regC pS S []) w) := by
  have HS := Lib.hid hS
  have k0 := nw0 w (.int .i64 pS) (.slice aS S.length cS) 30
  have k1 := nw1 w (.int .i64 pS) (.slice aS S.length cS) 30
  have HB0 := Lib.hid (below_alloc w (.cells #[.int .i64 pS, .slice aS S.length cS] 30))
  clear hS
  by_cases h0 : regC pS S [] = 0
  · have HZ := Lib.hid h0
    have HI := Lib.hid (reg0 h0).1
    have HV : Hid (cnV pS S = cnN pS S) := cnV_yes h0
    clear h0
    go_enter Try.func35, Try.ntmps35
    go_upto_region 1 with fail
    obtain ⟨w1, hw1⟩ : ∃ z, z = w.alloc (.cells #[.int .i64 pS, .slice aS S.length cS] 30) := ⟨_, rfl⟩
    rw [← hw1] at HB0 k0 k1 ⊢
    have hd1 : w.heap.size < w1.heap.size := by rw [hw1]; simp
    have HB1 := HB0
    clear hw1
    have SS1 := Lib.hid (And.intro k0 k1)
    go_wp2_with (first | (go_at_call 49; ((with_reducible refine (checkR0 pS aS S cS loS tpS w1 (HS.out.below HB1.out tS) (Nat.le_trans tS HB1.out.size) sS).mono ?_); rintro e w2 ⟨rfl, b_⟩; rw [HZ.out]; have SS2 := Lib.hid (ss2 b_ hd1 SS1.out); have HB2 := Lib.hid (below_step HB1.out HB1.out.size b_); have hd2 := Nat.lt_of_lt_of_le hd1 b_.size; clear k0 k1; obtain ⟨k0, k1⟩ := SS2.out; clear b_)) | (go_at_call 68; ((with_reducible refine (countOrthogonal_any pS aS S cS loS tpS w2 (HS.out.below HB2.out tS) (Nat.le_trans tS HB2.out.size) HI.out).mono ?_); rintro e w3 ⟨rfl, b_⟩; have SS3 := Lib.hid (ss2 b_ hd2 SS2.out); have HB3 := Lib.hid (below_step HB2.out HB2.out.size b_); have hd3 := Nat.lt_of_lt_of_le hd2 b_.size; clear k0 k1; obtain ⟨k0, k1⟩ := SS3.out; clear b_)))
    go_ret2
    exact ⟨by rw [HV.out, HZ.out]; rfl, HB3.out⟩
  · have HV : Hid (cnV pS S = 0) := cnV_no h0
    obtain ⟨C, hC⟩ : ∃ c, c = regC pS S [] := ⟨_, rfl⟩
    have hc1 : (C != 0) = true := by rw [hC]; simpa using h0
    have hc2 : (C == 0) = false := by rw [hC]; simpa using h0
    have HCE := Lib.hid hC
    clear h0 hC
    go_enter Try.func35, Try.ntmps35
    go_upto_region 1 with fail
    obtain ⟨w1, hw1⟩ : ∃ z, z = w.alloc (.cells #[.int .i64 pS, .slice aS S.length cS] 30) := ⟨_, rfl⟩
    rw [← hw1] at HB0 k0 k1 ⊢
    have hd1 : w.heap.size < w1.heap.size := by rw [hw1]; simp
    have HB1 := HB0
    clear hw1
    have SS1 := Lib.hid (And.intro k0 k1)
    go_wp2_with (go_at_call 49; ((with_reducible refine (checkR0 pS aS S cS loS tpS w1 (HS.out.below HB1.out tS) (Nat.le_trans tS HB1.out.size) sS).mono ?_); rintro e w2 ⟨rfl, b_⟩; rw [← HCE.out]; have SS2 := Lib.hid (ss2 b_ hd1 SS1.out); have HB2 := Lib.hid (below_step HB1.out HB1.out.size b_); have hd2 := Nat.lt_of_lt_of_le hd1 b_.size; clear k0 k1; obtain ⟨k0, k1⟩ := SS2.out; clear b_))
    go_ret2
    exact ⟨by rw [HV.out, ← HCE.out]; rfl, HB2.out⟩

set_option maxRecDepth 100000 in
set_option maxHeartbeats 6400000 in
theorem spec_CountOrthogonal (pS : Int) (aS : Option Addr) (S : List Int) (cS loS tpS : Nat) (w : World) (hS : RowIn loS tpS w aS S) (tS : tpS ≤ w.heap.size) (sS : S.length ≤ 1048576) :
    Calls Try.prog 34 #[.agg #[.int .i64 pS, .slice aS S.length cS]] w (RetI (cnV pS S) (regC pS S []) w) := by
  have HS := Lib.hid hS
  have k0 := nw0 w (.int .i64 pS) (.slice aS S.length cS) 30
  have k1 := nw1 w (.int .i64 pS) (.slice aS S.length cS) 30
  have HB0 := Lib.hid (below_alloc w (.cells #[.int .i64 pS, .slice aS S.length cS] 30))
  clear hS
  rcases reg_cases pS S with ⟨hi, hc⟩ | ⟨hi, hd, hc⟩ | ⟨hi, hd, hc⟩
  · have HI := Lib.hid hi
    have HC := Lib.hid hc
    have HV : Hid (cnV pS S = 0) := cnV_no (by rw [hc]; decide)
    clear hi hc
    go_enter Try.func34, Try.ntmps34
    go_upto_region 1 with fail
    obtain ⟨w1, hw1⟩ : ∃ z, z = w.alloc (.cells #[.int .i64 pS, .slice aS S.length cS] 30) := ⟨_, rfl⟩
    rw [← hw1] at HB0 k0 k1 ⊢
    have hd1 : w.heap.size < w1.heap.size := by rw [hw1]; simp
    have HB1 := HB0
    clear hw1
    have SS1 := Lib.hid (And.intro k0 k1)
    go_wp2_with (go_at_call 46; ((with_reducible refine (l03Is_any pS aS S cS loS tpS w1 (HS.out.below HB1.out tS) (Nat.le_trans tS HB1.out.size) sS).mono ?_); rintro e w2 ⟨rfl, b_⟩; rw [HI.out]; have SS2 := Lib.hid (ss2 b_ hd1 SS1.out); have HB2 := Lib.hid (below_step HB1.out HB1.out.size b_); have hd2 := Nat.lt_of_lt_of_le hd1 b_.size; clear k0 k1; obtain ⟨k0, k1⟩ := SS2.out; clear b_))
    go_ret2
    exact ⟨by rw [HV.out, HC.out]; rfl, HB2.out⟩
  · have HI := Lib.hid hi
    have HC := Lib.hid hc
    obtain ⟨D, hD⟩ : ∃ d, d = discN pS S := ⟨_, rfl⟩
    have HDE := Lib.hid hD
    rw [← hD] at hd
    have hd1_ : (D == 0) = true := by simpa using hd
    have HV : Hid (cnV pS S = 0) := cnV_no (by rw [hc]; decide)
    clear hi hc hd hD
    go_enter Try.func34, Try.ntmps34
    go_upto_region 1 with fail
    obtain ⟨w1, hw1⟩ : ∃ z, z = w.alloc (.cells #[.int .i64 pS, .slice aS S.length cS] 30) := ⟨_, rfl⟩
    rw [← hw1] at HB0 k0 k1 ⊢
    have hd1 : w.heap.size < w1.heap.size := by rw [hw1]; simp
    have HB1 := HB0
    clear hw1
    have SS1 := Lib.hid (And.intro k0 k1)
    go_wp2_with (first | (go_at_call 46; ((with_reducible refine (l03Is_any pS aS S cS loS tpS w1 (HS.out.below HB1.out tS) (Nat.le_trans tS HB1.out.size) sS).mono ?_); rintro e w2 ⟨rfl, b_⟩; rw [HI.out]; have SS2 := Lib.hid (ss2 b_ hd1 SS1.out); have HB2 := Lib.hid (below_step HB1.out HB1.out.size b_); have hd2 := Nat.lt_of_lt_of_le hd1 b_.size; clear k0 k1; obtain ⟨k0, k1⟩ := SS2.out; clear b_)) | (go_at_call 47; ((with_reducible refine (l03Disc_any pS aS S cS loS tpS w2 (HS.out.below HB2.out tS) (Nat.le_trans tS HB2.out.size) HI.out).mono ?_); rintro e w3 ⟨rfl, b_⟩; rw [← HDE.out]; have SS3 := Lib.hid (ss2 b_ hd2 SS2.out); have HB3 := Lib.hid (below_step HB2.out HB2.out.size b_); have hd3 := Nat.lt_of_lt_of_le hd2 b_.size; clear k0 k1; obtain ⟨k0, k1⟩ := SS3.out; clear b_)))
    go_ret2
    exact ⟨by rw [HV.out, HC.out]; rfl, HB3.out⟩
  · have HI := Lib.hid hi
    have HC := Lib.hid hc
    obtain ⟨D, hD⟩ : ∃ d, d = discN pS S := ⟨_, rfl⟩
    have HDE := Lib.hid hD
    rw [← hD] at hd
    have hd1_ : (D == 0) = false := by simpa using hd
    have HV : Hid (cnV pS S = cnN pS S) := cnV_yes hc
    clear hi hc hd hD
    go_enter Try.func34, Try.ntmps34
    go_upto_region 1 with fail
    obtain ⟨w1, hw1⟩ : ∃ z, z = w.alloc (.cells #[.int .i64 pS, .slice aS S.length cS] 30) := ⟨_, rfl⟩
    rw [← hw1] at HB0 k0 k1 ⊢
    have hd1 : w.heap.size < w1.heap.size := by rw [hw1]; simp
    have HB1 := HB0
    clear hw1
    have SS1 := Lib.hid (And.intro k0 k1)
    go_wp2_with (first | (go_at_call 46; ((with_reducible refine (l03Is_any pS aS S cS loS tpS w1 (HS.out.below HB1.out tS) (Nat.le_trans tS HB1.out.size) sS).mono ?_); rintro e w2 ⟨rfl, b_⟩; rw [HI.out]; have SS2 := Lib.hid (ss2 b_ hd1 SS1.out); have HB2 := Lib.hid (below_step HB1.out HB1.out.size b_); have hd2 := Nat.lt_of_lt_of_le hd1 b_.size; clear k0 k1; obtain ⟨k0, k1⟩ := SS2.out; clear b_)) | (go_at_call 47; ((with_reducible refine (l03Disc_any pS aS S cS loS tpS w2 (HS.out.below HB2.out tS) (Nat.le_trans tS HB2.out.size) HI.out).mono ?_); rintro e w3 ⟨rfl, b_⟩; rw [← HDE.out]; have SS3 := Lib.hid (ss2 b_ hd2 SS2.out); have HB3 := Lib.hid (below_step HB2.out HB2.out.size b_); have hd3 := Nat.lt_of_lt_of_le hd2 b_.size; clear k0 k1; obtain ⟨k0, k1⟩ := SS3.out; clear b_)) | (go_at_call 67; ((with_reducible refine (l08Count_any pS aS S cS loS tpS w3 (HS.out.below HB3.out tS) (Nat.le_trans tS HB3.out.size) HI.out).mono ?_); rintro e w4 ⟨rfl, b_⟩; have SS4 := Lib.hid (ss2 b_ hd3 SS3.out); have HB4 := Lib.hid (below_step HB3.out HB3.out.size b_); have hd4 := Nat.lt_of_lt_of_le hd3 b_.size; clear k0 k1; obtain ⟨k0, k1⟩ := SS4.out; clear b_)))
    go_ret2
    exact ⟨by rw [HV.out, HC.out]; rfl, HB4.out⟩

end Go.Proofs.Ytigdepahbnidjaa
