/-
  Contracts and facts that the walk of the law rests on.
  Conditions: those that each theorem names.
-/
import Derived.Test.YtgfanoejohpmkaaGreatQp45
import Derived.Test.YtgfanoejohpmkaaGreatQp40
import Derived.Test.YtgfanoejohpmkaaGreatQp25
import Derived.Test.YtgfanoejohpmkaaGreatQp9
import Derived.Test.YtgfanoejohpmkaaGreatQp24
import Derived.Test.YtgfanoejohpmkaaGreatQp23
import Derived.Test.YtgfanoejohpmkaaGreatQp44
import Derived.Test.YtgfanoejohpmkaaGreatQp22
import Derived.Test.YtgfanoejohpmkaaGreatQp5
import Derived.Deep.RegionHeld3
import Derived.Deep.DeepCutAuto
import Derived.Test.YtgfanoejohpmkaaGreatQp11
import Derived.Test.YtgfanoejohpmkaaGreatQp15
import Derived.Test.YtgfanoejohpmkaaGreatQp33
namespace Go.Proofs.YtgfanoejohpmkaaGreat
open Go.RowKit
set_option linter.unusedVariables false
set_option maxRecDepth 100000 in
set_option maxHeartbeats 3200000 in
theorem spec_ProjectOnto (pS : Int) (aS : Option Addr) (S : List Int) (cS loS tpS : Nat) (ax : Option Addr) (x : List Int) (cx lox tpx : Nat) (av : Option Addr) (v : List Int) (cv lov tpv : Nat) (w : World) (hS : RowIn loS tpS w aS S) (tS : tpS ≤ w.heap.size) (sS : S.length ≤ 1048576) (hx : RowIn lox tpx w ax x) (tx : tpx ≤ w.heap.size) (sx : x.length ≤ 1048576) (hv : RowIn lov tpv w av v) (tv : tpv ≤ w.heap.size) (sv : v.length ≤ 1048576) :
 Calls Tryz.prog 37 #[.agg #[.int .i64 pS, .slice aS S.length cS], .slice ax x.length cx, .slice av v.length cv] w (SpecR (splPV pS S x v) (codeI pS S x v) w) := by
 have HS := Lib.hid hS
 have Hx := Lib.hid hx
 have Hv := Lib.hid hv
 clear hS hx hv
 by_cases hc : codeI pS S x v = 0
 · have hcb : codeBV pS S x v = 0 ∧ sqX pS S x ≠ 0 := by
    unfold codeI at hc
    by_cases h0 : codeBV pS S x v = 0
    · rw [if_pos h0] at hc
      refine ⟨h0, fun h => ?_⟩
      rw [if_pos h] at hc; cases hc
    · rw [if_neg h0] at hc; exact absurd hc h0
   have HC := Lib.hid hc
   have hb := codeB_one (codeBV_zero hcb.1).2
   have HI := Lib.hid hb.1
   have HMX := Lib.hid hb.2.1
   have hmv := codeVs_vec (codeBV_zero hcb.1).1
   have HMV := Lib.hid hmv
   have HLV := Lib.hid (isVec_iff.1 hmv).len
   have HSQ := Lib.hid hcb.2
   have hpb := prm_bd (isSp_iff.1 hb.1).prime
   have HP := Lib.hid (isSp_iff.1 hb.1).prime
   have HV : Hid (splPV pS S x v = mkR v.length (splPF pS S x v)) := by show _ = _; unfold splPV; rw [if_pos hc]
   have HPL : Hid ((prjM pS S x v).length = v.length) := prjM_len _ _ _ _
   have HPN : Hid (∀ j, j < (prjM pS S x v).length → 0 ≤ (prjM pS S x v).getD j 0 ∧ (prjM pS S x v).getD j 0 < pS) := fun j hj => by
    rw [prjM_len] at hj
    rw [show (prjM pS S x v).getD j 0 = prjF pS S x v j from mkR_at _ hj]
    exact prjF_bd (by omega) _ _ _ _
   have HVN : Hid (∀ j, j < v.length → 0 ≤ v.getD j 0 ∧ v.getD j 0 < pS) := fun j hj => (isVec_iff.1 HMV.out).num' (by rw [← HLV.out]; exact hj)
   have e1 : IntKind.i64.wrap (pS - 1) = pS - 1 := IntWalk.i64_in _ (by omega)
   have hk0 : 0 ≤ pS - 1 := by omega
   have hk1 : pS - 1 ≤ pS := by omega
   clear hc hcb hb hmv
   go_enter Tryz.func37, Tryz.ntmps37
   go_wp2_with (first | (go_at_call 129; (with_reducible refine (l06Invertible_any pS aS S cS loS tpS ax x cx lox tpx av v cv lov tpv _ (HS.out.below ((Below.refl _ _).alloc (Nat.le_refl _) (.cells #[.int .i64 pS, .slice aS S.length cS] 26)) tS) (Nat.le_trans tS (((Below.refl _ _).alloc (Nat.le_refl _) (.cells #[.int .i64 pS, .slice aS S.length cS] 26))).size) sS (Hx.out.below ((Below.refl _ _).alloc (Nat.le_refl _) (.cells #[.int .i64 pS, .slice aS S.length cS] 26)) tx) (Nat.le_trans tx (((Below.refl _ _).alloc (Nat.le_refl _) (.cells #[.int .i64 pS, .slice aS S.length cS] 26))).size) sx (Hv.out.below ((Below.refl _ _).alloc (Nat.le_refl _) (.cells #[.int .i64 pS, .slice aS S.length cS] 26)) tv) (Nat.le_trans tv (((Below.refl _ _).alloc (Nat.le_refl _) (.cells #[.int .i64 pS, .slice aS S.length cS] 26))).size) sv).mono ?_); rintro e w2 ⟨rfl, b2⟩; rw [HC.out]; have B2 := Lib.hid b2; have K2_0_0 := (b2.cell (p := ⟨w.heap.size, 0, none⟩) (Nat.lt_of_lt_of_le (show w.heap.size < (w.alloc (.cells #[.int .i64 pS, .slice aS S.length cS] 26)).heap.size by simp) (Nat.le_refl _))).trans (show (w.alloc (.cells #[.int .i64 pS, .slice aS S.length cS] 26)).cell? ⟨w.heap.size, 0, none⟩ = some (.int .i64 pS) by simp [go_sem]); have K2_0_1 := (b2.cell (p := ⟨w.heap.size, 1, none⟩) (Nat.lt_of_lt_of_le (show w.heap.size < (w.alloc (.cells #[.int .i64 pS, .slice aS S.length cS] 26)).heap.size by simp) (Nat.le_refl _))).trans (show (w.alloc (.cells #[.int .i64 pS, .slice aS S.length cS] 26)).cell? ⟨w.heap.size, 1, none⟩ = some (.slice aS S.length cS) by simp [go_sem]); clear b2) | (go_at_call 130; (with_reducible refine (l06Project_any pS aS S cS loS tpS ax x cx lox tpx av v cv lov tpv _ (HS.out.below (below_step ((Below.refl _ _).alloc (Nat.le_refl _) (.cells #[.int .i64 pS, .slice aS S.length cS] 26)) (show w.heap.size ≤ (w.alloc (.cells #[.int .i64 pS, .slice aS S.length cS] 26)).heap.size from (((Below.refl _ _).alloc (Nat.le_refl _) (.cells #[.int .i64 pS, .slice aS S.length cS] 26))).size) B2.out) tS) (Nat.le_trans tS ((below_step ((Below.refl _ _).alloc (Nat.le_refl _) (.cells #[.int .i64 pS, .slice aS S.length cS] 26)) (show w.heap.size ≤ (w.alloc (.cells #[.int .i64 pS, .slice aS S.length cS] 26)).heap.size from (((Below.refl _ _).alloc (Nat.le_refl _) (.cells #[.int .i64 pS, .slice aS S.length cS] 26))).size) B2.out)).size) (Hx.out.below (below_step ((Below.refl _ _).alloc (Nat.le_refl _) (.cells #[.int .i64 pS, .slice aS S.length cS] 26)) (show w.heap.size ≤ (w.alloc (.cells #[.int .i64 pS, .slice aS S.length cS] 26)).heap.size from (((Below.refl _ _).alloc (Nat.le_refl _) (.cells #[.int .i64 pS, .slice aS S.length cS] 26))).size) B2.out) tx) (Nat.le_trans tx ((below_step ((Below.refl _ _).alloc (Nat.le_refl _) (.cells #[.int .i64 pS, .slice aS S.length cS] 26)) (show w.heap.size ≤ (w.alloc (.cells #[.int .i64 pS, .slice aS S.length cS] 26)).heap.size from (((Below.refl _ _).alloc (Nat.le_refl _) (.cells #[.int .i64 pS, .slice aS S.length cS] 26))).size) B2.out)).size) (Hv.out.below (below_step ((Below.refl _ _).alloc (Nat.le_refl _) (.cells #[.int .i64 pS, .slice aS S.length cS] 26)) (show w.heap.size ≤ (w.alloc (.cells #[.int .i64 pS, .slice aS S.length cS] 26)).heap.size from (((Below.refl _ _).alloc (Nat.le_refl _) (.cells #[.int .i64 pS, .slice aS S.length cS] 26))).size) B2.out) tv) (Nat.le_trans tv ((below_step ((Below.refl _ _).alloc (Nat.le_refl _) (.cells #[.int .i64 pS, .slice aS S.length cS] 26)) (show w.heap.size ≤ (w.alloc (.cells #[.int .i64 pS, .slice aS S.length cS] 26)).heap.size from (((Below.refl _ _).alloc (Nat.le_refl _) (.cells #[.int .i64 pS, .slice aS S.length cS] 26))).size) B2.out)).size) HI.out HMX.out HMV.out HSQ.out).mono ?_); rintro e w3 ⟨r3, c3, rfl, o3, b3⟩; have B3 := Lib.hid b3; have K3_0_0 := (b3.cell (p := ⟨w.heap.size, 0, none⟩) (Nat.lt_of_lt_of_le (show w.heap.size < (w.alloc (.cells #[.int .i64 pS, .slice aS S.length cS] 26)).heap.size by simp) (Nat.le_trans (Nat.le_refl _) B2.out.size))).trans K2_0_0; clear K2_0_0; have K3_0_1 := (b3.cell (p := ⟨w.heap.size, 1, none⟩) (Nat.lt_of_lt_of_le (show w.heap.size < (w.alloc (.cells #[.int .i64 pS, .slice aS S.length cS] 26)).heap.size by simp) (Nat.le_trans (Nat.le_refl _) B2.out.size))).trans K2_0_1; clear K2_0_1; have O3 := Lib.hid o3; clear o3; clear b3))
   go_ret2
   rw [HV.out, HC.out]
   exact ⟨_, _, rfl, O3.out.mono (show w.heap.size ≤ w2.heap.size from ((below_step ((Below.refl _ _).alloc (Nat.le_refl _) (.cells #[.int .i64 pS, .slice aS S.length cS] 26)) (show w.heap.size ≤ (w.alloc (.cells #[.int .i64 pS, .slice aS S.length cS] 26)).heap.size from (((Below.refl _ _).alloc (Nat.le_refl _) (.cells #[.int .i64 pS, .slice aS S.length cS] 26))).size) B2.out)).size) (Nat.le_refl _), (below_step (below_step ((Below.refl _ _).alloc (Nat.le_refl _) (.cells #[.int .i64 pS, .slice aS S.length cS] 26)) (show w.heap.size ≤ (w.alloc (.cells #[.int .i64 pS, .slice aS S.length cS] 26)).heap.size from (((Below.refl _ _).alloc (Nat.le_refl _) (.cells #[.int .i64 pS, .slice aS S.length cS] 26))).size) B2.out) (show w.heap.size ≤ w2.heap.size from ((below_step ((Below.refl _ _).alloc (Nat.le_refl _) (.cells #[.int .i64 pS, .slice aS S.length cS] 26)) (show w.heap.size ≤ (w.alloc (.cells #[.int .i64 pS, .slice aS S.length cS] 26)).heap.size from (((Below.refl _ _).alloc (Nat.le_refl _) (.cells #[.int .i64 pS, .slice aS S.length cS] 26))).size) B2.out)).size) B3.out)⟩
 · have HV : Hid (splPV pS S x v = []) := by show _ = _; unfold splPV; rw [if_neg hc]
   obtain ⟨C, hC⟩ : ∃ c, c = codeI pS S x v := ⟨_, rfl⟩
   have hc1 : (C != 0) = true := by rw [hC]; simpa using hc
   have HCE := Lib.hid hC
   clear hc hC
   go_enter Tryz.func37, Tryz.ntmps37
   go_wp2_with (first | (go_at_call 129; (with_reducible refine (l06Invertible_any pS aS S cS loS tpS ax x cx lox tpx av v cv lov tpv _ (HS.out.below ((Below.refl _ _).alloc (Nat.le_refl _) (.cells #[.int .i64 pS, .slice aS S.length cS] 26)) tS) (Nat.le_trans tS (((Below.refl _ _).alloc (Nat.le_refl _) (.cells #[.int .i64 pS, .slice aS S.length cS] 26))).size) sS (Hx.out.below ((Below.refl _ _).alloc (Nat.le_refl _) (.cells #[.int .i64 pS, .slice aS S.length cS] 26)) tx) (Nat.le_trans tx (((Below.refl _ _).alloc (Nat.le_refl _) (.cells #[.int .i64 pS, .slice aS S.length cS] 26))).size) sx (Hv.out.below ((Below.refl _ _).alloc (Nat.le_refl _) (.cells #[.int .i64 pS, .slice aS S.length cS] 26)) tv) (Nat.le_trans tv (((Below.refl _ _).alloc (Nat.le_refl _) (.cells #[.int .i64 pS, .slice aS S.length cS] 26))).size) sv).mono ?_); rintro e w2 ⟨rfl, b2⟩; rw [← HCE.out]; have B2 := Lib.hid b2; have K2_0_0 := (b2.cell (p := ⟨w.heap.size, 0, none⟩) (Nat.lt_of_lt_of_le (show w.heap.size < (w.alloc (.cells #[.int .i64 pS, .slice aS S.length cS] 26)).heap.size by simp) (Nat.le_refl _))).trans (show (w.alloc (.cells #[.int .i64 pS, .slice aS S.length cS] 26)).cell? ⟨w.heap.size, 0, none⟩ = some (.int .i64 pS) by simp [go_sem]); have K2_0_1 := (b2.cell (p := ⟨w.heap.size, 1, none⟩) (Nat.lt_of_lt_of_le (show w.heap.size < (w.alloc (.cells #[.int .i64 pS, .slice aS S.length cS] 26)).heap.size by simp) (Nat.le_refl _))).trans (show (w.alloc (.cells #[.int .i64 pS, .slice aS S.length cS] 26)).cell? ⟨w.heap.size, 1, none⟩ = some (.slice aS S.length cS) by simp [go_sem]); clear b2))
   go_ret2
   rw [HV.out, ← HCE.out]
   exact ⟨none, 0, rfl, .inl rfl, (below_step ((Below.refl _ _).alloc (Nat.le_refl _) (.cells #[.int .i64 pS, .slice aS S.length cS] 26)) (show w.heap.size ≤ (w.alloc (.cells #[.int .i64 pS, .slice aS S.length cS] 26)).heap.size from (((Below.refl _ _).alloc (Nat.le_refl _) (.cells #[.int .i64 pS, .slice aS S.length cS] 26))).size) B2.out)⟩
theorem kp_vec (i b : Nat) : kp 1 (2 ^ i) b = !kp 0 (2 ^ i) b := by
 cases hb : b.testBit i with
 | true =>
  have h1 : kp 1 (2 ^ i) b = true := kp1_iff.2 fun k => by
   rw [Nat.testBit_two_pow]
   by_cases e : i = k
   · subst e; simp [hb]
   · simp [e]
  have h0 : kp 0 (2 ^ i) b = false := by
   cases e : kp 0 (2 ^ i) b with
   | false => rfl
   | true =>
    have := kp0_iff.1 e i
    rw [Nat.testBit_two_pow_self, hb] at this
    cases this
  rw [h1, h0]; rfl
 | false =>
  have h0 : kp 0 (2 ^ i) b = true := kp0_iff.2 fun k => by
   rw [Nat.testBit_two_pow]
   by_cases e : i = k
   · subst e; simp [hb]
   · simp [e]
  have h1 : kp 1 (2 ^ i) b = false := by
   cases e : kp 1 (2 ^ i) b with
   | false => rfl
   | true =>
    have := kp1_iff.1 e i
    rw [Nat.testBit_two_pow_self, hb] at this
    cases this
  rw [h1, h0]; rfl
theorem fk_vec (S : List Int) (i b n : Nat) : fz S (2 ^ i) b n = fk S 1 (2 ^ i) b n + fk S 0 (2 ^ i) b n := by
 unfold fk
 rw [kp_vec]
 cases kp 0 (2 ^ i) b <;> simp
theorem prod_split {p : Int} {S v y : List Int} (hv : ∀ a, a < bl S → v.getD a 0 ≠ 0 → ∃ i, a = 2 ^ i) : prodM p S v y = plusR p (kM p S 1 v y) (kM p S 0 v y) 1 := by
 unfold plusR
 rw [kM_len]
 apply mkR_congr
 intro c hc
 rw [kM_at _ _ _ _ _ hc, kM_at _ _ _ _ _ hc, Int.one_mul, kF_eq, kF_eq, ← Int.add_emod]
 unfold prodF
 congr 1
 unfold gpz kpz
 rw [← sm_add]
 apply sm_congr
 intro a ha
 show v.getD a 0 * _ * _ = v.getD a 0 * _ * _ + v.getD a 0 * _ * _
 by_cases h0 : v.getD a 0 = 0
 · rw [h0]; simp
 · obtain ⟨i, rfl⟩ := hv a ha h0
   rw [fk_vec, Int.mul_add, Int.add_mul]
theorem vecF_pow {v : List Int} {j : Nat} : ∀ k, vecF v k j ≠ 0 → ∃ i, j = 2 ^ i
 | 0, h => absurd rfl h
 | k + 1, h => by
  by_cases e : j = 2 ^ k
  · exact ⟨k, e⟩
  · exact vecF_pow k (by
     intro h2
     apply h
     show (if j = 2 ^ k then v.getD k 0 else vecF v k j) = 0
     rw [if_neg e]; exact h2)
theorem revM_len (p : Int) (x : List Int) : (revM p x).length = x.length := mkR_len _ _
theorem gpz_mul_l (S : List Int) (n : Nat) (x y : Nat → Int) (k : Int) (c : Nat) : gpz S n (fun j => x j * k) y c = gpz S n x y c * k := by
 unfold gpz
 rw [Int.mul_comm, ← sm_mul]
 apply sm_congr
 intro a _
 show x a * k * fz S a (a ^^^ c) n * y (a ^^^ c) = k * (x a * fz S a (a ^^^ c) n * y (a ^^^ c))
 rw [Int.mul_comm (x a) k, Int.mul_assoc, Int.mul_assoc, Int.mul_assoc]
theorem prod_scl_l (p : Int) (S a b : List Int) (k : Int) (ha : a.length = bl S) : prodM p S (sclV p a k) b = sclV p (prodM p S a b) k := by
 unfold sclV
 rw [prodM_len]
 refine mkR_congr fun c hc => ?_
 rw [prodM_at p S a b hc]
 show gpz _ _ _ _ c % p = gpz _ _ _ _ c % p * k % p
 rw [em_l, ← gpz_mul_l]
 exact gpz_mod S S.length hc (fun j hj => by
  show (mkR a.length fun j => a.getD j 0 * k % p).getD j 0 % p = _
  rw [mkR_at _ (by rw [ha]; exact hj), Int.emod_emod]) (fun _ _ => rfl)
theorem no_null {p a b : Int} (hp : prm p = true) (h0 : 0 ≤ a) (h1 : a < p) (k0 : 0 ≤ b) (k1 : b < p) (ha : a ≠ 0) (hb : b ≠ 0) : a * b % p ≠ 0 := by
 have := every2_at (Q := fun p a b => decide (a ≠ 0 → b ≠ 0 → a * b % p ≠ 0)) (by decide +kernel) hp h0 h1 k0 k1
 simp only [decide_eq_true_eq] at this
 exact this ha hb
theorem scl_scl (p a b : Int) (x : List Int) : sclV p (sclV p x a) b = sclV p x (a * b % p) := by
 unfold sclV
 rw [mkR_len]
 refine mkR_congr fun j hj => ?_
 rw [mkR_at _ hj, em_l, em_r, Int.mul_assoc]
theorem scl_one {p : Int} {x : List Int} (h : ∀ j, j < x.length → 0 ≤ x.getD j 0 ∧ x.getD j 0 < p) : sclV p x 1 = x := by
 refine row_ext (mkR_len _ _) fun j hj => ?_
 have hj' : j < x.length := by unfold sclV at hj; rw [mkR_len] at hj; exact hj
 unfold sclV
 rw [mkR_at _ hj', Int.mul_one, Int.emod_eq_of_lt (h j hj').1 (h j hj').2]
theorem pair_zero (p : Int) (S w : List Int) : pairN p S (mkR S.length fun _ => 0) w = 0 := by
 unfold pairN psum
 rw [sm_congr (g := fun _ => 0) fun j hj => by rw [mkR_at _ hj, Int.zero_mul, Int.zero_mul], sm_zero, Int.zero_emod]
theorem scl_plus {p k : Int} {S v : List Int} (hv : v.length = S.length) : sclV p v k = plusR p (mkR S.length fun _ => 0) v k := by
 unfold sclV plusR
 rw [mkR_len, hv]
 refine mkR_congr fun j hj => ?_
 rw [mkR_at _ hj, Int.zero_add, Int.mul_comm]
theorem pair_scl {p k : Int} {S u v : List Int} (hv : v.length = S.length) : pairN p S u (sclV p v k) = pairN p S u v * k % p := by
 rw [pairN_comm, scl_plus hv, pairN_lin (mkR_len _ _), pair_zero, Int.zero_add, Int.mul_comm, pairN_comm]
theorem sclV_len (p k : Int) (v : List Int) : (sclV p v k).length = v.length := mkR_len _ _
theorem scl_vec {p : Int} {n : Nat} {v : List Int} (hp : 0 < p) (k : Int) (hv : v.length = n) : isVec p n (sclV p v k) = true := by
 refine isVec_iff.2 ⟨by rw [sclV_len]; exact hv, ?_⟩
 rw [List.all_eq_true]
 intro y hy
 obtain ⟨j, hj, rfl⟩ := List.getElem_of_mem hy
 rw [← getD_at hj]
 rw [sclV_len] at hj
 unfold sclV
 rw [mkR_at _ hj]
 exact inr_iff.2 ⟨Int.emod_nonneg _ (by omega), Int.emod_lt_of_pos _ hp⟩
theorem plus_vec7 {p : Int} {n : Nat} {u v : List Int} (hp : 0 < p) (k : Int) (hv : v.length = n) : isVec p n (plusR p v u k) = true := by
 refine isVec_iff.2 ⟨by unfold plusR; rw [mkR_len]; exact hv, ?_⟩
 rw [List.all_eq_true]
 intro y hy
 obtain ⟨j, hj, rfl⟩ := List.getElem_of_mem hy
 rw [← getD_at hj]
 have hj' : j < v.length := by unfold plusR at hj; rw [mkR_len] at hj; exact hj
 unfold plusR
 rw [mkR_at _ hj']
 exact inr_iff.2 ⟨Int.emod_nonneg _ (by omega), Int.emod_lt_of_pos _ hp⟩
theorem rfl_vec7 {p : Int} {S u v : List Int} (hp : 0 < p) (hv : isVec p S.length v = true) : isVec p S.length (rflM p S u v) = true := plus_vec7 hp _ (isVec_iff.1 hv).len
def ioT (θ : Nat → Int) (n : Nat) (y : Nat → Int) (c : Nat) : Int := sm n fun q => θ q * io q y c
theorem io_zero (q : Nat) (c : Nat) : io q (fun _ => 0) c = 0 := by
 unfold io; split
 · exact Int.mul_zero _
 · rfl
theorem lw_lin (v y u : Nat → Int) (k : Int) (c : Nat) : lw v (fun j => y j + k * u j) c = lw v y c + k * lw v u c := by
 unfold lw
 rw [← sm_mul, ← sm_add]
 refine sm_congr fun i _ => ?_
 split
 · rw [Int.mul_add, Int.mul_left_comm]
 · rw [Int.mul_zero, Int.add_zero]
theorem lw_zero (v : Nat → Int) (c : Nat) : lw v (fun _ => 0) c = 0 := by
 unfold lw
 rw [sm_congr (g := fun _ => 0) fun i _ => by
  split
  · exact Int.mul_zero _
  · rfl, sm_zero]
theorem leibT (θ v y : Nat → Int) {c : Nat} (hc : c < 64) : ∀ n, n ≤ 6 → ioT θ n (lw v y) c + lw v (ioT θ n y) c = (sm n fun q => θ q * v q) * y c
 | 0, _ => by
  show 0 + lw v (fun _ => 0) c = 0 * y c
  rw [lw_zero, Int.zero_mul, Int.zero_add]
 | n + 1, hn => by
  have h1 := leibT θ v y hc n (by omega)
  have h2 := leib v y hc (show n < 6 by omega)
  have e : lw v (ioT θ (n + 1) y) c = lw v (ioT θ n y) c + θ n * lw v (io n y) c := lw_lin v (ioT θ n y) (io n y) (θ n) c
  show (ioT θ n (lw v y) c + θ n * io n (lw v y) c) + lw v (ioT θ (n + 1) y) c = (sm n (fun q => θ q * v q) + θ n * v n) * y c
  rw [e, Int.add_mul, ← h1, Int.mul_assoc, ← h2, Int.mul_add]
  omega
theorem ioT_mod {p : Int} {S : List Int} (θ : Nat → Int) {y y' : Nat → Int} (h : ∀ j, j < bl S → y j % p = y' j % p) {c : Nat} (hc : c < bl S) : ioT θ S.length y c % p = ioT θ S.length y' c % p := by
 unfold ioT
 refine sm_congr_p fun q hq => ?_
 unfold io
 split
 · have hx : c ^^^ 2 ^ q < bl S := Nat.xor_lt_two_pow hc (Nat.pow_lt_pow_right (by decide) hq)
   rw [← Int.mul_assoc, ← Int.mul_assoc, Int.mul_emod, h _ hx, ← Int.mul_emod]
 · rfl
theorem ioT_zero (θ : Nat → Int) (n c : Nat) : ioT θ n (fun _ => 0) c = 0 := by
 unfold ioT
 rw [sm_congr (g := fun _ => 0) fun q _ => by rw [io_zero, Int.mul_zero], sm_zero]
theorem ioT_scl (θ y : Nat → Int) (k : Int) (n c : Nat) : ioT θ n (fun j => y j * k) c = ioT θ n y c * k := by
 unfold ioT
 rw [Int.mul_comm, ← sm_mul]
 refine sm_congr fun q _ => ?_
 unfold io
 split
 · rw [Int.mul_comm k, Int.mul_assoc, Int.mul_assoc]
 · rw [Int.mul_zero, Int.mul_zero]
theorem wg_one_r {p : Int} {S x : List Int} (hx : x.length = bl S) (hn : ∀ j, j < x.length → 0 ≤ x.getD j 0 ∧ x.getD j 0 < p) : kM p S 0 x (mOne S) = x := by
 refine row_ext (by rw [kM_len, hx]) fun c hc => ?_
 rw [kM_len] at hc
 have hy : ∀ c, c < bl S → (mOne S).getD c 0 = if c = 0 then 1 else 0 := fun c hc => mkR_at _ hc
 have h := hn c (by rw [hx]; exact hc)
 rw [wg_scal hy hc, Int.mul_one, Int.emod_eq_of_lt h.1 h.2]
theorem wg_cons {p : Int} {S u : List Int} (hs : isSp p S = true) (hu : isVec p S.length u = true) (m : List (List Int)) : ∀ k, wvM p S (u :: m) (k + 1) = kM p S 0 (vecM S u) (wvM p S m k)
 | 0 => by
  have h := vec_mv hs hu
  show kM p S 0 (mOne S) (vecM S u) = kM p S 0 (vecM S u) (mOne S)
  rw [wg_one_l (Mv.len h) (Mv.num h), wg_one_r (Mv.len h) (Mv.num h)]
 | k + 1 => by
  show kM p S 0 (wvM p S (u :: m) (k + 1)) (vecM S (rw' m k)) = kM p S 0 (vecM S u) (kM p S 0 (wvM p S m k) (vecM S (rw' m k)))
  rw [wg_cons hs hu m k, wedge_assoc]
theorem ioT_wv {p : Int} {S : List Int} (hs : isSp p S = true) (θ : Nat → Int) : ∀ m : List (List Int), (∀ j, j < m.length → isVec p S.length (rw' m j) = true ∧ (sm S.length fun q => θ q * (rw' m j).getD q 0) % p = 0) → ∀ c, c < bl S → ioT θ S.length (fun j => (wvM p S m m.length).getD j 0) c % p = 0
 | [], _, c, hc => by
  have h6 := (isSp_iff.1 hs).hi
  unfold ioT
  rw [sm_congr (g := fun _ => 0) fun q hq => ?_, sm_zero, Int.zero_emod]
  unfold io
  split
  · rename_i hb
    have hx : c ^^^ 2 ^ q < bl S := Nat.xor_lt_two_pow hc (Nat.pow_lt_pow_right (by decide) hq)
    have hne : c ^^^ 2 ^ q ≠ 0 := fun e => by
     rw [xor_zero_eq e, pow_bit, if_pos rfl] at hb
     cases hb
    have e0 : (wvM p S [] 0).getD (c ^^^ 2 ^ q) 0 = 0 := (mkR_at oneF hx).trans (if_neg hne)
    show θ q * (sl q c * (wvM p S [] 0).getD (c ^^^ 2 ^ q) 0) = 0
    rw [e0, Int.mul_zero, Int.mul_zero]
  · exact Int.mul_zero _
 | u :: m, hm, c, hc => by
  have h6 := (isSp_iff.1 hs).hi
  have hbl := bl_le h6
  have hp := prm_bd (isSp_iff.1 hs).prime
  obtain ⟨hu, hu0⟩ := hm 0 (by simp)
  have hu : isVec p S.length u = true := hu
  have hu0 : (sm S.length fun q => θ q * u.getD q 0) % p = 0 := hu0
  have ih := ioT_wv hs θ m (fun j hj => hm (j + 1) (by simpa using hj))
  have e : ∀ j, j < bl S → (wvM p S (u :: m) (u :: m).length).getD j 0 % p = lw (fun i => u.getD i 0) (fun j => (wvM p S m m.length).getD j 0) j % p := fun j hj => by
   rw [show (u :: m).length = m.length + 1 from rfl, wg_cons hs hu m m.length, kM_at _ _ _ _ _ hj, vec_wg p h6 _ (isVec_iff.1 hu).len hj, Int.emod_emod]
  rw [ioT_mod θ e hc]
  have h1 := leibT θ (fun i => u.getD i 0) (fun j => (wvM p S m m.length).getD j 0) (show c < 64 by omega) S.length h6
  have h2 : lw (fun i => u.getD i 0) (ioT θ S.length fun j => (wvM p S m m.length).getD j 0) c % p = 0 := by
   rw [lw_mod h6 _ (y' := fun _ => 0) (fun j hj => by rw [ih j hj, Int.zero_emod]) hc, lw_zero, Int.zero_emod]
  have h3 : ioT θ S.length (lw (fun i => u.getD i 0) fun j => (wvM p S m m.length).getD j 0) c = (sm S.length fun q => θ q * u.getD q 0) * (wvM p S m m.length).getD c 0 - lw (fun i => u.getD i 0) (ioT θ S.length fun j => (wvM p S m m.length).getD j 0) c := by rw [← h1]; omega
  rw [h3, Int.sub_emod, h2, Int.mul_emod, hu0, Int.zero_mul, Int.zero_emod]; rfl
theorem ioT_bl {p : Int} {S x : List Int} (hs : isSp p S = true) (hx : isMv p S x = true) (hb : isBl p S x = true) (θ : Nat → Int) (hθ : ∀ j, j < (subM p S x).length → (sm S.length fun q => θ q * (rw' (subM p S x) j).getD q 0) % p = 0) {c : Nat} (hc : c < bl S) : ioT θ S.length (fun j => x.getD j 0) c % p = 0 := by
 obtain ⟨_, h2⟩ := (isBl_iff hs hx).1 hb
 obtain ⟨Y, hY⟩ : ∃ Y, Y = wvM p S (subM p S x) (subM p S x).length := ⟨_, rfl⟩
 have e : ∀ j, j < bl S → x.getD j 0 % p = (fun j => Y.getD j 0 * facM p S x) j % p := fun j hj => by
  have h3 : x.getD j 0 = Y.getD j 0 * facM p S x % p := by
   have h4 : (mkR (bl S) fun c => (wvM p S (subM p S x) (subM p S x).length).getD c 0 * facM p S x % p).getD j 0 = x.getD j 0 := by rw [h2]
   rw [mkR_at _ hj, ← hY] at h4
   exact h4.symm
  rw [h3, Int.emod_emod]
 rw [ioT_mod θ e hc, ioT_scl, Int.mul_emod, hY, ioT_wv hs θ (subM p S x) (fun j hj => ⟨sub_vec hs j hj, hθ j hj⟩) c hc, Int.zero_mul, Int.zero_emod]
theorem fz_self (S : List Int) (q : Nat) : ∀ n, fz S (2 ^ q) (2 ^ q) n = if q < n then S.getD q 0 else 1
 | 0 => by rw [if_neg (Nat.not_lt_zero _)]; rfl
 | n + 1 => by
  show fz S (2 ^ q) (2 ^ q) n * gi S (2 ^ q) (2 ^ q) n = _
  rw [fz_self S q n]
  unfold gi
  rw [pow_bit]
  by_cases e : q = n
  · subst e
    rw [if_neg (Nat.lt_irrefl _), if_pos rfl, if_pos rfl, if_pos (Nat.lt_succ_self _), Nat.div_eq_of_lt (Nat.pow_lt_pow_right (by decide) (Nat.lt_succ_self _)), if_pos rfl]
    show 1 * (eps (gr 0) * _) = _
    rw [show eps (gr 0) = 1 from by decide, Int.one_mul, Int.one_mul]
  · rw [if_neg e, if_neg (show ¬ (0 : Nat) = 1 by decide), Int.mul_one]
    by_cases h : q < n
    · rw [if_pos h, if_pos (by omega)]
    · rw [if_neg h, if_neg (by omega)]
theorem fz_in {S : List Int} {c q : Nat} (h6 : S.length ≤ 6) (hc : c < 64) (hq : q < S.length) (hb : c / 2 ^ q % 2 = 0) : fz S (2 ^ q) (c ^^^ 2 ^ q) S.length = S.getD q 0 * sl q c := by
 have h := fz_coc S (2 ^ q) (2 ^ q) c S.length
 rw [Nat.xor_self, fz_zero, Int.mul_one, fz_self, if_pos hq, fz_sl S hc hq h6 hb, Nat.xor_comm (2 ^ q) c] at h
 have h2 := sl_sq q c
 rw [h, Int.mul_assoc, h2, Int.mul_one]
theorem bit_in : ∀ c, c < 64 → ∀ i, i < 6 → ((2 ^ i &&& (c ^^^ 2 ^ i)) == 2 ^ i) = decide (c / 2 ^ i % 2 = 0) := by decide +kernel
theorem vec_lc (p : Int) {S : List Int} (h6 : S.length ≤ 6) (x : List Int) {v : List Int} (hv : v.length = S.length) {c : Nat} (hc : c < bl S) :
 kF p S 1 (vecM S v) x c = ioT (fun q => v.getD q 0 * S.getD q 0) S.length (fun j => x.getD j 0) c % p := by
 unfold kF ioT
 have hbl := bl_le h6
 have h1 : ∀ a, a < bl S → tk p S 1 (vecM S v) x c a = sm S.length (fun i => if a = 2 ^ i then (if c / 2 ^ i % 2 = 0 then v.getD i 0 * fm p S (2 ^ i) (c ^^^ 2 ^ i) S.length * x.getD (c ^^^ 2 ^ i) 0 else 0) else 0) := fun a ha => by
  have hy : (vecM S v).getD a 0 = sm S.length (fun i => if a = 2 ^ i then v.getD i 0 else 0) := by
   unfold vecM; rw [mkR_at _ ha, vecF_sum, hv]
  have e3 : ∀ i, i < S.length → kp 1 (2 ^ i) (2 ^ i ^^^ c) = decide (c / 2 ^ i % 2 = 0) := fun i hi => by
   rw [← bit_in c (by omega) i (by omega), Nat.xor_comm (2 ^ i) c]
   unfold kp
   rw [if_neg (by decide), if_pos rfl]
  unfold tk tm
  rw [hy]
  by_cases hk : kp 1 a (a ^^^ c) = true
  · rw [if_pos hk, Int.mul_assoc, Int.mul_comm, ← sm_mul]
    apply sm_congr
    intro i hi
    by_cases e : a = 2 ^ i
    · subst e
      rw [e3 i hi] at hk
      rw [if_pos rfl, if_pos rfl, if_pos (by simpa using hk), Nat.xor_comm (2 ^ i) c]
      ac_rfl
    · rw [if_neg e, if_neg e, Int.mul_zero]
  · rw [if_neg hk, sm_congr (g := fun _ => 0), sm_zero]
    intro i hi
    by_cases e : a = 2 ^ i
    · subst e
      rw [e3 i hi] at hk
      rw [if_pos rfl, if_neg (by simpa using hk)]
    · rw [if_neg e]
 rw [sm_congr h1, sm_swap]
 apply sm_congr_p
 intro i hi
 have hi2 : 2 ^ i < bl S := Nat.pow_lt_pow_right (by decide) hi
 rw [sm_single, if_pos hi2]
 unfold io
 by_cases hb : c / 2 ^ i % 2 = 0
 · rw [if_pos hb, if_pos hb]
   unfold fm
   rw [fz_in h6 (by omega) hi hb, ← em_l, em_r, em_l]
   show v.getD i 0 * (S.getD i 0 * sl i c) * x.getD (c ^^^ 2 ^ i) 0 % p = v.getD i 0 * S.getD i 0 * (sl i c * x.getD (c ^^^ 2 ^ i) 0) % p
   congr 1
   ac_rfl
 · rw [if_neg hb, if_neg hb, Int.mul_zero]
end Go.Proofs.YtgfanoejohpmkaaGreat