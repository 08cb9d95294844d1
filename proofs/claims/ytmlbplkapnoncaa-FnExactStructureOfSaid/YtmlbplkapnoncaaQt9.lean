/-
  Few squares: codes: contracts of the program and of the model.
  Conditions: the lists are nil or rows of known cells, of at most 1048576 numbers.
  Changes of signs by grades, and the signs of all grades: contracts of the program.
  Conditions: the lists are nil or rows of known cells, of at most 1048576 numbers.
  What the program's operations on numbers return: contracts of remainderOf, plus, minus, times.
  Conditions: the prime is one, and the numbers are remainders by it.
  A number that lies in memory: what keeps it, what writes it, what reads it.
  No conditions.
  Signs changed, and the laws' three functions that do so: contracts of the program and of the model.
  Conditions: the lists are nil or rows of known cells, of at most 1048576 numbers.
  The signs of those grades of which a multivector has blades: contracts of the program and of the model.
  Conditions: the lists are nil or rows of known cells, of at most 1048576 numbers.
  ReverseOf, InvoluteOf and ConjugateOf: contracts of the program and of the model.
  Conditions: the lists are nil or rows of known cells, of at most 1048576 numbers.
  GradesOf: contracts of the program and of the model.
  Conditions: the lists are nil or rows of known cells, of at most 1048576 numbers.
-/
import Derived.Test.YtmlbplkapnoncaaQt4
import Derived.Test.YtmlbplkapnoncaaQt8
import Derived.Deep.RegionHeld3
import Derived.Deep.DeepCutAuto
import Derived.Test.YtmlbplkapnoncaaQt5
import Derived.Test.YtmlbplkapnoncaaQt1
import Derived.Outline
import Derived.Deep.AppendLies
import Derived.StillTailTactics
import Derived.Laws.AppendOwn
namespace Go.Proofs.Ytmlbplkapnoncaa
open Go.RowKit
set_option linter.unusedVariables false

/-- The code of a space with few squares and multivectors. -/
def stC (p : Int) (S : List Int) (m : List (List Int)) : Int := if codeMv p S m = 0 then (if 4 < S.length then 3 else 0) else codeMv p S m
theorem stC_cases (p : Int) (S : List Int) (m : List (List Int)) : (codeMv p S m ≠ 0 ∧ stC p S m = codeMv p S m) ∨ (codeMv p S m = 0 ∧ 4 < S.length ∧ stC p S m = 3) ∨ (codeMv p S m = 0 ∧ S.length ≤ 4 ∧ stC p S m = 0) := by
  unfold stC
  by_cases h : codeMv p S m = 0
  · by_cases h4 : 4 < S.length
    · exact .inr (.inl ⟨h, h4, by rw [if_pos h, if_pos h4]⟩)
    · exact .inr (.inr ⟨h, by omega, by rw [if_pos h, if_neg h4]⟩)
  · exact .inl ⟨h, if_neg h⟩
theorem stC_zero {p : Int} {S : List Int} {m : List (List Int)} (h : stC p S m = 0) : isSp p S = true ∧ m.all (isMv p S) = true ∧ S.length ≤ 4 := by
  rcases stC_cases p S m with ⟨h1, h2⟩ | ⟨_, _, h2⟩ | ⟨h1, h2, _⟩
  · rw [h2] at h; exact absurd h h1
  · rw [h] at h2; cases h2
  · rcases codeMv_cases p S m with ⟨_, hc⟩ | ⟨hi, ha, _⟩ | ⟨_, _, hc⟩
    · rw [hc] at h1; cases h1
    · exact ⟨hi, ha, h2⟩
    · rw [hc] at h1; cases h1
set_option maxRecDepth 100000 in
set_option maxHeartbeats 3200000 in
theorem checkStructure_any (pS : Int) (aS : Option Addr) (S : List Int) (cS loS tpS : Nat) (am : Option Addr) (m : List (List Int)) (cm lom tpm : Nat) (w : World) (hS : RowIn loS tpS w aS S) (tS : tpS ≤ w.heap.size) (sS : S.length ≤ 1048576) (hm : MatIn lom tpm w am m) (tm : tpm ≤ w.heap.size) (sm : m.length ≤ 1048576) (sr : ∀ i, i < m.length → (rw' m i).length ≤ 1048576) :
    Calls Try.prog 57 #[.agg #[.int .i64 pS, .slice aS S.length cS], .slice am m.length cm] w fun e w' => e = .returned (.int .i64 (stC pS S m)) ∧ Below w.heap.size w w' := by
  have HS := Lib.hid hS
  have Hm := Lib.hid hm
  have HSR := Lib.hid sr
  have k0 := nw0 w (.int .i64 pS) (.slice aS S.length cS) 28
  have k1 := nw1 w (.int .i64 pS) (.slice aS S.length cS) 28
  have HB0 := Lib.hid (below_alloc w (.cells #[.int .i64 pS, .slice aS S.length cS] 28))
  clear hS hm sr
  rcases stC_cases pS S m with ⟨h0, hv⟩ | ⟨h0, h4, hv⟩ | ⟨h0, h4, hv⟩
  · have HV := Lib.hid hv
    obtain ⟨C, hC⟩ : ∃ c, c = codeMv pS S m := ⟨_, rfl⟩
    have hc1 : (C != 0) = true := by rw [hC]; simpa using h0
    have hc2 : (C == 0) = false := by rw [hC]; simpa using h0
    have HCE := Lib.hid hC
    clear hC
    clear h0 hv
    go_enter Try.func57, Try.ntmps57
    go_upto_region 1 with fail
    obtain ⟨w1, hw1⟩ : ∃ z, z = w.alloc (.cells #[.int .i64 pS, .slice aS S.length cS] 28) := ⟨_, rfl⟩
    rw [← hw1] at HB0 k0 k1 ⊢
    have hd1 : w.heap.size < w1.heap.size := by rw [hw1]; simp
    have HB1 := HB0
    clear hw1
    have SS1 := Lib.hid (And.intro k0 k1)
    go_wp2_with (go_at_call 102; ((with_reducible refine (checkMultivectors_any pS aS S cS loS tpS am m cm lom tpm w1 (HS.out.below HB1.out tS) (Nat.le_trans tS HB1.out.size) sS (Hm.out.below HB1.out tm) (Nat.le_trans tm HB1.out.size) sm HSR.out).mono ?_); rintro e w2 ⟨rfl, b_⟩; rw [← HCE.out]; have SS2 := Lib.hid (ss2 b_ hd1 SS1.out); have HB2 := Lib.hid (below_step HB1.out HB1.out.size b_); have hd2 := Nat.lt_of_lt_of_le hd1 b_.size; clear k0 k1; obtain ⟨k0, k1⟩ := SS2.out; clear b_))
    go_ret
    exact ⟨by rw [HV.out, ← HCE.out]; rfl, HB2.out⟩
  · have HV := Lib.hid hv
    have HZ := Lib.hid h0
    have hI1 : (4 : Int) < (S.length : Int) := by omega
    clear h0 hv h4
    go_enter Try.func57, Try.ntmps57
    go_upto_region 1 with fail
    obtain ⟨w1, hw1⟩ : ∃ z, z = w.alloc (.cells #[.int .i64 pS, .slice aS S.length cS] 28) := ⟨_, rfl⟩
    rw [← hw1] at HB0 k0 k1 ⊢
    have hd1 : w.heap.size < w1.heap.size := by rw [hw1]; simp
    have HB1 := HB0
    clear hw1
    have SS1 := Lib.hid (And.intro k0 k1)
    go_wp2_with (go_at_call 102; ((with_reducible refine (checkMultivectors_any pS aS S cS loS tpS am m cm lom tpm w1 (HS.out.below HB1.out tS) (Nat.le_trans tS HB1.out.size) sS (Hm.out.below HB1.out tm) (Nat.le_trans tm HB1.out.size) sm HSR.out).mono ?_); rintro e w2 ⟨rfl, b_⟩; rw [HZ.out]; have SS2 := Lib.hid (ss2 b_ hd1 SS1.out); have HB2 := Lib.hid (below_step HB1.out HB1.out.size b_); have hd2 := Nat.lt_of_lt_of_le hd1 b_.size; clear k0 k1; obtain ⟨k0, k1⟩ := SS2.out; clear b_))
    go_ret
    exact ⟨by rw [HV.out]; rfl, HB2.out⟩
  · have HV := Lib.hid hv
    have HZ := Lib.hid h0
    have hI1 : ¬ (4 : Int) < (S.length : Int) := by omega
    clear h0 hv h4
    go_enter Try.func57, Try.ntmps57
    go_upto_region 1 with fail
    obtain ⟨w1, hw1⟩ : ∃ z, z = w.alloc (.cells #[.int .i64 pS, .slice aS S.length cS] 28) := ⟨_, rfl⟩
    rw [← hw1] at HB0 k0 k1 ⊢
    have hd1 : w.heap.size < w1.heap.size := by rw [hw1]; simp
    have HB1 := HB0
    clear hw1
    have SS1 := Lib.hid (And.intro k0 k1)
    go_wp2_with (go_at_call 102; ((with_reducible refine (checkMultivectors_any pS aS S cS loS tpS am m cm lom tpm w1 (HS.out.below HB1.out tS) (Nat.le_trans tS HB1.out.size) sS (Hm.out.below HB1.out tm) (Nat.le_trans tm HB1.out.size) sm HSR.out).mono ?_); rintro e w2 ⟨rfl, b_⟩; rw [HZ.out]; have SS2 := Lib.hid (ss2 b_ hd1 SS1.out); have HB2 := Lib.hid (below_step HB1.out HB1.out.size b_); have hd2 := Nat.lt_of_lt_of_le hd1 b_.size; clear k0 k1; obtain ⟨k0, k1⟩ := SS2.out; clear b_))
    go_ret
    exact ⟨by rw [HV.out]; rfl, HB2.out⟩

set_option maxRecDepth 100000 in
set_option maxHeartbeats 3200000 in
theorem l09Code_any (pS : Int) (aS : Option Addr) (S : List Int) (cS loS tpS : Nat) (am : Option Addr) (m : List (List Int)) (cm lom tpm : Nat) (w : World) (hS : RowIn loS tpS w aS S) (tS : tpS ≤ w.heap.size) (sS : S.length ≤ 1048576) (hm : MatIn lom tpm w am m) (tm : tpm ≤ w.heap.size) (sm : m.length ≤ 1048576) (sr : ∀ i, i < m.length → (rw' m i).length ≤ 1048576) :
    Calls Try.prog 54 #[.agg #[.int .i64 pS, .slice aS S.length cS], .slice am m.length cm] w fun e w' => e = .returned (.int .i64 (stC pS S m)) ∧ Below w.heap.size w w' := by
  have HS := Lib.hid hS
  have Hm := Lib.hid hm
  have HSR := Lib.hid sr
  have k0 := nw0 w (.int .i64 pS) (.slice aS S.length cS) 28
  have k1 := nw1 w (.int .i64 pS) (.slice aS S.length cS) 28
  have HB0 := Lib.hid (below_alloc w (.cells #[.int .i64 pS, .slice aS S.length cS] 28))
  clear hS hm sr
  rcases stC_cases pS S m with ⟨h0, hv⟩ | ⟨h0, h4, hv⟩ | ⟨h0, h4, hv⟩
  · have HV := Lib.hid hv
    obtain ⟨C, hC⟩ : ∃ c, c = codeMv pS S m := ⟨_, rfl⟩
    have hc1 : (C != 0) = true := by rw [hC]; simpa using h0
    have hc2 : (C == 0) = false := by rw [hC]; simpa using h0
    have HCE := Lib.hid hC
    clear hC
    clear h0 hv
    go_enter Try.func54, Try.ntmps54
    go_upto_region 1 with fail
    obtain ⟨w1, hw1⟩ : ∃ z, z = w.alloc (.cells #[.int .i64 pS, .slice aS S.length cS] 28) := ⟨_, rfl⟩
    rw [← hw1] at HB0 k0 k1 ⊢
    have hd1 : w.heap.size < w1.heap.size := by rw [hw1]; simp
    have HB1 := HB0
    clear hw1
    have SS1 := Lib.hid (And.intro k0 k1)
    go_wp2_with (go_at_call 101; ((with_reducible refine (l04Code_any pS aS S cS loS tpS am m cm lom tpm w1 (HS.out.below HB1.out tS) (Nat.le_trans tS HB1.out.size) sS (Hm.out.below HB1.out tm) (Nat.le_trans tm HB1.out.size) sm HSR.out).mono ?_); rintro e w2 ⟨rfl, b_⟩; rw [← HCE.out]; have SS2 := Lib.hid (ss2 b_ hd1 SS1.out); have HB2 := Lib.hid (below_step HB1.out HB1.out.size b_); have hd2 := Nat.lt_of_lt_of_le hd1 b_.size; clear k0 k1; obtain ⟨k0, k1⟩ := SS2.out; clear b_))
    go_ret
    exact ⟨by rw [HV.out, ← HCE.out]; rfl, HB2.out⟩
  · have HV := Lib.hid hv
    have HZ := Lib.hid h0
    have hI1 : (4 : Int) < (S.length : Int) := by omega
    clear h0 hv h4
    go_enter Try.func54, Try.ntmps54
    go_upto_region 1 with fail
    obtain ⟨w1, hw1⟩ : ∃ z, z = w.alloc (.cells #[.int .i64 pS, .slice aS S.length cS] 28) := ⟨_, rfl⟩
    rw [← hw1] at HB0 k0 k1 ⊢
    have hd1 : w.heap.size < w1.heap.size := by rw [hw1]; simp
    have HB1 := HB0
    clear hw1
    have SS1 := Lib.hid (And.intro k0 k1)
    go_wp2_with (go_at_call 101; ((with_reducible refine (l04Code_any pS aS S cS loS tpS am m cm lom tpm w1 (HS.out.below HB1.out tS) (Nat.le_trans tS HB1.out.size) sS (Hm.out.below HB1.out tm) (Nat.le_trans tm HB1.out.size) sm HSR.out).mono ?_); rintro e w2 ⟨rfl, b_⟩; rw [HZ.out]; have SS2 := Lib.hid (ss2 b_ hd1 SS1.out); have HB2 := Lib.hid (below_step HB1.out HB1.out.size b_); have hd2 := Nat.lt_of_lt_of_le hd1 b_.size; clear k0 k1; obtain ⟨k0, k1⟩ := SS2.out; clear b_))
    go_ret
    exact ⟨by rw [HV.out]; rfl, HB2.out⟩
  · have HV := Lib.hid hv
    have HZ := Lib.hid h0
    have hI1 : ¬ (4 : Int) < (S.length : Int) := by omega
    clear h0 hv h4
    go_enter Try.func54, Try.ntmps54
    go_upto_region 1 with fail
    obtain ⟨w1, hw1⟩ : ∃ z, z = w.alloc (.cells #[.int .i64 pS, .slice aS S.length cS] 28) := ⟨_, rfl⟩
    rw [← hw1] at HB0 k0 k1 ⊢
    have hd1 : w.heap.size < w1.heap.size := by rw [hw1]; simp
    have HB1 := HB0
    clear hw1
    have SS1 := Lib.hid (And.intro k0 k1)
    go_wp2_with (go_at_call 101; ((with_reducible refine (l04Code_any pS aS S cS loS tpS am m cm lom tpm w1 (HS.out.below HB1.out tS) (Nat.le_trans tS HB1.out.size) sS (Hm.out.below HB1.out tm) (Nat.le_trans tm HB1.out.size) sm HSR.out).mono ?_); rintro e w2 ⟨rfl, b_⟩; rw [HZ.out]; have SS2 := Lib.hid (ss2 b_ hd1 SS1.out); have HB2 := Lib.hid (below_step HB1.out HB1.out.size b_); have hd2 := Nat.lt_of_lt_of_le hd1 b_.size; clear k0 k1; obtain ⟨k0, k1⟩ := SS2.out; clear b_))
    go_ret
    exact ⟨by rw [HV.out]; rfl, HB2.out⟩

theorem checkS0 (pS : Int) (aS : Option Addr) (S : List Int) (cS loS tpS : Nat) (w : World) (hS : RowIn loS tpS w aS S) (tS : tpS ≤ w.heap.size) (sS : S.length ≤ 1048576) :
    Calls Try.prog 57 #[.agg #[.int .i64 pS, .slice aS S.length cS], .slice none 0 0] w fun e w' => e = .returned (.int .i64 (stC pS S [])) ∧ Below w.heap.size w w' :=
  checkStructure_any pS aS S cS loS tpS none [] 0 0 0 w hS tS sS (.inl rfl) (Nat.zero_le _) (by show 0 ≤ 1048576; omega) (fun i hi => absurd hi (Nat.not_lt_zero i))
theorem codeS0 (pS : Int) (aS : Option Addr) (S : List Int) (cS loS tpS : Nat) (w : World) (hS : RowIn loS tpS w aS S) (tS : tpS ≤ w.heap.size) (sS : S.length ≤ 1048576) :
    Calls Try.prog 54 #[.agg #[.int .i64 pS, .slice aS S.length cS], .slice none 0 0] w fun e w' => e = .returned (.int .i64 (stC pS S [])) ∧ Below w.heap.size w w' :=
  l09Code_any pS aS S cS loS tpS none [] 0 0 0 w hS tS sS (.inl rfl) (Nat.zero_le _) (by show 0 ≤ 1048576; omega) (fun i hi => absurd hi (Nat.not_lt_zero i))

end Go.Proofs.Ytmlbplkapnoncaa

namespace Go.Proofs.Ytmlbplkapnoncaa
open Go.RowKit
set_option linter.unusedVariables false

theorem tmod_neg {n p : Int} (hn : n < 0) (hp : 0 < p) : n.tmod p = -((-n) % p) := by
  have h : n = -(-n) := by omega
  rw [h, Int.neg_tmod, Int.tmod_eq_emod_of_nonneg (by omega)]
  simp
theorem tmod_facts {n p : Int} (hn : n < 0) (hp : 0 < p) : -p < n.tmod p ∧ n.tmod p ≤ 0 ∧ (n.tmod p < 0 → n.tmod p + p = n % p) ∧ (n.tmod p = 0 → n % p = 0) := by
  rw [tmod_neg hn hp]
  have h1 := Int.emod_nonneg (-n) (by omega : p ≠ 0)
  have h2 := Int.emod_lt_of_pos (-n) hp
  have h3 := Int.emod_nonneg n (by omega : p ≠ 0)
  have h4 := Int.emod_lt_of_pos n hp
  have h5 := Int.mul_ediv_add_emod (-n) p
  have h6 := Int.mul_ediv_add_emod n p
  have key : ∀ q : Int, (0 < (-n) % p + n % p - 0 → True) := fun _ _ => trivial
  have h7 : ((-n) % p + n % p) % p = 0 := by rw [← Int.add_emod, Int.add_left_neg]; simp
  refine ⟨by omega, by omega, fun h => ?_, fun h => ?_⟩
  · have h8 : (-n) % p + n % p = p := by
      by_cases hlt : (-n) % p + n % p < p
      · rw [Int.emod_eq_of_lt (by omega) hlt] at h7; omega
      · have h9 : ((-n) % p + n % p - p) % p = 0 := by rw [Int.sub_emod, h7]; simp
        rw [Int.emod_eq_of_lt (by omega) (by omega)] at h9; omega
    omega
  · have h8 : (-n) % p = 0 := by omega
    rw [h8, Int.zero_add, Int.emod_eq_of_lt h3 h4] at h7
    exact h7

set_option maxHeartbeats 400000 in
theorem remainderOf_any (p n : Int) (w : World) (hp : prm p = true) (n0 : -9223372036854775808 ≤ n) (n1 : n ≤ 9223372036854775807) :
    Calls Try.prog 151 #[.int .i64 p, .int .i64 n] w fun e w' => e = .returned (.agg #[.int .i64 p, .int .i64 (n % p)]) ∧ Below w.heap.size w w' := by
  have hb := prm_bd hp
  have hm := mod_bd hp n
  clear hp
  by_cases hn : 0 ≤ n
  · go_enter Try.func151, Try.ntmps151
    go_wp2
    exact bodyPost_ret (v := .agg #[.int .i64 p, .int .i64 (n % p)]) (by simp [results, Try.results151, go_sem]) rfl ⟨rfl, (Below.refl _ _).alloc (Nat.le_refl _) _⟩
  · obtain ⟨t1, t2, t3, t4⟩ := tmod_facts (n := n) (p := p) (by omega) (by omega)
    by_cases ht : n.tmod p < 0
    · have H := Lib.hid (t3 ht)
      clear t3 t4
      go_enter Try.func151, Try.ntmps151
      go_wp2
      rw [H.out]
      exact bodyPost_ret (v := .agg #[.int .i64 p, .int .i64 (n % p)]) (by simp [results, Try.results151, go_sem]) rfl ⟨rfl, (Below.refl _ _).alloc (Nat.le_refl _) _⟩
    · have H0 : Hid (n.tmod p = n % p) := by show n.tmod p = n % p; have : n.tmod p = 0 := by omega
                                             rw [t4 this, this]
      clear t3 t4
      go_enter Try.func151, Try.ntmps151
      go_wp2
      rw [H0.out]
      exact bodyPost_ret (v := .agg #[.int .i64 p, .int .i64 (n % p)]) (by simp [results, Try.results151, go_sem]) rfl ⟨rfl, (Below.refl _ _).alloc (Nat.le_refl _) _⟩

set_option maxHeartbeats 400000 in
theorem times_any (p a b : Int) (w : World) (hp : prm p = true) (a0 : 0 ≤ a) (a1 : a < p) (b0 : 0 ≤ b) (b1 : b < p) :
    Calls Try.prog 125 #[.agg #[.int .i64 p, .int .i64 a], .agg #[.int .i64 p, .int .i64 b]] w fun e w' => e = .returned (.agg #[.int .i64 p, .int .i64 (a * b % p)]) ∧ Below w.heap.size w w' := by
  have hb := prm_bd hp
  obtain ⟨m0, m1⟩ := mul_bd hp a0 a1 b0 b1
  have HP := Lib.hid hp
  clear hp
  go_enter Try.func125, Try.ntmps125
  go_wp2_with (go_at_call 151; refine (remainderOf_any _ _ _ HP.out (by omega) (by omega)).mono ?_; rintro e w1 ⟨rfl, hb1⟩; obtain ⟨hc, hf⟩ := bcell hb1)
  refine bodyPost_ret (v := .agg #[.int .i64 p, .int .i64 (a * b % p)]) (by simp [results, Try.results125, go_sem, hc]) rfl ⟨rfl, ?_⟩
  (have hs_hb1 := hb1.size; (repeat' (first | with_reducible exact Below.refl _ _ | (with_reducible refine Below.setCell ?_ ?_ _) | (with_reducible refine Below.alloc ?_ ?_ _) | (with_reducible refine Below.drew ?_) | (with_reducible refine below_step ?_ ?_ hb1))); all_goals (first | (simp; done) | omega | (simp; omega) | (simp at hs_hb1 ⊢; omega)))

end Go.Proofs.Ytmlbplkapnoncaa

namespace Go.Proofs.Ytmlbplkapnoncaa
open Go.RowKit
set_option linter.unusedVariables false

theorem field_value (x y : Value) (w : World) : (Instr.field 85 (.agg #[x, y]) 1).run Try.prog w = .ok y w := by kernel_rfl

/-- A number lies in a block: its prime and its value. -/
structure NumAt (w : World) (b : Nat) (p v : Int) : Prop where
  c0 : w.cell? ⟨b, 0, none⟩ = some (.int .i64 p)
  c1 : w.cell? ⟨b, 1, none⟩ = some (.int .i64 v)
  f0 : w.frozen? ⟨b, 0, none⟩ = false
  f1 : w.frozen? ⟨b, 1, none⟩ = false
theorem NumAt.keep {w w1 : World} {b : Nat} {p v : Int} (h : NumAt w b p v) (hb : Below w.heap.size w w1) (lt : b < w.heap.size) : NumAt w1 b p v :=
  ⟨(hb.cell (p := ⟨b, 0, none⟩) lt).trans h.c0, (hb.cell (p := ⟨b, 1, none⟩) lt).trans h.c1, (hb.frozen (p := ⟨b, 0, none⟩) lt).trans h.f0, (hb.frozen (p := ⟨b, 1, none⟩) lt).trans h.f1⟩
theorem NumAt.alloc {w : World} {b : Nat} {p v : Int} (h : NumAt w b p v) (lt : b < w.heap.size) (o : Obj) : NumAt (w.alloc o) b p v :=
  h.keep ((Below.refl _ _).alloc (Nat.le_refl _) o) lt
theorem numAt_new (w : World) (p v : Int) (t : TypeId) : NumAt (w.alloc (.cells #[.int .i64 p, .int .i64 v] t)) w.heap.size p v :=
  ⟨by simp [go_sem], by simp [go_sem], by simp [go_sem], by simp [go_sem]⟩
theorem NumAt.drew {w : World} {b : Nat} {p v : Int} (h : NumAt w b p v) : NumAt w.drew b p v := ⟨h.c0, h.c1, h.f0, h.f1⟩
theorem numAt_new1 (w : World) (o : Obj) (p v : Int) (t : TypeId) : NumAt ((w.alloc o).alloc (.cells #[.int .i64 p, .int .i64 v] t)) (w.heap.size + 1) p v := by
  simpa using numAt_new (w.alloc o) p v t
theorem NumAt.set {w : World} {b : Nat} {p v : Int} (h : NumAt w b p v) (q u : Int) : NumAt ((w.setCell ⟨b, 0, none⟩ (.int .i64 q)).setCell ⟨b, 1, none⟩ (.int .i64 u)) b q u :=
  ⟨by simp [go_sem, h.c0], by simp [go_sem, h.c1], by simp [go_sem, h.f0], by simp [go_sem, h.f1]⟩
theorem NumAt.far {w : World} {b c : Nat} {p v : Int} (h : NumAt w b p v) (hne : b ≠ c) (o : Nat) (x : Value) : NumAt (w.setCell ⟨c, o, none⟩ x) b p v :=
  ⟨(World.cell?_setCell_other _ _ _ _ (fun e => hne (by injection e with e1; exact e1.symm))).trans h.c0, (World.cell?_setCell_other _ _ _ _ (fun e => hne (by injection e with e1; exact e1.symm))).trans h.c1, by simp [go_sem, h.f0], by simp [go_sem, h.f1]⟩

end Go.Proofs.Ytmlbplkapnoncaa

namespace Go.Proofs.Ytmlbplkapnoncaa
open Go.RowKit
set_option linter.unusedVariables false

/-- Whether a term of grade g has come. -/
def cm (x : List Int) (left : Lit → Bool) (g : Nat) : Bool := (List.range x.length).any fun j => decide (gr j = g) && decide (x.getD j 0 ≠ 0) && !(td left j)
end Go.Proofs.Ytmlbplkapnoncaa

namespace Go.Proofs.Ytmlbplkapnoncaa
open Go.RowKit
set_option linter.unusedVariables false

theorem OutR.more {B : Nat} {w1 : World} {v' : Value} {zs ys : List Int} {N : Nat} {X : List Value} {k : Int} (hX : X = zs.map (Value.int .i64)) (hN : N = zs.length) (hs : ys = zs ++ [k]) (h1 : w1.ownsRow B 2 1 v' (N + 1) (X ++ [.int .i64 k])) : OutR B w1 v' ys := by
  subst hs hN hX
  unfold OutR
  rw [List.length_append, List.map_append]
  exact h1
end Go.Proofs.Ytmlbplkapnoncaa
