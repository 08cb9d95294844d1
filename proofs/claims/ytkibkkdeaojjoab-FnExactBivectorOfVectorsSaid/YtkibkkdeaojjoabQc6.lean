/-
  Checks of spaces and lists of vectors in the program; of vectors in the model.
  Conditions: the lists are nil or rows of known cells, of at most 1048576 numbers.
  Multivectors: sizes, codes, grades; what chapter 4 makes of them. No Go in sight.
  No conditions.
  Geometric products: signs and factors of blades, their sums, associativity, the unit. No Go in sight.
  No conditions.
-/
import Derived.Test.YtkibkkdeaojjoabQc5
namespace Go.Proofs.Ytkibkkdeaojjoab
open Go.RowKit
set_option linter.unusedVariables false

def code1 (p : Int) (S : List Int) : Int := if isSp p S = true then 0 else 1
theorem code1_yes {p : Int} {S : List Int} (h : isSp p S = true) : code1 p S = 0 := if_pos h
theorem code1_no {p : Int} {S : List Int} (h : isSp p S = false) : code1 p S = 1 := if_neg (by simp [h])
def codeVs (p : Int) (S : List Int) (m : List (List Int)) : Int := if isSp p S = true then (if m.all (isVec p S.length) = true then 0 else 2) else 1
theorem codeVs_sp {p : Int} {S : List Int} {m : List (List Int)} (h : isSp p S = false) : codeVs p S m = 1 := if_neg (by simp [h])
theorem codeVs_ok {p : Int} {S : List Int} {m : List (List Int)} (h : isSp p S = true) (k : m.all (isVec p S.length) = true) : codeVs p S m = 0 := by unfold codeVs; rw [if_pos h, if_pos k]
theorem codeVs_no {p : Int} {S : List Int} {m : List (List Int)} (h : isSp p S = true) (k : m.all (isVec p S.length) = false) : codeVs p S m = 2 := by unfold codeVs; rw [if_pos h, if_neg (by simp [k])]
theorem codeVs_cases (p : Int) (S : List Int) (m : List (List Int)) : (isSp p S = false ∧ codeVs p S m = 1) ∨ (isSp p S = true ∧ m.all (isVec p S.length) = true ∧ codeVs p S m = 0) ∨ (isSp p S = true ∧ m.all (isVec p S.length) = false ∧ codeVs p S m = 2) := by
  by_cases h : isSp p S = true
  · by_cases k : m.all (isVec p S.length) = true
    · exact .inr (.inl ⟨h, k, codeVs_ok h k⟩)
    · have k' : m.all (isVec p S.length) = false := by simpa using k
      exact .inr (.inr ⟨h, k', codeVs_no h k'⟩)
  · have h' : isSp p S = false := by simpa using h
    exact .inl ⟨h', codeVs_sp h'⟩

theorem checkSp1 (p : Int) (a : Option Addr) (S : List Int) (c lo tp cap b : Nat) (W : World) (T : TypeId) (hb' : b = W.heap.size) (hS : RowIn lo tp W a S) (tS : tp ≤ W.heap.size) (sS : S.length ≤ 1048576) :
    Calls Try.prog 68 #[.slice (some ⟨b, 0, none⟩) 1 cap] (W.alloc (.cells #[.int .i64 p, .slice a S.length c] T)) fun e w' => e = .returned (.int .i64 (code1 p S)) ∧ Below (W.alloc (.cells #[.int .i64 p, .slice a S.length c] T)).heap.size (W.alloc (.cells #[.int .i64 p, .slice a S.length c] T)) w' := by
  subst hb'
  refine (checkSpaces_any W.heap.size 1 cap (fun _ => p) (fun _ => a) (fun _ => S) (fun _ => c) (fun _ => lo) (fun _ => tp) _ ⟨lt_alloc W _, fun i hi => ?_⟩ (by omega)).mono ?_
  · have : i = 0 := by omega
    subst this
    exact ⟨nw0 W _ _ T, nw1 W _ _ T, hS.below (below_alloc W _) tS, by simp; omega, sS⟩
  · rintro e w' ⟨c', rfl, hb, h⟩
    refine ⟨?_, hb⟩
    rcases h with ⟨rfl, h⟩ | ⟨rfl, i, hi, h⟩
    · rw [code1_yes (h 0 (by omega))]
    · rw [code1_no h]
theorem all_take_vec {f : List Int → Bool} {m : List (List Int)} {i : Nat} (hi : i < m.length) : (m.take (i + 1)).all f = ((m.take i).all f && f (rw' m i)) := by
  rw [List.take_succ_eq_append_getElem hi, List.all_append]
  simp [rw', hi]
theorem all_false_vec {f : List Int → Bool} {m : List (List Int)} {i : Nat} (hi : i < m.length) (h : f (rw' m i) = false) : m.all f = false := by
  rw [List.all_eq_false]
  exact ⟨rw' m i, mem_row hi, by simp [h]⟩

set_option maxRecDepth 100000 in
set_option maxHeartbeats 1600000 in
theorem checkVectors_any (p : Int) (aS : Option Addr) (S : List Int) (cS loS tpS : Nat) (am : Option Addr) (m : List (List Int)) (cm lom tpm : Nat) (w : World)
    (hS : RowIn loS tpS w aS S) (tS : tpS ≤ w.heap.size) (sS : S.length ≤ 1048576) (hm : MatIn lom tpm w am m) (tm : tpm ≤ w.heap.size) (sm : m.length ≤ 1048576) (sr : ∀ i, i < m.length → (rw' m i).length ≤ 1048576) :
    Calls Try.prog 76 #[.agg #[.int .i64 p, .slice aS S.length cS], .slice am m.length cm] w fun e w' => e = .returned (.int .i64 (codeVs p S m)) ∧ Below w.heap.size w w' := by
  have HS := Lib.hid hS
  have HM := Lib.hid hm
  have HT := Lib.hid sr
  clear hS hm sr
  by_cases h : isSp p S = true
  · have HI := Lib.hid h
    have HC := Lib.hid (code1_yes h)
    clear h
    go_enter Try.func76, Try.ntmps76
    go_wp2_with (go_at_call 68; (with_reducible refine (checkSp1 p aS S cS loS tpS _ (w.heap.size + 1) _ _ (by simp) (HS.out.below (below_alloc _ _) tS) (by simp; omega) sS).mono ?_); rintro e w2 ⟨rfl, hb2⟩; rw [HC.out]; have HB := Lib.hid hb2; clear hb2)
    have HBW : Hid (Below w.heap.size w w2) := below_step (((below_alloc _ _)).alloc (by simp) _) (by simp; omega) HB.out
    have hc0 := (HB.out.cell (p := ⟨w.heap.size, 0, none⟩) (by simp; omega)).trans ((World.cell?_alloc_old _ _ _ (by simp)).trans (nw0 w _ _ _))
    have hc1 := (HB.out.cell (p := ⟨w.heap.size, 1, none⟩) (by simp; omega)).trans ((World.cell?_alloc_old _ _ _ (by simp)).trans (nw1 w _ _ _))
    have hwz := HBW.out.size
    have HM2 := Lib.hid (HM.out.below HBW.out tm)
    clear HB
    go_loop [16] (fun t => ∃ i : Nat, i ≤ m.length ∧ t = .int .i64 i ∧ (m.take i).all (isVec p S.length) = true) (fun t => m.length - (intOf t).toNat)
    case atStart => exact ⟨0, Nat.zero_le _, rfl, rfl⟩
    case round =>
      obtain ⟨i, hi, rfl, hA⟩ := hrel
      have HA := Lib.hid hA
      clear hA
      by_cases hlt : i < m.length
      · obtain ⟨b1, o1, r, c1, ha1, _, _, hr, hrow⟩ := HM2.out.row hlt
        subst ha1
        have hl := HT.out i hlt
        have HR := Lib.hid hrow
        have hi1 : (i : Int) < (m.length : Int) := by omega
        clear hrow
        by_cases hv : isVec p S.length (rw' m i) = true
        · have HV := Lib.hid hv
          have HVV : Hid ((decide ((rw' m i).length = S.length) && (rw' m i).all (inr p)) = true) := hv
          clear hv
          go_wp2_with (go_at_call 108; (with_reducible refine (isVector_any p r (rw' m i) c1 S.length lom tpm _ (isSp_iff.1 HI.out).prime HR.out hl (by omega)).mono ?_); rintro e w3 ⟨rfl, rfl⟩; rw [HVV.out])
          go_round
          case rel => exact ⟨i + 1, by omega, by go_num, by rw [all_take_vec hlt, HA.out, HV.out]; rfl⟩
          case measure => simp [intOf]; omega
        · have HV : Hid (isVec p S.length (rw' m i) = false) := by show _ = _; simpa using hv
          have HVV : Hid ((decide ((rw' m i).length = S.length) && (rw' m i).all (inr p)) = false) := HV.out
          have HCV := Lib.hid (codeVs_no HI.out (all_false_vec hlt HV.out))
          clear hv
          go_wp2_with (go_at_call 108; (with_reducible refine (isVector_any p r (rw' m i) c1 S.length lom tpm _ (isSp_iff.1 HI.out).prime HR.out hl (by omega)).mono ?_); rintro e w3 ⟨rfl, rfl⟩; rw [HVV.out])
          go_ret
          exact ⟨by rw [HCV.out]; rfl, HBW.out⟩
      · have HCV : Hid (codeVs p S m = 0) := codeVs_ok HI.out (by have h := HA.out; rwa [List.take_of_length_le (by omega)] at h)
        go_wp2
        go_ret
        exact ⟨by rw [HCV.out]; rfl, HBW.out⟩
  · have HI : Hid (isSp p S = false) := by show _ = _; simpa using h
    have HC := Lib.hid (code1_no HI.out)
    have HCV : Hid (codeVs p S m = 1) := codeVs_sp HI.out
    clear h
    go_enter Try.func76, Try.ntmps76
    go_wp2_with (go_at_call 68; (with_reducible refine (checkSp1 p aS S cS loS tpS _ (w.heap.size + 1) _ _ (by simp) (HS.out.below (below_alloc _ _) tS) (by simp; omega) sS).mono ?_); rintro e w2 ⟨rfl, hb2⟩; rw [HC.out]; have HB := Lib.hid hb2; clear hb2)
    go_ret
    exact ⟨by rw [HCV.out]; rfl, below_step (((below_alloc _ _)).alloc (by simp) _) (by simp; omega) HB.out⟩

theorem l03Vector_any (p : Int) (aS : Option Addr) (S : List Int) (cS : Nat) (av : Option Addr) (v : List Int) (cv lov tpv : Nat) (w : World) (hp : prm p = true) (sS : S.length ≤ 1048576) (hv : RowIn lov tpv w av v) (tv : tpv ≤ w.heap.size) (sv : v.length ≤ 1048576) :
    Calls Try.prog 130 #[.agg #[.int .i64 p, .slice aS S.length cS], .slice av v.length cv] w fun e w' => e = .returned (.bool (isVec p S.length v)) ∧ Below w.heap.size w w' := by
  have HV := Lib.hid hv
  have HP := Lib.hid hp
  clear hv hp
  by_cases h : v.length = S.length
  · have HI : Hid (isVec p S.length v = v.all (inr p)) := by show _ = _; unfold isVec; simp [h]
    have HL := Lib.hid h
    have e1 : ((v.length : Int) == (S.length : Int)) = true := by simp [h]
    rw [HI.out]
    clear h
    by_cases ha : v.all (inr p) = true
    · have HA := Lib.hid ha
      clear ha
      go_enter Try.func130, Try.ntmps130
      go_wp2_with (go_at_call 97; (with_reducible refine (numsRow p av v cv lov tpv _ HP.out (HV.out.below (below_alloc _ _) tv) (by omega)).mono ?_); rintro e w1 ⟨rfl, rfl⟩; rw [HA.out])
      go_ret
      exact ⟨by rw [HA.out]; rfl, below_alloc _ _⟩
    · have HA : Hid (v.all (inr p) = false) := by show _ = _; simpa using ha
      clear ha
      go_enter Try.func130, Try.ntmps130
      go_wp2_with (go_at_call 97; (with_reducible refine (numsRow p av v cv lov tpv _ HP.out (HV.out.below (below_alloc _ _) tv) (by omega)).mono ?_); rintro e w1 ⟨rfl, rfl⟩; rw [HA.out])
      go_ret
      exact ⟨by rw [HA.out]; rfl, below_alloc _ _⟩
  · have HI : Hid (isVec p S.length v = false) := by show _ = _; unfold isVec; simp [h]
    have e1 : ((v.length : Int) == (S.length : Int)) = false := by simp; omega
    have e2 : decide ((v.length : Int) = (S.length : Int)) = false := by simp; omega
    clear h
    go_enter Try.func130, Try.ntmps130
    go_wp2
    go_ret
    exact ⟨by rw [HI.out]; rfl, below_alloc _ _⟩

end Go.Proofs.Ytkibkkdeaojjoab

namespace Go.Proofs.Ytkibkkdeaojjoab
open Go.RowKit
set_option linter.unusedVariables false

/-- How many blades there are. -/
def bl (S : List Int) : Nat := 2 ^ S.length
theorem bl_le {S : List Int} (h : S.length ≤ 6) : bl S ≤ 64 := Nat.pow_le_pow_right (by decide) h
theorem bl_pos (S : List Int) : 0 < bl S := Nat.two_pow_pos _
def isMv (p : Int) (S x : List Int) : Bool := isVec p (bl S) x
def codeMv (p : Int) (S : List Int) (m : List (List Int)) : Int := if isSp p S = true then (if m.all (isMv p S) = true then 0 else 2) else 1
theorem codeMv_sp {p : Int} {S : List Int} {m : List (List Int)} (h : isSp p S = false) : codeMv p S m = 1 := if_neg (by simp [h])
theorem codeMv_ok {p : Int} {S : List Int} {m : List (List Int)} (h : isSp p S = true) (k : m.all (isMv p S) = true) : codeMv p S m = 0 := by unfold codeMv; rw [if_pos h, if_pos k]
theorem codeMv_no {p : Int} {S : List Int} {m : List (List Int)} (h : isSp p S = true) (k : m.all (isMv p S) = false) : codeMv p S m = 2 := by unfold codeMv; rw [if_pos h, if_neg (by simp [k])]
theorem codeMv_cases (p : Int) (S : List Int) (m : List (List Int)) : (isSp p S = false ∧ codeMv p S m = 1) ∨ (isSp p S = true ∧ m.all (isMv p S) = true ∧ codeMv p S m = 0) ∨ (isSp p S = true ∧ m.all (isMv p S) = false ∧ codeMv p S m = 2) := by
  by_cases h : isSp p S = true
  · by_cases k : m.all (isMv p S) = true
    · exact .inr (.inl ⟨h, k, codeMv_ok h k⟩)
    · have k' : m.all (isMv p S) = false := by simpa using k
      exact .inr (.inr ⟨h, k', codeMv_no h k'⟩)
  · have h' : isSp p S = false := by simpa using h
    exact .inl ⟨h', codeMv_sp h'⟩
theorem codeMv_zero {p : Int} {S : List Int} {m : List (List Int)} : codeMv p S m = 0 ↔ isSp p S = true ∧ m.all (isMv p S) = true := by
  rcases codeMv_cases p S m with ⟨h, c⟩ | ⟨h, k, c⟩ | ⟨h, k, c⟩ <;> rw [c]
  · exact ⟨fun e => (by cases e), fun e => (by have e1 := e.1; rw [h] at e1; cases e1)⟩
  · exact ⟨fun _ => ⟨h, k⟩, fun _ => rfl⟩
  · exact ⟨fun e => (by cases e), fun e => (by have e1 := e.2; rw [k] at e1; cases e1)⟩
theorem mv_all2 (f : List Int → Bool) (x y : List Int) : [x, y].all f = (f x && f y) := by simp

/-- The grade of a blade. -/
def gr (m : Nat) : Nat := m % 2 + m / 2 % 2 + m / 4 % 2 + m / 8 % 2 + m / 16 % 2 + m / 32 % 2
theorem gr_step {m : Nat} (h : m < 64) : gr m = m % 2 + gr (m / 2) := by unfold gr; omega
theorem gr_le (m : Nat) : gr m ≤ 6 := by unfold gr; omega
theorem gr_zero : gr 0 = 0 := rfl
/-- What chapter 4 makes of multivectors. -/
def vecF (v : List Int) : Nat → Nat → Int
  | 0, _ => 0
  | i + 1, m => if m = 2 ^ i then v.getD i 0 else vecF v i m
end Go.Proofs.Ytkibkkdeaojjoab

namespace Go.Proofs.Ytkibkkdeaojjoab
open Go.RowKit
set_option linter.unusedVariables false

/-- A sign. -/
def eps (k : Nat) : Int := if k % 2 = 1 then -1 else 1
/-- What the basis vector i of a blade b brings with it behind the blade a. -/
def gi (S : List Int) (a b i : Nat) : Int := if b / 2 ^ i % 2 = 1 then eps (gr (a / 2 ^ (i + 1))) * (if a / 2 ^ i % 2 = 1 then S.getD i 0 else 1) else 1
/-- The factor of the product of two blades, over the first n basis vectors of the second one. -/
def fz (S : List Int) (a b : Nat) : Nat → Int
  | 0 => 1
  | n + 1 => fz S a b n * gi S a b n
theorem bit_add {b i n : Nat} (h : i < n) : (b + 2 ^ n) / 2 ^ i % 2 = b / 2 ^ i % 2 := by
  obtain ⟨d, rfl⟩ : ∃ d, n = i + 1 + d := ⟨n - i - 1, by omega⟩
  have e : (2 : Nat) ^ (i + 1 + d) = 2 ^ d * 2 * 2 ^ i := by rw [Nat.pow_add, Nat.pow_succ, Nat.mul_comm (2 ^ i * 2), Nat.mul_comm (2 ^ i), Nat.mul_assoc]
  rw [e, Nat.add_mul_div_right _ _ (Nat.two_pow_pos i)]
  omega
theorem fz_add (S : List Int) (a b N : Nat) : ∀ n, n ≤ N → fz S a (b + 2 ^ N) n = fz S a b n
  | 0, _ => rfl
  | n + 1, h => by simp only [fz]; rw [fz_add S a b N n (by omega)]; unfold gi; rw [bit_add (by omega)]

theorem xor_back (a c : Nat) : a ^^^ (a ^^^ c) = c := by rw [← Nat.xor_assoc, Nat.xor_self, Nat.zero_xor]
theorem em_l (a b p : Int) : (a % p * b) % p = (a * b) % p := by rw [Int.mul_emod, Int.emod_emod, ← Int.mul_emod]
theorem em_r (a b p : Int) : (a * (b % p)) % p = (a * b) % p := by rw [Int.mul_emod, Int.emod_emod, ← Int.mul_emod]
theorem em_sub (a p : Int) : (p - a % p) % p = (-a) % p := by
  rw [Int.sub_emod, Int.emod_self, Int.emod_emod, ← Int.zero_sub a, Int.sub_emod 0 a, Int.zero_emod]
/-- The factor, as a number of the prime. -/
def fm (p : Int) (S : List Int) (a b n : Nat) : Int := fz S a b n % p
theorem fm_bd {p : Int} (hp : 0 < p) (S : List Int) (a b n : Nat) : 0 ≤ fm p S a b n ∧ fm p S a b n < p := ⟨Int.emod_nonneg _ (by omega), Int.emod_lt_of_pos _ hp⟩
theorem fm_zero {p : Int} (hp : 1 < p) (S : List Int) (a b : Nat) : fm p S a b 0 = 1 := Int.emod_eq_of_lt (by show (0 : Int) ≤ 1; decide) hp
theorem fm_skip (p : Int) (S : List Int) {a b n : Nat} (h : b / 2 ^ n % 2 = 0) : fm p S a b (n + 1) = fm p S a b n := by
  show fz S a b n * gi S a b n % p = fz S a b n % p
  unfold gi
  rw [if_neg (by omega), Int.mul_one]
theorem fm_add (p : Int) (S : List Int) (a b n : Nat) : fm p S a (b + 2 ^ n) n = fm p S a b n := by
  unfold fm; rw [fz_add S a b n n (Nat.le_refl _)]
/-- What the program multiplies by. -/
def fi (p : Int) (S : List Int) (a i : Nat) : Int := if a / 2 ^ i % 2 = 1 then (if gr (a / 2 ^ (i + 1)) % 2 = 1 then p - 1 else 1) * S.getD i 0 % p else (if gr (a / 2 ^ (i + 1)) % 2 = 1 then p - 1 else 1)
theorem fm_step (p : Int) (S : List Int) {a b n : Nat} (h : b / 2 ^ n % 2 = 1) : fm p S a b (n + 1) = fm p S a b n * fi p S a n % p := by
  show fz S a b n * gi S a b n % p = fz S a b n % p * fi p S a n % p
  rw [em_l]
  unfold gi fi eps
  rw [if_pos h]
  have e : ∀ s : Int, (p - 1) * s = -1 * s + p * s := fun s => by rw [Int.sub_mul]; omega
  by_cases h1 : gr (a / 2 ^ (n + 1)) % 2 = 1 <;> by_cases h2 : a / 2 ^ n % 2 = 1
  · rw [if_pos h1, if_pos h1, if_pos h2, if_pos h2, em_r, ← em_r _ ((p - 1) * _), e, Int.add_mul_emod_self_left, em_r]
  · rw [if_pos h1, if_pos h1, if_neg h2, if_neg h2, ← em_r _ (p - 1), Int.sub_emod_left, em_r]; rfl
  · rw [if_neg h1, if_neg h1, if_pos h2, if_pos h2, em_r]
  · rw [if_neg h1, if_neg h1, if_neg h2, if_neg h2]; congr 1
/-- What the model makes of it. -/
def fo (p : Int) (S : List Int) (a i : Nat) (o : Int) : Int := if a / 2 ^ i % 2 = 1 then (if gr (a / 2 ^ (i + 1)) % 2 = 1 then (p - o) % p else o) * S.getD i 0 % p else (if gr (a / 2 ^ (i + 1)) % 2 = 1 then (p - o) % p else o)
theorem fm_model (p : Int) (S : List Int) {a b n : Nat} (h : b / 2 ^ n % 2 = 1) : fo p S a n (fm p S a b n) = fm p S a b (n + 1) := by
  show _ = fz S a b n * gi S a b n % p
  unfold gi fo eps fm
  rw [if_pos h]
  by_cases h1 : gr (a / 2 ^ (n + 1)) % 2 = 1 <;> by_cases h2 : a / 2 ^ n % 2 = 1
  · rw [if_pos h1, if_pos h1, if_pos h2, if_pos h2, em_l, ← em_l, em_sub, em_l]; congr 1; rw [← Int.mul_assoc]; congr 1; omega
  · rw [if_pos h1, if_pos h1, if_neg h2, if_neg h2, em_sub]; congr 1; omega
  · rw [if_neg h1, if_neg h1, if_pos h2, if_pos h2, em_l, Int.one_mul]
  · rw [if_neg h1, if_neg h1, if_neg h2, if_neg h2]; congr 1; omega

/-- One product of three numbers. -/
def tm (p : Int) (S x y : List Int) (c a : Nat) : Int := x.getD a 0 * fm p S a (a ^^^ c) S.length * y.getD (a ^^^ c) 0
end Go.Proofs.Ytkibkkdeaojjoab
