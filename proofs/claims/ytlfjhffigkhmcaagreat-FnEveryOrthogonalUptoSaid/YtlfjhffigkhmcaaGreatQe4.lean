/-
  Checks of spaces and lists of vectors in the program; of vectors in the model.
  Conditions: the lists are nil or rows of known cells, of at most 1048576 numbers.
  Multivectors: sizes, codes, grades; what chapter 4 makes of them. No Go in sight.
  No conditions.
-/
import Derived.Test.YtlfjhffigkhmcaaGreatQe3
namespace Go.Proofs.YtlfjhffigkhmcaaGreat
open Go.RowKit
set_option linter.unusedVariables false

def code1 (p : Int) (S : List Int) : Int := if isSp p S = true then 0 else 1
theorem code1_yes {p : Int} {S : List Int} (h : isSp p S = true) : code1 p S = 0 := if_pos h
theorem code1_no {p : Int} {S : List Int} (h : isSp p S = false) : code1 p S = 1 := if_neg (by simp [h])
def codeVs (p : Int) (S : List Int) (m : List (List Int)) : Int := if isSp p S = true then (if m.all (isVec p S.length) = true then 0 else 2) else 1
theorem codeVs_sp {p : Int} {S : List Int} {m : List (List Int)} (h : isSp p S = false) : codeVs p S m = 1 := if_neg (by simp [h])
theorem codeVs_ok {p : Int} {S : List Int} {m : List (List Int)} (h : isSp p S = true) (k : m.all (isVec p S.length) = true) : codeVs p S m = 0 := by unfold codeVs; rw [if_pos h, if_pos k]
theorem codeVs_no {p : Int} {S : List Int} {m : List (List Int)} (h : isSp p S = true) (k : m.all (isVec p S.length) = false) : codeVs p S m = 2 := by unfold codeVs; rw [if_pos h, if_neg (by simp [k])]
theorem codeVs_cases (p : Int) (S : List Int) (m : List (List Int)) : (isSp p S = false ∧ codeVs p S m = 1) ∨ (isSp p S = true ∧ m.all (isVec p S.length) = true ∧ codeVs p S m = 0) ∨ (isSp p S = true ∧ m.all (isVec p S.length) = false ∧ codeVs p S m = 2) := by
  by_cases h : isSp p S = true
  · by_cases k : m.all (isVec p S.length) = true
    · exact .inr (.inl ⟨h, k, codeVs_ok h k⟩)
    · have k' : m.all (isVec p S.length) = false := by simpa using k
      exact .inr (.inr ⟨h, k', codeVs_no h k'⟩)
  · have h' : isSp p S = false := by simpa using h
    exact .inl ⟨h', codeVs_sp h'⟩

theorem checkSp1 (p : Int) (a : Option Addr) (S : List Int) (c lo tp cap b : Nat) (W : World) (T : TypeId) (hb' : b = W.heap.size) (hS : RowIn lo tp W a S) (tS : tp ≤ W.heap.size) (sS : S.length ≤ 1048576) :
    Calls Tryz.prog 56 #[.slice (some ⟨b, 0, none⟩) 1 cap] (W.alloc (.cells #[.int .i64 p, .slice a S.length c] T)) fun e w' => e = .returned (.int .i64 (code1 p S)) ∧ Below (W.alloc (.cells #[.int .i64 p, .slice a S.length c] T)).heap.size (W.alloc (.cells #[.int .i64 p, .slice a S.length c] T)) w' := by
  subst hb'
  refine (checkSpaces_any W.heap.size 1 cap (fun _ => p) (fun _ => a) (fun _ => S) (fun _ => c) (fun _ => lo) (fun _ => tp) _ ⟨lt_alloc W _, fun i hi => ?_⟩ (by omega)).mono ?_
  · have : i = 0 := by omega
    subst this
    exact ⟨nw0 W _ _ T, nw1 W _ _ T, hS.below (below_alloc W _) tS, by simp; omega, sS⟩
  · rintro e w' ⟨c', rfl, hb, h⟩
    refine ⟨?_, hb⟩
    rcases h with ⟨rfl, h⟩ | ⟨rfl, i, hi, h⟩
    · rw [code1_yes (h 0 (by omega))]
    · rw [code1_no h]
theorem checkSp2 (p q : Int) (a a' : Option Addr) (S S' : List Int) (c c' lo tp lo' tp' cap b : Nat) (W : World) (T : TypeId) (hb' : b = W.heap.size) (hS : RowIn lo tp W a S) (tS : tp ≤ W.heap.size) (sS : S.length ≤ 1048576) (hS' : RowIn lo' tp' W a' S') (tS' : tp' ≤ W.heap.size) (sS' : S'.length ≤ 1048576) :
    Calls Tryz.prog 56 #[.slice (some ⟨b, 0, none⟩) 2 cap] (W.alloc (.cells #[.int .i64 p, .slice a S.length c, .int .i64 q, .slice a' S'.length c'] T)) fun e w' => e = .returned (.int .i64 (if isSp p S = true ∧ isSp q S' = true then 0 else 1)) ∧ Below (W.alloc (.cells #[.int .i64 p, .slice a S.length c, .int .i64 q, .slice a' S'.length c'] T)).heap.size (W.alloc (.cells #[.int .i64 p, .slice a S.length c, .int .i64 q, .slice a' S'.length c'] T)) w' := by
  subst hb'
  refine (checkSpaces_any W.heap.size 2 cap (fun i => if i = 0 then p else q) (fun i => if i = 0 then a else a') (fun i => if i = 0 then S else S') (fun i => if i = 0 then c else c') (fun i => if i = 0 then lo else lo') (fun i => if i = 0 then tp else tp') _ ⟨lt_alloc W _, fun i hi => ?_⟩ (by omega)).mono ?_
  · by_cases e : i = 0
    · subst e
      exact ⟨by simp [go_sem], by simp [go_sem], hS.below (below_alloc W _) tS, by simp; omega, sS⟩
    · have : i = 1 := by omega
      subst this
      exact ⟨by simp [go_sem], by simp [go_sem], hS'.below (below_alloc W _) tS', by simp; omega, sS'⟩
  · rintro e w' ⟨k, rfl, hb, h⟩
    refine ⟨?_, hb⟩
    rcases h with ⟨rfl, h⟩ | ⟨rfl, i, hi, h⟩
    · have h0 := h 0 (by omega)
      have h1 := h 1 (by omega)
      simp at h0 h1
      rw [if_pos ⟨h0, h1⟩]
    · by_cases e : i = 0
      · subst e
        simp at h
        rw [if_neg (fun k => by rw [k.1] at h; cases h)]
      · have : i = 1 := by omega
        subst this
        simp at h
        rw [if_neg (fun k => by rw [k.2] at h; cases h)]

theorem all_take_vec {f : List Int → Bool} {m : List (List Int)} {i : Nat} (hi : i < m.length) : (m.take (i + 1)).all f = ((m.take i).all f && f (rw' m i)) := by
  rw [List.take_succ_eq_append_getElem hi, List.all_append]
  simp [rw', hi]
theorem all_false_vec {f : List Int → Bool} {m : List (List Int)} {i : Nat} (hi : i < m.length) (h : f (rw' m i) = false) : m.all f = false := by
  rw [List.all_eq_false]
  exact ⟨rw' m i, mem_row hi, by simp [h]⟩

set_option maxRecDepth 100000 in
set_option maxHeartbeats 1600000 in
theorem checkVectors_any (p : Int) (aS : Option Addr) (S : List Int) (cS loS tpS : Nat) (am : Option Addr) (m : List (List Int)) (cm lom tpm : Nat) (w : World)
    (hS : RowIn loS tpS w aS S) (tS : tpS ≤ w.heap.size) (sS : S.length ≤ 1048576) (hm : MatIn lom tpm w am m) (tm : tpm ≤ w.heap.size) (sm : m.length ≤ 1048576) (sr : ∀ i, i < m.length → (rw' m i).length ≤ 1048576) :
    Calls Tryz.prog 47 #[.agg #[.int .i64 p, .slice aS S.length cS], .slice am m.length cm] w fun e w' => e = .returned (.int .i64 (codeVs p S m)) ∧ Below w.heap.size w w' := by
  have HS := Lib.hid hS
  have HM := Lib.hid hm
  have HT := Lib.hid sr
  clear hS hm sr
  by_cases h : isSp p S = true
  · have HI := Lib.hid h
    have HC := Lib.hid (code1_yes h)
    clear h
    go_enter Tryz.func47, Tryz.ntmps47
    go_wp2_with (go_at_call 56; (with_reducible refine (checkSp1 p aS S cS loS tpS _ (w.heap.size + 1) _ _ (by simp) (HS.out.below (below_alloc _ _) tS) (by simp; omega) sS).mono ?_); rintro e w2 ⟨rfl, hb2⟩; rw [HC.out]; have HB := Lib.hid hb2; clear hb2)
    have HBW : Hid (Below w.heap.size w w2) := below_step (((below_alloc _ _)).alloc (by simp) _) (by simp; omega) HB.out
    have hc0 := (HB.out.cell (p := ⟨w.heap.size, 0, none⟩) (by simp; omega)).trans ((World.cell?_alloc_old _ _ _ (by simp)).trans (nw0 w _ _ _))
    have hc1 := (HB.out.cell (p := ⟨w.heap.size, 1, none⟩) (by simp; omega)).trans ((World.cell?_alloc_old _ _ _ (by simp)).trans (nw1 w _ _ _))
    have hwz := HBW.out.size
    have HM2 := Lib.hid (HM.out.below HBW.out tm)
    clear HB
    go_loop [16] (fun t => ∃ i : Nat, i ≤ m.length ∧ t = .int .i64 i ∧ (m.take i).all (isVec p S.length) = true) (fun t => m.length - (intOf t).toNat)
    case atStart => exact ⟨0, Nat.zero_le _, rfl, rfl⟩
    case round =>
      obtain ⟨i, hi, rfl, hA⟩ := hrel
      have HA := Lib.hid hA
      clear hA
      by_cases hlt : i < m.length
      · obtain ⟨b1, o1, r, c1, ha1, _, _, hr, hrow⟩ := HM2.out.row hlt
        subst ha1
        have hl := HT.out i hlt
        have HR := Lib.hid hrow
        have hi1 : (i : Int) < (m.length : Int) := by omega
        clear hrow
        by_cases hv : isVec p S.length (rw' m i) = true
        · have HV := Lib.hid hv
          have HVV : Hid ((decide ((rw' m i).length = S.length) && (rw' m i).all (inr p)) = true) := hv
          clear hv
          go_wp2_with (go_at_call 57; (with_reducible refine (isVector_any p r (rw' m i) c1 S.length lom tpm _ (isSp_iff.1 HI.out).prime HR.out hl (by omega)).mono ?_); rintro e w3 ⟨rfl, rfl⟩; rw [HVV.out])
          go_round
          case rel => exact ⟨i + 1, by omega, by go_num, by rw [all_take_vec hlt, HA.out, HV.out]; rfl⟩
          case measure => simp [intOf]; omega
        · have HV : Hid (isVec p S.length (rw' m i) = false) := by show _ = _; simpa using hv
          have HVV : Hid ((decide ((rw' m i).length = S.length) && (rw' m i).all (inr p)) = false) := HV.out
          have HCV := Lib.hid (codeVs_no HI.out (all_false_vec hlt HV.out))
          clear hv
          go_wp2_with (go_at_call 57; (with_reducible refine (isVector_any p r (rw' m i) c1 S.length lom tpm _ (isSp_iff.1 HI.out).prime HR.out hl (by omega)).mono ?_); rintro e w3 ⟨rfl, rfl⟩; rw [HVV.out])
          go_ret
          exact ⟨by rw [HCV.out]; rfl, HBW.out⟩
      · have HCV : Hid (codeVs p S m = 0) := codeVs_ok HI.out (by have h := HA.out; rwa [List.take_of_length_le (by omega)] at h)
        go_wp2
        go_ret
        exact ⟨by rw [HCV.out]; rfl, HBW.out⟩
  · have HI : Hid (isSp p S = false) := by show _ = _; simpa using h
    have HC := Lib.hid (code1_no HI.out)
    have HCV : Hid (codeVs p S m = 1) := codeVs_sp HI.out
    clear h
    go_enter Tryz.func47, Tryz.ntmps47
    go_wp2_with (go_at_call 56; (with_reducible refine (checkSp1 p aS S cS loS tpS _ (w.heap.size + 1) _ _ (by simp) (HS.out.below (below_alloc _ _) tS) (by simp; omega) sS).mono ?_); rintro e w2 ⟨rfl, hb2⟩; rw [HC.out]; have HB := Lib.hid hb2; clear hb2)
    go_ret
    exact ⟨by rw [HCV.out]; rfl, below_step (((below_alloc _ _)).alloc (by simp) _) (by simp; omega) HB.out⟩

end Go.Proofs.YtlfjhffigkhmcaaGreat

namespace Go.Proofs.YtlfjhffigkhmcaaGreat
open Go.RowKit
set_option linter.unusedVariables false

/-- How many blades there are. -/
def bl (S : List Int) : Nat := 2 ^ S.length
theorem bl_le {S : List Int} (h : S.length ≤ 6) : bl S ≤ 64 := Nat.pow_le_pow_right (by decide) h
theorem bl_pos (S : List Int) : 0 < bl S := Nat.two_pow_pos _
def isMv (p : Int) (S x : List Int) : Bool := isVec p (bl S) x
def codeMv (p : Int) (S : List Int) (m : List (List Int)) : Int := if isSp p S = true then (if m.all (isMv p S) = true then 0 else 2) else 1
theorem codeMv_sp {p : Int} {S : List Int} {m : List (List Int)} (h : isSp p S = false) : codeMv p S m = 1 := if_neg (by simp [h])
theorem codeMv_ok {p : Int} {S : List Int} {m : List (List Int)} (h : isSp p S = true) (k : m.all (isMv p S) = true) : codeMv p S m = 0 := by unfold codeMv; rw [if_pos h, if_pos k]
theorem codeMv_no {p : Int} {S : List Int} {m : List (List Int)} (h : isSp p S = true) (k : m.all (isMv p S) = false) : codeMv p S m = 2 := by unfold codeMv; rw [if_pos h, if_neg (by simp [k])]
theorem codeMv_cases (p : Int) (S : List Int) (m : List (List Int)) : (isSp p S = false ∧ codeMv p S m = 1) ∨ (isSp p S = true ∧ m.all (isMv p S) = true ∧ codeMv p S m = 0) ∨ (isSp p S = true ∧ m.all (isMv p S) = false ∧ codeMv p S m = 2) := by
  by_cases h : isSp p S = true
  · by_cases k : m.all (isMv p S) = true
    · exact .inr (.inl ⟨h, k, codeMv_ok h k⟩)
    · have k' : m.all (isMv p S) = false := by simpa using k
      exact .inr (.inr ⟨h, k', codeMv_no h k'⟩)
  · have h' : isSp p S = false := by simpa using h
    exact .inl ⟨h', codeMv_sp h'⟩
theorem codeMv_zero {p : Int} {S : List Int} {m : List (List Int)} : codeMv p S m = 0 ↔ isSp p S = true ∧ m.all (isMv p S) = true := by
  rcases codeMv_cases p S m with ⟨h, c⟩ | ⟨h, k, c⟩ | ⟨h, k, c⟩ <;> rw [c]
  · exact ⟨fun e => (by cases e), fun e => (by have e1 := e.1; rw [h] at e1; cases e1)⟩
  · exact ⟨fun _ => ⟨h, k⟩, fun _ => rfl⟩
  · exact ⟨fun e => (by cases e), fun e => (by have e1 := e.2; rw [k] at e1; cases e1)⟩
theorem mv_all1 (f : List Int → Bool) (x : List Int) : [x].all f = f x := by simp
/-- The grade of a blade. -/
def gr (m : Nat) : Nat := m % 2 + m / 2 % 2 + m / 4 % 2 + m / 8 % 2 + m / 16 % 2 + m / 32 % 2
theorem gr_le (m : Nat) : gr m ≤ 6 := by unfold gr; omega
/-- What chapter 4 makes of multivectors. -/
def vecF (v : List Int) : Nat → Nat → Int
  | 0, _ => 0
  | i + 1, m => if m = 2 ^ i then v.getD i 0 else vecF v i m
def vecM (S v : List Int) : List Int := mkR (bl S) (vecF v v.length)
def addV (p : Int) (x y : List Int) : List Int := mkR x.length fun j => (x.getD j 0 + 1 * y.getD j 0) % p
def sclV (p : Int) (x : List Int) (k : Int) : List Int := mkR x.length fun j => x.getD j 0 * k % p
def partM (x : List Int) (k : Int) : List Int := mkR x.length fun j => if ((gr j : Nat) : Int) = k then x.getD j 0 else 0
def sgF (p : Int) (c : Nat → Nat) (x : List Int) (j : Nat) : Int := if c (gr j) % 2 = 1 then (p - x.getD j 0) % p else x.getD j 0
end Go.Proofs.YtlfjhffigkhmcaaGreat
