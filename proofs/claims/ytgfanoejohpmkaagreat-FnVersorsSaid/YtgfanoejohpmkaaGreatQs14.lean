/-
  Lists of vectors of a space, in the program and in the model.
  Conditions: the lists are nil or rows of known cells, of at most 1048576 numbers.
  Sizes of matrices.
  No conditions.
  The model's GramOf: contract.
  Conditions: the lists are nil or rows of known cells, of at most 1048576 numbers.
  The program's Gram matrices: the walk.
  Conditions: the lists are nil or rows of known cells, of at most 1048576 numbers.
  The program's GramOf: contract.
  Conditions: the lists are nil or rows of known cells, of at most 1048576 numbers.
  Products of vectors: symmetric, linear, norms of sums. No Go in sight.
  No conditions.
  Geometric products of vectors: twice their product, squares are norms. No Go in sight.
  No conditions.
-/
import Derived.Test.YtgfanoejohpmkaaGreatQs12
import Derived.Test.YtgfanoejohpmkaaGreatQs3
import Derived.Test.YtgfanoejohpmkaaGreatQs13
import Derived.Test.YtgfanoejohpmkaaGreatQs7
import Derived.Test.YtgfanoejohpmkaaGreatQs9
namespace Go.Proofs.YtgfanoejohpmkaaGreat
open Go.RowKit
set_option linter.unusedVariables false

def listB (p : Int) (S : List Int) (m : List (List Int)) : Bool := m.all (isVec p S.length) && decide (m.length ≤ 16)
def codeL (p : Int) (S : List Int) (m : List (List Int)) : Int := if isSp p S = true then (if listB p S m = true then 0 else 2) else 1
theorem codeL_sp {p : Int} {S : List Int} {m : List (List Int)} (h : isSp p S = false) : codeL p S m = 1 := if_neg (by simp [h])
theorem codeL_ok {p : Int} {S : List Int} {m : List (List Int)} (h : isSp p S = true) (k : listB p S m = true) : codeL p S m = 0 := by unfold codeL; rw [if_pos h, if_pos k]
theorem codeL_no {p : Int} {S : List Int} {m : List (List Int)} (h : isSp p S = true) (k : listB p S m = false) : codeL p S m = 2 := by unfold codeL; rw [if_pos h, if_neg (by simp [k])]
theorem codeL_cases (p : Int) (S : List Int) (m : List (List Int)) : (isSp p S = false ∧ codeL p S m = 1) ∨ (isSp p S = true ∧ listB p S m = true ∧ codeL p S m = 0) ∨ (isSp p S = true ∧ listB p S m = false ∧ codeL p S m = 2) := by
  by_cases h : isSp p S = true
  · by_cases k : listB p S m = true
    · exact .inr (.inl ⟨h, k, codeL_ok h k⟩)
    · have k' : listB p S m = false := by simpa using k
      exact .inr (.inr ⟨h, k', codeL_no h k'⟩)
  · have h' : isSp p S = false := by simpa using h
    exact .inl ⟨h', codeL_sp h'⟩
/-- What a list of vectors is. -/
theorem listB_iff {p : Int} {S : List Int} {m : List (List Int)} (h : listB p S m = true) : m.length ≤ 16 ∧ ∀ i, i < m.length → isVec p S.length (rw' m i) = true := by
  unfold listB at h
  rw [Bool.and_eq_true, List.all_eq_true] at h
  exact ⟨of_decide_eq_true h.2, fun i hi => h.1 _ (mem_row hi)⟩

set_option maxRecDepth 100000 in
set_option maxHeartbeats 3200000 in
theorem l03List_any (p : Int) (aS : Option Addr) (S : List Int) (cS : Nat) (am : Option Addr) (m : List (List Int)) (cm lom tpm : Nat) (w : World) (hp : prm p = true) (sS : S.length ≤ 1048576)
    (hm : MatIn lom tpm w am m) (tm : tpm ≤ w.heap.size) (sm : m.length ≤ 1048576) (sr : ∀ i, i < m.length → (rw' m i).length ≤ 1048576) :
    Calls Tryz.prog 187 #[.agg #[.int .i64 p, .slice aS S.length cS], .slice am m.length cm] w fun e w' => e = .returned (.bool (listB p S m)) ∧ Below w.heap.size w w' := by
  have HM := Lib.hid hm
  have HP := Lib.hid hp
  have HT := Lib.hid sr
  clear hm hp sr
  go_enter Tryz.func187, Tryz.ntmps187
  go_wp2
  go_loopw [5] (fun t wr => ∃ i : Nat, i ≤ m.length ∧ t = .int .i64 i ∧ (m.take i).all (isVec p S.length) = true ∧ wr.cell? ⟨w.heap.size, 0, none⟩ = some (.int .i64 p) ∧ wr.cell? ⟨w.heap.size, 1, none⟩ = some (.slice aS S.length cS) ∧ Below w.heap.size w wr ∧ w.heap.size < wr.heap.size) (fun t _ => m.length - (intOf t).toNat)
  case atStart => exact ⟨0, Nat.zero_le _, rfl, rfl, nw0 w _ _ _, nw1 w _ _ _, below_alloc w _, lt_alloc w _⟩
  case round =>
    obtain ⟨i, hi, rfl, hA, k0, k1, hbel, hlw⟩ := hrel
    have HA := Lib.hid hA
    have HB := Lib.hid hbel
    clear hA
    by_cases hlt : i < m.length
    · obtain ⟨b1, o1, r, c1, ha1, _, hb1, hr, hrow⟩ := (HM.out.below hbel tm).row hlt
      subst ha1
      have hl := HT.out i hlt
      have hwz := hbel.size
      have HR := Lib.hid (hrow.below (below_drew wr) (Nat.le_trans tm hwz))
      have HTD : Hid (tpm ≤ wr.drew.heap.size) := Nat.le_trans tm hwz
      have hi1 : (i : Int) < (m.length : Int) := by omega
      have hb1w : b1 < wr.heap.size := Nat.lt_of_lt_of_le hb1 (Nat.le_trans tm hwz)
      clear hrow hbel
      by_cases hv : isVec p S.length (rw' m i) = true
      · have HV := Lib.hid hv
        clear hv
        go_wp2
        go_region_held3 (fun w' => w'.cell? ⟨w.heap.size, 0, none⟩ = some (.int .i64 p) ∧ w'.cell? ⟨w.heap.size, 1, none⟩ = some (.slice aS S.length cS) ∧ w'.cell? ⟨b1, o1 + i, none⟩ = some (.slice r (rw' m i).length c1)) (first | go_keep | exact SS3.out) (first | (go_at_call 219; (with_reducible refine (l03Vector_any p aS S cS r (rw' m i) c1 lom tpm wr.drew HP.out sS HR.out HTD.out hl).mono ?_); rintro e w3 ⟨rfl, hb3⟩; rw [HV.out]; have HB3 : Hid (Below wr.heap.size wr w3) := (below_drew wr).trans hb3; have SS3 := Lib.hid (And.intro ((HB3.out.cell (p := ⟨w.heap.size, 0, none⟩) hlw).trans k0) (And.intro ((HB3.out.cell (p := ⟨w.heap.size, 1, none⟩) hlw).trans k1) ((HB3.out.cell (p := ⟨b1, o1 + i, none⟩) hb1w).trans hr))); clear hb3))
        go_wp2
        go_roundw
        case rel => exact ⟨i + 1, by omega, by go_num, by rw [all_take_vec hlt, HA.out, HV.out]; rfl, SS3.out.1, SS3.out.2.1, HB.out.trans (HB3.out.mono hwz), Nat.lt_of_lt_of_le hlw HB3.out.size⟩
        case measure => simp [intOf]; omega
      · have HV : Hid (isVec p S.length (rw' m i) = false) := by show _ = _; simpa using hv
        have HCV : Hid (listB p S m = false) := by show _ = _; unfold listB; rw [all_false_vec hlt HV.out]; rfl
        clear hv
        go_wp2
        go_region_held3 (fun w' => w'.cell? ⟨w.heap.size, 0, none⟩ = some (.int .i64 p) ∧ w'.cell? ⟨w.heap.size, 1, none⟩ = some (.slice aS S.length cS) ∧ w'.cell? ⟨b1, o1 + i, none⟩ = some (.slice r (rw' m i).length c1)) (first | go_keep | exact SS3.out) (first | (go_at_call 219; (with_reducible refine (l03Vector_any p aS S cS r (rw' m i) c1 lom tpm wr.drew HP.out sS HR.out HTD.out hl).mono ?_); rintro e w3 ⟨rfl, hb3⟩; rw [HV.out]; have HB3 : Hid (Below wr.heap.size wr w3) := (below_drew wr).trans hb3; have SS3 := Lib.hid (And.intro ((HB3.out.cell (p := ⟨w.heap.size, 0, none⟩) hlw).trans k0) (And.intro ((HB3.out.cell (p := ⟨w.heap.size, 1, none⟩) hlw).trans k1) ((HB3.out.cell (p := ⟨b1, o1 + i, none⟩) hb1w).trans hr))); clear hb3))
        go_wp2
        go_ret
        exact ⟨by rw [HCV.out]; rfl, HB.out.trans (HB3.out.mono hwz)⟩
    · have HAll : Hid (m.all (isVec p S.length) = true) := by have h := HA.out; rwa [List.take_of_length_le (by omega)] at h
      by_cases h16 : m.length ≤ 16
      · have e1 : (m.length : Int) ≤ 16 := by omega
        have HCV : Hid (listB p S m = true) := by show _ = _; unfold listB; rw [HAll.out]; simp [h16]
        go_wp2
        go_ret
        exact ⟨by rw [HCV.out]; rfl, HB.out⟩
      · have e1 : ¬ (m.length : Int) ≤ 16 := by omega
        have HCV : Hid (listB p S m = false) := by show _ = _; unfold listB; rw [HAll.out]; simp; omega
        go_wp2
        go_ret
        exact ⟨by rw [HCV.out]; rfl, HB.out⟩

theorem checkList_any (pS : Int) (aS : Option Addr) (S : List Int) (cS loS tpS : Nat) (am : Option Addr) (m : List (List Int)) (cm lom tpm : Nat) (w : World)
    (hS : RowIn loS tpS w aS S) (tS : tpS ≤ w.heap.size) (sS : S.length ≤ 1048576) (hm : MatIn lom tpm w am m) (tm : tpm ≤ w.heap.size) (sm : m.length ≤ 1048576) (sr : ∀ i, i < m.length → (rw' m i).length ≤ 1048576) :
    Calls Tryz.prog 87 #[.agg #[.int .i64 pS, .slice aS S.length cS], .slice am m.length cm] w fun e w' => e = .returned (.int .i64 (codeL pS S m)) ∧ Below w.heap.size w w' := by
  have HS := Lib.hid hS
  have HM := Lib.hid hm
  have HT := Lib.hid sr
  have HBB := Lib.hid (below_alloc w (.cells #[.int .i64 pS, .slice aS S.length cS] 26))
  have HSA := Lib.hid (hS.below HBB.out tS)
  have HMA := Lib.hid (hm.below HBB.out tm)
  have HZ := Lib.hid HBB.out.size
  clear hS hm sr
  rcases codeVs_cases pS S m with ⟨hi, hc⟩ | ⟨hi, ha, hc⟩ | ⟨hi, ha, hc⟩
  · have HC := Lib.hid hc
    have HV := Lib.hid (codeL_sp (m := m) hi)
    clear hi hc
    go_enter Tryz.func87, Tryz.ntmps87
    go_wp2_with (go_at_call 104; (with_reducible refine (checkVectors_any pS aS S cS loS tpS am m cm lom tpm _ HSA.out (Nat.le_trans tS HZ.out) sS HMA.out (Nat.le_trans tm HZ.out) sm HT.out).mono ?_); rintro e w2 ⟨rfl, hb⟩; rw [HC.out]; have HB := Lib.hid hb; clear hb)
    go_ret
    exact ⟨by rw [HV.out]; rfl, HBB.out.trans (HB.out.mono HZ.out)⟩
  · by_cases h16 : m.length ≤ 16
    · have e1 : (m.length : Int) ≤ 16 := by omega
      have HC := Lib.hid hc
      have HV := Lib.hid (codeL_ok (m := m) hi (by unfold listB; rw [ha]; simp [h16]))
      clear hi hc ha
      go_enter Tryz.func87, Tryz.ntmps87
      go_wp2_with (go_at_call 104; (with_reducible refine (checkVectors_any pS aS S cS loS tpS am m cm lom tpm _ HSA.out (Nat.le_trans tS HZ.out) sS HMA.out (Nat.le_trans tm HZ.out) sm HT.out).mono ?_); rintro e w2 ⟨rfl, hb⟩; rw [HC.out]; have HB := Lib.hid hb; clear hb)
      go_ret
      exact ⟨by rw [HV.out]; rfl, HBB.out.trans (HB.out.mono HZ.out)⟩
    · have e1 : ¬ (m.length : Int) ≤ 16 := by omega
      have e2 : (16 : Int) < (m.length : Int) := by omega
      have HC := Lib.hid hc
      have HV := Lib.hid (codeL_no (m := m) hi (by unfold listB; rw [ha]; simp; omega))
      clear hi hc ha
      go_enter Tryz.func87, Tryz.ntmps87
      go_wp2_with (go_at_call 104; (with_reducible refine (checkVectors_any pS aS S cS loS tpS am m cm lom tpm _ HSA.out (Nat.le_trans tS HZ.out) sS HMA.out (Nat.le_trans tm HZ.out) sm HT.out).mono ?_); rintro e w2 ⟨rfl, hb⟩; rw [HC.out]; have HB := Lib.hid hb; clear hb)
      go_ret
      exact ⟨by rw [HV.out]; rfl, HBB.out.trans (HB.out.mono HZ.out)⟩
  · have HC := Lib.hid hc
    have HV := Lib.hid (codeL_no (m := m) hi (by unfold listB; rw [ha]; rfl))
    clear hi hc ha
    go_enter Tryz.func87, Tryz.ntmps87
    go_wp2_with (go_at_call 104; (with_reducible refine (checkVectors_any pS aS S cS loS tpS am m cm lom tpm _ HSA.out (Nat.le_trans tS HZ.out) sS HMA.out (Nat.le_trans tm HZ.out) sm HT.out).mono ?_); rintro e w2 ⟨rfl, hb⟩; rw [HC.out]; have HB := Lib.hid hb; clear hb)
    go_ret
    exact ⟨by rw [HV.out]; rfl, HBB.out.trans (HB.out.mono HZ.out)⟩

end Go.Proofs.YtgfanoejohpmkaaGreat

namespace Go.Proofs.YtgfanoejohpmkaaGreat
set_option linter.unusedVariables false

theorem rect_of {n : Nat} {p : Int} {m : List (List Int)} (h : Lst n p m) : Rect p m (rw' m 0).length where
  rows := by have := h.hi; omega
  cols := by
    by_cases h0 : 0 < m.length
    · have := h.c1 0 h0; omega
    · have e : m = [] := List.eq_nil_of_length_eq_zero (by omega)
      rw [e]; simp [rw']
  len := h.len
  num i hi := Nums.of (h.all i hi)

theorem tot_const {m : List (List Int)} {c : Nat} (h : ∀ i, i < m.length → (rw' m i).length = c) : ∀ {k : Nat}, k ≤ m.length → tot m k = k * c := by
  intro k
  induction k with
  | zero => intro _; simp [tot]
  | succ k ih => intro hk; simp only [tot]; rw [ih (by omega), h k (by omega), Nat.succ_mul]
end Go.Proofs.YtgfanoejohpmkaaGreat

namespace Go.Proofs.YtgfanoejohpmkaaGreat
open Go.RowKit
set_option linter.unusedVariables false

theorem pairN_comm (p : Int) (S v w : List Int) : pairN p S v w = pairN p S w v := by
  unfold pairN psum
  congr 1
  exact sm_congr fun j _ => by rw [Int.mul_comm (v.getD j 0)]
theorem el_mod (a b p : Int) : (a % p * b) % p = (a * b) % p := by rw [Int.mul_emod, Int.emod_emod, ← Int.mul_emod]
theorem er_mod (a b p : Int) : (a * (b % p)) % p = (a * b) % p := by rw [Int.mul_emod, Int.emod_emod, ← Int.mul_emod]
theorem sm_cong_p {p : Int} {n : Nat} {f g : Nat → Int} (h : ∀ j, j < n → f j % p = g j % p) : sm n f % p = sm n g % p := by
  rw [← sm_mod n p f, ← sm_mod n p g, sm_congr h]
theorem plusR_at (p k : Int) (v u : List Int) {j : Nat} (h : j < v.length) : (plusR p v u k).getD j 0 = (v.getD j 0 + k * u.getD j 0) % p := by unfold plusR; exact mkR_at _ h
theorem pairN_lin {p k : Int} {S v u w : List Int} (hl : v.length = S.length) : pairN p S (plusR p v u k) w = (pairN p S v w + k * pairN p S u w) % p := by
  have h : psum S (plusR p v u k) w S.length % p = (psum S v w S.length + k * psum S u w S.length) % p := by
    unfold psum
    rw [← sm_mul, ← sm_add]
    apply sm_cong_p
    intro j hj
    rw [plusR_at p k v u (by omega), Int.mul_assoc, el_mod, Int.add_mul]
    congr 1
    rw [← Int.mul_assoc]
    congr 1
    rw [Int.mul_assoc k, ← Int.mul_assoc (u.getD j 0)]
  show _ % p = (psum S v w S.length % p + k * (psum S u w S.length % p)) % p
  rw [h, Int.add_emod (psum S v w S.length % p), Int.emod_emod, er_mod, ← Int.add_emod]
theorem pairN_bd {p : Int} (hp : 0 < p) (S v w : List Int) : 0 ≤ pairN p S v w ∧ pairN p S v w < p := ⟨Int.emod_nonneg _ (by omega), Int.emod_lt_of_pos _ hp⟩
theorem vec_of {p : Int} {n : Nat} {z : List Int} (hl : z.length = n) (hn : ∀ j, j < z.length → 0 ≤ z.getD j 0 ∧ z.getD j 0 < p) : isVec p n z = true := by
  unfold isVec
  rw [hl, Bool.and_eq_true]
  refine ⟨by simp, ?_⟩
  rw [List.all_eq_true]
  intro y hy
  obtain ⟨j, hj, rfl⟩ := List.getElem_of_mem hy
  have h := hn j hj
  rw [getD_at hj] at h
  exact inr_iff.2 h
theorem code_vec2 {p : Int} {S v w : List Int} (hs : isSp p S = true) (hv : isVec p S.length v = true) (hw : isVec p S.length w = true) : codeVs p S [v, w] = 0 ∧ pairV p S v w = pairN p S v w := by
  have h : codeVs p S [v, w] = 0 := by unfold codeVs; rw [if_pos hs, if_pos (by simp [hv, hw])]
  exact ⟨h, by unfold pairV; rw [if_pos h]⟩

end Go.Proofs.YtgfanoejohpmkaaGreat

namespace Go.Proofs.YtgfanoejohpmkaaGreat
open Go.RowKit
set_option linter.unusedVariables false

theorem pow_bit' (i j : Nat) : 2 ^ i / 2 ^ j % 2 = if i = j then 1 else 0 := by
  rw [← Nat.toNat_testBit, Nat.testBit_two_pow]
  by_cases h : i = j <;> simp [h]
theorem pow_inj' {i j : Nat} (h : 2 ^ i = 2 ^ j) : i = j := (Nat.pow_right_inj (by decide)).1 h
theorem fz_pow' (S : List Int) (a i : Nat) : ∀ n, fz S a (2 ^ i) n = if i < n then eps (gr (a / 2 ^ (i + 1))) * (if a / 2 ^ i % 2 = 1 then S.getD i 0 else 1) else 1
  | 0 => rfl
  | n + 1 => by
    show fz S a (2 ^ i) n * gi S a (2 ^ i) n = _
    rw [fz_pow' S a i n]
    unfold gi
    rw [pow_bit']
    by_cases e : i = n
    · subst e
      rw [if_pos rfl, if_pos rfl, if_neg (Nat.lt_irrefl _), if_pos (Nat.lt_succ_self _), Int.one_mul]
    · rw [if_neg e, if_neg (show ¬ (0 : Nat) = 1 by decide), Int.mul_one]
      by_cases h : i < n
      · rw [if_pos h, if_pos (show i < n + 1 by omega)]
      · rw [if_neg h, if_neg (show ¬ i < n + 1 by omega)]
theorem vecF_sum' (v : List Int) (b : Nat) : ∀ k, vecF v k b = sm k (fun i => if b = 2 ^ i then v.getD i 0 else 0)
  | 0 => rfl
  | k + 1 => by
    show (if b = 2 ^ k then v.getD k 0 else vecF v k b) = sm k _ + (if b = 2 ^ k then v.getD k 0 else 0)
    by_cases e : b = 2 ^ k
    · rw [if_pos e, if_pos e, sm_congr (g := fun _ => 0) (fun i hi => if_neg (fun h => by have := pow_inj' (e.symm.trans h); omega)), sm_zero, Int.zero_add]
    · rw [if_neg e, if_neg e, Int.add_zero, vecF_sum' v b k]
def eF (S : List Int) (i j : Nat) : Int := fz S (2 ^ i) (2 ^ j) S.length
theorem gr_pow2 : ∀ i, i < 6 → ∀ j, j < 6 → gr (2 ^ i / 2 ^ (j + 1)) = if j < i then 1 else 0 := by decide +kernel
theorem eF_sum {S : List Int} (h6 : S.length ≤ 6) {i j : Nat} (hi : i < S.length) (hj : j < S.length) : eF S i j + eF S j i = if i = j then 2 * S.getD i 0 else 0 := by
  unfold eF
  rw [fz_pow', fz_pow', if_pos hi, if_pos hj, gr_pow2 i (by omega) j (by omega), gr_pow2 j (by omega) i (by omega), pow_bit', pow_bit']
  by_cases e : i = j
  · subst e
    simp [eps]
    omega
  · have e' : ¬ j = i := fun h => e h.symm
    by_cases h : j < i
    · have h' : ¬ i < j := by omega
      simp [e, e', h, h', eps]
    · have h' : i < j := by omega
      simp [e, e', h, h', eps]
theorem gp_vec (S v w : List Int) (hv : v.length = S.length) (hw : w.length = S.length) {c : Nat} (hc : c < bl S) :
    gpz S S.length (vecF v v.length) (vecF w w.length) c = sm S.length (fun i => sm S.length (fun j => if c = 2 ^ i ^^^ 2 ^ j then v.getD i 0 * w.getD j 0 * eF S i j else 0)) := by
  unfold gpz
  have h1 : ∀ a, a < 2 ^ S.length → vecF v v.length a * fz S a (a ^^^ c) S.length * vecF w w.length (a ^^^ c) = sm S.length (fun i => if a = 2 ^ i then (sm S.length (fun j => if c = 2 ^ i ^^^ 2 ^ j then v.getD i 0 * w.getD j 0 * eF S i j else 0)) else 0) := fun a ha => by
    rw [vecF_sum', vecF_sum', hv, hw, Int.mul_assoc, Int.mul_comm, ← sm_mul]
    apply sm_congr
    intro i hi
    by_cases e : a = 2 ^ i
    · rw [if_pos e, if_pos e, Int.mul_comm, ← Int.mul_assoc, ← sm_mul]
      apply sm_congr
      intro j hj
      by_cases e2 : a ^^^ c = 2 ^ j
      · have e3 : c = 2 ^ i ^^^ 2 ^ j := by rw [← e2, e, ← Nat.xor_assoc, Nat.xor_self, Nat.zero_xor]
        rw [if_pos e2, if_pos e3, e2, e]
        unfold eF
        ac_rfl
      · have e3 : ¬ c = 2 ^ i ^^^ 2 ^ j := fun h => e2 (by rw [h, e, ← Nat.xor_assoc, Nat.xor_self, Nat.zero_xor])
        rw [if_neg e2, if_neg e3, Int.mul_zero]
    · rw [if_neg e, if_neg e, Int.mul_zero]
  rw [sm_congr h1, sm_swap]
  apply sm_congr
  intro i hi
  rw [sm_single, if_pos (Nat.pow_lt_pow_right (by decide) hi)]
/-- v w and w v are together twice their product. -/
theorem gp_both {S v w : List Int} (h6 : S.length ≤ 6) (hv : v.length = S.length) (hw : w.length = S.length) {c : Nat} (hc : c < bl S) :
    gpz S S.length (vecF v v.length) (vecF w w.length) c + gpz S S.length (vecF w w.length) (vecF v v.length) c = if c = 0 then 2 * psum S v w S.length else 0 := by
  rw [gp_vec S v w hv hw hc, gp_vec S w v hw hv hc]
  have hs : sm S.length (fun i => sm S.length (fun j => if c = 2 ^ i ^^^ 2 ^ j then w.getD i 0 * v.getD j 0 * eF S i j else 0)) = sm S.length (fun i => sm S.length (fun j => if c = 2 ^ i ^^^ 2 ^ j then v.getD i 0 * w.getD j 0 * eF S j i else 0)) := by
    rw [sm_swap]
    exact sm_congr fun i _ => sm_congr fun j _ => by rw [Nat.xor_comm, Int.mul_comm (w.getD j 0)]
  rw [hs, ← sm_add]
  have h2 : ∀ i, i < S.length → (sm S.length (fun j => if c = 2 ^ i ^^^ 2 ^ j then v.getD i 0 * w.getD j 0 * eF S i j else 0) + sm S.length (fun j => if c = 2 ^ i ^^^ 2 ^ j then v.getD i 0 * w.getD j 0 * eF S j i else 0)) = if c = 0 then 2 * (v.getD i 0 * w.getD i 0 * S.getD i 0) else 0 := fun i hi => by
    rw [← sm_add]
    have h3 : ∀ j, j < S.length → ((if c = 2 ^ i ^^^ 2 ^ j then v.getD i 0 * w.getD j 0 * eF S i j else 0) + (if c = 2 ^ i ^^^ 2 ^ j then v.getD i 0 * w.getD j 0 * eF S j i else 0)) = if j = i then (if c = 0 then 2 * (v.getD i 0 * w.getD i 0 * S.getD i 0) else 0) else 0 := fun j hj => by
      by_cases e : j = i
      · subst e
        rw [if_pos rfl, Nat.xor_self]
        by_cases h0 : c = 0
        · rw [if_pos h0, if_pos h0, ← Int.mul_add, eF_sum h6 hj hj, if_pos rfl]
          ac_rfl
        · rw [if_neg h0, if_neg h0]; rfl
      · rw [if_neg e]
        by_cases h0 : c = 2 ^ i ^^^ 2 ^ j
        · rw [if_pos h0, if_pos h0, ← Int.mul_add, eF_sum h6 hi hj, if_neg (fun h => e h.symm), Int.mul_zero]
        · rw [if_neg h0, if_neg h0]; rfl
    rw [sm_congr h3, sm_single, if_pos hi]
  rw [sm_congr h2]
  by_cases h0 : c = 0
  · rw [if_pos h0, sm_congr (g := fun i => 2 * (v.getD i 0 * w.getD i 0 * S.getD i 0)) (fun i _ => if_pos h0), sm_mul]
    rfl
  · rw [if_neg h0, sm_congr (g := fun _ => 0) (fun i _ => if_neg h0), sm_zero]
def unitR (S : List Int) (z : Int) : List Int := mkR (bl S) (fun j => if j = 0 then z else 0)
theorem prod_vec (p : Int) (S v w : List Int) {c : Nat} (hc : c < bl S) : prodF p S (vecM S v) (vecM S w) c = gpz S S.length (vecF v v.length) (vecF w w.length) c % p := by
  unfold prodF
  rw [gpz_congr S S.length hc (x' := vecF v v.length) (y' := vecF w w.length) (fun j hj => by unfold vecM; exact mkR_at _ hj) (fun j hj => by unfold vecM; exact mkR_at _ hj)]
theorem both_eq {p : Int} {S v w : List Int} (h6 : S.length ≤ 6) (hv : v.length = S.length) (hw : w.length = S.length) :
    plusR p (prodM p S (vecM S v) (vecM S w)) (prodM p S (vecM S w) (vecM S v)) 1 = unitR S (2 * pairN p S v w % p) := by
  unfold plusR unitR
  rw [prodM_len]
  apply mkR_congr
  intro c hc
  rw [prodM_at _ _ _ _ hc, prodM_at _ _ _ _ hc, prod_vec _ _ _ _ hc, prod_vec _ _ _ _ hc, Int.one_mul, ← Int.add_emod, gp_both h6 hv hw hc]
  by_cases h0 : c = 0
  · rw [if_pos h0, if_pos h0]; unfold pairN; rw [er_mod]
  · rw [if_neg h0, if_neg h0, Int.zero_emod]
theorem square_eq {p : Int} {S v : List Int} (h6 : S.length ≤ 6) (hv : v.length = S.length) : prodM p S (vecM S v) (vecM S v) = unitR S (pairN p S v v) := by
  unfold prodM unitR
  apply mkR_congr
  intro c hc
  rw [prod_vec _ _ _ _ hc]
  have h := gp_both h6 hv hv hc
  by_cases h0 : c = 0
  · rw [if_pos h0] at h ⊢
    unfold pairN
    congr 1
    omega
  · rw [if_neg h0] at h ⊢
    rw [show gpz S S.length (vecF v v.length) (vecF v v.length) c = 0 by omega, Int.zero_emod]
end Go.Proofs.YtgfanoejohpmkaaGreat
