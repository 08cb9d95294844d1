/-
  Lists of vectors of a space, in the program and in the model.
  Conditions: the lists are nil or rows of known cells, of at most 1048576 numbers.
  WedgeOfVectors: contracts of the program and of the model.
  Conditions: the lists are nil or rows of known cells, of at most 1048576 numbers.
  Reduced rows modulo a prime: what vanishes on them, and that this tells them wholly. No Go in sight.
  No conditions.
  Elimination modulo a prime: steps on rows, and what they keep. No Go in sight.
  No conditions.
  Determinants: by the first column; what changes of rows do to them. No Go in sight.
  No conditions.
  Determinants by the last row; the set bits of a mask. No Go in sight.
  No conditions.
-/
import Derived.Test.YtcmedhkamjclmaaQv3
import Derived.Deep.RegionHeld3
import Derived.Deep.DeepCutAuto
import Derived.Test.YtcmedhkamjclmaaQv1
import Derived.Test.YtcmedhkamjclmaaQv2
namespace Go.Proofs.Ytcmedhkamjclmaa
open Go.RowKit
set_option linter.unusedVariables false

def listB (p : Int) (S : List Int) (m : List (List Int)) : Bool := m.all (isVec p S.length) && decide (m.length ≤ 16)
def codeL (p : Int) (S : List Int) (m : List (List Int)) : Int := if isSp p S = true then (if listB p S m = true then 0 else 2) else 1
theorem codeL_sp {p : Int} {S : List Int} {m : List (List Int)} (h : isSp p S = false) : codeL p S m = 1 := if_neg (by simp [h])
theorem codeL_ok {p : Int} {S : List Int} {m : List (List Int)} (h : isSp p S = true) (k : listB p S m = true) : codeL p S m = 0 := by unfold codeL; rw [if_pos h, if_pos k]
theorem codeL_no {p : Int} {S : List Int} {m : List (List Int)} (h : isSp p S = true) (k : listB p S m = false) : codeL p S m = 2 := by unfold codeL; rw [if_pos h, if_neg (by simp [k])]
theorem codeL_cases (p : Int) (S : List Int) (m : List (List Int)) : (isSp p S = false ∧ codeL p S m = 1) ∨ (isSp p S = true ∧ listB p S m = true ∧ codeL p S m = 0) ∨ (isSp p S = true ∧ listB p S m = false ∧ codeL p S m = 2) := by
  by_cases h : isSp p S = true
  · by_cases k : listB p S m = true
    · exact .inr (.inl ⟨h, k, codeL_ok h k⟩)
    · have k' : listB p S m = false := by simpa using k
      exact .inr (.inr ⟨h, k', codeL_no h k'⟩)
  · have h' : isSp p S = false := by simpa using h
    exact .inl ⟨h', codeL_sp h'⟩
/-- What a list of vectors is. -/
theorem listB_iff {p : Int} {S : List Int} {m : List (List Int)} (h : listB p S m = true) : m.length ≤ 16 ∧ ∀ i, i < m.length → isVec p S.length (rw' m i) = true := by
  unfold listB at h
  rw [Bool.and_eq_true, List.all_eq_true] at h
  exact ⟨of_decide_eq_true h.2, fun i hi => h.1 _ (mem_row hi)⟩

set_option maxRecDepth 100000 in
set_option maxHeartbeats 3200000 in
theorem l03List_any (p : Int) (aS : Option Addr) (S : List Int) (cS : Nat) (am : Option Addr) (m : List (List Int)) (cm lom tpm : Nat) (w : World) (hp : prm p = true) (sS : S.length ≤ 1048576)
    (hm : MatIn lom tpm w am m) (tm : tpm ≤ w.heap.size) (sm : m.length ≤ 1048576) (sr : ∀ i, i < m.length → (rw' m i).length ≤ 1048576) :
    Calls Try.prog 109 #[.agg #[.int .i64 p, .slice aS S.length cS], .slice am m.length cm] w fun e w' => e = .returned (.bool (listB p S m)) ∧ Below w.heap.size w w' := by
  have HM := Lib.hid hm
  have HP := Lib.hid hp
  have HT := Lib.hid sr
  clear hm hp sr
  go_enter Try.func109, Try.ntmps109
  go_wp2
  go_loopw [5] (fun t wr => ∃ i : Nat, i ≤ m.length ∧ t = .int .i64 i ∧ (m.take i).all (isVec p S.length) = true ∧ wr.cell? ⟨w.heap.size, 0, none⟩ = some (.int .i64 p) ∧ wr.cell? ⟨w.heap.size, 1, none⟩ = some (.slice aS S.length cS) ∧ Below w.heap.size w wr ∧ w.heap.size < wr.heap.size) (fun t _ => m.length - (intOf t).toNat)
  case atStart => exact ⟨0, Nat.zero_le _, rfl, rfl, nw0 w _ _ _, nw1 w _ _ _, below_alloc w _, lt_alloc w _⟩
  case round =>
    obtain ⟨i, hi, rfl, hA, k0, k1, hbel, hlw⟩ := hrel
    have HA := Lib.hid hA
    have HB := Lib.hid hbel
    clear hA
    by_cases hlt : i < m.length
    · obtain ⟨b1, o1, r, c1, ha1, _, hb1, hr, hrow⟩ := (HM.out.below hbel tm).row hlt
      subst ha1
      have hl := HT.out i hlt
      have hwz := hbel.size
      have HR := Lib.hid (hrow.below (below_drew wr) (Nat.le_trans tm hwz))
      have HTD : Hid (tpm ≤ wr.drew.heap.size) := Nat.le_trans tm hwz
      have hi1 : (i : Int) < (m.length : Int) := by omega
      have hb1w : b1 < wr.heap.size := Nat.lt_of_lt_of_le hb1 (Nat.le_trans tm hwz)
      clear hrow hbel
      by_cases hv : isVec p S.length (rw' m i) = true
      · have HV := Lib.hid hv
        clear hv
        go_wp2
        go_region_held3 (fun w' => w'.cell? ⟨w.heap.size, 0, none⟩ = some (.int .i64 p) ∧ w'.cell? ⟨w.heap.size, 1, none⟩ = some (.slice aS S.length cS) ∧ w'.cell? ⟨b1, o1 + i, none⟩ = some (.slice r (rw' m i).length c1)) (first | go_keep | exact SS3.out) (first | (go_at_call 126; (with_reducible refine (l03Vector_any p aS S cS r (rw' m i) c1 lom tpm wr.drew HP.out sS HR.out HTD.out hl).mono ?_); rintro e w3 ⟨rfl, hb3⟩; rw [HV.out]; have HB3 : Hid (Below wr.heap.size wr w3) := (below_drew wr).trans hb3; have SS3 := Lib.hid (And.intro ((HB3.out.cell (p := ⟨w.heap.size, 0, none⟩) hlw).trans k0) (And.intro ((HB3.out.cell (p := ⟨w.heap.size, 1, none⟩) hlw).trans k1) ((HB3.out.cell (p := ⟨b1, o1 + i, none⟩) hb1w).trans hr))); clear hb3))
        go_wp2
        go_roundw
        case rel => exact ⟨i + 1, by omega, by go_num, by rw [all_take_vec hlt, HA.out, HV.out]; rfl, SS3.out.1, SS3.out.2.1, HB.out.trans (HB3.out.mono hwz), Nat.lt_of_lt_of_le hlw HB3.out.size⟩
        case measure => simp [intOf]; omega
      · have HV : Hid (isVec p S.length (rw' m i) = false) := by show _ = _; simpa using hv
        have HCV : Hid (listB p S m = false) := by show _ = _; unfold listB; rw [all_false_vec hlt HV.out]; rfl
        clear hv
        go_wp2
        go_region_held3 (fun w' => w'.cell? ⟨w.heap.size, 0, none⟩ = some (.int .i64 p) ∧ w'.cell? ⟨w.heap.size, 1, none⟩ = some (.slice aS S.length cS) ∧ w'.cell? ⟨b1, o1 + i, none⟩ = some (.slice r (rw' m i).length c1)) (first | go_keep | exact SS3.out) (first | (go_at_call 126; (with_reducible refine (l03Vector_any p aS S cS r (rw' m i) c1 lom tpm wr.drew HP.out sS HR.out HTD.out hl).mono ?_); rintro e w3 ⟨rfl, hb3⟩; rw [HV.out]; have HB3 : Hid (Below wr.heap.size wr w3) := (below_drew wr).trans hb3; have SS3 := Lib.hid (And.intro ((HB3.out.cell (p := ⟨w.heap.size, 0, none⟩) hlw).trans k0) (And.intro ((HB3.out.cell (p := ⟨w.heap.size, 1, none⟩) hlw).trans k1) ((HB3.out.cell (p := ⟨b1, o1 + i, none⟩) hb1w).trans hr))); clear hb3))
        go_wp2
        go_ret
        exact ⟨by rw [HCV.out]; rfl, HB.out.trans (HB3.out.mono hwz)⟩
    · have HAll : Hid (m.all (isVec p S.length) = true) := by have h := HA.out; rwa [List.take_of_length_le (by omega)] at h
      by_cases h16 : m.length ≤ 16
      · have e1 : (m.length : Int) ≤ 16 := by omega
        have HCV : Hid (listB p S m = true) := by show _ = _; unfold listB; rw [HAll.out]; simp [h16]
        go_wp2
        go_ret
        exact ⟨by rw [HCV.out]; rfl, HB.out⟩
      · have e1 : ¬ (m.length : Int) ≤ 16 := by omega
        have HCV : Hid (listB p S m = false) := by show _ = _; unfold listB; rw [HAll.out]; simp; omega
        go_wp2
        go_ret
        exact ⟨by rw [HCV.out]; rfl, HB.out⟩

theorem checkList_any (pS : Int) (aS : Option Addr) (S : List Int) (cS loS tpS : Nat) (am : Option Addr) (m : List (List Int)) (cm lom tpm : Nat) (w : World)
    (hS : RowIn loS tpS w aS S) (tS : tpS ≤ w.heap.size) (sS : S.length ≤ 1048576) (hm : MatIn lom tpm w am m) (tm : tpm ≤ w.heap.size) (sm : m.length ≤ 1048576) (sr : ∀ i, i < m.length → (rw' m i).length ≤ 1048576) :
    Calls Try.prog 80 #[.agg #[.int .i64 pS, .slice aS S.length cS], .slice am m.length cm] w fun e w' => e = .returned (.int .i64 (codeL pS S m)) ∧ Below w.heap.size w w' := by
  have HS := Lib.hid hS
  have HM := Lib.hid hm
  have HT := Lib.hid sr
  have HBB := Lib.hid (below_alloc w (.cells #[.int .i64 pS, .slice aS S.length cS] 28))
  have HSA := Lib.hid (hS.below HBB.out tS)
  have HMA := Lib.hid (hm.below HBB.out tm)
  have HZ := Lib.hid HBB.out.size
  clear hS hm sr
  rcases codeVs_cases pS S m with ⟨hi, hc⟩ | ⟨hi, ha, hc⟩ | ⟨hi, ha, hc⟩
  · have HC := Lib.hid hc
    have HV := Lib.hid (codeL_sp (m := m) hi)
    clear hi hc
    go_enter Try.func80, Try.ntmps80
    go_wp2_with (go_at_call 112; (with_reducible refine (checkVectors_any pS aS S cS loS tpS am m cm lom tpm _ HSA.out (Nat.le_trans tS HZ.out) sS HMA.out (Nat.le_trans tm HZ.out) sm HT.out).mono ?_); rintro e w2 ⟨rfl, hb⟩; rw [HC.out]; have HB := Lib.hid hb; clear hb)
    go_ret
    exact ⟨by rw [HV.out]; rfl, HBB.out.trans (HB.out.mono HZ.out)⟩
  · by_cases h16 : m.length ≤ 16
    · have e1 : (m.length : Int) ≤ 16 := by omega
      have HC := Lib.hid hc
      have HV := Lib.hid (codeL_ok (m := m) hi (by unfold listB; rw [ha]; simp [h16]))
      clear hi hc ha
      go_enter Try.func80, Try.ntmps80
      go_wp2_with (go_at_call 112; (with_reducible refine (checkVectors_any pS aS S cS loS tpS am m cm lom tpm _ HSA.out (Nat.le_trans tS HZ.out) sS HMA.out (Nat.le_trans tm HZ.out) sm HT.out).mono ?_); rintro e w2 ⟨rfl, hb⟩; rw [HC.out]; have HB := Lib.hid hb; clear hb)
      go_ret
      exact ⟨by rw [HV.out]; rfl, HBB.out.trans (HB.out.mono HZ.out)⟩
    · have e1 : ¬ (m.length : Int) ≤ 16 := by omega
      have e2 : (16 : Int) < (m.length : Int) := by omega
      have HC := Lib.hid hc
      have HV := Lib.hid (codeL_no (m := m) hi (by unfold listB; rw [ha]; simp; omega))
      clear hi hc ha
      go_enter Try.func80, Try.ntmps80
      go_wp2_with (go_at_call 112; (with_reducible refine (checkVectors_any pS aS S cS loS tpS am m cm lom tpm _ HSA.out (Nat.le_trans tS HZ.out) sS HMA.out (Nat.le_trans tm HZ.out) sm HT.out).mono ?_); rintro e w2 ⟨rfl, hb⟩; rw [HC.out]; have HB := Lib.hid hb; clear hb)
      go_ret
      exact ⟨by rw [HV.out]; rfl, HBB.out.trans (HB.out.mono HZ.out)⟩
  · have HC := Lib.hid hc
    have HV := Lib.hid (codeL_no (m := m) hi (by unfold listB; rw [ha]; rfl))
    clear hi hc ha
    go_enter Try.func80, Try.ntmps80
    go_wp2_with (go_at_call 112; (with_reducible refine (checkVectors_any pS aS S cS loS tpS am m cm lom tpm _ HSA.out (Nat.le_trans tS HZ.out) sS HMA.out (Nat.le_trans tm HZ.out) sm HT.out).mono ?_); rintro e w2 ⟨rfl, hb⟩; rw [HC.out]; have HB := Lib.hid hb; clear hb)
    go_ret
    exact ⟨by rw [HV.out]; rfl, HBB.out.trans (HB.out.mono HZ.out)⟩

end Go.Proofs.Ytcmedhkamjclmaa

namespace Go.Proofs.Ytcmedhkamjclmaa
open Go.RowKit
set_option linter.unusedVariables false

/-- The wedge product of the first k vectors. -/
def wvM (p : Int) (S : List Int) (m : List (List Int)) : Nat → List Int
  | 0 => mOne S
  | k + 1 => wgM p S (wvM p S m k) (vecM S (rw' m k))
theorem wvM_len (p : Int) (S : List Int) (m : List (List Int)) : ∀ k, (wvM p S m k).length = bl S
  | 0 => by unfold wvM mOne; rw [mkR_len]
  | k + 1 => wgM_len _ _ _ _
theorem one_mv' {p : Int} {S : List Int} (hs : isSp p S = true) : isMv p S (mOne S) = true :=
  isMv_of (by unfold mOne; rw [mkR_len]) fun j hj => by
    have hp := prm_bd (isSp_iff.1 hs).prime
    unfold mOne at hj ⊢
    rw [mkR_len] at hj
    rw [mkR_at _ hj]
    unfold oneF
    split <;> omega
theorem kM_mv {p : Int} {S : List Int} (hs : isSp p S = true) (x y : List Int) : isMv p S (wgM p S x y) = true := kind_mv hs _ _ _
theorem wv_mv {p : Int} {S : List Int} (hs : isSp p S = true) (m : List (List Int)) : ∀ k, isMv p S (wvM p S m k) = true
  | 0 => one_mv' hs
  | k + 1 => kM_mv hs _ _
theorem vecF_bd {p : Int} (hp : 0 < p) {v : List Int} (hn : ∀ j, j < v.length → 0 ≤ v.getD j 0 ∧ v.getD j 0 < p) (b : Nat) : ∀ k, k ≤ v.length → 0 ≤ vecF v k b ∧ vecF v k b < p
  | 0, _ => by show 0 ≤ (0 : Int) ∧ (0 : Int) < p; omega
  | k + 1, h => by
    show 0 ≤ (if b = 2 ^ k then v.getD k 0 else vecF v k b) ∧ (if b = 2 ^ k then v.getD k 0 else vecF v k b) < p
    have h1 := hn k (by omega)
    have h2 := vecF_bd hp hn b k (by omega)
    split
    · exact h1
    · exact h2
theorem vec_mv' {p : Int} {S v : List Int} (hs : isSp p S = true) (hv : isVec p S.length v = true) : isMv p S (mkR (bl S) (vecF v v.length)) = true :=
  isMv_of (mkR_len _ _) fun j hj => by
    have hp := prm_bd (isSp_iff.1 hs).prime
    rw [mkR_len] at hj
    rw [mkR_at _ hj]
    exact vecF_bd (by omega) (fun i hi => (isVec_iff.1 hv).num (by rw [← (isVec_iff.1 hv).len]; exact hi)) j v.length (Nat.le_refl _)
theorem wedge_vec (pS : Int) (aS : Option Addr) (S : List Int) (cS loS tpS : Nat) (ax : Option Addr) (x : List Int) (cx lox tpx b lo tp : Nat) (v : List Int) (W : World) (hs : isSp pS S = true) (hS : RowIn loS tpS W aS S) (tS : tpS ≤ W.heap.size) (hx : RowIn lox tpx W ax x) (tx : tpx ≤ W.heap.size) (mx : isMv pS S x = true) (h : RowIn lo tp W (some ⟨b, 0, none⟩) (mkR (bl S) (vecF v v.length))) (th : tp ≤ W.heap.size) (hv : isVec pS S.length v = true) :
    Calls Try.prog 55 #[.agg #[.int .i64 pS, .slice aS S.length cS], .slice ax x.length cx, .slice (some ⟨b, 0, none⟩) (bl S) (bl S)] W (OwnE (wgM pS S x (vecM S v)) W) := by
  have q := wedge_own pS aS S cS loS tpS ax x cx lox tpx (some ⟨b, 0, none⟩) (mkR (bl S) (vecF v v.length)) (bl S) lo tp W hs hS tS hx tx mx h th (vec_mv' hs hv)
  rw [mkR_len] at q
  exact q

set_option maxRecDepth 100000 in
set_option maxHeartbeats 3200000 in
theorem wedgeOfVectors_own (pS : Int) (aS : Option Addr) (S : List Int) (cS loS tpS : Nat) (am : Option Addr) (m : List (List Int)) (cm lom tpm : Nat) (w : World) (hs : isSp pS S = true) (hS : RowIn loS tpS w aS S) (tS : tpS ≤ w.heap.size) (hm : MatIn lom tpm w am m) (tm : tpm ≤ w.heap.size) (hl : listB pS S m = true) :
    Calls Try.prog 81 #[.agg #[.int .i64 pS, .slice aS S.length cS], .slice am m.length cm] w (OwnE (wvM pS S m m.length) w) := by
  have HI := Lib.hid hs
  have HS := Lib.hid hS
  have HM := Lib.hid hm
  have HL := Lib.hid (listB_iff hl)
  have h6 := (isSp_iff.1 hs).hi
  have hpb := prm_bd (isSp_iff.1 hs).prime
  have hbl := bl_le h6
  have hb0 := bl_pos S
  have hm16 := HL.out.1
  have HB0 := Lib.hid (below_alloc w (.cells #[.int .i64 pS, .slice aS S.length cS] 28))
  have k0 := nw0 w (.int .i64 pS) (.slice aS S.length cS) 28
  have k1 := nw1 w (.int .i64 pS) (.slice aS S.length cS) 28
  clear hs hS hm hl
  go_enter Try.func81, Try.ntmps81
  go_wp2_with (go_at_call 103; (with_reducible refine (blade0_any pS aS S cS _ h6).mono ?_); rintro e w1 ⟨r1, c1, rfl, o1, b1⟩; have O1 := Lib.hid (OwnR.mono' o1 (size_alloc w (.cells #[.int .i64 pS, .slice aS S.length cS] 28)) (Nat.le_refl _)); have HB1 := Lib.hid (below_step HB0.out (size_alloc w (.cells #[.int .i64 pS, .slice aS S.length cS] 28)) b1); have k01 := (b1.cell (p := ⟨w.heap.size, 0, none⟩) (lt_alloc w (.cells #[.int .i64 pS, .slice aS S.length cS] 28))).trans k0; have k11 := (b1.cell (p := ⟨w.heap.size, 1, none⟩) (lt_alloc w (.cells #[.int .i64 pS, .slice aS S.length cS] 28))).trans k1; have hw1 := Nat.lt_of_lt_of_le (lt_alloc w (.cells #[.int .i64 pS, .slice aS S.length cS] 28)) b1.size; clear o1 b1 k0 k1)
  go_loopw [5, 12] (fun u t wr => ∃ (k : Nat) (r : Option Addr) (c : Nat), k ≤ m.length ∧ u = .slice r (wvM pS S m k).length c ∧ t = .int .i64 k ∧ OwnR w.heap.size wr.heap.size wr r (wvM pS S m k) ∧ wr.cell? ⟨w.heap.size, 0, none⟩ = some (.int .i64 pS) ∧ wr.cell? ⟨w.heap.size, 1, none⟩ = some (.slice aS S.length cS) ∧ Below w.heap.size w wr ∧ w.heap.size < wr.heap.size) (fun _ t _ => m.length - (intOf t).toNat)
  case atStart => exact ⟨0, r1, c1, Nat.zero_le _, rfl, rfl, O1.out, k01, k11, HB1.out, hw1⟩
  case round =>
    obtain ⟨k, r, c, hk, rfl, rfl, ho, k0, k1, hbel, hlw⟩ := hrel
    have HO := Lib.hid ho
    have HB := Lib.hid hbel
    by_cases hlt : k < m.length
    · obtain ⟨b9, o9, rv, cv, ha9, _, hb9, hr9, hrow⟩ := (HM.out.below hbel tm).row hlt
      subst ha9
      have hwz := hbel.size
      have hi1 : (k : Int) < (m.length : Int) := by omega
      have HVV := Lib.hid (HL.out.2 k hlt)
      have HVL := Lib.hid (isVec_iff.1 HVV.out).len
      have HRV := Lib.hid (hrow.below (below_drew wr) (Nat.le_trans tm hwz))
      have HTV : Hid (tpm ≤ wr.drew.heap.size) := Nat.le_trans tm hwz
      have HRR : Hid (RowIn w.heap.size wr.drew.heap.size wr.drew r (wvM pS S m k)) := ho.row.below (below_drew wr) (Nat.le_refl _)
      have hxd : b9 < wr.drew.heap.size := Nat.lt_of_lt_of_le hb9 (Nat.le_trans tm hwz)
      have hs1 : Hid (wr.drew.cell? ⟨w.heap.size, 0, none⟩ = some (.int .i64 pS) ∧ wr.drew.cell? ⟨w.heap.size, 1, none⟩ = some (.slice aS S.length cS)) := ⟨k0, k1⟩
      have HBD : Hid (Below w.heap.size w wr.drew) := hbel.drew
      have hd0 : w.heap.size < wr.drew.heap.size := hlw
      clear ho hbel hrow
      go_wp2
      go_region_held3 (fun w' => w'.cell? ⟨w.heap.size, 0, none⟩ = some (.int .i64 pS) ∧ w'.cell? ⟨w.heap.size, 1, none⟩ = some (.slice aS S.length cS)) (first | exact hs1.out | exact SSa.out | exact SSab.out | go_keep) (first | (go_at_call 113; (with_reducible refine (vector_any pS aS S cS rv (rw' m k) cv lom tpm wr.drew h6 HVL.out HRV.out HTV.out).mono ?_); rintro e wa ⟨ba, rfl, l_, u_, o_, b_⟩; have SSa := Lib.hid (ss2 b_ hd0 hs1.out); have HBa := Lib.hid (below_step HBD.out (Nat.le_of_lt hd0) b_); have zz_ := b_.size; have HCa := Lib.hid b_; have hda := Nat.lt_of_lt_of_le hd0 zz_; have la := Nat.lt_of_lt_of_le hd0 l_; have ua_a := u_; have Na_a := Lib.hid o_; have Ra_a := Lib.hid ((o_.own (Nat.le_of_lt la) u_).row); clear b_ o_) | (go_at_call 55; (with_reducible refine (wedge_vec pS aS S cS loS tpS r (wvM pS S m k) c w.heap.size wr.drew.heap.size ba w.heap.size wa.heap.size (rw' m k) wa HI.out (HS.out.below HBa.out tS) (Nat.le_trans tS (HBa.out).size) (HRR.out.below HCa.out (Nat.le_refl _)) HCa.out.size (wv_mv HI.out m k) Ra_a.out (Nat.le_refl _) HVV.out).mono ?_); rintro e wab ⟨rb, kb, rfl, o_, b_⟩; have SSab := Lib.hid (ss2 b_ hda SSa.out); have HBab := Lib.hid (below_step HBa.out (Nat.le_of_lt hda) b_); have zz_ := b_.size; have HCab := Lib.hid (below_step HCa.out (HCa.out).size b_); have hdab := Nat.lt_of_lt_of_le hda zz_; have Ra_ab := Lib.hid ((Ra_a.out.below b_ (Nat.le_refl _)).mono (Nat.le_refl _) zz_); have Na_ab := Lib.hid (Na_a.out.stay (b_.block ba ua_a)); have ua_ab := Nat.lt_of_lt_of_le ua_a zz_; have Ob_ab := Lib.hid (OwnR.mono' o_ (Nat.le_of_lt hda) (Nat.le_refl _)); have Rb_ab := Lib.hid (Ob_ab.out.row); clear b_ o_))
      go_wp2
      go_roundw
      case rel => exact ⟨k + 1, rb, kb, by omega, rfl, by go_num, Ob_ab.out, SSab.out.1, SSab.out.2, HBab.out, hdab⟩
      case measure => simp [intOf]; omega
    · have hkn : k = m.length := by omega
      subst hkn
      clear ho hbel
      go_wp2
      go_ret
      exact ⟨r, c, rfl, HO.out, HB.out⟩

set_option maxRecDepth 100000 in
set_option maxHeartbeats 1600000 in
theorem l05List_any (pS : Int) (aS : Option Addr) (S : List Int) (cS loS tpS : Nat) (am : Option Addr) (m : List (List Int)) (cm lom tpm : Nat) (w : World) (hS : RowIn loS tpS w aS S) (tS : tpS ≤ w.heap.size) (sS : S.length ≤ 1048576) (hm : MatIn lom tpm w am m) (tm : tpm ≤ w.heap.size) (sm : m.length ≤ 1048576) (sr : ∀ i, i < m.length → (rw' m i).length ≤ 1048576) :
    Calls Try.prog 78 #[.agg #[.int .i64 pS, .slice aS S.length cS], .slice am m.length cm] w fun e w' => e = .returned (.int .i64 (codeL pS S m)) ∧ Below w.heap.size w w' := by
  have HS := Lib.hid hS
  have Hm := Lib.hid hm
  have HSR := Lib.hid sr
  clear hS hm sr
  rcases codeL_cases pS S m with ⟨hi, hc⟩ | ⟨hi, hl, hc⟩ | ⟨hi, hl, hc⟩
  · have HI := Lib.hid hi
    have HC := Lib.hid hc
    clear hi hc
    go_enter Try.func78, Try.ntmps78
    go_wp2_with (first | (go_at_call 65; (with_reducible refine (l03Is_any pS aS S cS loS tpS _ (HS.out.below ((Below.refl _ _).alloc (Nat.le_refl _) (.cells #[.int .i64 pS, .slice aS S.length cS] 28)) tS) (Nat.le_trans tS (((Below.refl _ _).alloc (Nat.le_refl _) (.cells #[.int .i64 pS, .slice aS S.length cS] 28))).size) sS).mono ?_); rintro e w2 ⟨rfl, b2⟩; rw [HI.out]; have B2 := Lib.hid b2; have K2_0_0 := (b2.cell (p := ⟨w.heap.size, 0, none⟩) (Nat.lt_of_lt_of_le (show w.heap.size < (w.alloc (.cells #[.int .i64 pS, .slice aS S.length cS] 28)).heap.size by simp) (Nat.le_refl _))).trans (show (w.alloc (.cells #[.int .i64 pS, .slice aS S.length cS] 28)).cell? ⟨w.heap.size, 0, none⟩ = some (.int .i64 pS) by simp [go_sem]); have K2_0_1 := (b2.cell (p := ⟨w.heap.size, 1, none⟩) (Nat.lt_of_lt_of_le (show w.heap.size < (w.alloc (.cells #[.int .i64 pS, .slice aS S.length cS] 28)).heap.size by simp) (Nat.le_refl _))).trans (show (w.alloc (.cells #[.int .i64 pS, .slice aS S.length cS] 28)).cell? ⟨w.heap.size, 1, none⟩ = some (.slice aS S.length cS) by simp [go_sem]); clear b2))
    go_ret
    exact ⟨by rw [HC.out]; rfl, (below_step ((Below.refl _ _).alloc (Nat.le_refl _) (.cells #[.int .i64 pS, .slice aS S.length cS] 28)) (show w.heap.size ≤ (w.alloc (.cells #[.int .i64 pS, .slice aS S.length cS] 28)).heap.size from (((Below.refl _ _).alloc (Nat.le_refl _) (.cells #[.int .i64 pS, .slice aS S.length cS] 28))).size) B2.out)⟩
  · have HI := Lib.hid hi
    have HC := Lib.hid hc
    have HL := Lib.hid hl
    clear hi hc hl
    go_enter Try.func78, Try.ntmps78
    go_wp2_with (first | (go_at_call 65; (with_reducible refine (l03Is_any pS aS S cS loS tpS _ (HS.out.below ((Below.refl _ _).alloc (Nat.le_refl _) (.cells #[.int .i64 pS, .slice aS S.length cS] 28)) tS) (Nat.le_trans tS (((Below.refl _ _).alloc (Nat.le_refl _) (.cells #[.int .i64 pS, .slice aS S.length cS] 28))).size) sS).mono ?_); rintro e w2 ⟨rfl, b2⟩; rw [HI.out]; have B2 := Lib.hid b2; have K2_0_0 := (b2.cell (p := ⟨w.heap.size, 0, none⟩) (Nat.lt_of_lt_of_le (show w.heap.size < (w.alloc (.cells #[.int .i64 pS, .slice aS S.length cS] 28)).heap.size by simp) (Nat.le_refl _))).trans (show (w.alloc (.cells #[.int .i64 pS, .slice aS S.length cS] 28)).cell? ⟨w.heap.size, 0, none⟩ = some (.int .i64 pS) by simp [go_sem]); have K2_0_1 := (b2.cell (p := ⟨w.heap.size, 1, none⟩) (Nat.lt_of_lt_of_le (show w.heap.size < (w.alloc (.cells #[.int .i64 pS, .slice aS S.length cS] 28)).heap.size by simp) (Nat.le_refl _))).trans (show (w.alloc (.cells #[.int .i64 pS, .slice aS S.length cS] 28)).cell? ⟨w.heap.size, 1, none⟩ = some (.slice aS S.length cS) by simp [go_sem]); clear b2) | (go_at_call 109; (with_reducible refine (l03List_any pS aS S cS am m cm lom tpm _ (isSp_iff.1 HI.out).prime sS (Hm.out.below (below_step ((Below.refl _ _).alloc (Nat.le_refl _) (.cells #[.int .i64 pS, .slice aS S.length cS] 28)) (show w.heap.size ≤ (w.alloc (.cells #[.int .i64 pS, .slice aS S.length cS] 28)).heap.size from (((Below.refl _ _).alloc (Nat.le_refl _) (.cells #[.int .i64 pS, .slice aS S.length cS] 28))).size) B2.out) tm) (Nat.le_trans tm ((below_step ((Below.refl _ _).alloc (Nat.le_refl _) (.cells #[.int .i64 pS, .slice aS S.length cS] 28)) (show w.heap.size ≤ (w.alloc (.cells #[.int .i64 pS, .slice aS S.length cS] 28)).heap.size from (((Below.refl _ _).alloc (Nat.le_refl _) (.cells #[.int .i64 pS, .slice aS S.length cS] 28))).size) B2.out)).size) sm HSR.out).mono ?_); rintro e w3 ⟨rfl, b3⟩; rw [HL.out]; have B3 := Lib.hid b3; have K3_0_0 := (b3.cell (p := ⟨w.heap.size, 0, none⟩) (Nat.lt_of_lt_of_le (show w.heap.size < (w.alloc (.cells #[.int .i64 pS, .slice aS S.length cS] 28)).heap.size by simp) (Nat.le_trans (Nat.le_refl _) B2.out.size))).trans K2_0_0; clear K2_0_0; have K3_0_1 := (b3.cell (p := ⟨w.heap.size, 1, none⟩) (Nat.lt_of_lt_of_le (show w.heap.size < (w.alloc (.cells #[.int .i64 pS, .slice aS S.length cS] 28)).heap.size by simp) (Nat.le_trans (Nat.le_refl _) B2.out.size))).trans K2_0_1; clear K2_0_1; clear b3))
    go_ret
    exact ⟨by rw [HC.out]; rfl, (below_step (below_step ((Below.refl _ _).alloc (Nat.le_refl _) (.cells #[.int .i64 pS, .slice aS S.length cS] 28)) (show w.heap.size ≤ (w.alloc (.cells #[.int .i64 pS, .slice aS S.length cS] 28)).heap.size from (((Below.refl _ _).alloc (Nat.le_refl _) (.cells #[.int .i64 pS, .slice aS S.length cS] 28))).size) B2.out) (show w.heap.size ≤ w2.heap.size from ((below_step ((Below.refl _ _).alloc (Nat.le_refl _) (.cells #[.int .i64 pS, .slice aS S.length cS] 28)) (show w.heap.size ≤ (w.alloc (.cells #[.int .i64 pS, .slice aS S.length cS] 28)).heap.size from (((Below.refl _ _).alloc (Nat.le_refl _) (.cells #[.int .i64 pS, .slice aS S.length cS] 28))).size) B2.out)).size) B3.out)⟩
  · have HI := Lib.hid hi
    have HC := Lib.hid hc
    have HL := Lib.hid hl
    clear hi hc hl
    go_enter Try.func78, Try.ntmps78
    go_wp2_with (first | (go_at_call 65; (with_reducible refine (l03Is_any pS aS S cS loS tpS _ (HS.out.below ((Below.refl _ _).alloc (Nat.le_refl _) (.cells #[.int .i64 pS, .slice aS S.length cS] 28)) tS) (Nat.le_trans tS (((Below.refl _ _).alloc (Nat.le_refl _) (.cells #[.int .i64 pS, .slice aS S.length cS] 28))).size) sS).mono ?_); rintro e w2 ⟨rfl, b2⟩; rw [HI.out]; have B2 := Lib.hid b2; have K2_0_0 := (b2.cell (p := ⟨w.heap.size, 0, none⟩) (Nat.lt_of_lt_of_le (show w.heap.size < (w.alloc (.cells #[.int .i64 pS, .slice aS S.length cS] 28)).heap.size by simp) (Nat.le_refl _))).trans (show (w.alloc (.cells #[.int .i64 pS, .slice aS S.length cS] 28)).cell? ⟨w.heap.size, 0, none⟩ = some (.int .i64 pS) by simp [go_sem]); have K2_0_1 := (b2.cell (p := ⟨w.heap.size, 1, none⟩) (Nat.lt_of_lt_of_le (show w.heap.size < (w.alloc (.cells #[.int .i64 pS, .slice aS S.length cS] 28)).heap.size by simp) (Nat.le_refl _))).trans (show (w.alloc (.cells #[.int .i64 pS, .slice aS S.length cS] 28)).cell? ⟨w.heap.size, 1, none⟩ = some (.slice aS S.length cS) by simp [go_sem]); clear b2) | (go_at_call 109; (with_reducible refine (l03List_any pS aS S cS am m cm lom tpm _ (isSp_iff.1 HI.out).prime sS (Hm.out.below (below_step ((Below.refl _ _).alloc (Nat.le_refl _) (.cells #[.int .i64 pS, .slice aS S.length cS] 28)) (show w.heap.size ≤ (w.alloc (.cells #[.int .i64 pS, .slice aS S.length cS] 28)).heap.size from (((Below.refl _ _).alloc (Nat.le_refl _) (.cells #[.int .i64 pS, .slice aS S.length cS] 28))).size) B2.out) tm) (Nat.le_trans tm ((below_step ((Below.refl _ _).alloc (Nat.le_refl _) (.cells #[.int .i64 pS, .slice aS S.length cS] 28)) (show w.heap.size ≤ (w.alloc (.cells #[.int .i64 pS, .slice aS S.length cS] 28)).heap.size from (((Below.refl _ _).alloc (Nat.le_refl _) (.cells #[.int .i64 pS, .slice aS S.length cS] 28))).size) B2.out)).size) sm HSR.out).mono ?_); rintro e w3 ⟨rfl, b3⟩; rw [HL.out]; have B3 := Lib.hid b3; have K3_0_0 := (b3.cell (p := ⟨w.heap.size, 0, none⟩) (Nat.lt_of_lt_of_le (show w.heap.size < (w.alloc (.cells #[.int .i64 pS, .slice aS S.length cS] 28)).heap.size by simp) (Nat.le_trans (Nat.le_refl _) B2.out.size))).trans K2_0_0; clear K2_0_0; have K3_0_1 := (b3.cell (p := ⟨w.heap.size, 1, none⟩) (Nat.lt_of_lt_of_le (show w.heap.size < (w.alloc (.cells #[.int .i64 pS, .slice aS S.length cS] 28)).heap.size by simp) (Nat.le_trans (Nat.le_refl _) B2.out.size))).trans K2_0_1; clear K2_0_1; clear b3))
    go_ret
    exact ⟨by rw [HC.out]; rfl, (below_step (below_step ((Below.refl _ _).alloc (Nat.le_refl _) (.cells #[.int .i64 pS, .slice aS S.length cS] 28)) (show w.heap.size ≤ (w.alloc (.cells #[.int .i64 pS, .slice aS S.length cS] 28)).heap.size from (((Below.refl _ _).alloc (Nat.le_refl _) (.cells #[.int .i64 pS, .slice aS S.length cS] 28))).size) B2.out) (show w.heap.size ≤ w2.heap.size from ((below_step ((Below.refl _ _).alloc (Nat.le_refl _) (.cells #[.int .i64 pS, .slice aS S.length cS] 28)) (show w.heap.size ≤ (w.alloc (.cells #[.int .i64 pS, .slice aS S.length cS] 28)).heap.size from (((Below.refl _ _).alloc (Nat.le_refl _) (.cells #[.int .i64 pS, .slice aS S.length cS] 28))).size) B2.out)).size) B3.out)⟩

end Go.Proofs.Ytcmedhkamjclmaa

namespace Go.Proofs.Ytcmedhkamjclmaa
set_option linter.unusedVariables false

/-- All n rows with c numbers vanish at x. -/
def nul (p : Int) (n c : Nat) (R : Nat → Nat → Int) (x : Nat → Int) : Prop := ∀ i, i < n → sm c (fun j => R i j * x j) % p = 0

/-- Reduced rows, with their pivots. -/
structure Rref (p : Int) (n c : Nat) (R : Nat → Nat → Int) (P : Nat → Nat) : Prop where
  pv : ∀ i, i < n → P i < c
  mono : ∀ i i', i < i' → i' < n → P i < P i'
  one : ∀ i, i < n → R i (P i) = 1
  zer : ∀ i, i < n → ∀ i', i' < n → i ≠ i' → R i' (P i) = 0
  fst : ∀ i, i < n → ∀ j, j < P i → R i j = 0
  rng : ∀ i, i < n → ∀ j, j < c → 0 ≤ R i j ∧ R i j < p

/-- The vector that belongs to column k. -/
def kv (n : Nat) (R : Nat → Nat → Int) (P : Nat → Nat) (k j : Nat) : Int := (if j = k then 1 else 0) + sm n (fun i => if j = P i then - R i k else 0)

theorem sm_neg (n : Nat) (f : Nat → Int) : sm n (fun j => - f j) = - sm n f := by
  induction n with
  | zero => rfl
  | succ n ih => simp only [sm]; rw [ih]; omega
theorem ite_mul' (q : Prop) [Decidable q] (a x : Int) : a * (if q then x else 0) = if q then a * x else 0 := by split <;> simp

/-- A row of any rows times that vector. -/
theorem kv_row {p : Int} {n c : Nat} {R : Nat → Nat → Int} {P : Nat → Nat} (h : Rref p n c R P) (S : Nat → Int) {k : Nat} (hk : k < c) :
    sm c (fun j => S j * kv n R P k j) = S k - sm n (fun i => R i k * S (P i)) := by
  have e1 : sm c (fun j => S j * kv n R P k j) = sm c (fun j => (if j = k then S k else 0) + sm n (fun i => if j = P i then - (R i k * S (P i)) else 0)) := by
    apply sm_congr
    intro j hj
    unfold kv
    rw [Int.mul_add, ite_mul', Int.mul_one, ← sm_mul]
    congr 1
    · by_cases e : j = k
      · subst e; simp
      · simp [e]
    · apply sm_congr
      intro i hi
      rw [ite_mul']
      by_cases e : j = P i
      · subst e; simp only [if_pos]; rw [Int.mul_neg, Int.mul_comm]
      · simp [e]
  rw [e1, sm_add, sm_single, if_pos hk, sm_swap]
  have e2 : sm n (fun i => sm c (fun j => if j = P i then - (R i k * S (P i)) else 0)) = sm n (fun i => - (R i k * S (P i))) := by
    apply sm_congr
    intro i hi
    rw [sm_single, if_pos (h.pv i hi)]
  rw [e2, sm_neg]
  omega

theorem Rref.pick {p : Int} {n c : Nat} {R : Nat → Nat → Int} {P : Nat → Nat} (h : Rref p n c R P) {i : Nat} (hi : i < n) (f : Nat → Int) : sm n (fun i' => f i' * R i (P i')) = f i := by
  have e : sm n (fun i' => f i' * R i (P i')) = sm n (fun i' => if i' = i then f i else 0) := by
    apply sm_congr
    intro i' hi'
    by_cases e : i' = i
    · subst e; rw [h.one i' hi', if_pos rfl, Int.mul_one]
    · rw [h.zer i' hi' i hi e, if_neg e, Int.mul_zero]
  rw [e, sm_single, if_pos hi]

theorem kv_nul {p : Int} {n c : Nat} {R : Nat → Nat → Int} {P : Nat → Nat} (h : Rref p n c R P) {k : Nat} (hk : k < c) : nul p n c R (kv n R P k) := by
  intro i hi
  rw [kv_row h (R i) hk, h.pick hi (fun i' => R i' k)]
  simp

theorem kv_top {p : Int} {n c : Nat} {R : Nat → Nat → Int} {P : Nat → Nat} (h : Rref p n c R P) {k : Nat} (hnp : ∀ i, i < n → P i ≠ k) : kv n R P k k = 1 := by
  unfold kv
  have e : sm n (fun i => if k = P i then - R i k else 0) = sm n (fun _ => 0) := by
    apply sm_congr; intro i hi; rw [if_neg (fun e => hnp i hi e.symm)]
  rw [e, sm_zero]; simp
theorem kv_over {p : Int} {n c : Nat} {R : Nat → Nat → Int} {P : Nat → Nat} (h : Rref p n c R P) {k j : Nat} (hkj : k < j) : kv n R P k j = 0 := by
  unfold kv
  have e : sm n (fun i => if j = P i then - R i k else 0) = sm n (fun _ => 0) := by
    apply sm_congr; intro i hi
    by_cases e : j = P i
    · rw [if_pos e, h.fst i hi k (by omega)]; rfl
    · rw [if_neg e]
  rw [e, sm_zero, if_neg (by omega)]; rfl

/-- A column is a pivot exactly if nothing that vanishes ends there with 1. -/
theorem Rref.pivot {p : Int} {n c : Nat} {R : Nat → Nat → Int} {P : Nat → Nat} (h : Rref p n c R P) (hp : 1 < p) {k : Nat} (hk : k < c) :
    (∃ i, i < n ∧ P i = k) ↔ ¬ ∃ x : Nat → Int, nul p n c R x ∧ x k = 1 ∧ ∀ j, k < j → x j = 0 := by
  constructor
  · rintro ⟨i, hi, rfl⟩ ⟨x, hx, h1, h2⟩
    have e : sm c (fun j => R i j * x j) = sm c (fun j => if j = P i then 1 else 0) := by
      apply sm_congr
      intro j hj
      rcases Nat.lt_trichotomy j (P i) with l | l | l
      · rw [h.fst i hi j l, if_neg (by omega)]; simp
      · subst l; rw [h.one i hi, h1, if_pos rfl]; rfl
      · rw [h2 j l, if_neg (by omega)]; simp
    have := hx i hi
    rw [e, sm_single, if_pos hk, Int.emod_eq_of_lt (by omega) hp] at this
    omega
  · intro hno
    rcases Classical.em (∃ i, i < n ∧ P i = k) with h1 | h1
    · exact h1
    · exact absurd ⟨kv n R P k, kv_nul h hk, kv_top h (fun i hi e => h1 ⟨i, hi, e⟩), fun j hj => kv_over h hj⟩ hno

end Go.Proofs.Ytcmedhkamjclmaa

namespace Go.Proofs.Ytcmedhkamjclmaa
set_option linter.unusedVariables false

/-! ### One row at x -/
def van (p : Int) (c : Nat) (r x : Nat → Int) : Prop := sm c (fun j => r j * x j) % p = 0
theorem sm_emod_congr {p : Int} {c : Nat} {f g : Nat → Int} (h : ∀ j, j < c → f j % p = g j % p) : sm c f % p = sm c g % p := by
  induction c with
  | zero => rfl
  | succ c ih => simp only [sm]; rw [Int.add_emod, ih (fun j hj => h j (by omega)), h c (by omega), ← Int.add_emod]
theorem van_emod {p : Int} {c : Nat} {r r' x : Nat → Int} (h : ∀ j, j < c → r j % p = r' j % p) : van p c r x ↔ van p c r' x := by
  unfold van
  rw [sm_emod_congr (f := fun j => r j * x j) (g := fun j => r' j * x j) (fun j hj => by rw [Int.mul_emod, h j hj, ← Int.mul_emod])]
/-- A multiple is added of a row that vanishes. -/
theorem van_add {p : Int} {c : Nat} {r s r' x : Nat → Int} {k : Int} (h : ∀ j, j < c → r' j = (r j + k * s j) % p) (hs : van p c s x) : van p c r' x ↔ van p c r x := by
  have e : van p c r' x ↔ van p c (fun j => r j + k * s j) x := van_emod (fun j hj => by rw [h j hj, Int.emod_emod])
  rw [e]
  unfold van at hs ⊢
  have e2 : sm c (fun j => (r j + k * s j) * x j) = sm c (fun j => r j * x j) + k * sm c (fun j => s j * x j) := by
    rw [← sm_mul, ← sm_add]
    apply sm_congr
    intro j _
    rw [Int.add_mul, Int.mul_assoc]
  rw [e2, Int.add_emod, Int.mul_emod, hs]
  simp
/-- A row is multiplied by a number that has an inverse. -/
theorem van_scale {p : Int} {c : Nat} {r r' x : Nat → Int} {f g : Int} (h : ∀ j, j < c → r' j = r j * f % p) (hfg : f * g % p = 1 % p) : van p c r' x ↔ van p c r x := by
  have e : van p c r' x ↔ van p c (fun j => r j * f) x := van_emod (fun j hj => by rw [h j hj, Int.emod_emod])
  rw [e]
  unfold van
  have e2 : sm c (fun j => r j * f * x j) = f * sm c (fun j => r j * x j) := by
    rw [← sm_mul]
    apply sm_congr
    intro j _
    rw [Int.mul_comm (r j) f, Int.mul_assoc]
  rw [e2]
  constructor
  · intro h0
    have h1 : (g * (f * sm c (fun j => r j * x j))) % p = 0 := by rw [Int.mul_emod, h0]; simp
    rw [← Int.mul_assoc, Int.mul_comm g f, Int.mul_emod, hfg, ← Int.mul_emod, Int.one_mul] at h1
    exact h1
  · intro h0
    rw [Int.mul_emod, h0]; simp

theorem inv_mul {p a : Int} (hp : prm p = true) (h0 : 1 ≤ a) (h1 : a < p) : a * inv p a % p = 1 :=
  (inv_iff hp h0 h1 (inv_pos hp h0 h1) (Int.le_refl _)).2 rfl

/-! ### What a reduced basis is -/
structure IsBas (p : Int) (c : Nat) (A m : List (List Int)) : Prop where
  len : ∀ i, i < m.length → (rw' m i).length = c
  red : ∃ P, Rref p m.length c (at' m) P
  nul : ∀ x, nul p A.length c (at' A) x ↔ Go.Proofs.Ytcmedhkamjclmaa.nul p m.length c (at' m) x
/-! ### The model's elimination: column by column -/
/-- Where it stands: d rows done, k columns seen. -/
structure ColAt (p : Int) (c : Nat) (A m : List (List Int)) (d k : Nat) (P : Nat → Nat) : Prop where
  n : m.length = A.length
  dn : d ≤ m.length
  len : ∀ i, i < m.length → (rw' m i).length = c
  rng : ∀ i, i < m.length → ∀ j, j < c → 0 ≤ at' m i j ∧ at' m i j < p
  pv : ∀ i, i < d → P i < k
  mono : ∀ i i', i < i' → i' < d → P i < P i'
  one : ∀ i, i < d → at' m i (P i) = 1
  zer : ∀ i, i < d → ∀ i', i' < m.length → i ≠ i' → at' m i' (P i) = 0
  fst : ∀ i, i < d → ∀ j, j < P i → at' m i j = 0
  low : ∀ i, d ≤ i → i < m.length → ∀ j, j < k → at' m i j = 0
  nul : ∀ x, Go.Proofs.Ytcmedhkamjclmaa.nul p A.length c (at' A) x ↔ Go.Proofs.Ytcmedhkamjclmaa.nul p m.length c (at' m) x
theorem ColAt.start {p : Int} {c : Nat} {A : List (List Int)} (hl : ∀ i, i < A.length → (rw' A i).length = c) (hr : ∀ i, i < A.length → ∀ j, j < c → 0 ≤ at' A i j ∧ at' A i j < p) : ColAt p c A A 0 0 (fun _ => 0) where
  n := rfl
  dn := Nat.zero_le _
  len := hl
  rng := hr
  pv i hi := by omega
  mono i i' _ hi := by omega
  one i hi := by omega
  zer i hi := by omega
  fst i hi := by omega
  low i _ _ j hj := by omega
  nul x := Iff.rfl
/-- No pivot in column k. -/
theorem ColAt.skip {p : Int} {c : Nat} {A m : List (List Int)} {d k : Nat} {P : Nat → Nat} (h : ColAt p c A m d k P) (hz : ∀ i, d ≤ i → i < m.length → at' m i k = 0) : ColAt p c A m d (k + 1) P :=
  { h with
    pv := fun i hi => Nat.lt_succ_of_lt (h.pv i hi)
    low := fun i h1 h2 j hj => by
      by_cases e : j = k
      · subst e; exact hz i h1 h2
      · exact h.low i h1 h2 j (by omega) }
/-- All columns are seen. -/
theorem ColAt.done {p : Int} {c : Nat} {A m : List (List Int)} {d : Nat} {P : Nat → Nat} (h : ColAt p c A m d c P) : IsBas p c A (m.take d) := by
  have hl : (m.take d).length = d := by rw [List.length_take]; have := h.dn; omega
  have hrow : ∀ i, i < d → rw' (m.take d) i = rw' m i := fun i hi => by
    simp only [rw', List.getD_eq_getElem?_getD, List.getElem?_take]; rw [if_pos hi]
  have hat : ∀ i, i < d → at' (m.take d) i = at' m i := fun i hi => by funext j; unfold at'; rw [hrow i hi]
  have hdn := h.dn
  refine ⟨fun i hi => by rw [hl] at hi; rw [hrow i hi]; exact h.len i (by omega), ⟨P, ?_⟩, fun x => ?_⟩
  · rw [hl]
    exact ⟨h.pv, h.mono, fun i hi => by rw [hat i hi]; exact h.one i hi, fun i hi i' hi' hne => by rw [hat i' hi']; exact h.zer i hi i' (by omega) hne, fun i hi j hj => by rw [hat i hi]; exact h.fst i hi j hj, fun i hi j hj => by rw [hat i hi]; exact h.rng i (by omega) j hj⟩
  · rw [h.nul x, hl]
    constructor
    · intro g i hi
      have := g i (by omega)
      rw [hat i hi]; exact this
    · intro g i hi
      by_cases e : i < d
      · have := g i e
        rw [hat i e] at this; exact this
      · have e0 : sm c (fun j => at' m i j * x j) = sm c (fun _ => 0) := sm_congr (fun j hj => by rw [h.low i (by omega) hi j hj, Int.zero_mul])
        rw [e0, sm_zero]; rfl
/-- A pivot in row f of column k: what becomes of the rows. -/
theorem ColAt.pick {p : Int} {c : Nat} {A m m' : List (List Int)} {d k f : Nat} {P : Nat → Nat} (hp : prm p = true) (h : ColAt p c A m d k P) (hk : k < c) (hdf : d ≤ f) (hf : f < m.length) (ha : 1 ≤ at' m f k)
    (hn : m'.length = m.length) (hl : ∀ i, i < m'.length → (rw' m' i).length = c)
    (hd : ∀ j, j < c → at' m' d j = at' m f j * inv p (at' m f k) % p)
    (ho : ∀ i, i < m.length → i ≠ d → ∀ j, j < c → at' m' i j = (at' m (if i = f then d else i) j + (p - at' m (if i = f then d else i) k) % p * at' m' d j) % p) :
    ColAt p c A m' (d + 1) (k + 1) (fun i => if i = d then k else P i) := by
  have hpb := prm_bd hp
  have hak := h.rng f hf k hk
  have hdk : at' m' d k = 1 := by rw [hd k hk]; exact inv_mul hp ha hak.2
  have hd0 : ∀ j, j < k → at' m' d j = 0 := fun j hj => by rw [hd j (by omega), h.low f hdf hf j hj]; simp
  have hsig : ∀ i, i < m.length → i ≠ d → (if i = f then d else i) < m.length := fun i hi hne => by split <;> omega
  have hok : ∀ i, i < m.length → i ≠ d → at' m' i k = 0 := fun i hi hne => by
    rw [ho i hi hne k hk, hdk, Int.mul_one]
    have r := h.rng _ (hsig i hi hne) k hk
    by_cases e : at' m (if i = f then d else i) k = 0
    · rw [e]; simp
    · rw [Int.emod_eq_of_lt (a := p - at' m (if i = f then d else i) k) (by omega) (by omega)]
      have : at' m (if i = f then d else i) k + (p - at' m (if i = f then d else i) k) = p := by omega
      rw [this]; simp
  have hkeep : ∀ i, i < m.length → i ≠ d → ∀ j, j < k → at' m' i j = at' m (if i = f then d else i) j := fun i hi hne j hj => by
    rw [ho i hi hne j (by omega), hd0 j hj, Int.mul_zero, Int.add_zero]
    have r := h.rng _ (hsig i hi hne) j (by omega)
    exact Int.emod_eq_of_lt r.1 r.2
  refine ⟨by rw [hn, h.n], by omega, hl, fun i hi j hj => ?_, fun i hi => ?_, fun i i' hii hi' => ?_, fun i hi => ?_, fun i hi i' hi' hne => ?_, fun i hi j hj => ?_, fun i hi0 hi j hj => ?_, fun x => ?_⟩
  · rw [hn] at hi
    by_cases e : i = d
    · subst e; rw [hd j hj]; exact mod_bd hp _
    · rw [ho i hi e j hj]; exact mod_bd hp _
  · show (if i = d then k else P i) < k + 1
    by_cases e : i = d
    · rw [if_pos e]; omega
    · rw [if_neg e]; have := h.pv i (by omega); omega
  · show (if i = d then k else P i) < if i' = d then k else P i'
    have e : ¬ i = d := by omega
    rw [if_neg e]
    by_cases e' : i' = d
    · rw [if_pos e']; exact h.pv i (by omega)
    · rw [if_neg e']; exact h.mono i i' hii (by omega)
  · show at' m' i (if i = d then k else P i) = 1
    by_cases e : i = d
    · rw [if_pos e, e]; exact hdk
    · have hid : i < d := by omega
      rw [if_neg e, hkeep i (by have := h.dn; omega) e _ (h.pv i hid), if_neg (by omega)]
      exact h.one i hid
  · show at' m' i' (if i = d then k else P i) = 0
    rw [hn] at hi'
    by_cases e : i = d
    · rw [if_pos e]; exact hok i' hi' (by omega)
    · have hid : i < d := by omega
      rw [if_neg e]
      by_cases e' : i' = d
      · rw [e']; exact hd0 _ (h.pv i hid)
      · rw [hkeep i' hi' e' _ (h.pv i hid)]
        refine h.zer i hid _ (hsig i' hi' e') ?_
        split <;> omega
  · show at' m' i j = 0
    have hj' : j < (if i = d then k else P i) := hj
    by_cases e : i = d
    · rw [if_pos e] at hj'; rw [e]; exact hd0 j hj'
    · have hid : i < d := by omega
      rw [if_neg e] at hj'
      rw [hkeep i (by have := h.dn; omega) e j (by have := h.pv i hid; omega), if_neg (by omega)]
      exact h.fst i hid j hj'
  · rw [hn] at hi
    have e : ¬ i = d := by omega
    by_cases ek : j = k
    · rw [ek]; exact hok i hi e
    · rw [hkeep i hi e j (by omega)]
      refine h.low _ ?_ (hsig i hi e) j (by omega)
      split <;> omega
  · rw [h.nul x]
    have vd : van p c (at' m' d) x ↔ van p c (at' m f) x := van_scale (g := at' m f k) hd (by rw [Int.mul_comm, inv_mul hp ha hak.2, Int.emod_eq_of_lt (by omega) (by omega)])
    have vo : van p c (at' m f) x → ∀ i, i < m.length → i ≠ d → (van p c (at' m' i) x ↔ van p c (at' m (if i = f then d else i)) x) := fun hv i hi hne => van_add (ho i hi hne) (vd.2 hv)
    constructor
    · intro g i hi
      rw [hn] at hi
      by_cases e : i = d
      · subst e; exact vd.2 (g f hf)
      · exact (vo (g f hf) i hi e).2 (g _ (hsig i hi e))
    · intro g i hi
      have hvf : van p c (at' m f) x := vd.1 (g d (by rw [hn]; omega))
      by_cases e : i = f
      · subst e; exact hvf
      · by_cases e' : i = d
        · have hfd : f ≠ d := by omega
          have := (vo hvf f hf hfd).1 (g f (by rw [hn]; exact hf))
          rw [if_pos rfl] at this
          rw [e']; exact this
        · have := (vo hvf i hi e').1 (g i (by rw [hn]; exact hi))
          rw [if_neg e] at this
          exact this

end Go.Proofs.Ytcmedhkamjclmaa

namespace Go.Proofs.Ytcmedhkamjclmaa
set_option linter.unusedVariables false

def skp (i r : Nat) : Nat := if r < i then r else r + 1
def usk (i k : Nat) : Nat := if k < i then k else k - 1
def sg (i : Nat) : Int := if i % 2 = 0 then 1 else -1
def dt : Nat → (Nat → Nat → Int) → Int
  | 0, _ => 1
  | n + 1, f => sm (n + 1) fun i => sg i * f i 0 * dt n (fun r c => f (skp i r) (c + 1))
theorem skp_lt {i r n : Nat} (h : r < n) : skp i r < n + 1 := by unfold skp; split <;> omega
theorem skp_ne (i r : Nat) : skp i r ≠ i := by unfold skp; split <;> omega
theorem skp_eq {i r k : Nat} (h : i ≠ k) : skp i r = k ↔ r = usk i k := by unfold skp usk; split <;> split <;> omega
theorem usk_lt {i k n : Nat} (h : i ≠ k) (hi : i < n + 1) (hk : k < n + 1) : usk i k < n := by unfold usk; split <;> omega

theorem dt_congr {n : Nat} {f g : Nat → Nat → Int} (h : ∀ i, i < n → ∀ j, j < n → f i j = g i j) : dt n f = dt n g := by
  induction n generalizing f g with
  | zero => rfl
  | succ n ih =>
    simp only [dt]
    apply sm_congr
    intro i hi
    rw [h i hi 0 (by omega), ih (fun r hr c hc => h _ (skp_lt hr) _ (by omega))]
theorem mul_emod_congr {p a a' b b' : Int} (h : a % p = a' % p) (k : b % p = b' % p) : a * b % p = a' * b' % p := by rw [Int.mul_emod, h, k, ← Int.mul_emod]
theorem dt_mod {p : Int} {n : Nat} {f g : Nat → Nat → Int} (h : ∀ i, i < n → ∀ j, j < n → f i j % p = g i j % p) : dt n f % p = dt n g % p := by
  induction n generalizing f g with
  | zero => rfl
  | succ n ih =>
    simp only [dt]
    apply sm_emod_congr
    intro i hi
    exact mul_emod_congr (mul_emod_congr rfl (h i hi 0 (by omega))) (ih (fun r hr c hc => h _ (skp_lt hr) _ (by omega)))

def upd (f : Nat → Nat → Int) (k : Nat) (u : Nat → Int) : Nat → Nat → Int := fun i => if i = k then u else f i
theorem upd_same (f : Nat → Nat → Int) (k : Nat) (u : Nat → Int) : upd f k u k = u := if_pos rfl
theorem upd_ne {f : Nat → Nat → Int} {k i : Nat} (u : Nat → Int) (h : i ≠ k) : upd f k u i = f i := if_neg h
theorem upd_self (f : Nat → Nat → Int) (k : Nat) : upd f k (f k) = f := by
  funext i; unfold upd; split
  · next h => rw [h]
  · rfl
theorem upd_comm (f : Nat → Nat → Int) {k l : Nat} (h : k ≠ l) (u v : Nat → Int) : upd (upd f k u) l v = upd (upd f l v) k u := by
  funext i; unfold upd
  by_cases e : i = l
  · subst e; rw [if_pos rfl, if_neg (fun q => h q.symm), if_pos rfl]
  · rw [if_neg e, if_neg e]
theorem minor_eq (f : Nat → Nat → Int) (k : Nat) (w : Nat → Int) : (fun r c => upd f k w (skp k r) (c + 1)) = fun r c => f (skp k r) (c + 1) := by
  funext r c; unfold upd; rw [if_neg (skp_ne k r)]
theorem minor_ne (f : Nat → Nat → Int) {i k : Nat} (w : Nat → Int) (h : i ≠ k) : (fun r c => upd f k w (skp i r) (c + 1)) = upd (fun r c => f (skp i r) (c + 1)) (usk i k) (fun c => w (c + 1)) := by
  funext r c; unfold upd
  by_cases e : skp i r = k
  · rw [if_pos e, if_pos ((skp_eq h).1 e)]
  · rw [if_neg e, if_neg (fun q => e ((skp_eq h).2 q))]

theorem dt_lin {n k : Nat} (hk : k < n) (f : Nat → Nat → Int) (u v : Nat → Int) (x : Int) : dt n (upd f k (fun j => u j + x * v j)) = dt n (upd f k u) + x * dt n (upd f k v) := by
  induction n generalizing f u v k with
  | zero => omega
  | succ n ih =>
    simp only [dt]
    rw [← sm_mul, ← sm_add]
    apply sm_congr
    intro i hi
    by_cases e : i = k
    · subst e
      rw [minor_eq, minor_eq, minor_eq, upd_same, upd_same, upd_same, Int.mul_add, Int.add_mul, Int.mul_left_comm (sg i) x, Int.mul_assoc x]
    · rw [minor_ne f _ e, minor_ne f _ e, minor_ne f _ e, upd_ne _ e, upd_ne _ e, upd_ne _ e]
      have h := ih (usk_lt e hi hk) (fun r c => f (skp i r) (c + 1)) (fun c => u (c + 1)) (fun c => v (c + 1))
      rw [h, Int.mul_add, Int.mul_left_comm _ x]
theorem dt_zero {n k : Nat} (hk : k < n) {f : Nat → Nat → Int} (h : ∀ j, j < n → f k j = 0) : dt n f = 0 := by
  have e : dt n f = dt n (upd f k (fun _ => 0)) := dt_congr (fun i _ j hj => by
    unfold upd; split
    · next q => rw [q]; exact h j hj
    · rfl)
  have l := dt_lin hk f (fun _ => 0) (fun _ => 0) 1
  simp only [Int.mul_zero, Int.add_zero, Int.one_mul] at l
  omega
theorem dt_scale {n k : Nat} (hk : k < n) (f : Nat → Nat → Int) (v : Nat → Int) (x : Int) : dt n (upd f k (fun j => x * v j)) = x * dt n (upd f k v) := by
  have l := dt_lin hk f (fun _ => 0) v x
  have z : dt n (upd f k (fun _ => 0)) = 0 := dt_zero hk (fun j _ => by rw [upd_same])
  rw [z] at l
  simpa using l
theorem sg_succ (k : Nat) : sg (k + 1) = - sg k := by unfold sg; split <;> split <;> omega

theorem dt_adj {n k : Nat} (hk : k + 1 < n) {f : Nat → Nat → Int} (h : ∀ j, j < n → f k j = f (k + 1) j) : dt n f = 0 := by
  induction n generalizing f k with
  | zero => omega
  | succ n ih =>
    simp only [dt]
    have hm : dt n (fun r c => f (skp (k + 1) r) (c + 1)) = dt n (fun r c => f (skp k r) (c + 1)) := dt_congr (fun r hr c hc => by
      show f (skp (k + 1) r) (c + 1) = f (skp k r) (c + 1)
      rcases Nat.lt_trichotomy r k with l | l | l
      · have e1 : skp (k + 1) r = r := if_pos (by omega)
        have e2 : skp k r = r := if_pos l
        rw [e1, e2]
      · subst l
        have e1 : skp (r + 1) r = r := if_pos (by omega)
        have e2 : skp r r = r + 1 := if_neg (by omega)
        rw [e1, e2]; exact h _ (by omega)
      · have e1 : skp (k + 1) r = r + 1 := if_neg (by omega)
        have e2 : skp k r = r + 1 := if_neg (by omega)
        rw [e1, e2])
    have key : ∀ i, i < n + 1 → sg i * f i 0 * dt n (fun r c => f (skp i r) (c + 1)) = (if i = k then sg k * f k 0 * dt n (fun r c => f (skp k r) (c + 1)) else 0) + (if i = k + 1 then -(sg k * f k 0 * dt n (fun r c => f (skp k r) (c + 1))) else 0) := by
      intro i hi
      by_cases e : i = k
      · subst e; rw [if_pos rfl, if_neg (by omega), Int.add_zero]
      · by_cases e' : i = k + 1
        · subst e'; rw [if_neg e, if_pos rfl, hm, sg_succ, ← h 0 (by omega), Int.zero_add, Int.neg_mul, Int.neg_mul]
        · rw [if_neg e, if_neg e']
          have z : dt n (fun r c => f (skp i r) (c + 1)) = 0 := by
            by_cases l : i < k
            · refine ih (k := k - 1) (by omega) (fun j hj => ?_)
              have e1 : skp i (k - 1) = k := by unfold skp; rw [if_neg (by omega)]; omega
              have e2 : skp i (k - 1 + 1) = k + 1 := by unfold skp; rw [if_neg (by omega)]; omega
              show f (skp i (k - 1)) (j + 1) = f (skp i (k - 1 + 1)) (j + 1)
              rw [e1, e2]; exact h _ (by omega)
            · refine ih (k := k) (by omega) (fun j hj => ?_)
              have e1 : skp i k = k := if_pos (by omega)
              have e2 : skp i (k + 1) = k + 1 := if_pos (by omega)
              show f (skp i k) (j + 1) = f (skp i (k + 1)) (j + 1)
              rw [e1, e2]; exact h _ (by omega)
          rw [z, Int.mul_zero]; rfl
    rw [sm_congr key, sm_add, sm_single, sm_single, if_pos (by omega), if_pos (by omega)]
    omega
/-- Two rows are exchanged, where equal rows make 0. -/
theorem dt_bil {n k l : Nat} (hk : k < n) (hl : l < n) (hne : k ≠ l) (f : Nat → Nat → Int) (hz : ∀ x, dt n (upd (upd f k x) l x) = 0) (u v : Nat → Int) : dt n (upd (upd f k u) l v) = - dt n (upd (upd f k v) l u) := by
  have h0 := hz (fun j => u j + 1 * v j)
  have h1 := hz u
  have h2 := hz v
  rw [dt_lin hl, upd_comm f hne, upd_comm f hne, dt_lin hk, dt_lin hk, ← upd_comm f hne, ← upd_comm f hne, ← upd_comm f hne, ← upd_comm f hne] at h0
  omega
theorem dt_eqrows {n i j : Nat} (hij : i < j) (hj : j < n) {f : Nat → Nat → Int} (h : ∀ c, c < n → f i c = f j c) : dt n f = 0 := by
  obtain ⟨d, hd⟩ : ∃ d, j = i + 1 + d := ⟨j - i - 1, by omega⟩
  induction d generalizing j f with
  | zero => subst hd; exact dt_adj hj h
  | succ d ih =>
    have hj1 : j - 1 + 1 = j := by omega
    have e0 : upd (upd f (j - 1) (f (j - 1))) j (f j) = f := by rw [upd_self, upd_self]
    have hb := dt_bil (n := n) (k := j - 1) (l := j) (by omega) hj (by omega) f (fun x => dt_adj (k := j - 1) (by omega) (fun c _ => by
      rw [hj1, upd_same, upd_ne _ (by omega), upd_same])) (f (j - 1)) (f j)
    rw [e0] at hb
    have hz : dt n (upd (upd f (j - 1) (f j)) j (f (j - 1))) = 0 := ih (j := j - 1) (by omega) (by omega) (fun c hc => by
      rw [upd_ne _ (by omega), upd_ne _ (by omega), upd_ne _ (by omega), upd_same]; exact h c hc) (by omega)
    omega
theorem dt_swap {n k l : Nat} (hkl : k < l) (hl : l < n) (f : Nat → Nat → Int) : dt n (upd (upd f k (f l)) l (f k)) = - dt n f := by
  have hb := dt_bil (n := n) (k := k) (l := l) (by omega) hl (by omega) f (fun x => dt_eqrows hkl hl (fun c _ => by
      rw [upd_same, upd_ne _ (by omega), upd_same])) (f l) (f k)
  rw [upd_self, upd_self] at hb
  exact hb
theorem dt_two {n k l : Nat} (hk : k < n) (hl : l < n) (hne : k ≠ l) (f : Nat → Nat → Int) : dt n (upd f k (f l)) = 0 := by
  rcases Nat.lt_or_ge k l with h | h
  · exact dt_eqrows h hl (fun c _ => by rw [upd_same, upd_ne _ (by omega)])
  · exact dt_eqrows (by omega : l < k) hk (fun c _ => by rw [upd_same, upd_ne _ (by omega)])
theorem dt_addrow {n k l : Nat} (hk : k < n) (hl : l < n) (hne : k ≠ l) (f : Nat → Nat → Int) (x : Int) : dt n (upd f k (fun j => f k j + x * f l j)) = dt n f := by
  rw [dt_lin hk, upd_self, dt_two hk hl hne, Int.mul_zero, Int.add_zero]
theorem dt_addsum {n k r : Nat} (hk : k < n) (hr : r ≤ k) (f : Nat → Nat → Int) (K : Nat → Int) : dt n (upd f k (fun j => f k j + sm r (fun i => K i * f i j))) = dt n f := by
  induction r with
  | zero => 
    have e : (fun j => f k j + sm 0 (fun i => K i * f i j)) = f k := by funext j; simp [sm]
    rw [e, upd_self]
  | succ r ih =>
    have e : (fun j => f k j + sm (r + 1) (fun i => K i * f i j)) = fun j => (f k j + sm r (fun i => K i * f i j)) + K r * f r j := by
      funext j; simp only [sm]; omega
    rw [e, dt_lin hk, ih (by omega), dt_two hk (by omega) (by omega), Int.mul_zero, Int.add_zero]
theorem dt_addcol {n k r : Nat} (hk : k < n) (hr : r ≤ k) (f : Nat → Nat → Int) (x : Nat → Int) : dt n (fun i => if i < r then fun j => f i j + x i * f k j else f i) = dt n f := by
  induction r with
  | zero => exact dt_congr (fun i _ j _ => by rw [if_neg (by omega)])
  | succ r ih =>
    rw [← ih (by omega)]
    have h := dt_addrow (k := r) (l := k) (by omega) hk (by omega) (fun i => if i < r then fun j => f i j + x i * f k j else f i) (x r)
    rw [← h]
    apply dt_congr
    intro i _ j _
    unfold upd
    by_cases e : i = r
    · subst e; rw [if_pos (by omega), if_pos rfl, if_neg (by omega), if_neg (by omega)]
    · rw [if_neg e]
      by_cases l : i < r
      · rw [if_pos (by omega)]
        show f i j + x i * f k j = (if i < r then fun j => f i j + x i * f k j else f i) j
        rw [if_pos l]
      · rw [if_neg (by omega)]
        show f i j = (if i < r then fun j => f i j + x i * f k j else f i) j
        rw [if_neg l]
theorem dt_col {n : Nat} {f : Nat → Nat → Int} (h : ∀ i, 1 ≤ i → i < n + 1 → f i 0 = 0) : dt (n + 1) f = f 0 0 * dt n (fun r c => f (r + 1) (c + 1)) := by
  simp only [dt]
  have e : ∀ i, i < n + 1 → sg i * f i 0 * dt n (fun r c => f (skp i r) (c + 1)) = if i = 0 then f 0 0 * dt n (fun r c => f (r + 1) (c + 1)) else 0 := by
    intro i hi
    by_cases e : i = 0
    · subst e
      rw [if_pos rfl]
      have e1 : sg 0 = 1 := rfl
      rw [e1, Int.one_mul]
      rfl
    · rw [if_neg e, h i (by omega) hi]; simp
  rw [sm_congr e, sm_single, if_pos (by omega)]
theorem dt_col0 {n : Nat} {f : Nat → Nat → Int} (h : ∀ i, i < n + 1 → f i 0 = 0) : dt (n + 1) f = 0 := by
  rw [dt_col (fun i _ hi => h i hi), h 0 (by omega), Int.zero_mul]
theorem dt_one {n : Nat} {f : Nat → Nat → Int} (h : ∀ i, i < n → ∀ j, j < n → f i j = if i = j then 1 else 0) : dt n f = 1 := by
  induction n generalizing f with
  | zero => rfl
  | succ n ih =>
    rw [dt_col (fun i h1 hi => by rw [h i hi 0 (by omega), if_neg (by omega)]), h 0 (by omega) 0 (by omega), if_pos rfl, Int.one_mul]
    refine ih (fun i hi j hj => ?_)
    rw [h _ (by omega) _ (by omega)]
    by_cases e : i = j
    · subst e; rw [if_pos rfl, if_pos rfl]
    · rw [if_neg e, if_neg (by omega)]

end Go.Proofs.Ytcmedhkamjclmaa

namespace Go.Proofs.Ytcmedhkamjclmaa
set_option linter.unusedVariables false

theorem sm_front (n : Nat) (f : Nat → Int) : sm (n + 1) f = f 0 + sm n (fun j => f (j + 1)) := by
  induction n with
  | zero => show sm 0 f + f 0 = f 0 + sm 0 _; simp [sm]
  | succ n ih =>
    show sm (n + 1) f + f (n + 1) = f 0 + (sm n (fun j => f (j + 1)) + f (n + 1))
    rw [ih, Int.add_assoc]
theorem sg_add2 (k : Nat) : sg (k + 2) = sg k := by unfold sg; rw [show (k + 2) % 2 = k % 2 by omega]
/-- The determinant by its last row. -/
theorem dt_last (n : Nat) (g : Nat → Nat → Int) : dt (n + 1) g = sm (n + 1) (fun q => sg (n + q) * g n q * dt n (fun r j => g r (skp q j))) := by
  induction n generalizing g with
  | zero => simp [dt, sm, sg]
  | succ m ih =>
    have hT : sg (m + 1) * g (m + 1) 0 * dt (m + 1) (fun r c => g (skp (m + 1) r) (c + 1)) = sg (m + 1 + 0) * g (m + 1) 0 * dt (m + 1) (fun r j => g r (skp 0 j)) := by
      congr 1
      exact dt_congr fun i hi j hj => by unfold skp; rw [if_pos hi, if_neg (Nat.not_lt_zero _)]
    have hL : dt (m + 1 + 1) g = sm (m + 1) (fun i => sg i * g i 0 * dt (m + 1) (fun r c => g (skp i r) (c + 1))) + sg (m + 1) * g (m + 1) 0 * dt (m + 1) (fun r c => g (skp (m + 1) r) (c + 1)) := rfl
    rw [hL, hT, sm_front (m + 1), Int.add_comm]
    congr 1
    have h1 : ∀ i, i < m + 1 → sg i * g i 0 * dt (m + 1) (fun r c => g (skp i r) (c + 1)) = sm (m + 1) (fun q => sg i * g i 0 * (sg (m + q) * g (m + 1) (q + 1) * dt m (fun r j => g (skp i r) (skp q j + 1)))) := fun i hi => by
      rw [ih (fun r c => g (skp i r) (c + 1)), ← sm_mul]
      apply sm_congr
      intro q _
      show sg i * g i 0 * (sg (m + q) * g (skp i m) (q + 1) * _) = _
      rw [show skp i m = m + 1 by unfold skp; rw [if_neg (by omega)]]
    rw [sm_congr h1, sm_swap]
    apply sm_congr
    intro q hq
    rw [show m + 1 + (q + 1) = m + q + 2 by omega, sg_add2]
    have h2 : dt (m + 1) (fun r j => g r (skp (q + 1) j)) = sm (m + 1) fun i => sg i * g i (skp (q + 1) 0) * dt m (fun r c => g (skp i r) (skp (q + 1) (c + 1))) := rfl
    rw [h2, ← sm_mul]
    apply sm_congr
    intro i _
    rw [show skp (q + 1) 0 = 0 by unfold skp; rw [if_pos (by omega)]]
    have h3 : dt m (fun r c => g (skp i r) (skp (q + 1) (c + 1))) = dt m (fun r j => g (skp i r) (skp q j + 1)) := dt_congr fun r _ c _ => by
      rw [show skp (q + 1) (c + 1) = skp q c + 1 by unfold skp; split <;> split <;> omega]
    rw [h3]
    ac_rfl

/-- The set bits of a mask, in ascending order; how many stand below one. -/
def bitL (c : Nat) : List Nat := (List.range 6).filter fun i => decide (c / 2 ^ i % 2 = 1)
def col (c j : Nat) : Nat := (bitL c).getD j 0
def posB (c i : Nat) : Nat := gr (c % 2 ^ i)
theorem bitL_len : ∀ c, c < 64 → (bitL c).length = gr c := by decide +kernel
theorem bit_drop : ∀ c, c < 64 → ∀ i, i < 6 → c / 2 ^ i % 2 = 1 → bitL (c ^^^ 2 ^ i) = (bitL c).eraseIdx (posB c i) ∧ gr (c ^^^ 2 ^ i) + 1 = gr c ∧ gr (c / 2 ^ (i + 1)) + posB c i + 1 = gr c := by decide +kernel
theorem col_bit : ∀ c, c < 64 → ∀ q, q < gr c → col c q < 6 ∧ c / 2 ^ col c q % 2 = 1 ∧ posB c (col c q) = q := by
  have h : ∀ c, c < 64 → ∀ q, q < 7 → q < gr c → col c q < 6 ∧ c / 2 ^ col c q % 2 = 1 ∧ posB c (col c q) = q := by decide +kernel
  intro c hc q hq
  exact h c hc q (by have := gr_le c; omega) hq
theorem col_whole : ∀ n, n ≤ 6 → ∀ j, j < n → col (2 ^ n - 1) j = j := by decide +kernel
theorem gr_whole : ∀ n, n ≤ 6 → gr (2 ^ n - 1) = n := by decide +kernel
theorem gr_none : ∀ c, c < 64 → gr c = 0 → c = 0 := by decide +kernel
theorem erase_getD (l : List Nat) (q j : Nat) : (l.eraseIdx q).getD j 0 = l.getD (skp q j) 0 := by
  unfold skp
  simp only [List.getD_eq_getElem?_getD, List.getElem?_eraseIdx]
  split <;> rfl
theorem col_drop {c i : Nat} (hc : c < 64) (hi : i < 6) (hb : c / 2 ^ i % 2 = 1) (j : Nat) : col (c ^^^ 2 ^ i) j = col c (skp (posB c i) j) := by
  unfold col
  rw [(bit_drop c hc i hi hb).1, erase_getD]
def lsum : List Int → Int
  | [] => 0
  | x :: l => x + lsum l
theorem lsum_app (a b : List Int) : lsum (a ++ b) = lsum a + lsum b := by
  induction a with
  | nil => simp [lsum]
  | cons x a ih => simp only [List.cons_append, lsum, ih, Int.add_assoc]
theorem sm_filter (G : Nat → Int) (P : Nat → Bool) (n : Nat) : sm n (fun i => if P i = true then G i else 0) = lsum (((List.range n).filter P).map G) := by
  induction n with
  | zero => rfl
  | succ n ih =>
    rw [List.range_succ, List.filter_append, List.map_append, lsum_app, ← ih]
    show sm n _ + (if P n = true then G n else 0) = _
    congr 1
    by_cases h : P n = true
    · simp [h, lsum]
    · simp [h, lsum]
theorem sm_list (G : Nat → Int) (l : List Nat) : sm l.length (fun q => G (l.getD q 0)) = lsum (l.map G) := by
  induction l with
  | nil => rfl
  | cons x l ih =>
    rw [List.length_cons, sm_front]
    show G x + sm l.length (fun q => G (l.getD q 0)) = G x + lsum (l.map G)
    rw [ih]
theorem sm_bits (G : Nat → Int) {c : Nat} (hc : c < 64) : sm 6 (fun i => if c / 2 ^ i % 2 = 1 then G i else 0) = sm (gr c) (fun q => G (col c q)) := by
  have h1 := sm_filter G (fun i => decide (c / 2 ^ i % 2 = 1)) 6
  have h2 := sm_list G (bitL c)
  rw [bitL_len c hc] at h2
  simp only [decide_eq_true_eq] at h1
  rw [h1]
  exact h2.symm
/-- A coefficient of the wedge product of the first k rows. -/
def wD (f : Nat → Nat → Int) : Nat → Nat → Int
  | 0, c => if c = 0 then 1 else 0
  | k + 1, c => sm 6 fun i => if c / 2 ^ i % 2 = 1 then wD f k (c ^^^ 2 ^ i) * sg (gr (c / 2 ^ (i + 1))) * f k i else 0
theorem sg_par {a b : Nat} (h : a % 2 = b % 2) : sg a = sg b := by unfold sg; rw [h]
theorem wD_dt (f : Nat → Nat → Int) : ∀ k c, c < 64 → gr c = k → wD f k c = dt k (fun r j => f r (col c j))
  | 0, c, hc, hg => by
    show (if c = 0 then (1 : Int) else 0) = 1
    rw [if_pos (gr_none c hc hg)]
  | k + 1, c, hc, hg => by
    show (sm 6 fun i => if c / 2 ^ i % 2 = 1 then wD f k (c ^^^ 2 ^ i) * sg (gr (c / 2 ^ (i + 1))) * f k i else 0) = _
    rw [sm_bits (fun i => wD f k (c ^^^ 2 ^ i) * sg (gr (c / 2 ^ (i + 1))) * f k i) hc, hg, dt_last]
    apply sm_congr
    intro q hq
    obtain ⟨h1, h2, h3⟩ := col_bit c hc q (by omega)
    obtain ⟨h4, h5, h6⟩ := bit_drop c hc (col c q) h1 h2
    have hx : c ^^^ 2 ^ col c q < 64 := Nat.xor_lt_two_pow (n := 6) hc (Nat.pow_lt_pow_right (by decide) h1)
    rw [wD_dt f k _ hx (by omega)]
    have h7 : dt k (fun r j => f r (col (c ^^^ 2 ^ col c q) j)) = dt k (fun r j => f r (col c (skp q j))) := dt_congr fun r _ j _ => by
      rw [col_drop hc h1 h2, h3]
    rw [h7, sg_par (a := gr (c / 2 ^ (col c q + 1))) (b := k + q) (by omega)]
    ac_rfl

end Go.Proofs.Ytcmedhkamjclmaa
