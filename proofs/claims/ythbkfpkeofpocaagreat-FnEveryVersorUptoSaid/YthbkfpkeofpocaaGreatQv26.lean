/-
  VersorOf, ReflectIn (program): contracts of the program and of the model.
  Conditions: the lists are nil or rows of known cells, of at most 1048576 numbers.
  The model's list of the numbers of the basis vectors.
  Conditions: rows of known cells.
  Versors (model): contracts of the program and of the model.
  Conditions: the lists are nil or rows of known cells, of at most 1048576 numbers.
  The model's GramOf: contract.
  Conditions: the lists are nil or rows of known cells, of at most 1048576 numbers.
  The program's Gram matrices: the walk.
  Conditions: the lists are nil or rows of known cells, of at most 1048576 numbers.
  The program's GramOf: contract.
  Conditions: the lists are nil or rows of known cells, of at most 1048576 numbers.
-/
import Derived.Test.YthbkfpkeofpocaaGreatQv22
import Derived.Test.YthbkfpkeofpocaaGreatQv24
import Derived.Test.YthbkfpkeofpocaaGreatQv25
import Derived.Test.YthbkfpkeofpocaaGreatQv21
import Derived.Deep.RegionHeld3
import Derived.Deep.DeepCutAuto
import Derived.Test.YthbkfpkeofpocaaGreatQv15
import Derived.Test.YthbkfpkeofpocaaGreatQv13
import Derived.Test.YthbkfpkeofpocaaGreatQv16
import Derived.Test.YthbkfpkeofpocaaGreatQv6
import Derived.Test.YthbkfpkeofpocaaGreatQv4
import Derived.Test.YthbkfpkeofpocaaGreatQv17
import Derived.Test.YthbkfpkeofpocaaGreatQv5
namespace Go.Proofs.YthbkfpkeofpocaaGreat
open Go.RowKit
set_option linter.unusedVariables false

def nulB (p : Int) (S : List Int) (m : List (List Int)) (k : Nat) : Bool := (List.range k).any fun j => pairN p S (rw' m j) (rw' m j) == 0
def voC (p : Int) (S : List Int) (m : List (List Int)) : Int := if codeL p S m = 0 then (if discN p S = 0 then 5 else if nulB p S m m.length = true then 5 else 0) else codeL p S m
def voV (p : Int) (S : List Int) (m : List (List Int)) : List Int := if voC p S m = 0 then vrM p S m m.length else []
theorem nulB_yes {p : Int} {S : List Int} {m : List (List Int)} {k j : Nat} (hj : j < k) (h : pairN p S (rw' m j) (rw' m j) = 0) : nulB p S m k = true := List.any_eq_true.2 ⟨j, List.mem_range.2 hj, by simpa using h⟩
theorem nulB_no {p : Int} {S : List Int} {m : List (List Int)} {k : Nat} (h : ∀ j, j < k → pairN p S (rw' m j) (rw' m j) ≠ 0) : nulB p S m k = false := by
  cases e : nulB p S m k with
  | false => rfl
  | true =>
    obtain ⟨j, h1, h2⟩ := List.any_eq_true.1 e
    exact absurd (by simpa using h2) (h j (List.mem_range.1 h1))
theorem voC_zero {p : Int} {S : List Int} {m : List (List Int)} (h : voC p S m = 0) : codeL p S m = 0 ∧ discN p S ≠ 0 ∧ nulB p S m m.length = false := by
  unfold voC at h
  split at h
  · rename_i h0
    split at h
    · cases h
    · rename_i h1
      split at h
      · cases h
      · rename_i h2; exact ⟨h0, h1, by simpa using h2⟩
  · rename_i h0; exact absurd h h0
theorem voV_size (p : Int) (S : List Int) (m : List (List Int)) : (voV p S m).length ≤ 1048576 := by
  unfold voV; split
  · rename_i h; have := bl_le (codeL_sp' (voC_zero h).1); rw [vr_len]; omega
  · simp
theorem regC_nil {p : Int} {S : List Int} (h : isSp p S = true) : regC p S [] = if discN p S = 0 then 5 else 0 := by
  unfold regC
  rw [if_pos (codeMv_zero.2 ⟨h, rfl⟩)]
theorem checkR0 (pS : Int) (aS : Option Addr) (S : List Int) (cS loS tpS : Nat) (w : World) (hS : RowIn loS tpS w aS S) (tS : tpS ≤ w.heap.size) (sS : S.length ≤ 1048576) :
    Calls Tryz.prog 28 #[.agg #[.int .i64 pS, .slice aS S.length cS], .slice none 0 0] w fun e w' => e = .returned (.int .i64 (regC pS S [])) ∧ Below w.heap.size w w' :=
  checkRegular_any pS aS S cS loS tpS none [] 0 0 0 w hS tS sS (.inl rfl) (Nat.zero_le _) (by show 0 ≤ 1048576; omega) (fun i hi => absurd hi (Nat.not_lt_zero i))

set_option maxRecDepth 100000 in
set_option maxHeartbeats 1600000 in
theorem nulClo_any (p : Int) (aS : Option Addr) (S : List Int) (cS loS tpS : Nat) (au : Option Addr) (u : List Int) (cu lou tpu gx : Nat) (w : World) (hs : isSp p S = true) (hS : RowIn loS tpS w aS S) (tS : tpS ≤ w.heap.size) (hu : RowIn lou tpu w au u) (tu : tpu ≤ w.heap.size) (mu : isVec p S.length u = true) (hb : w.cell? ⟨gx, 0, none⟩ = some (.int .i64 p) ∧ w.cell? ⟨gx, 1, none⟩ = some (.slice aS S.length cS)) :
    Calls Tryz.prog 18 #[.slice au u.length cu, .pointer (some ⟨gx, 0, none⟩)] w fun e w' => e = .returned (.bool (pairN p S u u == 0)) ∧ Below w.heap.size w w' := by
  have HI := Lib.hid hs
  have HS := Lib.hid hS
  have Hu := Lib.hid hu
  have HU := Lib.hid mu
  obtain ⟨k0, k1⟩ := hb
  clear hs hS hu mu
  go_enter Tryz.func18, Tryz.ntmps18
  go_wp2_with (go_at_call 15; ((with_reducible refine (norm_any p aS S cS loS tpS au u cu lou tpu w HS.out tS Hu.out tu HI.out HU.out).mono ?_); rintro e w' ⟨rfl, b_⟩; have B := Lib.hid b_; clear b_))
  go_ret
  exact ⟨rfl, B.out⟩

def IdxN (p : Int) (S : List Int) (m : List (List Int)) (w : World) (e : Ending) (w' : World) : Prop := ∃ r : Int, e = .returned (.int .i64 r) ∧ (nulB p S m m.length = true → 0 ≤ r) ∧ (nulB p S m m.length = false → r = -1) ∧ Below w.heap.size w w'

set_option maxRecDepth 100000 in
set_option maxHeartbeats 3200000 in
theorem nulIdx_any (p : Int) (aS : Option Addr) (S : List Int) (cS loS tpS : Nat) (am : Option Addr) (m : List (List Int)) (cm lom tpm gx : Nat) (w : World) (hs : isSp p S = true) (hS : RowIn loS tpS w aS S) (tS : tpS ≤ w.heap.size) (hm : MatIn lom tpm w am m) (tm : tpm ≤ w.heap.size) (hl : listB p S m = true) (hb : w.cell? ⟨gx, 0, none⟩ = some (.int .i64 p) ∧ w.cell? ⟨gx, 1, none⟩ = some (.slice aS S.length cS)) (lx : gx < w.heap.size) :
    Calls Tryz.prog 43 #[.slice am m.length cm, .func (.func 18) #[] #[.pointer (some ⟨gx, 0, none⟩)]] w (IdxN p S m w) := by
  have HI := Lib.hid hs
  have HS := Lib.hid hS
  have Hm := Lib.hid hm
  have HL := Lib.hid (listB_iff hl)
  have HB := Lib.hid hb
  have hm16 := HL.out.1
  clear hs hS hm hl hb
  go_enter Tryz.func43, Tryz.ntmps43
  go_wp2
  go_loopw [8] (fun t wr => ∃ i : Nat, i ≤ m.length ∧ t = .int .i64 i ∧ (∀ j, j < i → pairN p S (rw' m j) (rw' m j) ≠ 0) ∧ Below w.heap.size w wr) (fun t _ => m.length - (intOf t).toNat)
  case atStart => exact ⟨0, Nat.zero_le _, rfl, fun j hj => by omega, Below.refl _ _⟩
  case round =>
    obtain ⟨i, hi, rfl, hd, hbel⟩ := hrel
    have HD := Lib.hid hd
    have HBel := Lib.hid hbel
    have hz := hbel.size
    by_cases hlt : i < m.length
    · obtain ⟨b9, o9, rv, cv9, ha9, _, hb9, hr9, hrow⟩ := (Hm.out.below hbel tm).row hlt
      subst ha9
      have hi1 : (i : Int) < (m.length : Int) := Int.ofNat_lt.2 hlt
      have HROW := Lib.hid hrow
      have HVU := Lib.hid (HL.out.2 i hlt)
      have HBW := Lib.hid (ss2 hbel lx HB.out)
      clear hd hbel hrow
      by_cases hp0 : pairN p S (rw' m i) (rw' m i) = 0
      · have HP : Hid ((pairN p S (rw' m i) (rw' m i) == 0) = true) := by show _ = _; simpa using hp0
        have HA := Lib.hid (nulB_yes hlt hp0)
        clear hp0
        go_wp2_with (go_at_call 18; ((with_reducible refine (nulClo_any p aS S cS loS tpS rv (rw' m i) cv9 lom tpm gx wr HI.out (HS.out.below HBel.out tS) (Nat.le_trans tS hz) HROW.out (Nat.le_trans tm hz) HVU.out HBW.out).mono ?_); rintro e w5 ⟨rfl, b_⟩; rw [HP.out]; have B5 := Lib.hid b_; clear b_))
        go_ret
        exact ⟨i, rfl, fun _ => by omega, fun h => (by rw [HA.out] at h; cases h), below_step HBel.out hz B5.out⟩
      · have HP : Hid ((pairN p S (rw' m i) (rw' m i) == 0) = false) := by show _ = _; simpa using hp0
        have HPZ := Lib.hid hp0
        clear hp0
        go_wp2_with (go_at_call 18; ((with_reducible refine (nulClo_any p aS S cS loS tpS rv (rw' m i) cv9 lom tpm gx wr HI.out (HS.out.below HBel.out tS) (Nat.le_trans tS hz) HROW.out (Nat.le_trans tm hz) HVU.out HBW.out).mono ?_); rintro e w5 ⟨rfl, b_⟩; rw [HP.out]; have B5 := Lib.hid b_; clear b_))
        go_roundw
        case rel => exact ⟨i + 1, by omega, by go_num, fun j hj => by
          by_cases e : j = i
          · subst e; exact HPZ.out
          · exact HD.out j (by omega), below_step HBel.out hz B5.out⟩
        case measure => simp [intOf]; omega
    · have hin : i = m.length := by omega
      subst hin
      have HN := Lib.hid (nulB_no hd)
      clear hd hbel
      go_wp2
      go_ret
      exact ⟨-1, rfl, fun h => (by rw [HN.out] at h; cases h), fun _ => rfl, HBel.out⟩

set_option maxHeartbeats 1600000 in
theorem nulHas_any (p : Int) (aS : Option Addr) (S : List Int) (cS loS tpS : Nat) (am : Option Addr) (m : List (List Int)) (cm lom tpm gx : Nat) (w : World) (hs : isSp p S = true) (hS : RowIn loS tpS w aS S) (tS : tpS ≤ w.heap.size) (hm : MatIn lom tpm w am m) (tm : tpm ≤ w.heap.size) (hl : listB p S m = true) (hb : w.cell? ⟨gx, 0, none⟩ = some (.int .i64 p) ∧ w.cell? ⟨gx, 1, none⟩ = some (.slice aS S.length cS)) (lx : gx < w.heap.size) :
    Calls Tryz.prog 20 #[.slice am m.length cm, .func (.func 18) #[] #[.pointer (some ⟨gx, 0, none⟩)]] w fun e w' => e = .returned (.bool (nulB p S m m.length)) ∧ Below w.heap.size w w' := by
  have HC := Lib.hid (nulIdx_any p aS S cS loS tpS am m cm lom tpm gx w hs hS tS hm tm hl hb lx)
  clear hs hS hm hl hb
  go_enter Tryz.func20, Tryz.ntmps20
  by_cases ha : nulB p S m m.length = true
  · have HA := Lib.hid ha
    clear ha
    go_wp2_with (go_at_call 43; ((with_reducible refine (HC.out).mono ?_); rintro e w5 ⟨r, rfl, h1, _, b_⟩; have h0 := h1 HA.out; have hge : (0 : Int) ≤ r := h0; have B5 := Lib.hid b_; clear b_ h1))
    go_ret
    exact ⟨by rw [HA.out]; simp, B5.out⟩
  · have HA : Hid (nulB p S m m.length = false) := by show _ = _; simpa using ha
    clear ha
    go_wp2_with (go_at_call 43; ((with_reducible refine (HC.out).mono ?_); rintro e w5 ⟨r, rfl, _, h1, b_⟩; have h0 := h1 HA.out; subst h0; have B5 := Lib.hid b_; clear b_ h1))
    go_ret
    exact ⟨by rw [HA.out]; rfl, B5.out⟩
theorem field_ver (a b c d e : Value) (w : World) : (Instr.field 50 (.agg #[a, b, c, d, e]) 0).run Tryz.prog w = .ok (.agg #[a, b, c]) w := by kernel_rfl
theorem field_mul (a b c : Value) (w : World) : (Instr.field 46 (.agg #[a, b, c]) 1).run Tryz.prog w = .ok c w := by kernel_rfl

set_option maxRecDepth 100000 in
set_option maxHeartbeats 3200000 in
theorem impl_VersorOf (pS : Int) (aS : Option Addr) (S : List Int) (cS loS tpS : Nat) (am : Option Addr) (m : List (List Int)) (cm lom tpm : Nat) (w : World) (hS : RowIn loS tpS w aS S) (tS : tpS ≤ w.heap.size) (sS : S.length ≤ 1048576) (hm : MatIn lom tpm w am m) (tm : tpm ≤ w.heap.size) (sm : m.length + tot m m.length ≤ 1048576) :
    Calls Tryz.prog 6 #[.agg #[.int .i64 pS, .slice aS S.length cS], .slice am m.length cm] w (ImplR (voV pS S m) (voC pS S m) w) := by
  have HS := Lib.hid hS
  have Hm := Lib.hid hm
  have sm1 : m.length ≤ 1048576 := by omega
  have HSR : Hid (∀ i, i < m.length → (rw' m i).length ≤ 1048576) := fun i hi => by have := tot_row hi; omega
  have k0 := nw0 w (.int .i64 pS) (.slice aS S.length cS) 24
  have k1 := nw1 w (.int .i64 pS) (.slice aS S.length cS) 24
  have HB0 := Lib.hid (below_alloc w (.cells #[.int .i64 pS, .slice aS S.length cS] 24))
  have hfv := field_ver
  have hfm := field_mul
  clear hS hm
  by_cases hz0 : codeL pS S m = 0
  · by_cases hd0 : discN pS S = 0
    · have HVC : Hid (voV pS S m = [] ∧ voC pS S m = 5) := by
        have e : voC pS S m = 5 := by unfold voC; rw [if_pos hz0, if_pos hd0]
        exact ⟨by unfold voV; rw [if_neg (by rw [e]; decide)], e⟩
      have HZ := Lib.hid hz0
      have hls : isSp pS S = true ∧ listB pS S m = true := by
        rcases codeL_cases pS S m with ⟨_, hc⟩ | ⟨hi, hl, _⟩ | ⟨_, _, hc⟩
        · rw [hc] at hz0; cases hz0
        · exact ⟨hi, hl⟩
        · rw [hc] at hz0; cases hz0
      have HI := Lib.hid hls.1
      have HLB := Lib.hid hls.2
      clear hls
      have HD : Hid ((discN pS S != 0) = false) := by show _ = _; simp [hd0]
      clear hz0 hd0
      go_enter Tryz.func6, Tryz.ntmps6
      go_upto_region 1 with fail
      obtain ⟨w1, hw1⟩ : ∃ z, z = w.alloc (.cells #[.int .i64 pS, .slice aS S.length cS] 24) := ⟨_, rfl⟩
      rw [← hw1] at HB0 k0 k1 ⊢
      have hd1 : w.heap.size < w1.heap.size := by rw [hw1]; simp
      have HB1 := HB0
      clear hw1
      have SS1 := Lib.hid (And.intro k0 k1)
      go_wp2_with (first | (go_at_call 17; ((with_reducible refine (checkList_any pS aS S cS loS tpS am m cm lom tpm w1 (HS.out.below HB1.out tS) (Nat.le_trans tS HB1.out.size) sS (Hm.out.below HB1.out tm) (Nat.le_trans tm HB1.out.size) sm1 HSR.out).mono ?_); rintro e w2 ⟨rfl, b_⟩; rw [HZ.out]; have SS2 := Lib.hid (ss2 b_ hd1 SS1.out); have HB2 := Lib.hid (below_step HB1.out HB1.out.size b_); have hd2 := Nat.lt_of_lt_of_le hd1 b_.size; clear k0 k1; obtain ⟨k0, k1⟩ := SS2.out; clear b_)) | (go_at_call 19; ((with_reducible refine (isRegular_any pS aS S cS loS tpS w2 (HS.out.below HB2.out tS) (Nat.le_trans tS HB2.out.size) HI.out).mono ?_); rintro e w3 ⟨rfl, b_⟩; rw [HD.out]; have SS3 := Lib.hid (ss2 b_ hd2 SS2.out); have HB3 := Lib.hid (below_step HB2.out HB2.out.size b_); have hd3 := Nat.lt_of_lt_of_le hd2 b_.size; clear k0 k1; obtain ⟨k0, k1⟩ := SS3.out; clear b_)))
      go_ret2
      rw [HVC.out.1, HVC.out.2]
      exact ⟨none, 0, rfl, .inl rfl, HB3.out⟩
    · by_cases hn0 : nulB pS S m m.length = true
      · have HVC : Hid (voV pS S m = [] ∧ voC pS S m = 5) := by
          have e : voC pS S m = 5 := by unfold voC; rw [if_pos hz0, if_neg hd0, if_pos hn0]
          exact ⟨by unfold voV; rw [if_neg (by rw [e]; decide)], e⟩
        have HZ := Lib.hid hz0
        have hls : isSp pS S = true ∧ listB pS S m = true := by
          rcases codeL_cases pS S m with ⟨_, hc⟩ | ⟨hi, hl, _⟩ | ⟨_, _, hc⟩
          · rw [hc] at hz0; cases hz0
          · exact ⟨hi, hl⟩
          · rw [hc] at hz0; cases hz0
        have HI := Lib.hid hls.1
        have HLB := Lib.hid hls.2
        clear hls
        have HD : Hid ((discN pS S != 0) = true) := by show _ = _; simpa using hd0
        have HN := Lib.hid hn0
        clear hz0 hd0 hn0
        go_enter Tryz.func6, Tryz.ntmps6
        go_upto_region 1 with fail
        obtain ⟨w1, hw1⟩ : ∃ z, z = w.alloc (.cells #[.int .i64 pS, .slice aS S.length cS] 24) := ⟨_, rfl⟩
        rw [← hw1] at HB0 k0 k1 ⊢
        have hd1 : w.heap.size < w1.heap.size := by rw [hw1]; simp
        have HB1 := HB0
        clear hw1
        have SS1 := Lib.hid (And.intro k0 k1)
        go_wp2_with (first | (go_at_call 17; ((with_reducible refine (checkList_any pS aS S cS loS tpS am m cm lom tpm w1 (HS.out.below HB1.out tS) (Nat.le_trans tS HB1.out.size) sS (Hm.out.below HB1.out tm) (Nat.le_trans tm HB1.out.size) sm1 HSR.out).mono ?_); rintro e w2 ⟨rfl, b_⟩; rw [HZ.out]; have SS2 := Lib.hid (ss2 b_ hd1 SS1.out); have HB2 := Lib.hid (below_step HB1.out HB1.out.size b_); have hd2 := Nat.lt_of_lt_of_le hd1 b_.size; clear k0 k1; obtain ⟨k0, k1⟩ := SS2.out; clear b_)) | (go_at_call 19; ((with_reducible refine (isRegular_any pS aS S cS loS tpS w2 (HS.out.below HB2.out tS) (Nat.le_trans tS HB2.out.size) HI.out).mono ?_); rintro e w3 ⟨rfl, b_⟩; rw [HD.out]; have SS3 := Lib.hid (ss2 b_ hd2 SS2.out); have HB3 := Lib.hid (below_step HB2.out HB2.out.size b_); have hd3 := Nat.lt_of_lt_of_le hd2 b_.size; clear k0 k1; obtain ⟨k0, k1⟩ := SS3.out; clear b_)) | (go_at_call 20; ((with_reducible refine (nulHas_any pS aS S cS loS tpS am m cm lom tpm w.heap.size w3 HI.out (HS.out.below HB3.out tS) (Nat.le_trans tS HB3.out.size) (Hm.out.below HB3.out tm) (Nat.le_trans tm HB3.out.size) HLB.out ⟨k0, k1⟩ hd3).mono ?_); rintro e w4 ⟨rfl, b_⟩; rw [HN.out]; have SS4 := Lib.hid (ss2 b_ hd3 SS3.out); have HB4 := Lib.hid (below_step HB3.out HB3.out.size b_); have hd4 := Nat.lt_of_lt_of_le hd3 b_.size; clear k0 k1; obtain ⟨k0, k1⟩ := SS4.out; clear b_)))
        go_ret2
        rw [HVC.out.1, HVC.out.2]
        exact ⟨none, 0, rfl, .inl rfl, HB4.out⟩
      · have HVC : Hid (voV pS S m = vrM pS S m m.length ∧ voC pS S m = 0) := by
          have e : voC pS S m = 0 := by unfold voC; rw [if_pos hz0, if_neg hd0, if_neg hn0]
          exact ⟨by unfold voV; rw [if_pos e], e⟩
        have HZ := Lib.hid hz0
        have hls : isSp pS S = true ∧ listB pS S m = true := by
          rcases codeL_cases pS S m with ⟨_, hc⟩ | ⟨hi, hl, _⟩ | ⟨_, _, hc⟩
          · rw [hc] at hz0; cases hz0
          · exact ⟨hi, hl⟩
          · rw [hc] at hz0; cases hz0
        have HI := Lib.hid hls.1
        have HLB := Lib.hid hls.2
        clear hls
        have HD : Hid ((discN pS S != 0) = true) := by show _ = _; simpa using hd0
        have HN : Hid (nulB pS S m m.length = false) := by show _ = _; simpa using hn0
        clear hz0 hd0 hn0
        go_enter Tryz.func6, Tryz.ntmps6
        go_upto_region 1 with fail
        obtain ⟨w1, hw1⟩ : ∃ z, z = w.alloc (.cells #[.int .i64 pS, .slice aS S.length cS] 24) := ⟨_, rfl⟩
        rw [← hw1] at HB0 k0 k1 ⊢
        have hd1 : w.heap.size < w1.heap.size := by rw [hw1]; simp
        have HB1 := HB0
        clear hw1
        have SS1 := Lib.hid (And.intro k0 k1)
        go_wp2_with (first | (go_at_call 17; ((with_reducible refine (checkList_any pS aS S cS loS tpS am m cm lom tpm w1 (HS.out.below HB1.out tS) (Nat.le_trans tS HB1.out.size) sS (Hm.out.below HB1.out tm) (Nat.le_trans tm HB1.out.size) sm1 HSR.out).mono ?_); rintro e w2 ⟨rfl, b_⟩; rw [HZ.out]; have SS2 := Lib.hid (ss2 b_ hd1 SS1.out); have HB2 := Lib.hid (below_step HB1.out HB1.out.size b_); have hd2 := Nat.lt_of_lt_of_le hd1 b_.size; clear k0 k1; obtain ⟨k0, k1⟩ := SS2.out; clear b_)) | (go_at_call 19; ((with_reducible refine (isRegular_any pS aS S cS loS tpS w2 (HS.out.below HB2.out tS) (Nat.le_trans tS HB2.out.size) HI.out).mono ?_); rintro e w3 ⟨rfl, b_⟩; rw [HD.out]; have SS3 := Lib.hid (ss2 b_ hd2 SS2.out); have HB3 := Lib.hid (below_step HB2.out HB2.out.size b_); have hd3 := Nat.lt_of_lt_of_le hd2 b_.size; clear k0 k1; obtain ⟨k0, k1⟩ := SS3.out; clear b_)) | (go_at_call 20; ((with_reducible refine (nulHas_any pS aS S cS loS tpS am m cm lom tpm w.heap.size w3 HI.out (HS.out.below HB3.out tS) (Nat.le_trans tS HB3.out.size) (Hm.out.below HB3.out tm) (Nat.le_trans tm HB3.out.size) HLB.out ⟨k0, k1⟩ hd3).mono ?_); rintro e w4 ⟨rfl, b_⟩; rw [HN.out]; have SS4 := Lib.hid (ss2 b_ hd3 SS3.out); have HB4 := Lib.hid (below_step HB3.out HB3.out.size b_); have hd4 := Nat.lt_of_lt_of_le hd3 b_.size; clear k0 k1; obtain ⟨k0, k1⟩ := SS4.out; clear b_)) | (go_at_call 21; ((with_reducible refine (versorOfVectors_own pS aS S cS loS tpS am m cm lom tpm w4 HI.out (HS.out.below HB4.out tS) (Nat.le_trans tS HB4.out.size) (Hm.out.below HB4.out tm) (Nat.le_trans tm HB4.out.size) HLB.out).mono ?_); rintro e w5 ⟨r, c, rfl, o_, b_⟩; have SS5 := Lib.hid (ss2 b_ hd4 SS4.out); have HB5 := Lib.hid (below_step HB4.out HB4.out.size b_); have hd5 := Nat.lt_of_lt_of_le hd4 b_.size; have OO := Lib.hid (OwnR.mono' o_ (Nat.le_of_lt hd4) (Nat.le_refl _)); clear o_; clear k0 k1; obtain ⟨k0, k1⟩ := SS5.out; clear b_)))
        go_ret2
        rw [HVC.out.1, HVC.out.2]
        exact ⟨r, c, rfl, OO.out, HB5.out⟩
  · have HVC : Hid (voV pS S m = [] ∧ voC pS S m = codeL pS S m) := by
      have e : voC pS S m = codeL pS S m := by unfold voC; rw [if_neg hz0]
      exact ⟨by unfold voV; rw [if_neg (by rw [e]; exact hz0)], e⟩
    obtain ⟨C, hC⟩ : ∃ c, c = codeL pS S m := ⟨_, rfl⟩
    have hc1 : (C != 0) = true := by rw [hC]; simpa using hz0
    have HCE := Lib.hid hC
    clear hz0 hC
    go_enter Tryz.func6, Tryz.ntmps6
    go_upto_region 1 with fail
    obtain ⟨w1, hw1⟩ : ∃ z, z = w.alloc (.cells #[.int .i64 pS, .slice aS S.length cS] 24) := ⟨_, rfl⟩
    rw [← hw1] at HB0 k0 k1 ⊢
    have hd1 : w.heap.size < w1.heap.size := by rw [hw1]; simp
    have HB1 := HB0
    clear hw1
    have SS1 := Lib.hid (And.intro k0 k1)
    go_wp2_with (go_at_call 17; ((with_reducible refine (checkList_any pS aS S cS loS tpS am m cm lom tpm w1 (HS.out.below HB1.out tS) (Nat.le_trans tS HB1.out.size) sS (Hm.out.below HB1.out tm) (Nat.le_trans tm HB1.out.size) sm1 HSR.out).mono ?_); rintro e w2 ⟨rfl, b_⟩; rw [← HCE.out]; have SS2 := Lib.hid (ss2 b_ hd1 SS1.out); have HB2 := Lib.hid (below_step HB1.out HB1.out.size b_); have hd2 := Nat.lt_of_lt_of_le hd1 b_.size; clear k0 k1; obtain ⟨k0, k1⟩ := SS2.out; clear b_))
    go_ret2
    rw [HVC.out.1, HVC.out.2, ← HCE.out]
    exact ⟨none, 0, rfl, .inl rfl, HB2.out⟩

end Go.Proofs.YthbkfpkeofpocaaGreat

namespace Go.Proofs.YthbkfpkeofpocaaGreat
open Go.RowKit
set_option linter.unusedVariables false

theorem l04Times_m (p : Int) (aS : Option Addr) (S : List Int) (cS loS tpS : Nat) (ax : Option Addr) (x : List Int) (nx cx lox tpx : Nat) (ay : Option Addr) (y : List Int) (ny cy loy tpy : Nat) (w : World) (hnx : x.length = nx) (hny : y.length = ny) (hs : isSp p S = true) (hS : RowIn loS tpS w aS S) (tS : tpS ≤ w.heap.size) (hx : RowIn lox tpx w ax x) (tx : tpx ≤ w.heap.size) (mx : isMv p S x = true) (hy : RowIn loy tpy w ay y) (ty : tpy ≤ w.heap.size) (my : isMv p S y = true) :
    Calls Tryz.prog 50 #[.agg #[.int .i64 p, .slice aS S.length cS], .slice ax nx cx, .slice ay ny cy] w (OwnE (prodM p S x y) w) := by
  subst hnx hny; exact times_own p aS S cS loS tpS ax x cx lox tpx ay y cy loy tpy w hs hS tS hx tx mx hy ty my
theorem l04Times_v (p : Int) (aS : Option Addr) (S : List Int) (cS loS tpS : Nat) (ax : Option Addr) (x : List Int) (nx cx lox tpx b lo tp : Nat) (v : List Int) (w : World) (hnx : x.length = nx) (hs : isSp p S = true) (hS : RowIn loS tpS w aS S) (tS : tpS ≤ w.heap.size) (hx : RowIn lox tpx w ax x) (tx : tpx ≤ w.heap.size) (mx : isMv p S x = true) (hy : RowIn lo tp w (some ⟨b, 0, none⟩) (mkR (bl S) (vecF v v.length))) (ty : tp ≤ w.heap.size) (hv : isVec p S.length v = true) :
    Calls Tryz.prog 50 #[.agg #[.int .i64 p, .slice aS S.length cS], .slice ax nx cx, .slice (some ⟨b, 0, none⟩) (bl S) (bl S)] w (OwnE (prodM p S x (vecM S v)) w) := l04Times_m p aS S cS loS tpS ax x nx cx lox tpx (some ⟨b, 0, none⟩) (vecM S v) (bl S) (bl S) lo tp w hnx (mkR_len _ _) hs hS tS hx tx mx hy ty (vec_mv hs hv)
theorem revM_len (p : Int) (x : List Int) : (revM p x).length = x.length := mkR_len _ _
theorem ivM_len (p : Int) (x : List Int) : (ivM p x).length = x.length := mkR_len _ _
end Go.Proofs.YthbkfpkeofpocaaGreat

namespace Go.Proofs.YthbkfpkeofpocaaGreat
open Go.RowKit
set_option linter.unusedVariables false

def gramF (p : Int) (S : List Int) (m : List (List Int)) (i j : Nat) : Int := pairN p S (rw' m i) (rw' m j)
def gramM (p : Int) (S : List Int) (m : List (List Int)) : List (List Int) := mk m.length m.length (gramF p S m)
end Go.Proofs.YthbkfpkeofpocaaGreat

namespace Go.Proofs.YthbkfpkeofpocaaGreat
open Go.RowKit
set_option linter.unusedVariables false

def OwnG (m : List (List Int)) (w : World) (e : Ending) (w' : World) : Prop :=
  ∃ r k, e = .returned (.slice r m.length k) ∧ OwnM w.heap.size w'.heap.size w' r m ∧ Below w.heap.size w w'

def NewZ0 (n : Nat) (w : World) (e : Ending) (w' : World) : Prop := ∃ a, e = .returned (.slice a n n) ∧ Below w.heap.size w w'
set_option maxRecDepth 100000 in
set_option maxHeartbeats 1600000 in
theorem newMatrix_zero (n : Nat) (w : World) (hn : n = 0) :
    Calls Tryz.prog 74 #[.int .i64 n, .int .i64 n] w (NewZ0 n w) := by
  obtain ⟨t, htt⟩ : ∃ t, t = n * n := ⟨_, rfl⟩
  have htb : t ≤ 1048576 := by rw [htt, hn]; omega
  have hmul : IntKind.i64.wrap ((n : Int) * (n : Int)) = (t : Int) := by
    have : (n : Int) * (n : Int) = (t : Int) := by rw [htt]; simp
    rw [this]; exact IntWalk.i64_in _ (by omega)
  have hnn : n ≤ 0 := by omega
  clear htt hn
  have hmk := fun W => run_make_row' (P := Tryz.prog) 25 22 (.slice none 0 0) 24 Tryz.underlying25 info_slice rfl .i64 .i64 n (by omega) (by omega) W
  have hmk2 := fun W => run_make_row' (P := Tryz.prog) 22 2 (.int .i64 0) 8 Tryz.underlying22 info64 rfl .i64 .i64 t (by omega) (by omega) W
  go_enter Tryz.func74, Tryz.ntmps74
  go_wp2
  go_region
  all_goals
    go_wp2
    go_loopw [6, 16] (fun v t wr => ∃ i : Nat, i ≤ n ∧ t = .int .i64 i ∧ Below w.heap.size w wr) (fun _ t _ => n - (intOf t).toNat)
    case atStart => exact ⟨0, Nat.zero_le _, rfl, by ((repeat' (first | with_reducible exact Below.refl _ _ | (with_reducible refine Below.setCell ?_ ?_ _) | (with_reducible refine Below.alloc ?_ ?_ _) | (with_reducible refine Below.drew ?_))); all_goals (first | (simp; done) | omega | (simp; omega)))⟩
    case round =>
      obtain ⟨i, hi, rfl, hb⟩ := hrel
      have HB := Lib.hid hb
      have hin : ¬ (i : Int) < (n : Int) := by omega
      clear hb
      go_wp2
      go_ret
      exact ⟨_, rfl, HB.out⟩

set_option maxRecDepth 100000 in
set_option maxHeartbeats 6400000 in
theorem gram_any (pS : Int) (aS : Option Addr) (S : List Int) (cS loS tpS : Nat) (am : Option Addr) (m : List (List Int)) (cm lom tpm : Nat) (w : World)
    (hS : RowIn loS tpS w aS S) (tS : tpS ≤ w.heap.size) (hm : MatIn lom tpm w am m) (tm : tpm ≤ w.heap.size) (hs : isSp pS S = true) (hl : listB pS S m = true) :
    Calls Tryz.prog 77 #[.agg #[.int .i64 pS, .slice aS S.length cS], .slice am m.length cm] w (OwnG (gramM pS S m) w) := by
  have HS := Lib.hid hS
  have Hm := Lib.hid hm
  have HI := Lib.hid hs
  have HVE : Hid (∀ i, i < m.length → isVec pS S.length (rw' m i) = true) := (listB_iff hl).2
  have h16 := (listB_iff hl).1
  have HBB := Lib.hid (below_alloc w (.cells #[.int .i64 pS, .slice aS S.length cS] 24))
  have HZZ := Lib.hid HBB.out.size
  clear hS hm hs hl
  by_cases h0 : m.length = 0
  · have HG : Hid (gramM pS S m = []) := by show _ = _; unfold gramM; rw [h0]; rfl
    have h01 : m.length ≤ 0 := by omega
    have hin : ¬ (0 : Int) < (m.length : Int) := by omega
    have H0 := Lib.hid h0
    clear h0
    go_enter Tryz.func77, Tryz.ntmps77
    go_wp2_with (go_at_call 74; (with_reducible refine (newMatrix_zero m.length _ H0.out).mono ?_); rintro e w1 ⟨a1, rfl, hb1⟩; have HB1 := Lib.hid hb1; clear hb1)
    go_loopw [17] (fun t wr => ∃ i : Nat, i ≤ m.length ∧ t = .int .i64 i ∧ Below w.heap.size w wr) (fun t _ => m.length - (intOf t).toNat)
    case atStart => exact ⟨0, Nat.zero_le _, rfl, HBB.out.trans (HB1.out.mono HZZ.out)⟩
    case round =>
      obtain ⟨i, hi, rfl, hb⟩ := hrel
      have HB := Lib.hid hb
      have hii : ¬ (i : Int) < (m.length : Int) := by omega
      clear hb
      go_wp2
      go_ret
      rw [HG.out]
      exact ⟨a1, m.length, by rw [H0.out]; rfl, .inl rfl, HB.out⟩
  · have hpos : 1 ≤ m.length := by omega
    have h1024 : m.length ≤ 1024 := by omega
    go_enter Tryz.func77, Tryz.ntmps77
    go_wp2_with (go_at_call 74; (with_reducible refine (newMatrix_any m.length m.length _ h1024 h1024 hpos).mono ?_); rintro e w1 ⟨q, rfl, ho1, hb1⟩; have HO1 := Lib.hid (ho1.mono (show w.heap.size + 1 ≤ _ by simp) (Nat.le_refl _)); have HB1 := Lib.hid (HBB.out.trans (hb1.mono HZZ.out)); have K0 := Lib.hid ((hb1.cell (p := ⟨w.heap.size, 0, none⟩) (lt_alloc w _)).trans (nw0 w _ _ _)); have K1 := Lib.hid ((hb1.cell (p := ⟨w.heap.size, 1, none⟩) (lt_alloc w _)).trans (nw1 w _ _ _)); have hlw : w.heap.size < w1.heap.size := Nat.lt_of_lt_of_le (lt_alloc w _) hb1.size; clear ho1 hb1)
    go_loopw [17] (fun t wr => ∃ i : Nat, i ≤ m.length ∧ t = .int .i64 i ∧ OwnAt (w.heap.size + 1) w1.heap.size wr q m.length (fun _ => m.length) (fun k j => if k < i then gramF pS S m k j else 0) ∧ Below w.heap.size w wr ∧ wr.cell? ⟨w.heap.size, 0, none⟩ = some (.int .i64 pS) ∧ wr.cell? ⟨w.heap.size, 1, none⟩ = some (.slice aS S.length cS) ∧ w1.heap.size ≤ wr.heap.size) (fun t _ => m.length - (intOf t).toNat)
    case atStart => exact ⟨0, Nat.zero_le _, rfl, HO1.out.congr (fun i _ j _ => by simp), HB1.out, K0.out, K1.out, Nat.le_refl _⟩
    case round =>
      obtain ⟨i, hi, rfl, ho, hbel, k0, k1, hsz⟩ := hrel
      have HO := Lib.hid ho
      have HBEL := Lib.hid hbel
      have HK0 := Lib.hid k0
      have HK1 := Lib.hid k1
      have hwz := hbel.size
      rename World => wo
      clear ho k0 k1
      by_cases hlt : i < m.length
      · obtain ⟨b1, o1, r1, c1, ha1, _, hb1, hr1', hrow1⟩ := Hm.out.row hlt
        cases ha1
        have hr1 := (hbel.cell (p := ⟨b1, o1 + i, none⟩) (Nat.lt_of_lt_of_le hb1 tm)).trans hr1'
        have HROW := Lib.hid hrow1
        have hi1 : (i : Int) < (m.length : Int) := by omega
        clear hrow1 hbel
        go_wp2
        go_loopw [24] (fun t wr => ∃ j : Nat, j ≤ m.length ∧ t = .int .i64 j ∧ OwnAt (w.heap.size + 1) w1.heap.size wr q m.length (fun _ => m.length) (fun k j' => if k < i ∨ (k = i ∧ j' < j) then gramF pS S m k j' else 0) ∧ Below w.heap.size w wr ∧ wr.cell? ⟨w.heap.size, 0, none⟩ = some (.int .i64 pS) ∧ wr.cell? ⟨w.heap.size, 1, none⟩ = some (.slice aS S.length cS) ∧ w1.heap.size ≤ wr.heap.size) (fun t _ => m.length - (intOf t).toNat)
        case atStart => exact ⟨0, Nat.zero_le _, rfl, HO.out.congr (fun k _ j _ => by simp), HBEL.out, HK0.out, HK1.out, hsz⟩
        case round =>
          obtain ⟨j, hj, rfl, hoj, hbj, k0, k1, hsj⟩ := hrel
          have HOJ := Lib.hid hoj
          have HBJ := Lib.hid hbj
          have hwj := hbj.size
          by_cases hltj : j < m.length
          · obtain ⟨b2, o2, r2, c2, ha2, _, hb2, hr2, hrow2⟩ := (Hm.out.below hbj tm).row hltj
            cases ha2
            have HSd := Lib.hid (HS.out.below (hbj.trans ((below_drew wr).mono hwj)) tS)
            have HR1 := Lib.hid (HROW.out.below (hbj.trans ((below_drew wr).mono hwj)) tm)
            have HR2 := Lib.hid (hrow2.below (below_drew wr) (Nat.le_trans tm hwj))
            have HTS : Hid (tpS ≤ wr.drew.heap.size) := Nat.le_trans tS hwj
            have HTM : Hid (tpm ≤ wr.drew.heap.size) := Nat.le_trans tm hwj
            have v1 := HVE.out i hlt
            have v2 := HVE.out j hltj
            have ht3 := hoj.top i hlt
            have hR := (hoj.row i hlt).resolve_left (by omega)
            rw [hR] at ht3
            have hrg := hoj.rrng i hlt (by omega)
            have hrb := hoj.rng hpos
            have hc3 := hoj.cell i hlt j hltj
            have hf3 := hoj.free i hlt j hltj
            obtain ⟨y, hy⟩ : ∃ y, wr.cell? ⟨q.B i, q.O i + j, none⟩ = some (.int .i64 y) := ⟨_, hc3⟩
            have hne := hoj.tops i hlt j hltj i hlt
            have hne2 : (⟨q.b, q.o + i, none⟩ : Addr) ≠ ⟨q.B i, q.O i + j, none⟩ := fun e => by injection e with e1 e2; exact hne ⟨e1.symm, e2.symm⟩
            obtain ⟨x, hx⟩ : ∃ x, x = pairN pS S (rw' m i) (rw' m j) := ⟨_, rfl⟩
            have HX := Lib.hid hx
            have hj1 : (j : Int) < (m.length : Int) := by omega
            have hqb : q.b < wr.heap.size := by omega
            have hqB : q.B i < wr.heap.size := by omega
            have l0 : w.heap.size < wr.heap.size := by omega
            have l1 : w.heap.size ≠ q.B i := by omega
            clear hoj hbj hrow2 hR hc3 hx hne
            go_wp2
            go_region_held3 (fun w' => w'.cell? ⟨q.b, q.o + i, none⟩ = some (.slice (some ⟨q.B i, q.O i, none⟩) m.length (q.C i)) ∧ w'.cell? ⟨w.heap.size, 0, none⟩ = some (.int .i64 pS) ∧ w'.cell? ⟨w.heap.size, 1, none⟩ = some (.slice aS S.length cS)) (first | go_keep | exact SS5.out | exact SS6.out) (first | (go_at_call 39; (with_reducible refine (pair_any pS aS S cS loS tpS r1 (rw' m i) c1 lom tpm r2 (rw' m j) c2 lom tpm wr.drew HSd.out HTS.out HR1.out HTM.out HR2.out HTM.out HI.out v1 v2).mono ?_); rintro e w5 ⟨rfl, hb5⟩; rw [← HX.out]; have HB5 : Hid (Below wr.heap.size wr w5) := (below_drew wr).trans hb5; have SS5 := Lib.hid (And.intro ((HB5.out.cell (p := ⟨q.b, q.o + i, none⟩) hqb).trans ht3) (And.intro ((HB5.out.cell (p := ⟨w.heap.size, 0, none⟩) l0).trans k0) ((HB5.out.cell (p := ⟨w.heap.size, 1, none⟩) l0).trans k1))); have yc := (HB5.out.cell (p := ⟨q.B i, q.O i + j, none⟩) hqB).trans hy; have yf := (HB5.out.frozen (p := ⟨q.B i, q.O i + j, none⟩) hqB).trans hf3; have SS6 := Lib.hid (And.intro ((World.cell?_setCell_other w5 ⟨q.B i, q.O i + j, none⟩ ⟨q.b, q.o + i, none⟩ (.int .i64 x) (fun e => hne2 e.symm)).trans SS5.out.1) (And.intro ((World.cell?_setCell_other w5 ⟨q.B i, q.O i + j, none⟩ ⟨w.heap.size, 0, none⟩ (.int .i64 x) (fun e => l1 (by injection e with e1; exact e1.symm))).trans SS5.out.2.1) ((World.cell?_setCell_other w5 ⟨q.B i, q.O i + j, none⟩ ⟨w.heap.size, 1, none⟩ (.int .i64 x) (fun e => l1 (by injection e with e1; exact e1.symm))).trans SS5.out.2.2))); clear hb5))
            go_wp2
            go_roundw
            case rel =>
              have hz5 := HB5.out.size
              exact ⟨j + 1, by omega, by go_num, ((HOJ.out.same (same_below HB5.out hsj)).set hlt hltj x).congr (fun k hk j' hj' => by
                rw [HX.out]
                by_cases e1 : k = i ∧ j' = j
                · obtain ⟨rfl, rfl⟩ := e1
                  rw [if_pos ⟨rfl, rfl⟩, if_pos (.inr ⟨rfl, by omega⟩)]; rfl
                · rw [if_neg e1]
                  by_cases e2 : k < i ∨ (k = i ∧ j' < j)
                  · rw [if_pos e2, if_pos (by omega)]
                  · rw [if_neg e2, if_neg (by omega)]), (HBJ.out.trans (HB5.out.mono hwj)).setCell (show w.heap.size ≤ q.B i by omega) _, SS6.out.2.1, SS6.out.2.2, by simp [World.setCell]; omega⟩
            case measure => simp [intOf]; omega
          · have hn : j = m.length := by omega
            subst hn
            clear hoj hbj
            go_wp2
            go_roundw
            case rel => exact ⟨i + 1, by omega, by go_num, HOJ.out.congr (fun k hk j' hj' => by
              by_cases e : k < i + 1
              · rw [if_pos e, if_pos (by omega)]
              · rw [if_neg e, if_neg (by omega)]), HBJ.out, k0, k1, hsj⟩
            case measure => simp [intOf]; omega
      · have hn : i = m.length := by omega
        subst hn
        have HF := Lib.hid (HO.out.congr (Z' := gramF pS S m) (fun k h j _ => by rw [if_pos h]))
        clear hbel
        go_wp2
        go_ret
        exact ⟨_, m.length, by rw [gramM, mk_len]; rfl, (HF.out.mono (show w.heap.size ≤ w.heap.size + 1 by omega) hsz).ownM, HBEL.out⟩

end Go.Proofs.YthbkfpkeofpocaaGreat
