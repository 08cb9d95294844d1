/-
  VersorOf, ReflectIn (program): contracts of the program and of the model.
  Conditions: the lists are nil or rows of known cells, of at most 1048576 numbers.
  The model's list of the numbers of the basis vectors.
  Conditions: rows of known cells.
  Versors (model): contracts of the program and of the model.
  Conditions: the lists are nil or rows of known cells, of at most 1048576 numbers.
  The model's GramOf: contract.
  Conditions: the lists are nil or rows of known cells, of at most 1048576 numbers.
-/
import Derived.Test.YtlfjhffigkhmcaaGreatQe23
import Derived.Test.YtlfjhffigkhmcaaGreatQe24
import Derived.Test.YtlfjhffigkhmcaaGreatQe25
import Derived.Test.YtlfjhffigkhmcaaGreatQe21
import Derived.Deep.RegionHeld3
import Derived.Deep.DeepCutAuto
import Derived.Test.YtlfjhffigkhmcaaGreatQe14
import Derived.Test.YtlfjhffigkhmcaaGreatQe15
import Derived.Test.YtlfjhffigkhmcaaGreatQe8
import Derived.Test.YtlfjhffigkhmcaaGreatQe6
import Derived.Test.YtlfjhffigkhmcaaGreatQe18
namespace Go.Proofs.YtlfjhffigkhmcaaGreat
open Go.RowKit
set_option linter.unusedVariables false

def nulB (p : Int) (S : List Int) (m : List (List Int)) (k : Nat) : Bool := (List.range k).any fun j => pairN p S (rw' m j) (rw' m j) == 0
def voC (p : Int) (S : List Int) (m : List (List Int)) : Int := if codeL p S m = 0 then (if discN p S = 0 then 5 else if nulB p S m m.length = true then 5 else 0) else codeL p S m
def voV (p : Int) (S : List Int) (m : List (List Int)) : List Int := if voC p S m = 0 then vrM p S m m.length else []
theorem nulB_yes {p : Int} {S : List Int} {m : List (List Int)} {k j : Nat} (hj : j < k) (h : pairN p S (rw' m j) (rw' m j) = 0) : nulB p S m k = true := List.any_eq_true.2 ⟨j, List.mem_range.2 hj, by simpa using h⟩
theorem nulB_no {p : Int} {S : List Int} {m : List (List Int)} {k : Nat} (h : ∀ j, j < k → pairN p S (rw' m j) (rw' m j) ≠ 0) : nulB p S m k = false := by
  cases e : nulB p S m k with
  | false => rfl
  | true =>
    obtain ⟨j, h1, h2⟩ := List.any_eq_true.1 e
    exact absurd (by simpa using h2) (h j (List.mem_range.1 h1))
theorem regC_nil {p : Int} {S : List Int} (h : isSp p S = true) : regC p S [] = if discN p S = 0 then 5 else 0 := by
  unfold regC
  rw [if_pos (codeMv_zero.2 ⟨h, rfl⟩)]
theorem checkR0 (pS : Int) (aS : Option Addr) (S : List Int) (cS loS tpS : Nat) (w : World) (hS : RowIn loS tpS w aS S) (tS : tpS ≤ w.heap.size) (sS : S.length ≤ 1048576) :
    Calls Tryz.prog 13 #[.agg #[.int .i64 pS, .slice aS S.length cS], .slice none 0 0] w fun e w' => e = .returned (.int .i64 (regC pS S [])) ∧ Below w.heap.size w w' :=
  checkRegular_any pS aS S cS loS tpS none [] 0 0 0 w hS tS sS (.inl rfl) (Nat.zero_le _) (by show 0 ≤ 1048576; omega) (fun i hi => absurd hi (Nat.not_lt_zero i))

set_option maxRecDepth 100000 in
set_option maxHeartbeats 1600000 in
theorem nulClo_any (p : Int) (aS : Option Addr) (S : List Int) (cS loS tpS : Nat) (au : Option Addr) (u : List Int) (cu lou tpu gx : Nat) (w : World) (hs : isSp p S = true) (hS : RowIn loS tpS w aS S) (tS : tpS ≤ w.heap.size) (hu : RowIn lou tpu w au u) (tu : tpu ≤ w.heap.size) (mu : isVec p S.length u = true) (hb : w.cell? ⟨gx, 0, none⟩ = some (.int .i64 p) ∧ w.cell? ⟨gx, 1, none⟩ = some (.slice aS S.length cS)) :
    Calls Tryz.prog 23 #[.slice au u.length cu, .pointer (some ⟨gx, 0, none⟩)] w fun e w' => e = .returned (.bool (pairN p S u u == 0)) ∧ Below w.heap.size w w' := by
  have HI := Lib.hid hs
  have HS := Lib.hid hS
  have Hu := Lib.hid hu
  have HU := Lib.hid mu
  obtain ⟨k0, k1⟩ := hb
  clear hs hS hu mu
  go_enter Tryz.func23, Tryz.ntmps23
  go_wp2_with (go_at_call 24; ((with_reducible refine (norm_any p aS S cS loS tpS au u cu lou tpu w HS.out tS Hu.out tu HI.out HU.out).mono ?_); rintro e w' ⟨rfl, b_⟩; have B := Lib.hid b_; clear b_))
  go_ret
  exact ⟨rfl, B.out⟩

def IdxN (p : Int) (S : List Int) (m : List (List Int)) (w : World) (e : Ending) (w' : World) : Prop := ∃ r : Int, e = .returned (.int .i64 r) ∧ (nulB p S m m.length = true → 0 ≤ r) ∧ (nulB p S m m.length = false → r = -1) ∧ Below w.heap.size w w'

set_option maxRecDepth 100000 in
set_option maxHeartbeats 3200000 in
theorem nulIdx_any (p : Int) (aS : Option Addr) (S : List Int) (cS loS tpS : Nat) (am : Option Addr) (m : List (List Int)) (cm lom tpm gx : Nat) (w : World) (hs : isSp p S = true) (hS : RowIn loS tpS w aS S) (tS : tpS ≤ w.heap.size) (hm : MatIn lom tpm w am m) (tm : tpm ≤ w.heap.size) (hl : listB p S m = true) (hb : w.cell? ⟨gx, 0, none⟩ = some (.int .i64 p) ∧ w.cell? ⟨gx, 1, none⟩ = some (.slice aS S.length cS)) (lx : gx < w.heap.size) :
    Calls Tryz.prog 50 #[.slice am m.length cm, .func (.func 23) #[] #[.pointer (some ⟨gx, 0, none⟩)]] w (IdxN p S m w) := by
  have HI := Lib.hid hs
  have HS := Lib.hid hS
  have Hm := Lib.hid hm
  have HL := Lib.hid (listB_iff hl)
  have HB := Lib.hid hb
  have hm16 := HL.out.1
  clear hs hS hm hl hb
  go_enter Tryz.func50, Tryz.ntmps50
  go_wp2
  go_loopw [8] (fun t wr => ∃ i : Nat, i ≤ m.length ∧ t = .int .i64 i ∧ (∀ j, j < i → pairN p S (rw' m j) (rw' m j) ≠ 0) ∧ Below w.heap.size w wr) (fun t _ => m.length - (intOf t).toNat)
  case atStart => exact ⟨0, Nat.zero_le _, rfl, fun j hj => by omega, Below.refl _ _⟩
  case round =>
    obtain ⟨i, hi, rfl, hd, hbel⟩ := hrel
    have HD := Lib.hid hd
    have HBel := Lib.hid hbel
    have hz := hbel.size
    by_cases hlt : i < m.length
    · obtain ⟨b9, o9, rv, cv9, ha9, _, hb9, hr9, hrow⟩ := (Hm.out.below hbel tm).row hlt
      subst ha9
      have hi1 : (i : Int) < (m.length : Int) := Int.ofNat_lt.2 hlt
      have HROW := Lib.hid hrow
      have HVU := Lib.hid (HL.out.2 i hlt)
      have HBW := Lib.hid (ss2 hbel lx HB.out)
      clear hd hbel hrow
      by_cases hp0 : pairN p S (rw' m i) (rw' m i) = 0
      · have HP : Hid ((pairN p S (rw' m i) (rw' m i) == 0) = true) := by show _ = _; simpa using hp0
        have HA := Lib.hid (nulB_yes hlt hp0)
        clear hp0
        go_wp2_with (go_at_call 23; ((with_reducible refine (nulClo_any p aS S cS loS tpS rv (rw' m i) cv9 lom tpm gx wr HI.out (HS.out.below HBel.out tS) (Nat.le_trans tS hz) HROW.out (Nat.le_trans tm hz) HVU.out HBW.out).mono ?_); rintro e w5 ⟨rfl, b_⟩; rw [HP.out]; have B5 := Lib.hid b_; clear b_))
        go_ret
        exact ⟨i, rfl, fun _ => by omega, fun h => (by rw [HA.out] at h; cases h), below_step HBel.out hz B5.out⟩
      · have HP : Hid ((pairN p S (rw' m i) (rw' m i) == 0) = false) := by show _ = _; simpa using hp0
        have HPZ := Lib.hid hp0
        clear hp0
        go_wp2_with (go_at_call 23; ((with_reducible refine (nulClo_any p aS S cS loS tpS rv (rw' m i) cv9 lom tpm gx wr HI.out (HS.out.below HBel.out tS) (Nat.le_trans tS hz) HROW.out (Nat.le_trans tm hz) HVU.out HBW.out).mono ?_); rintro e w5 ⟨rfl, b_⟩; rw [HP.out]; have B5 := Lib.hid b_; clear b_))
        go_roundw
        case rel => exact ⟨i + 1, by omega, by go_num, fun j hj => by
          by_cases e : j = i
          · subst e; exact HPZ.out
          · exact HD.out j (by omega), below_step HBel.out hz B5.out⟩
        case measure => simp [intOf]; omega
    · have hin : i = m.length := by omega
      subst hin
      have HN := Lib.hid (nulB_no hd)
      clear hd hbel
      go_wp2
      go_ret
      exact ⟨-1, rfl, fun h => (by rw [HN.out] at h; cases h), fun _ => rfl, HBel.out⟩

set_option maxHeartbeats 1600000 in
theorem nulHas_any (p : Int) (aS : Option Addr) (S : List Int) (cS loS tpS : Nat) (am : Option Addr) (m : List (List Int)) (cm lom tpm gx : Nat) (w : World) (hs : isSp p S = true) (hS : RowIn loS tpS w aS S) (tS : tpS ≤ w.heap.size) (hm : MatIn lom tpm w am m) (tm : tpm ≤ w.heap.size) (hl : listB p S m = true) (hb : w.cell? ⟨gx, 0, none⟩ = some (.int .i64 p) ∧ w.cell? ⟨gx, 1, none⟩ = some (.slice aS S.length cS)) (lx : gx < w.heap.size) :
    Calls Tryz.prog 26 #[.slice am m.length cm, .func (.func 23) #[] #[.pointer (some ⟨gx, 0, none⟩)]] w fun e w' => e = .returned (.bool (nulB p S m m.length)) ∧ Below w.heap.size w w' := by
  have HC := Lib.hid (nulIdx_any p aS S cS loS tpS am m cm lom tpm gx w hs hS tS hm tm hl hb lx)
  clear hs hS hm hl hb
  go_enter Tryz.func26, Tryz.ntmps26
  by_cases ha : nulB p S m m.length = true
  · have HA := Lib.hid ha
    clear ha
    go_wp2_with (go_at_call 50; ((with_reducible refine (HC.out).mono ?_); rintro e w5 ⟨r, rfl, h1, _, b_⟩; have h0 := h1 HA.out; have hge : (0 : Int) ≤ r := h0; have B5 := Lib.hid b_; clear b_ h1))
    go_ret
    exact ⟨by rw [HA.out]; simp, B5.out⟩
  · have HA : Hid (nulB p S m m.length = false) := by show _ = _; simpa using ha
    clear ha
    go_wp2_with (go_at_call 50; ((with_reducible refine (HC.out).mono ?_); rintro e w5 ⟨r, rfl, _, h1, b_⟩; have h0 := h1 HA.out; subst h0; have B5 := Lib.hid b_; clear b_ h1))
    go_ret
    exact ⟨by rw [HA.out]; rfl, B5.out⟩
theorem field_ver (a b c d e : Value) (w : World) : (Instr.field 52 (.agg #[a, b, c, d, e]) 0).run Tryz.prog w = .ok (.agg #[a, b, c]) w := by kernel_rfl
theorem field_mul (a b c : Value) (w : World) : (Instr.field 48 (.agg #[a, b, c]) 1).run Tryz.prog w = .ok c w := by kernel_rfl

set_option maxRecDepth 100000 in
set_option maxHeartbeats 3200000 in
theorem impl_VersorOf (pS : Int) (aS : Option Addr) (S : List Int) (cS loS tpS : Nat) (am : Option Addr) (m : List (List Int)) (cm lom tpm : Nat) (w : World) (hS : RowIn loS tpS w aS S) (tS : tpS ≤ w.heap.size) (sS : S.length ≤ 1048576) (hm : MatIn lom tpm w am m) (tm : tpm ≤ w.heap.size) (sm : m.length + tot m m.length ≤ 1048576) :
    Calls Tryz.prog 8 #[.agg #[.int .i64 pS, .slice aS S.length cS], .slice am m.length cm] w (ImplR (voV pS S m) (voC pS S m) w) := by
  have HS := Lib.hid hS
  have Hm := Lib.hid hm
  have sm1 : m.length ≤ 1048576 := by omega
  have HSR : Hid (∀ i, i < m.length → (rw' m i).length ≤ 1048576) := fun i hi => by have := tot_row hi; omega
  have k0 := nw0 w (.int .i64 pS) (.slice aS S.length cS) 24
  have k1 := nw1 w (.int .i64 pS) (.slice aS S.length cS) 24
  have HB0 := Lib.hid (below_alloc w (.cells #[.int .i64 pS, .slice aS S.length cS] 24))
  have hfv := field_ver
  have hfm := field_mul
  clear hS hm
  by_cases hz0 : codeL pS S m = 0
  · by_cases hd0 : discN pS S = 0
    · have HVC : Hid (voV pS S m = [] ∧ voC pS S m = 5) := by
        have e : voC pS S m = 5 := by unfold voC; rw [if_pos hz0, if_pos hd0]
        exact ⟨by unfold voV; rw [if_neg (by rw [e]; decide)], e⟩
      have HZ := Lib.hid hz0
      have hls : isSp pS S = true ∧ listB pS S m = true := by
        rcases codeL_cases pS S m with ⟨_, hc⟩ | ⟨hi, hl, _⟩ | ⟨_, _, hc⟩
        · rw [hc] at hz0; cases hz0
        · exact ⟨hi, hl⟩
        · rw [hc] at hz0; cases hz0
      have HI := Lib.hid hls.1
      have HLB := Lib.hid hls.2
      clear hls
      have HD : Hid ((discN pS S != 0) = false) := by show _ = _; simp [hd0]
      clear hz0 hd0
      go_enter Tryz.func8, Tryz.ntmps8
      go_upto_region 1 with fail
      obtain ⟨w1, hw1⟩ : ∃ z, z = w.alloc (.cells #[.int .i64 pS, .slice aS S.length cS] 24) := ⟨_, rfl⟩
      rw [← hw1] at HB0 k0 k1 ⊢
      have hd1 : w.heap.size < w1.heap.size := by rw [hw1]; simp
      have HB1 := HB0
      clear hw1
      have SS1 := Lib.hid (And.intro k0 k1)
      go_wp2_with (first | (go_at_call 22; ((with_reducible refine (checkList_any pS aS S cS loS tpS am m cm lom tpm w1 (HS.out.below HB1.out tS) (Nat.le_trans tS HB1.out.size) sS (Hm.out.below HB1.out tm) (Nat.le_trans tm HB1.out.size) sm1 HSR.out).mono ?_); rintro e w2 ⟨rfl, b_⟩; rw [HZ.out]; have SS2 := Lib.hid (ss2 b_ hd1 SS1.out); have HB2 := Lib.hid (below_step HB1.out HB1.out.size b_); have hd2 := Nat.lt_of_lt_of_le hd1 b_.size; clear k0 k1; obtain ⟨k0, k1⟩ := SS2.out; clear b_)) | (go_at_call 25; ((with_reducible refine (isRegular_any pS aS S cS loS tpS w2 (HS.out.below HB2.out tS) (Nat.le_trans tS HB2.out.size) HI.out).mono ?_); rintro e w3 ⟨rfl, b_⟩; rw [HD.out]; have SS3 := Lib.hid (ss2 b_ hd2 SS2.out); have HB3 := Lib.hid (below_step HB2.out HB2.out.size b_); have hd3 := Nat.lt_of_lt_of_le hd2 b_.size; clear k0 k1; obtain ⟨k0, k1⟩ := SS3.out; clear b_)))
      go_ret2
      rw [HVC.out.1, HVC.out.2]
      exact ⟨none, 0, rfl, .inl rfl, HB3.out⟩
    · by_cases hn0 : nulB pS S m m.length = true
      · have HVC : Hid (voV pS S m = [] ∧ voC pS S m = 5) := by
          have e : voC pS S m = 5 := by unfold voC; rw [if_pos hz0, if_neg hd0, if_pos hn0]
          exact ⟨by unfold voV; rw [if_neg (by rw [e]; decide)], e⟩
        have HZ := Lib.hid hz0
        have hls : isSp pS S = true ∧ listB pS S m = true := by
          rcases codeL_cases pS S m with ⟨_, hc⟩ | ⟨hi, hl, _⟩ | ⟨_, _, hc⟩
          · rw [hc] at hz0; cases hz0
          · exact ⟨hi, hl⟩
          · rw [hc] at hz0; cases hz0
        have HI := Lib.hid hls.1
        have HLB := Lib.hid hls.2
        clear hls
        have HD : Hid ((discN pS S != 0) = true) := by show _ = _; simpa using hd0
        have HN := Lib.hid hn0
        clear hz0 hd0 hn0
        go_enter Tryz.func8, Tryz.ntmps8
        go_upto_region 1 with fail
        obtain ⟨w1, hw1⟩ : ∃ z, z = w.alloc (.cells #[.int .i64 pS, .slice aS S.length cS] 24) := ⟨_, rfl⟩
        rw [← hw1] at HB0 k0 k1 ⊢
        have hd1 : w.heap.size < w1.heap.size := by rw [hw1]; simp
        have HB1 := HB0
        clear hw1
        have SS1 := Lib.hid (And.intro k0 k1)
        go_wp2_with (first | (go_at_call 22; ((with_reducible refine (checkList_any pS aS S cS loS tpS am m cm lom tpm w1 (HS.out.below HB1.out tS) (Nat.le_trans tS HB1.out.size) sS (Hm.out.below HB1.out tm) (Nat.le_trans tm HB1.out.size) sm1 HSR.out).mono ?_); rintro e w2 ⟨rfl, b_⟩; rw [HZ.out]; have SS2 := Lib.hid (ss2 b_ hd1 SS1.out); have HB2 := Lib.hid (below_step HB1.out HB1.out.size b_); have hd2 := Nat.lt_of_lt_of_le hd1 b_.size; clear k0 k1; obtain ⟨k0, k1⟩ := SS2.out; clear b_)) | (go_at_call 25; ((with_reducible refine (isRegular_any pS aS S cS loS tpS w2 (HS.out.below HB2.out tS) (Nat.le_trans tS HB2.out.size) HI.out).mono ?_); rintro e w3 ⟨rfl, b_⟩; rw [HD.out]; have SS3 := Lib.hid (ss2 b_ hd2 SS2.out); have HB3 := Lib.hid (below_step HB2.out HB2.out.size b_); have hd3 := Nat.lt_of_lt_of_le hd2 b_.size; clear k0 k1; obtain ⟨k0, k1⟩ := SS3.out; clear b_)) | (go_at_call 26; ((with_reducible refine (nulHas_any pS aS S cS loS tpS am m cm lom tpm w.heap.size w3 HI.out (HS.out.below HB3.out tS) (Nat.le_trans tS HB3.out.size) (Hm.out.below HB3.out tm) (Nat.le_trans tm HB3.out.size) HLB.out ⟨k0, k1⟩ hd3).mono ?_); rintro e w4 ⟨rfl, b_⟩; rw [HN.out]; have SS4 := Lib.hid (ss2 b_ hd3 SS3.out); have HB4 := Lib.hid (below_step HB3.out HB3.out.size b_); have hd4 := Nat.lt_of_lt_of_le hd3 b_.size; clear k0 k1; obtain ⟨k0, k1⟩ := SS4.out; clear b_)))
        go_ret2
        rw [HVC.out.1, HVC.out.2]
        exact ⟨none, 0, rfl, .inl rfl, HB4.out⟩
      · have HVC : Hid (voV pS S m = vrM pS S m m.length ∧ voC pS S m = 0) := by
          have e : voC pS S m = 0 := by unfold voC; rw [if_pos hz0, if_neg hd0, if_neg hn0]
          exact ⟨by unfold voV; rw [if_pos e], e⟩
        have HZ := Lib.hid hz0
        have hls : isSp pS S = true ∧ listB pS S m = true := by
          rcases codeL_cases pS S m with ⟨_, hc⟩ | ⟨hi, hl, _⟩ | ⟨_, _, hc⟩
          · rw [hc] at hz0; cases hz0
          · exact ⟨hi, hl⟩
          · rw [hc] at hz0; cases hz0
        have HI := Lib.hid hls.1
        have HLB := Lib.hid hls.2
        clear hls
        have HD : Hid ((discN pS S != 0) = true) := by show _ = _; simpa using hd0
        have HN : Hid (nulB pS S m m.length = false) := by show _ = _; simpa using hn0
        clear hz0 hd0 hn0
        go_enter Tryz.func8, Tryz.ntmps8
        go_upto_region 1 with fail
        obtain ⟨w1, hw1⟩ : ∃ z, z = w.alloc (.cells #[.int .i64 pS, .slice aS S.length cS] 24) := ⟨_, rfl⟩
        rw [← hw1] at HB0 k0 k1 ⊢
        have hd1 : w.heap.size < w1.heap.size := by rw [hw1]; simp
        have HB1 := HB0
        clear hw1
        have SS1 := Lib.hid (And.intro k0 k1)
        go_wp2_with (first | (go_at_call 22; ((with_reducible refine (checkList_any pS aS S cS loS tpS am m cm lom tpm w1 (HS.out.below HB1.out tS) (Nat.le_trans tS HB1.out.size) sS (Hm.out.below HB1.out tm) (Nat.le_trans tm HB1.out.size) sm1 HSR.out).mono ?_); rintro e w2 ⟨rfl, b_⟩; rw [HZ.out]; have SS2 := Lib.hid (ss2 b_ hd1 SS1.out); have HB2 := Lib.hid (below_step HB1.out HB1.out.size b_); have hd2 := Nat.lt_of_lt_of_le hd1 b_.size; clear k0 k1; obtain ⟨k0, k1⟩ := SS2.out; clear b_)) | (go_at_call 25; ((with_reducible refine (isRegular_any pS aS S cS loS tpS w2 (HS.out.below HB2.out tS) (Nat.le_trans tS HB2.out.size) HI.out).mono ?_); rintro e w3 ⟨rfl, b_⟩; rw [HD.out]; have SS3 := Lib.hid (ss2 b_ hd2 SS2.out); have HB3 := Lib.hid (below_step HB2.out HB2.out.size b_); have hd3 := Nat.lt_of_lt_of_le hd2 b_.size; clear k0 k1; obtain ⟨k0, k1⟩ := SS3.out; clear b_)) | (go_at_call 26; ((with_reducible refine (nulHas_any pS aS S cS loS tpS am m cm lom tpm w.heap.size w3 HI.out (HS.out.below HB3.out tS) (Nat.le_trans tS HB3.out.size) (Hm.out.below HB3.out tm) (Nat.le_trans tm HB3.out.size) HLB.out ⟨k0, k1⟩ hd3).mono ?_); rintro e w4 ⟨rfl, b_⟩; rw [HN.out]; have SS4 := Lib.hid (ss2 b_ hd3 SS3.out); have HB4 := Lib.hid (below_step HB3.out HB3.out.size b_); have hd4 := Nat.lt_of_lt_of_le hd3 b_.size; clear k0 k1; obtain ⟨k0, k1⟩ := SS4.out; clear b_)) | (go_at_call 27; ((with_reducible refine (versorOfVectors_own pS aS S cS loS tpS am m cm lom tpm w4 HI.out (HS.out.below HB4.out tS) (Nat.le_trans tS HB4.out.size) (Hm.out.below HB4.out tm) (Nat.le_trans tm HB4.out.size) HLB.out).mono ?_); rintro e w5 ⟨r, c, rfl, o_, b_⟩; have SS5 := Lib.hid (ss2 b_ hd4 SS4.out); have HB5 := Lib.hid (below_step HB4.out HB4.out.size b_); have hd5 := Nat.lt_of_lt_of_le hd4 b_.size; have OO := Lib.hid (OwnR.mono' o_ (Nat.le_of_lt hd4) (Nat.le_refl _)); clear o_; clear k0 k1; obtain ⟨k0, k1⟩ := SS5.out; clear b_)))
        go_ret2
        rw [HVC.out.1, HVC.out.2]
        exact ⟨r, c, rfl, OO.out, HB5.out⟩
  · have HVC : Hid (voV pS S m = [] ∧ voC pS S m = codeL pS S m) := by
      have e : voC pS S m = codeL pS S m := by unfold voC; rw [if_neg hz0]
      exact ⟨by unfold voV; rw [if_neg (by rw [e]; exact hz0)], e⟩
    obtain ⟨C, hC⟩ : ∃ c, c = codeL pS S m := ⟨_, rfl⟩
    have hc1 : (C != 0) = true := by rw [hC]; simpa using hz0
    have HCE := Lib.hid hC
    clear hz0 hC
    go_enter Tryz.func8, Tryz.ntmps8
    go_upto_region 1 with fail
    obtain ⟨w1, hw1⟩ : ∃ z, z = w.alloc (.cells #[.int .i64 pS, .slice aS S.length cS] 24) := ⟨_, rfl⟩
    rw [← hw1] at HB0 k0 k1 ⊢
    have hd1 : w.heap.size < w1.heap.size := by rw [hw1]; simp
    have HB1 := HB0
    clear hw1
    have SS1 := Lib.hid (And.intro k0 k1)
    go_wp2_with (go_at_call 22; ((with_reducible refine (checkList_any pS aS S cS loS tpS am m cm lom tpm w1 (HS.out.below HB1.out tS) (Nat.le_trans tS HB1.out.size) sS (Hm.out.below HB1.out tm) (Nat.le_trans tm HB1.out.size) sm1 HSR.out).mono ?_); rintro e w2 ⟨rfl, b_⟩; rw [← HCE.out]; have SS2 := Lib.hid (ss2 b_ hd1 SS1.out); have HB2 := Lib.hid (below_step HB1.out HB1.out.size b_); have hd2 := Nat.lt_of_lt_of_le hd1 b_.size; clear k0 k1; obtain ⟨k0, k1⟩ := SS2.out; clear b_))
    go_ret2
    rw [HVC.out.1, HVC.out.2, ← HCE.out]
    exact ⟨none, 0, rfl, .inl rfl, HB2.out⟩

end Go.Proofs.YtlfjhffigkhmcaaGreat

namespace Go.Proofs.YtlfjhffigkhmcaaGreat
open Go.RowKit
set_option linter.unusedVariables false

theorem revM_len (p : Int) (x : List Int) : (revM p x).length = x.length := mkR_len _ _
theorem ivM_len (p : Int) (x : List Int) : (ivM p x).length = x.length := mkR_len _ _
theorem l01Inv_low7 (p a : Int) (w : World) (hp : prm p = true) (a0 : 1 ≤ a) (a1 : a < p) :
    Calls Tryz.prog 84 #[.int .i64 p, .int .i64 a] w fun e w' => e = .returned (.int .i64 (inv p a)) ∧ Below w.heap.size w w' :=
  (l01Inv_any p a w hp a0 a1).mono fun _ _ ⟨h, e⟩ => ⟨h, e ▸ Below.refl _ _⟩
theorem l01Same_b (a b : Option Addr) (za zb : List Int) (na nb ca cb lo tp lo' tp' : Nat) (w : World) (hna : za.length = na) (hnb : zb.length = nb) (ha : RowIn lo tp w a za) (hb : RowIn lo' tp' w b zb) (sa : na ≤ 1048576) :
    Calls Tryz.prog 42 #[.slice a na ca, .slice b nb cb] w fun e w' => e = .returned (.bool (decide (za = zb))) ∧ Below w.heap.size w w' := by
  subst hna hnb
  exact (l01Same_any a b za zb ca cb lo tp lo' tp' w ha hb sa).mono fun _ _ ⟨h, q⟩ => ⟨h, q.below _⟩
end Go.Proofs.YtlfjhffigkhmcaaGreat

namespace Go.Proofs.YtlfjhffigkhmcaaGreat
open Go.RowKit
set_option linter.unusedVariables false

def gramF (p : Int) (S : List Int) (m : List (List Int)) (i j : Nat) : Int := pairN p S (rw' m i) (rw' m j)
def gramM (p : Int) (S : List Int) (m : List (List Int)) : List (List Int) := mk m.length m.length (gramF p S m)
end Go.Proofs.YtlfjhffigkhmcaaGreat
