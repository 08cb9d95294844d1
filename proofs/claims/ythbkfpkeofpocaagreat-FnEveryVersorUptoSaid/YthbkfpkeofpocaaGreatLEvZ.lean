/-
  The walk of the law on every versor: FnEveryVersor.: contracts of the program and of the model.
  Conditions: the lists are nil or rows of known cells, of at most 1048576 numbers.
-/
import Derived.Test.YthbkfpkeofpocaaGreatQv46
import Derived.Test.YthbkfpkeofpocaaGreatQv40
import Derived.Test.YthbkfpkeofpocaaGreatQv44
import Derived.Test.YthbkfpkeofpocaaGreatQv39
import Derived.Test.YthbkfpkeofpocaaGreatQv26
import Derived.Test.YthbkfpkeofpocaaGreatQv23
import Derived.Test.YthbkfpkeofpocaaGreatQv45
import Derived.Test.YthbkfpkeofpocaaGreatQv27
import Derived.Deep.RegionHeld3
import Derived.Deep.DeepCutAuto
namespace Go.Proofs.YthbkfpkeofpocaaGreat
open Go.RowKit
set_option linter.unusedVariables false

set_option maxRecDepth 100000 in
set_option maxHeartbeats 6400000 in
theorem law_EveryVersor (pS : Int) (aS : Option Addr) (S : List Int) (cS loS tpS : Nat) (am : Option Addr) (m : List (List Int)) (cm lom tpm : Nat) (w : World) (hS : RowIn loS tpS w aS S) (tS : tpS ≤ w.heap.size) (sS : S.length ≤ 1048576) (hm : MatIn lom tpm w am m) (tm : tpm ≤ w.heap.size) (sm' : m.length + tot m m.length ≤ 1048576) :
    Calls Tryz.prog 3 #[.agg #[.int .i64 pS, .slice aS S.length cS], .slice am m.length cm] w (fun e w' => e = .returned (.bool true) ∧ Below w.heap.size w w') := by
  have HS := Lib.hid hS
  have Hm := Lib.hid hm
  have HSM := Lib.hid sm'
  have k0 := nw0 w (.int .i64 pS) (.slice aS S.length cS) 24
  have k1 := nw1 w (.int .i64 pS) (.slice aS S.length cS) 24
  have HB0 := Lib.hid (below_alloc w (.cells #[.int .i64 pS, .slice aS S.length cS] 24))
  clear hS hm sm'
  by_cases hl : m.length ≤ 65536
  · have hl1 : ¬ (65536 : Int) < (m.length : Int) := by omega
    go_enter Tryz.func3, Tryz.ntmps3
    go_upto_region 1 with fail
    obtain ⟨w1, hw1⟩ : ∃ z, z = w.alloc (.cells #[.int .i64 pS, .slice aS S.length cS] 24) := ⟨_, rfl⟩
    rw [← hw1] at HB0 k0 k1 ⊢
    have hd1 : w.heap.size < w1.heap.size := by rw [hw1]; simp
    have HB1 := HB0
    clear hw1
    have SS1 := Lib.hid (And.intro k0 k1)
    go_wp2
    go_loopw [5] (fun t wr => ∃ i : Nat, i ≤ m.length ∧ t = .int .i64 i ∧ Below w1.heap.size w1 wr) (fun t _ => m.length - (intOf t).toNat)
    case atStart => exact ⟨0, Nat.zero_le _, rfl, Below.refl _ _⟩
    case round =>
      obtain ⟨i, hi, rfl, hbel⟩ := hrel
      have HXr := Lib.hid hbel
      have SSr := Lib.hid (ss2 hbel hd1 SS1.out)
      have HBr : Hid (Below w.heap.size w wr) := below_step HB1.out HB1.out.size hbel
      have hdr : w.heap.size < w1.heap.size := hd1
      clear k0 k1
      by_cases hlt : i < m.length
      · have hi1 : (i : Int) < (m.length : Int) := by omega
        obtain ⟨b9, o9, rv, cv, ha9, _, hb9, hr9, hrow⟩ := (Hm.out.below HB1.out tm).row hlt
        subst ha9
        have HRV := Lib.hid hrow
        have tm0 : tpm ≤ w1.heap.size := Nat.le_trans tm HB1.out.size
        have h9r : b9 < w1.heap.size := Nat.lt_of_lt_of_le hb9 tm0
        have srow : (rw' m i).length ≤ 1048576 := by
          have h1 := HSM.out
          have h2 := tot_row hlt
          omega
        have HS0 := Lib.hid (And.intro SSr.out.1 (And.intro SSr.out.2 ((HXr.out.cell (p := ⟨b9, o9 + i, none⟩) h9r).trans hr9)))
        obtain ⟨K, hK⟩ : ∃ c, c = codeVs pS S [rw' m i, rw' m i] := ⟨_, rfl⟩
        obtain ⟨N, hN⟩ : ∃ c, c = pairV pS S (rw' m i) (rw' m i) := ⟨_, rfl⟩
        have HNC : Hid (codeVs pS S [rw' m i, rw' m i] = K) := hK.symm
        have HNV : Hid (pairV pS S (rw' m i) (rw' m i) = N) := hN.symm
        have hk1 : (K != K) = false := by simp
        have hn1 : (N != N) = false := by simp
        clear hbel hr9 hrow hK hN
        by_cases hk0 : K = 0
        · by_cases hn0 : N = 0
          · subst hk0 hn0
            have hsa : Hid (wr.drew.cell? ⟨w.heap.size, 0, none⟩ = some (.int .i64 pS) ∧ wr.drew.cell? ⟨w.heap.size, 1, none⟩ = some (.slice aS S.length cS) ∧ wr.drew.cell? ⟨b9, o9 + i, none⟩ = some (.slice rv (rw' m i).length cv)) := HS0
            go_wp2
            go_region_held3 (fun w' => w'.cell? ⟨w.heap.size, 0, none⟩ = some (.int .i64 pS) ∧ w'.cell? ⟨w.heap.size, 1, none⟩ = some (.slice aS S.length cS) ∧ w'.cell? ⟨b9, o9 + i, none⟩ = some (.slice rv (rw' m i).length cv)) (first | exact hsa.out | exact SSa.out | go_keep) ((go_at_call 4; ((with_reducible refine (impl_NormOf pS aS S cS loS tpS rv (rw' m i) cv lom tpm wr.drew (HS.out.below HBr.out.drew tS) (Nat.le_trans tS HBr.out.drew.size) sS (HRV.out.below HXr.out.drew tm0) (Nat.le_trans tm0 HXr.out.drew.size) srow).mono ?_); rintro e wa ⟨rfl, b_⟩; rw [HNV.out, HNC.out]; have SSa := Lib.hid (And.intro ((b_.cell (p := ⟨w.heap.size, 0, none⟩) (Nat.lt_of_lt_of_le hdr HXr.out.drew.size)).trans hsa.out.1) (And.intro ((b_.cell (p := ⟨w.heap.size, 1, none⟩) (Nat.lt_of_lt_of_le hdr HXr.out.drew.size)).trans hsa.out.2.1) ((b_.cell (p := ⟨b9, o9 + i, none⟩) (Nat.lt_of_lt_of_le h9r HXr.out.drew.size)).trans hsa.out.2.2))); have HXa := Lib.hid (below_step HXr.out.drew HXr.out.drew.size b_); have HBa := Lib.hid (below_step HBr.out.drew HBr.out.drew.size b_); clear b_)))
            go_wp2
            have hsb : Hid (wa.drew.cell? ⟨w.heap.size, 0, none⟩ = some (.int .i64 pS) ∧ wa.drew.cell? ⟨w.heap.size, 1, none⟩ = some (.slice aS S.length cS) ∧ wa.drew.cell? ⟨b9, o9 + i, none⟩ = some (.slice rv (rw' m i).length cv)) := SSa.out
            go_region_held3 (fun w' => w'.cell? ⟨w.heap.size, 0, none⟩ = some (.int .i64 pS) ∧ w'.cell? ⟨w.heap.size, 1, none⟩ = some (.slice aS S.length cS) ∧ w'.cell? ⟨b9, o9 + i, none⟩ = some (.slice rv (rw' m i).length cv)) (first | exact hsb.out | exact SSb.out | go_keep) ((go_at_call 5; ((with_reducible refine (spec_NormOf pS aS S cS loS tpS rv (rw' m i) cv lom tpm wa.drew (HS.out.below HBa.out.drew tS) (Nat.le_trans tS HBa.out.drew.size) sS (HRV.out.below HXa.out.drew tm0) (Nat.le_trans tm0 HXa.out.drew.size) srow).mono ?_); rintro e wb ⟨rfl, b_⟩; rw [HNV.out, HNC.out]; have SSb := Lib.hid (And.intro ((b_.cell (p := ⟨w.heap.size, 0, none⟩) (Nat.lt_of_lt_of_le hdr HXa.out.drew.size)).trans hsb.out.1) (And.intro ((b_.cell (p := ⟨w.heap.size, 1, none⟩) (Nat.lt_of_lt_of_le hdr HXa.out.drew.size)).trans hsb.out.2.1) ((b_.cell (p := ⟨b9, o9 + i, none⟩) (Nat.lt_of_lt_of_le h9r HXa.out.drew.size)).trans hsb.out.2.2))); have HXb := Lib.hid (below_step HXa.out.drew HXa.out.drew.size b_); have HBb := Lib.hid (below_step HBa.out.drew HBa.out.drew.size b_); clear b_)))
            go_wp2
            go_ret
            exact ⟨rfl, HBb.out⟩
          · subst hk0
            have hn2 : (N == 0) = false := by simpa using hn0
            have hsa : Hid (wr.drew.cell? ⟨w.heap.size, 0, none⟩ = some (.int .i64 pS) ∧ wr.drew.cell? ⟨w.heap.size, 1, none⟩ = some (.slice aS S.length cS) ∧ wr.drew.cell? ⟨b9, o9 + i, none⟩ = some (.slice rv (rw' m i).length cv)) := HS0
            go_wp2
            go_region_held3 (fun w' => w'.cell? ⟨w.heap.size, 0, none⟩ = some (.int .i64 pS) ∧ w'.cell? ⟨w.heap.size, 1, none⟩ = some (.slice aS S.length cS) ∧ w'.cell? ⟨b9, o9 + i, none⟩ = some (.slice rv (rw' m i).length cv)) (first | exact hsa.out | exact SSa.out | go_keep) ((go_at_call 4; ((with_reducible refine (impl_NormOf pS aS S cS loS tpS rv (rw' m i) cv lom tpm wr.drew (HS.out.below HBr.out.drew tS) (Nat.le_trans tS HBr.out.drew.size) sS (HRV.out.below HXr.out.drew tm0) (Nat.le_trans tm0 HXr.out.drew.size) srow).mono ?_); rintro e wa ⟨rfl, b_⟩; rw [HNV.out, HNC.out]; have SSa := Lib.hid (And.intro ((b_.cell (p := ⟨w.heap.size, 0, none⟩) (Nat.lt_of_lt_of_le hdr HXr.out.drew.size)).trans hsa.out.1) (And.intro ((b_.cell (p := ⟨w.heap.size, 1, none⟩) (Nat.lt_of_lt_of_le hdr HXr.out.drew.size)).trans hsa.out.2.1) ((b_.cell (p := ⟨b9, o9 + i, none⟩) (Nat.lt_of_lt_of_le h9r HXr.out.drew.size)).trans hsa.out.2.2))); have HXa := Lib.hid (below_step HXr.out.drew HXr.out.drew.size b_); have HBa := Lib.hid (below_step HBr.out.drew HBr.out.drew.size b_); clear b_)))
            go_wp2
            have hsb : Hid (wa.drew.cell? ⟨w.heap.size, 0, none⟩ = some (.int .i64 pS) ∧ wa.drew.cell? ⟨w.heap.size, 1, none⟩ = some (.slice aS S.length cS) ∧ wa.drew.cell? ⟨b9, o9 + i, none⟩ = some (.slice rv (rw' m i).length cv)) := SSa.out
            go_region_held3 (fun w' => w'.cell? ⟨w.heap.size, 0, none⟩ = some (.int .i64 pS) ∧ w'.cell? ⟨w.heap.size, 1, none⟩ = some (.slice aS S.length cS) ∧ w'.cell? ⟨b9, o9 + i, none⟩ = some (.slice rv (rw' m i).length cv)) (first | exact hsb.out | exact SSb.out | go_keep) ((go_at_call 5; ((with_reducible refine (spec_NormOf pS aS S cS loS tpS rv (rw' m i) cv lom tpm wa.drew (HS.out.below HBa.out.drew tS) (Nat.le_trans tS HBa.out.drew.size) sS (HRV.out.below HXa.out.drew tm0) (Nat.le_trans tm0 HXa.out.drew.size) srow).mono ?_); rintro e wb ⟨rfl, b_⟩; rw [HNV.out, HNC.out]; have SSb := Lib.hid (And.intro ((b_.cell (p := ⟨w.heap.size, 0, none⟩) (Nat.lt_of_lt_of_le hdr HXa.out.drew.size)).trans hsb.out.1) (And.intro ((b_.cell (p := ⟨w.heap.size, 1, none⟩) (Nat.lt_of_lt_of_le hdr HXa.out.drew.size)).trans hsb.out.2.1) ((b_.cell (p := ⟨b9, o9 + i, none⟩) (Nat.lt_of_lt_of_le h9r HXa.out.drew.size)).trans hsb.out.2.2))); have HXb := Lib.hid (below_step HXa.out.drew HXa.out.drew.size b_); have HBb := Lib.hid (below_step HBa.out.drew HBa.out.drew.size b_); clear b_)))
            go_wp2
            go_roundw
            case rel => exact ⟨i + 1, by omega, by go_num, HXb.out⟩
            case measure => simp [intOf]; omega
        · have hk2 : (K != 0) = true := by simpa using hk0
          have hsa : Hid (wr.drew.cell? ⟨w.heap.size, 0, none⟩ = some (.int .i64 pS) ∧ wr.drew.cell? ⟨w.heap.size, 1, none⟩ = some (.slice aS S.length cS) ∧ wr.drew.cell? ⟨b9, o9 + i, none⟩ = some (.slice rv (rw' m i).length cv)) := HS0
          go_wp2
          go_region_held3 (fun w' => w'.cell? ⟨w.heap.size, 0, none⟩ = some (.int .i64 pS) ∧ w'.cell? ⟨w.heap.size, 1, none⟩ = some (.slice aS S.length cS) ∧ w'.cell? ⟨b9, o9 + i, none⟩ = some (.slice rv (rw' m i).length cv)) (first | exact hsa.out | exact SSa.out | go_keep) ((go_at_call 4; ((with_reducible refine (impl_NormOf pS aS S cS loS tpS rv (rw' m i) cv lom tpm wr.drew (HS.out.below HBr.out.drew tS) (Nat.le_trans tS HBr.out.drew.size) sS (HRV.out.below HXr.out.drew tm0) (Nat.le_trans tm0 HXr.out.drew.size) srow).mono ?_); rintro e wa ⟨rfl, b_⟩; rw [HNV.out, HNC.out]; have SSa := Lib.hid (And.intro ((b_.cell (p := ⟨w.heap.size, 0, none⟩) (Nat.lt_of_lt_of_le hdr HXr.out.drew.size)).trans hsa.out.1) (And.intro ((b_.cell (p := ⟨w.heap.size, 1, none⟩) (Nat.lt_of_lt_of_le hdr HXr.out.drew.size)).trans hsa.out.2.1) ((b_.cell (p := ⟨b9, o9 + i, none⟩) (Nat.lt_of_lt_of_le h9r HXr.out.drew.size)).trans hsa.out.2.2))); have HXa := Lib.hid (below_step HXr.out.drew HXr.out.drew.size b_); have HBa := Lib.hid (below_step HBr.out.drew HBr.out.drew.size b_); clear b_)))
          go_wp2
          have hsb : Hid (wa.drew.cell? ⟨w.heap.size, 0, none⟩ = some (.int .i64 pS) ∧ wa.drew.cell? ⟨w.heap.size, 1, none⟩ = some (.slice aS S.length cS) ∧ wa.drew.cell? ⟨b9, o9 + i, none⟩ = some (.slice rv (rw' m i).length cv)) := SSa.out
          go_region_held3 (fun w' => w'.cell? ⟨w.heap.size, 0, none⟩ = some (.int .i64 pS) ∧ w'.cell? ⟨w.heap.size, 1, none⟩ = some (.slice aS S.length cS) ∧ w'.cell? ⟨b9, o9 + i, none⟩ = some (.slice rv (rw' m i).length cv)) (first | exact hsb.out | exact SSb.out | go_keep) ((go_at_call 5; ((with_reducible refine (spec_NormOf pS aS S cS loS tpS rv (rw' m i) cv lom tpm wa.drew (HS.out.below HBa.out.drew tS) (Nat.le_trans tS HBa.out.drew.size) sS (HRV.out.below HXa.out.drew tm0) (Nat.le_trans tm0 HXa.out.drew.size) srow).mono ?_); rintro e wb ⟨rfl, b_⟩; rw [HNV.out, HNC.out]; have SSb := Lib.hid (And.intro ((b_.cell (p := ⟨w.heap.size, 0, none⟩) (Nat.lt_of_lt_of_le hdr HXa.out.drew.size)).trans hsb.out.1) (And.intro ((b_.cell (p := ⟨w.heap.size, 1, none⟩) (Nat.lt_of_lt_of_le hdr HXa.out.drew.size)).trans hsb.out.2.1) ((b_.cell (p := ⟨b9, o9 + i, none⟩) (Nat.lt_of_lt_of_le h9r HXa.out.drew.size)).trans hsb.out.2.2))); have HXb := Lib.hid (below_step HXa.out.drew HXa.out.drew.size b_); have HBb := Lib.hid (below_step HBa.out.drew HBa.out.drew.size b_); clear b_)))
          go_wp2
          go_ret
          exact ⟨rfl, HBb.out⟩
      · have hi2 : ¬ (i : Int) < (m.length : Int) := by omega
        clear hbel hi
        obtain ⟨k0, k1⟩ := SSr.out
        have hdR : w.heap.size < wr.heap.size := Nat.lt_of_lt_of_le hd1 HXr.out.size
        obtain ⟨Z, hZ⟩ : ∃ z, z = voV pS S m := ⟨_, rfl⟩
        have HVV : Hid (voV pS S m = Z) := hZ.symm
        have sZ : Z.length ≤ 1048576 := by rw [hZ]; exact voV_size _ _ _
        by_cases hv0 : voC pS S m = 0
        · obtain ⟨x, Y, M, c, he⟩ := ev_main hv0
          have hxz : Z = x := by rw [hZ]; exact he.vo
          subst hxz
          have HE := Lib.hid he
          have HVC : Hid (voC pS S m = 0) := hv0
          have hylz : Y.length = Z.length := he.len
          have hyl2 : ((Y.length : Int) != (Z.length : Int)) = false := by rw [hylz]; simp
          have HYL := Lib.hid hylz
          have sY0 : Y.length ≤ 1048576 := by rw [hylz]; exact sZ
          clear hv0 hZ he hylz
          go_wp2_with (first | (go_at_call 6; ((with_reducible refine (impl_VersorOf pS aS S cS loS tpS am m cm lom tpm wr (HS.out.below HBr.out tS) (Nat.le_trans tS HBr.out.size) sS (Hm.out.below HBr.out tm) (Nat.le_trans tm HBr.out.size) HSM.out).mono ?_); rintro e w2 ⟨rz, cz, rfl, o_, b_⟩; rw [HVV.out] at o_; rw [HVV.out, HVC.out]; have SS2 := Lib.hid (ss2 b_ hdR SSr.out); have HB2 := Lib.hid (below_step HBr.out HBr.out.size b_); have hd2 := Nat.lt_of_lt_of_le hdR b_.size; have Rz2 := Lib.hid o_.row; have zRz2 := Nat.le_refl w2.heap.size; clear o_; clear k0 k1; obtain ⟨k0, k1⟩ := SS2.out; clear b_)) | (go_at_call 7; ((with_reducible refine (spec_VersorOf pS aS S cS loS tpS am m cm lom tpm w2 (HS.out.below HB2.out tS) (Nat.le_trans tS HB2.out.size) sS (Hm.out.below HB2.out tm) (Nat.le_trans tm HB2.out.size) HSM.out).mono ?_); rintro e w3 ⟨rs, cs, rfl, o_, b_⟩; rw [HVV.out] at o_; rw [HVV.out, HVC.out]; have SS3 := Lib.hid (ss2 b_ hd2 SS2.out); have HB3 := Lib.hid (below_step HB2.out HB2.out.size b_); have hd3 := Nat.lt_of_lt_of_le hd2 b_.size; have Rz3 := Lib.hid (Rz2.out.below b_ zRz2); have zRz3 := Nat.le_trans zRz2 b_.size; have Rs3 := Lib.hid o_; have zRs3 := Nat.le_refl w3.heap.size; clear o_; clear k0 k1; obtain ⟨k0, k1⟩ := SS3.out; clear b_)) | (go_at_call 8; ((with_reducible refine (likeInts_same rz rs Z cz cs wr.heap.size w2.heap.size w2.heap.size w3.heap.size w3 Rz3.out Rs3.out sZ).mono ?_); rintro e w4 ⟨rfl, q_⟩; have b_ : Below w3.heap.size w3 w4 := q_.below _; clear q_; have SS4 := Lib.hid (ss2 b_ hd3 SS3.out); have HB4 := Lib.hid (below_step HB3.out HB3.out.size b_); have hd4 := Nat.lt_of_lt_of_le hd3 b_.size; have Rz4 := Lib.hid (Rz3.out.below b_ zRz3); have zRz4 := Nat.le_trans zRz3 b_.size; have Rs4 := Lib.hid (Rs3.out.below b_ zRs3); have zRs4 := Nat.le_trans zRs3 b_.size; clear k0 k1; obtain ⟨k0, k1⟩ := SS4.out; clear b_)) | (go_at_call 9; ((with_reducible refine (impl_MatrixOfVersor pS aS S cS loS tpS rz Z cz wr.heap.size w2.heap.size w4 (HS.out.below HB4.out tS) (Nat.le_trans tS HB4.out.size) sS Rz4.out zRz4 sZ).mono ?_); rintro e w5 ⟨rb, cb, rfl, o_, b_⟩; rw [HE.out.mv] at o_; rw [HE.out.mv, HE.out.vr]; have SS5 := Lib.hid (ss2 b_ hd4 SS4.out); have HB5 := Lib.hid (below_step HB4.out HB4.out.size b_); have hd5 := Nat.lt_of_lt_of_le hd4 b_.size; have Rz5 := Lib.hid (Rz4.out.below b_ zRz4); have zRz5 := Nat.le_trans zRz4 b_.size; have Rs5 := Lib.hid (Rs4.out.below b_ zRs4); have zRs5 := Nat.le_trans zRs4 b_.size; have Rb5 := Lib.hid o_.mat; have zRb5 := Nat.le_refl w5.heap.size; clear o_; clear k0 k1; obtain ⟨k0, k1⟩ := SS5.out; clear b_)) | (go_at_call 10; ((with_reducible refine (impl_IsOrthogonal pS aS S cS loS tpS rb M cb w4.heap.size w5.heap.size w5 (HS.out.below HB5.out tS) (Nat.le_trans tS HB5.out.size) sS Rb5.out zRb5 HE.out.szm).mono ?_); rintro e w6 ⟨rfl, b_⟩; rw [HE.out.ort, HE.out.rg]; have SS6 := Lib.hid (ss2 b_ hd5 SS5.out); have HB6 := Lib.hid (below_step HB5.out HB5.out.size b_); have hd6 := Nat.lt_of_lt_of_le hd5 b_.size; have Rz6 := Lib.hid (Rz5.out.below b_ zRz5); have zRz6 := Nat.le_trans zRz5 b_.size; have Rs6 := Lib.hid (Rs5.out.below b_ zRs5); have zRs6 := Nat.le_trans zRs5 b_.size; have Rb6 := Lib.hid (Rb5.out.below b_ zRb5); have zRb6 := Nat.le_trans zRb5 b_.size; clear k0 k1; obtain ⟨k0, k1⟩ := SS6.out; clear b_)) | (go_at_call 11; ((with_reducible refine (impl_VersorOfMatrix pS aS S cS loS tpS rb M cb w4.heap.size w5.heap.size w6 (HS.out.below HB6.out tS) (Nat.le_trans tS HB6.out.size) sS Rb6.out zRb6 HE.out.szm).mono ?_); rintro e w7 ⟨ry, cy, rfl, o_, b_⟩; rw [HE.out.vm] at o_; rw [HE.out.vm, HE.out.co]; have SS7 := Lib.hid (ss2 b_ hd6 SS6.out); have HB7 := Lib.hid (below_step HB6.out HB6.out.size b_); have hd7 := Nat.lt_of_lt_of_le hd6 b_.size; have Rz7 := Lib.hid (Rz6.out.below b_ zRz6); have zRz7 := Nat.le_trans zRz6 b_.size; have Rs7 := Lib.hid (Rs6.out.below b_ zRs6); have zRs7 := Nat.le_trans zRs6 b_.size; have Rb7 := Lib.hid (Rb6.out.below b_ zRb6); have zRb7 := Nat.le_trans zRb6 b_.size; have Ry7 := Lib.hid o_.row; have zRy7 := Nat.le_refl w7.heap.size; clear o_; clear k0 k1; obtain ⟨k0, k1⟩ := SS7.out; clear b_)))
          have hry := Ry7.out
          have hrz := Rz7.out
          obtain ⟨j0, hj0, hj1⟩ := HE.out.some
          rcases hry with hry | ⟨by_, oy, rfl, ly, uy, hcy⟩
          · rw [hry] at hj0; simp at hj0
          rcases hrz with hrz | ⟨bz, oz, rfl, lz, uz, hcz⟩
          · have := HYL.out; rw [hrz] at this; simp at this; rw [this] at hj0; simp at hj0
          have HCY := Lib.hid hcy
          have HCZ := Lib.hid hcz
          have HJ := Lib.hid (And.intro hj0 hj1)
          clear hcy hcz hj0 hj1
          go_loopw [20] (fun t wx => ∃ a : Nat, a ≤ Y.length ∧ t = .int .i64 a ∧ (∀ j, j < a → Y.getD j 0 = 0) ∧ Below w7.heap.size w7 wx) (fun t _ => Y.length - (intOf t).toNat)
          case atStart => exact ⟨0, Nat.zero_le _, rfl, fun j hj => absurd hj (Nat.not_lt_zero _), Below.refl _ _⟩
          case round =>
            rename World => wx
            obtain ⟨a, ha, rfl, hzz, hbx⟩ := hrel
            have HBX := Lib.hid hbx
            have HBk : Hid (Below w.heap.size w wx) := below_step HB7.out HB7.out.size hbx
            have SSx := Lib.hid (ss2 hbx hd7 SS7.out)
            have hdx := Nat.lt_of_lt_of_le hd7 hbx.size
            clear k0 k1
            by_cases hlt2 : a < Y.length
            · have ha1 : (a : Int) < (Y.length : Int) := by omega
              obtain ⟨V, hV⟩ : ∃ v, v = Y.getD a 0 := ⟨_, rfl⟩
              have c0 : wx.cell? ⟨by_, oy + a, none⟩ = some (.int .i64 V) := by rw [hV]; exact (hbx.cell (p := ⟨by_, oy + a, none⟩) (Nat.lt_of_lt_of_le uy zRy7)).trans (HCY.out a hlt2)
              have HVE := Lib.hid hV
              clear hV
              by_cases hv2 : V = 0
              · subst hv2
                go_wp2
                go_roundw
                case rel => exact ⟨a + 1, by omega, by go_num, fun j hj => by
                  by_cases e : j < a
                  · exact hzz j e
                  · rw [show j = a by omega]; exact HVE.out.symm, HBX.out⟩
                case measure => simp [intOf]; omega
              · have hv3 : (V == 0) = false := by simpa using hv2
                have ha3 : ((a : Int) == (Y.length : Int)) = false := by simp; omega
                have hlz : a < Z.length := by rw [← HYL.out]; exact hlt2
                have ha4 : (a : Int) < (Z.length : Int) := by omega
                have HDV := Lib.hid (HE.out.div hlt2 (by rw [← HVE.out]; exact hv2))
                rw [← HVE.out] at HDV
                obtain ⟨X, hX⟩ : ∃ v, v = Z.getD a 0 := ⟨_, rfl⟩
                have c1 : wx.cell? ⟨bz, oz + a, none⟩ = some (.int .i64 X) := by rw [hX]; exact (hbx.cell (p := ⟨bz, oz + a, none⟩) (Nat.lt_of_lt_of_le uz zRz7)).trans (HCZ.out a hlz)
                rw [← hX] at HDV
                have hcn1 : (c != 0) = true := by have := HE.out.cn; simpa using this
                have hs5 : Hid (wx.drew.cell? ⟨w.heap.size, 0, none⟩ = some (.int .i64 pS) ∧ wx.drew.cell? ⟨bz, oz + a, none⟩ = some (.int .i64 X) ∧ wx.drew.cell? ⟨by_, oy + a, none⟩ = some (.int .i64 V)) := ⟨SSx.out.1, c1, c0⟩
                have HRY : Hid (RowIn w6.heap.size w7.heap.size w7 (some ⟨by_, oy, none⟩) Y) := Ry7.out
                have HRZ : Hid (RowIn wr.heap.size w2.heap.size w7 (some ⟨bz, oz, none⟩) Z) := Rz7.out
                have hyx : w7.heap.size ≤ wx.heap.size := Nat.le_trans zRy7 hbx.size
                have hzx : w2.heap.size ≤ wx.heap.size := Nat.le_trans zRz7 hbx.size
                have sY : Y.length ≤ 1048576 := by rw [HYL.out]; exact sZ
                clear hX hbx c1
                obtain ⟨k0, k1⟩ := SSx.out
                go_wp2

                go_region_held3 (fun w' => w'.cell? ⟨w.heap.size, 0, none⟩ = some (.int .i64 pS) ∧ w'.cell? ⟨bz, oz + a, none⟩ = some (.int .i64 X) ∧ w'.cell? ⟨by_, oy + a, none⟩ = some (.int .i64 V)) (first | exact hs5.out | exact SSd.out | go_keep) ((go_at_call 12; ((with_reducible refine (divideNumbers_impl pS X V wx.drew).mono ?_); rintro e wd ⟨rfl, b_⟩; rw [HDV.out.1, HDV.out.2]; have SSd := Lib.hid (And.intro ((b_.cell (p := ⟨w.heap.size, 0, none⟩) hdx).trans hs5.out.1) (And.intro ((b_.cell (p := ⟨bz, oz + a, none⟩) (Nat.lt_of_lt_of_le uz hzx)).trans hs5.out.2.1) ((b_.cell (p := ⟨by_, oy + a, none⟩) (Nat.lt_of_lt_of_le uy hyx)).trans hs5.out.2.2))); have HXd := Lib.hid (below_step HBX.out.drew HBX.out.drew.size b_); have SSe := Lib.hid (ss2 b_ (show w.heap.size < wx.drew.heap.size from hdx) (show wx.drew.cell? ⟨w.heap.size, 0, none⟩ = some (.int .i64 pS) ∧ wx.drew.cell? ⟨w.heap.size, 1, none⟩ = some (.slice aS S.length cS) from SSx.out)); have hde := Nat.lt_of_lt_of_le hdx b_.size; have HBd := Lib.hid (below_step HBk.out.drew HBk.out.drew.size b_); clear b_)))
                clear k0 k1
                obtain ⟨k0, k1⟩ := SSe.out
                go_wp2_with (first | (go_at_call 13; ((with_reducible refine (impl_ScaleMultivector pS aS S cS loS tpS (some ⟨by_, oy, none⟩) Y cy w6.heap.size w7.heap.size c wd (HS.out.below HBd.out tS) (Nat.le_trans tS HBd.out.size) sS (HRY.out.below HXd.out zRy7) (Nat.le_trans zRy7 HXd.out.size) sY).mono ?_); rintro e we ⟨rq, cq, rfl, o_, b_⟩; rw [HE.out.sc.2] at o_; rw [HE.out.sc.1, HE.out.sc.2]; have HQ := Lib.hid o_.row; have HZe := Lib.hid (b_.size); have HXe := Lib.hid (below_step HXd.out HXd.out.size b_); have HBe := Lib.hid (below_step HBd.out HBd.out.size b_); clear o_ b_)) | (go_at_call 8; ((with_reducible refine (likeInts_same rq (some ⟨bz, oz, none⟩) Z cq cz wd.heap.size we.heap.size wr.heap.size w2.heap.size we HQ.out (HRZ.out.below HXe.out zRz7) sZ).mono ?_); rintro e wf ⟨rfl, q_⟩; have HBf := Lib.hid (below_step HBe.out HBe.out.size (q_.below we.heap.size)); clear q_)))
                go_ret
                exact ⟨rfl, HBf.out⟩
            · exact absurd (hzz j0 (by have := HJ.out.1; omega)) HJ.out.2
        · obtain ⟨C, hC⟩ : ∃ c, c = voC pS S m := ⟨_, rfl⟩
          have HVC : Hid (voC pS S m = C) := hC.symm
          have hc0 : (C != 0) = true := by rw [hC]; simpa using hv0
          have hc1 : (C != C) = false := by simp
          clear hv0 hC hZ
          go_wp2_with (first | (go_at_call 6; ((with_reducible refine (impl_VersorOf pS aS S cS loS tpS am m cm lom tpm wr (HS.out.below HBr.out tS) (Nat.le_trans tS HBr.out.size) sS (Hm.out.below HBr.out tm) (Nat.le_trans tm HBr.out.size) HSM.out).mono ?_); rintro e w2 ⟨rz, cz, rfl, o_, b_⟩; rw [HVV.out] at o_; rw [HVV.out, HVC.out]; have SS2 := Lib.hid (ss2 b_ hdR SSr.out); have HB2 := Lib.hid (below_step HBr.out HBr.out.size b_); have hd2 := Nat.lt_of_lt_of_le hdR b_.size; have Rz2 := Lib.hid o_.row; have zRz2 := Nat.le_refl w2.heap.size; clear o_; clear k0 k1; obtain ⟨k0, k1⟩ := SS2.out; clear b_)) | (go_at_call 7; ((with_reducible refine (spec_VersorOf pS aS S cS loS tpS am m cm lom tpm w2 (HS.out.below HB2.out tS) (Nat.le_trans tS HB2.out.size) sS (Hm.out.below HB2.out tm) (Nat.le_trans tm HB2.out.size) HSM.out).mono ?_); rintro e w3 ⟨rs, cs, rfl, o_, b_⟩; rw [HVV.out] at o_; rw [HVV.out, HVC.out]; have SS3 := Lib.hid (ss2 b_ hd2 SS2.out); have HB3 := Lib.hid (below_step HB2.out HB2.out.size b_); have hd3 := Nat.lt_of_lt_of_le hd2 b_.size; have Rz3 := Lib.hid (Rz2.out.below b_ zRz2); have zRz3 := Nat.le_trans zRz2 b_.size; have Rs3 := Lib.hid o_; have zRs3 := Nat.le_refl w3.heap.size; clear o_; clear k0 k1; obtain ⟨k0, k1⟩ := SS3.out; clear b_)) | (go_at_call 8; ((with_reducible refine (likeInts_same rz rs Z cz cs wr.heap.size w2.heap.size w2.heap.size w3.heap.size w3 Rz3.out Rs3.out sZ).mono ?_); rintro e w4 ⟨rfl, q_⟩; have b_ : Below w3.heap.size w3 w4 := q_.below _; clear q_; have SS4 := Lib.hid (ss2 b_ hd3 SS3.out); have HB4 := Lib.hid (below_step HB3.out HB3.out.size b_); have hd4 := Nat.lt_of_lt_of_le hd3 b_.size; have Rz4 := Lib.hid (Rz3.out.below b_ zRz3); have zRz4 := Nat.le_trans zRz3 b_.size; have Rs4 := Lib.hid (Rs3.out.below b_ zRs3); have zRs4 := Nat.le_trans zRs3 b_.size; clear k0 k1; obtain ⟨k0, k1⟩ := SS4.out; clear b_)) | (go_at_call 9; ((with_reducible refine (impl_MatrixOfVersor pS aS S cS loS tpS rz Z cz wr.heap.size w2.heap.size w4 (HS.out.below HB4.out tS) (Nat.le_trans tS HB4.out.size) sS Rz4.out zRz4 sZ).mono ?_); rintro e w5 ⟨rb, cb, rfl, o_, b_⟩; have SS5 := Lib.hid (ss2 b_ hd4 SS4.out); have HB5 := Lib.hid (below_step HB4.out HB4.out.size b_); have hd5 := Nat.lt_of_lt_of_le hd4 b_.size; have Rz5 := Lib.hid (Rz4.out.below b_ zRz4); have zRz5 := Nat.le_trans zRz4 b_.size; have Rs5 := Lib.hid (Rs4.out.below b_ zRs4); have zRs5 := Nat.le_trans zRs4 b_.size; have Rb5 := Lib.hid o_.mat; have zRb5 := Nat.le_refl w5.heap.size; clear o_; clear k0 k1; obtain ⟨k0, k1⟩ := SS5.out; clear b_)))
          go_ret
          exact ⟨rfl, HB5.out⟩
  · have hl1 : (65536 : Int) < (m.length : Int) := by omega
    go_enter Tryz.func3, Tryz.ntmps3
    go_upto_region 1 with fail
    obtain ⟨w1, hw1⟩ : ∃ z, z = w.alloc (.cells #[.int .i64 pS, .slice aS S.length cS] 24) := ⟨_, rfl⟩
    rw [← hw1] at HB0 k0 k1 ⊢
    have hd1 : w.heap.size < w1.heap.size := by rw [hw1]; simp
    have HB1 := HB0
    clear hw1
    have SS1 := Lib.hid (And.intro k0 k1)
    go_wp2
    go_ret
    exact ⟨rfl, HB1.out⟩

/-- A list, a matrix of known size. -/
def IsLstU (w : World) (a : Option Addr) (len : Nat) : Prop := ∃ zs : List Int, len = zs.length ∧ RowIn 0 w.heap.size w a zs ∧ zs.length ≤ 1048576
def IsMatU (w : World) (a : Option Addr) (len : Nat) : Prop := ∃ m : List (List Int), len = m.length ∧ MatIn 0 w.heap.size w a m ∧ m.length + tot m m.length ≤ 1048576
theorem isLstU {w : World} {a : Option Addr} {len : Nat} (h : IsLst w a len) (hb : len ≤ 1048576) : IsLstU w a len := by
  obtain ⟨z, hz, hr, _⟩ := h
  exact ⟨z, hz.symm, hr, by omega⟩
theorem isMatU_nil (w : World) : IsMatU w none 0 := ⟨[], rfl, .inl rfl, by simp [tot]⟩
theorem isMatU_of {w : World} {x : Addr} {len cap : Nat} {A : Nat → Option Addr} {L C : Nat → Nat} {Z : Nat → List Int} (hl : len ≤ cap) (hm : cap ≤ maxLen)
    (h : ∀ r, r < cap → w.cell? (x.add r) = some (.slice (A r) (L r) (C r)) ∧ L r ≤ C r ∧ C r ≤ maxLen ∧ (Z r).length = C r ∧ (∀ n ∈ Z r, (Lit.int .i64 n).wf = true) ∧ (A r = none → C r = 0) ∧
        ∀ a', A r = some a' → 0 ≤ a'.block ∧ ∀ c, c < C r → w.cell? (a'.add c) = some (.int .i64 ((Z r).getD c 0))) (hb : ∀ m : List (List Int), (∀ i, i < len → (rw' m i).length = L i) → len + tot m len ≤ 1048576) : IsMatU w (some x) len := by
  unfold maxLen at hm
  refine ⟨(List.range len).map fun r => (Z r).take (L r), by simp, ?_, ?_⟩
  · by_cases h0 : len = 0
    · subst h0; exact .inl rfl
    · obtain ⟨b, o, rfl, hc⟩ := slice_at (n := cap) (v := fun r => .slice (A r) (L r) (C r)) (by omega) (fun r hr => (h r hr).1)
      have hlt : b < w.heap.size := World.block_lt_of_cell? w ⟨b, o + 0, none⟩ (hc 0 (by omega))
      refine .inr ⟨b, o, rfl, Nat.zero_le _, hlt, fun i hi => ?_⟩
      simp only [List.length_map, List.length_range] at hi
      obtain ⟨_, r1, r2, r3, _, r5, r6⟩ := h i (by omega)
      have e : rw' ((List.range len).map fun r => (Z r).take (L r)) i = (Z i).take (L i) := by simp [rw', List.getD, hi]
      rw [e]
      have e2 : ((Z i).take (L i)).length = L i := by simp; omega
      rw [e2]
      refine ⟨A i, C i, hc i (by omega), ?_⟩
      cases hA : A i with
      | none =>
        have := r5 hA
        have h0 : L i = 0 := by omega
        exact .inl (by rw [h0]; rfl)
      | some a' => exact row_of (by omega) (fun c hc' => (r6 a' hA).2 c (by omega))
  · have hl2 : ((List.range len).map fun r => (Z r).take (L r)).length = len := by simp
    rw [hl2]
    refine hb _ fun i hi => ?_
    obtain ⟨_, r1, r2, r3, _⟩ := h i (by omega)
    have e : rw' ((List.range len).map fun r => (Z r).take (L r)) i = (Z i).take (L i) := by simp [rw', List.getD, hi]
    rw [e]; simp; omega
theorem law_EveryVersor_all (pS : Int) (aS : Option Addr) (lenS cS : Nat) (am : Option Addr) (lenm cm : Nat) (w : World) (hS : IsLstU w aS lenS) (hm : IsMatU w am lenm) :
    Calls Tryz.prog 3 #[.agg #[.int .i64 pS, .slice aS lenS cS], .slice am lenm cm] w fun e w' => e = .returned (.bool true) ∧ Below w.heap.size w w' := by
  obtain ⟨S, rfl, hS, lS⟩ := hS
  obtain ⟨m, rfl, hm, lm⟩ := hm
  exact law_EveryVersor pS aS S cS 0 w.heap.size am m cm 0 w.heap.size w hS (Nat.le_refl _) lS hm (Nat.le_refl _) lm

end Go.Proofs.YthbkfpkeofpocaaGreat
