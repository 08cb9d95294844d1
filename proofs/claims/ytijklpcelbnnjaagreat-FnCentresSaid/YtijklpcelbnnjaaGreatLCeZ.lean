/-
  The walk of the law on centres: FnCentres.
  Conditions: the code is nil or a row of known bytes.
-/
import Derived.Test.YtijklpcelbnnjaaGreatQk7
import Derived.Test.YtijklpcelbnnjaaGreatQk37
import Derived.Test.YtijklpcelbnnjaaGreatQk38
import Derived.Test.YtijklpcelbnnjaaGreatQk41
import Derived.Test.YtijklpcelbnnjaaGreatDrCZ
import Derived.Test.YtijklpcelbnnjaaGreatQk42
import Derived.Test.YtijklpcelbnnjaaGreatQk43
import Derived.Deep.RegionHeld3
import Derived.Deep.DeepCutAuto
namespace Go.Proofs.YtijklpcelbnnjaaGreat
open Go.RowKit
set_option linter.unusedVariables false

theorem MatIn.only9 {lo tp k : Nat} {w w' : World} {r : Option Addr} {m : List (List Int)} (h : MatIn lo tp w r m) (ho : Only k w w') (hk : k < lo ∨ tp ≤ k) (ht : tp ≤ w.heap.size) : MatIn lo tp w' r m := h.onlyC ho hk ht
theorem mv_sz {p : Int} {S x : List Int} (h6 : S.length ≤ 6) (hx : isMv p S x = true) : x.length ≤ 1048576 := by
  have := bl_le h6
  rw [Mv.len hx]; omega
theorem stC_ok {p : Int} {S x : List Int} (hs : isSp p S = true) (h4 : S.length ≤ 4) (hx : isMv p S x = true) : stC p S [x] = 0 := by
  unfold stC
  rw [if_pos (codeMv_ok hs (by rw [mv_all1]; exact hx)), if_neg (by omega)]
set_option maxHeartbeats 1000000 in
set_option maxRecDepth 100000 in
theorem roll843_any (a : Option Addr) (len cap : Nat) (zs : List Int) (w : World) (hb : Code8 w a len zs) (hl : len ≤ 4096) :
    Calls Tryz.prog 10 #[.slice a len cap, .int .u64 843] w (Made a len cap zs w) := by
  have HB := Lib.hid hb
  clear hb
  go_enter Tryz.func10, Tryz.ntmps10
  go_wp2
  go_loopw [6] (fun t wr => ∃ i : Nat, i ≤ len ∧ t = .int .i64 i ∧ (∃ h : Int, SrcAt wr w.heap.size a len cap zs 0 h) ∧ Below w.heap.size w wr) (fun t _ => len - (intOf t).toNat)
  case atStart => exact ⟨0, by omega, rfl, ⟨6475083 + (len : Int), by simp, by simp [go_sem], by simp [go_sem], by simp [go_sem], by simp [go_sem], by simp [go_sem], Nat.zero_le _, hl, HB.out.only (Only.refl _ _ |>.alloc _)⟩, by ((repeat' (first | with_reducible exact Below.refl _ _ | (with_reducible refine Below.setCell ?_ ?_ _) | (with_reducible refine Below.alloc ?_ ?_ _) | (with_reducible refine Below.drew ?_))); all_goals (first | (simp; done) | omega | (simp; omega)))⟩
  case round =>
    obtain ⟨i, hi, rfl, ⟨h, s⟩, hbel⟩ := hrel
    have S := Lib.hid s
    obtain ⟨lt, c0, c1, c2, f1, f2, le, sm, by_⟩ := s
    by_cases hlt : i < len
    · rcases by_ with h0 | ⟨xb, xo, rfl, hb, hsz, hc⟩
      · omega
      · obtain ⟨⟨z0, z1⟩, hcell⟩ := hc i hlt
        obtain ⟨z, hz⟩ : ∃ z, z = zs.getD i 0 := ⟨_, rfl⟩
        rw [← hz] at hcell z0 z1
        have hne : ¬ w.heap.size = xb := by omega
        clear hc hz
        go_wp2
        go_region
        go_wp2
        go_roundw
        case rel => exact ⟨i + 1, by omega, by go_num, ⟨_, first_src S.out _⟩, by (have hs_hbel := hbel.size; (repeat' (first | with_reducible exact Below.refl _ _ | (with_reducible refine Below.setCell ?_ ?_ _) | (with_reducible refine Below.alloc ?_ ?_ _) | (with_reducible refine Below.drew ?_) | (with_reducible refine below_step ?_ ?_ hbel))); all_goals (first | (simp; done) | omega | (simp; omega) | (simp at hs_hbel ⊢; omega)))⟩
        case measure => simp [intOf]; omega
    · clear by_
      go_wp2
      go_ret
      exact ⟨rfl, hbel, 0, h, S.out⟩


set_option maxRecDepth 100000 in
set_option maxHeartbeats 16000000 in
theorem law_ce_small (a0 : Option Addr) (len cap : Nat) (zs : List Int) (w0 : World) (hb : Code8 w0 a0 len zs) (hl : len ≤ 4096) :
    Calls Tryz.prog 3 #[.slice a0 len cap] w0 fun e w' => e = .returned (.bool true) ∧ Below w0.heap.size w0 w' := by
  have HC8 := Lib.hid hb
  clear hb
  go_enter Tryz.func3, Tryz.ntmps3
  go_upto_region 4 with (first | (go_at_call 4; refine (big_no a0 len cap _ hl).mono ?_; rintro e w' ⟨rfl, rfl⟩) | (go_at_call 5; (with_reducible refine (drawCB_any a0 len cap zs _ HC8.out hl).mono ?_); rintro e w ⟨pS, aS, S, cS, rfl, hX, hS, hb0⟩; have HS := Lib.hid hS; have HB00 := Lib.hid hb0; have HL := Lib.hid hX; clear hS hb0 hX))
  have tS : w.heap.size ≤ w.heap.size := Nat.le_refl _
  have sS : S.length ≤ 1048576 := by have := HL.out; omega
  obtain ⟨w1, hw1⟩ : ∃ z, z = w.alloc (.cells #[.int .i64 pS, .slice aS S.length cS] 26) := ⟨_, rfl⟩
  have SS1 : Hid (w1.cell? ⟨w.heap.size, 0, none⟩ = some (.int .i64 pS) ∧ w1.cell? ⟨w.heap.size, 1, none⟩ = some (.slice aS S.length cS)) := by show _ ∧ _; rw [hw1]; exact ⟨nw0 w _ _ _, nw1 w _ _ _⟩
  have HB1 : Hid (Below w.heap.size w w1) := by show Below _ _ _; rw [hw1]; exact below_alloc w _
  have hd1 : w.heap.size < w1.heap.size := by rw [hw1]; simp
  have kk0 := SS1.out.1
  have kk1 := SS1.out.2
  rw [← hw1]
  clear hw1
  by_cases h0 : stC pS S [] = 0
  · obtain ⟨z, hz⟩ : ∃ z, z = cbV pS S := ⟨_, rfl⟩
    have EZ : Hid (cbV pS S = z) := hz.symm
    have t_z : z.length + tot z z.length ≤ 1048576 := by rw [hz]; exact cbV_size _ _
    have HC := Lib.hid h0
    have hz3 := stC_zero h0
    have HI := Lib.hid hz3.1
    have H4 := Lib.hid hz3.2.2
    have HP := Lib.hid (isSp_iff.1 hz3.1).prime
    have hpb := prm_bd (isSp_iff.1 hz3.1).prime
    have hp0 : 0 < pS := by omega
    have hp1 : 1 ≤ pS := by omega
    have h6 := (isSp_iff.1 hz3.1).hi
    have hbl := bl_le h6
    have hb0 := bl_pos S
    have hzk : z = kerB pS (ceM pS S) := by rw [hz]; exact cb_val h0
    have HZM : Hid (∀ i, i < z.length → isMv pS S (rw' z i) = true) := fun i hi => by rw [hzk] at hi ⊢; exact (cen_rows hz3.1 hz3.2.2 hi).1
    have HZC : Hid (∀ i, i < z.length → cenV pS S (rw' z i) = true) := fun i hi => by
      rw [hzk] at hi ⊢
      unfold cenV
      rw [if_pos (stC_ok hz3.1 hz3.2.2 (cen_rows hz3.1 hz3.2.2 hi).1)]
      exact cen_yes9 hz3.1 hz3.2.2 hi
    have HZA : Hid (∀ i, i < z.length → ∀ y, prodM pS S (rw' z i) y = prodM pS S y (rw' z i)) := fun i hi y => by rw [hzk] at hi ⊢; exact cen_all9 hz3.1 hz3.2.2 hi y
    have HST : Hid ((srC pS S = 5 ∧ discN pS S = 0) ∨ (srC pS S = 0 ∧ discN pS S ≠ 0)) := srC_two h0
    have HNM : Hid (srC pS S = 0 → sbV pS S * sdV pS S = (z.length : Int) ∧ sbV pS S * srV pS S * srV pS S * sdV pS S = (bl S : Int)) := fun h => by rw [hz]; exact st_nums h0 h
    have hzn : z.length ≤ 1048576 := by omega
    clear h0 hz hzk hz3
    go_upto_region 9 with (first | (go_at_call 6; (with_reducible refine (impl_CentreBasis pS aS S cS w0.heap.size w.heap.size w1 (HS.out.below HB1.out tS) (Nat.le_trans tS (HB1.out).size) sS).mono ?_); rintro e w2 ⟨rz, kz, rfl, o_, b_⟩; have SS2 := Lib.hid (And.intro ((b_.cell (p := ⟨w.heap.size, 0, none⟩) hd1).trans SS1.out.1) ((b_.cell (p := ⟨w.heap.size, 1, none⟩) hd1).trans SS1.out.2)); have HB2 := Lib.hid (below_step HB1.out (Nat.le_of_lt hd1) b_); have zz_ := b_.size; have hd2 := Nat.lt_of_lt_of_le hd1 zz_; rw [EZ.out] at o_; rw [HC.out, EZ.out]; have o_ := o_.mat; have BA_2 := Lib.hid (o_.mono (Nat.le_of_lt hd1) (Nat.le_refl _)); clear o_; have kc2_0 := SS2.out.1; have kc2_1 := SS2.out.2; clear b_) | (go_at_call 7; (with_reducible refine (spec_CentreBasis pS aS S cS w0.heap.size w.heap.size w2 (HS.out.below HB2.out tS) (Nat.le_trans tS (HB2.out).size) sS).mono ?_); rintro e w3 ⟨rwt, kwt, rfl, o_, b_⟩; have SS3 := Lib.hid (And.intro ((b_.cell (p := ⟨w.heap.size, 0, none⟩) hd2).trans SS2.out.1) ((b_.cell (p := ⟨w.heap.size, 1, none⟩) hd2).trans SS2.out.2)); have HB3 := Lib.hid (below_step HB2.out (Nat.le_of_lt hd2) b_); have zz_ := b_.size; have hd3 := Nat.lt_of_lt_of_le hd2 zz_; have BA_3 := Lib.hid ((BA_2.out.below b_ (Nat.le_refl _)).mono (Nat.le_refl _) zz_); rw [EZ.out] at o_; rw [HC.out, EZ.out]; have WT_3 := Lib.hid (o_.mono (Nat.le_of_lt hd2) (Nat.le_refl _)); clear o_; have kc3_0 := SS3.out.1; have kc3_1 := SS3.out.2; clear b_) | (go_at_call 8; (with_reducible refine (likeRows_same rz rwt z kz kwt w.heap.size w3.heap.size w.heap.size w3.heap.size w3 BA_3.out WT_3.out t_z).mono ?_); rintro e w4 ⟨rfl, q_⟩; have b_ := q_.below w3.heap.size; have SS4 := Lib.hid (And.intro ((b_.cell (p := ⟨w.heap.size, 0, none⟩) hd3).trans SS3.out.1) ((b_.cell (p := ⟨w.heap.size, 1, none⟩) hd3).trans SS3.out.2)); have HB4 := Lib.hid (below_step HB3.out (Nat.le_of_lt hd3) b_); have zz_ := b_.size; have hd4 := Nat.lt_of_lt_of_le hd3 zz_; have BA_4 := Lib.hid ((BA_3.out.below b_ (Nat.le_refl _)).mono (Nat.le_refl _) zz_); have WT_4 := Lib.hid ((WT_3.out.below b_ (Nat.le_refl _)).mono (Nat.le_refl _) zz_); have kc4_0 := SS4.out.1; have kc4_1 := SS4.out.2; clear q_; clear b_))
    have SS5 : Hid (w4.drew.cell? ⟨w.heap.size, 0, none⟩ = some (.int .i64 pS) ∧ w4.drew.cell? ⟨w.heap.size, 1, none⟩ = some (.slice aS S.length cS)) := SS4.out
    have HB5 : Hid (Below w.heap.size w w4.drew) := (HB4.out).drew
    have hd5 : w.heap.size < w4.drew.heap.size := hd4
    have BA_5 := Lib.hid ((BA_4.out.below (below_drew w4) (Nat.le_refl _)).mono (Nat.le_refl _) (size_drew w4))
    go_region_held3 (fun w' => w'.cell? ⟨w.heap.size, 0, none⟩ = some (.int .i64 pS) ∧ w'.cell? ⟨w.heap.size, 1, none⟩ = some (.slice aS S.length cS)) (first | exact SS5.out | exact SS6.out | exact SS7.out | exact SS8.out | go_keep) (first | (go_at_call 10; (with_reducible refine (roll843_any a0 len cap zs w4.drew (HC8.out.below (HB00.out.trans (HB5.out.mono HB00.out.size))) hl).mono ?_); rintro e w6 ⟨rfl, b_, s_⟩; have SS6 := Lib.hid (And.intro ((b_.cell (p := ⟨w.heap.size, 0, none⟩) hd5).trans SS5.out.1) ((b_.cell (p := ⟨w.heap.size, 1, none⟩) hd5).trans SS5.out.2)); have HB6 := Lib.hid (below_step HB5.out (Nat.le_of_lt hd5) b_); have zz_ := b_.size; have hd6 := Nat.lt_of_lt_of_le hd5 zz_; have BA_6 := Lib.hid (BA_5.out.below b_ (Nat.le_refl _)); have kc6_0 := SS6.out.1; have kc6_1 := SS6.out.2; have HD : Hid (Src w6 w4.heap.size a0 len cap zs) := s_; clear s_; have hbd : w.heap.size ≤ w4.heap.size := Nat.le_of_lt hd5; have hwbd : w.heap.size ≠ w4.heap.size := Nat.ne_of_lt hd5; have hbdl := HD.out.lt; have hzr : w6.heap.size ≤ w6.heap.size := Nat.le_refl _; clear b_) | (go_at_call 11; (with_reducible refine (size5_any pS aS S cS w6 h6).mono ?_); rintro e w7 ⟨rfl, b_⟩; have SS7 := Lib.hid (And.intro ((b_.cell (p := ⟨w.heap.size, 0, none⟩) hd6).trans SS6.out.1) ((b_.cell (p := ⟨w.heap.size, 1, none⟩) hd6).trans SS6.out.2)); have HB7 := Lib.hid (below_step HB6.out (Nat.le_of_lt hd6) b_); have zz_ := b_.size; have hd7 := Nat.lt_of_lt_of_le hd6 zz_; have BA_7 := Lib.hid (BA_6.out.below b_ (Nat.le_of_lt HD.out.lt)); have hz7 := Nat.le_trans hzr zz_; have HD7 := Lib.hid (HD.out.step b_); have kc7_0 := SS7.out.1; have kc7_1 := SS7.out.2; clear b_) | (go_at_call 9; (with_reducible refine (list5_any pS (bl S) w4.heap.size a0 len cap zs w7 HD7.out (by omega) hp1).mono ?_); rintro e w8 ⟨rum, kum, um, rfl, ⟨hul, hun⟩, o_, on_, s_⟩; have SS8 := Lib.hid (And.intro ((on_.cell (p := ⟨w.heap.size, 0, none⟩) hd7 hwbd).trans SS7.out.1) ((on_.cell (p := ⟨w.heap.size, 1, none⟩) hd7 hwbd).trans SS7.out.2)); have HB8 := Lib.hid ((HB7.out).trans (on_.below hbd (Nat.le_of_lt hd7))); have zz_ := on_.size; have hd8 := Nat.lt_of_lt_of_le hd7 zz_; have BA_8 := Lib.hid (BA_7.out.only9 on_ (.inr (Nat.le_refl _)) (Nat.le_of_lt HD7.out.lt)); have hz8 := Nat.le_trans hz7 zz_; have HD8 := Lib.hid s_; have UM_8 := Lib.hid (o_.mono hz7 (Nat.le_refl _)); clear o_; have kc8_0 := SS8.out.1; have kc8_1 := SS8.out.2; have HUL := Lib.hid hul; have HUN := Lib.hid hun; clear hul hun; clear on_ s_))
    have M_um : Hid (isMv pS S um = true) := isMv_of HUL.out HUN.out
    have s_um := mv_sz h6 M_um.out
    have BAE : Hid (MatIn w.heap.size w8.heap.size w8 rz z) := BA_8.out.mono (Nat.le_refl _) (Nat.le_of_lt HD8.out.lt)
    have UME : Hid (RowIn w.heap.size w8.heap.size w8 rum um) := UM_8.out.mono (Nat.le_trans hbd (Nat.le_of_lt hbdl)) (Nat.le_refl _)
    go_wp2
    go_loopw [9, 10, 11] (fun t _ _ wr => ∃ i : Nat, i ≤ z.length ∧ t = .int .i64 i ∧ (wr.cell? ⟨w.heap.size, 0, none⟩ = some (.int .i64 pS) ∧ wr.cell? ⟨w.heap.size, 1, none⟩ = some (.slice aS S.length cS)) ∧ Below w.heap.size w wr ∧ w.heap.size < wr.heap.size ∧ MatIn w.heap.size wr.heap.size wr rz z ∧ RowIn w.heap.size wr.heap.size wr rum um) (fun t _ _ _ => z.length - (intOf t).toNat)
    case atStart => exact ⟨0, Nat.zero_le _, rfl, SS8.out, HB8.out, hd8, BAE.out, UME.out⟩
    case round =>
      obtain ⟨i, hi, rfl, hss, hbw, hdw, hba, hum⟩ := hrel
      have SSw := Lib.hid hss
      have HBw := Lib.hid hbw
      have BA_w := Lib.hid hba
      have UM_w := Lib.hid hum
      clear hss hbw hba hum BAE UME
      by_cases hlt : i < z.length
      · have hi1 : (i : Int) < (z.length : Int) := by omega
        obtain ⟨b8, o8, ry, cy, ha8, _, hb8, hr8, hrow8⟩ := BA_w.out.row hlt
        subst ha8
        have M0 := Lib.hid (HZM.out i hlt)
        have V0 := Lib.hid (HZC.out i hlt)
        have A0 := Lib.hid (HZA.out i hlt um)
        obtain ⟨zi, hzi⟩ : ∃ v, v = rw' z i := ⟨_, rfl⟩
        rw [← hzi] at hr8 hrow8 M0 V0 A0
        clear hzi
        have M_zi : Hid (isMv pS S zi = true) := M0.out
        have s_zi := mv_sz h6 M0.out
        have C_zi : Hid (stC pS S [zi] = 0) := stC_ok HI.out H4.out M0.out
        have RI_w := Lib.hid hrow8
        have HYC := Lib.hid hr8
        obtain ⟨pv, hpv⟩ : ∃ v, v = prodM pS S zi um := ⟨_, rfl⟩
        have E_a : Hid (prodM pS S zi um = pv) := hpv.symm
        have E_b : Hid (prodM pS S um zi = pv) := A0.out.symm.trans hpv.symm
        have M_pv : Hid (isMv pS S pv = true) := by show _ = _; rw [hpv]; exact prod_mv HI.out _ _
        have s_pv := mv_sz h6 M_pv.out
        clear hpv hr8 hrow8 M0 A0
        have SS101 : Hid (wr.drew.cell? ⟨w.heap.size, 0, none⟩ = some (.int .i64 pS) ∧ wr.drew.cell? ⟨w.heap.size, 1, none⟩ = some (.slice aS S.length cS)) := SSw.out
        have HB101 : Hid (Below w.heap.size w wr.drew) := (HBw.out).drew
        have hd101 : w.heap.size < wr.drew.heap.size := hdw
        have BA_101 := Lib.hid ((BA_w.out.below (below_drew wr) (Nat.le_refl _)).mono (Nat.le_refl _) (size_drew wr))
        have UM_101 := Lib.hid ((UM_w.out.below (below_drew wr) (Nat.le_refl _)).mono (Nat.le_refl _) (size_drew wr))
        have RI_101 := Lib.hid ((RI_w.out.below (below_drew wr) (Nat.le_refl _)).mono (Nat.le_refl _) (size_drew wr))
        have HYC101 : Hid (wr.drew.cell? ⟨b8, o8 + i, none⟩ = some (.slice ry zi.length cy)) := HYC.out
        have hb8101 : b8 < wr.drew.heap.size := hb8
        go_wp2
        go_region_held3 (fun w' => w'.cell? ⟨w.heap.size, 0, none⟩ = some (.int .i64 pS) ∧ w'.cell? ⟨w.heap.size, 1, none⟩ = some (.slice aS S.length cS) ∧ w'.cell? ⟨b8, o8 + i, none⟩ = some (.slice ry zi.length cy)) (first | exact ⟨SS101.out.1, SS101.out.2, HYC101.out⟩ | exact ⟨SS102.out.1, SS102.out.2, HYC102.out⟩ | go_keep) (first | (go_at_call 12; (with_reducible refine (impl_IsCentral pS aS S cS w0.heap.size w.heap.size ry zi cy w.heap.size wr.drew.heap.size wr.drew (HS.out.below HB101.out tS) (Nat.le_trans tS (HB101.out).size) sS RI_101.out (Nat.le_refl _) s_zi).mono ?_); rintro e w102 ⟨rfl, b_⟩; have SS102 := Lib.hid (And.intro ((b_.cell (p := ⟨w.heap.size, 0, none⟩) hd101).trans SS101.out.1) ((b_.cell (p := ⟨w.heap.size, 1, none⟩) hd101).trans SS101.out.2)); have HB102 := Lib.hid (below_step HB101.out (Nat.le_of_lt hd101) b_); have zz_ := b_.size; have hd102 := Nat.lt_of_lt_of_le hd101 zz_; have BA_102 := Lib.hid ((BA_101.out.below b_ (Nat.le_refl _)).mono (Nat.le_refl _) zz_); have UM_102 := Lib.hid ((UM_101.out.below b_ (Nat.le_refl _)).mono (Nat.le_refl _) zz_); have RI_102 := Lib.hid ((RI_101.out.below b_ (Nat.le_refl _)).mono (Nat.le_refl _) zz_); rw [C_zi.out, V0.out]; have kc102_0 := SS102.out.1; have kc102_1 := SS102.out.2; have HYC102 := Lib.hid ((b_.cell (p := ⟨b8, o8 + i, none⟩) hb8101).trans HYC101.out); have hb8102 := Nat.lt_of_lt_of_le hb8101 b_.size; clear b_))
        have SS103 : Hid (w102.drew.cell? ⟨w.heap.size, 0, none⟩ = some (.int .i64 pS) ∧ w102.drew.cell? ⟨w.heap.size, 1, none⟩ = some (.slice aS S.length cS)) := SS102.out
        have HB103 : Hid (Below w.heap.size w w102.drew) := (HB102.out).drew
        have hd103 : w.heap.size < w102.drew.heap.size := hd102
        have BA_103 := Lib.hid ((BA_102.out.below (below_drew w102) (Nat.le_refl _)).mono (Nat.le_refl _) (size_drew w102))
        have UM_103 := Lib.hid ((UM_102.out.below (below_drew w102) (Nat.le_refl _)).mono (Nat.le_refl _) (size_drew w102))
        have RI_103 := Lib.hid ((RI_102.out.below (below_drew w102) (Nat.le_refl _)).mono (Nat.le_refl _) (size_drew w102))
        have HYC103 : Hid (w102.drew.cell? ⟨b8, o8 + i, none⟩ = some (.slice ry zi.length cy)) := HYC102.out
        have hb8103 : b8 < w102.drew.heap.size := hb8102
        go_wp2
        go_region_held3 (fun w' => w'.cell? ⟨w.heap.size, 0, none⟩ = some (.int .i64 pS) ∧ w'.cell? ⟨w.heap.size, 1, none⟩ = some (.slice aS S.length cS) ∧ w'.cell? ⟨b8, o8 + i, none⟩ = some (.slice ry zi.length cy)) (first | exact ⟨SS103.out.1, SS103.out.2, HYC103.out⟩ | exact ⟨SS104.out.1, SS104.out.2, HYC104.out⟩ | exact ⟨SS105.out.1, SS105.out.2, HYC105.out⟩ | exact ⟨SS106.out.1, SS106.out.2, HYC106.out⟩ | go_keep) (first | (go_at_call 14; (with_reducible refine (times5_any pS aS S cS w0.heap.size w.heap.size ry zi cy w.heap.size w102.drew.heap.size rum um kum w.heap.size w102.drew.heap.size w102.drew HI.out (HS.out.below HB103.out tS) (Nat.le_trans tS (HB103.out).size) RI_103.out (Nat.le_refl _) M_zi.out UM_103.out (Nat.le_refl _) M_um.out).mono ?_); rintro e w104 ⟨rp1, kp1, rfl, o_, b_⟩; have SS104 := Lib.hid (And.intro ((b_.cell (p := ⟨w.heap.size, 0, none⟩) hd103).trans SS103.out.1) ((b_.cell (p := ⟨w.heap.size, 1, none⟩) hd103).trans SS103.out.2)); have HB104 := Lib.hid (below_step HB103.out (Nat.le_of_lt hd103) b_); have zz_ := b_.size; have hd104 := Nat.lt_of_lt_of_le hd103 zz_; have BA_104 := Lib.hid ((BA_103.out.below b_ (Nat.le_refl _)).mono (Nat.le_refl _) zz_); have UM_104 := Lib.hid ((UM_103.out.below b_ (Nat.le_refl _)).mono (Nat.le_refl _) zz_); have RI_104 := Lib.hid ((RI_103.out.below b_ (Nat.le_refl _)).mono (Nat.le_refl _) zz_); rw [E_a.out] at o_ ⊢; have P1_104 := Lib.hid (o_.mono (Nat.le_of_lt hd103) (Nat.le_refl _)); clear o_; have kc104_0 := SS104.out.1; have kc104_1 := SS104.out.2; have HYC104 := Lib.hid ((b_.cell (p := ⟨b8, o8 + i, none⟩) hb8103).trans HYC103.out); have hb8104 := Nat.lt_of_lt_of_le hb8103 b_.size; clear b_) | (go_at_call 14; (with_reducible refine (times5_any pS aS S cS w0.heap.size w.heap.size rum um kum w.heap.size w104.heap.size ry zi cy w.heap.size w104.heap.size w104 HI.out (HS.out.below HB104.out tS) (Nat.le_trans tS (HB104.out).size) UM_104.out (Nat.le_refl _) M_um.out RI_104.out (Nat.le_refl _) M_zi.out).mono ?_); rintro e w105 ⟨rp2, kp2, rfl, o_, b_⟩; have SS105 := Lib.hid (And.intro ((b_.cell (p := ⟨w.heap.size, 0, none⟩) hd104).trans SS104.out.1) ((b_.cell (p := ⟨w.heap.size, 1, none⟩) hd104).trans SS104.out.2)); have HB105 := Lib.hid (below_step HB104.out (Nat.le_of_lt hd104) b_); have zz_ := b_.size; have hd105 := Nat.lt_of_lt_of_le hd104 zz_; have BA_105 := Lib.hid ((BA_104.out.below b_ (Nat.le_refl _)).mono (Nat.le_refl _) zz_); have UM_105 := Lib.hid ((UM_104.out.below b_ (Nat.le_refl _)).mono (Nat.le_refl _) zz_); have RI_105 := Lib.hid ((RI_104.out.below b_ (Nat.le_refl _)).mono (Nat.le_refl _) zz_); have P1_105 := Lib.hid ((P1_104.out.below b_ (Nat.le_refl _)).mono (Nat.le_refl _) zz_); rw [E_b.out] at o_ ⊢; have P2_105 := Lib.hid (o_.mono (Nat.le_of_lt hd104) (Nat.le_refl _)); clear o_; have kc105_0 := SS105.out.1; have kc105_1 := SS105.out.2; have HYC105 := Lib.hid ((b_.cell (p := ⟨b8, o8 + i, none⟩) hb8104).trans HYC104.out); have hb8105 := Nat.lt_of_lt_of_le hb8104 b_.size; clear b_) | (go_at_call 13; (with_reducible refine (likeInts_same rp1 rp2 pv kp1 kp2 w.heap.size w105.heap.size w.heap.size w105.heap.size w105 P1_105.out P2_105.out s_pv).mono ?_); rintro e w106 ⟨rfl, q_⟩; have b_ := q_.below w105.heap.size; have SS106 := Lib.hid (And.intro ((b_.cell (p := ⟨w.heap.size, 0, none⟩) hd105).trans SS105.out.1) ((b_.cell (p := ⟨w.heap.size, 1, none⟩) hd105).trans SS105.out.2)); have HB106 := Lib.hid (below_step HB105.out (Nat.le_of_lt hd105) b_); have zz_ := b_.size; have hd106 := Nat.lt_of_lt_of_le hd105 zz_; have BA_106 := Lib.hid ((BA_105.out.below b_ (Nat.le_refl _)).mono (Nat.le_refl _) zz_); have UM_106 := Lib.hid ((UM_105.out.below b_ (Nat.le_refl _)).mono (Nat.le_refl _) zz_); have RI_106 := Lib.hid ((RI_105.out.below b_ (Nat.le_refl _)).mono (Nat.le_refl _) zz_); have P1_106 := Lib.hid ((P1_105.out.below b_ (Nat.le_refl _)).mono (Nat.le_refl _) zz_); have P2_106 := Lib.hid ((P2_105.out.below b_ (Nat.le_refl _)).mono (Nat.le_refl _) zz_); have kc106_0 := SS106.out.1; have kc106_1 := SS106.out.2; clear q_; have HYC106 := Lib.hid ((b_.cell (p := ⟨b8, o8 + i, none⟩) hb8105).trans HYC105.out); have hb8106 := Nat.lt_of_lt_of_le hb8105 b_.size; clear b_))
        go_wp2
        go_roundw
        case rel => exact ⟨i + 1, by omega, by go_num, SS106.out, HB106.out, hd106, BA_106.out, UM_106.out⟩
        case measure => (simp [intOf] <;> omega)
      · have hi1 : ¬ (i : Int) < (z.length : Int) := by omega
        have ka0 := SSw.out.1
        have ka1 := SSw.out.2
        have hrg := st_range (p := pS) (S := S)
        obtain ⟨Bv, hBv⟩ : ∃ v, v = sbV pS S := ⟨_, rfl⟩
        obtain ⟨Rv, hRv⟩ : ∃ v, v = srV pS S := ⟨_, rfl⟩
        obtain ⟨Dv, hDv⟩ : ∃ v, v = sdV pS S := ⟨_, rfl⟩
        have HNE : Hid (srC pS S = 0 → Bv * Dv = (z.length : Int) ∧ Bv * Rv * Rv * Dv = (bl S : Int)) := by show _ → _; rw [hBv, hRv, hDv]; exact HNM.out
        rw [← hBv, ← hRv, ← hDv] at hrg
        have E_B : Hid (sbV pS S = Bv) := hBv.symm
        have E_R : Hid (srV pS S = Rv) := hRv.symm
        have E_D : Hid (sdV pS S = Dv) := hDv.symm
        have hb1 : (Bv != Bv) = false := by simp
        have hb2 : (Rv != Rv) = false := by simp
        have hb3 : (Dv != Dv) = false := by simp
        clear hBv hRv hDv
        rcases HST.out with ⟨hs5, _⟩ | ⟨hs0, _⟩
        · have E_C : Hid (srC pS S = 5) := hs5
          clear hs5
          go_upto_region 23 with (first | (go_at_call 15; (with_reducible refine (impl_StructureOf pS aS S cS w0.heap.size w.heap.size wr (HS.out.below HBw.out tS) (Nat.le_trans tS (HBw.out).size) sS).mono ?_); rintro e w201 ⟨rfl, b_⟩; have SS201 := Lib.hid (And.intro ((b_.cell (p := ⟨w.heap.size, 0, none⟩) hdw).trans SSw.out.1) ((b_.cell (p := ⟨w.heap.size, 1, none⟩) hdw).trans SSw.out.2)); have HB201 := Lib.hid (below_step HBw.out (Nat.le_of_lt hdw) b_); have zz_ := b_.size; have hd201 := Nat.lt_of_lt_of_le hdw zz_; rw [E_B.out, E_R.out, E_D.out, E_C.out]; have kc201_0 := SS201.out.1; have kc201_1 := SS201.out.2; clear b_) | (go_at_call 16; (with_reducible refine (spec_StructureOf pS aS S cS w0.heap.size w.heap.size w201 (HS.out.below HB201.out tS) (Nat.le_trans tS (HB201.out).size) sS).mono ?_); rintro e w202 ⟨rfl, b_⟩; have SS202 := Lib.hid (And.intro ((b_.cell (p := ⟨w.heap.size, 0, none⟩) hd201).trans SS201.out.1) ((b_.cell (p := ⟨w.heap.size, 1, none⟩) hd201).trans SS201.out.2)); have HB202 := Lib.hid (below_step HB201.out (Nat.le_of_lt hd201) b_); have zz_ := b_.size; have hd202 := Nat.lt_of_lt_of_le hd201 zz_; rw [E_B.out, E_R.out, E_D.out, E_C.out]; have kc202_0 := SS202.out.1; have kc202_1 := SS202.out.2; clear b_) | (go_at_call 17; ((with_reducible refine (drawIC_any a0 len cap zs w202 (HC8.out.below (HB00.out.trans (HB202.out.mono HB00.out.size))) hl).mono ?_); rintro e wT ⟨pT, aT, T, cT, aY, Y, cY, rfl, hT, hY, oT, oY, bT⟩; have HT := Lib.hid oT; have HYT := Lib.hid oY; have HTL := Lib.hid (And.intro hT hY); have HBT := Lib.hid (below_step HB202.out (Nat.le_of_lt hd202) bT); have hdT := Nat.lt_of_lt_of_le hd202 bT.size; clear hT hY oT oY bT)))
          obtain ⟨wU, hwU⟩ : ∃ z, z = wT.alloc (.cells #[.int .i64 pT, .slice aT T.length cT] 26) := ⟨_, rfl⟩
          obtain ⟨gT, hgT⟩ : ∃ z, z = wT.heap.size := ⟨_, rfl⟩
          have U0 : Hid (wU.cell? ⟨gT, 0, none⟩ = some (.int .i64 pT) ∧ wU.cell? ⟨gT, 1, none⟩ = some (.slice aT T.length cT)) := by show _ ∧ _; rw [hwU, hgT]; exact ⟨nw0 wT _ _ _, nw1 wT _ _ _⟩
          have HBU : Hid (Below w.heap.size w wU) := by show Below _ _ _; rw [hwU]; exact HBT.out.alloc (Nat.le_of_lt hdT) _
          have HTU : Hid (RowIn w202.heap.size gT wU aT T) := by show RowIn _ _ _ _ _; rw [hwU, hgT]; exact HT.out.below (below_alloc wT _) (Nat.le_refl _)
          have HYU : Hid (RowIn w202.heap.size gT wU aY Y) := by show RowIn _ _ _ _ _; rw [hwU, hgT]; exact HYT.out.below (below_alloc wT _) (Nat.le_refl _)
          have hU : gT < wU.heap.size := by rw [hwU, hgT]; simp
          have hwU2 : w.heap.size < wU.heap.size := by rw [hwU]; exact Nat.lt_of_lt_of_le hdT (size_alloc wT _)
          have sT : T.length ≤ 1048576 := by have := HTL.out.1; omega
          have sY : Y.length ≤ 1048576 := by have := HTL.out.2; omega
          obtain ⟨CT, hCT⟩ : ∃ z, z = stC pT T [Y] := ⟨_, rfl⟩
          have HCT : Hid (stC pT T [Y] = CT) := hCT.symm
          obtain ⟨VT, hVT⟩ : ∃ z, z = cenV pT T Y := ⟨_, rfl⟩
          have HVT : Hid (cenV pT T Y = VT) := hVT.symm
          have hq1 : (CT == CT) = true := by simp
          have hq2 : (VT == VT) = true := by simp
          rw [← hwU, ← hgT]
          clear hwU hgT hCT hVT HBT HT HYT
          have u0 := U0.out.1
          have u1 := U0.out.2
          go_wp2_with (first | (go_at_call 12; ((with_reducible refine (impl_IsCentral pT aT T cT w202.heap.size gT aY Y cY w202.heap.size gT wU HTU.out (Nat.le_of_lt hU) sT HYU.out (Nat.le_of_lt hU) sY).mono ?_); rintro e wV ⟨rfl, bV⟩; rw [HCT.out, HVT.out]; have HBV := Lib.hid (below_step HBU.out (Nat.le_of_lt hwU2) bV); have hV := Nat.lt_of_lt_of_le hU bV.size; have hV2 := Nat.lt_of_lt_of_le hwU2 bV.size; have U1 := Lib.hid (And.intro ((bV.cell (p := ⟨gT, 0, none⟩) hU).trans U0.out.1) ((bV.cell (p := ⟨gT, 1, none⟩) hU).trans U0.out.2)); have HTV := Lib.hid (HTU.out.below bV (Nat.le_of_lt hU)); have HYV := Lib.hid (HYU.out.below bV (Nat.le_of_lt hU)); clear bV u0 u1; have u0 := U1.out.1; have u1 := U1.out.2)) | (go_at_call 18; ((with_reducible refine (spec_IsCentral pT aT T cT w202.heap.size gT aY Y cY w202.heap.size gT wV HTV.out (Nat.le_of_lt hV) sT HYV.out (Nat.le_of_lt hV) sY).mono ?_); rintro e wX ⟨rfl, bX⟩; rw [HCT.out, HVT.out]; have HBX := Lib.hid (below_step HBV.out (Nat.le_of_lt hV2) bX); clear bX)))
          go_ret
          first | exact ⟨rfl, HB00.out.trans (HBX.out.mono HB00.out.size)⟩ | exact ⟨by simp, HB00.out.trans (HBX.out.mono HB00.out.size)⟩
        · have E_C : Hid (srC pS S = 0) := hs0
          have hN := HNE.out hs0
          obtain ⟨e1, e2⟩ := hN
          have r1 : 0 ≤ Bv * Rv ∧ Bv * Rv ≤ 8 := ⟨Int.mul_nonneg hrg.1 hrg.2.2.1, Int.le_trans (Int.mul_le_mul hrg.2.1 hrg.2.2.2.1 hrg.2.2.1 (by omega)) (by omega)⟩
          have r2 : 0 ≤ Bv * Rv * Rv ∧ Bv * Rv * Rv ≤ 32 := ⟨Int.mul_nonneg r1.1 hrg.2.2.1, Int.le_trans (Int.mul_le_mul r1.2 hrg.2.2.2.1 hrg.2.2.1 (by omega)) (by omega)⟩
          have f1 : wrap64 (Bv * Dv) = (z.length : Int) := by rw [e1]; unfold wrap64; omega
          have f1' : IntKind.i64.wrap (Bv * Dv) = (z.length : Int) := by rw [e1]; exact IntWalk.i64_in _ (by omega)
          have f2 : wrap64 (Bv * Rv) = Bv * Rv := by unfold wrap64; omega
          have f2' : IntKind.i64.wrap (Bv * Rv) = Bv * Rv := IntWalk.i64_in _ (by omega)
          have f3 : wrap64 (Bv * Rv * Rv) = Bv * Rv * Rv := by unfold wrap64; omega
          have f3' : IntKind.i64.wrap (Bv * Rv * Rv) = Bv * Rv * Rv := IntWalk.i64_in _ (by omega)
          have f4 : wrap64 (Bv * Rv * Rv * Dv) = (bl S : Int) := by rw [e2]; unfold wrap64; omega
          have f4' : IntKind.i64.wrap (Bv * Rv * Rv * Dv) = (bl S : Int) := by rw [e2]; exact IntWalk.i64_in _ (by omega)
          have g1 : ((z.length : Int) != (z.length : Int)) = false := by simp
          have g2 : ((bl S : Int) != (bl S : Int)) = false := by simp
          clear e1 e2 r1 r2 hs0
          go_upto_region 23 with (first | (go_at_call 15; (with_reducible refine (impl_StructureOf pS aS S cS w0.heap.size w.heap.size wr (HS.out.below HBw.out tS) (Nat.le_trans tS (HBw.out).size) sS).mono ?_); rintro e w201 ⟨rfl, b_⟩; have SS201 := Lib.hid (And.intro ((b_.cell (p := ⟨w.heap.size, 0, none⟩) hdw).trans SSw.out.1) ((b_.cell (p := ⟨w.heap.size, 1, none⟩) hdw).trans SSw.out.2)); have HB201 := Lib.hid (below_step HBw.out (Nat.le_of_lt hdw) b_); have zz_ := b_.size; have hd201 := Nat.lt_of_lt_of_le hdw zz_; rw [E_B.out, E_R.out, E_D.out, E_C.out]; have kc201_0 := SS201.out.1; have kc201_1 := SS201.out.2; clear b_) | (go_at_call 16; (with_reducible refine (spec_StructureOf pS aS S cS w0.heap.size w.heap.size w201 (HS.out.below HB201.out tS) (Nat.le_trans tS (HB201.out).size) sS).mono ?_); rintro e w202 ⟨rfl, b_⟩; have SS202 := Lib.hid (And.intro ((b_.cell (p := ⟨w.heap.size, 0, none⟩) hd201).trans SS201.out.1) ((b_.cell (p := ⟨w.heap.size, 1, none⟩) hd201).trans SS201.out.2)); have HB202 := Lib.hid (below_step HB201.out (Nat.le_of_lt hd201) b_); have zz_ := b_.size; have hd202 := Nat.lt_of_lt_of_le hd201 zz_; rw [E_B.out, E_R.out, E_D.out, E_C.out]; have kc202_0 := SS202.out.1; have kc202_1 := SS202.out.2; clear b_) | (go_at_call 11; (with_reducible refine (size5_any pS aS S cS w202 h6).mono ?_); rintro e w203 ⟨rfl, b_⟩; have SS203 := Lib.hid (And.intro ((b_.cell (p := ⟨w.heap.size, 0, none⟩) hd202).trans SS202.out.1) ((b_.cell (p := ⟨w.heap.size, 1, none⟩) hd202).trans SS202.out.2)); have HB203 := Lib.hid (below_step HB202.out (Nat.le_of_lt hd202) b_); have zz_ := b_.size; have hd203 := Nat.lt_of_lt_of_le hd202 zz_; have kc203_0 := SS203.out.1; have kc203_1 := SS203.out.2; clear b_) | (go_at_call 17; ((with_reducible refine (drawIC_any a0 len cap zs w203 (HC8.out.below (HB00.out.trans (HB203.out.mono HB00.out.size))) hl).mono ?_); rintro e wT ⟨pT, aT, T, cT, aY, Y, cY, rfl, hT, hY, oT, oY, bT⟩; have HT := Lib.hid oT; have HYT := Lib.hid oY; have HTL := Lib.hid (And.intro hT hY); have HBT := Lib.hid (below_step HB203.out (Nat.le_of_lt hd203) bT); have hdT := Nat.lt_of_lt_of_le hd203 bT.size; clear hT hY oT oY bT)))
          obtain ⟨wU, hwU⟩ : ∃ z, z = wT.alloc (.cells #[.int .i64 pT, .slice aT T.length cT] 26) := ⟨_, rfl⟩
          obtain ⟨gT, hgT⟩ : ∃ z, z = wT.heap.size := ⟨_, rfl⟩
          have U0 : Hid (wU.cell? ⟨gT, 0, none⟩ = some (.int .i64 pT) ∧ wU.cell? ⟨gT, 1, none⟩ = some (.slice aT T.length cT)) := by show _ ∧ _; rw [hwU, hgT]; exact ⟨nw0 wT _ _ _, nw1 wT _ _ _⟩
          have HBU : Hid (Below w.heap.size w wU) := by show Below _ _ _; rw [hwU]; exact HBT.out.alloc (Nat.le_of_lt hdT) _
          have HTU : Hid (RowIn w203.heap.size gT wU aT T) := by show RowIn _ _ _ _ _; rw [hwU, hgT]; exact HT.out.below (below_alloc wT _) (Nat.le_refl _)
          have HYU : Hid (RowIn w203.heap.size gT wU aY Y) := by show RowIn _ _ _ _ _; rw [hwU, hgT]; exact HYT.out.below (below_alloc wT _) (Nat.le_refl _)
          have hU : gT < wU.heap.size := by rw [hwU, hgT]; simp
          have hwU2 : w.heap.size < wU.heap.size := by rw [hwU]; exact Nat.lt_of_lt_of_le hdT (size_alloc wT _)
          have sT : T.length ≤ 1048576 := by have := HTL.out.1; omega
          have sY : Y.length ≤ 1048576 := by have := HTL.out.2; omega
          obtain ⟨CT, hCT⟩ : ∃ z, z = stC pT T [Y] := ⟨_, rfl⟩
          have HCT : Hid (stC pT T [Y] = CT) := hCT.symm
          obtain ⟨VT, hVT⟩ : ∃ z, z = cenV pT T Y := ⟨_, rfl⟩
          have HVT : Hid (cenV pT T Y = VT) := hVT.symm
          have hq1 : (CT == CT) = true := by simp
          have hq2 : (VT == VT) = true := by simp
          rw [← hwU, ← hgT]
          clear hwU hgT hCT hVT HBT HT HYT
          have u0 := U0.out.1
          have u1 := U0.out.2
          go_wp2_with (first | (go_at_call 12; ((with_reducible refine (impl_IsCentral pT aT T cT w203.heap.size gT aY Y cY w203.heap.size gT wU HTU.out (Nat.le_of_lt hU) sT HYU.out (Nat.le_of_lt hU) sY).mono ?_); rintro e wV ⟨rfl, bV⟩; rw [HCT.out, HVT.out]; have HBV := Lib.hid (below_step HBU.out (Nat.le_of_lt hwU2) bV); have hV := Nat.lt_of_lt_of_le hU bV.size; have hV2 := Nat.lt_of_lt_of_le hwU2 bV.size; have U1 := Lib.hid (And.intro ((bV.cell (p := ⟨gT, 0, none⟩) hU).trans U0.out.1) ((bV.cell (p := ⟨gT, 1, none⟩) hU).trans U0.out.2)); have HTV := Lib.hid (HTU.out.below bV (Nat.le_of_lt hU)); have HYV := Lib.hid (HYU.out.below bV (Nat.le_of_lt hU)); clear bV u0 u1; have u0 := U1.out.1; have u1 := U1.out.2)) | (go_at_call 18; ((with_reducible refine (spec_IsCentral pT aT T cT w203.heap.size gT aY Y cY w203.heap.size gT wV HTV.out (Nat.le_of_lt hV) sT HYV.out (Nat.le_of_lt hV) sY).mono ?_); rintro e wX ⟨rfl, bX⟩; rw [HCT.out, HVT.out]; have HBX := Lib.hid (below_step HBV.out (Nat.le_of_lt hV2) bX); clear bX)))
          go_ret
          first | exact ⟨rfl, HB00.out.trans (HBX.out.mono HB00.out.size)⟩ | exact ⟨by simp, HB00.out.trans (HBX.out.mono HB00.out.size)⟩
  · obtain ⟨z, hz⟩ : ∃ z, z = cbV pS S := ⟨_, rfl⟩
    have EZ : Hid (cbV pS S = z) := hz.symm
    have t_z : z.length + tot z z.length ≤ 1048576 := by rw [hz]; exact cbV_size _ _
    obtain ⟨C, hC⟩ : ∃ c, c = stC pS S [] := ⟨_, rfl⟩
    have HC : Hid (stC pS S [] = C) := hC.symm
    have hk1 : (C == 0) = false := by rw [hC]; simpa using h0
    have hk3 : (C != C) = false := by simp
    clear hC hz h0
    go_upto_region 23 with (first | (go_at_call 6; (with_reducible refine (impl_CentreBasis pS aS S cS w0.heap.size w.heap.size w1 (HS.out.below HB1.out tS) (Nat.le_trans tS (HB1.out).size) sS).mono ?_); rintro e w2 ⟨rz, kz, rfl, o_, b_⟩; have SS2 := Lib.hid (And.intro ((b_.cell (p := ⟨w.heap.size, 0, none⟩) hd1).trans SS1.out.1) ((b_.cell (p := ⟨w.heap.size, 1, none⟩) hd1).trans SS1.out.2)); have HB2 := Lib.hid (below_step HB1.out (Nat.le_of_lt hd1) b_); have zz_ := b_.size; have hd2 := Nat.lt_of_lt_of_le hd1 zz_; rw [EZ.out] at o_; rw [HC.out, EZ.out]; have o_ := o_.mat; have BA_2 := Lib.hid (o_.mono (Nat.le_of_lt hd1) (Nat.le_refl _)); clear o_; have kc2_0 := SS2.out.1; have kc2_1 := SS2.out.2; clear b_) | (go_at_call 7; (with_reducible refine (spec_CentreBasis pS aS S cS w0.heap.size w.heap.size w2 (HS.out.below HB2.out tS) (Nat.le_trans tS (HB2.out).size) sS).mono ?_); rintro e w3 ⟨rwt, kwt, rfl, o_, b_⟩; have SS3 := Lib.hid (And.intro ((b_.cell (p := ⟨w.heap.size, 0, none⟩) hd2).trans SS2.out.1) ((b_.cell (p := ⟨w.heap.size, 1, none⟩) hd2).trans SS2.out.2)); have HB3 := Lib.hid (below_step HB2.out (Nat.le_of_lt hd2) b_); have zz_ := b_.size; have hd3 := Nat.lt_of_lt_of_le hd2 zz_; have BA_3 := Lib.hid ((BA_2.out.below b_ (Nat.le_refl _)).mono (Nat.le_refl _) zz_); rw [EZ.out] at o_; rw [HC.out, EZ.out]; have WT_3 := Lib.hid (o_.mono (Nat.le_of_lt hd2) (Nat.le_refl _)); clear o_; have kc3_0 := SS3.out.1; have kc3_1 := SS3.out.2; clear b_) | (go_at_call 8; (with_reducible refine (likeRows_same rz rwt z kz kwt w.heap.size w3.heap.size w.heap.size w3.heap.size w3 BA_3.out WT_3.out t_z).mono ?_); rintro e w4 ⟨rfl, q_⟩; have b_ := q_.below w3.heap.size; have SS4 := Lib.hid (And.intro ((b_.cell (p := ⟨w.heap.size, 0, none⟩) hd3).trans SS3.out.1) ((b_.cell (p := ⟨w.heap.size, 1, none⟩) hd3).trans SS3.out.2)); have HB4 := Lib.hid (below_step HB3.out (Nat.le_of_lt hd3) b_); have zz_ := b_.size; have hd4 := Nat.lt_of_lt_of_le hd3 zz_; have BA_4 := Lib.hid ((BA_3.out.below b_ (Nat.le_refl _)).mono (Nat.le_refl _) zz_); have WT_4 := Lib.hid ((WT_3.out.below b_ (Nat.le_refl _)).mono (Nat.le_refl _) zz_); have kc4_0 := SS4.out.1; have kc4_1 := SS4.out.2; clear q_; clear b_) | (go_at_call 17; ((with_reducible refine (drawIC_any a0 len cap zs w4 (HC8.out.below (HB00.out.trans (HB4.out.mono HB00.out.size))) hl).mono ?_); rintro e wT ⟨pT, aT, T, cT, aY, Y, cY, rfl, hT, hY, oT, oY, bT⟩; have HT := Lib.hid oT; have HYT := Lib.hid oY; have HTL := Lib.hid (And.intro hT hY); have HBT := Lib.hid (below_step HB4.out (Nat.le_of_lt hd4) bT); have hdT := Nat.lt_of_lt_of_le hd4 bT.size; clear hT hY oT oY bT)))
    obtain ⟨wU, hwU⟩ : ∃ z, z = wT.alloc (.cells #[.int .i64 pT, .slice aT T.length cT] 26) := ⟨_, rfl⟩
    obtain ⟨gT, hgT⟩ : ∃ z, z = wT.heap.size := ⟨_, rfl⟩
    have U0 : Hid (wU.cell? ⟨gT, 0, none⟩ = some (.int .i64 pT) ∧ wU.cell? ⟨gT, 1, none⟩ = some (.slice aT T.length cT)) := by show _ ∧ _; rw [hwU, hgT]; exact ⟨nw0 wT _ _ _, nw1 wT _ _ _⟩
    have HBU : Hid (Below w.heap.size w wU) := by show Below _ _ _; rw [hwU]; exact HBT.out.alloc (Nat.le_of_lt hdT) _
    have HTU : Hid (RowIn w4.heap.size gT wU aT T) := by show RowIn _ _ _ _ _; rw [hwU, hgT]; exact HT.out.below (below_alloc wT _) (Nat.le_refl _)
    have HYU : Hid (RowIn w4.heap.size gT wU aY Y) := by show RowIn _ _ _ _ _; rw [hwU, hgT]; exact HYT.out.below (below_alloc wT _) (Nat.le_refl _)
    have hU : gT < wU.heap.size := by rw [hwU, hgT]; simp
    have hwU2 : w.heap.size < wU.heap.size := by rw [hwU]; exact Nat.lt_of_lt_of_le hdT (size_alloc wT _)
    have sT : T.length ≤ 1048576 := by have := HTL.out.1; omega
    have sY : Y.length ≤ 1048576 := by have := HTL.out.2; omega
    obtain ⟨CT, hCT⟩ : ∃ z, z = stC pT T [Y] := ⟨_, rfl⟩
    have HCT : Hid (stC pT T [Y] = CT) := hCT.symm
    obtain ⟨VT, hVT⟩ : ∃ z, z = cenV pT T Y := ⟨_, rfl⟩
    have HVT : Hid (cenV pT T Y = VT) := hVT.symm
    have hq1 : (CT == CT) = true := by simp
    have hq2 : (VT == VT) = true := by simp
    rw [← hwU, ← hgT]
    clear hwU hgT hCT hVT HBT HT HYT
    have u0 := U0.out.1
    have u1 := U0.out.2
    go_wp2_with (first | (go_at_call 12; ((with_reducible refine (impl_IsCentral pT aT T cT w4.heap.size gT aY Y cY w4.heap.size gT wU HTU.out (Nat.le_of_lt hU) sT HYU.out (Nat.le_of_lt hU) sY).mono ?_); rintro e wV ⟨rfl, bV⟩; rw [HCT.out, HVT.out]; have HBV := Lib.hid (below_step HBU.out (Nat.le_of_lt hwU2) bV); have hV := Nat.lt_of_lt_of_le hU bV.size; have hV2 := Nat.lt_of_lt_of_le hwU2 bV.size; have U1 := Lib.hid (And.intro ((bV.cell (p := ⟨gT, 0, none⟩) hU).trans U0.out.1) ((bV.cell (p := ⟨gT, 1, none⟩) hU).trans U0.out.2)); have HTV := Lib.hid (HTU.out.below bV (Nat.le_of_lt hU)); have HYV := Lib.hid (HYU.out.below bV (Nat.le_of_lt hU)); clear bV u0 u1; have u0 := U1.out.1; have u1 := U1.out.2)) | (go_at_call 18; ((with_reducible refine (spec_IsCentral pT aT T cT w4.heap.size gT aY Y cY w4.heap.size gT wV HTV.out (Nat.le_of_lt hV) sT HYV.out (Nat.le_of_lt hV) sY).mono ?_); rintro e wX ⟨rfl, bX⟩; rw [HCT.out, HVT.out]; have HBX := Lib.hid (below_step HBV.out (Nat.le_of_lt hV2) bX); clear bX)))
    go_ret
    first | exact ⟨rfl, HB00.out.trans (HBX.out.mono HB00.out.size)⟩ | exact ⟨by simp, HB00.out.trans (HBX.out.mono HB00.out.size)⟩

set_option maxRecDepth 100000 in
theorem law_ce (a : Option Addr) (len cap : Nat) (zs : List Int) (w : World) (hb : Code8 w a len zs) (hm : len ≤ 9223372036854775807) :
    Calls Tryz.prog 3 #[.slice a len cap] w fun e w' => e = .returned (.bool true) ∧ Below w.heap.size w w' := by
  by_cases hl : len ≤ 4096
  · exact law_ce_small a len cap zs w hb hl
  · clear hb
    go_enter Tryz.func3, Tryz.ntmps3
    go_wp2_with (go_at_call 4; refine (big_yes a len cap _ (by omega) hm).mono ?_; rintro e w' ⟨rfl, rfl⟩)
    go_ret
    exact ⟨rfl, Below.refl _ _⟩

end Go.Proofs.YtijklpcelbnnjaaGreat
