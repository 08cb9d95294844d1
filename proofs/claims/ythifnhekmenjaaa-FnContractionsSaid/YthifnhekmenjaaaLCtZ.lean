/-
  The walk of the law on contractions: FnContractions.
  Conditions: the code is nil or a row of known bytes.
-/
import Derived.Test.YthifnhekmenjaaaQc28
import Derived.Test.YthifnhekmenjaaaQc29
import Derived.Test.YthifnhekmenjaaaQc31
import Derived.Test.YthifnhekmenjaaaQc40
import Derived.Test.YthifnhekmenjaaaQc41
import Derived.Deep.RegionHeld3
import Derived.Deep.DeepCutAuto
namespace Go.Proofs.Ythifnhekmenjaaa
open Go.RowKit
set_option linter.unusedVariables false

set_option maxRecDepth 100000 in
set_option maxHeartbeats 3200000 in
theorem drawLC_any (a : Option Addr) (len cap : Nat) (zs : List Int) (w : World) (hb : Code8 w a len zs) (hl : len ≤ 4096) :
    Calls Try.prog 5 #[.slice a len cap] w (DrawnQ w) := by
  have HB := Lib.hid hb
  clear hb
  go_enter Try.func5, Try.ntmps5
  go_upto_region 1 with fail
  obtain ⟨wa, hwa⟩ : ∃ z, z = w.alloc (.cells #[.int .i64 0, .slice none 0 0] 26) := ⟨_, rfl⟩
  have HR1 : Hid (L2 wa w.heap.size (.int .i64 0) (.slice none 0 0)) := by show L2 _ _ _ _; rw [hwa]; exact L2.new _ _ _ _
  have HC1 : Hid (Code8 wa a len zs) := by show Code8 _ _ _ _; rw [hwa]; exact HB.out.below (below_alloc w _)
  have HB1 : Hid (Below w.heap.size w wa) := by show Below _ _ _; rw [hwa]; exact below_alloc w _
  have hRa : w.heap.size < wa.heap.size := by rw [hwa]; simp
  rw [← hwa]
  clear hwa
  go_upto_region 2 with (go_at_call 19; (with_reducible refine (two_any a len cap zs wa HC1.out hl).mono ?_); rintro e w2 ⟨p, r, X, c, r1, Y, c1, r2, Z, c2, rfl, hX, hY, hZ, oX, oY, oZ, b2⟩; have HR2 := Lib.hid (HR1.out.below b2 hRa); have HB2 := Lib.hid (below_step HB1.out (Nat.le_of_lt hRa) b2); have HN := Lib.hid (And.intro hX (And.intro hY hZ)); have HX2 := Lib.hid oX; have HY2 := Lib.hid oY; have HZ2 := Lib.hid oZ; have hR2 := Nat.lt_of_lt_of_le hRa b2.size; clear b2 hX hY hZ oX oY oZ)
  obtain ⟨wg, hwg⟩ : ∃ z, z = w2.alloc (.cells #[.int .i64 p, .slice r X.length c] 26) := ⟨_, rfl⟩
  obtain ⟨g, hg⟩ : ∃ z, z = w2.heap.size := ⟨_, rfl⟩
  have HG : Hid (L2 wg g (.int .i64 p) (.slice r X.length c)) := by show L2 _ _ _ _; rw [hwg, hg]; exact L2.new _ _ _ _
  have HR4 : Hid (L2 wg w.heap.size (.int .i64 0) (.slice none 0 0)) := by show L2 _ _ _ _; rw [hwg]; exact HR2.out.alloc _ hR2
  have HB4 : Hid (Below w.heap.size w wg) := by show Below _ _ _; rw [hwg]; exact HB2.out.alloc (Nat.le_of_lt hR2) _
  have HX4 : Hid (RowIn wa.heap.size g wg r X) := by show RowIn _ _ _ _ _; rw [hwg, hg]; exact HX2.out.below (below_alloc w2 _) (Nat.le_refl _)
  have HY4 : Hid (RowIn wa.heap.size g wg r1 Y) := by show RowIn _ _ _ _ _; rw [hwg, hg]; exact HY2.out.below (below_alloc w2 _) (Nat.le_refl _)
  have HZ4 : Hid (RowIn wa.heap.size g wg r2 Z) := by show RowIn _ _ _ _ _; rw [hwg, hg]; exact HZ2.out.below (below_alloc w2 _) (Nat.le_refl _)
  have hgg : g < wg.heap.size := by rw [hwg, hg]; simp
  have hRg : w.heap.size < g := by rw [hg]; exact hR2
  rw [← hwg, ← hg]
  clear hwg hg HR2 HB2 HX2 HY2 HZ2 HR1 HC1 HB1 hR2
  have r0 := HR4.out.1
  have r1' := HR4.out.2.1
  have r2' := HR4.out.2.2.1
  have r3 := HR4.out.2.2.2
  have g0 := HG.out.1
  have g1 := HG.out.2.1
  go_wp2
  refine bodyPost_ret (v := .tuple #[.agg #[.int .i64 p, .slice r X.length c], .slice r1 Y.length c1, .slice r2 Z.length c2]) (by simp [results, Try.results5, go_sem, r0, r1']) rfl ⟨p, r, X, c, r1, Y, c1, r2, Z, c2, rfl, HN.out.1, HN.out.2.1, HN.out.2.2, ?_, ?_, ?_, (HB4.out.setCell (Nat.le_refl _) _).setCell (Nat.le_refl _) _⟩
  · exact ((HX4.out.far _ (.inl hRa)).far _ (.inl hRa)).mono (Nat.le_of_lt hRa) (by simp [World.setCell]; omega)
  · exact ((HY4.out.far _ (.inl hRa)).far _ (.inl hRa)).mono (Nat.le_of_lt hRa) (by simp [World.setCell]; omega)
  · exact ((HZ4.out.far _ (.inl hRa)).far _ (.inl hRa)).mono (Nat.le_of_lt hRa) (by simp [World.setCell]; omega)

set_option maxHeartbeats 1000000 in
set_option maxRecDepth 100000 in
theorem roll838_any (a : Option Addr) (len cap : Nat) (zs : List Int) (w : World) (hb : Code8 w a len zs) (hl : len ≤ 4096) :
    Calls Try.prog 9 #[.slice a len cap, .int .u64 838] w (Made a len cap zs w) := by
  have HB := Lib.hid hb
  clear hb
  go_enter Try.func9, Try.ntmps9
  go_wp2
  go_loopw [6] (fun t wr => ∃ i : Nat, i ≤ len ∧ t = .int .i64 i ∧ (∃ h : Int, SrcAt wr w.heap.size a len cap zs 0 h) ∧ Below w.heap.size w wr) (fun t _ => len - (intOf t).toNat)
  case atStart => exact ⟨0, by omega, rfl, ⟨6436678 + (len : Int), by simp, by simp [go_sem], by simp [go_sem], by simp [go_sem], by simp [go_sem], by simp [go_sem], Nat.zero_le _, hl, HB.out.only (Only.refl _ _ |>.alloc _)⟩, by ((repeat' (first | with_reducible exact Below.refl _ _ | (with_reducible refine Below.setCell ?_ ?_ _) | (with_reducible refine Below.alloc ?_ ?_ _) | (with_reducible refine Below.drew ?_))); all_goals (first | (simp; done) | omega | (simp; omega)))⟩
  case round =>
    obtain ⟨i, hi, rfl, ⟨h, s⟩, hbel⟩ := hrel
    have S := Lib.hid s
    obtain ⟨lt, c0, c1, c2, f1, f2, le, sm, by_⟩ := s
    by_cases hlt : i < len
    · rcases by_ with h0 | ⟨xb, xo, rfl, hb, hsz, hc⟩
      · omega
      · obtain ⟨⟨z0, z1⟩, hcell⟩ := hc i hlt
        obtain ⟨z, hz⟩ : ∃ z, z = zs.getD i 0 := ⟨_, rfl⟩
        rw [← hz] at hcell z0 z1
        have hne : ¬ w.heap.size = xb := by omega
        clear hc hz
        go_wp2
        go_region
        go_wp2
        go_roundw
        case rel => exact ⟨i + 1, by omega, by go_num, ⟨_, first_src S.out _⟩, by (have hs_hbel := hbel.size; (repeat' (first | with_reducible exact Below.refl _ _ | (with_reducible refine Below.setCell ?_ ?_ _) | (with_reducible refine Below.alloc ?_ ?_ _) | (with_reducible refine Below.drew ?_) | (with_reducible refine below_step ?_ ?_ hbel))); all_goals (first | (simp; done) | omega | (simp; omega) | (simp at hs_hbel ⊢; omega)))⟩
        case measure => simp [intOf]; omega
    · clear by_
      go_wp2
      go_ret
      exact ⟨rfl, hbel, 0, h, S.out⟩

theorem numsV {p : Int} {n : Nat} {v : List Int} (h : isVec p n v = true) : ∀ j, j < v.length → 0 ≤ v.getD j 0 ∧ v.getD j 0 < p := fun j hj => (isVec_iff.1 h).num (by rw [← (isVec_iff.1 h).len]; exact hj)
theorem vecM_mv {p : Int} {S v : List Int} (hs : isSp p S = true) (hv : isVec p S.length v = true) : isMv p S (vecM S v) = true := by
  have hp := prm_bd (isSp_iff.1 hs).prime
  have hn := numsV hv
  refine vec_of (by unfold vecM; rw [mkR_len]) fun j hj => ?_
  unfold vecM at hj ⊢
  rw [mkR_len] at hj
  rw [mkR_at _ hj]
  have key : ∀ k, k ≤ v.length → 0 ≤ vecF v k j ∧ vecF v k j < p := fun k => by
    induction k with
    | zero => intro _; show 0 ≤ (0 : Int) ∧ (0 : Int) < p; omega
    | succ k ih =>
      intro h
      show 0 ≤ (if j = 2 ^ k then v.getD k 0 else vecF v k j) ∧ (if j = 2 ^ k then v.getD k 0 else vecF v k j) < p
      split
      · exact hn k (by omega)
      · exact ih (by omega)
  exact key v.length (Nat.le_refl _)
theorem sgM_mv {p : Int} {S x : List Int} (hp : 0 < p) (c : Nat → Nat) (hx : isMv p S x = true) : isMv p S (mkR x.length (sgF p c x)) = true :=
  isMv_of ((mkR_len _ _).trans (Mv.len hx)) (sgM_num hp (Mv.nums hx))
theorem chV_ok {p : Int} {S x : List Int} (hs : isSp p S = true) (c : Nat → Nat) (hx : isMv p S x = true) : chV p c S x = mkR x.length (sgF p c x) := by
  unfold chV
  rw [if_pos (codeMv_ok hs (by rw [mv_all1]; exact hx))]
theorem mv_sz {p : Int} {S x : List Int} (h6 : S.length ≤ 6) (hx : isMv p S x = true) : x.length ≤ 1048576 := by
  have := bl_le h6
  rw [Mv.len hx]; omega
theorem row_head {lo hi : Nat} {w : World} {b o : Nat} {zs : List Int} {k : Int} (h : RowIn lo hi w (some ⟨b, o, none⟩) zs) (h0 : 0 < zs.length) (e : zs.getD 0 0 = k) : w.cell? ⟨b, o, none⟩ = some (.int .i64 k) := by
  rcases h with h | ⟨b', o', ha, _, _, hc⟩
  · rw [h] at h0; exact absurd h0 (by simp)
  · injection ha with ha; injection ha with h1 h2; subst h1; subst h2
    have := hc 0 h0
    rw [e] at this; exact this

set_option maxRecDepth 100000 in
set_option maxHeartbeats 16000000 in
theorem law_ct_small (a0 : Option Addr) (len cap : Nat) (zs : List Int) (w0 : World) (hb : Code8 w0 a0 len zs) (hl : len ≤ 4096) :
    Calls Try.prog 3 #[.slice a0 len cap] w0 fun e w' => e = .returned (.bool true) ∧ Below w0.heap.size w0 w' := by
  have HC8 := Lib.hid hb
  clear hb
  go_enter Try.func3, Try.ntmps3
  go_upto_region 4 with (first | (go_at_call 4; refine (big_no a0 len cap _ hl).mono ?_; rintro e w' ⟨rfl, rfl⟩) | (go_at_call 5; (with_reducible refine (drawLC_any a0 len cap zs _ HC8.out hl).mono ?_); rintro e w ⟨pS, aS, S, cS, ax, x, cx, ay, y, cy, rfl, hX, hY, hZ, hS, hx, hy, hb0⟩; have HS := Lib.hid hS; have Hx := Lib.hid hx; have Hy := Lib.hid hy; have HB00 := Lib.hid hb0; have HL := Lib.hid (And.intro hX (And.intro hY hZ)); clear hS hx hy hb0 hX hY hZ))
  have tS : w.heap.size ≤ w.heap.size := Nat.le_refl _
  have sS : S.length ≤ 1048576 := by have := HL.out.1; omega
  have sx : x.length ≤ 1048576 := by have := HL.out.2.1; omega
  have sy : y.length ≤ 1048576 := by have := HL.out.2.2; omega
  obtain ⟨w1, hw1⟩ : ∃ z, z = w.alloc (.cells #[.int .i64 pS, .slice aS S.length cS] 26) := ⟨_, rfl⟩
  have SS1 : Hid (w1.cell? ⟨w.heap.size, 0, none⟩ = some (.int .i64 pS) ∧ w1.cell? ⟨w.heap.size, 1, none⟩ = some (.slice aS S.length cS)) := by show _ ∧ _; rw [hw1]; exact ⟨nw0 w _ _ _, nw1 w _ _ _⟩
  have HB1 : Hid (Below w.heap.size w w1) := by show Below _ _ _; rw [hw1]; exact below_alloc w _
  have hd1 : w.heap.size < w1.heap.size := by rw [hw1]; simp
  have kk0 := SS1.out.1
  have kk1 := SS1.out.2
  rw [← hw1]
  clear hw1
  rcases codeMv_cases pS S [x, y] with ⟨hi, hc⟩ | ⟨hi, ha, hc⟩ | ⟨hi, ha, hc⟩
  · have HI := Lib.hid hi
    have HC := Lib.hid hc
    obtain ⟨z, hz⟩ : ∃ z, z = lcV pS S x y := ⟨_, rfl⟩
    have EZ : Hid (lcV pS S x y = z) := hz.symm
    have s_z : z.length ≤ 1048576 := by rw [hz]; exact lcV_size _ _ _ _
    clear hi hc hz
    go_wp2_with (first | (go_at_call 6; (with_reducible refine (impl_LeftContraction pS aS S cS w0.heap.size w.heap.size ax x cx w0.heap.size w.heap.size ay y cy w0.heap.size w.heap.size w1 (HS.out.below HB1.out tS) (Nat.le_trans tS (HB1.out).size) sS (Hx.out.below HB1.out tS) (Nat.le_trans tS (HB1.out).size) sx (Hy.out.below HB1.out tS) (Nat.le_trans tS (HB1.out).size) sy).mono ?_); rintro e w2 ⟨rz, kz, rfl, o_, b_⟩; have SS2 := Lib.hid (And.intro ((b_.cell (p := ⟨w.heap.size, 0, none⟩) hd1).trans SS1.out.1) ((b_.cell (p := ⟨w.heap.size, 1, none⟩) hd1).trans SS1.out.2)); have HB2 := Lib.hid (below_step HB1.out (Nat.le_of_lt hd1) b_); have zz_ := b_.size; have hd2 := Nat.lt_of_lt_of_le hd1 zz_; rw [EZ.out] at o_; rw [HC.out, EZ.out]; have o_ := o_.row; have RZ_2 := Lib.hid (o_.mono (Nat.le_of_lt hd1) (Nat.le_refl _)); clear o_; have kc2_0 := SS2.out.1; have kc2_1 := SS2.out.2; clear b_) | (go_at_call 7; (with_reducible refine (spec_LeftContraction pS aS S cS w0.heap.size w.heap.size ax x cx w0.heap.size w.heap.size ay y cy w0.heap.size w.heap.size w2 (HS.out.below HB2.out tS) (Nat.le_trans tS (HB2.out).size) sS (Hx.out.below HB2.out tS) (Nat.le_trans tS (HB2.out).size) sx (Hy.out.below HB2.out tS) (Nat.le_trans tS (HB2.out).size) sy).mono ?_); rintro e w3 ⟨rwt, kwt, rfl, o_, b_⟩; have SS3 := Lib.hid (And.intro ((b_.cell (p := ⟨w.heap.size, 0, none⟩) hd2).trans SS2.out.1) ((b_.cell (p := ⟨w.heap.size, 1, none⟩) hd2).trans SS2.out.2)); have HB3 := Lib.hid (below_step HB2.out (Nat.le_of_lt hd2) b_); have zz_ := b_.size; have hd3 := Nat.lt_of_lt_of_le hd2 zz_; have RZ_3 := Lib.hid ((RZ_2.out.below b_ (Nat.le_refl _)).mono (Nat.le_refl _) zz_); rw [EZ.out] at o_; rw [HC.out, EZ.out]; have WT_3 := Lib.hid (o_.mono (Nat.le_of_lt hd2) (Nat.le_refl _)); clear o_; have kc3_0 := SS3.out.1; have kc3_1 := SS3.out.2; clear b_) | (go_at_call 8; (with_reducible refine (likeInts_same rz rwt z kz kwt w.heap.size w3.heap.size w.heap.size w3.heap.size w3 RZ_3.out WT_3.out s_z).mono ?_); rintro e w4 ⟨rfl, q_⟩; have b_ := q_.below w3.heap.size; have SS4 := Lib.hid (And.intro ((b_.cell (p := ⟨w.heap.size, 0, none⟩) hd3).trans SS3.out.1) ((b_.cell (p := ⟨w.heap.size, 1, none⟩) hd3).trans SS3.out.2)); have HB4 := Lib.hid (below_step HB3.out (Nat.le_of_lt hd3) b_); have zz_ := b_.size; have hd4 := Nat.lt_of_lt_of_le hd3 zz_; have RZ_4 := Lib.hid ((RZ_3.out.below b_ (Nat.le_refl _)).mono (Nat.le_refl _) zz_); have WT_4 := Lib.hid ((WT_3.out.below b_ (Nat.le_refl _)).mono (Nat.le_refl _) zz_); have kc4_0 := SS4.out.1; have kc4_1 := SS4.out.2; clear q_; clear b_))
    go_ret
    exact ⟨rfl, HB00.out.trans (HB4.out.mono HB00.out.size)⟩
  · have HI := Lib.hid hi
    have HC := Lib.hid hc
    obtain ⟨z, hz⟩ : ∃ z, z = lcV pS S x y := ⟨_, rfl⟩
    have EZ : Hid (lcV pS S x y = z) := hz.symm
    have s_z : z.length ≤ 1048576 := by rw [hz]; exact lcV_size _ _ _ _
    rw [mv_all2, Bool.and_eq_true] at ha
    have MX := Lib.hid ha.1
    have MY := Lib.hid ha.2
    have HP := Lib.hid (isSp_iff.1 hi).prime
    have hpb := prm_bd (isSp_iff.1 hi).prime
    have hp0 : 0 < pS := by omega
    have hp1 : 1 ≤ pS := by omega
    have h6 := (isSp_iff.1 hi).hi
    have hbl := bl_le h6
    have hb0 := bl_pos S
    have hzz : z = lcM pS S x y := by rw [hz]; unfold lcV; rw [if_pos hc]
    have EZZ : Hid (lcM pS S x y = z) := hzz.symm
    have M_z : Hid (isMv pS S z = true) := by show _ = _; rw [hzz]; exact kind_mv hi _ _ _
    obtain ⟨vp, hvp⟩ : ∃ v, v = mkR x.length (sgF pS c_reversal x) := ⟨_, rfl⟩
    have M_vp : Hid (isMv pS S vp = true) := by show _ = _; rw [hvp]; exact sgM_mv hp0 _ MX.out
    have E_vp : Hid (chV pS c_reversal S x = vp) := by show _ = _; rw [hvp]; exact chV_ok hi _ MX.out
    have C_x : Hid (codeMv pS S [x] = 0) := codeMv_ok hi (by rw [mv_all1]; exact MX.out)
    have s_vp : vp.length ≤ 1048576 := mv_sz h6 M_vp.out
    obtain ⟨vq, hvq⟩ : ∃ v, v = mkR y.length (sgF pS c_reversal y) := ⟨_, rfl⟩
    have M_vq : Hid (isMv pS S vq = true) := by show _ = _; rw [hvq]; exact sgM_mv hp0 _ MY.out
    have E_vq : Hid (chV pS c_reversal S y = vq) := by show _ = _; rw [hvq]; exact chV_ok hi _ MY.out
    have C_y : Hid (codeMv pS S [y] = 0) := codeMv_ok hi (by rw [mv_all1]; exact MY.out)
    have s_vq : vq.length ≤ 1048576 := mv_sz h6 M_vq.out
    obtain ⟨vr, hvr⟩ : ∃ v, v = mkR z.length (sgF pS c_reversal z) := ⟨_, rfl⟩
    have M_vr : Hid (isMv pS S vr = true) := by show _ = _; rw [hvr]; exact sgM_mv hp0 _ M_z.out
    have E_vr : Hid (chV pS c_reversal S z = vr) := by show _ = _; rw [hvr]; exact chV_ok hi _ M_z.out
    have C_z : Hid (codeMv pS S [z] = 0) := codeMv_ok hi (by rw [mv_all1]; exact M_z.out)
    have s_vr : vr.length ≤ 1048576 := mv_sz h6 M_vr.out
    have C_qp : Hid (codeMv pS S [vq, vp] = 0) := codeMv_ok hi (by rw [mv_all2, M_vq.out, M_vp.out]; rfl)
    have E_t : Hid (rcV pS S vq vp = vr) := by show _ = _; unfold rcV; rw [if_pos C_qp.out, hvq, hvp, hvr, hzz]; exact rev_left hp0 h6 (Mv.len MX.out) (Mv.len MY.out) (Mv.nums MX.out) (Mv.nums MY.out)
    obtain ⟨pr, hpr⟩ : ∃ v, v = prodM pS S vp y := ⟨_, rfl⟩
    have E_pr : Hid (prodM pS S vp y = pr) := hpr.symm
    obtain ⟨kk, hkk⟩ : ∃ v, v = pr.getD 0 0 := ⟨_, rfl⟩
    have E_k : Hid (pr.getD 0 0 = kk) := hkk.symm
    have E_sc : Hid (scV pS S x y = kk) := by show _ = _; unfold scV; rw [if_pos hc, hkk, hpr, prodM_at _ _ _ _ hb0, hvp]; rfl
    have LPR : Hid (pr.length = bl S) := by show _ = _; rw [hpr, prodM_len]
    have hpl : ((pr.length : Int) == 0) = false := by have := LPR.out; exact beq_eq_false_iff_ne.2 (by omega)
    have hpl2 : (0 : Int) < (pr.length : Int) := by have := LPR.out; omega
    have hk2 : (kk == kk) = true := by simp
    clear hi hc ha hz hzz hvp hvq hvr hpr hkk
    go_upto_region 10 with (first | (go_at_call 6; (with_reducible refine (impl_LeftContraction pS aS S cS w0.heap.size w.heap.size ax x cx w0.heap.size w.heap.size ay y cy w0.heap.size w.heap.size w1 (HS.out.below HB1.out tS) (Nat.le_trans tS (HB1.out).size) sS (Hx.out.below HB1.out tS) (Nat.le_trans tS (HB1.out).size) sx (Hy.out.below HB1.out tS) (Nat.le_trans tS (HB1.out).size) sy).mono ?_); rintro e w2 ⟨rz, kz, rfl, o_, b_⟩; have SS2 := Lib.hid (And.intro ((b_.cell (p := ⟨w.heap.size, 0, none⟩) hd1).trans SS1.out.1) ((b_.cell (p := ⟨w.heap.size, 1, none⟩) hd1).trans SS1.out.2)); have HB2 := Lib.hid (below_step HB1.out (Nat.le_of_lt hd1) b_); have zz_ := b_.size; have hd2 := Nat.lt_of_lt_of_le hd1 zz_; rw [EZ.out] at o_; rw [HC.out, EZ.out]; have o_ := o_.row; have RZ_2 := Lib.hid (o_.mono (Nat.le_of_lt hd1) (Nat.le_refl _)); clear o_; have kc2_0 := SS2.out.1; have kc2_1 := SS2.out.2; clear b_) | (go_at_call 7; (with_reducible refine (spec_LeftContraction pS aS S cS w0.heap.size w.heap.size ax x cx w0.heap.size w.heap.size ay y cy w0.heap.size w.heap.size w2 (HS.out.below HB2.out tS) (Nat.le_trans tS (HB2.out).size) sS (Hx.out.below HB2.out tS) (Nat.le_trans tS (HB2.out).size) sx (Hy.out.below HB2.out tS) (Nat.le_trans tS (HB2.out).size) sy).mono ?_); rintro e w3 ⟨rwt, kwt, rfl, o_, b_⟩; have SS3 := Lib.hid (And.intro ((b_.cell (p := ⟨w.heap.size, 0, none⟩) hd2).trans SS2.out.1) ((b_.cell (p := ⟨w.heap.size, 1, none⟩) hd2).trans SS2.out.2)); have HB3 := Lib.hid (below_step HB2.out (Nat.le_of_lt hd2) b_); have zz_ := b_.size; have hd3 := Nat.lt_of_lt_of_le hd2 zz_; have RZ_3 := Lib.hid ((RZ_2.out.below b_ (Nat.le_refl _)).mono (Nat.le_refl _) zz_); rw [EZ.out] at o_; rw [HC.out, EZ.out]; have WT_3 := Lib.hid (o_.mono (Nat.le_of_lt hd2) (Nat.le_refl _)); clear o_; have kc3_0 := SS3.out.1; have kc3_1 := SS3.out.2; clear b_) | (go_at_call 8; (with_reducible refine (likeInts_same rz rwt z kz kwt w.heap.size w3.heap.size w.heap.size w3.heap.size w3 RZ_3.out WT_3.out s_z).mono ?_); rintro e w4 ⟨rfl, q_⟩; have b_ := q_.below w3.heap.size; have SS4 := Lib.hid (And.intro ((b_.cell (p := ⟨w.heap.size, 0, none⟩) hd3).trans SS3.out.1) ((b_.cell (p := ⟨w.heap.size, 1, none⟩) hd3).trans SS3.out.2)); have HB4 := Lib.hid (below_step HB3.out (Nat.le_of_lt hd3) b_); have zz_ := b_.size; have hd4 := Nat.lt_of_lt_of_le hd3 zz_; have RZ_4 := Lib.hid ((RZ_3.out.below b_ (Nat.le_refl _)).mono (Nat.le_refl _) zz_); have WT_4 := Lib.hid ((WT_3.out.below b_ (Nat.le_refl _)).mono (Nat.le_refl _) zz_); have kc4_0 := SS4.out.1; have kc4_1 := SS4.out.2; clear q_; clear b_))
    go_upto_region 11 with (first | (go_at_call 9; (with_reducible refine (roll838_any a0 len cap zs w4 (HC8.out.below (HB00.out.trans (HB4.out.mono HB00.out.size))) hl).mono ?_); rintro e w5 ⟨rfl, b_, s_⟩; have SS5 := Lib.hid (And.intro ((b_.cell (p := ⟨w.heap.size, 0, none⟩) hd4).trans SS4.out.1) ((b_.cell (p := ⟨w.heap.size, 1, none⟩) hd4).trans SS4.out.2)); have HB5 := Lib.hid (below_step HB4.out (Nat.le_of_lt hd4) b_); have zz_ := b_.size; have hd5 := Nat.lt_of_lt_of_le hd4 zz_; have RZ_5 := Lib.hid (RZ_4.out.below b_ (Nat.le_refl _)); have kc5_0 := SS5.out.1; have kc5_1 := SS5.out.2; have HD := Lib.hid s_; clear s_; clear b_))
    obtain ⟨bd, hbdd⟩ : ∃ z, z = w4.heap.size := ⟨_, rfl⟩
    have hbd : w.heap.size ≤ bd := by rw [hbdd]; exact Nat.le_of_lt hd4
    have hwbd : w.heap.size ≠ bd := by rw [hbdd]; exact Nat.ne_of_lt hd4
    rw [← hbdd] at HD RZ_5 ⊢
    clear hbdd
    have hbdl := HD.out.lt
    have hzr : w5.heap.size ≤ w5.heap.size := Nat.le_refl _
    have SS6 : Hid (w5.drew.cell? ⟨w.heap.size, 0, none⟩ = some (.int .i64 pS) ∧ w5.drew.cell? ⟨w.heap.size, 1, none⟩ = some (.slice aS S.length cS)) := SS5.out
    have HB6 : Hid (Below w.heap.size w w5.drew) := (HB5.out).drew
    have hd6 : w.heap.size < w5.drew.heap.size := hd5
    have RZ_6 := Lib.hid (RZ_5.out.below (below_drew w5) (Nat.le_of_lt HD.out.lt))
    have hz6 : w5.heap.size ≤ w5.drew.heap.size := hzr
    have HD6 := Lib.hid (HD.out.step (below_drew w5))
    go_region_held3 (fun w' => w'.cell? ⟨w.heap.size, 0, none⟩ = some (.int .i64 pS) ∧ w'.cell? ⟨w.heap.size, 1, none⟩ = some (.slice aS S.length cS)) (first | exact SS6.out | exact SS7.out | exact SS8.out | go_keep) (first | (go_at_call 11; (with_reducible refine (list5_any pS S.length bd a0 len cap zs w5.drew HD6.out sS hp1).mono ?_); rintro e w7 ⟨rvv, kvv, vv, rfl, ⟨hul, hun⟩, o_, on_, s_⟩; have SS7 := Lib.hid (And.intro ((on_.cell (p := ⟨w.heap.size, 0, none⟩) hd6 hwbd).trans SS6.out.1) ((on_.cell (p := ⟨w.heap.size, 1, none⟩) hd6 hwbd).trans SS6.out.2)); have HB7 := Lib.hid ((HB6.out).trans (on_.below hbd (Nat.le_of_lt hd6))); have zz_ := on_.size; have hd7 := Nat.lt_of_lt_of_le hd6 zz_; have RZ_7 := Lib.hid (RZ_6.out.only on_ (.inr (Nat.le_refl _)) (Nat.le_of_lt HD6.out.lt)); have hz7 := Nat.le_trans hz6 zz_; have HD7 := Lib.hid s_; have VV_7 := Lib.hid (o_.mono hz6 (Nat.le_refl _)); clear o_; have kc7_0 := SS7.out.1; have kc7_1 := SS7.out.2; have HVX : Hid (isVec pS S.length vv = true) := vec_of hul hun; obtain ⟨vm, hvm⟩ : ∃ z, z = vecM S vv := ⟨_, rfl⟩; have EVM : Hid (vecM S vv = vm) := hvm.symm; clear hul hun hvm; clear on_ s_) | (go_at_call 10; (with_reducible refine (vector5_any pS aS S cS w0.heap.size w.heap.size rvv vv kvv w5.heap.size w7.heap.size w7 HI.out (HS.out.below HB7.out tS) (Nat.le_trans tS (HB7.out).size) VV_7.out (Nat.le_refl _) HVX.out).mono ?_); rintro e w8 ⟨rvm, kvm, rfl, o_, b_⟩; have SS8 := Lib.hid (And.intro ((b_.cell (p := ⟨w.heap.size, 0, none⟩) hd7).trans SS7.out.1) ((b_.cell (p := ⟨w.heap.size, 1, none⟩) hd7).trans SS7.out.2)); have HB8 := Lib.hid (below_step HB7.out (Nat.le_of_lt hd7) b_); have zz_ := b_.size; have hd8 := Nat.lt_of_lt_of_le hd7 zz_; have RZ_8 := Lib.hid (RZ_7.out.below b_ (Nat.le_of_lt HD7.out.lt)); have VV_8 := Lib.hid ((VV_7.out.below b_ (Nat.le_refl _)).mono (Nat.le_refl _) zz_); have hz8 := Nat.le_trans hz7 zz_; have HD8 := Lib.hid (HD7.out.step b_); rw [EVM.out] at o_ ⊢; have VM_8 := Lib.hid (o_.mono hz7 (Nat.le_refl _)); clear o_; have kc8_0 := SS8.out.1; have kc8_1 := SS8.out.2; clear b_))
    go_upto_region 12 with fail
    have SS9 : Hid (w8.drew.cell? ⟨w.heap.size, 0, none⟩ = some (.int .i64 pS) ∧ w8.drew.cell? ⟨w.heap.size, 1, none⟩ = some (.slice aS S.length cS)) := SS8.out
    have HB9 : Hid (Below w.heap.size w w8.drew) := (HB8.out).drew
    have hd9 : w.heap.size < w8.drew.heap.size := hd8
    have RZ_9 := Lib.hid (RZ_8.out.below (below_drew w8) (Nat.le_of_lt HD8.out.lt))
    have VM_9 := Lib.hid ((VM_8.out.below (below_drew w8) (Nat.le_refl _)).mono (Nat.le_refl _) (size_drew w8))
    have hz9 : w5.heap.size ≤ w8.drew.heap.size := hz8
    have HD9 := Lib.hid (HD8.out.step (below_drew w8))
    go_region_held3 (fun w' => w'.cell? ⟨w.heap.size, 0, none⟩ = some (.int .i64 pS) ∧ w'.cell? ⟨w.heap.size, 1, none⟩ = some (.slice aS S.length cS)) (first | exact SS9.out | exact SS10.out | exact SS11.out | go_keep) (first | (go_at_call 12; (with_reducible refine (size5_any pS aS S cS w8.drew h6).mono ?_); rintro e w10 ⟨rfl, b_⟩; have SS10 := Lib.hid (And.intro ((b_.cell (p := ⟨w.heap.size, 0, none⟩) hd9).trans SS9.out.1) ((b_.cell (p := ⟨w.heap.size, 1, none⟩) hd9).trans SS9.out.2)); have HB10 := Lib.hid (below_step HB9.out (Nat.le_of_lt hd9) b_); have zz_ := b_.size; have hd10 := Nat.lt_of_lt_of_le hd9 zz_; have RZ_10 := Lib.hid (RZ_9.out.below b_ (Nat.le_of_lt HD9.out.lt)); have VM_10 := Lib.hid ((VM_9.out.below b_ (Nat.le_refl _)).mono (Nat.le_refl _) zz_); have hz10 := Nat.le_trans hz9 zz_; have HD10 := Lib.hid (HD9.out.step b_); have kc10_0 := SS10.out.1; have kc10_1 := SS10.out.2; clear b_) | (go_at_call 11; (with_reducible refine (list5_any pS (bl S) bd a0 len cap zs w10 HD10.out (by omega) hp1).mono ?_); rintro e w11 ⟨rum, kum, um, rfl, ⟨hul, hun⟩, o_, on_, s_⟩; have SS11 := Lib.hid (And.intro ((on_.cell (p := ⟨w.heap.size, 0, none⟩) hd10 hwbd).trans SS10.out.1) ((on_.cell (p := ⟨w.heap.size, 1, none⟩) hd10 hwbd).trans SS10.out.2)); have HB11 := Lib.hid ((HB10.out).trans (on_.below hbd (Nat.le_of_lt hd10))); have zz_ := on_.size; have hd11 := Nat.lt_of_lt_of_le hd10 zz_; have RZ_11 := Lib.hid (RZ_10.out.only on_ (.inr (Nat.le_refl _)) (Nat.le_of_lt HD10.out.lt)); have VM_11 := Lib.hid ((VM_10.out.only on_ (.inl hbdl) (Nat.le_refl _)).mono (Nat.le_refl _) zz_); have hz11 := Nat.le_trans hz10 zz_; have HD11 := Lib.hid s_; have UM_11 := Lib.hid (o_.mono hz10 (Nat.le_refl _)); clear o_; have kc11_0 := SS11.out.1; have kc11_1 := SS11.out.2; have HUL := Lib.hid hul; have HUN := Lib.hid hun; clear hul hun; clear on_ s_))
    have M_vm : Hid (isMv pS S vm = true) := by show _ = _; rw [← EVM.out]; exact vecM_mv HI.out HVX.out
    have M_um : Hid (isMv pS S um = true) := isMv_of HUL.out HUN.out
    have s_vm := mv_sz h6 M_vm.out
    have s_um := mv_sz h6 M_um.out
    obtain ⟨va, hva⟩ : ∃ v, v = lcM pS S vm y := ⟨_, rfl⟩
    have M_va : Hid (isMv pS S va = true) := by show _ = _; rw [hva]; exact kind_mv HI.out _ _ _
    have s_va := mv_sz h6 M_va.out
    have C_va : Hid (codeMv pS S [vm, y] = 0) := codeMv_ok HI.out (by rw [mv_all2, M_vm.out, MY.out]; rfl)
    have E_va : Hid (lcV pS S vm y = va) := by show _ = _; unfold lcV; rw [if_pos C_va.out, hva]
    obtain ⟨vb, hvb⟩ : ∃ v, v = wgM pS S vm y := ⟨_, rfl⟩
    have M_vb : Hid (isMv pS S vb = true) := by show _ = _; rw [hvb]; exact kind_mv HI.out _ _ _
    have s_vb := mv_sz h6 M_vb.out
    have C_vb : Hid (codeMv pS S [vm, y] = 0) := codeMv_ok HI.out (by rw [mv_all2, M_vm.out, MY.out]; rfl)
    have E_vb : Hid (wgV pS S vm y = vb) := by show _ = _; unfold wgV; rw [if_pos C_vb.out, hvb]
    obtain ⟨vw, hvw⟩ : ∃ v, v = wgM pS S um x := ⟨_, rfl⟩
    have M_vw : Hid (isMv pS S vw = true) := by show _ = _; rw [hvw]; exact kind_mv HI.out _ _ _
    have s_vw := mv_sz h6 M_vw.out
    have C_vw : Hid (codeMv pS S [um, x] = 0) := codeMv_ok HI.out (by rw [mv_all2, M_um.out, MX.out]; rfl)
    have E_vw : Hid (wgV pS S um x = vw) := by show _ = _; unfold wgV; rw [if_pos C_vw.out, hvw]
    obtain ⟨vl, hvl⟩ : ∃ v, v = lcM pS S vw y := ⟨_, rfl⟩
    have M_vl : Hid (isMv pS S vl = true) := by show _ = _; rw [hvl]; exact kind_mv HI.out _ _ _
    have s_vl := mv_sz h6 M_vl.out
    have C_vl : Hid (codeMv pS S [vw, y] = 0) := codeMv_ok HI.out (by rw [mv_all2, M_vw.out, MY.out]; rfl)
    have E_vl : Hid (lcV pS S vw y = vl) := by show _ = _; unfold lcV; rw [if_pos C_vl.out, hvl]
    have C_uz : Hid (codeMv pS S [um, z] = 0) := codeMv_ok HI.out (by rw [mv_all2, M_um.out, M_z.out]; rfl)
    have E_uz : Hid (lcV pS S um z = vl) := by show _ = _; unfold lcV; rw [if_pos C_uz.out, hvl, hvw, ← EZZ.out]; exact (left_wedge pS S um x y).symm
    obtain ⟨sp, hsp⟩ : ∃ v, v = prodM pS S vm y := ⟨_, rfl⟩
    have E_sp : Hid (prodM pS S vm y = sp) := hsp.symm
    have E_pl : Hid (plusR pS va vb 1 = sp) := by show _ = _; rw [hsp, hva, hvb]; refine (prod_split fun a ha h => ?_).symm; rw [← EVM.out] at h; unfold vecM at h; rw [mkR_at _ ha] at h; exact vecF_pow _ h
    have s_sp : sp.length ≤ 1048576 := by rw [hsp, prodM_len]; omega
    have LAB : Hid (va.length = vb.length) := by show _ = _; rw [Mv.len M_va.out, Mv.len M_vb.out]
    have s_pr : pr.length ≤ 1048576 := by rw [LPR.out]; omega
    clear hva hvb hvw hvl hsp
    go_upto_region 18 with (first | (go_at_call 6; (with_reducible refine (impl_LeftContraction pS aS S cS w0.heap.size w.heap.size rvm vm kvm w5.heap.size w11.heap.size ay y cy w0.heap.size w.heap.size w11 (HS.out.below HB11.out tS) (Nat.le_trans tS (HB11.out).size) sS VM_11.out (Nat.le_refl _) s_vm (Hy.out.below HB11.out tS) (Nat.le_trans tS (HB11.out).size) sy).mono ?_); rintro e w12 ⟨rva, kva, rfl, o_, b_⟩; have SS12 := Lib.hid (And.intro ((b_.cell (p := ⟨w.heap.size, 0, none⟩) hd11).trans SS11.out.1) ((b_.cell (p := ⟨w.heap.size, 1, none⟩) hd11).trans SS11.out.2)); have HB12 := Lib.hid (below_step HB11.out (Nat.le_of_lt hd11) b_); have zz_ := b_.size; have hd12 := Nat.lt_of_lt_of_le hd11 zz_; have RZ_12 := Lib.hid (RZ_11.out.below b_ (Nat.le_of_lt HD11.out.lt)); have VM_12 := Lib.hid ((VM_11.out.below b_ (Nat.le_refl _)).mono (Nat.le_refl _) zz_); have UM_12 := Lib.hid ((UM_11.out.below b_ (Nat.le_refl _)).mono (Nat.le_refl _) zz_); have hz12 := Nat.le_trans hz11 zz_; have HD12 := Lib.hid (HD11.out.step b_); rw [E_va.out] at o_; rw [C_va.out, E_va.out]; have o_ := o_.row; have VA_12 := Lib.hid (o_.mono hz11 (Nat.le_refl _)); clear o_; have kc12_0 := SS12.out.1; have kc12_1 := SS12.out.2; clear b_) | (go_at_call 13; (with_reducible refine (impl_WedgeProduct pS aS S cS w0.heap.size w.heap.size rvm vm kvm w5.heap.size w12.heap.size ay y cy w0.heap.size w.heap.size w12 (HS.out.below HB12.out tS) (Nat.le_trans tS (HB12.out).size) sS VM_12.out (Nat.le_refl _) s_vm (Hy.out.below HB12.out tS) (Nat.le_trans tS (HB12.out).size) sy).mono ?_); rintro e w13 ⟨rvb, kvb, rfl, o_, b_⟩; have SS13 := Lib.hid (And.intro ((b_.cell (p := ⟨w.heap.size, 0, none⟩) hd12).trans SS12.out.1) ((b_.cell (p := ⟨w.heap.size, 1, none⟩) hd12).trans SS12.out.2)); have HB13 := Lib.hid (below_step HB12.out (Nat.le_of_lt hd12) b_); have zz_ := b_.size; have hd13 := Nat.lt_of_lt_of_le hd12 zz_; have RZ_13 := Lib.hid (RZ_12.out.below b_ (Nat.le_of_lt HD12.out.lt)); have VM_13 := Lib.hid ((VM_12.out.below b_ (Nat.le_refl _)).mono (Nat.le_refl _) zz_); have UM_13 := Lib.hid ((UM_12.out.below b_ (Nat.le_refl _)).mono (Nat.le_refl _) zz_); have VA_13 := Lib.hid ((VA_12.out.below b_ (Nat.le_refl _)).mono (Nat.le_refl _) zz_); have hz13 := Nat.le_trans hz12 zz_; have HD13 := Lib.hid (HD12.out.step b_); rw [E_vb.out] at o_; rw [C_vb.out, E_vb.out]; have o_ := o_.row; have VB_13 := Lib.hid (o_.mono hz12 (Nat.le_refl _)); clear o_; have kc13_0 := SS13.out.1; have kc13_1 := SS13.out.2; clear b_) | (go_at_call 13; (with_reducible refine (impl_WedgeProduct pS aS S cS w0.heap.size w.heap.size rum um kum w5.heap.size w13.heap.size ax x cx w0.heap.size w.heap.size w13 (HS.out.below HB13.out tS) (Nat.le_trans tS (HB13.out).size) sS UM_13.out (Nat.le_refl _) s_um (Hx.out.below HB13.out tS) (Nat.le_trans tS (HB13.out).size) sx).mono ?_); rintro e w14 ⟨rvw, kvw, rfl, o_, b_⟩; have SS14 := Lib.hid (And.intro ((b_.cell (p := ⟨w.heap.size, 0, none⟩) hd13).trans SS13.out.1) ((b_.cell (p := ⟨w.heap.size, 1, none⟩) hd13).trans SS13.out.2)); have HB14 := Lib.hid (below_step HB13.out (Nat.le_of_lt hd13) b_); have zz_ := b_.size; have hd14 := Nat.lt_of_lt_of_le hd13 zz_; have RZ_14 := Lib.hid (RZ_13.out.below b_ (Nat.le_of_lt HD13.out.lt)); have VM_14 := Lib.hid ((VM_13.out.below b_ (Nat.le_refl _)).mono (Nat.le_refl _) zz_); have UM_14 := Lib.hid ((UM_13.out.below b_ (Nat.le_refl _)).mono (Nat.le_refl _) zz_); have VA_14 := Lib.hid ((VA_13.out.below b_ (Nat.le_refl _)).mono (Nat.le_refl _) zz_); have VB_14 := Lib.hid ((VB_13.out.below b_ (Nat.le_refl _)).mono (Nat.le_refl _) zz_); have hz14 := Nat.le_trans hz13 zz_; have HD14 := Lib.hid (HD13.out.step b_); rw [E_vw.out] at o_; rw [C_vw.out, E_vw.out]; have o_ := o_.row; have VW_14 := Lib.hid (o_.mono hz13 (Nat.le_refl _)); clear o_; have kc14_0 := SS14.out.1; have kc14_1 := SS14.out.2; clear b_) | (go_at_call 6; (with_reducible refine (impl_LeftContraction pS aS S cS w0.heap.size w.heap.size rvw vw kvw w5.heap.size w14.heap.size ay y cy w0.heap.size w.heap.size w14 (HS.out.below HB14.out tS) (Nat.le_trans tS (HB14.out).size) sS VW_14.out (Nat.le_refl _) s_vw (Hy.out.below HB14.out tS) (Nat.le_trans tS (HB14.out).size) sy).mono ?_); rintro e w15 ⟨rvl, kvl, rfl, o_, b_⟩; have SS15 := Lib.hid (And.intro ((b_.cell (p := ⟨w.heap.size, 0, none⟩) hd14).trans SS14.out.1) ((b_.cell (p := ⟨w.heap.size, 1, none⟩) hd14).trans SS14.out.2)); have HB15 := Lib.hid (below_step HB14.out (Nat.le_of_lt hd14) b_); have zz_ := b_.size; have hd15 := Nat.lt_of_lt_of_le hd14 zz_; have RZ_15 := Lib.hid (RZ_14.out.below b_ (Nat.le_of_lt HD14.out.lt)); have VM_15 := Lib.hid ((VM_14.out.below b_ (Nat.le_refl _)).mono (Nat.le_refl _) zz_); have UM_15 := Lib.hid ((UM_14.out.below b_ (Nat.le_refl _)).mono (Nat.le_refl _) zz_); have VA_15 := Lib.hid ((VA_14.out.below b_ (Nat.le_refl _)).mono (Nat.le_refl _) zz_); have VB_15 := Lib.hid ((VB_14.out.below b_ (Nat.le_refl _)).mono (Nat.le_refl _) zz_); have VW_15 := Lib.hid ((VW_14.out.below b_ (Nat.le_refl _)).mono (Nat.le_refl _) zz_); have hz15 := Nat.le_trans hz14 zz_; have HD15 := Lib.hid (HD14.out.step b_); rw [E_vl.out] at o_; rw [C_vl.out, E_vl.out]; have o_ := o_.row; have VL_15 := Lib.hid (o_.mono hz14 (Nat.le_refl _)); clear o_; have kc15_0 := SS15.out.1; have kc15_1 := SS15.out.2; clear b_) | (go_at_call 6; (with_reducible refine (impl_LeftContraction pS aS S cS w0.heap.size w.heap.size rum um kum w5.heap.size w15.heap.size rz z kz w.heap.size bd w15 (HS.out.below HB15.out tS) (Nat.le_trans tS (HB15.out).size) sS UM_15.out (Nat.le_refl _) s_um RZ_15.out (Nat.le_of_lt HD15.out.lt) s_z).mono ?_); rintro e w16 ⟨rvr5, kvr5, rfl, o_, b_⟩; have SS16 := Lib.hid (And.intro ((b_.cell (p := ⟨w.heap.size, 0, none⟩) hd15).trans SS15.out.1) ((b_.cell (p := ⟨w.heap.size, 1, none⟩) hd15).trans SS15.out.2)); have HB16 := Lib.hid (below_step HB15.out (Nat.le_of_lt hd15) b_); have zz_ := b_.size; have hd16 := Nat.lt_of_lt_of_le hd15 zz_; have RZ_16 := Lib.hid (RZ_15.out.below b_ (Nat.le_of_lt HD15.out.lt)); have VM_16 := Lib.hid ((VM_15.out.below b_ (Nat.le_refl _)).mono (Nat.le_refl _) zz_); have UM_16 := Lib.hid ((UM_15.out.below b_ (Nat.le_refl _)).mono (Nat.le_refl _) zz_); have VA_16 := Lib.hid ((VA_15.out.below b_ (Nat.le_refl _)).mono (Nat.le_refl _) zz_); have VB_16 := Lib.hid ((VB_15.out.below b_ (Nat.le_refl _)).mono (Nat.le_refl _) zz_); have VW_16 := Lib.hid ((VW_15.out.below b_ (Nat.le_refl _)).mono (Nat.le_refl _) zz_); have VL_16 := Lib.hid ((VL_15.out.below b_ (Nat.le_refl _)).mono (Nat.le_refl _) zz_); have hz16 := Nat.le_trans hz15 zz_; have HD16 := Lib.hid (HD15.out.step b_); rw [E_uz.out] at o_; rw [C_uz.out, E_uz.out]; have o_ := o_.row; have VR_16 := Lib.hid (o_.mono hz15 (Nat.le_refl _)); clear o_; have kc16_0 := SS16.out.1; have kc16_1 := SS16.out.2; clear b_))
    go_upto_region 26 with (first | (go_at_call 14; (with_reducible refine (impl_ReverseOf pS aS S cS w0.heap.size w.heap.size ax x cx w0.heap.size w.heap.size w16 (HS.out.below HB16.out tS) (Nat.le_trans tS (HB16.out).size) sS (Hx.out.below HB16.out tS) (Nat.le_trans tS (HB16.out).size) sx).mono ?_); rintro e w17 ⟨rp5, kp5, rfl, o_, b_⟩; have SS17 := Lib.hid (And.intro ((b_.cell (p := ⟨w.heap.size, 0, none⟩) hd16).trans SS16.out.1) ((b_.cell (p := ⟨w.heap.size, 1, none⟩) hd16).trans SS16.out.2)); have HB17 := Lib.hid (below_step HB16.out (Nat.le_of_lt hd16) b_); have zz_ := b_.size; have hd17 := Nat.lt_of_lt_of_le hd16 zz_; have RZ_17 := Lib.hid (RZ_16.out.below b_ (Nat.le_of_lt HD16.out.lt)); have VM_17 := Lib.hid ((VM_16.out.below b_ (Nat.le_refl _)).mono (Nat.le_refl _) zz_); have VA_17 := Lib.hid ((VA_16.out.below b_ (Nat.le_refl _)).mono (Nat.le_refl _) zz_); have VB_17 := Lib.hid ((VB_16.out.below b_ (Nat.le_refl _)).mono (Nat.le_refl _) zz_); have VL_17 := Lib.hid ((VL_16.out.below b_ (Nat.le_refl _)).mono (Nat.le_refl _) zz_); have VR_17 := Lib.hid ((VR_16.out.below b_ (Nat.le_refl _)).mono (Nat.le_refl _) zz_); have hz17 := Nat.le_trans hz16 zz_; have HD17 := Lib.hid (HD16.out.step b_); rw [E_vp.out] at o_; rw [C_x.out, E_vp.out]; have o_ := o_.row; have P_17 := Lib.hid (o_.mono hz16 (Nat.le_refl _)); clear o_; have kc17_0 := SS17.out.1; have kc17_1 := SS17.out.2; clear b_) | (go_at_call 14; (with_reducible refine (impl_ReverseOf pS aS S cS w0.heap.size w.heap.size ay y cy w0.heap.size w.heap.size w17 (HS.out.below HB17.out tS) (Nat.le_trans tS (HB17.out).size) sS (Hy.out.below HB17.out tS) (Nat.le_trans tS (HB17.out).size) sy).mono ?_); rintro e w18 ⟨rq5, kq5, rfl, o_, b_⟩; have SS18 := Lib.hid (And.intro ((b_.cell (p := ⟨w.heap.size, 0, none⟩) hd17).trans SS17.out.1) ((b_.cell (p := ⟨w.heap.size, 1, none⟩) hd17).trans SS17.out.2)); have HB18 := Lib.hid (below_step HB17.out (Nat.le_of_lt hd17) b_); have zz_ := b_.size; have hd18 := Nat.lt_of_lt_of_le hd17 zz_; have RZ_18 := Lib.hid (RZ_17.out.below b_ (Nat.le_of_lt HD17.out.lt)); have VM_18 := Lib.hid ((VM_17.out.below b_ (Nat.le_refl _)).mono (Nat.le_refl _) zz_); have VA_18 := Lib.hid ((VA_17.out.below b_ (Nat.le_refl _)).mono (Nat.le_refl _) zz_); have VB_18 := Lib.hid ((VB_17.out.below b_ (Nat.le_refl _)).mono (Nat.le_refl _) zz_); have VL_18 := Lib.hid ((VL_17.out.below b_ (Nat.le_refl _)).mono (Nat.le_refl _) zz_); have VR_18 := Lib.hid ((VR_17.out.below b_ (Nat.le_refl _)).mono (Nat.le_refl _) zz_); have P_18 := Lib.hid ((P_17.out.below b_ (Nat.le_refl _)).mono (Nat.le_refl _) zz_); have hz18 := Nat.le_trans hz17 zz_; have HD18 := Lib.hid (HD17.out.step b_); rw [E_vq.out] at o_; rw [C_y.out, E_vq.out]; have o_ := o_.row; have Q_18 := Lib.hid (o_.mono hz17 (Nat.le_refl _)); clear o_; have kc18_0 := SS18.out.1; have kc18_1 := SS18.out.2; clear b_) | (go_at_call 14; (with_reducible refine (impl_ReverseOf pS aS S cS w0.heap.size w.heap.size rz z kz w.heap.size bd w18 (HS.out.below HB18.out tS) (Nat.le_trans tS (HB18.out).size) sS RZ_18.out (Nat.le_of_lt HD18.out.lt) s_z).mono ?_); rintro e w19 ⟨rt5, kt5, rfl, o_, b_⟩; have SS19 := Lib.hid (And.intro ((b_.cell (p := ⟨w.heap.size, 0, none⟩) hd18).trans SS18.out.1) ((b_.cell (p := ⟨w.heap.size, 1, none⟩) hd18).trans SS18.out.2)); have HB19 := Lib.hid (below_step HB18.out (Nat.le_of_lt hd18) b_); have zz_ := b_.size; have hd19 := Nat.lt_of_lt_of_le hd18 zz_; have RZ_19 := Lib.hid (RZ_18.out.below b_ (Nat.le_of_lt HD18.out.lt)); have VM_19 := Lib.hid ((VM_18.out.below b_ (Nat.le_refl _)).mono (Nat.le_refl _) zz_); have VA_19 := Lib.hid ((VA_18.out.below b_ (Nat.le_refl _)).mono (Nat.le_refl _) zz_); have VB_19 := Lib.hid ((VB_18.out.below b_ (Nat.le_refl _)).mono (Nat.le_refl _) zz_); have VL_19 := Lib.hid ((VL_18.out.below b_ (Nat.le_refl _)).mono (Nat.le_refl _) zz_); have VR_19 := Lib.hid ((VR_18.out.below b_ (Nat.le_refl _)).mono (Nat.le_refl _) zz_); have P_19 := Lib.hid ((P_18.out.below b_ (Nat.le_refl _)).mono (Nat.le_refl _) zz_); have Q_19 := Lib.hid ((Q_18.out.below b_ (Nat.le_refl _)).mono (Nat.le_refl _) zz_); have hz19 := Nat.le_trans hz18 zz_; have HD19 := Lib.hid (HD18.out.step b_); rw [E_vr.out] at o_; rw [C_z.out, E_vr.out]; have o_ := o_.row; have R_19 := Lib.hid (o_.mono hz18 (Nat.le_refl _)); clear o_; have kc19_0 := SS19.out.1; have kc19_1 := SS19.out.2; clear b_) | (go_at_call 15; (with_reducible refine (impl_RightContraction pS aS S cS w0.heap.size w.heap.size rq5 vq kq5 w5.heap.size w19.heap.size rp5 vp kp5 w5.heap.size w19.heap.size w19 (HS.out.below HB19.out tS) (Nat.le_trans tS (HB19.out).size) sS Q_19.out (Nat.le_refl _) s_vq P_19.out (Nat.le_refl _) s_vp).mono ?_); rintro e w20 ⟨rtu, ktu, rfl, o_, b_⟩; have SS20 := Lib.hid (And.intro ((b_.cell (p := ⟨w.heap.size, 0, none⟩) hd19).trans SS19.out.1) ((b_.cell (p := ⟨w.heap.size, 1, none⟩) hd19).trans SS19.out.2)); have HB20 := Lib.hid (below_step HB19.out (Nat.le_of_lt hd19) b_); have zz_ := b_.size; have hd20 := Nat.lt_of_lt_of_le hd19 zz_; have VM_20 := Lib.hid ((VM_19.out.below b_ (Nat.le_refl _)).mono (Nat.le_refl _) zz_); have VA_20 := Lib.hid ((VA_19.out.below b_ (Nat.le_refl _)).mono (Nat.le_refl _) zz_); have VB_20 := Lib.hid ((VB_19.out.below b_ (Nat.le_refl _)).mono (Nat.le_refl _) zz_); have VL_20 := Lib.hid ((VL_19.out.below b_ (Nat.le_refl _)).mono (Nat.le_refl _) zz_); have VR_20 := Lib.hid ((VR_19.out.below b_ (Nat.le_refl _)).mono (Nat.le_refl _) zz_); have P_20 := Lib.hid ((P_19.out.below b_ (Nat.le_refl _)).mono (Nat.le_refl _) zz_); have Q_20 := Lib.hid ((Q_19.out.below b_ (Nat.le_refl _)).mono (Nat.le_refl _) zz_); have R_20 := Lib.hid ((R_19.out.below b_ (Nat.le_refl _)).mono (Nat.le_refl _) zz_); have hz20 := Nat.le_trans hz19 zz_; have HD20 := Lib.hid (HD19.out.step b_); rw [E_t.out] at o_; rw [C_qp.out, E_t.out]; have o_ := o_.row; have TU_20 := Lib.hid (o_.mono hz19 (Nat.le_refl _)); clear o_; have kc20_0 := SS20.out.1; have kc20_1 := SS20.out.2; clear b_) | (go_at_call 16; (with_reducible refine (impl_ScalarProduct pS aS S cS w0.heap.size w.heap.size ax x cx w0.heap.size w.heap.size ay y cy w0.heap.size w.heap.size w20 (HS.out.below HB20.out tS) (Nat.le_trans tS (HB20.out).size) sS (Hx.out.below HB20.out tS) (Nat.le_trans tS (HB20.out).size) sx (Hy.out.below HB20.out tS) (Nat.le_trans tS (HB20.out).size) sy).mono ?_); rintro e w21 ⟨rfl, b_⟩; have SS21 := Lib.hid (And.intro ((b_.cell (p := ⟨w.heap.size, 0, none⟩) hd20).trans SS20.out.1) ((b_.cell (p := ⟨w.heap.size, 1, none⟩) hd20).trans SS20.out.2)); have HB21 := Lib.hid (below_step HB20.out (Nat.le_of_lt hd20) b_); have zz_ := b_.size; have hd21 := Nat.lt_of_lt_of_le hd20 zz_; have VM_21 := Lib.hid ((VM_20.out.below b_ (Nat.le_refl _)).mono (Nat.le_refl _) zz_); have VA_21 := Lib.hid ((VA_20.out.below b_ (Nat.le_refl _)).mono (Nat.le_refl _) zz_); have VB_21 := Lib.hid ((VB_20.out.below b_ (Nat.le_refl _)).mono (Nat.le_refl _) zz_); have VL_21 := Lib.hid ((VL_20.out.below b_ (Nat.le_refl _)).mono (Nat.le_refl _) zz_); have VR_21 := Lib.hid ((VR_20.out.below b_ (Nat.le_refl _)).mono (Nat.le_refl _) zz_); have P_21 := Lib.hid ((P_20.out.below b_ (Nat.le_refl _)).mono (Nat.le_refl _) zz_); have R_21 := Lib.hid ((R_20.out.below b_ (Nat.le_refl _)).mono (Nat.le_refl _) zz_); have TU_21 := Lib.hid ((TU_20.out.below b_ (Nat.le_refl _)).mono (Nat.le_refl _) zz_); have hz21 := Nat.le_trans hz20 zz_; have HD21 := Lib.hid (HD20.out.step b_); rw [HC.out, E_sc.out]; have kc21_0 := SS21.out.1; have kc21_1 := SS21.out.2; clear b_) | (go_at_call 17; (with_reducible refine (times5_any pS aS S cS w0.heap.size w.heap.size rp5 vp kp5 w5.heap.size w21.heap.size ay y cy w0.heap.size w.heap.size w21 HI.out (HS.out.below HB21.out tS) (Nat.le_trans tS (HB21.out).size) P_21.out (Nat.le_refl _) M_vp.out (Hy.out.below HB21.out tS) (Nat.le_trans tS (HB21.out).size) MY.out).mono ?_); rintro e w22 ⟨rpr5, kpr5, rfl, o_, b_⟩; have SS22 := Lib.hid (And.intro ((b_.cell (p := ⟨w.heap.size, 0, none⟩) hd21).trans SS21.out.1) ((b_.cell (p := ⟨w.heap.size, 1, none⟩) hd21).trans SS21.out.2)); have HB22 := Lib.hid (below_step HB21.out (Nat.le_of_lt hd21) b_); have zz_ := b_.size; have hd22 := Nat.lt_of_lt_of_le hd21 zz_; have VM_22 := Lib.hid ((VM_21.out.below b_ (Nat.le_refl _)).mono (Nat.le_refl _) zz_); have VA_22 := Lib.hid ((VA_21.out.below b_ (Nat.le_refl _)).mono (Nat.le_refl _) zz_); have VB_22 := Lib.hid ((VB_21.out.below b_ (Nat.le_refl _)).mono (Nat.le_refl _) zz_); have VL_22 := Lib.hid ((VL_21.out.below b_ (Nat.le_refl _)).mono (Nat.le_refl _) zz_); have VR_22 := Lib.hid ((VR_21.out.below b_ (Nat.le_refl _)).mono (Nat.le_refl _) zz_); have P_22 := Lib.hid ((P_21.out.below b_ (Nat.le_refl _)).mono (Nat.le_refl _) zz_); have R_22 := Lib.hid ((R_21.out.below b_ (Nat.le_refl _)).mono (Nat.le_refl _) zz_); have TU_22 := Lib.hid ((TU_21.out.below b_ (Nat.le_refl _)).mono (Nat.le_refl _) zz_); have hz22 := Nat.le_trans hz21 zz_; have HD22 := Lib.hid (HD21.out.step b_); rw [E_pr.out] at o_ ⊢; have PR_22 := Lib.hid (o_.mono hz21 (Nat.le_refl _)); clear o_; have kc22_0 := SS22.out.1; have kc22_1 := SS22.out.2; clear b_))
    obtain ⟨bp, op, rfl⟩ : ∃ b o, rpr5 = some ⟨b, o, none⟩ := by
      rcases PR_22.out with h | ⟨b', o', ha, _⟩
      · exfalso; rw [h] at hpl2; exact absurd hpl2 (by simp)
      · exact ⟨b', o', ha⟩
    have hpr0 : 0 < pr.length := by omega
    have SS23 : Hid (w22.drew.cell? ⟨w.heap.size, 0, none⟩ = some (.int .i64 pS) ∧ w22.drew.cell? ⟨w.heap.size, 1, none⟩ = some (.slice aS S.length cS)) := SS22.out
    have HB23 : Hid (Below w.heap.size w w22.drew) := (HB22.out).drew
    have hd23 : w.heap.size < w22.drew.heap.size := hd22
    have VM_23 := Lib.hid ((VM_22.out.below (below_drew w22) (Nat.le_refl _)).mono (Nat.le_refl _) (size_drew w22))
    have VA_23 := Lib.hid ((VA_22.out.below (below_drew w22) (Nat.le_refl _)).mono (Nat.le_refl _) (size_drew w22))
    have VB_23 := Lib.hid ((VB_22.out.below (below_drew w22) (Nat.le_refl _)).mono (Nat.le_refl _) (size_drew w22))
    have VL_23 := Lib.hid ((VL_22.out.below (below_drew w22) (Nat.le_refl _)).mono (Nat.le_refl _) (size_drew w22))
    have VR_23 := Lib.hid ((VR_22.out.below (below_drew w22) (Nat.le_refl _)).mono (Nat.le_refl _) (size_drew w22))
    have R_23 := Lib.hid ((R_22.out.below (below_drew w22) (Nat.le_refl _)).mono (Nat.le_refl _) (size_drew w22))
    have TU_23 := Lib.hid ((TU_22.out.below (below_drew w22) (Nat.le_refl _)).mono (Nat.le_refl _) (size_drew w22))
    have PR_23 := Lib.hid ((PR_22.out.below (below_drew w22) (Nat.le_refl _)).mono (Nat.le_refl _) (size_drew w22))
    have hz23 : w5.heap.size ≤ w22.drew.heap.size := hz22
    have HD23 := Lib.hid (HD22.out.step (below_drew w22))
    go_region_held3 (fun w' => w'.cell? ⟨w.heap.size, 0, none⟩ = some (.int .i64 pS) ∧ w'.cell? ⟨w.heap.size, 1, none⟩ = some (.slice aS S.length cS) ∧ w'.cell? ⟨bp, op, none⟩ = some (.int .i64 kk)) (first | exact ⟨SS23.out.1, SS23.out.2, row_head PR_23.out hpr0 E_k.out⟩ | exact ⟨SS24.out.1, SS24.out.2, row_head PR_24.out hpr0 E_k.out⟩ | exact ⟨SS25.out.1, SS25.out.2, row_head PR_25.out hpr0 E_k.out⟩ | exact ⟨SS26.out.1, SS26.out.2, row_head PR_26.out hpr0 E_k.out⟩ | exact ⟨SS27.out.1, SS27.out.2, row_head PR_27.out hpr0 E_k.out⟩ | exact ⟨SS28.out.1, SS28.out.2, row_head PR_28.out hpr0 E_k.out⟩ | go_keep) (first | (go_at_call 17; (with_reducible refine (times5_any pS aS S cS w0.heap.size w.heap.size rvm vm kvm w5.heap.size w22.drew.heap.size ay y cy w0.heap.size w.heap.size w22.drew HI.out (HS.out.below HB23.out tS) (Nat.le_trans tS (HB23.out).size) VM_23.out (Nat.le_refl _) M_vm.out (Hy.out.below HB23.out tS) (Nat.le_trans tS (HB23.out).size) MY.out).mono ?_); rintro e w24 ⟨rsp5, ksp5, rfl, o_, b_⟩; have SS24 := Lib.hid (And.intro ((b_.cell (p := ⟨w.heap.size, 0, none⟩) hd23).trans SS23.out.1) ((b_.cell (p := ⟨w.heap.size, 1, none⟩) hd23).trans SS23.out.2)); have HB24 := Lib.hid (below_step HB23.out (Nat.le_of_lt hd23) b_); have zz_ := b_.size; have hd24 := Nat.lt_of_lt_of_le hd23 zz_; have VM_24 := Lib.hid ((VM_23.out.below b_ (Nat.le_refl _)).mono (Nat.le_refl _) zz_); have VA_24 := Lib.hid ((VA_23.out.below b_ (Nat.le_refl _)).mono (Nat.le_refl _) zz_); have VB_24 := Lib.hid ((VB_23.out.below b_ (Nat.le_refl _)).mono (Nat.le_refl _) zz_); have VL_24 := Lib.hid ((VL_23.out.below b_ (Nat.le_refl _)).mono (Nat.le_refl _) zz_); have VR_24 := Lib.hid ((VR_23.out.below b_ (Nat.le_refl _)).mono (Nat.le_refl _) zz_); have R_24 := Lib.hid ((R_23.out.below b_ (Nat.le_refl _)).mono (Nat.le_refl _) zz_); have TU_24 := Lib.hid ((TU_23.out.below b_ (Nat.le_refl _)).mono (Nat.le_refl _) zz_); have PR_24 := Lib.hid ((PR_23.out.below b_ (Nat.le_refl _)).mono (Nat.le_refl _) zz_); have hz24 := Nat.le_trans hz23 zz_; have HD24 := Lib.hid (HD23.out.step b_); rw [E_sp.out] at o_ ⊢; have SP_24 := Lib.hid (o_.mono hz23 (Nat.le_refl _)); clear o_; have kc24_0 := SS24.out.1; have kc24_1 := SS24.out.2; clear b_) | (go_at_call 18; (with_reducible refine (plus5_any pS 1 rva rvb va vb kva kvb w5.heap.size w24.heap.size w5.heap.size w24.heap.size w24 HP.out VA_24.out VB_24.out (Nat.le_refl _) (Nat.le_refl _) LAB.out s_va (Mv.num M_va.out) (Mv.num M_vb.out) (by omega) (by omega)).mono ?_); rintro e w25 ⟨rpl, kpl, rfl, o_, b_⟩; have SS25 := Lib.hid (And.intro ((b_.cell (p := ⟨w.heap.size, 0, none⟩) hd24).trans SS24.out.1) ((b_.cell (p := ⟨w.heap.size, 1, none⟩) hd24).trans SS24.out.2)); have HB25 := Lib.hid (below_step HB24.out (Nat.le_of_lt hd24) b_); have zz_ := b_.size; have hd25 := Nat.lt_of_lt_of_le hd24 zz_; have VM_25 := Lib.hid ((VM_24.out.below b_ (Nat.le_refl _)).mono (Nat.le_refl _) zz_); have VA_25 := Lib.hid ((VA_24.out.below b_ (Nat.le_refl _)).mono (Nat.le_refl _) zz_); have VB_25 := Lib.hid ((VB_24.out.below b_ (Nat.le_refl _)).mono (Nat.le_refl _) zz_); have VL_25 := Lib.hid ((VL_24.out.below b_ (Nat.le_refl _)).mono (Nat.le_refl _) zz_); have VR_25 := Lib.hid ((VR_24.out.below b_ (Nat.le_refl _)).mono (Nat.le_refl _) zz_); have R_25 := Lib.hid ((R_24.out.below b_ (Nat.le_refl _)).mono (Nat.le_refl _) zz_); have TU_25 := Lib.hid ((TU_24.out.below b_ (Nat.le_refl _)).mono (Nat.le_refl _) zz_); have PR_25 := Lib.hid ((PR_24.out.below b_ (Nat.le_refl _)).mono (Nat.le_refl _) zz_); have SP_25 := Lib.hid ((SP_24.out.below b_ (Nat.le_refl _)).mono (Nat.le_refl _) zz_); have hz25 := Nat.le_trans hz24 zz_; have HD25 := Lib.hid (HD24.out.step b_); rw [E_pl.out] at o_ ⊢; have o_ := o_.row; have PL_25 := Lib.hid (o_.mono hz24 (Nat.le_refl _)); clear o_; have kc25_0 := SS25.out.1; have kc25_1 := SS25.out.2; clear b_) | (go_at_call 8; (with_reducible refine (likeInts_same rsp5 rpl sp ksp5 kpl w5.heap.size w25.heap.size w5.heap.size w25.heap.size w25 SP_25.out PL_25.out s_sp).mono ?_); rintro e w26 ⟨rfl, q_⟩; have b_ := q_.below w25.heap.size; have SS26 := Lib.hid (And.intro ((b_.cell (p := ⟨w.heap.size, 0, none⟩) hd25).trans SS25.out.1) ((b_.cell (p := ⟨w.heap.size, 1, none⟩) hd25).trans SS25.out.2)); have HB26 := Lib.hid (below_step HB25.out (Nat.le_of_lt hd25) b_); have zz_ := b_.size; have hd26 := Nat.lt_of_lt_of_le hd25 zz_; have VM_26 := Lib.hid ((VM_25.out.below b_ (Nat.le_refl _)).mono (Nat.le_refl _) zz_); have VA_26 := Lib.hid ((VA_25.out.below b_ (Nat.le_refl _)).mono (Nat.le_refl _) zz_); have VB_26 := Lib.hid ((VB_25.out.below b_ (Nat.le_refl _)).mono (Nat.le_refl _) zz_); have VL_26 := Lib.hid ((VL_25.out.below b_ (Nat.le_refl _)).mono (Nat.le_refl _) zz_); have VR_26 := Lib.hid ((VR_25.out.below b_ (Nat.le_refl _)).mono (Nat.le_refl _) zz_); have R_26 := Lib.hid ((R_25.out.below b_ (Nat.le_refl _)).mono (Nat.le_refl _) zz_); have TU_26 := Lib.hid ((TU_25.out.below b_ (Nat.le_refl _)).mono (Nat.le_refl _) zz_); have PR_26 := Lib.hid ((PR_25.out.below b_ (Nat.le_refl _)).mono (Nat.le_refl _) zz_); have SP_26 := Lib.hid ((SP_25.out.below b_ (Nat.le_refl _)).mono (Nat.le_refl _) zz_); have PL_26 := Lib.hid ((PL_25.out.below b_ (Nat.le_refl _)).mono (Nat.le_refl _) zz_); have hz26 := Nat.le_trans hz25 zz_; have HD26 := Lib.hid (HD25.out.step b_); have kc26_0 := SS26.out.1; have kc26_1 := SS26.out.2; clear q_; clear b_) | (go_at_call 8; (with_reducible refine (likeInts_same rvl rvr5 vl kvl kvr5 w5.heap.size w26.heap.size w5.heap.size w26.heap.size w26 VL_26.out VR_26.out s_vl).mono ?_); rintro e w27 ⟨rfl, q_⟩; have b_ := q_.below w26.heap.size; have SS27 := Lib.hid (And.intro ((b_.cell (p := ⟨w.heap.size, 0, none⟩) hd26).trans SS26.out.1) ((b_.cell (p := ⟨w.heap.size, 1, none⟩) hd26).trans SS26.out.2)); have HB27 := Lib.hid (below_step HB26.out (Nat.le_of_lt hd26) b_); have zz_ := b_.size; have hd27 := Nat.lt_of_lt_of_le hd26 zz_; have VM_27 := Lib.hid ((VM_26.out.below b_ (Nat.le_refl _)).mono (Nat.le_refl _) zz_); have VA_27 := Lib.hid ((VA_26.out.below b_ (Nat.le_refl _)).mono (Nat.le_refl _) zz_); have VB_27 := Lib.hid ((VB_26.out.below b_ (Nat.le_refl _)).mono (Nat.le_refl _) zz_); have VL_27 := Lib.hid ((VL_26.out.below b_ (Nat.le_refl _)).mono (Nat.le_refl _) zz_); have VR_27 := Lib.hid ((VR_26.out.below b_ (Nat.le_refl _)).mono (Nat.le_refl _) zz_); have R_27 := Lib.hid ((R_26.out.below b_ (Nat.le_refl _)).mono (Nat.le_refl _) zz_); have TU_27 := Lib.hid ((TU_26.out.below b_ (Nat.le_refl _)).mono (Nat.le_refl _) zz_); have PR_27 := Lib.hid ((PR_26.out.below b_ (Nat.le_refl _)).mono (Nat.le_refl _) zz_); have hz27 := Nat.le_trans hz26 zz_; have HD27 := Lib.hid (HD26.out.step b_); have kc27_0 := SS27.out.1; have kc27_1 := SS27.out.2; clear q_; clear b_) | (go_at_call 8; (with_reducible refine (likeInts_same rtu rt5 vr ktu kt5 w5.heap.size w27.heap.size w5.heap.size w27.heap.size w27 TU_27.out R_27.out s_vr).mono ?_); rintro e w28 ⟨rfl, q_⟩; have b_ := q_.below w27.heap.size; have SS28 := Lib.hid (And.intro ((b_.cell (p := ⟨w.heap.size, 0, none⟩) hd27).trans SS27.out.1) ((b_.cell (p := ⟨w.heap.size, 1, none⟩) hd27).trans SS27.out.2)); have HB28 := Lib.hid (below_step HB27.out (Nat.le_of_lt hd27) b_); have zz_ := b_.size; have hd28 := Nat.lt_of_lt_of_le hd27 zz_; have VM_28 := Lib.hid ((VM_27.out.below b_ (Nat.le_refl _)).mono (Nat.le_refl _) zz_); have VA_28 := Lib.hid ((VA_27.out.below b_ (Nat.le_refl _)).mono (Nat.le_refl _) zz_); have VB_28 := Lib.hid ((VB_27.out.below b_ (Nat.le_refl _)).mono (Nat.le_refl _) zz_); have R_28 := Lib.hid ((R_27.out.below b_ (Nat.le_refl _)).mono (Nat.le_refl _) zz_); have TU_28 := Lib.hid ((TU_27.out.below b_ (Nat.le_refl _)).mono (Nat.le_refl _) zz_); have PR_28 := Lib.hid ((PR_27.out.below b_ (Nat.le_refl _)).mono (Nat.le_refl _) zz_); have hz28 := Nat.le_trans hz27 zz_; have HD28 := Lib.hid (HD27.out.step b_); have kc28_0 := SS28.out.1; have kc28_1 := SS28.out.2; clear q_; clear b_))
    go_wp2
    go_ret
    exact ⟨rfl, HB00.out.trans (HB28.out.mono HB00.out.size)⟩
  · have HI := Lib.hid hi
    have HC := Lib.hid hc
    obtain ⟨z, hz⟩ : ∃ z, z = lcV pS S x y := ⟨_, rfl⟩
    have EZ : Hid (lcV pS S x y = z) := hz.symm
    have s_z : z.length ≤ 1048576 := by rw [hz]; exact lcV_size _ _ _ _
    clear hi hc hz ha
    go_wp2_with (first | (go_at_call 6; (with_reducible refine (impl_LeftContraction pS aS S cS w0.heap.size w.heap.size ax x cx w0.heap.size w.heap.size ay y cy w0.heap.size w.heap.size w1 (HS.out.below HB1.out tS) (Nat.le_trans tS (HB1.out).size) sS (Hx.out.below HB1.out tS) (Nat.le_trans tS (HB1.out).size) sx (Hy.out.below HB1.out tS) (Nat.le_trans tS (HB1.out).size) sy).mono ?_); rintro e w2 ⟨rz, kz, rfl, o_, b_⟩; have SS2 := Lib.hid (And.intro ((b_.cell (p := ⟨w.heap.size, 0, none⟩) hd1).trans SS1.out.1) ((b_.cell (p := ⟨w.heap.size, 1, none⟩) hd1).trans SS1.out.2)); have HB2 := Lib.hid (below_step HB1.out (Nat.le_of_lt hd1) b_); have zz_ := b_.size; have hd2 := Nat.lt_of_lt_of_le hd1 zz_; rw [EZ.out] at o_; rw [HC.out, EZ.out]; have o_ := o_.row; have RZ_2 := Lib.hid (o_.mono (Nat.le_of_lt hd1) (Nat.le_refl _)); clear o_; have kc2_0 := SS2.out.1; have kc2_1 := SS2.out.2; clear b_) | (go_at_call 7; (with_reducible refine (spec_LeftContraction pS aS S cS w0.heap.size w.heap.size ax x cx w0.heap.size w.heap.size ay y cy w0.heap.size w.heap.size w2 (HS.out.below HB2.out tS) (Nat.le_trans tS (HB2.out).size) sS (Hx.out.below HB2.out tS) (Nat.le_trans tS (HB2.out).size) sx (Hy.out.below HB2.out tS) (Nat.le_trans tS (HB2.out).size) sy).mono ?_); rintro e w3 ⟨rwt, kwt, rfl, o_, b_⟩; have SS3 := Lib.hid (And.intro ((b_.cell (p := ⟨w.heap.size, 0, none⟩) hd2).trans SS2.out.1) ((b_.cell (p := ⟨w.heap.size, 1, none⟩) hd2).trans SS2.out.2)); have HB3 := Lib.hid (below_step HB2.out (Nat.le_of_lt hd2) b_); have zz_ := b_.size; have hd3 := Nat.lt_of_lt_of_le hd2 zz_; have RZ_3 := Lib.hid ((RZ_2.out.below b_ (Nat.le_refl _)).mono (Nat.le_refl _) zz_); rw [EZ.out] at o_; rw [HC.out, EZ.out]; have WT_3 := Lib.hid (o_.mono (Nat.le_of_lt hd2) (Nat.le_refl _)); clear o_; have kc3_0 := SS3.out.1; have kc3_1 := SS3.out.2; clear b_) | (go_at_call 8; (with_reducible refine (likeInts_same rz rwt z kz kwt w.heap.size w3.heap.size w.heap.size w3.heap.size w3 RZ_3.out WT_3.out s_z).mono ?_); rintro e w4 ⟨rfl, q_⟩; have b_ := q_.below w3.heap.size; have SS4 := Lib.hid (And.intro ((b_.cell (p := ⟨w.heap.size, 0, none⟩) hd3).trans SS3.out.1) ((b_.cell (p := ⟨w.heap.size, 1, none⟩) hd3).trans SS3.out.2)); have HB4 := Lib.hid (below_step HB3.out (Nat.le_of_lt hd3) b_); have zz_ := b_.size; have hd4 := Nat.lt_of_lt_of_le hd3 zz_; have RZ_4 := Lib.hid ((RZ_3.out.below b_ (Nat.le_refl _)).mono (Nat.le_refl _) zz_); have WT_4 := Lib.hid ((WT_3.out.below b_ (Nat.le_refl _)).mono (Nat.le_refl _) zz_); have kc4_0 := SS4.out.1; have kc4_1 := SS4.out.2; clear q_; clear b_))
    go_ret
    exact ⟨rfl, HB00.out.trans (HB4.out.mono HB00.out.size)⟩

set_option maxRecDepth 100000 in
theorem law_ct (a : Option Addr) (len cap : Nat) (zs : List Int) (w : World) (hb : Code8 w a len zs) (hm : len ≤ 9223372036854775807) :
    Calls Try.prog 3 #[.slice a len cap] w fun e w' => e = .returned (.bool true) ∧ Below w.heap.size w w' := by
  by_cases hl : len ≤ 4096
  · exact law_ct_small a len cap zs w hb hl
  · clear hb
    go_enter Try.func3, Try.ntmps3
    go_wp2_with (go_at_call 4; refine (big_yes a len cap _ (by omega) hm).mono ?_; rintro e w' ⟨rfl, rfl⟩)
    go_ret
    exact ⟨rfl, Below.refl _ _⟩

end Go.Proofs.Ythifnhekmenjaaa
