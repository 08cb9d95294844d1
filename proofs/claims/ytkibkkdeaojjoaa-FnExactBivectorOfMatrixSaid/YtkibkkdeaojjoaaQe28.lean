/-
  Bivectors of matrices (model): contracts of the program and of the model.
  Conditions: the lists are nil or rows of known cells, of at most 1048576 numbers.
-/
import Derived.Test.YtkibkkdeaojjoaaQe27
namespace Go.Proofs.Ytkibkkdeaojjoaa
open Go.RowKit
set_option linter.unusedVariables false

theorem u64B {i : Nat} (h : i < 64) : IntKind.u64.wrap (i : Int) = (i : Int) := by
  first | exact IntWalk.u64_in _ (by omega) | (simp [IntKind.wrap]; omega) | (unfold IntKind.wrap; simp; omega)
theorem add64 {a b : Nat} (ha : a < 64) (hb : b < 64) : IntKind.i64.wrap ((a : Int) + (b : Int)) = ((a + b : Nat) : Int) := by
  rw [Int.natCast_add]; exact IntWalk.i64_in _ (by omega)
theorem add64' {a b : Nat} (ha : a < 64) (hb : b < 64) : wrap64 ((a : Int) + (b : Int)) = ((a + b : Nat) : Int) := by
  rw [Int.natCast_add]; exact IntWalk.wrap64_in _ (by omega)
set_option maxRecDepth 100000 in
set_option maxHeartbeats 12800000 in
theorem spec_BivectorOfMatrix (pS : Int) (aS : Option Addr) (S : List Int) (cS loS tpS : Nat) (am : Option Addr) (m : List (List Int)) (cm lom tpm : Nat) (w : World) (hS : RowIn loS tpS w aS S) (tS : tpS ≤ w.heap.size) (sS : S.length ≤ 1048576) (hm : MatIn lom tpm w am m) (tm : tpm ≤ w.heap.size) (sm' : m.length + tot m m.length ≤ 1048576) :
    Calls Try.prog 22 #[.agg #[.int .i64 pS, .slice aS S.length cS], .slice am m.length cm] w (SpecR (bmV pS S m) (skC pS S m) w) := by
  have HS := Lib.hid hS
  have Hm := Lib.hid hm
  have HSM := Lib.hid sm'
  have k0 := nw0 w (.int .i64 pS) (.slice aS S.length cS) 28
  have k1 := nw1 w (.int .i64 pS) (.slice aS S.length cS) 28
  have HB0 := Lib.hid (below_alloc w (.cells #[.int .i64 pS, .slice aS S.length cS] 28))
  clear hS hm sm'
  rcases skC_cases pS S m with ⟨hh, h2⟩ | ⟨hsh, hsk, h2⟩ | ⟨hsh, hsk, h2⟩
  · have HV : Hid (bmV pS S m = []) := if_neg (by rw [h2]; exact hh)
    rw [h2]
    obtain ⟨C, hC⟩ : ∃ c, c = shC pS S m := ⟨_, rfl⟩
    have hc1 : (C != 0) = true := by rw [hC]; simpa using hh
    have hc2 : (C == 0) = false := by rw [hC]; simpa using hh
    have HCE := Lib.hid hC
    clear hC
    clear hh h2
    go_enter Try.func22, Try.ntmps22
    go_upto_region 1 with fail
    obtain ⟨w1, hw1⟩ : ∃ z, z = w.alloc (.cells #[.int .i64 pS, .slice aS S.length cS] 28) := ⟨_, rfl⟩
    rw [← hw1] at HB0 k0 k1 ⊢
    have hd1 : w.heap.size < w1.heap.size := by rw [hw1]; simp
    have HB1 := HB0
    clear hw1
    have SS1 := Lib.hid (And.intro k0 k1)
    go_wp2_with (go_at_call 43; ((with_reducible refine (l10Shape_any pS aS S cS loS tpS am m cm lom tpm w1 (HS.out.below HB1.out tS) (Nat.le_trans tS HB1.out.size) sS (Hm.out.below HB1.out tm) (Nat.le_trans tm HB1.out.size) HSM.out).mono ?_); rintro e w2 ⟨rfl, b_⟩; rw [← HCE.out]; have SS2 := Lib.hid (ss2 b_ hd1 SS1.out); have HB2 := Lib.hid (below_step HB1.out HB1.out.size b_); have hd2 := Nat.lt_of_lt_of_le hd1 b_.size; clear k0 k1; obtain ⟨k0, k1⟩ := SS2.out; clear b_))
    go_ret2
    rw [HV.out, ← HCE.out]
    exact ⟨none, 0, rfl, .inl rfl, HB2.out⟩
  · have HV : Hid (bmV pS S m = []) := if_neg (by rw [h2]; decide)
    have HK := Lib.hid h2
    have HZ := Lib.hid hsh
    have HG := Lib.hid (shC_zero hsh)
    have HK0 := Lib.hid hsk
    clear h2 hsh hsk
    go_enter Try.func22, Try.ntmps22
    go_upto_region 1 with fail
    obtain ⟨w1, hw1⟩ : ∃ z, z = w.alloc (.cells #[.int .i64 pS, .slice aS S.length cS] 28) := ⟨_, rfl⟩
    rw [← hw1] at HB0 k0 k1 ⊢
    have hd1 : w.heap.size < w1.heap.size := by rw [hw1]; simp
    have HB1 := HB0
    clear hw1
    have SS1 := Lib.hid (And.intro k0 k1)
    go_wp2_with (first | (go_at_call 43; ((with_reducible refine (l10Shape_any pS aS S cS loS tpS am m cm lom tpm w1 (HS.out.below HB1.out tS) (Nat.le_trans tS HB1.out.size) sS (Hm.out.below HB1.out tm) (Nat.le_trans tm HB1.out.size) HSM.out).mono ?_); rintro e w2 ⟨rfl, b_⟩; rw [HZ.out]; have SS2 := Lib.hid (ss2 b_ hd1 SS1.out); have HB2 := Lib.hid (below_step HB1.out HB1.out.size b_); have hd2 := Nat.lt_of_lt_of_le hd1 b_.size; clear k0 k1; obtain ⟨k0, k1⟩ := SS2.out; clear b_)) | (go_at_call 44; ((with_reducible refine (l10Skew_any pS aS S cS loS tpS am m cm lom tpm w2 (HS.out.below HB2.out tS) (Nat.le_trans tS HB2.out.size) (Hm.out.below HB2.out tm) (Nat.le_trans tm HB2.out.size) HG.out).mono ?_); rintro e w3 ⟨rfl, b_⟩; rw [HK0.out]; have SS3 := Lib.hid (ss2 b_ hd2 SS2.out); have HB3 := Lib.hid (below_step HB2.out HB2.out.size b_); have hd3 := Nat.lt_of_lt_of_le hd2 b_.size; clear k0 k1; obtain ⟨k0, k1⟩ := SS3.out; clear b_)))
    go_ret2
    rw [HV.out, HK.out]
    exact ⟨none, 0, rfl, .inl rfl, HB3.out⟩
  · have HV : Hid (bmV pS S m = bbR pS S m) := if_pos h2
    have HK := Lib.hid h2
    have HZ := Lib.hid hsh
    have HG := Lib.hid (shC_zero hsh)
    have HK0 := Lib.hid hsk
    clear h2 hsh hsk
    go_enter Try.func22, Try.ntmps22
    go_upto_region 1 with fail
    obtain ⟨w1, hw1⟩ : ∃ z, z = w.alloc (.cells #[.int .i64 pS, .slice aS S.length cS] 28) := ⟨_, rfl⟩
    rw [← hw1] at HB0 k0 k1 ⊢
    have hd1 : w.heap.size < w1.heap.size := by rw [hw1]; simp
    have HB1 := HB0
    clear hw1
    have SS1 := Lib.hid (And.intro k0 k1)
    go_upto_region 7 with (first | (go_at_call 43; ((with_reducible refine (l10Shape_any pS aS S cS loS tpS am m cm lom tpm w1 (HS.out.below HB1.out tS) (Nat.le_trans tS HB1.out.size) sS (Hm.out.below HB1.out tm) (Nat.le_trans tm HB1.out.size) HSM.out).mono ?_); rintro e w2 ⟨rfl, b_⟩; rw [HZ.out]; have SS2 := Lib.hid (ss2 b_ hd1 SS1.out); have HB2 := Lib.hid (below_step HB1.out HB1.out.size b_); have hd2 := Nat.lt_of_lt_of_le hd1 b_.size; clear k0 k1; obtain ⟨k0, k1⟩ := SS2.out; clear b_)) | (go_at_call 44; ((with_reducible refine (l10Skew_any pS aS S cS loS tpS am m cm lom tpm w2 (HS.out.below HB2.out tS) (Nat.le_trans tS HB2.out.size) (Hm.out.below HB2.out tm) (Nat.le_trans tm HB2.out.size) HG.out).mono ?_); rintro e w3 ⟨rfl, b_⟩; rw [HK0.out]; have SS3 := Lib.hid (ss2 b_ hd2 SS2.out); have HB3 := Lib.hid (below_step HB2.out HB2.out.size b_); have hd3 := Nat.lt_of_lt_of_le hd2 b_.size; clear k0 k1; obtain ⟨k0, k1⟩ := SS3.out; clear b_)) | (go_at_call 47; ((with_reducible refine (l04Zero_any pS aS S cS w3 (isSp_iff.1 HG.out.sp).hi).mono ?_); rintro e w4 ⟨c, rfl, l_, u_, o_, b_⟩; have SS4 := Lib.hid (ss2 b_ hd3 SS3.out); have HB4 := Lib.hid (below_step HB3.out HB3.out.size b_); have hd4 := Nat.lt_of_lt_of_le hd3 b_.size; have NR := Lib.hid o_; have hwc := Nat.lt_of_lt_of_le hd3 l_; have hcZ := u_; clear o_ l_ u_; clear k0 k1; obtain ⟨k0, k1⟩ := SS4.out; clear b_)))
    obtain ⟨n, hn⟩ : ∃ n, n = S.length := ⟨_, rfl⟩
    have HN := Lib.hid hn
    have HML : Hid (m.length = n) := by show _ = _; rw [hn]; exact HG.out.len
    have h6 := (isSp_iff.1 HG.out.sp).hi
    have hpb := prm_bd HG.out.lst.prime
    have hbl := bl_le h6
    have n6 : n ≤ 6 := by omega
    have RC3 : Hid (RowOwn w4 c 0 (bl S) (bbS pS S m 0 1)) := NR.out.congr fun j hj => (bbS_none pS S m h6 j hj).symm
    have hwc' : w.heap.size ≠ c := Nat.ne_of_lt hwc
    rw [← hn, HML.out]
    clear hn k0 k1
    go_wp2
    go_loopw [8] (fun t wr => ∃ i : Nat, i ≤ n ∧ t = .int .i64 i ∧ RowOwn wr c 0 (bl S) (bbS pS S m i (i + 1)) ∧ Gb c w4.heap.size w4 wr ∧ Below w.heap.size w wr ∧ w4.heap.size ≤ wr.heap.size) (fun t _ => n - (intOf t).toNat)
    case atStart => exact ⟨0, Nat.zero_le _, rfl, RC3.out, Gb.refl _ _ _, HB4.out, Nat.le_refl _⟩
    case round =>
      obtain ⟨i, hi, rfl, hrc_, hgb, hbel, hsz⟩ := hrel
      have HRC := Lib.hid hrc_
      have HGB := Lib.hid hgb
      have HBEL := Lib.hid hbel
      by_cases hlt : i < n
      · have hi1 : (i : Int) < (n : Int) := Int.ofNat_lt.2 hlt
        obtain ⟨b9, o9, rv, cv, ha9, _, hb9, hr90, hrow0⟩ := Hm.out.row (show i < m.length by rw [HML.out]; exact hlt)
        subst ha9
        rw [HG.out.rl (by rw [HML.out]; exact hlt), ← HN.out] at hr90
        have HR90 := Lib.hid hr90
        have HROW := Lib.hid hrow0
        clear hrc_ hgb hbel hr90 hrow0
        go_wp2
        go_loopw [9] (fun t wq => ∃ k : Nat, i + 1 ≤ k ∧ k ≤ n ∧ t = .int .i64 k ∧ RowOwn wq c 0 (bl S) (bbS pS S m i k) ∧ Gb c w4.heap.size w4 wq ∧ Below w.heap.size w wq ∧ w4.heap.size ≤ wq.heap.size) (fun t _ => n - (intOf t).toNat)
        case atStart => exact ⟨i + 1, Nat.le_refl _, hlt, by go_num, HRC.out, HGB.out, HBEL.out, hsz⟩
        case round =>
          rename World => wq
          obtain ⟨k, hki, hkn, rfl, hrq, hgq, hbq, hsq⟩ := hrel
          have HRQ := Lib.hid hrq
          have HGQ := Lib.hid hgq
          have HBQ := Lib.hid hbq
          by_cases hlk : k < n
          · have hk1 : (k : Int) < (n : Int) := Int.ofNat_lt.2 hlk
            have z0 := (World.cell?_of_block (w := w4) (a := ⟨w.heap.size, 0, none⟩) (hgq w.heap.size hd4 (Nat.ne_of_lt hwc))).trans SS4.out.1
            have z1 := (World.cell?_of_block (w := w4) (a := ⟨w.heap.size, 1, none⟩) (hgq w.heap.size hd4 (Nat.ne_of_lt hwc))).trans SS4.out.2
            rw [← HN.out] at z1
            have hr9 := (hbq.cell (p := ⟨b9, o9 + i, none⟩) (Nat.lt_of_lt_of_le hb9 tm)).trans HR90.out
            obtain ⟨b2, o2, ha2, _, hb2_, hv⟩ := (HROW.out.below hbq tm).num (j := k) (by rw [HG.out.rl (by rw [HML.out]; exact hlt), ← HN.out]; exact hlk)
            obtain ⟨b5, o5, ha5, _, hb5_, hs⟩ := (HS.out.below hbq tS).num (j := k) (by rw [← HN.out]; exact hlk)
            subst ha2
            subst ha5
            have hv' : wq.cell? ⟨b2, o2 + k, none⟩ = some (.int .i64 (at' m i k)) := hv
            have x1 := HG.out.at (i := i) (j := k) (by rw [HML.out]; exact hlt) (by rw [← HN.out]; exact hlk)
            have x2 := HG.out.sq (i := k) (by rw [← HN.out]; exact hlk)
            obtain ⟨V, hV⟩ : ∃ z, z = at' m i k := ⟨_, rfl⟩
            obtain ⟨Q, hQ⟩ : ∃ z, z = S.getD k 0 := ⟨_, rfl⟩
            rw [← hV] at hv' x1
            rw [← hQ] at hs x2
            have HVE := Lib.hid hV
            have HQE := Lib.hid hQ
            have h9c : b9 ≠ c := by omega
            have h2c : b2 ≠ c := by omega
            have h5c : b5 ≠ c := by omega
            have l9 : b9 < wq.drew.heap.size := Nat.lt_of_lt_of_le hb9 (Nat.le_trans tm hbq.size)
            have l2 : b2 < wq.drew.heap.size := World.block_lt_of_cell? wq ⟨b2, o2 + k, none⟩ hv'
            have l5 : b5 < wq.drew.heap.size := World.block_lt_of_cell? wq ⟨b5, o5 + k, none⟩ hs
            have l0 : w.heap.size < wq.drew.heap.size := Nat.lt_of_lt_of_le hd4 hsq
            have hs9 : Hid (wq.drew.cell? ⟨w.heap.size, 0, none⟩ = some (.int .i64 pS) ∧ wq.drew.cell? ⟨w.heap.size, 1, none⟩ = some (.slice (some ⟨b5, o5, none⟩) n cS) ∧ wq.drew.cell? ⟨b9, o9 + i, none⟩ = some (.slice (some ⟨b2, o2, none⟩) n cv) ∧ wq.drew.cell? ⟨b2, o2 + k, none⟩ = some (.int .i64 V) ∧ wq.drew.cell? ⟨b5, o5 + k, none⟩ = some (.int .i64 Q)) := ⟨z0, z1, hr9, hv', hs⟩
            have hcw : c < wq.drew.heap.size := Nat.lt_of_lt_of_le hcZ hsq
            have hb2 := bits2_at (i := i) (k := k) (by omega) (by omega)
            have hM : 2 ^ i + 2 ^ k < bl S := pair_bl (by omega) (by rw [← HN.out]; exact hlk)
            obtain ⟨q1, hq1⟩ : ∃ q, q = 2 ^ i := ⟨_, rfl⟩
            obtain ⟨q2, hq2⟩ : ∃ q, q = 2 ^ k := ⟨_, rfl⟩
            have p1 : Hid (IntKind.u64.wrap (i : Int) = (i : Int)) := by show _ = _; exact u64B (by omega)
            have p2 : Hid (IntKind.u64.wrap (k : Int) = (k : Int)) := by show _ = _; exact u64B (by omega)
            have s1 : Hid (IntKind.i64.wrap ((2 : Int) ^ i) = (q1 : Int)) := by show _ = _; rw [hq1]; exact kwrap_powB (by omega)
            have s2 : Hid (IntKind.i64.wrap ((2 : Int) ^ k) = (q2 : Int)) := by show _ = _; rw [hq2]; exact kwrap_powB (by omega)
            have t1 : Hid (wrap64 ((2 : Int) ^ i) = (q1 : Int)) := by show _ = _; rw [hq1]; exact wrap_pow (by omega)
            have t2 : Hid (wrap64 ((2 : Int) ^ k) = (q2 : Int)) := by show _ = _; rw [hq2]; exact wrap_pow (by omega)
            rw [← hq1, ← hq2] at hM
            have hq164 : q1 < 64 := by omega
            have hq264 : q2 < 64 := by omega
            obtain ⟨M, hMM⟩ : ∃ M, M = q1 + q2 := ⟨_, rfl⟩
            rw [← hMM] at hM
            have s3 : Hid (IntKind.i64.wrap ((q1 : Int) + (q2 : Int)) = (M : Int)) := by show _ = _; rw [hMM]; exact add64 hq164 hq264
            have t3 : Hid (wrap64 ((q1 : Int) + (q2 : Int)) = (M : Int)) := by show _ = _; rw [hMM]; exact add64' hq164 hq264
            have HME : Hid (M = 2 ^ i + 2 ^ k) := by show _ = _; rw [hMM, hq1, hq2]
            have hMi : (M : Int) < (bl S : Int) := by omega
            have hM0 : (0 : Int) ≤ (M : Int) := Int.natCast_nonneg _
            have hi63 : (i : Int) < 64 := by omega
            have hk63 : (k : Int) < 64 := by omega
            have c5 : wq.drew.cell? ⟨c, M, none⟩ = some (.int .i64 (bbS pS S m i k M)) := by have h := hrq.cell M hM; rw [Nat.zero_add] at h; exact h
            have f5 : wq.drew.frozen? ⟨c, M, none⟩ = false := by have h := hrq.free M hM; rw [Nat.zero_add] at h; exact h
            obtain ⟨I, hI⟩ : ∃ z, z = inv pS Q := ⟨_, rfl⟩
            have HIE := Lib.hid hI
            have hib := inv_bd HG.out.lst.prime Q
            rw [← hI] at hib
            have y1 := mul_bd13 x1.1 (by omega) (show 0 ≤ I by omega) (by omega)
            obtain ⟨P1, hP1⟩ : ∃ z, z = V * I := ⟨_, rfl⟩
            rw [← hP1] at y1
            have m1 : IntKind.i64.wrap (V * I) = P1 := by rw [← hP1]; exact IntWalk.i64_in _ (by omega)
            obtain ⟨R, hR⟩ : ∃ z, z = P1 % pS := ⟨_, rfl⟩
            have r0 : 0 ≤ R ∧ R < pS := by rw [hR]; exact ⟨Int.emod_nonneg _ (by omega), Int.emod_lt_of_pos _ (by omega)⟩
            have m4 : P1.tmod pS = R := by rw [hR]; exact Int.tmod_eq_emod_of_nonneg (by omega)
            have m5 : IntKind.i64.wrap R = R := IntWalk.i64_in _ (by omega)
            have m6 : ¬ pS = 0 := by omega
            have m7 : (pS == 0) = false := by simpa using m6
            have HRE : Hid (R = at' m i k * inv pS (S.getD k 0) % pS) := by show _ = _; rw [hR, hP1, hI, HVE.out, HQE.out]
            have HRQ5 : Hid (RowOwn wq.drew c 0 (bl S) (bbS pS S m i k)) := hrq.drew
            have HBD : Hid (Below w.heap.size w wq.drew) := hbq.drew
            have HGD : Hid (Gb c w4.heap.size w4 wq.drew) := hgq
            have hsd : w4.heap.size ≤ wq.drew.heap.size := hsq
            have HC5 := hs9
            have x2' : 1 ≤ Q ∧ Q < pS := x2
            clear hV hQ hrq hgq hbq hv z0 z1 hv' hs hq1 hq2 hMM hI hP1 hR hb2 hr9
            obtain ⟨u0, u1, u2, u3, u4⟩ := HC5.out
            have u7 := p1.out
            have u8 := p2.out
            have v1 := s1.out
            have v2 := s2.out
            have v3 := s3.out
            have v4 := t1.out
            have v5 := t2.out
            have v6 := t3.out
            go_wp2
            go_region_held3 (fun w' => w'.cell? ⟨w.heap.size, 0, none⟩ = some (.int .i64 pS) ∧ w'.cell? ⟨w.heap.size, 1, none⟩ = some (.slice (some ⟨b5, o5, none⟩) n cS) ∧ w'.cell? ⟨b9, o9 + i, none⟩ = some (.slice (some ⟨b2, o2, none⟩) n cv) ∧ w'.cell? ⟨b2, o2 + k, none⟩ = some (.int .i64 V) ∧ w'.cell? ⟨b5, o5 + k, none⟩ = some (.int .i64 Q)) (first | exact HC5.out | exact HC6.out | exact ⟨(World.cell?_setCell_other w6 ⟨c, M, none⟩ ⟨w.heap.size, 0, none⟩ _ (fun e => hwc' (by injection e with e1; exact e1.symm))).trans HC6.out.1, (World.cell?_setCell_other w6 ⟨c, M, none⟩ ⟨w.heap.size, 1, none⟩ _ (fun e => hwc' (by injection e with e1; exact e1.symm))).trans HC6.out.2.1, (World.cell?_setCell_other w6 ⟨c, M, none⟩ ⟨b9, o9 + i, none⟩ _ (fun e => h9c (by injection e with e1; exact e1.symm))).trans HC6.out.2.2.1, (World.cell?_setCell_other w6 ⟨c, M, none⟩ ⟨b2, o2 + k, none⟩ _ (fun e => h2c (by injection e with e1; exact e1.symm))).trans HC6.out.2.2.2.1, (World.cell?_setCell_other w6 ⟨c, M, none⟩ ⟨b5, o5 + k, none⟩ _ (fun e => h5c (by injection e with e1; exact e1.symm))).trans HC6.out.2.2.2.2⟩ | go_keep) (first | (go_at_call 48; ((with_reducible refine (l01Inv_below pS Q wq.drew HG.out.lst.prime x2'.1 x2'.2).mono ?_); rintro e w6 ⟨rfl, b_⟩; rw [← HIE.out]; have B6 := Lib.hid b_; have HC6 : Hid (w6.cell? ⟨w.heap.size, 0, none⟩ = some (.int .i64 pS) ∧ w6.cell? ⟨w.heap.size, 1, none⟩ = some (.slice (some ⟨b5, o5, none⟩) n cS) ∧ w6.cell? ⟨b9, o9 + i, none⟩ = some (.slice (some ⟨b2, o2, none⟩) n cv) ∧ w6.cell? ⟨b2, o2 + k, none⟩ = some (.int .i64 V) ∧ w6.cell? ⟨b5, o5 + k, none⟩ = some (.int .i64 Q)) := ⟨(b_.cell (p := ⟨w.heap.size, 0, none⟩) l0).trans u0, (b_.cell (p := ⟨w.heap.size, 1, none⟩) l0).trans u1, (b_.cell (p := ⟨b9, o9 + i, none⟩) l9).trans u2, (b_.cell (p := ⟨b2, o2 + k, none⟩) l2).trans u3, (b_.cell (p := ⟨b5, o5 + k, none⟩) l5).trans u4⟩; have c6 := (b_.cell (p := ⟨c, M, none⟩) hcw).trans c5; have f6 := (b_.frozen (p := ⟨c, M, none⟩) hcw).trans f5; clear b_)))
            all_goals
              have HR6 := Lib.hid (HRQ5.out.stay (B6.out.block c hcw))
              have HPUT : Hid (RowOwn (w6.setCell ⟨c, M, none⟩ (.int .i64 R)) c 0 (bl S) (bbS pS S m i (k + 1))) := by
                have h := HR6.out.put hM R
                rw [Nat.zero_add] at h
                refine h.congr fun j hj => ?_
                have e := bbS_put pS S m (i := i) (k := k) (by omega) (by rw [← HN.out]; exact hlk) h6 j hj
                rw [e, HME.out, HRE.out]
              have HGS : Hid (Gb c w4.heap.size w4 (w6.setCell ⟨c, M, none⟩ (.int .i64 R))) := by
                have h := Gb.wrote (B := w4.heap.size) ((Wrote.refl c 0 (bl S) w6).set hM (.int .i64 R))
                rw [Nat.zero_add] at h
                exact (HGD.out.trans (Gb.below (B6.out.mono hsd))).trans h
              have HBS : Hid (Below w.heap.size w (w6.setCell ⟨c, M, none⟩ (.int .i64 R))) := (HBD.out.trans (B6.out.mono HBD.out.size)).setCell (Nat.le_of_lt hwc) _
              have z6 := B6.out.size
              clear u0 u1 u2 u3 u4 c5 f5 c6 f6 u7 u8 v1 v2 v3 v4 v5 v6
              go_wp2
              go_roundw
              case rel => exact ⟨k + 1, by omega, by omega, by go_num, HPUT.out, HGS.out, HBS.out, by simp [World.setCell]; omega⟩
              case measure => simp [intOf]; omega
          · have hkn' : k = n := by omega
            subst hkn'
            clear hrq hgq hbq
            have hk9 : ¬ (k : Int) < (k : Int) := Int.lt_irrefl _
            go_wp2
            go_roundw
            case rel => exact ⟨i + 1, by omega, by go_num, HRQ.out.congr fun j hj => by
              have h := bbS_row pS S m h6 i j hj
              rwa [← HN.out] at h, HGQ.out, HBQ.out, hsq⟩
            case measure => simp [intOf]; omega
      · have hin : i = n := by omega
        subst hin
        have HRF : Hid (RowOwn wr c 0 (bl S) (bbF pS S m)) := hrc_.congr fun j hj => by
          have h := bbS_whole pS S m h6 (i + 1) j hj
          rwa [← HN.out] at h
        have hi9 : ¬ (i : Int) < (i : Int) := Int.lt_irrefl _
        have hcs : c < wr.heap.size := Nat.lt_of_lt_of_le hcZ hsz
        clear hrc_ hgb hbel
        go_wp2
        go_ret2
        rw [HV.out, HK.out]
        exact ⟨some ⟨c, 0, none⟩, bl S, by rw [bbR_len]; rfl, (HRF.out.own (Nat.le_of_lt hwc) hcs).row, HBEL.out⟩

end Go.Proofs.Ytkibkkdeaojjoaa
