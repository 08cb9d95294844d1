/-
  The walk of the law on orthogonal vectors: FnOrthogonals.
  Conditions: the code is nil or a row of known bytes.
-/
import Derived.Test.YtdfkpbmccmbjmaaQg21
import Derived.Test.YtdfkpbmccmbjmaaQg18
import Derived.Test.YtdfkpbmccmbjmaaQg19
import Derived.Test.YtdfkpbmccmbjmaaQg11
import Derived.Test.YtdfkpbmccmbjmaaQg15
import Derived.Test.YtdfkpbmccmbjmaaQg23
import Derived.Test.YtdfkpbmccmbjmaaOgPZ
import Derived.Deep.RegionHeld3
import Derived.Deep.DeepCutAuto
namespace Go.Proofs.Ytdfkpbmccmbjmaa
open Go.RowKit
set_option linter.unusedVariables false

theorem tot_bd7 {m : List (List Int)} {c : Nat} (h : ∀ i, i < m.length → (rw' m i).length ≤ c) : ∀ k, k ≤ m.length → tot m k ≤ k * c
  | 0, _ => by simp [tot]
  | k + 1, hk => by
    have h1 := tot_bd7 h k (by omega)
    have h2 := h k (by omega)
    show tot m k + (rw' m k).length ≤ (k + 1) * c
    rw [Nat.add_mul]; omega
theorem og_cases (p : Int) (S : List Int) (m : List (List Int)) : (∃ k, k ≠ 0 ∧ codeL p S m = k) ∨ (codeL p S m = 0 ∧ isSp p S = true ∧ listB p S m = true) := by
  by_cases h : codeL p S m = 0
  · right
    rcases codeL_cases p S m with ⟨_, h2⟩ | ⟨h1, h2, _⟩ | ⟨_, _, h2⟩
    · rw [h] at h2; cases h2
    · exact ⟨h, h1, h2⟩
    · rw [h] at h2; cases h2
  · exact .inl ⟨_, h, rfl⟩

set_option maxRecDepth 100000 in
set_option maxHeartbeats 16000000 in
theorem law_og_small (a0 : Option Addr) (len cap : Nat) (zs : List Int) (w0 : World) (hb : Code8 w0 a0 len zs) (hl : len ≤ 4096) :
    Calls Try.prog 3 #[.slice a0 len cap] w0 fun e w' => e = .returned (.bool true) ∧ Below w0.heap.size w0 w' := by
  have HC8 := Lib.hid hb
  clear hb
  go_enter Try.func3, Try.ntmps3
  go_upto_region 4 with (first | (go_at_call 4; refine (big_no a0 len cap _ hl).mono ?_; rintro e w' ⟨rfl, rfl⟩) | (go_at_call 5; (with_reducible refine (drawOG_any a0 len cap zs _ HC8.out hl).mono ?_); rintro e w ⟨pS, aS, S, cS, am, m, cm, rfl, hX, hM, hML, hS, hmm, hb0⟩; have HS := Lib.hid hS; have HM := Lib.hid hmm; have HB00 := Lib.hid hb0; have HL := Lib.hid (And.intro hX (And.intro hM hML)); clear hS hmm hb0 hX hM hML))
  have tS : w.heap.size ≤ w.heap.size := Nat.le_refl _
  have sS : S.length ≤ 1048576 := by have := HL.out.1; omega
  have sm : m.length + tot m m.length ≤ 1048576 := by
    have h1 := tot_bd7 (m := m) (c := 8) HL.out.2.2 m.length (Nat.le_refl _)
    have h2 := HL.out.2.1
    omega
  obtain ⟨w1, hw1⟩ : ∃ z, z = w.alloc (.cells #[.int .i64 pS, .slice aS S.length cS] 26) := ⟨_, rfl⟩
  have SS1 : Hid (w1.cell? ⟨w.heap.size, 0, none⟩ = some (.int .i64 pS) ∧ w1.cell? ⟨w.heap.size, 1, none⟩ = some (.slice aS S.length cS)) := by show _ ∧ _; rw [hw1]; exact ⟨nw0 w _ _ _, nw1 w _ _ _⟩
  have HB1 : Hid (Below w.heap.size w w1) := by show Below _ _ _; rw [hw1]; exact below_alloc w _
  have hd1 : w.heap.size < w1.heap.size := by rw [hw1]; simp
  have kk0 := SS1.out.1
  have kk1 := SS1.out.2
  rw [← hw1]
  clear hw1
  rcases og_cases pS S m with ⟨kc, hk, hc⟩ | ⟨hc, hi, hl⟩
  · have HC := Lib.hid hc
    obtain ⟨z, hz⟩ : ∃ z, z = ortV pS S m := ⟨_, rfl⟩
    have EZ : Hid (ortV pS S m = z) := hz.symm
    have s_z : z.length + tot z z.length ≤ 1048576 := by rw [hz]; exact ortV_size _ _ _
    have hk1 : (kc != 0) = true := by simp [hk]
    have hk3 : (kc != kc) = false := by simp
    clear hc hz hk
    go_wp2_with (first | (go_at_call 6; (with_reducible refine (impl_OrthogonalTo pS aS S cS w0.heap.size w.heap.size am m cm w0.heap.size w.heap.size w1 (HS.out.below HB1.out tS) (Nat.le_trans tS (HB1.out).size) sS (HM.out.below HB1.out tS) (Nat.le_trans tS (HB1.out).size) sm).mono ?_); rintro e w2 ⟨rz, kz, rfl, o_, b_⟩; have SS2 := Lib.hid (And.intro ((b_.cell (p := ⟨w.heap.size, 0, none⟩) hd1).trans SS1.out.1) ((b_.cell (p := ⟨w.heap.size, 1, none⟩) hd1).trans SS1.out.2)); have HB2 := Lib.hid (below_step HB1.out (Nat.le_of_lt hd1) b_); have zz_ := b_.size; have hd2 := Nat.lt_of_lt_of_le hd1 zz_; rw [EZ.out] at o_; rw [HC.out, EZ.out]; have o_ := o_.mat; have BA_2 := Lib.hid (o_.mono (Nat.le_of_lt hd1) (Nat.le_refl _)); clear o_; have kc2_0 := SS2.out.1; have kc2_1 := SS2.out.2; clear b_) | (go_at_call 7; (with_reducible refine (spec_OrthogonalTo pS aS S cS w0.heap.size w.heap.size am m cm w0.heap.size w.heap.size w2 (HS.out.below HB2.out tS) (Nat.le_trans tS (HB2.out).size) sS (HM.out.below HB2.out tS) (Nat.le_trans tS (HB2.out).size) sm).mono ?_); rintro e w3 ⟨rwt, kwt, rfl, o_, b_⟩; have SS3 := Lib.hid (And.intro ((b_.cell (p := ⟨w.heap.size, 0, none⟩) hd2).trans SS2.out.1) ((b_.cell (p := ⟨w.heap.size, 1, none⟩) hd2).trans SS2.out.2)); have HB3 := Lib.hid (below_step HB2.out (Nat.le_of_lt hd2) b_); have zz_ := b_.size; have hd3 := Nat.lt_of_lt_of_le hd2 zz_; have BA_3 := Lib.hid ((BA_2.out.below b_ (Nat.le_refl _)).mono (Nat.le_refl _) zz_); rw [EZ.out] at o_; rw [HC.out, EZ.out]; have WT_3 := Lib.hid (o_.mono (Nat.le_of_lt hd2) (Nat.le_refl _)); clear o_; have kc3_0 := SS3.out.1; have kc3_1 := SS3.out.2; clear b_) | (go_at_call 8; (with_reducible refine (likeRows_same rz rwt z kz kwt w.heap.size w3.heap.size w.heap.size w3.heap.size w3 BA_3.out WT_3.out s_z).mono ?_); rintro e w4 ⟨rfl, q_⟩; have b_ := q_.below w3.heap.size; have SS4 := Lib.hid (And.intro ((b_.cell (p := ⟨w.heap.size, 0, none⟩) hd3).trans SS3.out.1) ((b_.cell (p := ⟨w.heap.size, 1, none⟩) hd3).trans SS3.out.2)); have HB4 := Lib.hid (below_step HB3.out (Nat.le_of_lt hd3) b_); have zz_ := b_.size; have hd4 := Nat.lt_of_lt_of_le hd3 zz_; have BA_4 := Lib.hid ((BA_3.out.below b_ (Nat.le_refl _)).mono (Nat.le_refl _) zz_); have WT_4 := Lib.hid ((WT_3.out.below b_ (Nat.le_refl _)).mono (Nat.le_refl _) zz_); have kc4_0 := SS4.out.1; have kc4_1 := SS4.out.2; clear q_; clear b_))
    go_ret
    exact ⟨rfl, HB00.out.trans (HB4.out.mono HB00.out.size)⟩
  · have HC := Lib.hid hc
    obtain ⟨z, hz⟩ : ∃ z, z = ortV pS S m := ⟨_, rfl⟩
    have EZ : Hid (ortV pS S m = z) := hz.symm
    have s_z : z.length + tot z z.length ≤ 1048576 := by rw [hz]; exact ortV_size _ _ _
    have HI := Lib.hid hi
    have HLB := Lib.hid hl
    have h6 := (isSp_iff.1 hi).hi
    have hpb := prm_bd (isSp_iff.1 hi).prime
    have hzo : z = ortB pS S m := by rw [hz]; unfold ortV; rw [if_pos hc]
    obtain ⟨n, hn⟩ : ∃ n, n = m.length := ⟨_, rfl⟩
    have HN := Lib.hid hn
    obtain ⟨nz, hnz⟩ : ∃ nz, nz = z.length := ⟨_, rfl⟩
    have HNZ := Lib.hid hnz
    have hn16 : n ≤ 16 := by rw [hn]; exact (listB_iff hl).1
    have hnz6 : nz ≤ 1048576 := by omega
    have HVM : Hid (∀ k, k < n → isVec pS S.length (rw' m k) = true) := fun k hk => (listB_iff hl).2 k (by omega)
    have HVZ : Hid (∀ i, i < nz → isVec pS S.length (rw' z i) = true) := fun i hi' => by rw [hzo]; exact og_vec hi hl (by rw [← hzo, ← hnz]; exact hi')
    have HOZ : Hid (∀ i, i < nz → ∀ k, k < n → pairN pS S (rw' z i) (rw' m k) = 0) := fun i hi' k hk => by rw [hzo]; exact og_zero hi hl (by rw [← hzo, ← hnz]; exact hi') (by omega)
    obtain ⟨q, hq⟩ : ∃ q, q = (discN pS S != 0) := ⟨_, rfl⟩
    have HQ := Lib.hid hq
    have E_rg : Hid (regV pS S = q) := by show _ = _; unfold regV; rw [if_pos hi, hq]
    have C_1 := Lib.hid (code1_yes hi)
    obtain ⟨D, hD⟩ : ∃ v, v = discN pS S := ⟨_, rfl⟩
    have E_ds : Hid (discV pS S = D) := by show _ = _; unfold discV; rw [if_pos hi, hD]
    have hqD : (D != 0) = q := by rw [hD, hq]
    have hqq : (q != q) = false := by simp
    have L0 := Lib.hid (og_lst hi hl)
    have C_0 := Lib.hid (chk0_yes (og_lst hi hl))
    obtain ⟨sb, hsb⟩ : ∃ v, v = basV pS m := ⟨_, rfl⟩
    have E_sb : Hid (basV pS m = sb) := hsb.symm
    have DIM : Hid (q = true → nz + sb.length = S.length) := fun h => by rw [hnz, hsb, hzo]; unfold basV; rw [if_pos (og_lst hi hl)]; exact og_dim hi hl (by rw [hq] at h; simpa using h)
    have hsb16 : sb.length ≤ 1048576 := by have := basV_size pS m; rw [← hsb] at this; omega
    clear hc hz hi hl hq hD hsb hzo hn
    go_upto_region 11 with (first | (go_at_call 6; (with_reducible refine (impl_OrthogonalTo pS aS S cS w0.heap.size w.heap.size am m cm w0.heap.size w.heap.size w1 (HS.out.below HB1.out tS) (Nat.le_trans tS (HB1.out).size) sS (HM.out.below HB1.out tS) (Nat.le_trans tS (HB1.out).size) sm).mono ?_); rintro e w2 ⟨rz, kz, rfl, o_, b_⟩; have SS2 := Lib.hid (And.intro ((b_.cell (p := ⟨w.heap.size, 0, none⟩) hd1).trans SS1.out.1) ((b_.cell (p := ⟨w.heap.size, 1, none⟩) hd1).trans SS1.out.2)); have HB2 := Lib.hid (below_step HB1.out (Nat.le_of_lt hd1) b_); have zz_ := b_.size; have hd2 := Nat.lt_of_lt_of_le hd1 zz_; rw [EZ.out] at o_; rw [HC.out, EZ.out]; have o_ := o_.mat; have BA_2 := Lib.hid (o_.mono (Nat.le_of_lt hd1) (Nat.le_refl _)); clear o_; have kc2_0 := SS2.out.1; have kc2_1 := SS2.out.2; clear b_) | (go_at_call 7; (with_reducible refine (spec_OrthogonalTo pS aS S cS w0.heap.size w.heap.size am m cm w0.heap.size w.heap.size w2 (HS.out.below HB2.out tS) (Nat.le_trans tS (HB2.out).size) sS (HM.out.below HB2.out tS) (Nat.le_trans tS (HB2.out).size) sm).mono ?_); rintro e w3 ⟨rwt, kwt, rfl, o_, b_⟩; have SS3 := Lib.hid (And.intro ((b_.cell (p := ⟨w.heap.size, 0, none⟩) hd2).trans SS2.out.1) ((b_.cell (p := ⟨w.heap.size, 1, none⟩) hd2).trans SS2.out.2)); have HB3 := Lib.hid (below_step HB2.out (Nat.le_of_lt hd2) b_); have zz_ := b_.size; have hd3 := Nat.lt_of_lt_of_le hd2 zz_; have BA_3 := Lib.hid ((BA_2.out.below b_ (Nat.le_refl _)).mono (Nat.le_refl _) zz_); rw [EZ.out] at o_; rw [HC.out, EZ.out]; have WT_3 := Lib.hid (o_.mono (Nat.le_of_lt hd2) (Nat.le_refl _)); clear o_; have kc3_0 := SS3.out.1; have kc3_1 := SS3.out.2; clear b_) | (go_at_call 8; (with_reducible refine (likeRows_same rz rwt z kz kwt w.heap.size w3.heap.size w.heap.size w3.heap.size w3 BA_3.out WT_3.out s_z).mono ?_); rintro e w4 ⟨rfl, q_⟩; have b_ := q_.below w3.heap.size; have SS4 := Lib.hid (And.intro ((b_.cell (p := ⟨w.heap.size, 0, none⟩) hd3).trans SS3.out.1) ((b_.cell (p := ⟨w.heap.size, 1, none⟩) hd3).trans SS3.out.2)); have HB4 := Lib.hid (below_step HB3.out (Nat.le_of_lt hd3) b_); have zz_ := b_.size; have hd4 := Nat.lt_of_lt_of_le hd3 zz_; have BA_4 := Lib.hid ((BA_3.out.below b_ (Nat.le_refl _)).mono (Nat.le_refl _) zz_); have WT_4 := Lib.hid ((WT_3.out.below b_ (Nat.le_refl _)).mono (Nat.le_refl _) zz_); have kc4_0 := SS4.out.1; have kc4_1 := SS4.out.2; clear q_; clear b_))
    go_loopw [9, 10, 11, 12] (fun t t10 t11 t12 wr => ∃ i : Nat, i ≤ nz ∧ t = .int .i64 i ∧ (wr.cell? ⟨w.heap.size, 0, none⟩ = some (.int .i64 pS) ∧ wr.cell? ⟨w.heap.size, 1, none⟩ = some (.slice aS S.length cS)) ∧ Below w.heap.size w wr ∧ w.heap.size < wr.heap.size ∧ MatIn w.heap.size wr.heap.size wr rz z) (fun t _ _ _ _ => nz - (intOf t).toNat)
    case atStart => exact ⟨0, Nat.zero_le _, rfl, SS4.out, HB4.out, hd4, BA_4.out⟩
    case round =>
      obtain ⟨i, hi, rfl, hss, hbw, hdw, hba⟩ := hrel
      have SSa := Lib.hid hss
      have HBa := Lib.hid hbw
      have BAa := Lib.hid hba
      have hzn : (z.length : Int) = (nz : Int) := by rw [HNZ.out]
      clear hss hbw hba BA_4
      by_cases hlt : i < nz
      · have hi1 : (i : Int) < (z.length : Int) := by omega
        clear hzn
        go_upto_region 14 with fail
        go_loopw [10, 11, 12] (fun t t11 t12 wr => ∃ k : Nat, k ≤ n ∧ t = .int .i64 k ∧ (wr.cell? ⟨w.heap.size, 0, none⟩ = some (.int .i64 pS) ∧ wr.cell? ⟨w.heap.size, 1, none⟩ = some (.slice aS S.length cS)) ∧ Below w.heap.size w wr ∧ w.heap.size < wr.heap.size ∧ MatIn w.heap.size wr.heap.size wr rz z) (fun t _ _ _ => n - (intOf t).toNat)
        case atStart => exact ⟨0, Nat.zero_le _, rfl, SSa.out, HBa.out, hdw, BAa.out⟩
        case round =>
          obtain ⟨k, hk, rfl, hss, hbw, hdw2, hba⟩ := hrel
          have SSw := Lib.hid hss
          have HBw := Lib.hid hbw
          have BA_w := Lib.hid hba
          have hmn : (m.length : Int) = (n : Int) := by rw [HN.out]
          have kw0 := SSw.out.1
          have kw1 := SSw.out.2
          clear hss hbw hba
          by_cases hlk : k < n
          · have hk1 : (k : Int) < (m.length : Int) := by omega
            clear hmn
            obtain ⟨b9, o9, rq, cq, ha9, _, hb9, hr9, hrow⟩ := (HM.out.below HBw.out tS).row (show k < m.length by rw [← HN.out]; exact hlk)
            obtain ⟨b8, o8, ry, cy, ha8, _, hb8, hr8, hrow8⟩ := BA_w.out.row (show i < z.length by rw [← HNZ.out]; exact hlt)
            subst ha9
            subst ha8
            have V1 := Lib.hid (HVZ.out i hlt)
            have V2 := Lib.hid (HVM.out k hlk)
            have P0 := Lib.hid (HOZ.out i hlt k hlk)
            have NJ := Lib.hid (code_vec2 HI.out V1.out V2.out)
            have NJV : Hid (pairV pS S (rw' z i) (rw' m k) = 0) := by show _ = _; rw [NJ.out.2]; exact P0.out
            have s_1 : (rw' z i).length ≤ 1048576 := by rw [(isVec_iff.1 V1.out).len]; exact sS
            have s_2 : (rw' m k).length ≤ 1048576 := by rw [(isVec_iff.1 V2.out).len]; exact sS
            have hwl : w.heap.size ≤ wr.heap.size := HBw.out.size
            have HX := Lib.hid hrow
            have HY := Lib.hid hrow8
            have HXC := Lib.hid hr9
            have HYC := Lib.hid hr8
            clear hrow hrow8
            have SS101 : Hid (wr.drew.cell? ⟨w.heap.size, 0, none⟩ = some (.int .i64 pS) ∧ wr.drew.cell? ⟨w.heap.size, 1, none⟩ = some (.slice aS S.length cS)) := SSw.out
            have HB101 : Hid (Below w.heap.size w wr.drew) := (HBw.out).drew
            have hd101 : w.heap.size < wr.drew.heap.size := hdw2
            have BA_101 := Lib.hid ((BA_w.out.below (below_drew wr) (Nat.le_refl _)).mono (Nat.le_refl _) (size_drew wr))
            have HX2 : Hid (RowIn w0.heap.size w.heap.size wr.drew rq (rw' m k)) := HX.out.below (below_drew wr) hwl
            have HY2 : Hid (RowIn w.heap.size wr.heap.size wr.drew ry (rw' z i)) := HY.out.below (below_drew wr) (Nat.le_refl _)
            go_wp2
            go_region_held3 (fun w' => w'.cell? ⟨w.heap.size, 0, none⟩ = some (.int .i64 pS) ∧ w'.cell? ⟨w.heap.size, 1, none⟩ = some (.slice aS S.length cS) ∧ w'.cell? ⟨b9, o9 + k, none⟩ = some (.slice rq (rw' m k).length cq) ∧ w'.cell? ⟨b8, o8 + i, none⟩ = some (.slice ry (rw' z i).length cy)) (first | exact ⟨SS101.out.1, SS101.out.2, HXC.out, HYC.out⟩ | exact ⟨SS102.out.1, SS102.out.2, HXC3.out, HYC3.out⟩ | go_keep) (first | (go_at_call 9; (with_reducible refine (impl_PairOf pS aS S cS w0.heap.size w.heap.size ry (rw' z i) cy w.heap.size wr.heap.size rq (rw' m k) cq w0.heap.size w.heap.size wr.drew (HS.out.below HB101.out tS) (Nat.le_trans tS (HB101.out).size) sS HY2.out (Nat.le_refl _) s_1 HX2.out (Nat.le_trans hwl (size_drew wr)) s_2).mono ?_); rintro e w102 ⟨rfl, b_⟩; have SS102 := Lib.hid (And.intro ((b_.cell (p := ⟨w.heap.size, 0, none⟩) hd101).trans SS101.out.1) ((b_.cell (p := ⟨w.heap.size, 1, none⟩) hd101).trans SS101.out.2)); have HB102 := Lib.hid (below_step HB101.out (Nat.le_of_lt hd101) b_); have zz_ := b_.size; have hd102 := Nat.lt_of_lt_of_le hd101 zz_; have BA_102 := Lib.hid ((BA_101.out.below b_ (Nat.le_refl _)).mono (Nat.le_refl _) zz_); rw [NJ.out.1, NJV.out]; have HXC3 := Lib.hid ((b_.cell (p := ⟨b9, o9 + k, none⟩) (Nat.lt_of_lt_of_le hb9 hwl)).trans HXC.out); have HYC3 := Lib.hid ((b_.cell (p := ⟨b8, o8 + i, none⟩) hb8).trans HYC.out); have kc102_0 := SS102.out.1; have kc102_1 := SS102.out.2; clear b_))
            go_wp2
            go_roundw
            case rel => exact ⟨k + 1, by omega, by go_num, SS102.out, HB102.out, hd102, BA_102.out⟩
            case measure => (simp [intOf] <;> omega)
          · have hk1 : ¬ (k : Int) < (m.length : Int) := by omega
            clear hmn
            go_wp2
            go_roundw
            case rel => exact ⟨i + 1, by omega, by go_num, SSw.out, HBw.out, hdw2, BA_w.out⟩
            case measure => (simp [intOf] <;> omega)
      · have hi1 : ¬ (i : Int) < (z.length : Int) := by omega
        clear hzn
        have ka0 := SSa.out.1
        have ka1 := SSa.out.2
        cases hqv : q with
        | false =>
          have hqE := Lib.hid hqv
          rw [hqv] at hqD
          have E_rq : Hid (regV pS S = false) := E_rg.out.trans hqv
          clear hqv
          go_wp2_with (first | (go_at_call 10; (with_reducible refine (impl_IsRegular pS aS S cS w0.heap.size w.heap.size wr (HS.out.below HBa.out tS) (Nat.le_trans tS (HBa.out).size) sS).mono ?_); rintro e w201 ⟨rfl, b_⟩; have SS201 := Lib.hid (And.intro ((b_.cell (p := ⟨w.heap.size, 0, none⟩) hdw).trans SSa.out.1) ((b_.cell (p := ⟨w.heap.size, 1, none⟩) hdw).trans SSa.out.2)); have HB201 := Lib.hid (below_step HBa.out (Nat.le_of_lt hdw) b_); have zz_ := b_.size; have hd201 := Nat.lt_of_lt_of_le hdw zz_; have BA_201 := Lib.hid ((BAa.out.below b_ (Nat.le_refl _)).mono (Nat.le_refl _) zz_); rw [C_1.out, E_rq.out]; have kc201_0 := SS201.out.1; have kc201_1 := SS201.out.2; clear b_) | (go_at_call 11; (with_reducible refine (impl_DiscriminantOf pS aS S cS w0.heap.size w.heap.size w201 (HS.out.below HB201.out tS) (Nat.le_trans tS (HB201.out).size) sS).mono ?_); rintro e w202 ⟨rfl, b_⟩; have SS202 := Lib.hid (And.intro ((b_.cell (p := ⟨w.heap.size, 0, none⟩) hd201).trans SS201.out.1) ((b_.cell (p := ⟨w.heap.size, 1, none⟩) hd201).trans SS201.out.2)); have HB202 := Lib.hid (below_step HB201.out (Nat.le_of_lt hd201) b_); have zz_ := b_.size; have hd202 := Nat.lt_of_lt_of_le hd201 zz_; have BA_202 := Lib.hid ((BA_201.out.below b_ (Nat.le_refl _)).mono (Nat.le_refl _) zz_); rw [C_1.out, E_ds.out]; have kc202_0 := SS202.out.1; have kc202_1 := SS202.out.2; clear b_) | (go_at_call 12; (with_reducible refine (impl_SpanBasis pS am m cm w0.heap.size w.heap.size w202 (HM.out.below HB202.out tS) (Nat.le_trans tS (HB202.out).size) sm).mono ?_); rintro e w203 ⟨rsb, ksb, rfl, o_, b_⟩; have SS203 := Lib.hid (And.intro ((b_.cell (p := ⟨w.heap.size, 0, none⟩) hd202).trans SS202.out.1) ((b_.cell (p := ⟨w.heap.size, 1, none⟩) hd202).trans SS202.out.2)); have HB203 := Lib.hid (below_step HB202.out (Nat.le_of_lt hd202) b_); have zz_ := b_.size; have hd203 := Nat.lt_of_lt_of_le hd202 zz_; have BA_203 := Lib.hid ((BA_202.out.below b_ (Nat.le_refl _)).mono (Nat.le_refl _) zz_); rw [C_0.out, E_sb.out]; clear o_; have kc203_0 := SS203.out.1; have kc203_1 := SS203.out.2; clear b_))
          go_ret
          exact ⟨rfl, HB00.out.trans (HB203.out.mono HB00.out.size)⟩
        | true =>
          have hqE := Lib.hid hqv
          rw [hqv] at hqD
          have E_rq : Hid (regV pS S = true) := E_rg.out.trans hqv
          clear hqv
          have hdm : ((z.length : Int) + (sb.length : Int) == (S.length : Int)) = true := by
            have := DIM.out hqE.out
            have := HNZ.out
            simp; omega
          go_wp2_with (first | (go_at_call 10; (with_reducible refine (impl_IsRegular pS aS S cS w0.heap.size w.heap.size wr (HS.out.below HBa.out tS) (Nat.le_trans tS (HBa.out).size) sS).mono ?_); rintro e w201 ⟨rfl, b_⟩; have SS201 := Lib.hid (And.intro ((b_.cell (p := ⟨w.heap.size, 0, none⟩) hdw).trans SSa.out.1) ((b_.cell (p := ⟨w.heap.size, 1, none⟩) hdw).trans SSa.out.2)); have HB201 := Lib.hid (below_step HBa.out (Nat.le_of_lt hdw) b_); have zz_ := b_.size; have hd201 := Nat.lt_of_lt_of_le hdw zz_; have BA_201 := Lib.hid ((BAa.out.below b_ (Nat.le_refl _)).mono (Nat.le_refl _) zz_); rw [C_1.out, E_rq.out]; have kc201_0 := SS201.out.1; have kc201_1 := SS201.out.2; clear b_) | (go_at_call 11; (with_reducible refine (impl_DiscriminantOf pS aS S cS w0.heap.size w.heap.size w201 (HS.out.below HB201.out tS) (Nat.le_trans tS (HB201.out).size) sS).mono ?_); rintro e w202 ⟨rfl, b_⟩; have SS202 := Lib.hid (And.intro ((b_.cell (p := ⟨w.heap.size, 0, none⟩) hd201).trans SS201.out.1) ((b_.cell (p := ⟨w.heap.size, 1, none⟩) hd201).trans SS201.out.2)); have HB202 := Lib.hid (below_step HB201.out (Nat.le_of_lt hd201) b_); have zz_ := b_.size; have hd202 := Nat.lt_of_lt_of_le hd201 zz_; have BA_202 := Lib.hid ((BA_201.out.below b_ (Nat.le_refl _)).mono (Nat.le_refl _) zz_); rw [C_1.out, E_ds.out]; have kc202_0 := SS202.out.1; have kc202_1 := SS202.out.2; clear b_) | (go_at_call 12; (with_reducible refine (impl_SpanBasis pS am m cm w0.heap.size w.heap.size w202 (HM.out.below HB202.out tS) (Nat.le_trans tS (HB202.out).size) sm).mono ?_); rintro e w203 ⟨rsb, ksb, rfl, o_, b_⟩; have SS203 := Lib.hid (And.intro ((b_.cell (p := ⟨w.heap.size, 0, none⟩) hd202).trans SS202.out.1) ((b_.cell (p := ⟨w.heap.size, 1, none⟩) hd202).trans SS202.out.2)); have HB203 := Lib.hid (below_step HB202.out (Nat.le_of_lt hd202) b_); have zz_ := b_.size; have hd203 := Nat.lt_of_lt_of_le hd202 zz_; have BA_203 := Lib.hid ((BA_202.out.below b_ (Nat.le_refl _)).mono (Nat.le_refl _) zz_); rw [C_0.out, E_sb.out]; clear o_; have kc203_0 := SS203.out.1; have kc203_1 := SS203.out.2; clear b_))
          go_ret
          exact ⟨rfl, HB00.out.trans (HB203.out.mono HB00.out.size)⟩

set_option maxRecDepth 100000 in
theorem law_og (a : Option Addr) (len cap : Nat) (zs : List Int) (w : World) (hb : Code8 w a len zs) (hm : len ≤ 9223372036854775807) :
    Calls Try.prog 3 #[.slice a len cap] w fun e w' => e = .returned (.bool true) ∧ Below w.heap.size w w' := by
  by_cases hl : len ≤ 4096
  · exact law_og_small a len cap zs w hb hl
  · clear hb
    go_enter Try.func3, Try.ntmps3
    go_wp2_with (go_at_call 4; refine (big_yes a len cap _ (by omega) hm).mono ?_; rintro e w' ⟨rfl, rfl⟩)
    go_ret
    exact ⟨rfl, Below.refl _ _⟩

end Go.Proofs.Ytdfkpbmccmbjmaa
