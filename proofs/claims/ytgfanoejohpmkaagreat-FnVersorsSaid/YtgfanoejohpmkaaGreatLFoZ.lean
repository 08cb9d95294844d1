/-
  The walk of the law on versors: FnVersors.
  Conditions: the code is nil or a row of known bytes.
-/
import Derived.Test.YtgfanoejohpmkaaGreatQs7
import Derived.Test.YtgfanoejohpmkaaGreatQs12
import Derived.Test.YtgfanoejohpmkaaGreatQs21
import Derived.Test.YtgfanoejohpmkaaGreatQs14
import Derived.Test.YtgfanoejohpmkaaGreatQs35
import Derived.Test.YtgfanoejohpmkaaGreatQs39
import Derived.Test.YtgfanoejohpmkaaGreatQs49
import Derived.Test.YtgfanoejohpmkaaGreatQs44
import Derived.Test.YtgfanoejohpmkaaGreatQs13
import Derived.Test.YtgfanoejohpmkaaGreatQs50
import Derived.Deep.RegionHeld3
import Derived.Deep.DeepCutAuto
namespace Go.Proofs.YtgfanoejohpmkaaGreat
open Go.RowKit
set_option linter.unusedVariables false

theorem reg_ok {p : Int} {S : List Int} {m : List (List Int)} (h : codeMv p S m = 0) (hd : discN p S ≠ 0) : regC p S m = 0 := by
  unfold regC
  rw [if_pos h, if_neg hd]
theorem sd_ok {p : Int} {S x v : List Int} (hr : regC p S [x] = 0) (hs : isSp p S = true) (hv : isVr p S x = true) (hy : isVec p S.length v = true) : sdC p S x v = 0 ∧ sdV p S x v = sdM p S x v := by
  have h : sdC p S x v = 0 := by
    unfold sdC
    rw [if_pos (codeVs_ok hs (by rw [mv_all1]; exact hy))]
    unfold vrC
    rw [if_pos hr, if_pos hv]
  exact ⟨h, by unfold sdV; rw [if_pos h]⟩
theorem sdM_vec {p : Int} {S x v : List Int} (hs : isSp p S = true) : isVec p S.length (sdM p S x v) = true := by
  have hp := prm_bd (isSp_iff.1 hs).prime
  refine isVec_iff.2 ⟨mkR_len _ _, ?_⟩
  rw [List.all_eq_true]
  intro y hy
  obtain ⟨j, hj, rfl⟩ := List.getElem_of_mem hy
  rw [← getD_at hj]
  have hj' : j < S.length := by unfold sdM at hj; rw [mkR_len] at hj; exact hj
  unfold sdM
  rw [mkR_at _ hj']
  exact inr_iff.2 ⟨Int.emod_nonneg _ (by omega), Int.emod_lt_of_pos _ (by omega)⟩
theorem mv_sz {p : Int} {S x : List Int} (h6 : S.length ≤ 6) (hx : isMv p S x = true) : x.length ≤ 1048576 := by
  have := bl_le h6
  rw [Mv.len hx]; omega
theorem tot_bd7 {m : List (List Int)} {c : Nat} (h : ∀ i, i < m.length → (rw' m i).length ≤ c) : ∀ k, k ≤ m.length → tot m k ≤ k * c
  | 0, _ => by simp [tot]
  | k + 1, hk => by
    have h1 := tot_bd7 h k (by omega)
    have h2 := h k (by omega)
    show tot m k + (rw' m k).length ≤ (k + 1) * c
    rw [Nat.add_mul]; omega
theorem nul_no {p : Int} {S : List Int} {m : List (List Int)} {k : Nat} (h : nulB p S m k = false) : ∀ j, j < k → pairN p S (rw' m j) (rw' m j) ≠ 0 := fun j hj e => by
  unfold nulB at h
  rw [List.any_eq_false] at h
  exact h j (List.mem_range.2 hj) (by simp [e])
theorem vo_cases (p : Int) (S : List Int) (m : List (List Int)) : (∃ k, k ≠ 0 ∧ voC p S m = k) ∨ (voC p S m = 0 ∧ isSp p S = true ∧ m.length ≤ 16 ∧ discN p S ≠ 0 ∧ (∀ j, j < m.length → isVec p S.length (rw' m j) = true) ∧ ∀ j, j < m.length → pairN p S (rw' m j) (rw' m j) ≠ 0) := by
  by_cases h : voC p S m = 0
  · right
    have h2 := h
    unfold voC at h2
    split at h2
    · rename_i hc
      obtain ⟨hs, hl⟩ := codeL_sp7 hc
      have hll := listB_iff hl
      split at h2
      · cases h2
      · rename_i hd
        split at h2
        · cases h2
        · rename_i hn
          exact ⟨h, hs, hll.1, hd, hll.2, nul_no (by simpa using hn)⟩
    · rename_i hc; exact absurd h2 hc
  · exact .inl ⟨_, h, rfl⟩
theorem vs_step {p nr P N : Int} {S : List Int} {m : List (List Int)} {j : Nat} (hN : N = pairN p S (rw' m j) (rw' m j)) (h : P * vsF p S m (j + 1) % p = nr) : (P * N % p) * vsF p S m j % p = nr := by
  rw [← h, hN, em_l]
  show _ = P * (vsF p S m j * pairN p S (rw' m j) (rw' m j) % p) % p
  rw [em_r, Int.mul_assoc, Int.mul_comm (pairN p S (rw' m j) (rw' m j))]
theorem mul13' {p k o : Int} (h13 : p ≤ 13) (k0 : 0 ≤ k) (k1 : k < p) (o0 : 0 ≤ o) (o1 : o < p) : 0 ≤ k * o ∧ k * o ≤ 169 :=
  ⟨Int.mul_nonneg k0 o0, by have := Int.mul_le_mul (a := k) (b := o) (c := 13) (d := 13) (by omega) (by omega) o0 (by omega); omega⟩
theorem unit_one (S : List Int) : unitR S 1 = mOne S := rfl
theorem even_bit (n : Nat) : (((n : Int) % 2) == 0) = decide (n % 2 = 0) := by
  rw [Bool.eq_iff_iff, beq_iff_eq, decide_eq_true_eq]
  omega
theorem disc_reg {p : Int} {S x : List Int} (h : regC p S [x] = 0) : discN p S ≠ 0 := by
  rcases regC_cases p S [x] with ⟨_, _, h2⟩ | ⟨_, _, h2⟩ | ⟨_, _, _, _, h2⟩ | ⟨_, _, _, hd, _⟩
  · rw [h] at h2; cases h2
  · rw [h] at h2; cases h2
  · rw [h] at h2; cases h2
  · exact hd
theorem rf_ok {p : Int} {S u v : List Int} (hd : discN p S ≠ 0) (hs : isSp p S = true) (hu : isVec p S.length u = true) (hv : isVec p S.length v = true) (h0 : pairN p S u u ≠ 0) : rfC p S u v = 0 := by
  have h : rvC p S [u, v] = 0 := by
    unfold rvC
    rw [if_pos (codeVs_ok hs (by rw [mv_all2, hu, hv]; rfl)), if_neg hd]
  unfold rfC
  rw [if_pos h, if_neg h0]
theorem like_len (a c : Option Addr) (zs : List Int) (k1 n lo hi lo' hi' : Nat) (w : World) (hb : RowIn lo hi w a zs) (hc : RowIn lo' hi' w c zs) (hn : zs.length = n) (hl : zs.length ≤ 1048576) :
    Calls Tryz.prog 15 #[.slice a zs.length k1, .slice c n n] w fun e w' => e = .returned (.bool true) ∧ Quiet w w' := by
  subst hn
  exact likeInts_same a c zs k1 zs.length lo hi lo' hi' w hb hc hl
set_option maxHeartbeats 1000000 in
set_option maxRecDepth 100000 in
theorem roll839_any (a : Option Addr) (len cap : Nat) (zs : List Int) (w : World) (hb : Code8 w a len zs) (hl : len ≤ 4096) :
    Calls Tryz.prog 21 #[.slice a len cap, .int .u64 839] w (Made a len cap zs w) := by
  have HB := Lib.hid hb
  clear hb
  go_enter Tryz.func21, Tryz.ntmps21
  go_wp2
  go_loopw [6] (fun t wr => ∃ i : Nat, i ≤ len ∧ t = .int .i64 i ∧ (∃ h : Int, SrcAt wr w.heap.size a len cap zs 0 h) ∧ Below w.heap.size w wr) (fun t _ => len - (intOf t).toNat)
  case atStart => exact ⟨0, by omega, rfl, ⟨6444359 + (len : Int), by simp, by simp [go_sem], by simp [go_sem], by simp [go_sem], by simp [go_sem], by simp [go_sem], Nat.zero_le _, hl, HB.out.only (Only.refl _ _ |>.alloc _)⟩, by ((repeat' (first | with_reducible exact Below.refl _ _ | (with_reducible refine Below.setCell ?_ ?_ _) | (with_reducible refine Below.alloc ?_ ?_ _) | (with_reducible refine Below.drew ?_))); all_goals (first | (simp; done) | omega | (simp; omega)))⟩
  case round =>
    obtain ⟨i, hi, rfl, ⟨h, s⟩, hbel⟩ := hrel
    have S := Lib.hid s
    obtain ⟨lt, c0, c1, c2, f1, f2, le, sm, by_⟩ := s
    by_cases hlt : i < len
    · rcases by_ with h0 | ⟨xb, xo, rfl, hb, hsz, hc⟩
      · omega
      · obtain ⟨⟨z0, z1⟩, hcell⟩ := hc i hlt
        obtain ⟨z, hz⟩ : ∃ z, z = zs.getD i 0 := ⟨_, rfl⟩
        rw [← hz] at hcell z0 z1
        have hne : ¬ w.heap.size = xb := by omega
        clear hc hz
        go_wp2
        go_region
        go_wp2
        go_roundw
        case rel => exact ⟨i + 1, by omega, by go_num, ⟨_, first_src S.out _⟩, by (have hs_hbel := hbel.size; (repeat' (first | with_reducible exact Below.refl _ _ | (with_reducible refine Below.setCell ?_ ?_ _) | (with_reducible refine Below.alloc ?_ ?_ _) | (with_reducible refine Below.drew ?_) | (with_reducible refine below_step ?_ ?_ hbel))); all_goals (first | (simp; done) | omega | (simp; omega) | (simp at hs_hbel ⊢; omega)))⟩
        case measure => simp [intOf]; omega
    · clear by_
      go_wp2
      go_ret
      exact ⟨rfl, hbel, 0, h, S.out⟩

theorem cells2_alloc {w : World} {g : Nat} {u0 u1 : Value} (o : Obj) (l : g < w.heap.size) (h0 : w.cell? ⟨g, 0, none⟩ = some u0 ∧ w.cell? ⟨g, 1, none⟩ = some u1) : (w.alloc o).cell? ⟨g, 0, none⟩ = some u0 ∧ (w.alloc o).cell? ⟨g, 1, none⟩ = some u1 :=
  ⟨((below_alloc w o).cell (p := ⟨g, 0, none⟩) l).trans h0.1, ((below_alloc w o).cell (p := ⟨g, 1, none⟩) l).trans h0.2⟩
theorem cells2_far {w : World} {g k i : Nat} {u0 u1 x : Value} (hne : g ≠ k) (h0 : w.cell? ⟨g, 0, none⟩ = some u0 ∧ w.cell? ⟨g, 1, none⟩ = some u1) : (w.setCell ⟨k, i, none⟩ x).cell? ⟨g, 0, none⟩ = some u0 ∧ (w.setCell ⟨k, i, none⟩ x).cell? ⟨g, 1, none⟩ = some u1 :=
  ⟨(World.cell?_setCell_other _ ⟨k, i, none⟩ ⟨g, 0, none⟩ _ (fun e => by injection e with e1; omega)).trans h0.1, (World.cell?_setCell_other _ ⟨k, i, none⟩ ⟨g, 1, none⟩ _ (fun e => by injection e with e1; omega)).trans h0.2⟩
theorem unit_in {lo tp : Nat} {w : World} {g : Nat} {S : List Int} {z : Int} (h : RowOwn w g 0 (bl S) (fun _ => 0)) (h0 : lo ≤ g) (h1 : g < tp) (hb : 0 < bl S) : RowIn lo tp (w.setCell ⟨g, 0, none⟩ (.int .i64 z)) (some ⟨g, 0, none⟩) (unitR S z) :=
  rowOwn_in (rowOwn_put0 h hb z) h0 h1
theorem numsV {p : Int} {n : Nat} {v : List Int} (h : isVec p n v = true) : ∀ j, j < v.length → 0 ≤ v.getD j 0 ∧ v.getD j 0 < p := fun j hj => (isVec_iff.1 h).num (by rw [← (isVec_iff.1 h).len]; exact hj)
theorem vecM_mv {p : Int} {S v : List Int} (hs : isSp p S = true) (hv : isVec p S.length v = true) : isMv p S (vecM S v) = true := by
  have hp := prm_bd (isSp_iff.1 hs).prime
  have hn := numsV hv
  refine vec_of (by unfold vecM; rw [mkR_len]) fun j hj => ?_
  unfold vecM at hj ⊢
  rw [mkR_len] at hj
  rw [mkR_at _ hj]
  have key : ∀ k, k ≤ v.length → 0 ≤ vecF v k j ∧ vecF v k j < p := fun k => by
    induction k with
    | zero => intro _; show 0 ≤ (0 : Int) ∧ (0 : Int) < p; omega
    | succ k ih =>
      intro h
      show 0 ≤ (if j = 2 ^ k then v.getD k 0 else vecF v k j) ∧ (if j = 2 ^ k then v.getD k 0 else vecF v k j) < p
      split
      · exact hn k (by omega)
      · exact ih (by omega)
  exact key v.length (Nat.le_refl _)
theorem unit_len (S : List Int) (z : Int) : (unitR S z).length = bl S := by unfold unitR; rw [mkR_len]

set_option maxRecDepth 100000 in
set_option maxHeartbeats 16000000 in
theorem law_fo_small (a0 : Option Addr) (len cap : Nat) (zs : List Int) (w0 : World) (hb : Code8 w0 a0 len zs) (hl : len ≤ 4096) :
    Calls Tryz.prog 3 #[.slice a0 len cap] w0 fun e w' => e = .returned (.bool true) ∧ Below w0.heap.size w0 w' := by
  have HC8 := Lib.hid hb
  clear hb
  go_enter Tryz.func3, Tryz.ntmps3
  go_upto_region 4 with (first | (go_at_call 11; refine (big_no a0 len cap _ hl).mono ?_; rintro e w' ⟨rfl, rfl⟩) | (go_at_call 12; (with_reducible refine (drawVO_any a0 len cap zs _ HC8.out hl).mono ?_); rintro e w ⟨pS, aS, S, cS, am, m, cm, rfl, hX, hM, hML, hS, hmm, hb0⟩; have HS := Lib.hid hS; have HM := Lib.hid hmm; have HB00 := Lib.hid hb0; have HL := Lib.hid (And.intro hX (And.intro hM hML)); clear hS hmm hb0 hX hM hML))
  have tS : w.heap.size ≤ w.heap.size := Nat.le_refl _
  have sS : S.length ≤ 1048576 := by have := HL.out.1; omega
  have sm : m.length + tot m m.length ≤ 1048576 := by
    have h1 := tot_bd7 (m := m) (c := 8) HL.out.2.2 m.length (Nat.le_refl _)
    have h2 := HL.out.2.1
    omega
  obtain ⟨w1, hw1⟩ : ∃ z, z = w.alloc (.cells #[.int .i64 pS, .slice aS S.length cS] 26) := ⟨_, rfl⟩
  have SS1 : Hid (w1.cell? ⟨w.heap.size, 0, none⟩ = some (.int .i64 pS) ∧ w1.cell? ⟨w.heap.size, 1, none⟩ = some (.slice aS S.length cS)) := by show _ ∧ _; rw [hw1]; exact ⟨nw0 w _ _ _, nw1 w _ _ _⟩
  have HB1 : Hid (Below w.heap.size w w1) := by show Below _ _ _; rw [hw1]; exact below_alloc w _
  have hd1 : w.heap.size < w1.heap.size := by rw [hw1]; simp
  have kk0 := SS1.out.1
  have kk1 := SS1.out.2
  rw [← hw1]
  clear hw1
  rcases vo_cases pS S m with ⟨kc, hk, hc⟩ | ⟨hc, hi, hm16, hd, hmv, hmn⟩
  · have HC := Lib.hid hc
    obtain ⟨z, hz⟩ : ∃ z, z = voV pS S m := ⟨_, rfl⟩
    have EZ : Hid (voV pS S m = z) := hz.symm
    have s_z : z.length ≤ 1048576 := by rw [hz]; exact voV_size _ _ _
    have hk1 : (kc != 0) = true := by simp [hk]
    have hk2 : (kc == 0) = false := by simp [hk]
    have hk3 : (kc != kc) = false := by simp
    clear hc hz hk
    go_wp2_with (first | (go_at_call 13; (with_reducible refine (impl_VersorOf pS aS S cS w0.heap.size w.heap.size am m cm w0.heap.size w.heap.size w1 (HS.out.below HB1.out tS) (Nat.le_trans tS (HB1.out).size) sS (HM.out.below HB1.out tS) (Nat.le_trans tS (HB1.out).size) sm).mono ?_); rintro e w2 ⟨rz, kz, rfl, o_, b_⟩; have SS2 := Lib.hid (And.intro ((b_.cell (p := ⟨w.heap.size, 0, none⟩) hd1).trans SS1.out.1) ((b_.cell (p := ⟨w.heap.size, 1, none⟩) hd1).trans SS1.out.2)); have HB2 := Lib.hid (below_step HB1.out (Nat.le_of_lt hd1) b_); have zz_ := b_.size; have hd2 := Nat.lt_of_lt_of_le hd1 zz_; rw [EZ.out] at o_; rw [HC.out, EZ.out]; have o_ := o_.row; have RZ_2 := Lib.hid (o_.mono (Nat.le_of_lt hd1) (Nat.le_refl _)); clear o_; have kc2_0 := SS2.out.1; have kc2_1 := SS2.out.2; clear b_) | (go_at_call 14; (with_reducible refine (spec_VersorOf pS aS S cS w0.heap.size w.heap.size am m cm w0.heap.size w.heap.size w2 (HS.out.below HB2.out tS) (Nat.le_trans tS (HB2.out).size) sS (HM.out.below HB2.out tS) (Nat.le_trans tS (HB2.out).size) sm).mono ?_); rintro e w3 ⟨rwt, kwt, rfl, o_, b_⟩; have SS3 := Lib.hid (And.intro ((b_.cell (p := ⟨w.heap.size, 0, none⟩) hd2).trans SS2.out.1) ((b_.cell (p := ⟨w.heap.size, 1, none⟩) hd2).trans SS2.out.2)); have HB3 := Lib.hid (below_step HB2.out (Nat.le_of_lt hd2) b_); have zz_ := b_.size; have hd3 := Nat.lt_of_lt_of_le hd2 zz_; have RZ_3 := Lib.hid ((RZ_2.out.below b_ (Nat.le_refl _)).mono (Nat.le_refl _) zz_); rw [EZ.out] at o_; rw [HC.out, EZ.out]; have WT_3 := Lib.hid (o_.mono (Nat.le_of_lt hd2) (Nat.le_refl _)); clear o_; have kc3_0 := SS3.out.1; have kc3_1 := SS3.out.2; clear b_) | (go_at_call 15; (with_reducible refine (likeInts_same rz rwt z kz kwt w.heap.size w3.heap.size w.heap.size w3.heap.size w3 RZ_3.out WT_3.out s_z).mono ?_); rintro e w4 ⟨rfl, q_⟩; have b_ := q_.below w3.heap.size; have SS4 := Lib.hid (And.intro ((b_.cell (p := ⟨w.heap.size, 0, none⟩) hd3).trans SS3.out.1) ((b_.cell (p := ⟨w.heap.size, 1, none⟩) hd3).trans SS3.out.2)); have HB4 := Lib.hid (below_step HB3.out (Nat.le_of_lt hd3) b_); have zz_ := b_.size; have hd4 := Nat.lt_of_lt_of_le hd3 zz_; have RZ_4 := Lib.hid ((RZ_3.out.below b_ (Nat.le_refl _)).mono (Nat.le_refl _) zz_); have WT_4 := Lib.hid ((WT_3.out.below b_ (Nat.le_refl _)).mono (Nat.le_refl _) zz_); have kc4_0 := SS4.out.1; have kc4_1 := SS4.out.2; clear q_; clear b_))
    go_ret
    exact ⟨rfl, HB00.out.trans (HB4.out.mono HB00.out.size)⟩
  · have HC := Lib.hid hc
    obtain ⟨z, hz⟩ : ∃ z, z = voV pS S m := ⟨_, rfl⟩
    have EZ : Hid (voV pS S m = z) := hz.symm
    have s_z : z.length ≤ 1048576 := by rw [hz]; exact voV_size _ _ _
    have HI := Lib.hid hi
    have HMV := Lib.hid hmv
    have HMN := Lib.hid hmn
    have HP := Lib.hid (isSp_iff.1 hi).prime
    have hpb := prm_bd (isSp_iff.1 hi).prime
    have hp0 : 0 < pS := by omega
    have hp1 : 1 ≤ pS := by omega
    have h6 := (isSp_iff.1 hi).hi
    have hbl := bl_le h6
    have hb0 := bl_pos S
    obtain ⟨n, hn⟩ : ∃ n, n = m.length := ⟨_, rfl⟩
    have HN := Lib.hid hn
    have hn17 : n ≤ 17 := by omega
    have EZZ : Hid (z = vrM pS S m n) := by show _ = _; rw [hz, hn]; unfold voV; rw [if_pos hc]
    have M_z : Hid (isMv pS S z = true) := by show _ = _; rw [EZZ.out]; exact vr_mv hi _ _
    have hmv2 : ∀ j, j < n → isVec pS S.length (rw' m j) = true := fun j hj => hmv j (by omega)
    have hmn2 : ∀ j, j < n → pairN pS S (rw' m j) (rw' m j) ≠ 0 := fun j hj => hmn j (by omega)
    have VR : Hid (isVr pS S z = true) := by show _ = _; rw [EZZ.out]; exact isVr_vr hi hmv2 hmn2
    have R_z : Hid (regC pS S [z] = 0) := reg_ok (codeMv_ok hi (by rw [mv_all1]; exact M_z.out)) hd
    have E_is : Hid (isvB pS S z = true) := by show _ = _; unfold isvB; rw [if_pos R_z.out]; exact VR.out
    obtain ⟨nr, hnr⟩ : ∃ v, v = vsF pS S m n := ⟨_, rfl⟩
    have E_nr : Hid (nrV pS S z = nr) := by show _ = _; unfold nrV; rw [if_pos R_z.out, EZZ.out, nrF_vr hi hmv2, hnr]
    have C_vr : Hid (vrC pS S z = 0) := by show _ = _; unfold vrC; rw [if_pos R_z.out, if_pos VR.out]
    obtain ⟨bk, hbk⟩ : ∃ v, v = viM pS S z := ⟨_, rfl⟩
    have E_bk : Hid (viV pS S z = bk) := by show _ = _; unfold viV; rw [if_pos C_vr.out, hbk]
    have M_bk : Hid (isMv pS S bk = true) := by show _ = _; rw [hbk]; exact vi_mv hi M_z.out
    have s_bk := mv_sz h6 M_bk.out
    have VB := Lib.hid (vi_back hi hmv2 hmn2)
    rw [← EZZ.out, ← hbk] at VB
    have R_bk : Hid (regC pS S [bk] = 0) := reg_ok (codeMv_ok hi (by rw [mv_all1]; exact M_bk.out)) hd
    have E_on : Hid (prodM pS S z bk = mOne S) := by show _ = _; rw [hbk, EZZ.out]; exact vi_vr hi hmv2 hmn2
    obtain ⟨q, hq⟩ : ∃ q, q = decide (n % 2 = 0) := ⟨_, rfl⟩
    have E_rt : Hid (rotB pS S z = q) := by show _ = _; unfold rotB; rw [if_pos R_z.out, VR.out, EZZ.out, par_even hi hmv2 hmn2, hq]; rfl
    have hqq : (((m.length : Int) % 2) == 0) = q := by rw [hq, hn]; exact even_bit m.length
    have hqe : (q == q) = true := by simp
    have hqn : (q != q) = false := by simp
    have SDV := Lib.hid (fun v (hv : isVec pS S.length v = true) => sd_vr hi hmv2 hmn2 hv)
    have HNR := Lib.hid hnr
    have HNX := Lib.hid (And.intro hmv2 hmn2)
    clear hc hz hi hmv hmn hmv2 hmn2 hd hnr hbk hq
    go_upto_region 14 with (first | (go_at_call 13; (with_reducible refine (impl_VersorOf pS aS S cS w0.heap.size w.heap.size am m cm w0.heap.size w.heap.size w1 (HS.out.below HB1.out tS) (Nat.le_trans tS (HB1.out).size) sS (HM.out.below HB1.out tS) (Nat.le_trans tS (HB1.out).size) sm).mono ?_); rintro e w2 ⟨rz, kz, rfl, o_, b_⟩; have SS2 := Lib.hid (And.intro ((b_.cell (p := ⟨w.heap.size, 0, none⟩) hd1).trans SS1.out.1) ((b_.cell (p := ⟨w.heap.size, 1, none⟩) hd1).trans SS1.out.2)); have HB2 := Lib.hid (below_step HB1.out (Nat.le_of_lt hd1) b_); have zz_ := b_.size; have hd2 := Nat.lt_of_lt_of_le hd1 zz_; rw [EZ.out] at o_; rw [HC.out, EZ.out]; have o_ := o_.row; have RZ_2 := Lib.hid (o_.mono (Nat.le_of_lt hd1) (Nat.le_refl _)); clear o_; have kc2_0 := SS2.out.1; have kc2_1 := SS2.out.2; clear b_) | (go_at_call 14; (with_reducible refine (spec_VersorOf pS aS S cS w0.heap.size w.heap.size am m cm w0.heap.size w.heap.size w2 (HS.out.below HB2.out tS) (Nat.le_trans tS (HB2.out).size) sS (HM.out.below HB2.out tS) (Nat.le_trans tS (HB2.out).size) sm).mono ?_); rintro e w3 ⟨rwt, kwt, rfl, o_, b_⟩; have SS3 := Lib.hid (And.intro ((b_.cell (p := ⟨w.heap.size, 0, none⟩) hd2).trans SS2.out.1) ((b_.cell (p := ⟨w.heap.size, 1, none⟩) hd2).trans SS2.out.2)); have HB3 := Lib.hid (below_step HB2.out (Nat.le_of_lt hd2) b_); have zz_ := b_.size; have hd3 := Nat.lt_of_lt_of_le hd2 zz_; have RZ_3 := Lib.hid ((RZ_2.out.below b_ (Nat.le_refl _)).mono (Nat.le_refl _) zz_); rw [EZ.out] at o_; rw [HC.out, EZ.out]; have WT_3 := Lib.hid (o_.mono (Nat.le_of_lt hd2) (Nat.le_refl _)); clear o_; have kc3_0 := SS3.out.1; have kc3_1 := SS3.out.2; clear b_) | (go_at_call 15; (with_reducible refine (likeInts_same rz rwt z kz kwt w.heap.size w3.heap.size w.heap.size w3.heap.size w3 RZ_3.out WT_3.out s_z).mono ?_); rintro e w4 ⟨rfl, q_⟩; have b_ := q_.below w3.heap.size; have SS4 := Lib.hid (And.intro ((b_.cell (p := ⟨w.heap.size, 0, none⟩) hd3).trans SS3.out.1) ((b_.cell (p := ⟨w.heap.size, 1, none⟩) hd3).trans SS3.out.2)); have HB4 := Lib.hid (below_step HB3.out (Nat.le_of_lt hd3) b_); have zz_ := b_.size; have hd4 := Nat.lt_of_lt_of_le hd3 zz_; have RZ_4 := Lib.hid ((RZ_3.out.below b_ (Nat.le_refl _)).mono (Nat.le_refl _) zz_); have WT_4 := Lib.hid ((WT_3.out.below b_ (Nat.le_refl _)).mono (Nat.le_refl _) zz_); have kc4_0 := SS4.out.1; have kc4_1 := SS4.out.2; clear q_; clear b_) | (go_at_call 16; (with_reducible refine (impl_IsVersor pS aS S cS w0.heap.size w.heap.size rz z kz w.heap.size w4.heap.size w4 (HS.out.below HB4.out tS) (Nat.le_trans tS (HB4.out).size) sS RZ_4.out (Nat.le_refl _) s_z).mono ?_); rintro e w5 ⟨rfl, b_⟩; have SS5 := Lib.hid (And.intro ((b_.cell (p := ⟨w.heap.size, 0, none⟩) hd4).trans SS4.out.1) ((b_.cell (p := ⟨w.heap.size, 1, none⟩) hd4).trans SS4.out.2)); have HB5 := Lib.hid (below_step HB4.out (Nat.le_of_lt hd4) b_); have zz_ := b_.size; have hd5 := Nat.lt_of_lt_of_le hd4 zz_; have RZ_5 := Lib.hid ((RZ_4.out.below b_ (Nat.le_refl _)).mono (Nat.le_refl _) zz_); rw [R_z.out, E_is.out]; have kc5_0 := SS5.out.1; have kc5_1 := SS5.out.2; clear b_) | (go_at_call 17; (with_reducible refine (impl_SpinorNormOf pS aS S cS w0.heap.size w.heap.size rz z kz w.heap.size w5.heap.size w5 (HS.out.below HB5.out tS) (Nat.le_trans tS (HB5.out).size) sS RZ_5.out (Nat.le_refl _) s_z).mono ?_); rintro e w6 ⟨rfl, b_⟩; have SS6 := Lib.hid (And.intro ((b_.cell (p := ⟨w.heap.size, 0, none⟩) hd5).trans SS5.out.1) ((b_.cell (p := ⟨w.heap.size, 1, none⟩) hd5).trans SS5.out.2)); have HB6 := Lib.hid (below_step HB5.out (Nat.le_of_lt hd5) b_); have zz_ := b_.size; have hd6 := Nat.lt_of_lt_of_le hd5 zz_; have RZ_6 := Lib.hid ((RZ_5.out.below b_ (Nat.le_refl _)).mono (Nat.le_refl _) zz_); rw [R_z.out, E_nr.out]; have kc6_0 := SS6.out.1; have kc6_1 := SS6.out.2; clear b_) | (go_at_call 18; (with_reducible refine (impl_VersorInverse pS aS S cS w0.heap.size w.heap.size rz z kz w.heap.size w6.heap.size w6 (HS.out.below HB6.out tS) (Nat.le_trans tS (HB6.out).size) sS RZ_6.out (Nat.le_refl _) s_z).mono ?_); rintro e w7 ⟨rbk, kbk, rfl, o_, b_⟩; have SS7 := Lib.hid (And.intro ((b_.cell (p := ⟨w.heap.size, 0, none⟩) hd6).trans SS6.out.1) ((b_.cell (p := ⟨w.heap.size, 1, none⟩) hd6).trans SS6.out.2)); have HB7 := Lib.hid (below_step HB6.out (Nat.le_of_lt hd6) b_); have zz_ := b_.size; have hd7 := Nat.lt_of_lt_of_le hd6 zz_; have RZ_7 := Lib.hid ((RZ_6.out.below b_ (Nat.le_refl _)).mono (Nat.le_refl _) zz_); rw [E_bk.out] at o_; rw [C_vr.out, E_bk.out]; have o_ := o_.row; have BK_7 := Lib.hid (o_.mono (Nat.le_of_lt hd6) (Nat.le_refl _)); clear o_; have kc7_0 := SS7.out.1; have kc7_1 := SS7.out.2; clear b_) | (go_at_call 19; (with_reducible refine (impl_IsRotor pS aS S cS w0.heap.size w.heap.size rz z kz w.heap.size w7.heap.size w7 (HS.out.below HB7.out tS) (Nat.le_trans tS (HB7.out).size) sS RZ_7.out (Nat.le_refl _) s_z).mono ?_); rintro e w8 ⟨rfl, b_⟩; have SS8 := Lib.hid (And.intro ((b_.cell (p := ⟨w.heap.size, 0, none⟩) hd7).trans SS7.out.1) ((b_.cell (p := ⟨w.heap.size, 1, none⟩) hd7).trans SS7.out.2)); have HB8 := Lib.hid (below_step HB7.out (Nat.le_of_lt hd7) b_); have zz_ := b_.size; have hd8 := Nat.lt_of_lt_of_le hd7 zz_; have RZ_8 := Lib.hid ((RZ_7.out.below b_ (Nat.le_refl _)).mono (Nat.le_refl _) zz_); have BK_8 := Lib.hid ((BK_7.out.below b_ (Nat.le_refl _)).mono (Nat.le_refl _) zz_); rw [R_z.out, E_rt.out]; have kc8_0 := SS8.out.1; have kc8_1 := SS8.out.2; clear b_))
    have SS9 : Hid (w8.drew.cell? ⟨w.heap.size, 0, none⟩ = some (.int .i64 pS) ∧ w8.drew.cell? ⟨w.heap.size, 1, none⟩ = some (.slice aS S.length cS)) := SS8.out
    have HB9 : Hid (Below w.heap.size w w8.drew) := (HB8.out).drew
    have hd9 : w.heap.size < w8.drew.heap.size := hd8
    have RZ_9 := Lib.hid ((RZ_8.out.below (below_drew w8) (Nat.le_refl _)).mono (Nat.le_refl _) (size_drew w8))
    have BK_9 := Lib.hid ((BK_8.out.below (below_drew w8) (Nat.le_refl _)).mono (Nat.le_refl _) (size_drew w8))
    obtain ⟨bd, hbdd⟩ : ∃ z, z = w8.drew.heap.size := ⟨_, rfl⟩
    have HBD := Lib.hid hbdd
    have hbd : w.heap.size ≤ bd := by rw [hbdd]; exact Nat.le_of_lt hd9
    have hwbd : w.heap.size ≠ bd := by rw [hbdd]; exact Nat.ne_of_lt hd9
    clear hbdd
    go_region_held3 (fun w' => w'.cell? ⟨w.heap.size, 0, none⟩ = some (.int .i64 pS) ∧ w'.cell? ⟨w.heap.size, 1, none⟩ = some (.slice aS S.length cS)) (first | exact SS9.out | exact SS10.out | exact SS11.out | go_keep) (first | (go_at_call 21; (with_reducible refine (roll839_any a0 len cap zs w8.drew (HC8.out.below (HB00.out.trans (HB9.out.mono HB00.out.size))) hl).mono ?_); rintro e w10 ⟨rfl, b_, s_⟩; have SS10 := Lib.hid (And.intro ((b_.cell (p := ⟨w.heap.size, 0, none⟩) hd9).trans SS9.out.1) ((b_.cell (p := ⟨w.heap.size, 1, none⟩) hd9).trans SS9.out.2)); have HB10 := Lib.hid (below_step HB9.out (Nat.le_of_lt hd9) b_); have zz_ := b_.size; have hd10 := Nat.lt_of_lt_of_le hd9 zz_; have RZ_10 := Lib.hid (RZ_9.out.below b_ (Nat.le_refl _)); have BK_10 := Lib.hid (BK_9.out.below b_ (Nat.le_refl _)); have kc10_0 := SS10.out.1; have kc10_1 := SS10.out.2; have HD := Lib.hid s_; clear s_; rw [← HBD.out] at HD RZ_10 BK_10 ⊢; have hbdl := HD.out.lt; have hzr := Nat.le_refl w10.heap.size; clear b_) | (go_at_call 20; (with_reducible refine (list5_any pS S.length bd a0 len cap zs w10 HD.out sS hp1).mono ?_); rintro e w11 ⟨rvv, kvv, vv, rfl, ⟨hul, hun⟩, o_, on_, s_⟩; have SS11 := Lib.hid (And.intro ((on_.cell (p := ⟨w.heap.size, 0, none⟩) hd10 hwbd).trans SS10.out.1) ((on_.cell (p := ⟨w.heap.size, 1, none⟩) hd10 hwbd).trans SS10.out.2)); have HB11 := Lib.hid ((HB10.out).trans (on_.below hbd (Nat.le_of_lt hd10))); have zz_ := on_.size; have hd11 := Nat.lt_of_lt_of_le hd10 zz_; have RZ_11 := Lib.hid (RZ_10.out.only on_ (.inr (Nat.le_refl _)) (Nat.le_of_lt HD.out.lt)); have BK_11 := Lib.hid (BK_10.out.only on_ (.inr (Nat.le_refl _)) (Nat.le_of_lt HD.out.lt)); have hz11 := Nat.le_trans hzr zz_; have HD11 := Lib.hid s_; have VV_11 := Lib.hid (o_.mono hzr (Nat.le_refl _)); clear o_; have kc11_0 := SS11.out.1; have kc11_1 := SS11.out.2; have HVX : Hid (isVec pS S.length vv = true) := vec_of hul hun; clear hul hun; clear on_ s_))
    have s_vv : vv.length ≤ 1048576 := by rw [(isVec_iff.1 HVX.out).len]; exact sS
    obtain ⟨im, him⟩ : ∃ v, v = rfA pS S m n vv := ⟨_, rfl⟩
    have V_im : Hid (isVec pS S.length im = true) := by show _ = _; rw [him]; exact rfA_vec hp0 m n vv HVX.out
    have s_im : im.length ≤ 1048576 := by rw [(isVec_iff.1 V_im.out).len]; exact sS
    have E_sd : Hid (sdM pS S z vv = im) := by show _ = _; rw [EZZ.out, SDV.out vv HVX.out, him]
    have C_im : Hid (sdC pS S z vv = 0) := (sd_ok R_z.out HI.out VR.out HVX.out).1
    have E_im : Hid (sdV pS S z vv = im) := by show _ = _; rw [(sd_ok R_z.out HI.out VR.out HVX.out).2, E_sd.out]
    have C_ag : Hid (sdC pS S bk im = 0) := (sd_ok R_bk.out HI.out VB.out.1 V_im.out).1
    have E_ag : Hid (sdV pS S bk im = vv) := by show _ = _; rw [(sd_ok R_bk.out HI.out VB.out.1 V_im.out).2, ← E_sd.out]; exact VB.out.2 vv HVX.out
    obtain ⟨nv, hnv⟩ : ∃ v, v = pairN pS S vv vv := ⟨_, rfl⟩
    have NV := Lib.hid (code_vec2 HI.out HVX.out HVX.out)
    have NVV : Hid (pairV pS S vv vv = nv) := by show _ = _; rw [hnv]; exact NV.out.2
    have NI := Lib.hid (code_vec2 HI.out V_im.out V_im.out)
    have NIV : Hid (pairV pS S im im = nv) := by show _ = _; rw [NI.out.2, him, hnv]; exact rfA_keeps HP.out m n HNX.out.2 vv HVX.out
    have hvn : (nv != nv) = false := by simp
    have HIM := Lib.hid him
    clear him hnv
    go_upto_region 23 with (first | (go_at_call 22; (with_reducible refine (impl_SandwichOf pS aS S cS w0.heap.size w.heap.size rz z kz w.heap.size bd rvv vv kvv w10.heap.size w11.heap.size w11 (HS.out.below HB11.out tS) (Nat.le_trans tS (HB11.out).size) sS RZ_11.out (Nat.le_of_lt HD11.out.lt) s_z VV_11.out (Nat.le_refl _) s_vv).mono ?_); rintro e w12 ⟨rim, kim, rfl, o_, b_⟩; have SS12 := Lib.hid (And.intro ((b_.cell (p := ⟨w.heap.size, 0, none⟩) hd11).trans SS11.out.1) ((b_.cell (p := ⟨w.heap.size, 1, none⟩) hd11).trans SS11.out.2)); have HB12 := Lib.hid (below_step HB11.out (Nat.le_of_lt hd11) b_); have zz_ := b_.size; have hd12 := Nat.lt_of_lt_of_le hd11 zz_; have RZ_12 := Lib.hid (RZ_11.out.below b_ (Nat.le_of_lt HD11.out.lt)); have BK_12 := Lib.hid (BK_11.out.below b_ (Nat.le_of_lt HD11.out.lt)); have VV_12 := Lib.hid ((VV_11.out.below b_ (Nat.le_refl _)).mono (Nat.le_refl _) zz_); have hz12 := Nat.le_trans hz11 zz_; have HD12 := Lib.hid (HD11.out.step b_); rw [E_im.out] at o_; rw [C_im.out, E_im.out]; have o_ := o_.row; have IM_12 := Lib.hid (o_.mono hz11 (Nat.le_refl _)); clear o_; have kc12_0 := SS12.out.1; have kc12_1 := SS12.out.2; clear b_) | (go_at_call 22; (with_reducible refine (impl_SandwichOf pS aS S cS w0.heap.size w.heap.size rbk bk kbk w.heap.size bd rim im kim w10.heap.size w12.heap.size w12 (HS.out.below HB12.out tS) (Nat.le_trans tS (HB12.out).size) sS BK_12.out (Nat.le_of_lt HD12.out.lt) s_bk IM_12.out (Nat.le_refl _) s_im).mono ?_); rintro e w13 ⟨rag, kag, rfl, o_, b_⟩; have SS13 := Lib.hid (And.intro ((b_.cell (p := ⟨w.heap.size, 0, none⟩) hd12).trans SS12.out.1) ((b_.cell (p := ⟨w.heap.size, 1, none⟩) hd12).trans SS12.out.2)); have HB13 := Lib.hid (below_step HB12.out (Nat.le_of_lt hd12) b_); have zz_ := b_.size; have hd13 := Nat.lt_of_lt_of_le hd12 zz_; have RZ_13 := Lib.hid (RZ_12.out.below b_ (Nat.le_of_lt HD12.out.lt)); have BK_13 := Lib.hid (BK_12.out.below b_ (Nat.le_of_lt HD12.out.lt)); have VV_13 := Lib.hid ((VV_12.out.below b_ (Nat.le_refl _)).mono (Nat.le_refl _) zz_); have IM_13 := Lib.hid ((IM_12.out.below b_ (Nat.le_refl _)).mono (Nat.le_refl _) zz_); have hz13 := Nat.le_trans hz12 zz_; have HD13 := Lib.hid (HD12.out.step b_); rw [E_ag.out] at o_; rw [C_ag.out, E_ag.out]; have o_ := o_.row; have AG_13 := Lib.hid (o_.mono hz12 (Nat.le_refl _)); clear o_; have kc13_0 := SS13.out.1; have kc13_1 := SS13.out.2; clear b_) | (go_at_call 23; (with_reducible refine (impl_NormOf pS aS S cS w0.heap.size w.heap.size rvv vv kvv w10.heap.size w13.heap.size w13 (HS.out.below HB13.out tS) (Nat.le_trans tS (HB13.out).size) sS VV_13.out (Nat.le_refl _) s_vv).mono ?_); rintro e w14 ⟨rfl, b_⟩; have SS14 := Lib.hid (And.intro ((b_.cell (p := ⟨w.heap.size, 0, none⟩) hd13).trans SS13.out.1) ((b_.cell (p := ⟨w.heap.size, 1, none⟩) hd13).trans SS13.out.2)); have HB14 := Lib.hid (below_step HB13.out (Nat.le_of_lt hd13) b_); have zz_ := b_.size; have hd14 := Nat.lt_of_lt_of_le hd13 zz_; have RZ_14 := Lib.hid (RZ_13.out.below b_ (Nat.le_of_lt HD13.out.lt)); have BK_14 := Lib.hid (BK_13.out.below b_ (Nat.le_of_lt HD13.out.lt)); have VV_14 := Lib.hid ((VV_13.out.below b_ (Nat.le_refl _)).mono (Nat.le_refl _) zz_); have IM_14 := Lib.hid ((IM_13.out.below b_ (Nat.le_refl _)).mono (Nat.le_refl _) zz_); have AG_14 := Lib.hid ((AG_13.out.below b_ (Nat.le_refl _)).mono (Nat.le_refl _) zz_); have hz14 := Nat.le_trans hz13 zz_; have HD14 := Lib.hid (HD13.out.step b_); rw [NV.out.1, NVV.out]; have kc14_0 := SS14.out.1; have kc14_1 := SS14.out.2; clear b_) | (go_at_call 23; (with_reducible refine (impl_NormOf pS aS S cS w0.heap.size w.heap.size rim im kim w10.heap.size w14.heap.size w14 (HS.out.below HB14.out tS) (Nat.le_trans tS (HB14.out).size) sS IM_14.out (Nat.le_refl _) s_im).mono ?_); rintro e w15 ⟨rfl, b_⟩; have SS15 := Lib.hid (And.intro ((b_.cell (p := ⟨w.heap.size, 0, none⟩) hd14).trans SS14.out.1) ((b_.cell (p := ⟨w.heap.size, 1, none⟩) hd14).trans SS14.out.2)); have HB15 := Lib.hid (below_step HB14.out (Nat.le_of_lt hd14) b_); have zz_ := b_.size; have hd15 := Nat.lt_of_lt_of_le hd14 zz_; have RZ_15 := Lib.hid (RZ_14.out.below b_ (Nat.le_of_lt HD14.out.lt)); have BK_15 := Lib.hid (BK_14.out.below b_ (Nat.le_of_lt HD14.out.lt)); have VV_15 := Lib.hid ((VV_14.out.below b_ (Nat.le_refl _)).mono (Nat.le_refl _) zz_); have IM_15 := Lib.hid ((IM_14.out.below b_ (Nat.le_refl _)).mono (Nat.le_refl _) zz_); have AG_15 := Lib.hid ((AG_14.out.below b_ (Nat.le_refl _)).mono (Nat.le_refl _) zz_); have hz15 := Nat.le_trans hz14 zz_; have HD15 := Lib.hid (HD14.out.step b_); rw [NI.out.1, NIV.out]; have kc15_0 := SS15.out.1; have kc15_1 := SS15.out.2; clear b_) | (go_at_call 15; (with_reducible refine (likeInts_same rag rvv vv kag kvv w10.heap.size w15.heap.size w10.heap.size w15.heap.size w15 AG_15.out VV_15.out s_vv).mono ?_); rintro e w16 ⟨rfl, q_⟩; have b_ := q_.below w15.heap.size; have SS16 := Lib.hid (And.intro ((b_.cell (p := ⟨w.heap.size, 0, none⟩) hd15).trans SS15.out.1) ((b_.cell (p := ⟨w.heap.size, 1, none⟩) hd15).trans SS15.out.2)); have HB16 := Lib.hid (below_step HB15.out (Nat.le_of_lt hd15) b_); have zz_ := b_.size; have hd16 := Nat.lt_of_lt_of_le hd15 zz_; have RZ_16 := Lib.hid (RZ_15.out.below b_ (Nat.le_of_lt HD15.out.lt)); have BK_16 := Lib.hid (BK_15.out.below b_ (Nat.le_of_lt HD15.out.lt)); have VV_16 := Lib.hid ((VV_15.out.below b_ (Nat.le_refl _)).mono (Nat.le_refl _) zz_); have IM_16 := Lib.hid ((IM_15.out.below b_ (Nat.le_refl _)).mono (Nat.le_refl _) zz_); have AG_16 := Lib.hid ((AG_15.out.below b_ (Nat.le_refl _)).mono (Nat.le_refl _) zz_); have hz16 := Nat.le_trans hz15 zz_; have HD16 := Lib.hid (HD15.out.step b_); have kc16_0 := SS16.out.1; have kc16_1 := SS16.out.2; clear q_; clear b_))
    have RZ_0 : Hid (RowIn w.heap.size w16.heap.size w16 rz z) := RZ_16.out.mono (Nat.le_refl _) (Nat.le_of_lt HD16.out.lt)
    have BK_0 : Hid (RowIn w.heap.size w16.heap.size w16 rbk bk) := BK_16.out.mono (Nat.le_refl _) (Nat.le_of_lt HD16.out.lt)
    have VV_0 : Hid (RowIn w.heap.size w16.heap.size w16 rvv vv) := VV_16.out.mono (Nat.le_trans hbd (Nat.le_of_lt (Nat.lt_of_lt_of_le hbdl (Nat.le_refl _)))) (Nat.le_refl _)
    have IM_0 : Hid (RowIn w.heap.size w16.heap.size w16 rim im) := IM_16.out.mono (Nat.le_trans hbd (Nat.le_of_lt (Nat.lt_of_lt_of_le hbdl (Nat.le_refl _)))) (Nat.le_refl _)
    go_loopw [26, 27, 28] (fun u v t wr => ∃ (k : Nat) (t0 P : Int) (rn : Option Addr) (cn : Nat) (V : List Int), k ≤ n ∧ u = .int .i64 P ∧ v = .slice rn V.length cn ∧ t = .int .i64 t0 ∧ t0 + 1 = (k : Int) ∧ 0 ≤ P ∧ P < pS ∧ P * vsF pS S m k % pS = nr ∧ rfA pS S m k V = im ∧ isVec pS S.length V = true ∧ (wr.cell? ⟨w.heap.size, 0, none⟩ = some (.int .i64 pS) ∧ wr.cell? ⟨w.heap.size, 1, none⟩ = some (.slice aS S.length cS)) ∧ Below w.heap.size w wr ∧ w.heap.size < wr.heap.size ∧ RowIn w.heap.size wr.heap.size wr rz z ∧ RowIn w.heap.size wr.heap.size wr rbk bk ∧ RowIn w.heap.size wr.heap.size wr rim im ∧ RowIn w.heap.size wr.heap.size wr rn V) (fun _ _ t _ => (intOf t + 1).toNat)
    case atStart => exact ⟨n, (m.length : Int) - 1, 1, rvv, kvv, vv, Nat.le_refl _, rfl, rfl, by go_num, by rw [← HN.out]; omega, by omega, by omega, by rw [Int.one_mul, HNR.out]; exact Int.emod_eq_of_lt (vs_bd (by omega) S m n).1 (vs_bd (by omega) S m n).2, HIM.out.symm, HVX.out, SS16.out, HB16.out, hd16, RZ_0.out, BK_0.out, IM_0.out, VV_0.out⟩
    case round =>
      obtain ⟨k, t0, P, rn, cn, V, hk, rfl, rfl, rfl, ht0, hP0, hP1, hvs, hrf, hV, hss, hbw, hdw, hrz, hbk, him, hrn⟩ := hrel
      have SSw := Lib.hid hss
      have HBw := Lib.hid hbw
      have RZ_w := Lib.hid hrz
      have BK_w := Lib.hid hbk
      have IM_w := Lib.hid him
      have NW_w := Lib.hid hrn
      have HVS := Lib.hid hvs
      have HRF := Lib.hid hrf
      have HVV := Lib.hid hV
      have s_V : V.length ≤ 1048576 := by rw [(isVec_iff.1 hV).len]; exact sS
      have kw0 := SSw.out.1
      have kw1 := SSw.out.2
      clear hss hbw hrz hbk him hrn hvs hrf hV
      clear RZ_16 BK_16 VV_16 IM_16 RZ_0 BK_0 VV_0 IM_0
      by_cases hk0 : k = 0
      · subst hk0
        obtain rfl : t0 = -1 := by omega
        have hVim : V = im := HRF.out
        subst hVim
        have hPn : P = nr := by have h := HVS.out; rw [show vsF pS S m 0 = 1 from rfl, Int.mul_one, Int.emod_eq_of_lt hP0 hP1] at h; exact h
        subst hPn
        have hPP : (P == P) = true := by simp
        have hmk := fun W => run_make_row' (P := Tryz.prog) 24 2 (.int .i64 0) 8 Tryz.underlying24 info64 rfl .i64 .i64 (bl S) (by omega) (by omega) W
        clear hk ht0 HRF HVS
        go_upto_region 32 with (first | (go_at_call 26; (with_reducible refine (size5_any pS aS S cS wr h6).mono ?_); rintro e w101 ⟨rfl, b_⟩; have SS101 := Lib.hid (And.intro ((b_.cell (p := ⟨w.heap.size, 0, none⟩) hdw).trans SSw.out.1) ((b_.cell (p := ⟨w.heap.size, 1, none⟩) hdw).trans SSw.out.2)); have HB101 := Lib.hid (below_step HBw.out (Nat.le_of_lt hdw) b_); have zz_ := b_.size; have hd101 := Nat.lt_of_lt_of_le hdw zz_; have RZ_101 := Lib.hid ((RZ_w.out.below b_ (Nat.le_refl _)).mono (Nat.le_refl _) zz_); have BK_101 := Lib.hid ((BK_w.out.below b_ (Nat.le_refl _)).mono (Nat.le_refl _) zz_); have IM_101 := Lib.hid ((IM_w.out.below b_ (Nat.le_refl _)).mono (Nat.le_refl _) zz_); have NW_101 := Lib.hid ((NW_w.out.below b_ (Nat.le_refl _)).mono (Nat.le_refl _) zz_); have kc101_0 := SS101.out.1; have kc101_1 := SS101.out.2; clear b_))
        obtain ⟨wz, hwz⟩ : ∃ z, z = w101.alloc (.cells (madeCells #[.int .i64 0] (bl S)) 2) := ⟨_, rfl⟩
        obtain ⟨gz, hgz⟩ : ∃ z, z = w101.heap.size := ⟨_, rfl⟩
        have SS102 : Hid (wz.cell? ⟨w.heap.size, 0, none⟩ = some (.int .i64 pS) ∧ wz.cell? ⟨w.heap.size, 1, none⟩ = some (.slice aS S.length cS)) := by show _ ∧ _; rw [hwz]; exact cells2_alloc _ hd101 SS101.out
        have HB102 : Hid (Below w.heap.size w wz) := by show Below _ _ _; rw [hwz]; exact (HB101.out).alloc (Nat.le_of_lt hd101) _
        have hwg : w.heap.size < gz := by rw [hgz]; exact hd101
        have hgw : gz < wz.heap.size := by rw [hwz, hgz]; simp
        have RO : Hid (RowOwn wz gz 0 (bl S) (fun _ => 0)) := by show RowOwn _ _ _ _ _; rw [hwz, hgz]; exact RowOwn.start _ _ _
        have RZ_102 : Hid (RowIn w.heap.size gz wz rz z) := by show RowIn _ _ _ _ _; rw [hwz, hgz]; exact RZ_101.out.below (below_alloc _ _) (Nat.le_refl _)
        have BK_102 : Hid (RowIn w.heap.size gz wz rbk bk) := by show RowIn _ _ _ _ _; rw [hwz, hgz]; exact BK_101.out.below (below_alloc _ _) (Nat.le_refl _)
        have IM_102 : Hid (RowIn w.heap.size gz wz rim V) := by show RowIn _ _ _ _ _; rw [hwz, hgz]; exact IM_101.out.below (below_alloc _ _) (Nat.le_refl _)
        have NW_102 : Hid (RowIn w.heap.size gz wz rn V) := by show RowIn _ _ _ _ _; rw [hwz, hgz]; exact NW_101.out.below (below_alloc _ _) (Nat.le_refl _)
        rw [← hwz, ← hgz]
        clear hwz hgz
        have zc := RO.out.cell 0 hb0
        have zf := RO.out.free 0 hb0
        rw [Nat.zero_add] at zc zf
        have kc102_0 := SS102.out.1
        have kc102_1 := SS102.out.2
        have hb1 : (0 : Int) < ((bl S : Nat) : Int) := by omega
        go_upto_region 33 with fail
        obtain ⟨wy, hwy⟩ : ∃ z, z = (wz.setCell ⟨gz, 0, none⟩ (.int .i64 1)) := ⟨_, rfl⟩
        have hsz : wy.heap.size = wz.heap.size := by rw [hwy]; simp [World.setCell]
        have SS103 : Hid (wy.cell? ⟨w.heap.size, 0, none⟩ = some (.int .i64 pS) ∧ wy.cell? ⟨w.heap.size, 1, none⟩ = some (.slice aS S.length cS)) := by show _ ∧ _; rw [hwy]; exact cells2_far (Nat.ne_of_lt hwg) SS102.out
        have HB103 : Hid (Below w.heap.size w wy) := by show Below _ _ _; rw [hwy]; exact (HB102.out).setCell (Nat.le_of_lt hwg) _
        have hd103 : w.heap.size < wy.heap.size := by rw [hsz]; exact Nat.lt_trans hwg hgw
        have UN_103 : Hid (RowIn w.heap.size wy.heap.size wy (some ⟨gz, 0, none⟩) (mOne S)) := by show RowIn _ _ _ _ _; rw [hsz, hwy]; exact unit_in (z := 1) RO.out (Nat.le_of_lt hwg) hgw hb0
        have RZ_103 : Hid (RowIn w.heap.size wy.heap.size wy rz z) := by show RowIn _ _ _ _ _; rw [hsz, hwy]; exact (RZ_102.out.far _ (.inr (Nat.le_refl _))).mono (Nat.le_refl _) (Nat.le_of_lt hgw)
        have BK_103 : Hid (RowIn w.heap.size wy.heap.size wy rbk bk) := by show RowIn _ _ _ _ _; rw [hsz, hwy]; exact (BK_102.out.far _ (.inr (Nat.le_refl _))).mono (Nat.le_refl _) (Nat.le_of_lt hgw)
        have IM_103 : Hid (RowIn w.heap.size wy.heap.size wy rim V) := by show RowIn _ _ _ _ _; rw [hsz, hwy]; exact (IM_102.out.far _ (.inr (Nat.le_refl _))).mono (Nat.le_refl _) (Nat.le_of_lt hgw)
        have NW_103 : Hid (RowIn w.heap.size wy.heap.size wy rn V) := by show RowIn _ _ _ _ _; rw [hsz, hwy]; exact (NW_102.out.far _ (.inr (Nat.le_refl _))).mono (Nat.le_refl _) (Nat.le_of_lt hgw)
        rw [← hwy]
        clear hwy hsz zc zf
        have kc103_0 := SS103.out.1
        have kc103_1 := SS103.out.2
        have s_on : (mOne S).length ≤ 1048576 := by rw [one_len]; omega
        go_wp2_with (first | (go_at_call 15; (with_reducible refine (likeInts_same rn rim V cn kim w.heap.size wy.heap.size w.heap.size wy.heap.size wy NW_103.out IM_103.out s_V).mono ?_); rintro e w104 ⟨rfl, q_⟩; have b_ := q_.below wy.heap.size; have SS104 := Lib.hid (And.intro ((b_.cell (p := ⟨w.heap.size, 0, none⟩) hd103).trans SS103.out.1) ((b_.cell (p := ⟨w.heap.size, 1, none⟩) hd103).trans SS103.out.2)); have HB104 := Lib.hid (below_step HB103.out (Nat.le_of_lt hd103) b_); have zz_ := b_.size; have hd104 := Nat.lt_of_lt_of_le hd103 zz_; have RZ_104 := Lib.hid ((RZ_103.out.below b_ (Nat.le_refl _)).mono (Nat.le_refl _) zz_); have BK_104 := Lib.hid ((BK_103.out.below b_ (Nat.le_refl _)).mono (Nat.le_refl _) zz_); have IM_104 := Lib.hid ((IM_103.out.below b_ (Nat.le_refl _)).mono (Nat.le_refl _) zz_); have NW_104 := Lib.hid ((NW_103.out.below b_ (Nat.le_refl _)).mono (Nat.le_refl _) zz_); have UN_104 := Lib.hid ((UN_103.out.below b_ (Nat.le_refl _)).mono (Nat.le_refl _) zz_); have kc104_0 := SS104.out.1; have kc104_1 := SS104.out.2; clear q_; clear b_) | (go_at_call 27; (with_reducible refine (times5_any pS aS S cS w0.heap.size w.heap.size rz z kz w.heap.size w104.heap.size rbk bk kbk w.heap.size w104.heap.size w104 HI.out (HS.out.below HB104.out tS) (Nat.le_trans tS (HB104.out).size) RZ_104.out (Nat.le_refl _) M_z.out BK_104.out (Nat.le_refl _) M_bk.out).mono ?_); rintro e w105 ⟨rpo, kpo, rfl, o_, b_⟩; have SS105 := Lib.hid (And.intro ((b_.cell (p := ⟨w.heap.size, 0, none⟩) hd104).trans SS104.out.1) ((b_.cell (p := ⟨w.heap.size, 1, none⟩) hd104).trans SS104.out.2)); have HB105 := Lib.hid (below_step HB104.out (Nat.le_of_lt hd104) b_); have zz_ := b_.size; have hd105 := Nat.lt_of_lt_of_le hd104 zz_; have RZ_105 := Lib.hid ((RZ_104.out.below b_ (Nat.le_refl _)).mono (Nat.le_refl _) zz_); have BK_105 := Lib.hid ((BK_104.out.below b_ (Nat.le_refl _)).mono (Nat.le_refl _) zz_); have UN_105 := Lib.hid ((UN_104.out.below b_ (Nat.le_refl _)).mono (Nat.le_refl _) zz_); rw [E_on.out] at o_ ⊢; have PO_105 := Lib.hid (o_.mono (Nat.le_of_lt hd104) (Nat.le_refl _)); clear o_; have kc105_0 := SS105.out.1; have kc105_1 := SS105.out.2; clear b_) | (go_at_call 15; (with_reducible refine (like_len rpo (some ⟨gz, 0, none⟩) (mOne S) kpo (bl S) w.heap.size w105.heap.size w.heap.size w105.heap.size w105 PO_105.out UN_105.out (one_len S) s_on).mono ?_); rintro e w106 ⟨rfl, q_⟩; have b_ := q_.below w105.heap.size; have SS106 := Lib.hid (And.intro ((b_.cell (p := ⟨w.heap.size, 0, none⟩) hd105).trans SS105.out.1) ((b_.cell (p := ⟨w.heap.size, 1, none⟩) hd105).trans SS105.out.2)); have HB106 := Lib.hid (below_step HB105.out (Nat.le_of_lt hd105) b_); have zz_ := b_.size; have hd106 := Nat.lt_of_lt_of_le hd105 zz_; have RZ_106 := Lib.hid ((RZ_105.out.below b_ (Nat.le_refl _)).mono (Nat.le_refl _) zz_); have BK_106 := Lib.hid ((BK_105.out.below b_ (Nat.le_refl _)).mono (Nat.le_refl _) zz_); have UN_106 := Lib.hid ((UN_105.out.below b_ (Nat.le_refl _)).mono (Nat.le_refl _) zz_); have PO_106 := Lib.hid ((PO_105.out.below b_ (Nat.le_refl _)).mono (Nat.le_refl _) zz_); have kc106_0 := SS106.out.1; have kc106_1 := SS106.out.2; clear q_; clear b_))
        go_ret
        exact ⟨rfl, HB00.out.trans (HB106.out.mono HB00.out.size)⟩
      · obtain ⟨j, rfl⟩ : ∃ j, k = j + 1 := ⟨k - 1, by omega⟩
        obtain rfl : t0 = (j : Int) := by omega
        clear ht0 hk0
        have hjn : j < n := by omega
        have hjm : j < m.length := by rw [← HN.out]; exact hjn
        obtain ⟨b9, o9, rq, cq, ha9, hb8, hb9, hr9, hrow⟩ := (HM.out.below HBw.out tS).row hjm
        subst ha9
        have hji : (j : Int) < (m.length : Int) := by omega
        have hwl : w.heap.size ≤ wr.heap.size := HBw.out.size
        have HJV := Lib.hid (HNX.out.1 j hjn)
        have HJN := Lib.hid (HNX.out.2 j hjn)
        have s_J : (rw' m j).length ≤ 1048576 := by rw [(isVec_iff.1 HJV.out).len]; exact sS
        obtain ⟨N, hN⟩ : ∃ v, v = pairN pS S (rw' m j) (rw' m j) := ⟨_, rfl⟩
        have hNb : 0 ≤ N ∧ N < pS := by rw [hN]; exact pairN_bd (by omega) _ _ _
        have NJ := Lib.hid (code_vec2 HI.out HJV.out HJV.out)
        have NJV : Hid (pairV pS S (rw' m j) (rw' m j) = N) := by show _ = _; rw [hN]; exact NJ.out.2
        obtain ⟨hm0, hm1⟩ := mul13' hpb.2 hP0 hP1 hNb.1 hNb.2
        have ew1 : wrap64 (P * N) = P * N := by unfold wrap64; omega
        have ew2 : IntKind.i64.wrap (P * N) = P * N := IntWalk.i64_in _ (by omega)
        obtain ⟨V2, hV2⟩ : ∃ v, v = rflM pS S (rw' m j) V := ⟨_, rfl⟩
        have V_2 : Hid (isVec pS S.length V2 = true) := by show _ = _; rw [hV2]; exact rfl_vec7 hp0 HVV.out
        have s_V2 : V2.length ≤ 1048576 := by rw [(isVec_iff.1 V_2.out).len]; exact sS
        have C_rf : Hid (rfC pS S (rw' m j) V = 0) := rf_ok (disc_reg R_z.out) HI.out HJV.out HVV.out HJN.out
        have E_rf : Hid (rfV pS S (rw' m j) V = V2) := by show _ = _; unfold rfV; rw [if_pos C_rf.out, hV2]
        have HRF2 : Hid (rfA pS S m j V2 = im) := by show _ = _; rw [hV2]; exact HRF.out
        have HVS2 : Hid (P * N % pS * vsF pS S m j % pS = nr) := vs_step hN HVS.out
        have hPb := And.intro (Int.emod_nonneg (P * N) (show pS ≠ 0 by omega)) (Int.emod_lt_of_pos (P * N) (show 0 < pS by omega))
        clear hV2 hN HRF HVS
        have HQ_w : Hid (RowIn w0.heap.size w.heap.size wr rq (rw' m j)) := hrow
        have HC_w : Hid (wr.cell? ⟨b9, o9 + j, none⟩ = some (.slice rq (rw' m j).length cq)) := hr9
        clear hrow hr9
        have SS101 : Hid (wr.drew.cell? ⟨w.heap.size, 0, none⟩ = some (.int .i64 pS) ∧ wr.drew.cell? ⟨w.heap.size, 1, none⟩ = some (.slice aS S.length cS)) := SSw.out
        have HB101 : Hid (Below w.heap.size w wr.drew) := (HBw.out).drew
        have hd101 : w.heap.size < wr.drew.heap.size := hdw
        have RZ_101 := Lib.hid ((RZ_w.out.below (below_drew wr) (Nat.le_refl _)).mono (Nat.le_refl _) (size_drew wr))
        have BK_101 := Lib.hid ((BK_w.out.below (below_drew wr) (Nat.le_refl _)).mono (Nat.le_refl _) (size_drew wr))
        have IM_101 := Lib.hid ((IM_w.out.below (below_drew wr) (Nat.le_refl _)).mono (Nat.le_refl _) (size_drew wr))
        have NW_101 := Lib.hid ((NW_w.out.below (below_drew wr) (Nat.le_refl _)).mono (Nat.le_refl _) (size_drew wr))
        have HC101 : Hid (wr.drew.cell? ⟨b9, o9 + j, none⟩ = some (.slice rq (rw' m j).length cq)) := HC_w.out
        have HQ101 : Hid (RowIn w0.heap.size w.heap.size wr.drew rq (rw' m j)) := HQ_w.out.below (below_drew _) (HBw.out).size
        go_wp2
        go_region_held3 (fun w' => w'.cell? ⟨w.heap.size, 0, none⟩ = some (.int .i64 pS) ∧ w'.cell? ⟨w.heap.size, 1, none⟩ = some (.slice aS S.length cS) ∧ w'.cell? ⟨b9, o9 + j, none⟩ = some (.slice rq (rw' m j).length cq)) (first | exact ⟨SS101.out.1, SS101.out.2, HC101.out⟩ | exact ⟨SS102.out.1, SS102.out.2, HC102.out⟩ | go_keep) (first | (go_at_call 23; (with_reducible refine (impl_NormOf pS aS S cS w0.heap.size w.heap.size rq (rw' m j) cq w0.heap.size w.heap.size wr.drew (HS.out.below HB101.out tS) (Nat.le_trans tS (HB101.out).size) sS HQ101.out (HB101.out).size s_J).mono ?_); rintro e w102 ⟨rfl, b_⟩; have SS102 := Lib.hid (And.intro ((b_.cell (p := ⟨w.heap.size, 0, none⟩) hd101).trans SS101.out.1) ((b_.cell (p := ⟨w.heap.size, 1, none⟩) hd101).trans SS101.out.2)); have HB102 := Lib.hid (below_step HB101.out (Nat.le_of_lt hd101) b_); have zz_ := b_.size; have hd102 := Nat.lt_of_lt_of_le hd101 zz_; have RZ_102 := Lib.hid ((RZ_101.out.below b_ (Nat.le_refl _)).mono (Nat.le_refl _) zz_); have BK_102 := Lib.hid ((BK_101.out.below b_ (Nat.le_refl _)).mono (Nat.le_refl _) zz_); have IM_102 := Lib.hid ((IM_101.out.below b_ (Nat.le_refl _)).mono (Nat.le_refl _) zz_); have NW_102 := Lib.hid ((NW_101.out.below b_ (Nat.le_refl _)).mono (Nat.le_refl _) zz_); rw [NJ.out.1, NJV.out]; have HC102 := Lib.hid ((b_.cell (p := ⟨b9, o9 + j, none⟩) (Nat.lt_of_lt_of_le hb9 (HB101.out).size)).trans HC101.out); have HQ102 := Lib.hid (HQ101.out.below b_ (HB101.out).size); have kc102_0 := SS102.out.1; have kc102_1 := SS102.out.2; clear b_))
        go_upto_region 26 with fail
        have SS103 : Hid (w102.drew.cell? ⟨w.heap.size, 0, none⟩ = some (.int .i64 pS) ∧ w102.drew.cell? ⟨w.heap.size, 1, none⟩ = some (.slice aS S.length cS)) := SS102.out
        have HB103 : Hid (Below w.heap.size w w102.drew) := (HB102.out).drew
        have hd103 : w.heap.size < w102.drew.heap.size := hd102
        have RZ_103 := Lib.hid ((RZ_102.out.below (below_drew w102) (Nat.le_refl _)).mono (Nat.le_refl _) (size_drew w102))
        have BK_103 := Lib.hid ((BK_102.out.below (below_drew w102) (Nat.le_refl _)).mono (Nat.le_refl _) (size_drew w102))
        have IM_103 := Lib.hid ((IM_102.out.below (below_drew w102) (Nat.le_refl _)).mono (Nat.le_refl _) (size_drew w102))
        have NW_103 := Lib.hid ((NW_102.out.below (below_drew w102) (Nat.le_refl _)).mono (Nat.le_refl _) (size_drew w102))
        have HC103 : Hid (w102.drew.cell? ⟨b9, o9 + j, none⟩ = some (.slice rq (rw' m j).length cq)) := HC102.out
        have HQ103 : Hid (RowIn w0.heap.size w.heap.size w102.drew rq (rw' m j)) := HQ102.out.below (below_drew _) (HB102.out).size
        go_region_held3 (fun w' => w'.cell? ⟨w.heap.size, 0, none⟩ = some (.int .i64 pS) ∧ w'.cell? ⟨w.heap.size, 1, none⟩ = some (.slice aS S.length cS) ∧ w'.cell? ⟨b9, o9 + j, none⟩ = some (.slice rq (rw' m j).length cq)) (first | exact ⟨SS103.out.1, SS103.out.2, HC103.out⟩ | exact ⟨SS104.out.1, SS104.out.2, HC104.out⟩ | go_keep) (first | (go_at_call 24; (with_reducible refine (impl_ReflectIn pS aS S cS w0.heap.size w.heap.size rq (rw' m j) cq w0.heap.size w.heap.size rn V cn w.heap.size w102.drew.heap.size w102.drew (HS.out.below HB103.out tS) (Nat.le_trans tS (HB103.out).size) sS HQ103.out (HB103.out).size s_J NW_103.out (Nat.le_refl _) s_V).mono ?_); rintro e w104 ⟨rv2, kv2, rfl, o_, b_⟩; have SS104 := Lib.hid (And.intro ((b_.cell (p := ⟨w.heap.size, 0, none⟩) hd103).trans SS103.out.1) ((b_.cell (p := ⟨w.heap.size, 1, none⟩) hd103).trans SS103.out.2)); have HB104 := Lib.hid (below_step HB103.out (Nat.le_of_lt hd103) b_); have zz_ := b_.size; have hd104 := Nat.lt_of_lt_of_le hd103 zz_; have RZ_104 := Lib.hid ((RZ_103.out.below b_ (Nat.le_refl _)).mono (Nat.le_refl _) zz_); have BK_104 := Lib.hid ((BK_103.out.below b_ (Nat.le_refl _)).mono (Nat.le_refl _) zz_); have IM_104 := Lib.hid ((IM_103.out.below b_ (Nat.le_refl _)).mono (Nat.le_refl _) zz_); have NW_104 := Lib.hid ((NW_103.out.below b_ (Nat.le_refl _)).mono (Nat.le_refl _) zz_); rw [E_rf.out] at o_; rw [C_rf.out, E_rf.out]; have o_ := o_.row; have N2_104 := Lib.hid (o_.mono (Nat.le_of_lt hd103) (Nat.le_refl _)); clear o_; have HC104 := Lib.hid ((b_.cell (p := ⟨b9, o9 + j, none⟩) (Nat.lt_of_lt_of_le hb9 (HB103.out).size)).trans HC103.out); have HQ104 := Lib.hid (HQ103.out.below b_ (HB103.out).size); have kc104_0 := SS104.out.1; have kc104_1 := SS104.out.2; clear b_))
        go_wp2_with (go_at_call 25; (with_reducible refine (mod5_any pS (P * N) _ HP.out (by omega) (by omega)).mono ?_); rintro e w' ⟨rfl, rfl⟩)
        go_roundw
        case rel => exact ⟨j, (j : Int) - 1, P * N % pS, rv2, kv2, V2, by omega, rfl, rfl, by go_num, by omega, hPb.1, hPb.2, HVS2.out, HRF2.out, V_2.out, SS104.out, HB104.out, hd104, RZ_104.out, BK_104.out, IM_104.out, N2_104.out⟩
        case measure => (simp [intOf] <;> omega)

set_option maxRecDepth 100000 in
theorem law_fo (a : Option Addr) (len cap : Nat) (zs : List Int) (w : World) (hb : Code8 w a len zs) (hm : len ≤ 9223372036854775807) :
    Calls Tryz.prog 3 #[.slice a len cap] w fun e w' => e = .returned (.bool true) ∧ Below w.heap.size w w' := by
  by_cases hl : len ≤ 4096
  · exact law_fo_small a len cap zs w hb hl
  · clear hb
    go_enter Tryz.func3, Tryz.ntmps3
    go_wp2_with (go_at_call 11; refine (big_yes a len cap _ (by omega) hm).mono ?_; rintro e w' ⟨rfl, rfl⟩)
    go_ret
    exact ⟨rfl, Below.refl _ _⟩

end Go.Proofs.YtgfanoejohpmkaaGreat
