/-
  The program's kernel: the walk.
  Conditions: the matrix is a row of rows of known cells with numbers of the prime.
  The model's kernel of up to 1024 rows: the walk.
  Conditions: the matrix is a row of rows of known cells with numbers of the prime.
-/
import Derived.Test.YtijklpcelbnnjaaGreatQk28
import Derived.Test.YtijklpcelbnnjaaGreatQk21
namespace Go.Proofs.YtijklpcelbnnjaaGreat
open Go.RowKit
set_option linter.unusedVariables false

def OwnK (m : List (List Int)) (w : World) (e : Ending) (w' : World) : Prop :=
  ∃ r k, e = .returned (.slice r m.length k) ∧ OwnM w.heap.size w'.heap.size w' r m ∧ Below w.heap.size w w'

set_option maxRecDepth 100000 in
set_option maxHeartbeats 6400000 in
theorem kernelOf_any (p : Int) (a : Option Addr) (A : List (List Int)) (ca lo tp : Nat) (w : World) (hm : MatIn lo tp w a A) (ht : tp ≤ w.heap.size) (hA : RowsW p A) :
    Calls Tryz.prog 45 #[.int .i64 p, .slice a A.length ca] w (OwnK (kerB p A) w) := by
  obtain ⟨i0, hi, hz0, hz1, hz2⟩ := info_parts info64
  obtain ⟨j0, kj, kz0, kz1, kz2⟩ := info_parts info_slice
  have hpb := prm_bd hA.prime
  have HP := Lib.hid hA.prime
  have HM := Lib.hid hm
  have HA := Lib.hid hA
  have HKL := Lib.hid (kerP_lstW hA)
  have hA0 : 0 < A.length := hA.lo
  obtain ⟨b, o, r0, c0, ha, _, hb, hr0, _⟩ := HM.out.row (i := 0) hA.lo
  subst ha
  rw [Nat.add_zero] at hr0
  have c1 := hA.c0
  have c16 := hA.c1
  obtain ⟨KP, hKP⟩ : ∃ x, x = kerP p A := ⟨_, rfl⟩
  have HKP : Hid (KP = kerN p (bas p A) (pvs (bas p A)) (rw' A 0).length (bas p A).length (rw' A 0).length) := hKP
  have HKB : Hid (kerB p A = bas p KP) := by show _ = _; rw [hKP]; rfl
  rw [← hKP] at HKL
  obtain ⟨c, hcc⟩ : ∃ c, c = (rw' A 0).length := ⟨_, rfl⟩
  rw [← hcc] at hr0 c1 c16 HKP
  have HCC := Lib.hid hcc
  have hb' : b < w.heap.size := Nat.lt_of_lt_of_le hb ht
  obtain ⟨B, hB⟩ : ∃ B, B = bas p A := ⟨_, rfl⟩
  rw [← hB] at HKP
  have HBE := Lib.hid hB
  obtain ⟨n, hn⟩ : ∃ n, n = B.length := ⟨_, rfl⟩
  rw [← hn] at HKP
  have HN := Lib.hid hn
  obtain ⟨P, hP⟩ : ∃ P, P = pvs B := ⟨_, rfl⟩
  rw [← hP] at HKP
  have HPE := Lib.hid hP
  have fv := field_ech
  have hmk := fun W => run_make_row' (P := Tryz.prog) 24 2 (.int .i64 0) 8 Tryz.underlying24 info64 rfl .i64 .i64 c (by omega) (by omega) W
  have HMK := Lib.hid hmk
  rw [HKB.out]
  clear hm hA hKP hcc hB hn hP hmk
  go_enter Tryz.func45, Tryz.ntmps45
  go_wp2_with (go_at_call 78; (with_reducible refine (elimK p _ A _ lo tp _ HM.out ht HA.out).mono ?_); rintro e w2 ⟨ar, cr, ap, cp, dd, rfl, ho2, hp2, hi2, hb2⟩; rw [← HBE.out, ← HN.out]; rw [← HBE.out, ← HCC.out] at hi2; rw [← HBE.out] at ho2; rw [← HBE.out, ← HN.out, ← HPE.out] at hp2; have HIB := Lib.hid hi2; have HO2 := Lib.hid ho2.mat; have HP2 := Lib.hid hp2; have HB2 := Lib.hid hb2; have hr0' := (hb2.cell (p := ⟨b, o, none⟩) hb').trans hr0; have zw2 := hb2.size; have hr3 := ((balloc w2 (.cells #[.slice ar n cr, .slice ap n cp, .int .i64 dd] 96)).cell (p := ⟨b, o, none⟩) (Nat.lt_of_lt_of_le hb' zw2)).trans hr0'; clear ho2 hb2 hi2 hp2 hr0')
  have hRR : Rref p n c (at' B) P := by rw [HPE.out, HN.out]; exact HIB.out.pivs
  have HRR := Lib.hid hRR
  have hnc : n ≤ c := hRR.rows_le
  have HLB : Hid (∀ i, i < n → (rw' B i).length = c) := fun i hi => HIB.out.len i (by rw [← HN.out]; exact hi)
  have HB3 := Lib.hid (balloc w2 (.cells #[.slice ar n cr, .slice ap n cp, .int .i64 dd] 96))
  have HK0 := Lib.hid (cel3_new w2 (.slice ar n cr) (.slice ap n cp) (.int .i64 dd) 96).c0
  have HK1 := Lib.hid (cel3_new w2 (.slice ar n cr) (.slice ap n cp) (.int .i64 dd) 96).c1
  have hz3 : w2.heap.size < (w2.alloc (.cells #[.slice ar n cr, .slice ap n cp, .int .i64 dd] 96)).heap.size := by simp
  obtain ⟨w3, hw3⟩ : ∃ z, z = w2.alloc (.cells #[.slice ar n cr, .slice ap n cp, .int .i64 dd] 96) := ⟨_, rfl⟩
  rw [← hw3] at HB3 HK0 HK1 hz3 hr3
  rw [← hw3]
  clear hRR hw3 hr0
  go_loopw [6, 18] (fun v t wr => ∃ k : Nat, k ≤ c ∧ t = .int .i64 k ∧ OutM w3.heap.size wr v (kerN p B P c n k) ∧ Below w3.heap.size w3 wr) (fun _ t _ => c - (intOf t).toNat)
  case atStart => exact ⟨0, Nat.zero_le _, rfl, ⟨[], ⟨rfl, .inl ⟨rfl, rfl⟩⟩, fun i hi => absurd hi (Nat.not_lt_zero i)⟩, Below.refl _ _⟩
  case round =>
    obtain ⟨k, hk, rfl, ho, hbel⟩ := hrel
    have HO := Lib.hid ho
    have HBEL := Lib.hid hbel
    have hwz := hbel.size
    have k0 := (hbel.cell (p := ⟨w2.heap.size, 0, none⟩) hz3).trans HK0.out
    have k1 := (hbel.cell (p := ⟨w2.heap.size, 1, none⟩) hz3).trans HK1.out
    have hr := (hbel.cell (p := ⟨b, o, none⟩) (show b < w3.heap.size by omega)).trans hr3
    have HB3k : Hid (Below w2.heap.size w2 wr) := HB3.out.trans (hbel.mono (by omega))
    rename World => wk
    clear ho hbel
    by_cases hlt : k < c
    · have hk1 : (k : Int) < (c : Int) := by omega
      cases hpv : isPv P n k with
      | true =>
        have HPV : Hid ((pvL P n).any (· == (k : Int)) = true) := by show _ = _; rw [pvL_any]; exact hpv
        have HE := Lib.hid (kerN_pv (p := p) (B := B) (c := c) hpv)
        clear hpv
        go_wp2_with (go_at_call 79; (with_reducible refine (containsI_any ap (pvL P n) k n _ _ _ _ (HP2.out.below HB3k.out (Nat.le_refl _)) (pvL_len _ _) (by omega)).mono ?_); rintro e w' ⟨rfl, rfl⟩; rw [HPV.out])
        go_roundw
        case rel => exact ⟨k + 1, by omega, by go_num, by rw [HE.out]; exact HO.out, HBEL.out⟩
        case measure => simp [intOf]; omega
      | false =>
        have HPV : Hid ((pvL P n).any (· == (k : Int)) = false) := by show _ = _; rw [pvL_any]; exact hpv
        have HE := Lib.hid (kerN_no (p := p) (B := B) (c := c) hpv)
        have HNP : Hid (∀ i, i < n → P i ≠ k) := fun i hi => isPv_no hpv hi
        have g0 := made_cell wk (.int .i64 0) c 2 hlt
        have f0 : (wk.alloc (.cells (madeCells #[.int .i64 0] c) 2)).frozen? ⟨wk.heap.size, k, none⟩ = false := by simp [go_sem]
        have HT := Lib.hid (unit_tag wk hlt)
        have hmk := HMK.out
        have k1u := ((balloc wk (.cells ((madeCells #[.int .i64 0] c).setIfInBounds k (.int .i64 1)) 2)).cell (p := ⟨w2.heap.size, 1, none⟩) (show w2.heap.size < wk.heap.size by omega)).trans k1
        clear hpv
        go_wp2_with (go_at_call 79; (with_reducible refine (containsI_any ap (pvL P n) k n _ _ _ _ (HP2.out.below HB3k.out (Nat.le_refl _)) (pvL_len _ _) (by omega)).mono ?_); rintro e w' ⟨rfl, rfl⟩; rw [HPV.out])
        clear hmk g0 f0 k0 k1 k1u
        go_loopw [36] (fun t wr => ∃ j : Nat, j ≤ n ∧ t = .int .i64 j ∧ TagR wk.heap.size wr.heap.size wr (some ⟨wk.heap.size, 0, none⟩) (kvec p B P c j k) ∧ Below wk.heap.size wk wr) (fun t _ => n - (intOf t).toNat)
        case atStart => exact ⟨0, Nat.zero_le _, rfl, by rw [← kvec_unit (by omega)]; exact HT.out, by ((repeat' (first | with_reducible exact Below.refl _ _ | (with_reducible refine Below.setCell ?_ ?_ _) | (with_reducible refine Below.alloc ?_ ?_ _) | (with_reducible refine Below.drew ?_))); all_goals (first | (simp; done) | omega | (simp; omega)))⟩
        case round =>
          obtain ⟨j, hj, rfl, htv, hbv⟩ := hrel
          have HTV := Lib.hid htv
          have HBV := Lib.hid hbv
          have hwv := hbv.size
          have HBW : Hid (Below w2.heap.size w2 wr) := HB3k.out.trans (hbv.mono (by omega))
          have k0 := (hbv.cell (p := ⟨w2.heap.size, 0, none⟩) (show w2.heap.size < wk.heap.size by omega)).trans ((HBEL.out.cell (p := ⟨w2.heap.size, 0, none⟩) hz3).trans HK0.out)
          clear htv hbv
          by_cases hltj : j < n
          · have hj1 : (j : Int) < (n : Int) := by omega
            obtain ⟨bp, op, hap, _, _, hcp⟩ := (HP2.out.below HBW.out (Nat.le_refl _)).num (j := j) (by rw [pvL_len]; exact hltj)
            subst hap
            rw [pvL_at hltj] at hcp
            obtain ⟨bq, oq, rq, cq, haq, _, _, hrq, hrowq⟩ := (HO2.out.below HBW.out (Nat.le_refl _)).row (show j < B.length by rw [← HN.out]; exact hltj)
            subst haq
            have hcl := HLB.out j hltj
            rw [hcl] at hrq
            obtain ⟨bx, ox, hax, _, _, hcx0⟩ := hrowq.num (j := k) (by omega)
            subst hax
            obtain ⟨x0, x1⟩ := HRR.out.rng j hltj k hlt
            obtain ⟨x, hx⟩ : ∃ x, x = at' B j k := ⟨_, rfl⟩
            have hcx : wr.cell? ⟨bx, ox + k, none⟩ = some (.int .i64 x) := by rw [hx]; exact hcx0
            rw [← hx] at x0 x1
            have HST : Hid ((kvec p B P c j k).set (P j) (-x % p) = kvec p B P c (j + 1) k) := by
              show _ = _
              rw [hx, ← neg_mod]
              exact kvec_next HRR.out hltj (HNP.out j hltj)
            have hpc := HRR.out.pv j hltj
            have hpc1 : (P j : Int) < (c : Int) := by omega
            obtain ⟨bv, ov, hav, _, _, hcv⟩ := HTV.out.row.num (j := P j) (by rw [kvec_len]; exact hpc)
            cases hav
            rw [Nat.zero_add] at hcv
            obtain ⟨y, hy⟩ : ∃ y, y = (kvec p B P c j k).getD (P j) 0 := ⟨_, rfl⟩
            rw [← hy] at hcv
            have hfv : wr.frozen? ⟨wk.heap.size, P j, none⟩ = false := by
              rcases HTV.out with h | ⟨b', o', cur, e, _, _, ht, _⟩
              · have := kvec_len p B P c j k; rw [h] at this; simp at this; omega
              · cases e; exact free_of ht _
            clear hx hy hcx0 hrowq hcl
            go_wp2_with (go_at_call 80; (with_reducible refine (opposite_any p x _ HP.out x0 x1).mono ?_); rintro e w' ⟨rfl, rfl⟩)
            go_roundw
            case rel =>
              refine ⟨j + 1, by omega, by go_num, ?_, Below.setCell HBV.out (Nat.le_refl wk.heap.size) _⟩
              have h := HTV.out.set (j := P j) (by rw [kvec_len]; exact hpc) (-x % p)
              rw [HST.out, Nat.zero_add] at h
              exact h.block (Nat.le_refl _) (by simp [World.setCell]) (fun _ _ _ _ _ => rfl)
            case measure => simp [intOf]; omega
          · have hji : j = n := by omega
            subst hji
            obtain ⟨vals, hvo, hvr⟩ := HO.out
            have hkb := kerN_len p B P c j k
            obtain ⟨kl, hkl⟩ : ∃ x, x = (kerN p B P c j k).length := ⟨_, rfl⟩
            rw [← hkl] at hvo hvr hkb
            have HKN := Lib.hid hkl
            have HV := Lib.hid hvo
            have HVR := Lib.hid hvr
            have HVW := Lib.hid (hvo.kept (below_grown HBV.out) (by cases hv : Value.ownBlock u6 <;> simp))
            clear hvo hvr hkl
            go_wp2_with (at_builtin; refine wpList_append_lies _ rfl _ _ 28 rfl w3.heap.size 24 j0 (.slice none 0 0) 1 24 Tryz.underlying28 kj kz0 kz1 kz2 rfl (by decide) u6 kl vals rfl (HVW.out.alloc _) ⟨wr.heap.size, 0, none⟩ 1 1 [.slice (some ⟨wk.heap.size, 0, none⟩) c c] rfl rfl (World.news_of_block (cs := #[.slice (some ⟨wk.heap.size, 0, none⟩) c c]) (t := 24) (fr := (0, 0)) (heap_alloc_new wr _)) (by simp [Value.oneCell']) (by omega) (by unfold maxLen; omega) (by omega) (by simp; omega) (wr.heap.size + 1) (by simp) ?_; intro gg cap w1 hown1 hgrow hat hlt1)
            go_roundw
            case rel =>
              exact ⟨k + 1, by omega, by go_num, by rw [HE.out]; exact OutM.pushW HKN.out.symm (kvec_len _ _ _ _ _ _) HV.out HVR.out HTV.out hwz HBV.out hown1 hgrow,
                ((HBEL.out.trans (HBV.out.mono hwz)).alloc (by omega) _).grown hgrow (by simp; omega) (fun _ hk => (HV.out.lt _ hk).1)⟩
            case measure => simp [intOf]; omega
    · have hkc : k = c := by omega
      subst hkc
      obtain ⟨a8, c8, e8, hm8⟩ := HO.out.mat
      subst e8
      have HM8 := Lib.hid hm8
      have HE : Hid (kerN p B P k n k = KP) := by show _ = _; exact HKP.out.symm
      rw [HE.out] at HM8 ⊢
      clear hm8
      go_wp2_with (go_at_call 78; (with_reducible refine (elimO p _ KP _ w3.heap.size wk.heap.size _ HM8.out (Nat.le_refl _) HKL.out).mono ?_); rintro e w5 ⟨r5, k5, vp, d5, rfl, ho5, hb5⟩; have HO5 := Lib.hid ho5; have HB5 := Lib.hid hb5; clear ho5 hb5)
      go_ret
      exact ⟨_, _, rfl, HO5.out.mono (by omega) (Nat.le_refl _), (HB2.out.trans (HB3k.out.mono zw2)).trans (HB5.out.mono (by omega))⟩

end Go.Proofs.YtijklpcelbnnjaaGreat

namespace Go.Proofs.YtijklpcelbnnjaaGreat
open Go.RowKit
set_option linter.unusedVariables false

theorem basis_wide (p : Int) (a : Option Addr) (A : List (List Int)) (ca lo tp : Nat) (w : World) (hm : MatIn lo tp w a A) (ht : tp ≤ w.heap.size) (hA : RowsW p A) :
    Calls Tryz.prog 50 #[.int .i64 p, .slice a A.length ca] w (NewBas p A w) := by
  have hp := (prm_bd hA.prime).1
  have hc := hA.c0
  have hc16 := hA.c1
  refine (l02Basis_any p a A ca lo tp (rw' A 0).length w hA.prime hm ht hA.lo hA.hi (by omega) (by omega) hA.len hA.rng).mono ?_
  rintro e w' ⟨r, k, m, rfl, hM, hB, hb⟩
  have e1 := bas_eq (by omega) hB
  subst e1
  exact ⟨r, k, rfl, hM, hb, hB⟩

set_option maxRecDepth 100000 in
set_option maxHeartbeats 6400000 in
theorem l02Kernel_wide (p : Int) (a : Option Addr) (A : List (List Int)) (ca lo tp : Nat) (w : World) (hm : MatIn lo tp w a A) (ht : tp ≤ w.heap.size) (hA : RowsW p A) :
    Calls Tryz.prog 27 #[.int .i64 p, .slice a A.length ca] w (NewM (kerB p A) w) := by
  obtain ⟨i0, hi, hz0, hz1, hz2⟩ := info_parts info64
  obtain ⟨j0, kj, kz0, kz1, kz2⟩ := info_parts info_slice
  have hpb := prm_bd hA.prime
  have HP := Lib.hid hA.prime
  have HM := Lib.hid hm
  have HA := Lib.hid hA
  have HKL := Lib.hid (kerP_lstW hA)
  have hA0 : 0 < A.length := hA.lo
  obtain ⟨b, o, r0, c0, ha, _, hb, hr0, _⟩ := HM.out.row (i := 0) hA.lo
  subst ha
  rw [Nat.add_zero] at hr0
  have c1 := hA.c0
  have c16 := hA.c1
  obtain ⟨KP, hKP⟩ : ∃ x, x = kerP p A := ⟨_, rfl⟩
  have HKP : Hid (KP = kerN p (bas p A) (pvs (bas p A)) (rw' A 0).length (bas p A).length (rw' A 0).length) := hKP
  have HKB : Hid (kerB p A = bas p KP) := by show _ = _; rw [hKP]; rfl
  rw [← hKP] at HKL
  obtain ⟨c, hcc⟩ : ∃ c, c = (rw' A 0).length := ⟨_, rfl⟩
  rw [← hcc] at hr0 c1 c16 HKP
  have HCC := Lib.hid hcc
  have hb' : b < w.heap.size := Nat.lt_of_lt_of_le hb ht
  obtain ⟨B, hB⟩ : ∃ B, B = bas p A := ⟨_, rfl⟩
  rw [← hB] at HKP
  have HBE := Lib.hid hB
  obtain ⟨n, hn⟩ : ∃ n, n = B.length := ⟨_, rfl⟩
  rw [← hn] at HKP
  have HN := Lib.hid hn
  obtain ⟨P, hP⟩ : ∃ P, P = pvs B := ⟨_, rfl⟩
  rw [← hP] at HKP
  have HPE := Lib.hid hP
  rw [HKB.out]
  clear hm hA hKP hcc hB hn hP
  have HMD := Lib.hid (HM.out.below (bdrew w) ht)
  have htd : tp ≤ w.drew.heap.size := ht
  go_enter Tryz.func27, Tryz.ntmps27
  go_wp2
  go_region_held3 (fun w' => w'.cell? ⟨b, o, none⟩ = some (.slice r0 c c0)) (first | go_keep | exact SS2.out) (first | (go_at_call 50; (with_reducible refine (basis_wide p _ A _ lo tp w.drew HMD.out htd HA.out).mono ?_); rintro e w2 ⟨r2, k2, rfl, ho2, hb2, hi2⟩; rw [← HBE.out, ← HN.out]; rw [← HBE.out, ← HCC.out] at hi2; rw [← HBE.out] at ho2; have HIB := Lib.hid hi2; have HO2 : Hid (MatIn w.heap.size w2.heap.size w2 r2 B) := ho2; have HB2 : Hid (Below w.heap.size w w2) := (bdrew w).trans hb2; have SS2 : Hid (w2.cell? ⟨b, o, none⟩ = some (.slice r0 c c0)) := (HB2.out.cell (p := ⟨b, o, none⟩) hb').trans hr0; clear ho2 hb2 hi2))
  have zw2 := HB2.out.size
  have hRR : Rref p n c (at' B) P := by rw [HPE.out, HN.out]; exact HIB.out.pivs
  have HRR := Lib.hid hRR
  have hnc : n ≤ c := hRR.rows_le
  have HPF : Hid (∀ i, i < n → fstN (rw' B i) = P i) := fun i _ => by rw [HPE.out]; rfl
  have HLB : Hid (∀ i, i < n → (rw' B i).length = c) := fun i hi => HIB.out.len i (by rw [← HN.out]; exact hi)
  clear hRR
  go_wp2
  go_loopw [7, 9] (fun v t wr => ∃ i : Nat, i ≤ n ∧ t = .int .i64 i ∧ OutR w2.heap.size wr v (pvL P i) ∧ OutM w2.heap.size wr (.slice (some ⟨w2.heap.size + 1, 0, none⟩) 0 0) [] ∧ Below w2.heap.size w2 wr) (fun _ t _ => n - (intOf t).toNat)
  case atStart => exact ⟨0, Nat.zero_le _, rfl, (OutR.start w2 w2.heap.size _ (Nat.le_refl _) rfl).below (balloc _ _), OutM.start2 w2 _ _ _ (Nat.le_refl _) rfl, by ((repeat' (first | with_reducible exact Below.refl _ _ | (with_reducible refine Below.setCell ?_ ?_ _) | (with_reducible refine Below.alloc ?_ ?_ _) | (with_reducible refine Below.drew ?_))); all_goals (first | (simp; done) | omega | (simp; omega)))⟩
  case round =>
    obtain ⟨i, hi', rfl, ho, hm0, hbel⟩ := hrel
    have HO := Lib.hid ho
    have HM0 := Lib.hid hm0
    have HBEL := Lib.hid hbel
    have hwz := hbel.size
    clear ho hm0
    by_cases hlt : i < n
    · obtain ⟨b1, o1, r, c1', ha1, _, hb1, hr1, hrow⟩ := (HO2.out.below hbel (Nat.le_refl _)).row (show i < B.length by rw [← HN.out]; exact hlt)
      subst ha1
      have hcl := HLB.out i hlt
      rw [hcl] at hr1
      have HROW := Lib.hid hrow
      have hpf := HPF.out i hlt
      have hpc := HRR.out.pv i hlt
      obtain ⟨X, hX⟩ : ∃ X, X = (pvL P i).map (Value.int .i64) := ⟨_, rfl⟩
      have HX := Lib.hid hX
      have HO' : Hid (wr.ownsRow w2.heap.size 2 1 u7 i X) := by
        have := HO.out; unfold OutR at this; rw [pvL_len, ← hX] at this; exact this
      clear hX hrow hbel
      go_wp2_with (first | (go_at_call 38; (with_reducible refine (l02First_any _ (rw' B i) c (P i) _ _ _ _ HROW.out hcl (by omega) hpf hpc).mono ?_); rintro e w' ⟨rfl, rfl⟩) | (at_builtin; refine wpList_append_lies _ rfl _ _ 24 rfl w2.heap.size 2 i0 (.int .i64 0) 1 8 Tryz.underlying24 hi hz0 hz1 hz2 rfl (by decide) u7 i X rfl (HO'.out.alloc _) ⟨wr.heap.size, 0, none⟩ 1 1 [.int .i64 (P i)] rfl rfl (World.news_of_block (cs := #[.int .i64 (P i)]) (t := 2) (fr := (0, 0)) (heap_alloc_new wr _)) (by simp [Value.oneCell']) (by omega) (by unfold maxLen; omega) (by omega) (by simp; omega) (wr.heap.size + 1) (by simp) ?_; intro gg cap w1 hown1 hgrow hat hlt1))
      go_wp2
      go_roundw
      case rel =>
        exact ⟨i + 1, by omega, by go_num, by unfold OutR; rw [pvL_len, pvL_succ, List.map_append, ← HX.out]; exact hown1, (HM0.out.below (balloc wr _)).beside (HO'.out.alloc _) hgrow, (HBEL.out.alloc hwz _).grown hgrow (by simp; omega) (fun _ hk => (HO'.out.lt _ hk).1)⟩
      case measure => simp [intOf]; omega
    · have hin : i = n := by omega
      subst hin
      obtain ⟨a7, c7, e7, ht7⟩ := HO.out.tag
      rw [pvL_len] at e7
      subst e7
      have HT7 := Lib.hid ht7
      clear ht7 hbel
      rename World => w3
      have hmk := fun W => run_make_row' (P := Tryz.prog) 24 2 (.int .i64 0) 8 Tryz.underlying24 info64 rfl .i64 .i64 c (by omega) (by omega) W
      have HMK := Lib.hid hmk
      clear hmk
      go_wp2
      go_loopw [8, 10] (fun v t wr => ∃ k : Nat, k ≤ c ∧ t = .int .i64 k ∧ OutM w2.heap.size wr v (kerN p B P c i k) ∧ TagR w2.heap.size wr.heap.size wr a7 (pvL P i) ∧ Below w2.heap.size w2 wr) (fun _ t _ => c - (intOf t).toNat)
      case atStart => exact ⟨0, Nat.zero_le _, rfl, HM0.out, HT7.out, HBEL.out⟩
      case round =>
        obtain ⟨k, hk, rfl, ho, ht7, hbel⟩ := hrel
        have HO := Lib.hid ho
        have HT := Lib.hid ht7
        have HB := Lib.hid hbel
        have hwk := hbel.size
        rename World => wk
        clear ho ht7 hbel
        by_cases hltk : k < c
        · have hk1 : (k : Int) < (c : Int) := by omega
          cases hpv : isPv P i k with
          | true =>
            have HPV : Hid ((pvL P i).any (· == (k : Int)) = true) := by show _ = _; rw [pvL_any]; exact hpv
            have HE := Lib.hid (kerN_pv (p := p) (B := B) (c := c) hpv)
            clear hpv
            go_wp2_with (go_at_call 51; (with_reducible refine (l01Has_any a7 (pvL P i) k i _ _ _ _ HT.out.row (pvL_len _ _) (by omega)).mono ?_); rintro e w' ⟨rfl, rfl⟩; rw [HPV.out])
            go_roundw
            case rel => exact ⟨k + 1, by omega, by go_num, by rw [HE.out]; exact HO.out, HT.out, HB.out⟩
            case measure => simp [intOf]; omega
          | false =>
            have HPV : Hid ((pvL P i).any (· == (k : Int)) = false) := by show _ = _; rw [pvL_any]; exact hpv
            have HE := Lib.hid (kerN_no (p := p) (B := B) (c := c) hpv)
            have HNP : Hid (∀ j, j < i → P j ≠ k) := fun j hj => isPv_no hpv hj
            have g0 := made_cell wk (.int .i64 0) c 2 hltk
            have f0 : (wk.alloc (.cells (madeCells #[.int .i64 0] c) 2)).frozen? ⟨wk.heap.size, k, none⟩ = false := by simp [go_sem]
            have HU := Lib.hid (unit_tag wk hltk)
            have hmk := HMK.out
            clear hpv
            go_wp2_with (go_at_call 51; (with_reducible refine (l01Has_any a7 (pvL P i) k i _ _ _ _ HT.out.row (pvL_len _ _) (by omega)).mono ?_); rintro e w' ⟨rfl, rfl⟩; rw [HPV.out])
            clear hmk g0 f0
            go_loopw [12] (fun t wr => ∃ j : Nat, j ≤ i ∧ t = .int .i64 j ∧ TagR wk.heap.size wr.heap.size wr (some ⟨wk.heap.size, 0, none⟩) (kvec p B P c j k) ∧ Below wk.heap.size wk wr) (fun t _ => i - (intOf t).toNat)
            case atStart => exact ⟨0, Nat.zero_le _, rfl, by rw [← kvec_unit (by omega)]; exact HU.out, by ((repeat' (first | with_reducible exact Below.refl _ _ | (with_reducible refine Below.setCell ?_ ?_ _) | (with_reducible refine Below.alloc ?_ ?_ _) | (with_reducible refine Below.drew ?_))); all_goals (first | (simp; done) | omega | (simp; omega)))⟩
            case round =>
              obtain ⟨j, hj, rfl, htv, hbv⟩ := hrel
              have HTV := Lib.hid htv
              have HBV := Lib.hid hbv
              have hwv := hbv.size
              have HBW : Hid (Below w2.heap.size w2 wr) := HB.out.trans (hbv.mono hwk)
              clear htv hbv
              by_cases hltj : j < i
              · have hj1 : (j : Int) < (i : Int) := by omega
                obtain ⟨bp, op, hap, _, _, hcp⟩ := (HT.out.below HBV.out (Nat.le_refl _) (Nat.le_refl _) hwv).row.num (j := j) (by rw [pvL_len]; exact hltj)
                subst hap
                rw [pvL_at hltj] at hcp
                obtain ⟨bq, oq, rq, cq, haq, _, _, hrq, hrowq⟩ := (HO2.out.below HBW.out (Nat.le_refl _)).row (show j < B.length by rw [← HN.out]; exact hltj)
                cases haq
                have hcl := HLB.out j hltj
                rw [hcl] at hrq
                obtain ⟨bx, ox, hax, _, _, hcx0⟩ := hrowq.num (j := k) (by omega)
                subst hax
                obtain ⟨x0, x1⟩ := HRR.out.rng j hltj k hltk
                obtain ⟨x, hx⟩ : ∃ x, x = at' B j k := ⟨_, rfl⟩
                have hcx : wr.cell? ⟨bx, ox + k, none⟩ = some (.int .i64 x) := by rw [hx]; exact hcx0
                rw [← hx] at x0 x1
                have HST : Hid ((kvec p B P c j k).set (P j) (-x % p) = kvec p B P c (j + 1) k) := by
                  show _ = _
                  rw [hx, ← neg_mod]
                  exact kvec_next HRR.out hltj (HNP.out j hltj)
                have hpc := HRR.out.pv j hltj
                have hpc1 : (P j : Int) < (c : Int) := by omega
                obtain ⟨bv, ov, hav, _, _, hcv⟩ := HTV.out.row.num (j := P j) (by rw [kvec_len]; exact hpc)
                cases hav
                rw [Nat.zero_add] at hcv
                obtain ⟨y, hy⟩ : ∃ y, y = (kvec p B P c j k).getD (P j) 0 := ⟨_, rfl⟩
                rw [← hy] at hcv
                have hfv : wr.frozen? ⟨wk.heap.size, P j, none⟩ = false := by
                  rcases HTV.out with h | ⟨b', o', cur, e, _, _, ht, _⟩
                  · have := kvec_len p B P c j k; rw [h] at this; simp at this; omega
                  · cases e; exact free_of ht _
                have e4 : IntKind.i64.wrap (p - x) = p - x := IntWalk.i64_in _ (by omega)
                have e3 : (p - x).tmod p = -x % p := (Int.tmod_eq_emod_of_nonneg (by omega)).trans (neg_mod p x)
                have hp0 : ¬ p = 0 := by omega
                have hp1 : (p == 0) = false := by simpa using hp0
                have HTD := Lib.hid (HTV.out.below (bdrew wr) (Nat.le_refl _) (Nat.le_refl _) (Nat.le_refl _))
                clear hx hy hcx0 hrowq hcl
                go_wp2
                go_region
                go_wp2
                go_roundw
                case rel =>
                  refine ⟨j + 1, by omega, by go_num, ?_, (Below.setCell HBV.out (Nat.le_refl wk.heap.size) _).drew⟩
                  have h := HTV.out.set (j := P j) (by rw [kvec_len]; exact hpc) (-x % p)
                  rw [HST.out, Nat.zero_add] at h
                  exact h.block (Nat.le_refl _) (by simp [World.setCell]) (fun _ _ _ _ _ => rfl)
                case measure => simp [intOf]; omega
              · have hji : j = i := by omega
                subst hji
                obtain ⟨vals, hvo, hvr⟩ := HO.out
                have hkb := kerN_len p B P c j k
                obtain ⟨kl, hkl⟩ : ∃ x, x = (kerN p B P c j k).length := ⟨_, rfl⟩
                rw [← hkl] at hvo hvr hkb
                have HKN := Lib.hid hkl
                have HV := Lib.hid hvo
                have HVR := Lib.hid hvr
                have HVW := Lib.hid (hvo.kept (below_grown HBV.out) (by cases hv : Value.ownBlock u8 <;> simp))
                have HTW := Lib.hid ((HT.out.below HBV.out (Nat.le_refl _) (Nat.le_refl _) hwv))
                clear hvo hvr hkl
                go_wp2_with (at_builtin; refine wpList_append_lies _ rfl _ _ 28 rfl w2.heap.size 24 j0 (.slice none 0 0) 1 24 Tryz.underlying28 kj kz0 kz1 kz2 rfl (by decide) u8 kl vals rfl (HVW.out.alloc _) ⟨wr.heap.size, 0, none⟩ 1 1 [.slice (some ⟨wk.heap.size, 0, none⟩) c c] rfl rfl (World.news_of_block (cs := #[.slice (some ⟨wk.heap.size, 0, none⟩) c c]) (t := 24) (fr := (0, 0)) (heap_alloc_new wr _)) (by simp [Value.oneCell']) (by omega) (by unfold maxLen; omega) (by omega) (by simp; omega) (wr.heap.size + 1) (by simp) ?_; intro gg cap w1 hown1 hgrow hat hlt1)
                go_roundw
                case rel =>
                  exact ⟨k + 1, by omega, by go_num, by rw [HE.out]; exact OutM.pushW HKN.out.symm (kvec_len _ _ _ _ _ _) HV.out HVR.out HTV.out hwk HBV.out hown1 hgrow,
                    (TagR.push (HVW.out.alloc _) hgrow (Nat.le_refl _) (HTW.out.below (balloc wr _) (Nat.le_refl _) (Nat.le_refl _) (balloc wr _).size)).block (Nat.le_refl _) hgrow.size (fun _ _ _ _ _ => rfl),
                    ((HB.out.trans (HBV.out.mono hwk)).alloc (by omega) _).grown hgrow (by simp; omega) (fun _ hk => (HV.out.lt _ hk).1)⟩
                case measure => simp [intOf]; omega
        · have hkc : k = c := by omega
          subst hkc
          obtain ⟨a8, c8, e8, hm8⟩ := HO.out.mat
          subst e8
          have HM8 := Lib.hid hm8
          have HE : Hid (kerN p B P k i k = KP) := by show _ = _; exact HKP.out.symm
          rw [HE.out] at HM8 ⊢
          clear hm8
          go_wp2_with (first | (go_at_call 50; (with_reducible refine (basis_any p a8 KP c8 w2.heap.size wk.heap.size wk HM8.out (Nat.le_refl _) HKL.out).mono ?_); rintro e w5 ⟨r5, k5, rfl, ho5, hb5, hi5⟩; have HO5 := Lib.hid ho5; have HB5 := Lib.hid hb5; have HS5 := Lib.hid (bas_small HKL.out hi5); have z5 := hb5.size; clear ho5 hb5 hi5) | (go_at_call 52; (with_reducible refine (l01Own2_any _ (bas p KP) _ wk.heap.size w5.heap.size _ HO5.out (Nat.le_refl _) HS5.out.1 HS5.out.2).mono ?_); rintro e w6 ⟨r6, k6, rfl, ho6, hb6⟩; have HO6 := Lib.hid ho6; have HB6 := Lib.hid hb6; clear ho6 hb6))
          go_ret
          exact ⟨_, _, rfl, HO6.out.mono (by omega) (Nat.le_refl _), ((HB2.out.trans (HB.out.mono zw2)).trans (HB5.out.mono (by omega))).trans (HB6.out.mono (by omega))⟩

end Go.Proofs.YtijklpcelbnnjaaGreat
