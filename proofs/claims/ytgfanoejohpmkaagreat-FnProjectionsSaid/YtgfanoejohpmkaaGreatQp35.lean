/-
  Contracts and facts that the walk of the law rests on.
  Conditions: those that each theorem names.
-/
import Derived.Test.YtgfanoejohpmkaaGreatQp32
import Derived.Test.YtgfanoejohpmkaaGreatQp33
import Derived.Test.YtgfanoejohpmkaaGreatQp23
import Derived.Test.YtgfanoejohpmkaaGreatQp22
import Derived.Deep.RegionHeld3
import Derived.Deep.DeepCutAuto
namespace Go.Proofs.YtgfanoejohpmkaaGreat
open Go.RowKit
set_option linter.unusedVariables false
theorem basis_wide (p : Int) (a : Option Addr) (A : List (List Int)) (ca lo tp : Nat) (w : World) (hm : MatIn lo tp w a A) (ht : tp ≤ w.heap.size) (hA : RowsW p A) :
 Calls Tryz.prog 227 #[.int .i64 p, .slice a A.length ca] w (NewBas p A w) := by
 have hp := (prm_bd hA.prime).1
 have hc := hA.c0
 have hc16 := hA.c1
 refine (l02Basis_any p a A ca lo tp (rw' A 0).length w hA.prime hm ht hA.lo hA.hi (by omega) (by omega) hA.len hA.rng).mono ?_
 rintro e w' ⟨r, k, m, rfl, hM, hB, hb⟩
 have e1 := bas_eq (by omega) hB
 subst e1
 exact ⟨r, k, rfl, hM, hb, hB⟩
set_option maxRecDepth 100000 in
set_option maxHeartbeats 6400000 in
theorem l02Kernel_wide (p : Int) (a : Option Addr) (A : List (List Int)) (ca lo tp : Nat) (w : World) (hm : MatIn lo tp w a A) (ht : tp ≤ w.heap.size) (hA : RowsW p A) :
 Calls Tryz.prog 217 #[.int .i64 p, .slice a A.length ca] w (NewM (kerB p A) w) := by
 obtain ⟨i0, hi, hz0, hz1, hz2⟩ := info_parts info64
 obtain ⟨j0, kj, kz0, kz1, kz2⟩ := info_parts info_slice
 have hpb := prm_bd hA.prime
 have HP := Lib.hid hA.prime
 have HM := Lib.hid hm
 have HA := Lib.hid hA
 have HKL := Lib.hid (kerP_lstW hA)
 have hA0 : 0 < A.length := hA.lo
 obtain ⟨b, o, r0, c0, ha, _, hb, hr0, _⟩ := HM.out.row (i := 0) hA.lo
 subst ha
 rw [Nat.add_zero] at hr0
 have c1 := hA.c0
 have c16 := hA.c1
 obtain ⟨KP, hKP⟩ : ∃ x, x = kerP p A := ⟨_, rfl⟩
 have HKP : Hid (KP = kerN p (bas p A) (pvs (bas p A)) (rw' A 0).length (bas p A).length (rw' A 0).length) := hKP
 have HKB : Hid (kerB p A = bas p KP) := by show _ = _; rw [hKP]; rfl
 rw [← hKP] at HKL
 obtain ⟨c, hcc⟩ : ∃ c, c = (rw' A 0).length := ⟨_, rfl⟩
 rw [← hcc] at hr0 c1 c16 HKP
 have HCC := Lib.hid hcc
 have hb' : b < w.heap.size := Nat.lt_of_lt_of_le hb ht
 obtain ⟨B, hB⟩ : ∃ B, B = bas p A := ⟨_, rfl⟩
 rw [← hB] at HKP
 have HBE := Lib.hid hB
 obtain ⟨n, hn⟩ : ∃ n, n = B.length := ⟨_, rfl⟩
 rw [← hn] at HKP
 have HN := Lib.hid hn
 obtain ⟨P, hP⟩ : ∃ P, P = pvs B := ⟨_, rfl⟩
 rw [← hP] at HKP
 have HPE := Lib.hid hP
 rw [HKB.out]
 clear hm hA hKP hcc hB hn hP
 have HMD := Lib.hid (HM.out.below (bdrew w) ht)
 have htd : tp ≤ w.drew.heap.size := ht
 go_enter Tryz.func217, Tryz.ntmps217
 go_wp2
 go_region_held3 (fun w' => w'.cell? ⟨b, o, none⟩ = some (.slice r0 c c0)) (first | go_keep | exact SS2.out) (first | (go_at_call 227; (with_reducible refine (basis_wide p _ A _ lo tp w.drew HMD.out htd HA.out).mono ?_); rintro e w2 ⟨r2, k2, rfl, ho2, hb2, hi2⟩; rw [← HBE.out, ← HN.out]; rw [← HBE.out, ← HCC.out] at hi2; rw [← HBE.out] at ho2; have HIB := Lib.hid hi2; have HO2 : Hid (MatIn w.heap.size w2.heap.size w2 r2 B) := ho2; have HB2 : Hid (Below w.heap.size w w2) := (bdrew w).trans hb2; have SS2 : Hid (w2.cell? ⟨b, o, none⟩ = some (.slice r0 c c0)) := (HB2.out.cell (p := ⟨b, o, none⟩) hb').trans hr0; clear ho2 hb2 hi2))
 have zw2 := HB2.out.size
 have hRR : Rref p n c (at' B) P := by rw [HPE.out, HN.out]; exact HIB.out.pivs
 have HRR := Lib.hid hRR
 have hnc : n ≤ c := hRR.rows_le
 have HPF : Hid (∀ i, i < n → fstN (rw' B i) = P i) := fun i _ => by rw [HPE.out]; rfl
 have HLB : Hid (∀ i, i < n → (rw' B i).length = c) := fun i hi => HIB.out.len i (by rw [← HN.out]; exact hi)
 clear hRR
 go_wp2
 go_loopw [7, 9] (fun v t wr => ∃ i : Nat, i ≤ n ∧ t = .int .i64 i ∧ OutR w2.heap.size wr v (pvL P i) ∧ OutM w2.heap.size wr (.slice (some ⟨w2.heap.size + 1, 0, none⟩) 0 0) [] ∧ Below w2.heap.size w2 wr) (fun _ t _ => n - (intOf t).toNat)
 case atStart => exact ⟨0, Nat.zero_le _, rfl, (OutR.start w2 w2.heap.size _ (Nat.le_refl _) rfl).below (balloc _ _), OutM.start2 w2 _ _ _ (Nat.le_refl _) rfl, by ((repeat' (first | with_reducible exact Below.refl _ _ | (with_reducible refine Below.setCell ?_ ?_ _) | (with_reducible refine Below.alloc ?_ ?_ _) | (with_reducible refine Below.drew ?_))); all_goals (first | (simp; done) | omega | (simp; omega)))⟩
 case round =>
  obtain ⟨i, hi', rfl, ho, hm0, hbel⟩ := hrel
  have HO := Lib.hid ho
  have HM0 := Lib.hid hm0
  have HBEL := Lib.hid hbel
  have hwz := hbel.size
  clear ho hm0
  by_cases hlt : i < n
  · obtain ⟨b1, o1, r, c1', ha1, _, hb1, hr1, hrow⟩ := (HO2.out.below hbel (Nat.le_refl _)).row (show i < B.length by rw [← HN.out]; exact hlt)
    subst ha1
    have hcl := HLB.out i hlt
    rw [hcl] at hr1
    have HROW := Lib.hid hrow
    have hpf := HPF.out i hlt
    have hpc := HRR.out.pv i hlt
    obtain ⟨X, hX⟩ : ∃ X, X = (pvL P i).map (Value.int .i64) := ⟨_, rfl⟩
    have HX := Lib.hid hX
    have HO' : Hid (wr.ownsRow w2.heap.size 2 1 u7 i X) := by
     have := HO.out; unfold OutR at this; rw [pvL_len, ← hX] at this; exact this
    clear hX hrow hbel
    go_wp2_with (first | (go_at_call 144; (with_reducible refine (l02First_any _ (rw' B i) c (P i) _ _ _ _ HROW.out hcl (by omega) hpf hpc).mono ?_); rintro e w' ⟨rfl, rfl⟩) | (at_builtin; refine wpList_append_lies _ rfl _ _ 24 rfl w2.heap.size 2 i0 (.int .i64 0) 1 8 Tryz.underlying24 hi hz0 hz1 hz2 rfl (by decide) u7 i X rfl (HO'.out.alloc _) ⟨wr.heap.size, 0, none⟩ 1 1 [.int .i64 (P i)] rfl rfl (World.news_of_block (cs := #[.int .i64 (P i)]) (t := 2) (fr := (0, 0)) (heap_alloc_new wr _)) (by simp [Value.oneCell']) (by omega) (by unfold maxLen; omega) (by omega) (by simp; omega) (wr.heap.size + 1) (by simp) ?_; intro gg cap w1 hown1 hgrow hat hlt1))
    go_wp2
    go_roundw
    case rel =>
     exact ⟨i + 1, by omega, by go_num, by unfold OutR; rw [pvL_len, pvL_succ, List.map_append, ← HX.out]; exact hown1, (HM0.out.below (balloc wr _)).beside (HO'.out.alloc _) hgrow, (HBEL.out.alloc hwz _).grown hgrow (by simp; omega) (fun _ hk => (HO'.out.lt _ hk).1)⟩
    case measure => simp [intOf]; omega
  · have hin : i = n := by omega
    subst hin
    obtain ⟨a7, c7, e7, ht7⟩ := HO.out.tag
    rw [pvL_len] at e7
    subst e7
    have HT7 := Lib.hid ht7
    clear ht7 hbel
    rename World => w3
    have hmk := fun W => run_make_row' (P := Tryz.prog) 24 2 (.int .i64 0) 8 Tryz.underlying24 info64 rfl .i64 .i64 c (by omega) (by omega) W
    have HMK := Lib.hid hmk
    clear hmk
    go_wp2
    go_loopw [8, 10] (fun v t wr => ∃ k : Nat, k ≤ c ∧ t = .int .i64 k ∧ OutM w2.heap.size wr v (kerN p B P c i k) ∧ TagR w2.heap.size wr.heap.size wr a7 (pvL P i) ∧ Below w2.heap.size w2 wr) (fun _ t _ => c - (intOf t).toNat)
    case atStart => exact ⟨0, Nat.zero_le _, rfl, HM0.out, HT7.out, HBEL.out⟩
    case round =>
     obtain ⟨k, hk, rfl, ho, ht7, hbel⟩ := hrel
     have HO := Lib.hid ho
     have HT := Lib.hid ht7
     have HB := Lib.hid hbel
     have hwk := hbel.size
     rename World => wk
     clear ho ht7 hbel
     by_cases hltk : k < c
     · have hk1 : (k : Int) < (c : Int) := by omega
       cases hpv : isPv P i k with
       | true =>
        have HPV : Hid ((pvL P i).any (· == (k : Int)) = true) := by show _ = _; rw [pvL_any]; exact hpv
        have HE := Lib.hid (kerN_pv (p := p) (B := B) (c := c) hpv)
        clear hpv
        go_wp2_with (go_at_call 249; (with_reducible refine (l01Has_any a7 (pvL P i) k i _ _ _ _ HT.out.row (pvL_len _ _) (by omega)).mono ?_); rintro e w' ⟨rfl, rfl⟩; rw [HPV.out])
        go_roundw
        case rel => exact ⟨k + 1, by omega, by go_num, by rw [HE.out]; exact HO.out, HT.out, HB.out⟩
        case measure => simp [intOf]; omega
       | false =>
        have HPV : Hid ((pvL P i).any (· == (k : Int)) = false) := by show _ = _; rw [pvL_any]; exact hpv
        have HE := Lib.hid (kerN_no (p := p) (B := B) (c := c) hpv)
        have HNP : Hid (∀ j, j < i → P j ≠ k) := fun j hj => isPv_no hpv hj
        have g0 := made_cell wk (.int .i64 0) c 2 hltk
        have f0 : (wk.alloc (.cells (madeCells #[.int .i64 0] c) 2)).frozen? ⟨wk.heap.size, k, none⟩ = false := by simp [go_sem]
        have HU := Lib.hid (unit_tag wk hltk)
        have hmk := HMK.out
        clear hpv
        go_wp2_with (go_at_call 249; (with_reducible refine (l01Has_any a7 (pvL P i) k i _ _ _ _ HT.out.row (pvL_len _ _) (by omega)).mono ?_); rintro e w' ⟨rfl, rfl⟩; rw [HPV.out])
        clear hmk g0 f0
        go_loopw [12] (fun t wr => ∃ j : Nat, j ≤ i ∧ t = .int .i64 j ∧ TagR wk.heap.size wr.heap.size wr (some ⟨wk.heap.size, 0, none⟩) (kvec p B P c j k) ∧ Below wk.heap.size wk wr) (fun t _ => i - (intOf t).toNat)
        case atStart => exact ⟨0, Nat.zero_le _, rfl, by rw [← kvec_unit (by omega)]; exact HU.out, by ((repeat' (first | with_reducible exact Below.refl _ _ | (with_reducible refine Below.setCell ?_ ?_ _) | (with_reducible refine Below.alloc ?_ ?_ _) | (with_reducible refine Below.drew ?_))); all_goals (first | (simp; done) | omega | (simp; omega)))⟩
        case round =>
         obtain ⟨j, hj, rfl, htv, hbv⟩ := hrel
         have HTV := Lib.hid htv
         have HBV := Lib.hid hbv
         have hwv := hbv.size
         have HBW : Hid (Below w2.heap.size w2 wr) := HB.out.trans (hbv.mono hwk)
         clear htv hbv
         by_cases hltj : j < i
         · have hj1 : (j : Int) < (i : Int) := by omega
           obtain ⟨bp, op, hap, _, _, hcp⟩ := (HT.out.below HBV.out (Nat.le_refl _) (Nat.le_refl _) hwv).row.num (j := j) (by rw [pvL_len]; exact hltj)
           subst hap
           rw [pvL_at hltj] at hcp
           obtain ⟨bq, oq, rq, cq, haq, _, _, hrq, hrowq⟩ := (HO2.out.below HBW.out (Nat.le_refl _)).row (show j < B.length by rw [← HN.out]; exact hltj)
           cases haq
           have hcl := HLB.out j hltj
           rw [hcl] at hrq
           obtain ⟨bx, ox, hax, _, _, hcx0⟩ := hrowq.num (j := k) (by omega)
           subst hax
           obtain ⟨x0, x1⟩ := HRR.out.rng j hltj k hltk
           obtain ⟨x, hx⟩ : ∃ x, x = at' B j k := ⟨_, rfl⟩
           have hcx : wr.cell? ⟨bx, ox + k, none⟩ = some (.int .i64 x) := by rw [hx]; exact hcx0
           rw [← hx] at x0 x1
           have HST : Hid ((kvec p B P c j k).set (P j) (-x % p) = kvec p B P c (j + 1) k) := by
            show _ = _
            rw [hx, ← neg_mod]
            exact kvec_next HRR.out hltj (HNP.out j hltj)
           have hpc := HRR.out.pv j hltj
           have hpc1 : (P j : Int) < (c : Int) := by omega
           obtain ⟨bv, ov, hav, _, _, hcv⟩ := HTV.out.row.num (j := P j) (by rw [kvec_len]; exact hpc)
           cases hav
           rw [Nat.zero_add] at hcv
           obtain ⟨y, hy⟩ : ∃ y, y = (kvec p B P c j k).getD (P j) 0 := ⟨_, rfl⟩
           rw [← hy] at hcv
           have hfv : wr.frozen? ⟨wk.heap.size, P j, none⟩ = false := by
            rcases HTV.out with h | ⟨b', o', cur, e, _, _, ht, _⟩
            · have := kvec_len p B P c j k; rw [h] at this; simp at this; omega
            · cases e; exact free_of ht _
           have e4 : IntKind.i64.wrap (p - x) = p - x := IntWalk.i64_in _ (by omega)
           have e3 : (p - x).tmod p = -x % p := (Int.tmod_eq_emod_of_nonneg (by omega)).trans (neg_mod p x)
           have hp0 : ¬ p = 0 := by omega
           have hp1 : (p == 0) = false := by simpa using hp0
           have HTD := Lib.hid (HTV.out.below (bdrew wr) (Nat.le_refl _) (Nat.le_refl _) (Nat.le_refl _))
           clear hx hy hcx0 hrowq hcl
           go_wp2
           go_region
           go_wp2
           go_roundw
           case rel =>
            refine ⟨j + 1, by omega, by go_num, ?_, (Below.setCell HBV.out (Nat.le_refl wk.heap.size) _).drew⟩
            have h := HTV.out.set (j := P j) (by rw [kvec_len]; exact hpc) (-x % p)
            rw [HST.out, Nat.zero_add] at h
            exact h.block (Nat.le_refl _) (by simp [World.setCell]) (fun _ _ _ _ _ => rfl)
           case measure => simp [intOf]; omega
         · have hji : j = i := by omega
           subst hji
           obtain ⟨vals, hvo, hvr⟩ := HO.out
           have hkb := kerN_len p B P c j k
           obtain ⟨kl, hkl⟩ : ∃ x, x = (kerN p B P c j k).length := ⟨_, rfl⟩
           rw [← hkl] at hvo hvr hkb
           have HKN := Lib.hid hkl
           have HV := Lib.hid hvo
           have HVR := Lib.hid hvr
           have HVW := Lib.hid (hvo.kept (below_grown HBV.out) (by cases hv : Value.ownBlock u8 <;> simp))
           have HTW := Lib.hid ((HT.out.below HBV.out (Nat.le_refl _) (Nat.le_refl _) hwv))
           clear hvo hvr hkl
           go_wp2_with (at_builtin; refine wpList_append_lies _ rfl _ _ 27 rfl w2.heap.size 24 j0 (.slice none 0 0) 1 24 Tryz.underlying27 kj kz0 kz1 kz2 rfl (by decide) u8 kl vals rfl (HVW.out.alloc _) ⟨wr.heap.size, 0, none⟩ 1 1 [.slice (some ⟨wk.heap.size, 0, none⟩) c c] rfl rfl (World.news_of_block (cs := #[.slice (some ⟨wk.heap.size, 0, none⟩) c c]) (t := 24) (fr := (0, 0)) (heap_alloc_new wr _)) (by simp [Value.oneCell']) (by omega) (by unfold maxLen; omega) (by omega) (by simp; omega) (wr.heap.size + 1) (by simp) ?_; intro gg cap w1 hown1 hgrow hat hlt1)
           go_roundw
           case rel =>
            exact ⟨k + 1, by omega, by go_num, by rw [HE.out]; exact OutM.pushW HKN.out.symm (kvec_len _ _ _ _ _ _) HV.out HVR.out HTV.out hwk HBV.out hown1 hgrow,
             (TagR.push (HVW.out.alloc _) hgrow (Nat.le_refl _) (HTW.out.below (balloc wr _) (Nat.le_refl _) (Nat.le_refl _) (balloc wr _).size)).block (Nat.le_refl _) hgrow.size (fun _ _ _ _ _ => rfl),
             ((HB.out.trans (HBV.out.mono hwk)).alloc (by omega) _).grown hgrow (by simp; omega) (fun _ hk => (HV.out.lt _ hk).1)⟩
           case measure => simp [intOf]; omega
     · have hkc : k = c := by omega
       subst hkc
       obtain ⟨a8, c8, e8, hm8⟩ := HO.out.mat
       subst e8
       have HM8 := Lib.hid hm8
       have HE : Hid (kerN p B P k i k = KP) := by show _ = _; exact HKP.out.symm
       rw [HE.out] at HM8 ⊢
       clear hm8
       go_wp2_with (first | (go_at_call 227; (with_reducible refine (basis_any p a8 KP c8 w2.heap.size wk.heap.size wk HM8.out (Nat.le_refl _) HKL.out).mono ?_); rintro e w5 ⟨r5, k5, rfl, ho5, hb5, hi5⟩; have HO5 := Lib.hid ho5; have HB5 := Lib.hid hb5; have HS5 := Lib.hid (bas_small HKL.out hi5); have z5 := hb5.size; clear ho5 hb5 hi5) | (go_at_call 231; (with_reducible refine (l01Own2_any _ (bas p KP) _ wk.heap.size w5.heap.size _ HO5.out (Nat.le_refl _) HS5.out.1 HS5.out.2).mono ?_); rintro e w6 ⟨r6, k6, rfl, ho6, hb6⟩; have HO6 := Lib.hid ho6; have HB6 := Lib.hid hb6; clear ho6 hb6))
       go_ret
       exact ⟨_, _, rfl, HO6.out.mono (by omega) (Nat.le_refl _), ((HB2.out.trans (HB.out.mono zw2)).trans (HB5.out.mono (by omega))).trans (HB6.out.mono (by omega))⟩
def NewRowTT (n : Nat) (z : List Int) (w : World) (e : Ending) (w' : World) : Prop :=
 ∃ b, e = .returned (.slice (some ⟨b, 0, none⟩) n n) ∧ TagR w.heap.size w'.heap.size w' (some ⟨b, 0, none⟩) z ∧ Below w.heap.size w w'
set_option maxRecDepth 100000 in
set_option maxHeartbeats 1600000 in
theorem l05Wedge_tag (pS : Int) (aS : Option Addr) (S : List Int) (cS loS tpS : Nat) (ax : Option Addr) (x : List Int) (cx lox tpx : Nat) (ay : Option Addr) (y : List Int) (cy loy tpy : Nat) (w : World) (hs : isSp pS S = true) (hS : RowIn loS tpS w aS S) (tS : tpS ≤ w.heap.size) (hx : RowIn lox tpx w ax x) (tx : tpx ≤ w.heap.size) (mx : isMv pS S x = true) (hy : RowIn loy tpy w ay y) (ty : tpy ≤ w.heap.size) (my : isMv pS S y = true) :
 Calls Tryz.prog 145 #[.agg #[.int .i64 pS, .slice aS S.length cS], .slice ax x.length cx, .slice ay y.length cy] w (NewRowTT (bl S) (wgM pS S x y) w) := by
 have HI := Lib.hid hs
 have HS := Lib.hid hS
 have Hx := Lib.hid hx
 have HMx := Lib.hid mx
 have Hy := Lib.hid hy
 have HMy := Lib.hid my
 clear hs hS hx mx hy my
 go_enter Tryz.func145, Tryz.ntmps145
 go_wp2_with (first | (go_at_call 220; (with_reducible refine (l05Kind_tag0 pS aS S cS loS tpS ax x cx lox tpx ay y cy loy tpy _ (isSp_iff.1 HI.out).prime (isSp_iff.1 HI.out).hi (HS.out.below ((Below.refl _ _).alloc (Nat.le_refl _) (.cells #[.int .i64 pS, .slice aS S.length cS] 26)) tS) (Nat.le_trans tS (((Below.refl _ _).alloc (Nat.le_refl _) (.cells #[.int .i64 pS, .slice aS S.length cS] 26))).size) (sp_nums HI.out) (Hx.out.below ((Below.refl _ _).alloc (Nat.le_refl _) (.cells #[.int .i64 pS, .slice aS S.length cS] 26)) tx) (Nat.le_trans tx (((Below.refl _ _).alloc (Nat.le_refl _) (.cells #[.int .i64 pS, .slice aS S.length cS] 26))).size) (Mv.len HMx.out) (Mv.nums HMx.out) (Hy.out.below ((Below.refl _ _).alloc (Nat.le_refl _) (.cells #[.int .i64 pS, .slice aS S.length cS] 26)) ty) (Nat.le_trans ty (((Below.refl _ _).alloc (Nat.le_refl _) (.cells #[.int .i64 pS, .slice aS S.length cS] 26))).size) (Mv.len HMy.out) (Mv.nums HMy.out)).mono ?_); rintro e w2 ⟨d2, rfl, l2, u2, o2, b2, t2⟩; have B2 := Lib.hid b2; have K2_0_0 := (b2.cell (p := ⟨w.heap.size, 0, none⟩) (Nat.lt_of_lt_of_le (show w.heap.size < (w.alloc (.cells #[.int .i64 pS, .slice aS S.length cS] 26)).heap.size by simp) (Nat.le_refl _))).trans (show (w.alloc (.cells #[.int .i64 pS, .slice aS S.length cS] 26)).cell? ⟨w.heap.size, 0, none⟩ = some (.int .i64 pS) by simp [go_sem]); have K2_0_1 := (b2.cell (p := ⟨w.heap.size, 1, none⟩) (Nat.lt_of_lt_of_le (show w.heap.size < (w.alloc (.cells #[.int .i64 pS, .slice aS S.length cS] 26)).heap.size by simp) (Nat.le_refl _))).trans (show (w.alloc (.cells #[.int .i64 pS, .slice aS S.length cS] 26)).cell? ⟨w.heap.size, 1, none⟩ = some (.slice aS S.length cS) by simp [go_sem]); have O2 := Lib.hid o2; have T2 := Lib.hid t2; clear o2 t2; clear b2))
 go_ret
 obtain ⟨cur, ht⟩ := T2.out
 exact ⟨d2, rfl, .inr ⟨d2, 0, cur, rfl, Nat.le_trans (show w.heap.size ≤ (w.alloc (.cells #[.int .i64 pS, .slice aS S.length cS] 26)).heap.size from (((Below.refl _ _).alloc (Nat.le_refl _) (.cells #[.int .i64 pS, .slice aS S.length cS] 26))).size) l2, u2, ht, fun j hj => by
  rw [wgM_len] at hj
  rw [show (wgM pS S x y).getD j 0 = kF pS S 0 x y j from kM_at _ _ _ _ _ hj]
  exact O2.out.cell j hj⟩, (below_step ((Below.refl _ _).alloc (Nat.le_refl _) (.cells #[.int .i64 pS, .slice aS S.length cS] 26)) (show w.heap.size ≤ (w.alloc (.cells #[.int .i64 pS, .slice aS S.length cS] 26)).heap.size from (((Below.refl _ _).alloc (Nat.le_refl _) (.cells #[.int .i64 pS, .slice aS S.length cS] 26))).size) B2.out)⟩
theorem l05Wedge_lv (pS : Int) (aS : Option Addr) (S : List Int) (cS loS tpS : Nat) (ax : Option Addr) (x : List Int) (cx lox tpx b lo tp : Nat) (v : List Int) (W : World) (hs : isSp pS S = true) (hS : RowIn loS tpS W aS S) (tS : tpS ≤ W.heap.size) (hx : RowIn lox tpx W ax x) (tx : tpx ≤ W.heap.size) (mx : isMv pS S x = true) (h : RowIn lo tp W (some ⟨b, 0, none⟩) (mkR (bl S) (vecF v v.length))) (th : tp ≤ W.heap.size) (hv : isVec pS S.length v = true) :
 Calls Tryz.prog 145 #[.agg #[.int .i64 pS, .slice aS S.length cS], .slice (some ⟨b, 0, none⟩) (bl S) (bl S), .slice ax x.length cx] W (NewRowTT (bl S) (wgM pS S (vecM S v) x) W) := by
 have q := l05Wedge_tag pS aS S cS loS tpS (some ⟨b, 0, none⟩) (mkR (bl S) (vecF v v.length)) (bl S) lo tp ax x cx lox tpx W hs hS tS h th (vec_mv' hs hv) hx tx mx
 rw [mkR_len] at q
 exact q
theorem unit_vec {p : Int} (hp : 1 < p) {n i : Nat} : isVec p n (unitE n i) = true :=
 isVec_iff.2 ⟨mkR_len _ _, by
  rw [List.all_eq_true]
  intro z hz
  unfold unitE mkR at hz
  obtain ⟨j, _, rfl⟩ := List.mem_map.1 hz
  refine inr_iff.2 ?_
  split <;> omega⟩
theorem ss2x {B : Nat} {w w' : World} (h : Below B w w') {g : Nat} {u0 u1 : Value} (l : g < B) (h0 : w.cell? ⟨g, 0, none⟩ = some u0 ∧ w.cell? ⟨g, 1, none⟩ = some u1) : w'.cell? ⟨g, 0, none⟩ = some u0 ∧ w'.cell? ⟨g, 1, none⟩ = some u1 :=
 ⟨(h.cell (p := ⟨g, 0, none⟩) l).trans h0.1, (h.cell (p := ⟨g, 1, none⟩) l).trans h0.2⟩
theorem l04Vector_unit (p : Int) (aS : Option Addr) (S : List Int) (cS i b lo : Nat) (W : World) (h6 : S.length ≤ 6) (h : RowIn lo W.heap.size W (some ⟨b, 0, none⟩) (unitE S.length i)) :
 Calls Tryz.prog 146 #[.agg #[.int .i64 p, .slice aS S.length cS], .slice (some ⟨b, 0, none⟩) S.length S.length] W (NewRow (bl S) (vecF (unitE S.length i) (unitE S.length i).length) W) := by
 have q := l04Vector_any p aS S cS (some ⟨b, 0, none⟩) (unitE S.length i) S.length lo W.heap.size W h6 (mkR_len _ _) h (Nat.le_refl _)
 rw [show (unitE S.length i).length = S.length from mkR_len _ _] at q ⊢
 exact q
theorem l02Turn_n (a : Option Addr) (m : List (List Int)) (n ca lo tp : Nat) (w : World) (hnm : m.length = n) (hm : MatIn lo tp w a m) (ht : tp ≤ w.heap.size) (h0 : 0 < m.length) (hc : ∀ i, i < m.length → (rw' m i).length = (rw' m 0).length) (hn : m.length ≤ 1024) (hn2 : (rw' m 0).length ≤ 1024) :
 Calls Tryz.prog 218 #[.slice a n ca] w (NewM (trM m) w) := by
 subst hnm; exact l02Turn_any a m ca lo tp w hm ht h0 hc hn hn2
theorem TagR.mono' {lo lo' tp : Nat} {w : World} {a : Option Addr} {z : List Int} (h : TagR lo tp w a z) (hl : lo' ≤ lo) : TagR lo' tp w a z := by
 rcases h with h | ⟨b, o, cur, e, h1, h2, h3⟩
 · exact .inl h
 · exact .inr ⟨b, o, cur, e, by omega, h2, h3⟩
set_option maxRecDepth 100000 in
set_option maxHeartbeats 3200000 in
theorem l06Subspace_any (p : Int) (aS : Option Addr) (S : List Int) (cS loS tpS : Nat) (ax : Option Addr) (x : List Int) (cx lox tpx : Nat) (w : World) (hs : isSp p S = true) (hS : RowIn loS tpS w aS S) (tS : tpS ≤ w.heap.size) (hx : RowIn lox tpx w ax x) (tx : tpx ≤ w.heap.size) (mx : isMv p S x = true) :
 Calls Tryz.prog 141 #[.agg #[.int .i64 p, .slice aS S.length cS], .slice ax x.length cx] w (NewM (subM p S x) w) := by
 obtain ⟨j0, kj, kz0, kz1, kz2⟩ := info_parts info_slice
 have HS := Lib.hid hS
 have HX := Lib.hid hx
 have HI := Lib.hid hs
 have HMX := Lib.hid mx
 have h6 := (isSp_iff.1 hs).hi
 have h1 := (isSp_iff.1 hs).lo
 have hpb := prm_bd (isSp_iff.1 hs).prime
 have hbl := bl_le h6
 have hb0 := bl_pos S
 have HB0 := Lib.hid (below_alloc w (.cells #[.int .i64 p, .slice aS S.length cS] 26))
 have k0 := nw0 w (.int .i64 p) (.slice aS S.length cS) 26
 have k1 := nw1 w (.int .i64 p) (.slice aS S.length cS) 26
 have HMK := Lib.hid (fun W => run_make_row' (P := Tryz.prog) 24 2 (.int .i64 0) 8 Tryz.underlying24 info64 rfl .i64 .i64 S.length (by omega) (by omega) W)
 clear hS hx hs mx
 go_enter Tryz.func141, Tryz.ntmps141
 go_upto_region 1 with fail
 obtain ⟨wB, hw1⟩ : ∃ z, z = w.alloc (.cells #[.int .i64 p, .slice aS S.length cS] 26) := ⟨_, rfl⟩
 rw [← hw1] at HB0 k0 k1 ⊢
 have hw0 : w.heap.size < wB.heap.size := by rw [hw1]; simp
 clear hw1
 have K0 := Lib.hid k0
 have K1 := Lib.hid k1
 clear k0 k1
 go_wp2
 go_loopw [5, 6, 7] (fun v t _ wr => ∃ i : Nat, i ≤ S.length ∧ t = .int .i64 i ∧ OutM wB.heap.size wr v (mk i (bl S) fun j c => kF p S 0 (bladeM S (2 ^ j)) x c) ∧ Below wB.heap.size wB wr) (fun _ t _ _ => S.length - (intOf t).toNat)
 case atStart => exact ⟨0, Nat.zero_le _, rfl, OutM.start wB _ _ (Nat.le_refl _) rfl, below_alloc wB _⟩
 case round =>
  obtain ⟨i, hi, rfl, ho, hbel⟩ := hrel
  obtain ⟨V5, hV5⟩ : ∃ z, z = u5 := ⟨_, rfl⟩
  rw [← hV5] at ho ⊢
  clear hV5
  have HO := Lib.hid ho
  have HB := Lib.hid hbel
  have hwz := hbel.size
  have hk0 := (hbel.cell (p := ⟨w.heap.size, 0, none⟩) hw0).trans K0.out
  have hk1 := (hbel.cell (p := ⟨w.heap.size, 1, none⟩) hw0).trans K1.out
  have hlw : w.heap.size < wr.heap.size := by omega
  clear ho hbel
  by_cases hlt : i < S.length
  · have hi1 : (i : Int) < (S.length : Int) := Int.ofNat_lt.2 hlt
    obtain ⟨vals, hvo, hvr⟩ := HO.out
    rw [mk_len] at hvo hvr
    have HVO := Lib.hid hvo
    have HVR := Lib.hid hvr
    have g0 := made_cell wr (.int .i64 0) S.length 2 hlt
    have f0 : (wr.alloc (.cells (madeCells #[.int .i64 0] S.length) 2)).frozen? ⟨wr.heap.size, i, none⟩ = false := by simp [go_sem]
    have HU := Lib.hid (unit_tag wr hlt)
    have hmk := HMK.out
    clear hvo hvr
    go_upto_region 7 with fail
    clear hmk g0 f0
    obtain ⟨w5, hw5⟩ : ∃ z, z = wr.alloc (.cells ((madeCells #[.int .i64 0] S.length).setIfInBounds i (.int .i64 1)) 2) := ⟨_, rfl⟩
    rw [← hw5] at HU ⊢
    have HQ5 : Hid (Below wr.heap.size wr w5) := by show Below _ _ _; rw [hw5]; exact balloc wr _
    have HW5 : Hid (Below w.heap.size w w5.drew) := ((HB0.out.trans (HB.out.mono (by omega))).trans (HQ5.out.mono (by omega))).drew
    have z5r := HQ5.out.size
    have hd5 : w.heap.size < w5.drew.heap.size := Nat.lt_of_lt_of_le hlw z5r
    have hs1 : Hid (w5.drew.cell? ⟨w.heap.size, 0, none⟩ = some (.int .i64 p) ∧ w5.drew.cell? ⟨w.heap.size, 1, none⟩ = some (.slice aS S.length cS)) := ⟨(HQ5.out.cell (p := ⟨w.heap.size, 0, none⟩) hlw).trans hk0, (HQ5.out.cell (p := ⟨w.heap.size, 1, none⟩) hlw).trans hk1⟩
    have HUR : Hid (RowIn wr.heap.size w5.drew.heap.size w5.drew (some ⟨wr.heap.size, 0, none⟩) (unitE S.length i)) := (HU.out.row).below (bdrew w5) (Nat.le_refl _)
    have HQD : Hid (Below wr.heap.size wr w5.drew) := HQ5.out.drew
    have hlu : (unitE S.length i).length = S.length := mkR_len _ _
    have HUV : Hid (isVec p S.length (unitE S.length i) = true) := unit_vec (by omega)
    clear hk0 hk1 hw5
    go_wp2
    go_region_held3 (fun w' => w'.cell? ⟨w.heap.size, 0, none⟩ = some (.int .i64 p) ∧ w'.cell? ⟨w.heap.size, 1, none⟩ = some (.slice aS S.length cS)) (first | exact hs1.out | exact SSa.out | exact SSb.out | exact SS4.out | go_keep) (first | (go_at_call 146; ((with_reducible refine (l04Vector_unit p aS S cS i wr.heap.size wr.heap.size w5.drew h6 HUR.out).mono ?_); rintro e wa ⟨ba, rfl, l_, u_, o_, b_⟩; have SSa := Lib.hid (ss2x b_ hd5 hs1.out); have HQa := Lib.hid (HQD.out.trans (b_.mono z5r)); have HWa := Lib.hid (below_step HW5.out HW5.out.size b_); have hda := Nat.lt_of_lt_of_le hd5 b_.size; have Ra := Lib.hid ((o_.own (Nat.zero_le _) u_).row); clear b_ o_)) | (go_at_call 145; ((with_reducible refine (l05Wedge_lv p aS S cS loS tpS ax x cx lox tpx ba 0 wa.heap.size (unitE S.length i) wa HI.out (HS.out.below HWa.out tS) (Nat.le_trans tS HWa.out.size) (HX.out.below HWa.out tx) (Nat.le_trans tx HWa.out.size) HMX.out Ra.out (Nat.le_refl _) HUV.out).mono ?_); rintro e wb ⟨bb, rfl, t_, b_⟩; rw [← unit_blade hlt] at t_; have SSb := Lib.hid (ss2x b_ hda SSa.out); have HQb := Lib.hid (HQa.out.trans (b_.mono HQa.out.size)); have hzb := HQb.out.size; have Tb := Lib.hid (TagR.mono' t_ (show wr.heap.size ≤ wa.heap.size from HQa.out.size)); have HVW := Lib.hid (HVO.out.kept (below_grown HQb.out) (by cases hv : Value.ownBlock V5 <;> simp)); clear b_ t_)) | ((refine step_append_lies _ (by rfl) _ _ _ (by rfl) wB.heap.size 24 j0 _ 1 24 Tryz.underlying27 kj kz0 kz1 kz2 rfl (by omega) V5 i vals (by rfl) (HVW.out.alloc _) ⟨wb.heap.size, 0, none⟩ 1 1 [.slice (some ⟨bb, 0, none⟩) (bl S) (bl S)] (by rfl) (by rfl) (World.news_of_block (cs := #[.slice (some ⟨bb, 0, none⟩) (bl S) (bl S)]) (t := 24) (fr := (0, 0)) (heap_alloc_new wb _)) (by simp [Value.oneCell']) (by omega) (by unfold maxLen; omega) (by omega) (by simp; omega) (wb.heap.size + 1) (by simp) ?_; intro g4 cap4 w4 hown4 hgrow4 hat4 hlt4; have HO4 := Lib.hid hown4; have HG4 := Lib.hid hgrow4; have HB4 : Hid (Below wB.heap.size wB w4) := ((HB.out.trans (HQb.out.mono hwz)).alloc (Nat.le_trans hwz hzb) _).grown hgrow4 (by simp; omega) (fun _ hk => (HVO.out.lt _ hk).1); have SS4 := Lib.hid (ss2x (HB4.out) hw0 ⟨K0.out, K1.out⟩); clear hown4 hgrow4)))
    have HVRW : Hid (∀ i', i' < i → ∃ r c', vals[i']? = some (.slice r (rw' (mk i (bl S) fun j c => kF p S 0 (bladeM S (2 ^ j)) x c) i').length c') ∧ TagR wB.heap.size wb.heap.size wb r (rw' (mk i (bl S) fun j c => kF p S 0 (bladeM S (2 ^ j)) x c) i')) := fun i' h' => by
     obtain ⟨r', c', g1, g2⟩ := HVR.out i' h'
     exact ⟨r', c', g1, g2.below HQb.out (Nat.le_refl _) (Nat.le_refl _) HQb.out.size⟩
    go_wp2
    go_roundw
    case rel => exact ⟨i + 1, by omega, by go_num, OutM.next HVW.out HVRW.out Tb.out rfl hwz HO4.out HG4.out, HB4.out⟩
    case measure => simp [intOf]; omega
  · have hin : i = S.length := by omega
    subst hin
    obtain ⟨r, c, hv, hmat⟩ := HO.out.mat
    subst hv
    have HMT := Lib.hid hmat
    clear hmat
    obtain ⟨C, hC⟩ : ∃ C, C = colW p S x := ⟨_, rfl⟩
    have hC2 : (mk S.length (bl S) fun j c => kF p S 0 (bladeM S (2 ^ j)) x c) = C := hC.symm
    rw [hC2] at HMT ⊢
    have hCL : C.length = S.length := by rw [hC]; exact mk_len _ _ _
    have hC0 : 0 < C.length := by omega
    have HLE : Hid (∀ i, i < C.length → (rw' C i).length = (rw' C 0).length) := fun i hi => by
     rw [hC]; unfold colW; rw [mk_rowLen _ (show i < S.length by omega), mk_rowLen _ (show 0 < S.length by omega)]
    have hn1 : C.length ≤ 1024 := by omega
    have hn2 : (rw' C 0).length ≤ 1024 := by rw [hC]; unfold colW; rw [mk_rowLen _ (show 0 < S.length by omega)]; omega
    have HTR : Hid (trM C = eqM p S x) := by show _ = _; rw [hC]; exact colW_tr h1
    have HRW : Hid (RowsW p (trM C)) := by show RowsW _ _; rw [HTR.out]; exact eqM_wide HI.out
    have HMD : Hid (MatIn wB.heap.size wr.heap.size wr.drew r C) := HMT.out.below (bdrew wr) (Nat.le_refl _)
    have hs1 : Hid (wr.drew.cell? ⟨w.heap.size, 0, none⟩ = some (.int .i64 p) ∧ wr.drew.cell? ⟨w.heap.size, 1, none⟩ = some (.slice aS S.length cS)) := ⟨hk0, hk1⟩
    have hd5 : w.heap.size < wr.drew.heap.size := hlw
    have HWD : Hid (Below w.heap.size w wr.drew) := (HB0.out.trans (HB.out.mono (by omega))).drew
    clear hC hC2
    go_wp2
    clear hk0 hk1
    go_region_held3 (fun w' => w'.cell? ⟨w.heap.size, 0, none⟩ = some (.int .i64 p) ∧ w'.cell? ⟨w.heap.size, 1, none⟩ = some (.slice aS S.length cS)) (first | exact hs1.out | exact SSa.out | exact SSb.out | go_keep) (first | (go_at_call 218; ((with_reducible refine (l02Turn_n r C S.length c wB.heap.size wr.heap.size wr.drew hCL HMD.out (Nat.le_refl _) hC0 HLE.out hn1 hn2).mono ?_); rintro e wa ⟨ra, ka, rfl, m_, b_⟩; have SSa := Lib.hid (ss2x b_ hd5 hs1.out); have HWa := Lib.hid (below_step HWD.out HWD.out.size b_); have hda := Nat.lt_of_lt_of_le hd5 b_.size; have Ma := Lib.hid m_; clear b_ m_)) | (go_at_call 217; ((with_reducible refine (l02Kernel_wide p ra (trM C) ka wr.drew.heap.size wa.heap.size wa Ma.out (Nat.le_refl _) HRW.out).mono ?_); rintro e wb ⟨rb, kb, rfl, m_, b_⟩; have SSb := Lib.hid (ss2x b_ hda SSa.out); have HWb := Lib.hid (below_step HWa.out HWa.out.size b_); have Mb := Lib.hid m_; clear b_ m_)))
    go_wp2
    go_ret
    have hK : kerB p (trM C) = subM p S x := by rw [HTR.out]; rfl
    have h := Mb.out
    rw [hK] at h
    exact ⟨rb, kb, by rw [hK]; rfl, h.mono HWa.out.size (Nat.le_refl _), HWb.out⟩
end Go.Proofs.YtgfanoejohpmkaaGreat