/-
  The program's SolveMatrix: contract.
  Conditions: the arguments are nil or rows of known cells, of at most 1048576 numbers.
-/
import Derived.Test.YtndneccgomfkdaaGreatQi37
namespace Go.Proofs.YtndneccgomfkdaaGreat
open Go.RowKit Go.ChangeShapes Go.WideShapes
set_option linter.unusedVariables false

theorem ownR_mono {lo hi lo' hi' : Nat} {w : World} {a : Option Addr} {zs : List Int} (h : OwnR lo hi w a zs) (h0 : lo' ≤ lo) (h1 : hi ≤ hi') : OwnR lo' hi' w a zs := by
  rcases h with h | ⟨b, o, e, g0, g1, g2⟩
  · exact .inl h
  · exact .inr ⟨b, o, e, by omega, by omega, g2⟩
set_option maxRecDepth 100000 in
set_option maxHeartbeats 6400000 in
theorem impl_SolveMatrix (p : Int) (am : Option Addr) (m : List (List Int)) (cm lom tpm : Nat) (av : Option Addr) (v : List Int) (cv lov tpv : Nat) (w : World) (hm : MatIn lom tpm w am m) (tm : tpm ≤ w.heap.size) (sm : m.length + tot m m.length ≤ 1048576) (hv : RowIn lov tpv w av v) (tv : tpv ≤ w.heap.size) (sv : v.length ≤ 1048576) :
    Calls Tryz.prog 36 #[.int .i64 p, .slice am m.length cm, .slice av v.length cv] w (ImplR (solV p m v) (solC p m v) w) := by
  have Hm := Lib.hid hm
  have Sm := Lib.hid sm
  have HV1 := Lib.hid (hv.below (balloc w (.cells #[.slice am m.length cm] 32)) tv)
  have hml : m.length ≤ 1048576 := by omega
  clear sm
  by_cases h : isM p m = true
  · have HC := Lib.hid (chk1_yes h)
    have HL := Lib.hid (isL_iff.1 h)
    have hm0 : 0 < m.length := (isL_iff.1 h).lo
    by_cases h2 : v.length = m.length ∧ v.all (inr p) = true
    · have HVV : Hid ((decide (v.length = m.length) && v.all (inr p)) = true) := by show _ = _; rw [h2.2]; simp [h2.1]
      have HS := Lib.hid (sol_in h h2)
      have HX := Lib.hid (col_rows HL.out h2.1 h2.2)
      have HVL := Lib.hid h2.1
      have hm16 := HL.out.hi
      have hvm : v.length ≤ m.length ∧ m.length ≤ v.length := by omega
      have HLA := Lib.hid HL.out.len
      obtain ⟨b, o, r0, c0, ha, _, hb, hr0, _⟩ := Hm.out.row (i := 0) hm0
      subst ha
      rw [Nat.add_zero] at hr0
      have hb' : b < w.heap.size := Nat.lt_of_lt_of_le hb tm
      have c1 := HL.out.c0 0 HL.out.lo
      have c16 := HL.out.c1 0 HL.out.lo
      have HOK : Hid (solOk p m v = !isPv (pvs (bas p (bes m (col v)))) (bas p (bes m (col v))).length (rw' m 0).length) := rfl
      have HSL : Hid (solL p m v = if solOk p m v = true then solvec (bas p (bes m (col v))) (pvs (bas p (bes m (col v)))) (rw' m 0).length (bas p (bes m (col v))).length else []) := rfl
      obtain ⟨c, hcc⟩ : ∃ c, c = (rw' m 0).length := ⟨_, rfl⟩
      rw [← hcc] at hr0 c1 c16 HX HLA HOK HSL
      obtain ⟨W, hW⟩ : ∃ W, W = bes m (col v) := ⟨_, rfl⟩
      rw [← hW] at HX HOK HSL
      have HW := Lib.hid hW
      have HWL : Hid (W.length = m.length) := by show _ = _; rw [hW]; exact bes_len _ _
      obtain ⟨B, hB⟩ : ∃ B, B = bas p W := ⟨_, rfl⟩
      rw [← hB] at HOK HSL
      have HBE := Lib.hid hB
      obtain ⟨n, hn⟩ : ∃ n, n = B.length := ⟨_, rfl⟩
      rw [← hn] at HOK HSL
      have HN := Lib.hid hn
      obtain ⟨P, hP⟩ : ∃ P, P = pvs B := ⟨_, rfl⟩
      rw [← hP] at HOK HSL
      have HPE := Lib.hid hP
      have hq1 := ((balloc w (.cells #[.slice (some ⟨b, o, none⟩) m.length cm] 32)).cell (p := ⟨b, o, none⟩) hb').trans hr0
      have HM1 := Lib.hid (hm.below (balloc w (.cells #[.slice (some ⟨b, o, none⟩) m.length cm] 32)) tm)
      have HZ1 := Lib.hid (balloc w (.cells #[.slice (some ⟨b, o, none⟩) m.length cm] 32)).size
      have HT1 := Lib.hid (Nat.le_trans tv HZ1.out)
      have HB2 := Lib.hid ((balloc w (.cells #[.slice (some ⟨b, o, none⟩) m.length cm] 32)).trans ((balloc (w.alloc (.cells #[.slice (some ⟨b, o, none⟩) m.length cm] 32)) (.cells #[.slice av v.length cv] 24)).mono HZ1.out))
      have HBL := Lib.hid (show w.heap.size + 1 = (w.alloc (.cells #[.slice (some ⟨b, o, none⟩) m.length cm] 32)).heap.size by simp)
      have HCR : Hid (∀ i, i < m.length → (rw' (col v) i).length = 1) := fun i hi => by rw [col_row (by omega)]; rfl
      have HCL := Lib.hid (col_len v)
      have hmk := fun W => run_make_row' (P := Tryz.prog) 24 2 (.int .i64 0) 8 Tryz.underlying24 info64 rfl .i64 .i64 c (by omega) (by omega) W
      have v0 : 0 < v.length := by omega
      have v1 : v.length ≤ 1024 := by omega
      have cle : c ≤ 1024 := by omega
      have c01 : 0 < c := c1
      have HN1 : Hid (m.length ≤ (col v).length) := by show _ ≤ _; rw [HCL.out]; omega
      have HN2 : Hid ((col v).length ≤ 1024) := by show _ ≤ _; rw [HCL.out]; omega
      have one0 : 0 < 1 := Nat.zero_lt_one
      have one1 : 1 ≤ 1024 := by omega
      clear h h2 hm hv hcc hW hB hn hP
      go_enter Tryz.func36, Tryz.ntmps36
      go_wp2_with (first | (go_at_call 61; (with_reducible refine (checkOne_new p _ m _ lom tpm w _ Hm.out tm Sm.out).mono ?_); rintro e w1 ⟨rfl, rfl⟩; rw [HC.out]) | (go_at_call 62; (with_reducible refine (isVector_any p av v cv m.length lov tpv _ HL.out.prime HV1.out sv hml).mono ?_); rintro e w' ⟨rfl, rfl⟩; rw [HVV.out]) | (go_at_call 77; (with_reducible refine (transpCol av v v.length cv lov tpv (w.heap.size + 1) _ (w.alloc (.cells #[.slice (some ⟨b, o, none⟩) m.length cm] 32)) _ HBL.out rfl HV1.out HT1.out v0 v1).mono ?_); rintro e w3 ⟨r3, k3, rfl, ho3, hb3⟩; have HO3 := Lib.hid ho3; have HB3 := Lib.hid (HB2.out.trans (hb3.mono HB2.out.size)); have HM3 := Lib.hid (Hm.out.below HB3.out tm); have HT3 := Lib.hid (Nat.le_trans tm HB3.out.size); clear ho3 hb3) | (go_at_call 76; (with_reducible refine (besideEach_any (some ⟨b, o, none⟩) r3 m (col v) cm k3 lom tpm _ _ c 1 v.length w3 HM3.out HT3.out HO3.out (Nat.le_refl _) HCL.out.symm HN1.out HN2.out HLA.out HCR.out c01 cle one0 one1).mono ?_); rintro e w4 ⟨r4, k4, rfl, ho4, hb4⟩; rw [← HW.out] at ho4; have HO4 := Lib.hid ho4; have HB4 := Lib.hid (HB3.out.trans (hb4.mono HB3.out.size)); clear ho4 hb4) | (go_at_call 43; (with_reducible refine (elimX p r4 W m.length k4 _ _ (c + 1) w4 HWL.out HO4.out (Nat.le_refl _) HX.out).mono ?_); rintro e w5 ⟨ar, cr, ap, cp, dd, rfl, ho5, hp5, hi5, hb5⟩; rw [← HBE.out, ← HN.out]; rw [← HBE.out, HX.out.len0] at hi5; rw [← HBE.out] at ho5; rw [← HBE.out, ← HN.out, ← HPE.out] at hp5; have HIB := Lib.hid hi5; have HO5 := Lib.hid ho5.mat; have HP5 := Lib.hid hp5; have HB5 := Lib.hid (HB4.out.trans (hb5.mono HB4.out.size)); have hz45 := hb5.size; have k1 := (cel3_new w5 (.slice ar n cr) (.slice ap n cp) (.int .i64 dd) 66).c1; have k1' := ((balloc (w5.alloc (.cells #[.slice ar n cr, .slice ap n cp, .int .i64 dd] 66)) (.cells (madeCells #[.int .i64 0] c) 2)).cell (p := ⟨w5.heap.size, 1, none⟩) (show w5.heap.size < (w5.alloc (.cells #[.slice ar n cr, .slice ap n cp, .int .i64 dd] 66)).heap.size by simp)).trans k1; clear ho5 hp5 hi5 hb5))
      have hRR : Rref p n (c + 1) (at' B) P := by rw [HPE.out, HN.out]; exact HIB.out.pivs
      have HRR := Lib.hid hRR
      have hnc : n ≤ c + 1 := hRR.rows_le
      have HLB : Hid (∀ i, i < n → (rw' B i).length = c + 1) := fun i hi => HIB.out.len i (by rw [← HN.out]; exact hi)
      have HB6 := Lib.hid (balloc w5 (.cells #[.slice ar n cr, .slice ap n cp, .int .i64 dd] 66))
      have HK0 := Lib.hid (cel3_new w5 (.slice ar n cr) (.slice ap n cp) (.int .i64 dd) 66).c0
      have hz6 : w5.heap.size < (w5.alloc (.cells #[.slice ar n cr, .slice ap n cp, .int .i64 dd] 66)).heap.size := by simp
      have HZ6 : Hid ((w5.alloc (.cells #[.slice ar n cr, .slice ap n cp, .int .i64 dd] 66)).heap.size = w5.heap.size + 1) := by show _ = _; simp
      obtain ⟨w6, hw6⟩ : ∃ z, z = w5.alloc (.cells #[.slice ar n cr, .slice ap n cp, .int .i64 dd] 66) := ⟨_, rfl⟩
      rw [← hw6] at HB6 HK0 hz6 HZ6
      rw [← hw6]
      clear hRR hw6 hmk k1 k1' hq1
      go_loopw [43] (fun t wr => ∃ j : Nat, j ≤ n ∧ t = .int .i64 j ∧ (∀ i', i' < j → P i' ≠ c) ∧ TagR (w5.heap.size + 1) wr.heap.size wr (some ⟨w5.heap.size + 1, 0, none⟩) (solvec B P c j) ∧ Below w6.heap.size w6 wr) (fun t _ => n - (intOf t).toNat)
      case atStart => exact ⟨0, Nat.zero_le _, rfl, fun i' h => absurd h (Nat.not_lt_zero _), by rw [solvec_zero]; have h := made_tag w6 c _ rfl; rw [HZ6.out] at h; exact h, balloc w6 _⟩
      case round =>
        obtain ⟨j, hj, rfl, hne, htv, hbv⟩ := hrel
        have HNE := Lib.hid hne
        have HTV := Lib.hid htv
        have HBV := Lib.hid hbv
        have hwv := hbv.size
        have HB5r : Hid (Below w5.heap.size w5 wr) := HB6.out.trans (hbv.mono (by omega))
        have k0 := (hbv.cell (p := ⟨w5.heap.size, 0, none⟩) hz6).trans HK0.out
        have hwz6 : w.heap.size ≤ w6.heap.size := Nat.le_trans HB5.out.size (by omega)
        have HW6 : Hid (Below w.heap.size w wr) := HB5.out.trans (HB5r.out.mono HB5.out.size)
        clear hne htv hbv
        by_cases hltj : j < n
        · have hj1 : (j : Int) < (n : Int) := by omega
          obtain ⟨bp, op, hap, _, _, hcp⟩ := (HP5.out.below HB5r.out (Nat.le_refl _)).num (j := j) (by rw [pvL_len]; exact hltj)
          subst hap
          rw [pvL_at hltj] at hcp
          have hpc := HRR.out.pv j hltj
          by_cases hpe : P j = c
          · have HF : Hid (solOk p m v = false) := by
              show _ = _
              rw [HOK.out, isPv_iff.2 ⟨j, hltj, hpe⟩]; rfl
            have e1 : ((P j : Int) == (c : Int)) = true := by rw [hpe]; simp
            clear hpe
            go_wp2
            go_ret2
            rw [HS.out.1, HS.out.2, HF.out, solL_no HF.out]
            exact ⟨none, 0, rfl, .inl rfl, HW6.out⟩
          · have e1 : ((P j : Int) == (c : Int)) = false := by simp; omega
            have hpl : P j < c := by omega
            have hpl1 : (P j : Int) < (c : Int) := by omega
            obtain ⟨bq, oq, rq, cq, haq, _, _, hrq, hrowq⟩ := (HO5.out.below HB5r.out (Nat.le_refl _)).row (show j < B.length by rw [← HN.out]; exact hltj)
            subst haq
            have hcl := HLB.out j hltj
            rw [hcl] at hrq
            obtain ⟨bx, ox, hax, _, _, hcx0⟩ := hrowq.num (j := c) (by omega)
            subst hax
            obtain ⟨x, hx⟩ : ∃ x, x = at' B j c := ⟨_, rfl⟩
            have hcx : wr.cell? ⟨bx, ox + c, none⟩ = some (.int .i64 x) := by rw [hx]; exact hcx0
            have HST : Hid ((solvec B P c j).set (P j) x = solvec B P c (j + 1)) := by show _ = _; rw [hx]; exact solvec_next HRR.out hltj
            obtain ⟨bv, ov, hav, _, _, hcv⟩ := HTV.out.row.num (j := P j) (by rw [solvec_len]; exact hpl)
            cases hav
            rw [Nat.zero_add] at hcv
            obtain ⟨y, hy⟩ : ∃ y, y = (solvec B P c j).getD (P j) 0 := ⟨_, rfl⟩
            rw [← hy] at hcv
            have hfv : wr.frozen? ⟨w5.heap.size + 1, P j, none⟩ = false := by
              rcases HTV.out with h | ⟨b', o', cur, e, _, _, ht, _⟩
              · have := solvec_len B P c j; rw [h] at this; simp at this; omega
              · cases e; exact free_of ht _
            have HPN := Lib.hid hpe
            clear hx hy hcx0 hrowq hpe hcl
            go_wp2
            go_roundw
            case rel =>
              refine ⟨j + 1, by omega, by go_num, fun i' h => ?_, ?_, Below.setCell HBV.out (Nat.le_of_eq HZ6.out) _⟩
              · by_cases e : i' = j
                · subst e; exact HPN.out
                · exact HNE.out i' (by omega)
              · have h := HTV.out.set (j := P j) (by rw [solvec_len]; exact hpl) x
                rw [HST.out, Nat.zero_add] at h
                exact h.block (Nat.le_refl _) (by simp [World.setCell]) (fun _ _ _ _ _ => rfl)
            case measure => simp [intOf]; omega
        · have hjn : j = n := by omega
          subst hjn
          have HF : Hid (solOk p m v = true) := by
            show _ = _
            rw [HOK.out]
            cases hpv : isPv P j c with
            | false => rfl
            | true => obtain ⟨i', h1, h2⟩ := isPv_iff.1 hpv; exact absurd h2 (HNE.out i' h1)
          have HL0 : Hid (solL p m v = solvec B P c j) := by show _ = _; rw [HSL.out, if_pos HF.out]
          go_wp2
          go_ret2
          rw [HS.out.1, HS.out.2, HF.out, HL0.out]
          exact ⟨some ⟨w5.heap.size + 1, 0, none⟩, c, by rw [solvec_len]; rfl, (ownR_mono HTV.out.own (show w.heap.size ≤ w5.heap.size + 1 by have := HB5.out.size; omega) (Nat.le_refl _)), HW6.out⟩
    · have HVV : Hid ((decide (v.length = m.length) && v.all (inr p)) = false) := by
        show _ = _
        by_cases k1 : v.length = m.length
        · have k2 : ¬ v.all (inr p) = true := fun k => h2 ⟨k1, k⟩
          simp [k2]
        · simp [k1]
      have HS := Lib.hid (sol_rng h h2)
      clear h h2 hm hv
      go_enter Tryz.func36, Tryz.ntmps36
      go_wp2_with (first | (go_at_call 61; (with_reducible refine (checkOne_new p _ m _ lom tpm w _ Hm.out tm Sm.out).mono ?_); rintro e w1 ⟨rfl, rfl⟩; rw [HC.out]) | (go_at_call 62; (with_reducible refine (isVector_any p av v cv m.length lov tpv _ HL.out.prime HV1.out sv hml).mono ?_); rintro e w' ⟨rfl, rfl⟩; rw [HVV.out]))
      go_ret2
      rw [HS.out.1, HS.out.2]
      exact ⟨none, 0, rfl, .inl rfl, balloc w _⟩
  · have HC := Lib.hid (chk1_no (by simpa using h : isM p m = false))
    have HS := Lib.hid (sol_not (v := v) (by simpa using h : isM p m = false))
    clear h hm hv
    go_enter Tryz.func36, Tryz.ntmps36
    go_wp2_with (first | (go_at_call 61; (with_reducible refine (checkOne_new p _ m _ lom tpm w _ Hm.out tm Sm.out).mono ?_); rintro e w1 ⟨rfl, rfl⟩; rw [HC.out]))
    go_ret2
    rw [HS.out.1, HS.out.2]
    exact ⟨none, 0, rfl, .inl rfl, balloc w _⟩

end Go.Proofs.YtndneccgomfkdaaGreat
