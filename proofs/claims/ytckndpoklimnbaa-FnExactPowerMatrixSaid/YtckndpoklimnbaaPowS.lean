/-
  Powers of matrices in the model.
  Conditions: the matrix is nil or a row of rows of known cells.
-/
import Derived.Test.YtckndpoklimnbaaPow
namespace Go.Proofs.Ytckndpoklimnbaa
open Go.RowKit
set_option linter.unusedVariables false

set_option maxRecDepth 100000 in
set_option maxHeartbeats 3200000 in
theorem spec_PowerMatrix (p : Int) (am : Option Addr) (m : List (List Int)) (cm lom tpm : Nat) (k : Int) (w : World) (hm : MatIn lom tpm w am m) (tm : tpm ≤ w.heap.size) (sm' : m.length + tot m m.length ≤ 1048576) :
    Calls Try.prog 38 #[.int .i64 p, .slice am m.length cm, .int .i64 k] w (SpecM (pwV p m k) (pwC p m k) w) := by
  have Hm := Lib.hid hm
  have Sm := Lib.hid sm'
  clear hm sm'
  rcases sq_cases p m with ⟨h1, h2, h3⟩ | h1
  · have HC := Lib.hid h1
    have L1 := Lib.hid h2
    have HE := Lib.hid h3
    have hpb := prm_bd h2.prime
    have hn := h2.hi
    have hn0 := h2.lo
    by_cases hk : 0 ≤ k ∧ k ≤ 1000
    · have HV : Hid (pwV p m k = powM p m k.toNat ∧ pwC p m k = 0) := by show _ ∧ _; unfold pwV pwC; simp [h1, hk]
      obtain ⟨k, rfl⟩ : ∃ n : Nat, k = n := ⟨k.toNat, by omega⟩
      have hk2 : k ≤ 1000 := by omega
      have hP := PwAt.start (k := k) h2 h3 hk2
      have HP := Lib.hid hP
      clear h1 h2 h3 hk hP
      go_enter Try.func38, Try.ntmps38
      go_wp2_with (first | (go_at_call 78; (with_reducible refine (spec_l02Square p _ m _ lom tpm w Hm.out tm Sm.out).mono ?_); rintro e w1 ⟨rfl, hq⟩; rw [HC.out]; have HB := Lib.hid (hq.below w.heap.size); have hz1 := quiet_z hq; clear hq) | (go_at_call 68; refine (l01In_yes _ _ _ _ (by omega) (by omega)).mono ?_; rintro e w' ⟨rfl, rfl⟩) | (go_at_call 80; (with_reducible refine (l02Unit_any m.length _ (by omega)).mono ?_); rintro e w2 ⟨r2, c2, rfl, ho2, hb2⟩; have HO2 := Lib.hid (ho2.mono hz1 (Nat.le_refl _)); have HB2 := Lib.hid (HB.out.trans (hb2.mono hz1)); have hz2 := hb2.size; clear ho2 hb2) | (go_at_call 81; (with_reducible refine (l01Own2_any _ m _ lom tpm _ (Hm.out.below HB2.out tm) (by omega) (by omega) (fun i hi => by have h1 := L1.out.c0 i hi; have h2 := L1.out.c1 i hi; omega)).mono ?_); rintro e w3 ⟨r3, c3, rfl, ho3, hb3⟩; have HO3 := Lib.hid ho3; have HB3 := Lib.hid (HB2.out.trans (hb3.mono (by omega))); have HO2' := Lib.hid ((HO2.out.below hb3 (Nat.le_refl _)).mono (Nat.le_refl _) hb3.size); have hz3 := hb3.size; clear ho3 hb3))
      go_loopw [2, 9, 10] (fun s2 s9 s10 wr => ∃ (k' f : Nat) (out step : List (List Int)) (r r' : Option Addr) (c c' : Nat), s2 = .int .i64 k' ∧ s9 = .slice r out.length c ∧ s10 = .slice r' step.length c' ∧ PwAt p m k k' f out step ∧ MatIn w.heap.size wr.heap.size wr r out ∧ (∃ lo tp, tp ≤ wr.heap.size ∧ MatIn lo tp wr r' step) ∧ Below w.heap.size w wr) (fun s2 _ _ _ => (intOf s2).toNat)
      case atStart => exact ⟨k, 11, oneM m.length, m, r2, r3, c2, c3, rfl, rfl, rfl, HP.out, HO2'.out, ⟨_, _, Nat.le_refl _, HO3.out⟩, HB3.out⟩
      case round =>
        obtain ⟨k', f, out, step, r, r', c, c', rfl, rfl, rfl, hP, ho, ⟨lo2, tp2, h2t, hs⟩, hbel⟩ := hrel
        have HPw := Lib.hid hP
        have HS1 := Lib.hid hP.2.2.2.1
        have HS2 := Lib.hid hP.2.2.2.2
        have HOut := Lib.hid ho
        have HStep := Lib.hid hs
        have HBEL := Lib.hid hbel
        have hwz := hbel.size
        have hk1000 : k' ≤ 4096 := by have h1 := hP.1; have h2 := Nat.pow_le_pow_right (by omega : 0 < 2) hP.2.1; omega
        clear hP ho hs hbel
        by_cases hpos : 0 < k'
        · by_cases hodd : k' % 2 = 1
          · have e1 : (((k' : Int) % 2) == 1) = true := by simp; omega
            obtain ⟨g, hg, hP2⟩ := HPw.out.odd L1.out.prime hn0 hpos hodd
            have HP2 := Lib.hid hP2
            clear hodd hP2
            go_wp2_with (first | (go_at_call 72; (with_reducible refine (l02Times_any p _ _ out step _ _ _ _ lo2 tp2 wr L1.out.prime HOut.out HStep.out (Nat.le_refl _) h2t (HS1.out.r2 HS2.out) (HS2.out.r0 (by omega)).1 (HS2.out.r0 (by omega)).2).mono ?_); rintro e w4 ⟨r4, c4, rfl, ho4, hb4⟩; have HO4 := Lib.hid (ho4.mono hwz (Nat.le_refl _)); have HB4 := Lib.hid hb4; have HStep4 := Lib.hid (HStep.out.below hb4 h2t); have hz4 := hb4.size; clear ho4 hb4) | (go_at_call 72; (with_reducible refine (l02Times_any p _ _ step step _ _ lo2 tp2 lo2 tp2 w4 L1.out.prime HStep4.out HStep4.out (by omega) (by omega) (HS2.out.r2 HS2.out) (HS2.out.r0 (by omega)).1 (HS2.out.r0 (by omega)).2).mono ?_); rintro e w5 ⟨r5, c5, rfl, ho5, hb5⟩; have HO5 := Lib.hid ho5; have HB5 := Lib.hid hb5; have hz5 := hb5.size; clear ho5 hb5))
            go_roundw
            case rel => exact ⟨k' / 2, g, _, _, r4, r5, c4, c5, congrArg (Value.int .i64) (cast_half k'), rfl, rfl, HP2.out, (HO4.out.below HB5.out (Nat.le_refl _)).mono (Nat.le_refl _) hz5, ⟨_, _, Nat.le_refl _, HO5.out⟩, (HBEL.out.trans (HB4.out.mono hwz)).trans (HB5.out.mono (by omega))⟩
            case measure => simp [intOf]; omega
          · have e1 : (((k' : Int) % 2) == 1) = false := by simp; omega
            obtain ⟨g, hg, hP2⟩ := HPw.out.even L1.out.prime hn0 hpos hodd
            have HP2 := Lib.hid hP2
            clear hodd hP2
            go_wp2_with (go_at_call 72; (with_reducible refine (l02Times_any p _ _ step step _ _ lo2 tp2 lo2 tp2 wr L1.out.prime HStep.out HStep.out (by omega) (by omega) (HS2.out.r2 HS2.out) (HS2.out.r0 (by omega)).1 (HS2.out.r0 (by omega)).2).mono ?_); rintro e w5 ⟨r5, c5, rfl, ho5, hb5⟩; have HO5 := Lib.hid ho5; have HB5 := Lib.hid hb5; have hz5 := hb5.size; clear ho5 hb5)
            go_roundw
            case rel => exact ⟨k' / 2, g, _, _, r, r5, c, c5, congrArg (Value.int .i64) (cast_half k'), rfl, rfl, HP2.out, (HOut.out.below HB5.out (Nat.le_refl _)).mono (Nat.le_refl _) hz5, ⟨_, _, Nat.le_refl _, HO5.out⟩, HBEL.out.trans (HB5.out.mono hwz)⟩
            case measure => simp [intOf]; omega
        · obtain rfl : 0 = k' := by omega
          have HF : Hid (out = powM p m k) := by show _ = _; have := HPw.out.2.2.1; rwa [pwF_zero] at this
          clear hpos
          go_wp2
          go_ret2
          rw [HV.out.1, HV.out.2, Int.toNat_natCast, ← HF.out]
          exact ⟨r, c, rfl, HOut.out, HBEL.out⟩
    · have HV : Hid (pwV p m k = [] ∧ pwC p m k = 2) := by show _ ∧ _; unfold pwV pwC; simp [h1, hk]
      clear h1 h2 h3
      by_cases hk0 : k < 0
      · have HN : Hid (¬ (0 ≤ k ∧ k ≤ 1000)) := hk
        clear hk
        go_enter Try.func38, Try.ntmps38
        go_wp2_with (first | (go_at_call 78; (with_reducible refine (spec_l02Square p _ m _ lom tpm w Hm.out tm Sm.out).mono ?_); rintro e w1 ⟨rfl, hq⟩; rw [HC.out]; have HB := Lib.hid (hq.below w.heap.size); have hz1 := quiet_z hq; clear hq) | (go_at_call 68; refine (l01In_no _ _ _ _ HN.out).mono ?_; rintro e w' ⟨rfl, rfl⟩))
        go_ret2
        rw [HV.out.1, HV.out.2]
        exact ⟨none, 0, rfl, .inl rfl, HB.out⟩
      · have hk1 : 1000 < k := by omega
        have HN : Hid (¬ (0 ≤ k ∧ k ≤ 1000)) := hk
        clear hk
        go_enter Try.func38, Try.ntmps38
        go_wp2_with (first | (go_at_call 78; (with_reducible refine (spec_l02Square p _ m _ lom tpm w Hm.out tm Sm.out).mono ?_); rintro e w1 ⟨rfl, hq⟩; rw [HC.out]; have HB := Lib.hid (hq.below w.heap.size); have hz1 := quiet_z hq; clear hq) | (go_at_call 68; refine (l01In_no _ _ _ _ HN.out).mono ?_; rintro e w' ⟨rfl, rfl⟩))
        go_ret2
        rw [HV.out.1, HV.out.2]
        exact ⟨none, 0, rfl, .inl rfl, HB.out⟩
  · have e1 : (sqC p m == 0) = false := by simpa using h1
    have e2 : (sqC p m != 0) = true := by simpa using h1
    have HV : Hid (pwV p m k = [] ∧ pwC p m k = sqC p m) := by show _ ∧ _; unfold pwV pwC; simp [h1]
    obtain ⟨q, hq0⟩ : ∃ q, q = sqC p m := ⟨_, rfl⟩
    have HQ0 := Lib.hid hq0
    rw [← hq0] at e1 e2
    clear h1 hq0
    go_enter Try.func38, Try.ntmps38
    go_wp2_with (go_at_call 78; (with_reducible refine (spec_l02Square p _ m _ lom tpm w Hm.out tm Sm.out).mono ?_); rintro e w1 ⟨rfl, hq⟩; rw [← HQ0.out]; have HB := Lib.hid (hq.below w.heap.size); have hz1 := quiet_z hq; clear hq)
    go_ret2
    rw [HV.out.1, HV.out.2, ← HQ0.out]
    exact ⟨none, 0, rfl, .inl rfl, HB.out⟩

end Go.Proofs.Ytckndpoklimnbaa
