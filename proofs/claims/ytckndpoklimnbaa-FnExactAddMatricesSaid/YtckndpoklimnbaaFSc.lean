/-
  ScaleMatrix, in the program.
  Conditions: the arguments are nil or rows of known cells, of at most 1048576 numbers.
-/
import Derived.Test.YtckndpoklimnbaaFScS
namespace Go.Proofs.Ytckndpoklimnbaa
open Go.RowKit
set_option linter.unusedVariables false

theorem one_num (w : World) (k : Int) (t : TypeId) : RowIn w.heap.size (w.heap.size + 1) (w.alloc (.cells #[.int .i64 k] t)) (some ⟨w.heap.size, 0, none⟩) [k] :=
  .inr ⟨_, 0, rfl, Nat.le_refl _, Nat.lt_succ_self _, fun j hj => by
    have : j = 0 := by simp at hj; omega
    subst this
    simp [go_sem]⟩
theorem checkK (p k : Int) (w : World) (o : Obj) (t : TypeId) (hp : prm p = true) :
    Calls Try.prog 70 #[.int .i64 p, .slice (some ⟨w.heap.size + 1, 0, none⟩) 1 1] ((w.alloc o).alloc (.cells #[.int .i64 k] t)) fun e w' => e = .returned (.int .i64 (codeOf p [k])) ∧ Below w.heap.size w w' := by
  have h := checkRow p (some ⟨(w.alloc o).heap.size, 0, none⟩) [k] 1 _ _ _ hp (one_num (w.alloc o) k t) (by simp)
  rw [World.size_alloc] at h
  refine h.mono fun e w' ⟨he, hw⟩ => ⟨he, ?_⟩
  subst hw
  exact ((Below.refl _ _).alloc (Nat.le_refl _) _).alloc (by simp) _

set_option maxRecDepth 100000 in
set_option maxHeartbeats 3200000 in
theorem impl_ScaleMatrix (p : Int) (am : Option Addr) (m : List (List Int)) (cm lom tpm : Nat) (k : Int) (w : World) (hm : MatIn lom tpm w am m) (tm : tpm ≤ w.heap.size) (sm' : m.length + tot m m.length ≤ 1048576) :
    Calls Try.prog 27 #[.int .i64 p, .slice am m.length cm, .int .i64 k] w (ImplM (scV p m k) (scC p m k) w) := by
  have Hm := Lib.hid hm
  have Sm := Lib.hid sm'
  clear hm sm'
  by_cases h1 : isM p m = true
  · have HK := Lib.hid (chk1_yes h1)
    have L1 := Lib.hid (isL_iff.1 h1)
    have hn := L1.out.hi
    have hpb := prm_bd L1.out.prime
    by_cases hk : 0 ≤ k ∧ k < p
    · have HV : Hid (scV p m k = sclM p m k ∧ scC p m k = 0) := by show _ ∧ _; unfold scV scC; simp [h1, hk]
      have HC0 := Lib.hid (code_ok L1.out.prime (by simp [inr, hk] : [k].all (inr p) = true))
      obtain ⟨k0, k1⟩ := hk
      have HR : Hid (∀ i, i < m.length → rw' (sclM p m k) i = sclR p (rw' m i) k) := fun i hi => scl_row (c := 0) L1.out hi
      obtain ⟨Z, hZ⟩ : ∃ Z, Z = sclM p m k := ⟨_, rfl⟩
      rw [← hZ] at HV HR
      have HZL : Hid (Z.length = m.length) := by show _ = _; rw [hZ]; exact mk_len _ _ _
      have hmk := fun W => run_make_row' (P := Try.prog) 22 33 (.slice none 0 0) 24 Try.underlying22 info_slice rfl .i64 .i64 m.length (by omega) (by omega) W
      clear h1 hZ
      go_enter Try.func27, Try.ntmps27
      go_wp2_with (first | (go_at_call 63; (with_reducible refine (checkOne_new p _ m _ lom tpm w _ Hm.out tm Sm.out).mono ?_); rintro e w1 ⟨rfl, rfl⟩; rw [HK.out]) | (go_at_call 70; (with_reducible refine (checkK p k _ _ _ L1.out.prime).mono ?_); rintro e w2 ⟨rfl, hb2⟩; rw [HC0.out]; have HB2 := Lib.hid hb2; have hz2 := hb2.size; clear hb2))
      clear hmk
      go_loopw [32] (fun t wr => ∃ i : Nat, i ≤ m.length ∧ t = .int .i64 i ∧ (∃ A C lo tp, HalfG wr w2.heap.size i Z A C lo tp) ∧ Below w.heap.size w wr ∧ w2.heap.size < wr.heap.size) (fun t _ => m.length - (intOf t).toNat)
      case atStart => exact ⟨0, Nat.zero_le _, rfl, ⟨fun _ => none, fun _ => 0, fun _ => 0, fun _ => 0, by have := HalfG.start w2 Z 33 (fun _ => none) (fun _ => 0) (fun _ => 0) (fun _ => 0); rw [HZL.out] at this; exact this⟩, HB2.out.alloc hz2 _, by simp⟩
      case round =>
        obtain ⟨i, hi, rfl, ⟨A, C, lo, tp, hh⟩, hbel, hwlt⟩ := hrel
        have HH := Lib.hid hh
        have HBEL := Lib.hid hbel
        have hwz := hbel.size
        by_cases hlt : i < m.length
        · obtain ⟨b1, o1, r, c1, ha1, _, hb1, hr1, hrow⟩ := (Hm.out.below hbel tm).row hlt
          subst ha1
          have HROW := Lib.hid hrow
          have g0 := hh.rest i (Nat.le_refl _) (by rw [HZL.out]; exact hlt)
          have f0 := hh.free i
          have hl16 : (rw' m i).length ≤ 16 := L1.out.c1 i hlt
          have hl1 : 1 ≤ (rw' m i).length := L1.out.c0 i hlt
          have HNR : Hid (∀ j, j < (rw' m i).length → 0 ≤ (rw' m i).getD j 0 ∧ (rw' m i).getD j 0 < p) := (rect_of L1.out).num i hlt
          have HRI := Lib.hid (HR.out i hlt)
          clear hrow hbel hh
          go_wp2_with (first | (go_at_call 66; (with_reducible refine (cloneR _ _ _ lom tpm _ HROW.out (by omega) (by omega) (by omega)).mono ?_); rintro e w3 ⟨r3, k3, rfl, ho3, hb3⟩; obtain ⟨g, og, rfl, hg0, hg1, hro⟩ := RowOwn.of ho3.own (by omega); have HRO := Lib.hid (hro.far (w2.heap.size) i (.slice (some ⟨g, og, none⟩) (rw' m i).length k3) (by omega)); have HB3 := Lib.hid hb3; have hz3 := hb3.size; have g3 := (hb3.cell (p := ⟨w2.heap.size, i, none⟩) hwlt).trans g0; have f3 := (hb3.frozen (p := ⟨w2.heap.size, i, none⟩) hwlt).trans f0; clear ho3 hb3 hro) | (go_at_call 71; (with_reducible refine (scale_any p k g og _ _ _ _ L1.out.prime HRO.out (by omega) HNR.out k0 (by omega)).mono ?_); rintro e w5 ⟨rfl, ho5, hw5⟩; have HO5 := Lib.hid ho5; have HW5 := Lib.hid hw5; clear ho5 hw5))
          go_roundw
          case rel =>
            have HF := HH.out.fill (by rw [HZL.out]; exact hlt) HB3.out hg0 hg1 (by rw [HRI.out]; exact mkR_len _ _) HW5.out HO5.out (fun j hj => by rw [HRI.out]; exact sclR_at hj)
            exact ⟨i + 1, by omega, by go_num, ⟨_, _, _, _, HF.1⟩, HBEL.out.trans (HF.2.mono (by omega)), by have := HF.2.size; omega⟩
          case measure => simp [intOf]; omega
        · have hn : i = m.length := by omega
          subst hn
          have HF : Hid (HalfG wr w2.heap.size Z.length Z A C lo tp) := by have := HH.out; rw [← HZL.out] at this; exact this
          clear hh hbel
          go_wp2
          go_ret2
          rw [HV.out.1, HV.out.2]
          exact ⟨_, m.length, by rw [HZL.out]; rfl, HF.out.own.mono hz2 (Nat.le_refl _), HBEL.out⟩
    · have HV : Hid (scV p m k = [] ∧ scC p m k = 2) := by show _ ∧ _; unfold scV scC; simp [h1, hk]
      have HC0 := Lib.hid (code_bad L1.out.prime (by simp [inr]; omega : [k].all (inr p) = false))
      clear h1 hk
      go_enter Try.func27, Try.ntmps27
      go_wp2_with (first | (go_at_call 63; (with_reducible refine (checkOne_new p _ m _ lom tpm w _ Hm.out tm Sm.out).mono ?_); rintro e w1 ⟨rfl, rfl⟩; rw [HK.out]) | (go_at_call 70; (with_reducible refine (checkK p k _ _ _ L1.out.prime).mono ?_); rintro e w2 ⟨rfl, hb2⟩; rw [HC0.out]; have HB2 := Lib.hid hb2; clear hb2))
      go_ret2
      rw [HV.out.1, HV.out.2]
      exact ⟨none, 0, rfl, .inl rfl, HB2.out⟩
  · have HV : Hid (scV p m k = [] ∧ scC p m k = 1) := by show _ ∧ _; unfold scV scC; simp [h1]
    have HK := Lib.hid (chk1_no (by simpa using h1 : isM p m = false))
    clear h1
    go_enter Try.func27, Try.ntmps27
    go_wp2_with (go_at_call 63; (with_reducible refine (checkOne_new p _ m _ lom tpm w _ Hm.out tm Sm.out).mono ?_); rintro e w1 ⟨rfl, rfl⟩; rw [HK.out])
    go_ret2
    rw [HV.out.1, HV.out.2]
    exact ⟨none, 0, rfl, .inl rfl, (Below.refl _ _).alloc (Nat.le_refl _) _⟩

end Go.Proofs.Ytckndpoklimnbaa
