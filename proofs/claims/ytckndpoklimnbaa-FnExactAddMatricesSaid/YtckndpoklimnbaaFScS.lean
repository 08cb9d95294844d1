/-
  ScaleMatrix, in the program and in the model.
  Conditions: the arguments are nil or rows of known cells, of at most 1048576 numbers.
-/
import Derived.Test.YtckndpoklimnbaaHalf
import Derived.Test.YtckndpoklimnbaaFTr
import Derived.Test.YtckndpoklimnbaaSpA
namespace Go.Proofs.Ytckndpoklimnbaa
open Go.RowKit
set_option linter.unusedVariables false

def scV (p : Int) (m : List (List Int)) (k : Int) : List (List Int) := if isM p m = true ∧ 0 ≤ k ∧ k < p then sclM p m k else []
def scC (p : Int) (m : List (List Int)) (k : Int) : Int := if isM p m = true then (if 0 ≤ k ∧ k < p then 0 else 2) else 1
theorem scV_size (p : Int) (m : List (List Int)) (k : Int) : (scV p m k).length + tot (scV p m k) (scV p m k).length ≤ 1048576 := by
  unfold scV
  split
  · rename_i h
    have h1 := isL_iff.1 h.1
    have h2 := h1.c16
    have h3 := h1.hi
    have e : sclM p m k = mk m.length (rw' m 0).length fun i j => at' m i j * k % p := rfl
    rw [e]; exact mk_size (by omega) (by omega)
  · simp [tot]
theorem scl_row {p k : Int} {m : List (List Int)} {c i : Nat} (h : Lst 1 p m) (hi : i < m.length) : rw' (sclM p m k) i = sclR p (rw' m i) k := by
  unfold sclM sclR
  rw [mk_row _ hi, h.len i hi]; rfl
theorem sclR_at {p k : Int} {z : List Int} {j : Nat} (hj : j < z.length) : (sclR p z k).getD j 0 = z.getD j 0 * k % p := mkR_at _ hj

set_option maxRecDepth 100000 in
set_option maxHeartbeats 3200000 in
theorem spec_ScaleMatrix (p : Int) (am : Option Addr) (m : List (List Int)) (cm lom tpm : Nat) (k : Int) (w : World) (hm : MatIn lom tpm w am m) (tm : tpm ≤ w.heap.size) (sm' : m.length + tot m m.length ≤ 1048576) :
    Calls Try.prog 26 #[.int .i64 p, .slice am m.length cm, .int .i64 k] w (SpecM (scV p m k) (scC p m k) w) := by
  obtain ⟨j0, kj, kz0, kz1, kz2⟩ := info_parts info_slice
  have Hm := Lib.hid hm
  have Sm := Lib.hid sm'
  clear hm sm'
  by_cases h1 : isM p m = true
  · have I1 := Lib.hid h1
    have L1 := Lib.hid (isL_iff.1 h1)
    have hn := L1.out.hi
    have hpb := prm_bd L1.out.prime
    by_cases hk : 0 ≤ k ∧ k < p
    · have HV : Hid (scV p m k = sclM p m k ∧ scC p m k = 0) := by show _ ∧ _; unfold scV scC; simp [h1, hk]
      obtain ⟨k0, k1⟩ := hk
      have HR : Hid (∀ i, i < m.length → rw' (sclM p m k) i = sclR p (rw' m i) k) := fun i hi => scl_row (c := 0) L1.out hi
      obtain ⟨Z, hZ⟩ : ∃ Z, Z = sclM p m k := ⟨_, rfl⟩
      rw [← hZ] at HV HR
      have HZL : Hid (Z.length = m.length) := by show _ = _; rw [hZ]; exact mk_len _ _ _
      clear h1 hZ
      go_enter Try.func26, Try.ntmps26
      go_wp2_with (first | (go_at_call 60; (with_reducible refine (l02Is_any p _ m _ lom tpm w Hm.out (len_of Sm.out).1 (len_of Sm.out).2).mono ?_); rintro e w1 ⟨rfl, hq⟩; rw [I1.out]; have HQ := Lib.hid hq; have hz := quiet_z hq; clear hq) | (go_at_call 68; refine (l01In_yes _ _ _ _ (by omega) (by omega)).mono ?_; rintro e w' ⟨rfl, rfl⟩))
      go_loopw [8, 9] (fun v t wr => ∃ i : Nat, i ≤ m.length ∧ t = .int .i64 i ∧ OutM w.heap.size wr v (Z.take i) ∧ Below w.heap.size w wr) (fun _ t _ => m.length - (intOf t).toNat)
      case atStart => exact ⟨0, Nat.zero_le _, rfl, OutM.start w1 _ _ hz rfl, (HQ.out.below _).alloc hz _⟩
      case round =>
        obtain ⟨i, hi', rfl, ho, hbel⟩ := hrel
        have HO := Lib.hid ho
        have HBEL := Lib.hid hbel
        have hwz := hbel.size
        clear ho
        by_cases hlt : i < m.length
        · obtain ⟨b1, o1, r, c1, ha1, _, hb1, hr1, hrow⟩ := (Hm.out.below hbel tm).row hlt
          subst ha1
          have HROW := Lib.hid hrow
          obtain ⟨vals, hvo, hvr⟩ := HO.out
          rw [List.length_take, Nat.min_eq_left (by rw [HZL.out]; exact hi')] at hvo hvr
          have HV1 := Lib.hid hvo
          have HVR := Lib.hid hvr
          have HRI := Lib.hid (HR.out i hlt)
          have HNR : Hid (∀ j, j < (rw' m i).length → 0 ≤ (rw' m i).getD j 0 ∧ (rw' m i).getD j 0 < p) := (rect_of L1.out).num i hlt
          have hll := (len_of Sm.out).2 i hlt
          have hl16 : (rw' m i).length ≤ 16 := L1.out.c1 i hlt
          have HLI : Hid ((sclR p (rw' m i) k).length = (rw' m i).length) := mkR_len _ _
          clear hrow hbel hvo hvr
          go_wp2_with (first | (go_at_call 69; (with_reducible refine (l02Scale_any p k _ _ _ lom tpm _ L1.out.prime HROW.out (by omega) (by omega) HNR.out k0 (by omega)).mono ?_); rintro e w2 ⟨r2, k2, rfl, ho2, hb2⟩; rw [← HRI.out] at ho2; rw [← HRI.out]; have HO2 := Lib.hid ho2; have HB2 := Lib.hid hb2; have hz2 := hb2.size; have HV2 := Lib.hid (HV1.out.kept (below_grown hb2) (by cases hv : Value.ownBlock u8 <;> simp)); clear ho2 hb2) | (at_builtin; refine wpList_append_lies _ rfl _ _ 22 rfl w.heap.size 33 j0 (.slice none 0 0) 1 24 Try.underlying22 kj kz0 kz1 kz2 rfl (by decide) u8 i vals rfl (HV2.out.alloc _) ⟨w2.heap.size, 0, none⟩ 1 1 [.slice r2 (rw' Z i).length k2] rfl rfl (World.news_of_block (cs := #[.slice r2 (rw' Z i).length k2]) (t := 33) (fr := (0, 0)) (heap_alloc_new w2 _)) (by simp [Value.oneCell']) (by omega) (by unfold maxLen; omega) (by omega) (by simp; omega) (w2.heap.size + 1) (by simp) ?_; intro gg cap w1 hown1 hgrow hat hlt1))
          go_wp2
          go_roundw
          case rel => exact ⟨i + 1, by omega, by go_num, OutM.nextT (by rw [HZL.out]; exact hlt) HV1.out HVR.out HO2.out hwz HB2.out hown1 hgrow, ((HBEL.out.trans (HB2.out.mono hwz)).alloc (by omega) _).grown hgrow (by simp; omega) (fun _ hk => (HV1.out.lt _ hk).1)⟩
          case measure => simp [intOf]; omega
        · have hn : i = m.length := by omega
          subst hn
          have HF := HO.out
          rw [← HZL.out, List.take_length] at HF
          have HF := Lib.hid HF
          obtain ⟨r, c, hv, hmat⟩ := HF.out.mat
          subst hv
          clear hbel hmat
          go_wp2
          go_ret2
          rw [HV.out.1, HV.out.2]
          obtain ⟨r', c', hv, hmat⟩ := HF.out.mat
          exact ⟨r', c', by rw [hv]; rfl, hmat, HBEL.out⟩
    · have HV : Hid (scV p m k = [] ∧ scC p m k = 2) := by show _ ∧ _; unfold scV scC; simp [h1, hk]
      have HN : Hid (¬ (0 ≤ k ∧ k ≤ p - 1)) := by show ¬ _; omega
      clear h1 hk
      go_enter Try.func26, Try.ntmps26
      go_wp2_with (first | (go_at_call 60; (with_reducible refine (l02Is_any p _ m _ lom tpm w Hm.out (len_of Sm.out).1 (len_of Sm.out).2).mono ?_); rintro e w1 ⟨rfl, hq⟩; rw [I1.out]; have HQ := Lib.hid hq; clear hq) | (go_at_call 68; refine (l01In_no _ _ _ _ HN.out).mono ?_; rintro e w' ⟨rfl, rfl⟩))
      go_ret2
      rw [HV.out.1, HV.out.2]
      exact ⟨none, 0, rfl, .inl rfl, HQ.out.below _⟩
  · have HV : Hid (scV p m k = [] ∧ scC p m k = 1) := by show _ ∧ _; unfold scV scC; simp [h1]
    have I1 : Hid (isM p m = false) := by show isM p m = false; simpa using h1
    clear h1
    go_enter Try.func26, Try.ntmps26
    go_wp2_with (go_at_call 60; (with_reducible refine (l02Is_any p _ m _ lom tpm w Hm.out (len_of Sm.out).1 (len_of Sm.out).2).mono ?_); rintro e w1 ⟨rfl, hq⟩; rw [I1.out]; have HQ := Lib.hid hq; clear hq)
    go_ret2
    rw [HV.out.1, HV.out.2]
    exact ⟨none, 0, rfl, .inl rfl, HQ.out.below _⟩

end Go.Proofs.Ytckndpoklimnbaa
