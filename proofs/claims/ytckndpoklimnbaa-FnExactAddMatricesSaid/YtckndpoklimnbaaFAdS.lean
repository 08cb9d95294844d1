/-
  AddMatrices, in the program and in the model.
  Conditions: the arguments are nil or rows of known cells, of at most 1048576 numbers.
-/
import Derived.Test.YtckndpoklimnbaaFSc
import Derived.Deep.AppendLies
import Derived.Deep.RegionHeld3
import Derived.StillTailTactics
namespace Go.Proofs.Ytckndpoklimnbaa
open Go.RowKit
set_option linter.unusedVariables false

theorem eq_spell {a b : Nat} (h : a = b) : ((a : Int) == (b : Int)) = true ∧ ((a : Int) != (b : Int)) = false := by subst h; simp
def adOk (p : Int) (m n : List (List Int)) : Prop := isM p m = true ∧ isM p n = true
def adEq (m n : List (List Int)) : Prop := m.length = n.length ∧ (rw' m 0).length = (rw' n 0).length
instance (m n : List (List Int)) : Decidable (adEq m n) := by unfold adEq; infer_instance
def adV (p : Int) (m n : List (List Int)) : List (List Int) := if isM p m = true ∧ isM p n = true ∧ adEq m n then addM p m n else []
def adC (p : Int) (m n : List (List Int)) : Int := if isM p m = true ∧ isM p n = true then (if adEq m n then 0 else 2) else 1
theorem adV_size (p : Int) (m n : List (List Int)) : (adV p m n).length + tot (adV p m n) (adV p m n).length ≤ 1048576 := by
  unfold adV
  split
  · rename_i h
    have h1 := isL_iff.1 h.1
    have h2 := h1.c16
    have h3 := h1.hi
    have e : addM p m n = mk m.length (rw' m 0).length fun i j => (at' m i j + at' n i j) % p := rfl
    rw [e]; exact mk_size (by omega) (by omega)
  · simp [tot]
theorem add_row {p : Int} {m n : List (List Int)} {i : Nat} (h : Lst 1 p m) (hi : i < m.length) : rw' (addM p m n) i = plusR p (rw' m i) (rw' n i) 1 := by
  unfold addM plusR
  rw [mk_row _ hi, h.len i hi]
  apply mkR_congr
  intro j hj
  rw [Int.one_mul]; rfl
theorem plusR_at {p k : Int} {z y : List Int} {j : Nat} (hj : j < z.length) : (plusR p z y k).getD j 0 = (z.getD j 0 + k * y.getD j 0) % p := mkR_at _ hj

set_option maxRecDepth 100000 in
set_option maxHeartbeats 3200000 in
theorem spec_AddMatrices (p : Int) (am : Option Addr) (m : List (List Int)) (cm lom tpm : Nat) (an : Option Addr) (n : List (List Int)) (cn lon tpn : Nat) (w : World) (hm : MatIn lom tpm w am m) (tm : tpm ≤ w.heap.size) (sm' : m.length + tot m m.length ≤ 1048576) (hn : MatIn lon tpn w an n) (tn : tpn ≤ w.heap.size) (sn' : n.length + tot n n.length ≤ 1048576) :
    Calls Try.prog 24 #[.int .i64 p, .slice am m.length cm, .slice an n.length cn] w (SpecM (adV p m n) (adC p m n) w) := by
  obtain ⟨j0, kj, kz0, kz1, kz2⟩ := info_parts info_slice
  have Hm := Lib.hid hm
  have Sm := Lib.hid sm'
  have Hn := Lib.hid hn
  have Sn := Lib.hid sn'
  clear hm sm' hn sn'
  by_cases h1 : isM p m = true
  · have I1 := Lib.hid h1
    have L1 := Lib.hid (isL_iff.1 h1)
    by_cases h2 : isM p n = true
    · have I2 := Lib.hid h2
      have L2 := Lib.hid (isL_iff.1 h2)
      have hnn := L1.out.hi
      have hm0 : 0 < m.length := L1.out.lo
      have hn0 : 0 < n.length := L2.out.lo
      have hnn2 := L2.out.hi
      have hpb := prm_bd L1.out.prime
      obtain ⟨b0, o0, r0, k0, ha0, _, hb0, hr0, _⟩ := Hm.out.row (i := 0) hm0
      subst ha0
      rw [Nat.add_zero] at hr0
      obtain ⟨b9, o9, r9, k9, ha9, _, hb9, hr9, _⟩ := Hn.out.row (i := 0) hn0
      subst ha9
      rw [Nat.add_zero] at hr9
      have hl16 := L1.out.c16
      have hl17 := L2.out.c16
      by_cases hlen : m.length = n.length
      · have HLen := Lib.hid hlen
        by_cases hcol : (rw' m 0).length = (rw' n 0).length
        · have HCol := Lib.hid hcol
          have HV : Hid (adV p m n = addM p m n ∧ adC p m n = 0) := by show _ ∧ _; unfold adV adC adEq; simp [h1, h2, hlen, hcol]
          have HR : Hid (∀ i, i < m.length → rw' (addM p m n) i = plusR p (rw' m i) (rw' n i) 1) := fun i hi => add_row L1.out hi
          obtain ⟨Z, hZ⟩ : ∃ Z, Z = addM p m n := ⟨_, rfl⟩
          rw [← hZ] at HV HR
          have HZL : Hid (Z.length = m.length) := by show _ = _; rw [hZ]; exact mk_len _ _ _
          obtain ⟨e1, e2⟩ := eq_spell hlen
          obtain ⟨e3, e4⟩ := eq_spell hcol
          have hlle : m.length ≤ n.length := by omega
          clear h1 h2 hZ hlen hcol
          go_enter Try.func24, Try.ntmps24
          go_wp2_with (first | (go_at_call 60; (with_reducible refine (l02Is_any p _ m _ lom tpm w Hm.out (len_of Sm.out).1 (len_of Sm.out).2).mono ?_); rintro e w1 ⟨rfl, hq⟩; rw [I1.out]; have HQ := Lib.hid hq; have hz := quiet_z hq; clear hq) | (go_at_call 60; (with_reducible refine (l02Is_any p _ n _ lon tpn w1 (Hn.out.same (HQ.out.same _ _)) (len_of Sn.out).1 (len_of Sn.out).2).mono ?_); rintro e w2 ⟨rfl, hq2⟩; rw [I2.out]; have HQ2 := Lib.hid (HQ.out.trans hq2); have hr0' := ((HQ.out.trans hq2).cell _).trans hr0; have hr9' := ((HQ.out.trans hq2).cell _).trans hr9; have hz2 := quiet_z (HQ.out.trans hq2); clear hq2 hr0 hr9))
          go_quiet (fail)
          go_wp2
          clear hr0' hr9' e1 e2 e3 e4
          go_loopw [8, 9] (fun v t wr => ∃ i : Nat, i ≤ m.length ∧ t = .int .i64 i ∧ OutM w.heap.size wr v (Z.take i) ∧ Below w.heap.size w wr) (fun _ t _ => m.length - (intOf t).toNat)
          case atStart => exact ⟨0, Nat.zero_le _, rfl, OutM.start (w2.drewN _) _ _ hz2 rfl, ((HQ2.out.next _).below _).alloc hz2 _⟩
          case round =>
            obtain ⟨i, hi', rfl, ho, hbel⟩ := hrel
            have HO := Lib.hid ho
            have HBEL := Lib.hid hbel
            have hwz := hbel.size
            clear ho
            by_cases hlt : i < m.length
            · have hltn : i < n.length := by omega
              obtain ⟨b1, o1, r, c1, ha1, _, hb1, hr1, hrow⟩ := (Hm.out.below hbel tm).row hlt
              cases ha1
              obtain ⟨b2, o2, r2, c2, ha2, _, hb2, hr2, hrow2⟩ := (Hn.out.below hbel tn).row hltn
              cases ha2
              have HROWd : Hid (RowIn lom tpm wr.drew r (rw' m i)) := hrow.same (fun _ _ _ => rfl)
              have HROW2d : Hid (RowIn lon tpn wr.drew r2 (rw' n i)) := hrow2.same (fun _ _ _ => rfl)
              have HT1 : Hid (tpm ≤ wr.drew.heap.size) := by show tpm ≤ wr.heap.size; omega
              have HT2 : Hid (tpn ≤ wr.drew.heap.size) := by show tpn ≤ wr.heap.size; omega
              obtain ⟨vals, hvo, hvr⟩ := HO.out
              rw [List.length_take, Nat.min_eq_left (by rw [HZL.out]; exact hi')] at hvo hvr
              have HV1 := Lib.hid hvo
              have HVR := Lib.hid hvr
              have HRI := Lib.hid (HR.out i hlt)
              have HN1 : Hid (∀ j, j < (rw' m i).length → 0 ≤ (rw' m i).getD j 0 ∧ (rw' m i).getD j 0 < p) := (rect_of L1.out).num i hlt
              have HN2 : Hid (∀ j, j < (rw' n i).length → 0 ≤ (rw' n i).getD j 0 ∧ (rw' n i).getD j 0 < p) := (rect_of L2.out).num i hltn
              have hl1 : (rw' m i).length ≤ 16 := L1.out.c1 i hlt
              have hl2 : (rw' m i).length ≤ (rw' n i).length := by rw [L1.out.len i hlt, L2.out.len i hltn, HCol.out]; exact Nat.le_refl _
              have HKEEP : Hid (∀ W, Below wr.heap.size wr W → W.ownsRow w.heap.size 33 1 u8 i vals) := fun W h => HV1.out.kept (below_grown h) (by cases hv : Value.ownBlock u8 <;> simp)
              have hb0w : b0 < wr.heap.size := by omega
              have hb9w : b9 < wr.heap.size := by omega
              have n1 : u8.ownBlock ≠ some b0 := fun e => by have := (HV1.out.lt _ e).1; omega
              have n2 : u8.ownBlock ≠ some b9 := fun e => by have := (HV1.out.lt _ e).1; omega
              have hi1 : (i : Int) < (m.length : Int) := by omega
              have hi2 : (i : Int) < (n.length : Int) := by omega
              clear hrow hrow2 hbel hvo hvr
              go_wp2
              go_region_held3 (fun w' => w'.cell? ⟨b0, o0 + i, none⟩ = some (.slice r (rw' m i).length c1) ∧ w'.cell? ⟨b9, o9 + i, none⟩ = some (.slice r2 (rw' n i).length c2)) (first | go_keep | (go_split_ands; refine ⟨?_, ?_⟩; (rw [hgrow.cell_far _ (by simp; omega) (Ne.symm n1)]; assumption); (rw [hgrow.cell_far _ (by simp; omega) (Ne.symm n2)]; assumption))) (first | (go_at_call 65; (with_reducible refine (l02Plus_any p 1 _ _ _ _ _ _ lom tpm lon tpn _ L1.out.prime HROWd.out HROW2d.out HT1.out HT2.out hl2 (by omega) HN1.out HN2.out (by omega) (by omega)).mono ?_); rintro e w2' ⟨r3, k3, rfl, ho2, hb2'⟩; rw [← HRI.out] at ho2; rw [← HRI.out]; have HO2 := Lib.hid ho2; have HB2 := Lib.hid hb2'; have hz3 : wr.heap.size ≤ w2'.heap.size := hb2'.size; have q1 := (hb2'.cell (p := ⟨b0, o0 + i, none⟩) (by exact hb0w)).trans hr1; have q2 := (hb2'.cell (p := ⟨b9, o9 + i, none⟩) (by exact hb9w)).trans hr2; clear ho2 hb2') | (refine step_append_lies _ (by rfl) _ _ _ (by rfl) w.heap.size 33 j0 _ 1 24 Try.underlying22 kj kz0 kz1 kz2 rfl (by omega) u8 i vals (by rfl) (((HKEEP.out _ (((Below.refl wr.heap.size wr).drew).trans HB2.out)).alloc _)) ⟨w2'.heap.size, 0, none⟩ 1 1 [.slice r3 (rw' Z i).length k3] (by rfl) (by rfl) (World.news_of_block (cs := #[.slice r3 (rw' Z i).length k3]) (t := 33) (fr := (0, 0)) (heap_alloc_new w2' _)) (by simp [Value.oneCell']) (by omega) (by unfold maxLen; omega) (by omega) (by simp; omega) (w2'.heap.size + 1) (by simp) ?_; intro gg cap w1' hown1 hgrow hat hlt1))
              go_wp2
              go_roundw
              case rel => exact ⟨i + 1, by omega, by go_num, OutM.nextT (w2 := w2') (by rw [HZL.out]; exact hlt) HV1.out HVR.out HO2.out hwz (((Below.refl wr.heap.size wr).drew).trans HB2.out) hown1 hgrow, ((HBEL.out.trans ((((Below.refl wr.heap.size wr).drew).trans HB2.out).mono hwz)).alloc (by omega) _).grown hgrow (by simp; omega) (fun _ hk => (HV1.out.lt _ hk).1)⟩
              case measure => simp [intOf]; omega
            · have hn : i = m.length := by omega
              subst hn
              have HF := HO.out
              rw [← HZL.out, List.take_length] at HF
              have HF := Lib.hid HF
              obtain ⟨r, c, hv, hmat⟩ := HF.out.mat
              subst hv
              clear hbel hmat
              go_wp2
              go_ret2
              rw [HV.out.1, HV.out.2]
              obtain ⟨r', c', hv, hmat⟩ := HF.out.mat
              exact ⟨r', c', by rw [hv]; rfl, hmat, HBEL.out⟩
        · have HV : Hid (adV p m n = [] ∧ adC p m n = 2) := by show _ ∧ _; unfold adV adC adEq; simp [h1, h2, hlen, hcol]
          obtain ⟨e1, e2⟩ := eq_spell hlen
          obtain ⟨e3, e4⟩ := neq_spell hcol
          clear h1 h2 hlen hcol
          go_enter Try.func24, Try.ntmps24
          go_wp2_with (first | (go_at_call 60; (with_reducible refine (l02Is_any p _ m _ lom tpm w Hm.out (len_of Sm.out).1 (len_of Sm.out).2).mono ?_); rintro e w1 ⟨rfl, hq⟩; rw [I1.out]; have HQ := Lib.hid hq; have hz := quiet_z hq; clear hq) | (go_at_call 60; (with_reducible refine (l02Is_any p _ n _ lon tpn w1 (Hn.out.same (HQ.out.same _ _)) (len_of Sn.out).1 (len_of Sn.out).2).mono ?_); rintro e w2 ⟨rfl, hq2⟩; rw [I2.out]; have HQ2 := Lib.hid (HQ.out.trans hq2); have hr0' := ((HQ.out.trans hq2).cell _).trans hr0; have hr9' := ((HQ.out.trans hq2).cell _).trans hr9; clear hq2 hr0 hr9))
          go_quiet (fail)
          go_wp2
          go_ret2
          rw [HV.out.1, HV.out.2]
          exact ⟨none, 0, rfl, .inl rfl, (HQ2.out.next _).below _⟩
      · have HV : Hid (adV p m n = [] ∧ adC p m n = 2) := by show _ ∧ _; unfold adV adC adEq; simp [h1, h2, hlen]
        obtain ⟨e1, e2⟩ := neq_spell hlen
        clear h1 h2 hlen
        go_enter Try.func24, Try.ntmps24
        go_wp2_with (first | (go_at_call 60; (with_reducible refine (l02Is_any p _ m _ lom tpm w Hm.out (len_of Sm.out).1 (len_of Sm.out).2).mono ?_); rintro e w1 ⟨rfl, hq⟩; rw [I1.out]; have HQ := Lib.hid hq; have hz := quiet_z hq; clear hq) | (go_at_call 60; (with_reducible refine (l02Is_any p _ n _ lon tpn w1 (Hn.out.same (HQ.out.same _ _)) (len_of Sn.out).1 (len_of Sn.out).2).mono ?_); rintro e w2 ⟨rfl, hq2⟩; rw [I2.out]; have HQ2 := Lib.hid (HQ.out.trans hq2); have hr0' := ((HQ.out.trans hq2).cell _).trans hr0; have hr9' := ((HQ.out.trans hq2).cell _).trans hr9; clear hq2 hr0 hr9))
        go_quiet (fail)
        go_wp2
        go_ret2
        rw [HV.out.1, HV.out.2]
        exact ⟨none, 0, rfl, .inl rfl, (HQ2.out.next _).below _⟩
    · have HV : Hid (adV p m n = [] ∧ adC p m n = 1) := by show _ ∧ _; unfold adV adC; simp [h2]
      have I2 : Hid (isM p n = false) := by show isM p n = false; simpa using h2
      clear h1 h2
      go_enter Try.func24, Try.ntmps24
      go_wp2_with (first | (go_at_call 60; (with_reducible refine (l02Is_any p _ m _ lom tpm w Hm.out (len_of Sm.out).1 (len_of Sm.out).2).mono ?_); rintro e w1 ⟨rfl, hq⟩; rw [I1.out]; have HQ := Lib.hid hq; have hz := quiet_z hq; clear hq) | (go_at_call 60; (with_reducible refine (l02Is_any p _ n _ lon tpn w1 (Hn.out.same (HQ.out.same _ _)) (len_of Sn.out).1 (len_of Sn.out).2).mono ?_); rintro e w2 ⟨rfl, hq2⟩; rw [I2.out]; have HQ2 := Lib.hid (HQ.out.trans hq2); clear hq2))
      go_ret2
      rw [HV.out.1, HV.out.2]
      exact ⟨none, 0, rfl, .inl rfl, HQ2.out.below _⟩
  · have HV : Hid (adV p m n = [] ∧ adC p m n = 1) := by show _ ∧ _; unfold adV adC; simp [h1]
    have I1 : Hid (isM p m = false) := by show isM p m = false; simpa using h1
    clear h1
    go_enter Try.func24, Try.ntmps24
    go_wp2_with (go_at_call 60; (with_reducible refine (l02Is_any p _ m _ lom tpm w Hm.out (len_of Sm.out).1 (len_of Sm.out).2).mono ?_); rintro e w1 ⟨rfl, hq⟩; rw [I1.out]; have HQ := Lib.hid hq; have hz := quiet_z hq; clear hq)
    go_ret2
    rw [HV.out.1, HV.out.2]
    exact ⟨none, 0, rfl, .inl rfl, HQ.out.below _⟩

end Go.Proofs.Ytckndpoklimnbaa
