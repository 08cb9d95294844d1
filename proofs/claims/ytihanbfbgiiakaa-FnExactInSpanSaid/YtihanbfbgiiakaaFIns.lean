/-
  InSpan: contracts of the program and of the model.
  Conditions: the arguments are nil or rows of known cells, of at most 1048576 numbers.
-/
import Derived.Test.YtihanbfbgiiakaaFSol
import Derived.Test.YtihanbfbgiiakaaSpB
import Derived.Test.YtihanbfbgiiakaaSizes
namespace Go.Proofs.Ytihanbfbgiiakaa
open Go.RowKit Go.ChangeShapes Go.WideShapes
set_option linter.unusedVariables false

theorem lst_tr {p : Int} {m : List (List Int)} (h : Lst 1 p m) : Lst 1 p (trM m) := by
  have e : trM m = mk (rw' m 0).length m.length fun k i => at' m i k := rfl
  have hl : (trM m).length = (rw' m 0).length := by rw [e, mk_len]
  have hr : ∀ i, i < (trM m).length → rw' (trM m) i = mkR m.length fun k => at' m k i := fun i hi => by rw [e, mk_row _ (by omega)]
  have hrl : ∀ i, i < (trM m).length → (rw' (trM m) i).length = m.length := fun i hi => by rw [hr i hi, mkR_len]
  have c0 := h.c0 0 h.lo
  have c1 := h.c1 0 h.lo
  refine ⟨h.prime, by omega, by omega, fun i hi => by rw [hrl i hi, hrl 0 (by omega)], fun i hi => by rw [hrl i hi]; exact h.lo, fun i hi => by rw [hrl i hi]; exact h.hi, fun i hi => ?_⟩
  rw [hr i hi, List.all_eq_true]
  intro x hx
  unfold mkR at hx
  obtain ⟨k, hk, rfl⟩ := List.mem_map.1 hx
  exact inr_iff.2 (h.at (List.mem_range.1 hk) (by omega))
theorem tr_len (m : List (List Int)) : (trM m).length = (rw' m 0).length := by
  have e : trM m = mk (rw' m 0).length m.length fun k i => at' m i k := rfl
  rw [e, mk_len]
def insOk (p : Int) (m : List (List Int)) (v : List Int) : Prop := 0 < m.length ∧ v.length = (rw' m 0).length ∧ v.all (inr p) = true
instance (p : Int) (m : List (List Int)) (v : List Int) : Decidable (insOk p m v) := by unfold insOk; infer_instance
def insC (p : Int) (m : List (List Int)) (v : List Int) : Int := if isL 0 p m = true then (if insOk p m v then 0 else 2) else 1
noncomputable def insV (p : Int) (m : List (List Int)) (v : List Int) : Bool := if isL 0 p m = true ∧ insOk p m v then solOk p (trM m) v else false
theorem ins_not {p : Int} {m : List (List Int)} {v : List Int} (h : isL 0 p m = false) : insC p m v = 1 ∧ insV p m v = false := by
  unfold insC insV
  rw [if_neg (by simp [h]), if_neg (fun k => by rw [h] at k; cases k.1)]; exact ⟨rfl, rfl⟩
theorem ins_rng {p : Int} {m : List (List Int)} {v : List Int} (h : isL 0 p m = true) (k : ¬ insOk p m v) : insC p m v = 2 ∧ insV p m v = false := by
  unfold insC insV
  rw [if_pos h, if_neg k, if_neg (fun q => k q.2)]; exact ⟨rfl, rfl⟩
theorem ins_in {p : Int} {m : List (List Int)} {v : List Int} (h : isL 0 p m = true) (k : insOk p m v) : insC p m v = 0 ∧ insV p m v = solOk p (trM m) v := by
  unfold insC insV
  rw [if_pos h, if_pos k, if_pos ⟨h, k⟩]; exact ⟨rfl, rfl⟩

set_option maxRecDepth 100000 in
set_option maxHeartbeats 3200000 in
theorem spec_InSpan (p : Int) (am : Option Addr) (m : List (List Int)) (cm lom tpm : Nat) (av : Option Addr) (v : List Int) (cv lov tpv : Nat) (w : World) (hm : MatIn lom tpm w am m) (tm : tpm ≤ w.heap.size) (sm : m.length + tot m m.length ≤ 1048576) (hv : RowIn lov tpv w av v) (tv : tpv ≤ w.heap.size) (sv : v.length ≤ 1048576) :
    Calls Try.prog 30 #[.int .i64 p, .slice am m.length cm, .slice av v.length cv] w (RetB (insV p m v) (insC p m v) w) := by
  have Hm := Lib.hid hm
  have Sm := Lib.hid sm
  have Hv := Lib.hid hv
  clear hm sm hv
  by_cases h : isL 0 p m = true
  · have HI := Lib.hid h
    have HP := Lib.hid (isL_iff.1 h).prime
    by_cases h0 : 0 < m.length
    · have e0 : ((m.length : Int) == 0) = false := beq_eq_false_iff_ne.2 (by omega)
      have HL : Hid (Lst 1 p m) := { isL_iff.1 h with lo := h0 }
      obtain ⟨b, o, r0, c0, ha, _, hb, hr0, _⟩ := Hm.out.row (i := 0) h0
      subst ha
      rw [Nat.add_zero] at hr0
      have hb' : b < w.heap.size := Nat.lt_of_lt_of_le hb tm
      by_cases h2 : v.length = (rw' m 0).length
      · have e1 : ((v.length : Int) == ((rw' m 0).length : Int)) = true := by simp [h2]
        have e2 : ((v.length : Int) != ((rw' m 0).length : Int)) = false := by simp [h2]
        have H2 := Lib.hid h2
        by_cases h3 : v.all (inr p) = true
        · have H3 := Lib.hid h3
          have HV := Lib.hid (ins_in h ⟨h0, h2, h3⟩)
          have HTL := Lib.hid (tr_len m)
          have hn16 := HL.out.hi
          have hc16 := HL.out.c1 0 h0
          clear h h2 h3
          go_enter Try.func30, Try.ntmps30
          go_wp2_with (first | (go_at_call 66; (with_reducible refine (l02List_any _ _ m _ lom tpm _ Hm.out Sm.out).mono ?_); rintro e w1 ⟨rfl, hq⟩; rw [HI.out]; have HQ := Lib.hid hq; have hr0' := (hq.cell _).trans hr0; clear hq) | (go_at_call 61; (with_reducible refine (numsRow p av v cv lov tpv _ HP.out (Hv.out.same (HQ.out.same _ _)) (by omega)).mono ?_); rintro e w' ⟨rfl, rfl⟩; rw [H3.out]) | (go_at_call 67; (with_reducible refine (l02Turn_any _ m _ lom tpm w1 (Hm.out.same (HQ.out.same _ _)) (Nat.le_trans tm (HQ.out.below 0).size) h0 HL.out.len (by omega) (by omega)).mono ?_); rintro e w2 ⟨r2, k2, rfl, ho2, hb2⟩; have HO2 := Lib.hid ho2; have HB2 := Lib.hid ((HQ.out.below w.heap.size).trans (hb2.mono (HQ.out.below 0).size)); clear ho2 hb2) | (go_at_call 62; (with_reducible refine (l02Solve_any p r2 (trM m) k2 w1.heap.size w2.heap.size av v cv lov tpv w2 HO2.out (Nat.le_refl _) (Hv.out.below HB2.out tv) (Nat.le_trans tv HB2.out.size) (lst_tr HL.out) (H2.out.trans HTL.out.symm) H3.out).mono ?_); rintro e w3 ⟨r3, k3, rfl, ho3, hb3⟩; have HB3 := Lib.hid (HB2.out.trans (hb3.mono HB2.out.size)); clear ho3 hb3))
          go_ret2
          exact ⟨by rw [HV.out.1, HV.out.2]; rfl, HB3.out⟩
        · have H3 : Hid (v.all (inr p) = false) := by show _ = _; simpa using h3
          have HV := Lib.hid (ins_rng h (fun k => h3 k.2.2))
          clear h h2 h3
          go_enter Try.func30, Try.ntmps30
          go_wp2_with (first | (go_at_call 66; (with_reducible refine (l02List_any _ _ m _ lom tpm _ Hm.out Sm.out).mono ?_); rintro e w1 ⟨rfl, hq⟩; rw [HI.out]; have HQ := Lib.hid hq; have hr0' := (hq.cell _).trans hr0; clear hq) | (go_at_call 61; (with_reducible refine (numsRow p av v cv lov tpv _ HP.out (Hv.out.same (HQ.out.same _ _)) (by omega)).mono ?_); rintro e w' ⟨rfl, rfl⟩; rw [H3.out]))
          go_ret2
          exact ⟨by rw [HV.out.1, HV.out.2]; rfl, HQ.out.below _⟩
      · obtain ⟨e1, e2⟩ := neq_spell h2
        have HV := Lib.hid (ins_rng h (fun k => h2 k.2.1))
        clear h h2
        go_enter Try.func30, Try.ntmps30
        go_wp2_with (first | (go_at_call 66; (with_reducible refine (l02List_any _ _ m _ lom tpm _ Hm.out Sm.out).mono ?_); rintro e w1 ⟨rfl, hq⟩; rw [HI.out]; have HQ := Lib.hid hq; have hr0' := (hq.cell _).trans hr0; clear hq))
        go_ret2
        exact ⟨by rw [HV.out.1, HV.out.2]; rfl, HQ.out.below _⟩
    · have e0 : ((m.length : Int) == 0) = true := beq_iff_eq.2 (by omega)
      have HV := Lib.hid (ins_rng (v := v) h (fun k => h0 k.1))
      clear h h0
      go_enter Try.func30, Try.ntmps30
      go_wp2_with (first | (go_at_call 66; (with_reducible refine (l02List_any _ _ m _ lom tpm _ Hm.out Sm.out).mono ?_); rintro e w1 ⟨rfl, hq⟩; rw [HI.out]; have HQ := Lib.hid hq; clear hq))
      go_ret2
      exact ⟨by rw [HV.out.1, HV.out.2]; rfl, HQ.out.below _⟩
  · have HI : Hid (isL 0 p m = false) := by show _ = _; simpa using h
    have HV := Lib.hid (ins_not (v := v) HI.out)
    clear h
    go_enter Try.func30, Try.ntmps30
    go_wp2_with (first | (go_at_call 66; (with_reducible refine (l02List_any _ _ m _ lom tpm _ Hm.out Sm.out).mono ?_); rintro e w1 ⟨rfl, hq⟩; rw [HI.out]; have HQ := Lib.hid hq; clear hq))
    go_ret2
    exact ⟨by rw [HV.out.1, HV.out.2]; rfl, HQ.out.below _⟩

set_option maxRecDepth 100000 in
set_option maxHeartbeats 3200000 in
theorem impl_InSpan (p : Int) (am : Option Addr) (m : List (List Int)) (cm lom tpm : Nat) (av : Option Addr) (v : List Int) (cv lov tpv : Nat) (w : World) (hm : MatIn lom tpm w am m) (tm : tpm ≤ w.heap.size) (sm : m.length + tot m m.length ≤ 1048576) (hv : RowIn lov tpv w av v) (tv : tpv ≤ w.heap.size) (sv : v.length ≤ 1048576) :
    Calls Try.prog 31 #[.int .i64 p, .slice am m.length cm, .slice av v.length cv] w (RetB (insV p m v) (insC p m v) w) := by
  have Hm := Lib.hid hm
  have Sm := Lib.hid sm
  have Hv := Lib.hid hv
  have HR0 : Hid (∀ i, i < m.length → (rw' m i).length ≤ 1048576) := fun i hi => by have := tot_row hi; omega
  clear hm sm hv
  by_cases h : isL 0 p m = true
  · have HI := Lib.hid h
    have HP := Lib.hid (isL_iff.1 h).prime
    by_cases h0 : 0 < m.length
    · have e0 : ((m.length : Int) == 0) = false := beq_eq_false_iff_ne.2 (by omega)
      have HL : Hid (Lst 1 p m) := { isL_iff.1 h with lo := h0 }
      obtain ⟨b, o, r0, c0, ha, _, hb, hr0, _⟩ := Hm.out.row (i := 0) h0
      subst ha
      rw [Nat.add_zero] at hr0
      have hb' : b < w.heap.size := Nat.lt_of_lt_of_le hb tm
      have hcl := HR0.out 0 h0
      by_cases h2 : v.length = (rw' m 0).length ∧ v.all (inr p) = true
      · have HVV : Hid ((decide (v.length = (rw' m 0).length) && v.all (inr p)) = true) := by show _ = _; rw [h2.2]; simp [h2.1]
        have HV := Lib.hid (ins_in h ⟨h0, h2⟩)
        have HTL := Lib.hid (tr_len m)
        have hn16 := HL.out.hi
        have hc16 := HL.out.c1 0 h0
        have HTM := Lib.hid (isL_iff.2 (lst_tr HL.out) : isM p (trM m) = true)
        have HSI := Lib.hid (sol_in HTM.out ⟨h2.1.trans HTL.out.symm, h2.2⟩)
        have HSZ : Hid ((trM m).length + tot (trM m) (trM m).length ≤ 1048576) := by
          show _ ≤ _
          have e : trM m = mk (rw' m 0).length m.length fun k i => at' m i k := rfl
          rw [e]; exact mk_size (by omega) (by omega)
        clear h h2
        cases hok : solOk p (trM m) v with
        | true =>
          have HK := Lib.hid hok
          have HSC : Hid (solC p (trM m) v = 0) := by show _ = _; rw [HSI.out.1, if_pos hok]
          clear hok
          go_enter Try.func31, Try.ntmps31
          go_wp2_with (first | (go_at_call 68; (with_reducible refine (isRows_none _ _ m _ lom tpm _ Hm.out Sm.out).mono ?_); rintro e w1 ⟨rfl, rfl⟩; rw [HI.out]) | (go_at_call 63; (with_reducible refine (isVector_any p av v cv (rw' m 0).length lov tpv _ HP.out Hv.out sv hcl).mono ?_); rintro e w' ⟨rfl, rfl⟩; rw [HVV.out]) | (go_at_call 65; (with_reducible refine (transposed_any _ m _ lom tpm w Hm.out tm h0 HL.out.len (by omega) (by omega)).mono ?_); rintro e w2 ⟨r2, k2, rfl, ho2, hb2⟩; have HO2 := Lib.hid ho2.mat; have HB2 := Lib.hid hb2; clear ho2 hb2) | (go_at_call 26; (with_reducible refine (impl_SolveMatrix p r2 (trM m) k2 _ _ av v cv lov tpv w2 HO2.out (Nat.le_refl _) HSZ.out (Hv.out.below HB2.out tv) (Nat.le_trans tv HB2.out.size) sv).mono ?_); rintro e w3 ⟨r3, k3, rfl, ho3, hb3⟩; rw [HSC.out]; have HB3 := Lib.hid (HB2.out.trans (hb3.mono HB2.out.size)); clear ho3 hb3))
          go_ret2
          exact ⟨by rw [HV.out.1, HV.out.2, HK.out]; rfl, HB3.out⟩
        | false =>
          have HK := Lib.hid hok
          have HSC : Hid (solC p (trM m) v = 4) := by show _ = _; rw [HSI.out.1, if_neg (by simp [hok])]
          clear hok
          go_enter Try.func31, Try.ntmps31
          go_wp2_with (first | (go_at_call 68; (with_reducible refine (isRows_none _ _ m _ lom tpm _ Hm.out Sm.out).mono ?_); rintro e w1 ⟨rfl, rfl⟩; rw [HI.out]) | (go_at_call 63; (with_reducible refine (isVector_any p av v cv (rw' m 0).length lov tpv _ HP.out Hv.out sv hcl).mono ?_); rintro e w' ⟨rfl, rfl⟩; rw [HVV.out]) | (go_at_call 65; (with_reducible refine (transposed_any _ m _ lom tpm w Hm.out tm h0 HL.out.len (by omega) (by omega)).mono ?_); rintro e w2 ⟨r2, k2, rfl, ho2, hb2⟩; have HO2 := Lib.hid ho2.mat; have HB2 := Lib.hid hb2; clear ho2 hb2) | (go_at_call 26; (with_reducible refine (impl_SolveMatrix p r2 (trM m) k2 _ _ av v cv lov tpv w2 HO2.out (Nat.le_refl _) HSZ.out (Hv.out.below HB2.out tv) (Nat.le_trans tv HB2.out.size) sv).mono ?_); rintro e w3 ⟨r3, k3, rfl, ho3, hb3⟩; rw [HSC.out]; have HB3 := Lib.hid (HB2.out.trans (hb3.mono HB2.out.size)); clear ho3 hb3))
          go_ret2
          exact ⟨by rw [HV.out.1, HV.out.2, HK.out]; rfl, HB3.out⟩
      · have HVV : Hid ((decide (v.length = (rw' m 0).length) && v.all (inr p)) = false) := by
          show _ = _
          by_cases k1 : v.length = (rw' m 0).length
          · have k2 : ¬ v.all (inr p) = true := fun k => h2 ⟨k1, k⟩
            simp [k2]
          · simp [k1]
        have HV := Lib.hid (ins_rng h (fun k => h2 k.2))
        clear h h2
        go_enter Try.func31, Try.ntmps31
        go_wp2_with (first | (go_at_call 68; (with_reducible refine (isRows_none _ _ m _ lom tpm _ Hm.out Sm.out).mono ?_); rintro e w1 ⟨rfl, rfl⟩; rw [HI.out]) | (go_at_call 63; (with_reducible refine (isVector_any p av v cv (rw' m 0).length lov tpv _ HP.out Hv.out sv hcl).mono ?_); rintro e w' ⟨rfl, rfl⟩; rw [HVV.out]))
        go_ret2
        exact ⟨by rw [HV.out.1, HV.out.2]; rfl, Below.refl _ _⟩
    · have e0 : ((m.length : Int) == 0) = true := beq_iff_eq.2 (by omega)
      have HV := Lib.hid (ins_rng (v := v) h (fun k => h0 k.1))
      clear h h0
      go_enter Try.func31, Try.ntmps31
      go_wp2_with (first | (go_at_call 68; (with_reducible refine (isRows_none _ _ m _ lom tpm _ Hm.out Sm.out).mono ?_); rintro e w1 ⟨rfl, rfl⟩; rw [HI.out]))
      go_ret2
      exact ⟨by rw [HV.out.1, HV.out.2]; rfl, Below.refl _ _⟩
  · have HI : Hid (isL 0 p m = false) := by show _ = _; simpa using h
    have HV := Lib.hid (ins_not (v := v) HI.out)
    clear h
    go_enter Try.func31, Try.ntmps31
    go_wp2_with (first | (go_at_call 68; (with_reducible refine (isRows_none _ _ m _ lom tpm _ Hm.out Sm.out).mono ?_); rintro e w1 ⟨rfl, rfl⟩; rw [HI.out]))
    go_ret2
    exact ⟨by rw [HV.out.1, HV.out.2]; rfl, Below.refl _ _⟩

end Go.Proofs.Ytihanbfbgiiakaa
