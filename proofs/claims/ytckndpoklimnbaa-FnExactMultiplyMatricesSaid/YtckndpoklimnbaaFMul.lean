/-
  MultiplyMatrices, in the program and in the model.
  Conditions: the arguments are nil or rows of known cells, of at most 1048576 numbers.
-/
import Derived.Test.YtckndpoklimnbaaFTr
namespace Go.Proofs.Ytckndpoklimnbaa
open Go.RowKit
set_option linter.unusedVariables false

def mulOk (p : Int) (m n : List (List Int)) : Prop := isM p m = true ∧ isM p n = true
def mulV (p : Int) (m n : List (List Int)) : List (List Int) := if isM p m = true ∧ isM p n = true ∧ (rw' m 0).length = n.length then mulM p m n else []
def mulC (p : Int) (m n : List (List Int)) : Int := if isM p m = true ∧ isM p n = true then (if (rw' m 0).length = n.length then 0 else 2) else 1
theorem mulV_size (p : Int) (m n : List (List Int)) : (mulV p m n).length + tot (mulV p m n) (mulV p m n).length ≤ 1048576 := by
  unfold mulV
  split
  · rename_i h
    have h1 := isL_iff.1 h.1
    have h2 := isL_iff.1 h.2.1
    have e : mulM p m n = mk m.length (rw' n 0).length fun i k => sm n.length (fun j => at' m i j * at' n j k) % p := rfl
    have h3 := h2.c16
    have h4 := h1.hi
    rw [e]; exact mk_size (by omega) (by omega)
  · simp [tot]

set_option maxRecDepth 100000 in
set_option maxHeartbeats 1600000 in
theorem spec_MultiplyMatrices (p : Int) (am : Option Addr) (m : List (List Int)) (cm lom tpm : Nat) (an : Option Addr) (n : List (List Int)) (cn lon tpn : Nat) (w : World) (hm : MatIn lom tpm w am m) (tm : tpm ≤ w.heap.size) (sm : m.length + tot m m.length ≤ 1048576) (hn : MatIn lon tpn w an n) (tn : tpn ≤ w.heap.size) (sn : n.length + tot n n.length ≤ 1048576) :
    Calls Try.prog 28 #[.int .i64 p, .slice am m.length cm, .slice an n.length cn] w (SpecM (mulV p m n) (mulC p m n) w) := by
  have Hm := Lib.hid hm
  have Sm := Lib.hid sm
  clear hm sm
  have Hn := Lib.hid hn
  have Sn := Lib.hid sn
  clear hn sn
  by_cases h1 : isM p m = true
  · by_cases h2 : isM p n = true
    · by_cases hq : (rw' m 0).length = n.length
      · have I1 := Lib.hid h1
        have L1 := Lib.hid (isL_iff.1 h1)
        have I2 := Lib.hid h2
        have L2 := Lib.hid (isL_iff.1 h2)
        have HV : Hid (mulV p m n = mulM p m n) := by show _ = _; unfold mulV; simp [h1, h2, hq]
        have HC : Hid (mulC p m n = 0) := by show _ = _; unfold mulC; simp [h1, h2, hq]
        have hm0 : 0 < m.length := (isL_iff.1 h1).lo
        obtain ⟨b0, o0, r0, k0, ha0, _, hb0, hr0, _⟩ := Hm.out.row (i := 0) (isL_iff.1 h1).lo
        subst ha0
        rw [Nat.add_zero] at hr0
        have hb0' : b0 < w.heap.size := Nat.lt_of_lt_of_le hb0 tm
        have HE := Lib.hid hq
        rw [hq] at hr0
        clear h1 h2 hq
        go_enter Try.func28, Try.ntmps28
        go_wp2_with (first | (go_at_call 60; (with_reducible refine (l02Is_any p _ m _ lom tpm w Hm.out (len_of Sm.out).1 (len_of Sm.out).2).mono ?_); rintro e w1 ⟨rfl, hq⟩; rw [I1.out]; have HQ := Lib.hid hq; have hz := quiet_z hq; clear hq) | (go_at_call 60; (with_reducible refine (l02Is_any p _ n _ lon tpn w1 (Hn.out.same (HQ.out.same _ _)) (len_of Sn.out).1 (len_of Sn.out).2).mono ?_); rintro e w2 ⟨rfl, hq2⟩; rw [I2.out]; have HQ2 := Lib.hid hq2; have hz2 := quiet_z hq2; clear hq2; have hr0' := ((HQ2.out.cell _).trans ((HQ.out.cell _).trans hr0)); clear hr0) | (go_at_call 72; (with_reducible refine (l02Times_any p _ _ _ _ _ _ lom tpm lon tpn w2 L1.out.prime ((Hm.out.same (HQ.out.same _ _)).same (HQ2.out.same _ _)) ((Hn.out.same (HQ.out.same _ _)).same (HQ2.out.same _ _)) (by omega) (by omega) (by rw [← HE.out]; exact rect_of L1.out) (rect_of L2.out) (by have := L2.out.lo; omega)).mono ?_); rintro e w3 ⟨r3, k3, rfl, ho3, hb3⟩; have HO3 := Lib.hid ho3; have HB3 := Lib.hid hb3; clear ho3 hb3))
        go_ret2
        rw [HV.out, HC.out]
        exact ⟨_, _, rfl, HO3.out.mono (by omega) (Nat.le_refl _), ((HQ.out.below _).trans (HQ2.out.below _)).trans (HB3.out.mono (by omega))⟩
      · have I1 := Lib.hid h1
        have L1 := Lib.hid (isL_iff.1 h1)
        have I2 := Lib.hid h2
        have L2 := Lib.hid (isL_iff.1 h2)
        have HV : Hid (mulV p m n = []) := by show _ = _; unfold mulV; simp [h1, h2, hq]
        have HC : Hid (mulC p m n = 2) := by show _ = _; unfold mulC; simp [h1, h2, hq]
        have hm0 : 0 < m.length := (isL_iff.1 h1).lo
        obtain ⟨b0, o0, r0, k0, ha0, _, hb0, hr0, _⟩ := Hm.out.row (i := 0) (isL_iff.1 h1).lo
        subst ha0
        rw [Nat.add_zero] at hr0
        have hb0' : b0 < w.heap.size := Nat.lt_of_lt_of_le hb0 tm
        obtain ⟨e1, e2⟩ := neq_spell hq
        have hl0 := (len_of Sm.out).2 0 (by have := L1.out.lo; omega)
        clear h1 h2 hq
        go_enter Try.func28, Try.ntmps28
        go_wp2_with (first | (go_at_call 60; (with_reducible refine (l02Is_any p _ m _ lom tpm w Hm.out (len_of Sm.out).1 (len_of Sm.out).2).mono ?_); rintro e w1 ⟨rfl, hq⟩; rw [I1.out]; have HQ := Lib.hid hq; have hz := quiet_z hq; clear hq) | (go_at_call 60; (with_reducible refine (l02Is_any p _ n _ lon tpn w1 (Hn.out.same (HQ.out.same _ _)) (len_of Sn.out).1 (len_of Sn.out).2).mono ?_); rintro e w2 ⟨rfl, hq2⟩; rw [I2.out]; have HQ2 := Lib.hid hq2; have hz2 := quiet_z hq2; clear hq2; have hr0' := ((HQ2.out.cell _).trans ((HQ.out.cell _).trans hr0)); clear hr0))
        go_ret2
        rw [HV.out, HC.out]
        exact ⟨none, 0, rfl, .inl rfl, (HQ.out.below _).trans (HQ2.out.below _)⟩
    · have I1 := Lib.hid h1
      have I2 : Hid (isM p n = false) := by show isM p n = false; simpa using h2
      have HV : Hid (mulV p m n = []) := by show _ = _; unfold mulV; simp [h2]
      have HC : Hid (mulC p m n = 1) := by show _ = _; unfold mulC; simp [h2]
      clear h1 h2
      go_enter Try.func28, Try.ntmps28
      go_wp2_with (first | (go_at_call 60; (with_reducible refine (l02Is_any p _ m _ lom tpm w Hm.out (len_of Sm.out).1 (len_of Sm.out).2).mono ?_); rintro e w1 ⟨rfl, hq⟩; rw [I1.out]; have HQ := Lib.hid hq; have hz := quiet_z hq; clear hq) | (go_at_call 60; (with_reducible refine (l02Is_any p _ n _ lon tpn w1 (Hn.out.same (HQ.out.same _ _)) (len_of Sn.out).1 (len_of Sn.out).2).mono ?_); rintro e w2 ⟨rfl, hq2⟩; rw [I2.out]; have HQ2 := Lib.hid hq2; have hz2 := quiet_z hq2; clear hq2))
      go_ret2
      rw [HV.out, HC.out]
      exact ⟨none, 0, rfl, .inl rfl, (HQ.out.below _).trans (HQ2.out.below _)⟩
  · have I1 : Hid (isM p m = false) := by show isM p m = false; simpa using h1
    have HV : Hid (mulV p m n = []) := by show _ = _; unfold mulV; simp [h1]
    have HC : Hid (mulC p m n = 1) := by show _ = _; unfold mulC; simp [h1]
    clear h1
    go_enter Try.func28, Try.ntmps28
    go_wp2_with (first | (go_at_call 60; (with_reducible refine (l02Is_any p _ m _ lom tpm w Hm.out (len_of Sm.out).1 (len_of Sm.out).2).mono ?_); rintro e w1 ⟨rfl, hq⟩; rw [I1.out]; have HQ := Lib.hid hq; have hz := quiet_z hq; clear hq))
    go_ret2
    rw [HV.out, HC.out]
    exact ⟨none, 0, rfl, .inl rfl, HQ.out.below _⟩

set_option maxRecDepth 100000 in
set_option maxHeartbeats 1600000 in
theorem impl_MultiplyMatrices (p : Int) (am : Option Addr) (m : List (List Int)) (cm lom tpm : Nat) (an : Option Addr) (n : List (List Int)) (cn lon tpn : Nat) (w : World) (hm : MatIn lom tpm w am m) (tm : tpm ≤ w.heap.size) (sm : m.length + tot m m.length ≤ 1048576) (hn : MatIn lon tpn w an n) (tn : tpn ≤ w.heap.size) (sn : n.length + tot n n.length ≤ 1048576) :
    Calls Try.prog 29 #[.int .i64 p, .slice am m.length cm, .slice an n.length cn] w (ImplM (mulV p m n) (mulC p m n) w) := by
  have Hm := Lib.hid hm
  have Sm := Lib.hid sm
  clear hm sm
  have Hn := Lib.hid hn
  have Sn := Lib.hid sn
  clear hn sn
  by_cases h1 : isM p m = true
  · by_cases h2 : isM p n = true
    · by_cases hq : (rw' m 0).length = n.length
      · have I1 := Lib.hid h1
        have L1 := Lib.hid (isL_iff.1 h1)
        have I2 := Lib.hid h2
        have L2 := Lib.hid (isL_iff.1 h2)
        have HV : Hid (mulV p m n = mulM p m n) := by show _ = _; unfold mulV; simp [h1, h2, hq]
        have HC : Hid (mulC p m n = 0) := by show _ = _; unfold mulC; simp [h1, h2, hq]
        have HK := Lib.hid (chk2_yes h1 h2)
        have hm0 : 0 < m.length := (isL_iff.1 h1).lo
        obtain ⟨b0, o0, r0, k0, ha0, _, hb0, hr0, _⟩ := Hm.out.row (i := 0) (isL_iff.1 h1).lo
        subst ha0
        rw [Nat.add_zero] at hr0
        have hb0' : b0 < w.heap.size := Nat.lt_of_lt_of_le hb0 tm
        have HE := Lib.hid hq
        rw [hq] at hr0
        clear h1 h2 hq
        go_enter Try.func29, Try.ntmps29
        go_wp2_with (first | (go_at_call 63; (with_reducible refine (checkTwo_new p _ _ m n _ _ lom tpm lon tpn w _ Hm.out tm Sm.out Hn.out tn Sn.out).mono ?_); rintro e w1 ⟨rfl, rfl⟩; rw [HK.out]) | (go_at_call 73; (with_reducible refine (timesMatrix_any p _ _ _ _ _ _ lom tpm lon tpn _ L1.out.prime (Hm.out.below ((Below.refl _ _).alloc (Nat.le_refl _) _) tm) (Hn.out.below ((Below.refl _ _).alloc (Nat.le_refl _) _) tn) (by simp; omega) (by simp; omega) (by rw [← HE.out]; exact rect_of L1.out) (rect_of L2.out) (by have := L2.out.lo; omega)).mono ?_); rintro e w3 ⟨r3, k3, rfl, ho3, hb3⟩; have HO3 := Lib.hid ho3; have HB3 := Lib.hid hb3; clear ho3 hb3))
        go_ret2
        rw [HV.out, HC.out]
        exact ⟨_, _, rfl, HO3.out.mono (by simp) (Nat.le_refl _), ((Below.refl _ _).alloc (Nat.le_refl _) _).trans (HB3.out.mono (by simp))⟩
      · have I1 := Lib.hid h1
        have L1 := Lib.hid (isL_iff.1 h1)
        have I2 := Lib.hid h2
        have L2 := Lib.hid (isL_iff.1 h2)
        have HV : Hid (mulV p m n = []) := by show _ = _; unfold mulV; simp [h1, h2, hq]
        have HC : Hid (mulC p m n = 2) := by show _ = _; unfold mulC; simp [h1, h2, hq]
        have HK := Lib.hid (chk2_yes h1 h2)
        have hm0 : 0 < m.length := (isL_iff.1 h1).lo
        obtain ⟨b0, o0, r0, k0, ha0, _, hb0, hr0, _⟩ := Hm.out.row (i := 0) (isL_iff.1 h1).lo
        subst ha0
        rw [Nat.add_zero] at hr0
        have hb0' : b0 < w.heap.size := Nat.lt_of_lt_of_le hb0 tm
        obtain ⟨e1, e2⟩ := neq_spell hq
        have hl0 := (len_of Sm.out).2 0 (by have := L1.out.lo; omega)
        clear h1 h2 hq
        go_enter Try.func29, Try.ntmps29
        go_wp2_with (first | (go_at_call 63; (with_reducible refine (checkTwo_new p _ _ m n _ _ lom tpm lon tpn w _ Hm.out tm Sm.out Hn.out tn Sn.out).mono ?_); rintro e w1 ⟨rfl, rfl⟩; rw [HK.out]))
        go_ret2
        rw [HV.out, HC.out]
        exact ⟨none, 0, rfl, .inl rfl, ((Below.refl _ _).alloc (Nat.le_refl _) _)⟩
    · have HV : Hid (mulV p m n = []) := by show _ = _; unfold mulV; simp [h2]
      have HC : Hid (mulC p m n = 1) := by show _ = _; unfold mulC; simp [h2]
      have HK := Lib.hid (chk2_no (m := m) (.inr (by simpa using h2 : isM p n = false)))
      clear h1 h2
      go_enter Try.func29, Try.ntmps29
      go_wp2_with (first | (go_at_call 63; (with_reducible refine (checkTwo_new p _ _ m n _ _ lom tpm lon tpn w _ Hm.out tm Sm.out Hn.out tn Sn.out).mono ?_); rintro e w1 ⟨rfl, rfl⟩; rw [HK.out]))
      go_ret2
      rw [HV.out, HC.out]
      exact ⟨none, 0, rfl, .inl rfl, ((Below.refl _ _).alloc (Nat.le_refl _) _)⟩
  · have HV : Hid (mulV p m n = []) := by show _ = _; unfold mulV; simp [h1]
    have HC : Hid (mulC p m n = 1) := by show _ = _; unfold mulC; simp [h1]
    have HK := Lib.hid (chk2_no (m' := n) (.inl (by simpa using h1 : isM p m = false)))
    clear h1
    go_enter Try.func29, Try.ntmps29
    go_wp2_with (first | (go_at_call 63; (with_reducible refine (checkTwo_new p _ _ m n _ _ lom tpm lon tpn w _ Hm.out tm Sm.out Hn.out tn Sn.out).mono ?_); rintro e w1 ⟨rfl, rfl⟩; rw [HK.out]))
    go_ret2
    rw [HV.out, HC.out]
    exact ⟨none, 0, rfl, .inl rfl, ((Below.refl _ _).alloc (Nat.le_refl _) _)⟩

end Go.Proofs.Ytckndpoklimnbaa
