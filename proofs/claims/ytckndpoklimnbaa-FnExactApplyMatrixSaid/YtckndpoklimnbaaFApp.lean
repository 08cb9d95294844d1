/-
  ApplyMatrix, in the program and in the model.
  Conditions: the arguments are nil or rows of known cells, of at most 1048576 numbers.
-/
import Derived.Test.YtckndpoklimnbaaFTr
import Derived.Test.YtckndpoklimnbaaMul
namespace Go.Proofs.Ytckndpoklimnbaa
open Go.RowKit
set_option linter.unusedVariables false

def appOk (p : Int) (m : List (List Int)) (v : List Int) : Bool := decide (v.length = (rw' m 0).length) && v.all (inr p)
def apV (p : Int) (m : List (List Int)) (v : List Int) : List Int := if isM p m = true ∧ appOk p m v = true then appV p m v else []
def apC (p : Int) (m : List (List Int)) (v : List Int) : Int := if isM p m = true then (if appOk p m v = true then 0 else 2) else 1
theorem apV_size (p : Int) (m : List (List Int)) (v : List Int) : (apV p m v).length ≤ 1048576 := by
  unfold apV
  split
  · rename_i h
    have h1 := (isL_iff.1 h.1).hi
    unfold appV; rw [mkR_len]; omega
  · simp
theorem Copied.newR {z : List Int} {w w' : World} {e : Ending} (h : Copied z w e w') : e = .returned (.slice (some ⟨w.heap.size, 0, none⟩) z.length z.length) ∧ OwnR w.heap.size w'.heap.size w' (some ⟨w.heap.size, 0, none⟩) z ∧ Below w.heap.size w w' := ⟨h.1, h.2.2.2, h.2.1⟩
theorem OwnR.mono {lo hi lo' hi' : Nat} {w : World} {a : Option Addr} {zs : List Int} (h : OwnR lo hi w a zs) (h0 : lo' ≤ lo) (h1 : hi ≤ hi') : OwnR lo' hi' w a zs := by
  rcases h with h | ⟨b, o, ha, k0, k1, hc⟩
  · exact .inl h
  · exact .inr ⟨b, o, ha, by omega, by omega, hc⟩

set_option maxHeartbeats 800000 in
theorem isVector_any (p : Int) (a : Option Addr) (v : List Int) (c n lo tp : Nat) (w : World) (hp : prm p = true) (hv : RowIn lo tp w a v) (hs : v.length ≤ 1048576) (hn : n ≤ 1048576) :
    Calls Try.prog 76 #[.int .i64 p, .slice a v.length c, .int .i64 n] w fun e w' => e = .returned (.bool (decide (v.length = n) && v.all (inr p))) ∧ w = w' := by
  have HV := Lib.hid hv
  have HP := Lib.hid hp
  clear hv hp
  by_cases h : v.length = n
  · subst h
    by_cases ha : v.all (inr p) = true
    · have HA := Lib.hid ha
      have HC := Lib.hid (code_ok HP.out ha)
      clear ha
      go_enter Try.func76, Try.ntmps76
      go_wp2_with (go_at_call 70; (with_reducible refine (checkRow _ _ _ _ lo tp _ HP.out HV.out (by omega)).mono ?_); rintro e w1 ⟨rfl, rfl⟩; rw [HC.out])
      go_ret
      exact ⟨by rw [HA.out]; simp, rfl⟩
    · have HA : Hid (v.all (inr p) = false) := by show v.all (inr p) = false; simpa using ha
      have HC := Lib.hid (code_bad HP.out HA.out)
      clear ha
      go_enter Try.func76, Try.ntmps76
      go_wp2_with (go_at_call 70; (with_reducible refine (checkRow _ _ _ _ lo tp _ HP.out HV.out (by omega)).mono ?_); rintro e w1 ⟨rfl, rfl⟩; rw [HC.out])
      go_ret
      exact ⟨by rw [HA.out]; simp, rfl⟩
  · have HF : Hid ((decide (v.length = n) && v.all (inr p)) = false) := by show _ = _; simp [h]
    have e1 : ((v.length : Int) == (n : Int)) = false := by simp; omega
    have e2 : decide ((v.length : Int) = (n : Int)) = false := by simp; omega
    clear h
    go_enter Try.func76, Try.ntmps76
    go_wp2
    go_ret
    exact ⟨by rw [HF.out]; rfl, rfl⟩

set_option maxRecDepth 100000 in
set_option maxHeartbeats 1600000 in
theorem spec_ApplyMatrix (p : Int) (am : Option Addr) (m : List (List Int)) (cm lom tpm : Nat) (av : Option Addr) (v : List Int) (cv lov tpv : Nat) (w : World) (hm : MatIn lom tpm w am m) (tm : tpm ≤ w.heap.size) (sm : m.length + tot m m.length ≤ 1048576) (hv : RowIn lov tpv w av v) (tv : tpv ≤ w.heap.size) (sv : v.length ≤ 1048576) :
    Calls Try.prog 30 #[.int .i64 p, .slice am m.length cm, .slice av v.length cv] w (SpecR (apV p m v) (apC p m v) w) := by
  have Hm := Lib.hid hm
  have Sm := Lib.hid sm
  clear hm sm
  have Hv := Lib.hid hv
  have Sv := Lib.hid sv
  clear hv sv
  by_cases h1 : isM p m = true
  · by_cases hq : v.length = (rw' m 0).length
    · by_cases ha : v.all (inr p) = true
      · have I1 := Lib.hid h1
        have L1 := Lib.hid (isL_iff.1 h1)
        have HV : Hid (apV p m v = appV p m v) := by show _ = _; unfold apV; simp [h1, appOk, hq, ha]
        have HC : Hid (apC p m v = 0) := by show _ = _; unfold apC; simp [h1, appOk, hq, ha]
        have hm0 : 0 < m.length := (isL_iff.1 h1).lo
        obtain ⟨b0, o0, r0, k0, ha0, _, hb0, hr0, _⟩ := Hm.out.row (i := 0) (isL_iff.1 h1).lo
        subst ha0
        rw [Nat.add_zero] at hr0
        have hb0' : b0 < w.heap.size := Nat.lt_of_lt_of_le hb0 tm
        have hl16 := (isL_iff.1 h1).c16
        have HE := Lib.hid hq
        have hv16 : v.length ≤ 16 := by omega
        have HA := Lib.hid ha
        rw [← hq] at hr0
        clear h1 hq ha
        go_enter Try.func30, Try.ntmps30
        go_wp2_with (first | (go_at_call 60; (with_reducible refine (l02Is_any p _ m _ lom tpm w Hm.out (len_of Sm.out).1 (len_of Sm.out).2).mono ?_); rintro e w1 ⟨rfl, hq⟩; rw [I1.out]; have HQ := Lib.hid hq; have hz := quiet_z hq; clear hq; have hr0' := (HQ.out.cell _).trans hr0; clear hr0) | (go_at_call 74; (with_reducible refine (numsRow p _ v _ lov tpv _ L1.out.prime (Hv.out.same (HQ.out.same _ _)) (by have := Sv.out; omega)).mono ?_); rintro e w2 ⟨rfl, rfl⟩; rw [HA.out]) | (go_at_call 75; (with_reducible refine (l02Apply_any p _ _ m v _ _ lom tpm lov tpv _ L1.out.prime (Hm.out.same (HQ.out.same _ _)) (Hv.out.same (HQ.out.same _ _)) (by omega) (by omega) (by have := L1.out.hi; omega) (fun i hi => by rw [L1.out.len i hi, HE.out]; exact Nat.le_refl _) (by omega) (rect_of L1.out).num (Nums.of HA.out)).mono ?_); rintro e w3 ⟨r3, k3, rfl, ho3, hb3⟩; have HO3 := Lib.hid ho3; have HB3 := Lib.hid hb3; clear ho3 hb3))
        go_ret2
        rw [HV.out, HC.out]
        exact ⟨_, _, rfl, (HO3.out.below (Below.refl _ _) (Nat.le_refl _) (by omega) (Nat.le_refl _)).row, (HQ.out.below _).trans (HB3.out.mono (by omega))⟩
      · have I1 := Lib.hid h1
        have L1 := Lib.hid (isL_iff.1 h1)
        have HA : Hid (v.all (inr p) = false) := by show v.all (inr p) = false; simpa using ha
        have HV : Hid (apV p m v = []) := by show _ = _; unfold apV; simp only [appOk, HA.out]; simp [h1]
        have HC : Hid (apC p m v = 2) := by show _ = _; unfold apC; simp only [appOk, HA.out]; simp [h1]
        have hm0 : 0 < m.length := (isL_iff.1 h1).lo
        obtain ⟨b0, o0, r0, k0, ha0, _, hb0, hr0, _⟩ := Hm.out.row (i := 0) (isL_iff.1 h1).lo
        subst ha0
        rw [Nat.add_zero] at hr0
        have hb0' : b0 < w.heap.size := Nat.lt_of_lt_of_le hb0 tm
        have hl16 := (isL_iff.1 h1).c16
        have HE := Lib.hid hq
        have hv16 : v.length ≤ 16 := by omega
        rw [← hq] at hr0
        clear h1 hq ha
        go_enter Try.func30, Try.ntmps30
        go_wp2_with (first | (go_at_call 60; (with_reducible refine (l02Is_any p _ m _ lom tpm w Hm.out (len_of Sm.out).1 (len_of Sm.out).2).mono ?_); rintro e w1 ⟨rfl, hq⟩; rw [I1.out]; have HQ := Lib.hid hq; have hz := quiet_z hq; clear hq; have hr0' := (HQ.out.cell _).trans hr0; clear hr0) | (go_at_call 74; (with_reducible refine (numsRow p _ v _ lov tpv _ L1.out.prime (Hv.out.same (HQ.out.same _ _)) (by have := Sv.out; omega)).mono ?_); rintro e w2 ⟨rfl, rfl⟩; rw [HA.out]))
        go_ret2
        rw [HV.out, HC.out]
        exact ⟨none, 0, rfl, .inl rfl, HQ.out.below _⟩
    · have I1 := Lib.hid h1
      have L1 := Lib.hid (isL_iff.1 h1)
      have HV : Hid (apV p m v = []) := by show _ = _; unfold apV; simp [h1, appOk, hq]
      have HC : Hid (apC p m v = 2) := by show _ = _; unfold apC; simp [h1, appOk, hq]
      have hm0 : 0 < m.length := (isL_iff.1 h1).lo
      obtain ⟨b0, o0, r0, k0, ha0, _, hb0, hr0, _⟩ := Hm.out.row (i := 0) (isL_iff.1 h1).lo
      subst ha0
      rw [Nat.add_zero] at hr0
      have hb0' : b0 < w.heap.size := Nat.lt_of_lt_of_le hb0 tm
      have hl16 := (isL_iff.1 h1).c16
      obtain ⟨e1, e2⟩ := neq_spell hq
      have hlv := Sv.out
      clear h1 hq
      go_enter Try.func30, Try.ntmps30
      go_wp2_with (first | (go_at_call 60; (with_reducible refine (l02Is_any p _ m _ lom tpm w Hm.out (len_of Sm.out).1 (len_of Sm.out).2).mono ?_); rintro e w1 ⟨rfl, hq⟩; rw [I1.out]; have HQ := Lib.hid hq; have hz := quiet_z hq; clear hq; have hr0' := (HQ.out.cell _).trans hr0; clear hr0))
      go_ret2
      rw [HV.out, HC.out]
      exact ⟨none, 0, rfl, .inl rfl, HQ.out.below _⟩
  · have I1 : Hid (isM p m = false) := by show isM p m = false; simpa using h1
    have HV : Hid (apV p m v = []) := by show _ = _; unfold apV; simp [h1]
    have HC : Hid (apC p m v = 1) := by show _ = _; unfold apC; simp [h1]
    clear h1
    go_enter Try.func30, Try.ntmps30
    go_wp2_with (first | (go_at_call 60; (with_reducible refine (l02Is_any p _ m _ lom tpm w Hm.out (len_of Sm.out).1 (len_of Sm.out).2).mono ?_); rintro e w1 ⟨rfl, hq⟩; rw [I1.out]; have HQ := Lib.hid hq; have hz := quiet_z hq; clear hq))
    go_ret2
    rw [HV.out, HC.out]
    exact ⟨none, 0, rfl, .inl rfl, HQ.out.below _⟩

set_option maxRecDepth 100000 in
set_option maxHeartbeats 1600000 in
theorem impl_ApplyMatrix (p : Int) (am : Option Addr) (m : List (List Int)) (cm lom tpm : Nat) (av : Option Addr) (v : List Int) (cv lov tpv : Nat) (w : World) (hm : MatIn lom tpm w am m) (tm : tpm ≤ w.heap.size) (sm : m.length + tot m m.length ≤ 1048576) (hv : RowIn lov tpv w av v) (tv : tpv ≤ w.heap.size) (sv : v.length ≤ 1048576) :
    Calls Try.prog 32 #[.int .i64 p, .slice am m.length cm, .slice av v.length cv] w (ImplR (apV p m v) (apC p m v) w) := by
  have Hm := Lib.hid hm
  have Sm := Lib.hid sm
  clear hm sm
  have Hv := Lib.hid hv
  have Sv := Lib.hid sv
  clear hv sv
  by_cases h1 : isM p m = true
  · by_cases hok : appOk p m v = true
    · have I1 := Lib.hid h1
      have L1 := Lib.hid (isL_iff.1 h1)
      have HV : Hid (apV p m v = appV p m v) := by show _ = _; unfold apV; simp [h1, hok]
      have HC : Hid (apC p m v = 0) := by show _ = _; unfold apC; simp [h1, hok]
      have HK := Lib.hid (chk1_yes h1)
      have HOK : Hid ((decide (v.length = (rw' m 0).length) && v.all (inr p)) = true) := hok
      have HE : Hid (v.length = (rw' m 0).length) := by show _ = _; simp [appOk] at hok; exact hok.1
      have HA : Hid (v.all (inr p) = true) := by show _ = _; unfold appOk at hok; simp only [Bool.and_eq_true] at hok; exact hok.2
      have hm0 : 0 < m.length := (isL_iff.1 h1).lo
      obtain ⟨b0, o0, r0, k0, ha0, _, hb0, hr0, _⟩ := Hm.out.row (i := 0) (isL_iff.1 h1).lo
      subst ha0
      rw [Nat.add_zero] at hr0
      have hb0' : b0 < w.heap.size := Nat.lt_of_lt_of_le hb0 tm
      have hl16 := (isL_iff.1 h1).c16
      clear h1 hok
      go_enter Try.func32, Try.ntmps32
      go_wp2_with (first | (go_at_call 63; (with_reducible refine (checkOne_new p _ m _ lom tpm w _ Hm.out tm Sm.out).mono ?_); rintro e w1 ⟨rfl, rfl⟩; rw [HK.out]) | (go_at_call 76; (with_reducible refine (isVector_any p _ v _ _ lov tpv _ L1.out.prime (Hv.out.below ((Below.refl _ _).alloc (Nat.le_refl _) _) tv) Sv.out (by omega)).mono ?_); rintro e w2 ⟨rfl, rfl⟩; rw [HOK.out]) | (go_at_call 77; (with_reducible refine (timesVector_any p _ _ m v _ _ lom tpm lov tpv _ L1.out.prime (Hm.out.below ((Below.refl _ _).alloc (Nat.le_refl _) _) tm) (Hv.out.below ((Below.refl _ _).alloc (Nat.le_refl _) _) tv) (by simp; omega) (by simp; omega) (by rw [HE.out]; exact rect_of L1.out) (Nums.of HA.out)).mono ?_); rintro e w3 hcp; obtain ⟨rfl, ho3, hb3⟩ := hcp.newR; have HO3 := Lib.hid ho3; have HB3 := Lib.hid hb3; clear ho3 hb3 hcp))
      go_ret2
      rw [HV.out, HC.out]
      have HO4 := HO3.out
      simp only [World.size_alloc] at HO4
      exact ⟨_, _, rfl, HO4.mono (by omega) (Nat.le_refl _), ((Below.refl _ _).alloc (Nat.le_refl _) _).trans (HB3.out.mono (by simp))⟩
    · have I1 := Lib.hid h1
      have L1 := Lib.hid (isL_iff.1 h1)
      have HV : Hid (apV p m v = []) := by show _ = _; unfold apV; simp [h1, hok]
      have HC : Hid (apC p m v = 2) := by show _ = _; unfold apC; simp [h1, hok]
      have HK := Lib.hid (chk1_yes h1)
      have HOK : Hid ((decide (v.length = (rw' m 0).length) && v.all (inr p)) = false) := by show _ = _; simpa [appOk] using hok
      have hm0 : 0 < m.length := (isL_iff.1 h1).lo
      obtain ⟨b0, o0, r0, k0, ha0, _, hb0, hr0, _⟩ := Hm.out.row (i := 0) (isL_iff.1 h1).lo
      subst ha0
      rw [Nat.add_zero] at hr0
      have hb0' : b0 < w.heap.size := Nat.lt_of_lt_of_le hb0 tm
      have hl16 := (isL_iff.1 h1).c16
      clear h1 hok
      go_enter Try.func32, Try.ntmps32
      go_wp2_with (first | (go_at_call 63; (with_reducible refine (checkOne_new p _ m _ lom tpm w _ Hm.out tm Sm.out).mono ?_); rintro e w1 ⟨rfl, rfl⟩; rw [HK.out]) | (go_at_call 76; (with_reducible refine (isVector_any p _ v _ _ lov tpv _ L1.out.prime (Hv.out.below ((Below.refl _ _).alloc (Nat.le_refl _) _) tv) Sv.out (by omega)).mono ?_); rintro e w2 ⟨rfl, rfl⟩; rw [HOK.out]))
      go_ret2
      rw [HV.out, HC.out]
      exact ⟨none, 0, rfl, .inl rfl, ((Below.refl _ _).alloc (Nat.le_refl _) _)⟩
  · have HV : Hid (apV p m v = []) := by show _ = _; unfold apV; simp [h1]
    have HC : Hid (apC p m v = 1) := by show _ = _; unfold apC; simp [h1]
    have HK := Lib.hid (chk1_no (by simpa using h1 : isM p m = false))
    clear h1
    go_enter Try.func32, Try.ntmps32
    go_wp2_with (first | (go_at_call 63; (with_reducible refine (checkOne_new p _ m _ lom tpm w _ Hm.out tm Sm.out).mono ?_); rintro e w1 ⟨rfl, rfl⟩; rw [HK.out]))
    go_ret2
    rw [HV.out, HC.out]
    exact ⟨none, 0, rfl, .inl rfl, ((Below.refl _ _).alloc (Nat.le_refl _) _)⟩

end Go.Proofs.Ytckndpoklimnbaa
