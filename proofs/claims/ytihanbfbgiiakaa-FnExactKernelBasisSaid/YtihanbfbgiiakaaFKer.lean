/-
  Kernels, in the program and in the model: contracts.
  Conditions: the arguments are nil or rows of known cells, of at most 1048576 numbers.
-/
import Derived.Test.YtihanbfbgiiakaaKerS
import Derived.Test.YtihanbfbgiiakaaKerI
import Derived.Test.YtihanbfbgiiakaaSqr
namespace Go.Proofs.Ytihanbfbgiiakaa
open Go.RowKit
set_option linter.unusedVariables false

noncomputable def kerV (p : Int) (m : List (List Int)) : List (List Int) := if isM p m = true then kerB p m else []
theorem kerV_size (p : Int) (m : List (List Int)) : (kerV p m).length + tot (kerV p m) (kerV p m).length ≤ 1048576 := by
  unfold kerV
  split
  · rename_i h
    have h2 := kerP_lst (isL_iff.1 h)
    have e : kerB p m = basV p (kerP p m) := by unfold basV; rw [if_pos h2]; rfl
    rw [e]; exact basV_size p _
  · simp [tot]

set_option maxRecDepth 100000 in
set_option maxHeartbeats 1600000 in
theorem spec_KernelBasis (p : Int) (am : Option Addr) (m : List (List Int)) (cm lom tpm : Nat) (w : World) (hm : MatIn lom tpm w am m) (tm : tpm ≤ w.heap.size) (sm : m.length + tot m m.length ≤ 1048576) :
    Calls Try.prog 20 #[.int .i64 p, .slice am m.length cm] w (SpecM (kerV p m) (chk1 p m) w) := by
  have Hm := Lib.hid hm
  have Sm := Lib.hid sm
  clear hm sm
  by_cases h : isM p m = true
  · have HI := Lib.hid h
    have HV : Hid (kerV p m = kerB p m) := by show _ = _; unfold kerV; rw [if_pos h]
    have HC := Lib.hid (chk1_yes h)
    have HL := Lib.hid (isL_iff.1 h)
    clear h
    go_enter Try.func20, Try.ntmps20
    go_wp2_with (first | (go_at_call 57; (with_reducible refine (l02Is_any p _ m _ lom tpm w Hm.out (len_of Sm.out).1 (len_of Sm.out).2).mono ?_); rintro e w1 ⟨rfl, hq⟩; rw [HI.out]; have HQ := Lib.hid hq; clear hq) | (go_at_call 58; (with_reducible refine (l02Kernel_any p _ m _ lom tpm w1 (Hm.out.same (HQ.out.same _ _)) (Nat.le_trans tm (HQ.out.below 0).size) HL.out).mono ?_); rintro e w2 ⟨r2, k2, rfl, ho2, hb2⟩; have HO2 := Lib.hid ho2; have HB2 := Lib.hid hb2; clear ho2 hb2))
    go_ret2
    rw [HV.out, HC.out]
    exact ⟨_, _, rfl, HO2.out.mono (HQ.out.below 0).size (Nat.le_refl _), (HQ.out.below _).trans (HB2.out.mono (HQ.out.below 0).size)⟩
  · have HI : Hid (isM p m = false) := by show isM p m = false; simpa using h
    have HV : Hid (kerV p m = []) := by show _ = _; unfold kerV; rw [if_neg h]
    have HC := Lib.hid (chk1_no (by simpa using h : isM p m = false))
    clear h
    go_enter Try.func20, Try.ntmps20
    go_wp2_with (first | (go_at_call 57; (with_reducible refine (l02Is_any p _ m _ lom tpm w Hm.out (len_of Sm.out).1 (len_of Sm.out).2).mono ?_); rintro e w1 ⟨rfl, hq⟩; rw [HI.out]; have HQ := Lib.hid hq; clear hq))
    go_ret2
    rw [HV.out, HC.out]
    exact ⟨none, 0, rfl, .inl rfl, HQ.out.below _⟩
set_option maxHeartbeats 800000 in
theorem impl_KernelBasis (p : Int) (am : Option Addr) (m : List (List Int)) (cm lom tpm : Nat) (w : World) (hm : MatIn lom tpm w am m) (tm : tpm ≤ w.heap.size) (sm : m.length + tot m m.length ≤ 1048576) :
    Calls Try.prog 21 #[.int .i64 p, .slice am m.length cm] w (ImplM (kerV p m) (chk1 p m) w) := by
  have Hm := Lib.hid hm
  have Sm := Lib.hid sm
  clear hm sm
  by_cases h : isM p m = true
  · have HV : Hid (kerV p m = kerB p m) := by show _ = _; unfold kerV; rw [if_pos h]
    have HC := Lib.hid (chk1_yes h)
    have HL := Lib.hid (isL_iff.1 h)
    clear h
    go_enter Try.func21, Try.ntmps21
    go_wp2_with (first | (go_at_call 59; (with_reducible refine (checkOne_new p _ m _ lom tpm w _ Hm.out tm Sm.out).mono ?_); rintro e w1 ⟨rfl, rfl⟩; rw [HC.out]) | (go_at_call 60; (with_reducible refine (kernelOf_any p _ m _ lom tpm _ (Hm.out.below ((Below.refl _ _).alloc (Nat.le_refl _) _) tm) (by simp; omega) HL.out.wide).mono ?_); rintro e w2 ⟨r2, k2, rfl, ho2, hb2⟩; have HO2 := Lib.hid ho2; have HB2 := Lib.hid hb2; clear ho2 hb2))
    go_ret2
    rw [HV.out, HC.out]
    exact ⟨_, _, rfl, HO2.out.mono (by simp) (Nat.le_refl _), ((Below.refl _ _).alloc (Nat.le_refl _) _).trans (HB2.out.mono (by simp))⟩
  · have HV : Hid (kerV p m = []) := by show _ = _; unfold kerV; rw [if_neg h]
    have HC := Lib.hid (chk1_no (by simpa using h : isM p m = false))
    clear h
    go_enter Try.func21, Try.ntmps21
    go_wp2_with (first | (go_at_call 59; (with_reducible refine (checkOne_new p _ m _ lom tpm w _ Hm.out tm Sm.out).mono ?_); rintro e w1 ⟨rfl, rfl⟩; rw [HC.out]))
    go_ret2
    rw [HV.out, HC.out]
    exact ⟨none, 0, rfl, .inl rfl, (Below.refl _ _).alloc (Nat.le_refl _) _⟩

end Go.Proofs.Ytihanbfbgiiakaa
