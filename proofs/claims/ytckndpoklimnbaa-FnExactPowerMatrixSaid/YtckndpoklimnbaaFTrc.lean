/-
  Square matrices and their traces, in the program and in the model.
  Conditions: the arguments are nil or rows of known cells, of at most 1048576 numbers.
-/
import Derived.Test.YtckndpoklimnbaaFTr
namespace Go.Proofs.Ytckndpoklimnbaa
open Go.RowKit
set_option linter.unusedVariables false

theorem sq_yes {p : Int} {m : List (List Int)} (h : isM p m = true) (k : m.length = (rw' m 0).length) : sqC p m = 0 := by unfold sqC; rw [if_pos h, if_pos k]
theorem sq_no {p : Int} {m : List (List Int)} (h : isM p m = true) (k : ¬ m.length = (rw' m 0).length) : sqC p m = 2 := by unfold sqC; rw [if_pos h, if_neg k]
theorem sq_not {p : Int} {m : List (List Int)} (h : isM p m = false) : sqC p m = 1 := by unfold sqC; rw [if_neg (by simp [h])]
theorem sq_cases (p : Int) (m : List (List Int)) : (sqC p m = 0 ∧ Lst 1 p m ∧ m.length = (rw' m 0).length) ∨ sqC p m ≠ 0 := by
  by_cases h : isM p m = true
  · by_cases k : m.length = (rw' m 0).length
    · exact .inl ⟨sq_yes h k, isL_iff.1 h, k⟩
    · right; rw [sq_no h k]; simp
  · right; rw [sq_not (by simpa using h)]; simp

def SqRet (p : Int) (m : List (List Int)) (w : World) (e : Ending) (w' : World) : Prop := e = .returned (.int .i64 (sqC p m)) ∧ Quiet w w'
set_option maxRecDepth 100000 in
set_option maxHeartbeats 1600000 in
theorem spec_l02Square (p : Int) (am : Option Addr) (m : List (List Int)) (cm lom tpm : Nat) (w : World) (hm : MatIn lom tpm w am m) (tm : tpm ≤ w.heap.size) (sm : m.length + tot m m.length ≤ 1048576) :
    Calls Try.prog 78 #[.int .i64 p, .slice am m.length cm] w (SqRet p m w) := by
  have Hm := Lib.hid hm
  have Sm := Lib.hid sm
  clear hm sm
  by_cases h1 : isM p m = true
  · by_cases hq : m.length = (rw' m 0).length
    · have I1 := Lib.hid h1
      have hm0 : 0 < m.length := (isL_iff.1 h1).lo
      obtain ⟨b0, o0, r0, k0, ha0, _, hb0, hr0, _⟩ := Hm.out.row (i := 0) (isL_iff.1 h1).lo
      subst ha0
      rw [Nat.add_zero] at hr0
      have hb0' : b0 < w.heap.size := Nat.lt_of_lt_of_le hb0 tm
      have HV := Lib.hid (sq_yes h1 hq)
      have hl0 := (len_of Sm.out).1
      rw [← hq] at hr0
      clear h1 hq
      go_enter Try.func78, Try.ntmps78
      go_wp2_with (first | (go_at_call 60; (with_reducible refine (l02Is_any p _ m _ lom tpm w Hm.out (len_of Sm.out).1 (len_of Sm.out).2).mono ?_); rintro e w1 ⟨rfl, hq⟩; rw [I1.out]; have HQ := Lib.hid hq; clear hq; have hr0' := (HQ.out.cell _).trans hr0; clear hr0))
      go_ret
      exact ⟨by rw [HV.out]; rfl, HQ.out⟩
    · have I1 := Lib.hid h1
      have hm0 : 0 < m.length := (isL_iff.1 h1).lo
      obtain ⟨b0, o0, r0, k0, ha0, _, hb0, hr0, _⟩ := Hm.out.row (i := 0) (isL_iff.1 h1).lo
      subst ha0
      rw [Nat.add_zero] at hr0
      have hb0' : b0 < w.heap.size := Nat.lt_of_lt_of_le hb0 tm
      have HV := Lib.hid (sq_no h1 hq)
      obtain ⟨e1, e2⟩ := neq_spell hq
      have hl0 := (len_of Sm.out).2 0 hm0
      have hl1 := (len_of Sm.out).1
      clear h1 hq
      go_enter Try.func78, Try.ntmps78
      go_wp2_with (first | (go_at_call 60; (with_reducible refine (l02Is_any p _ m _ lom tpm w Hm.out (len_of Sm.out).1 (len_of Sm.out).2).mono ?_); rintro e w1 ⟨rfl, hq⟩; rw [I1.out]; have HQ := Lib.hid hq; clear hq; have hr0' := (HQ.out.cell _).trans hr0; clear hr0))
      go_ret
      exact ⟨by rw [HV.out]; rfl, HQ.out⟩
  · have I1 : Hid (isM p m = false) := by show isM p m = false; simpa using h1
    have HV := Lib.hid (sq_not (by simpa using h1 : isM p m = false))
    clear h1
    go_enter Try.func78, Try.ntmps78
    go_wp2_with (first | (go_at_call 60; (with_reducible refine (l02Is_any p _ m _ lom tpm w Hm.out (len_of Sm.out).1 (len_of Sm.out).2).mono ?_); rintro e w1 ⟨rfl, hq⟩; rw [I1.out]; have HQ := Lib.hid hq; clear hq))
    go_ret
    exact ⟨by rw [HV.out]; rfl, HQ.out⟩

def trcV (p : Int) (m : List (List Int)) : Int := if sqC p m = 0 then trcM p m else 0
theorem trc_bd {p : Int} {m : List (List Int)} (h : Lst 1 p m) (k : m.length = (rw' m 0).length) : ∀ i, i ≤ m.length → 0 ≤ sm i (fun i => at' m i i) ∧ sm i (fun i => at' m i i) ≤ i * 13 := fun i hi =>
  sm_bd fun j hj => by have := h.at (i := j) (j := j) (by omega) (by omega); have := (prm_bd h.prime).2; omega

set_option maxRecDepth 100000 in
set_option maxHeartbeats 1600000 in
theorem spec_TraceOf (p : Int) (am : Option Addr) (m : List (List Int)) (cm lom tpm : Nat) (w : World) (hm : MatIn lom tpm w am m) (tm : tpm ≤ w.heap.size) (sm' : m.length + tot m m.length ≤ 1048576) :
    Calls Try.prog 36 #[.int .i64 p, .slice am m.length cm] w (RetI (trcV p m) (sqC p m) w) := by
  have Hm := Lib.hid hm
  have Sm := Lib.hid sm'
  clear hm sm'
  rcases sq_cases p m with ⟨h1, h2, h3⟩ | h1
  · have HC := Lib.hid h1
    have HV : Hid (trcV p m = trcM p m) := by show _ = _; unfold trcV; rw [if_pos h1]
    have L1 := Lib.hid h2
    have HE := Lib.hid h3
    have hpb := prm_bd h2.prime
    have hn := h2.hi
    clear h1 h2 h3
    go_enter Try.func36, Try.ntmps36
    go_wp2_with (go_at_call 78; (with_reducible refine (spec_l02Square p _ m _ lom tpm w Hm.out tm Sm.out).mono ?_); rintro e w1 ⟨rfl, hq⟩; rw [HC.out]; have HQ := Lib.hid hq; clear hq)
    go_loopw [7, 8] (fun s t wr => ∃ i : Nat, i ≤ m.length ∧ s = .int .i64 (sm i (fun i => at' m i i) % p) ∧ t = .int .i64 i ∧ Quiet w wr) (fun _ t _ => m.length - (intOf t).toNat)
    case atStart => exact ⟨0, Nat.zero_le _, by simp [sm], rfl, HQ.out⟩
    case round =>
      obtain ⟨i, hi, rfl, rfl, hq⟩ := hrel
      have HQ2 := Lib.hid hq
      by_cases hlt : i < m.length
      · obtain ⟨b1, o1, r1, c1, ha1, _, _, hr1, hrow1⟩ := (Hm.out.same (hq.same _ _)).row hlt
        subst ha1
        obtain ⟨b2, o2, ha2, _, _, hc1o⟩ := hrow1.num (j := i) (by rw [L1.out.len i hlt, ← HE.out]; exact hlt)
        subst ha2
        have hc1 : wr.cell? ⟨b2, o2 + i, none⟩ = some (.int .i64 (at' m i i)) := hc1o
        rw [L1.out.len i hlt, ← HE.out] at hr1
        obtain ⟨x0, x1⟩ := L1.out.at (i := i) (j := i) hlt (by rw [← HE.out]; exact hlt)
        have hst : (sm i (fun i => at' m i i) % p + at' m i i) % p = sm (i + 1) (fun i => at' m i i) % p := by rw [add_mod']; rfl
        have d0 := Int.emod_nonneg (sm i (fun i => at' m i i)) (by omega : p ≠ 0)
        have d1 := Int.emod_lt_of_pos (sm i (fun i => at' m i i)) (by omega : 0 < p)
        obtain ⟨x, hx⟩ : ∃ x, x = at' m i i := ⟨_, rfl⟩
        obtain ⟨d, hd⟩ : ∃ d, d = sm i (fun i => at' m i i) % p := ⟨_, rfl⟩
        rw [← hx] at hc1 x0 x1 hst
        rw [← hd] at d0 d1 hst
        rw [← hd]
        have HS := Lib.hid hst
        clear hx hd hst hq hrow1 hc1o
        go_wp2
        go_roundw
        case rel => exact ⟨i + 1, by omega, by rw [← HS.out], by go_num, HQ2.out⟩
        case measure => simp [intOf]; omega
      · have hn : i = m.length := by omega
        subst hn
        clear hq
        go_wp2
        go_ret2
        exact ⟨by rw [HV.out, HC.out]; rfl, HQ2.out.below _⟩
  · have e1 : (sqC p m == 0) = false := by simpa using h1
    have e2 : (sqC p m != 0) = true := by simpa using h1
    have HV : Hid (trcV p m = 0) := by show _ = _; unfold trcV; rw [if_neg h1]
    obtain ⟨q, hq0⟩ : ∃ q, q = sqC p m := ⟨_, rfl⟩
    have HQ0 := Lib.hid hq0
    rw [← hq0] at e1 e2
    rw [← hq0]
    clear h1 hq0
    go_enter Try.func36, Try.ntmps36
    go_wp2_with (go_at_call 78; (with_reducible refine (spec_l02Square p _ m _ lom tpm w Hm.out tm Sm.out).mono ?_); rintro e w1 ⟨rfl, hq⟩; rw [← HQ0.out]; have HQ := Lib.hid hq; clear hq)
    go_ret2
    exact ⟨by rw [HV.out]; rfl, HQ.out.below _⟩

set_option maxRecDepth 100000 in
set_option maxHeartbeats 1600000 in
theorem impl_TraceOf (p : Int) (am : Option Addr) (m : List (List Int)) (cm lom tpm : Nat) (w : World) (hm : MatIn lom tpm w am m) (tm : tpm ≤ w.heap.size) (sm' : m.length + tot m m.length ≤ 1048576) :
    Calls Try.prog 37 #[.int .i64 p, .slice am m.length cm] w (RetI (trcV p m) (sqC p m) w) := by
  have Hm := Lib.hid hm
  have Sm := Lib.hid sm'
  clear hm sm'
  rcases sq_cases p m with ⟨h1, h2, h3⟩ | h1
  · have HC := Lib.hid h1
    have HV : Hid (trcV p m = trcM p m) := by show _ = _; unfold trcV; rw [if_pos h1]
    have L1 := Lib.hid h2
    have HE := Lib.hid h3
    have hpb := prm_bd h2.prime
    have hn := h2.hi
    clear h1 h2 h3
    go_enter Try.func37, Try.ntmps37
    go_wp2_with (go_at_call 79; (with_reducible refine (checkSquare_any p _ m _ lom tpm w Hm.out tm Sm.out).mono ?_); rintro e w1 ⟨rfl, hb⟩; rw [HC.out]; have HB := Lib.hid hb; clear hb)
    go_loopw [7, 18] (fun s t wr => ∃ i : Nat, i ≤ m.length ∧ s = .int .i64 (sm i (fun i => at' m i i)) ∧ t = .int .i64 i ∧ Below w.heap.size w wr) (fun _ t _ => m.length - (intOf t).toNat)
    case atStart => exact ⟨0, Nat.zero_le _, by simp [sm], rfl, HB.out⟩
    case round =>
      obtain ⟨i, hi, rfl, rfl, hbel⟩ := hrel
      have HB2 := Lib.hid hbel
      obtain ⟨d0, d1⟩ := trc_bd L1.out HE.out i hi
      by_cases hlt : i < m.length
      · obtain ⟨b1, o1, r1, c1, ha1, _, _, hr1, hrow1⟩ := (Hm.out.below hbel tm).row hlt
        subst ha1
        obtain ⟨b2, o2, ha2, _, _, hc1o⟩ := hrow1.num (j := i) (by rw [L1.out.len i hlt, ← HE.out]; exact hlt)
        subst ha2
        have hc1 : wr.cell? ⟨b2, o2 + i, none⟩ = some (.int .i64 (at' m i i)) := hc1o
        rw [L1.out.len i hlt, ← HE.out] at hr1
        obtain ⟨x0, x1⟩ := L1.out.at (i := i) (j := i) hlt (by rw [← HE.out]; exact hlt)
        have hst : sm i (fun i => at' m i i) + at' m i i = sm (i + 1) (fun i => at' m i i) := rfl
        obtain ⟨x, hx⟩ : ∃ x, x = at' m i i := ⟨_, rfl⟩
        obtain ⟨d, hd⟩ : ∃ d, d = sm i (fun i => at' m i i) := ⟨_, rfl⟩
        rw [← hx] at hc1 x0 x1 hst
        rw [← hd] at d0 d1 hst
        rw [← hd]
        have HS := Lib.hid hst
        clear hx hd hst hbel hrow1 hc1o
        go_wp2
        go_roundw
        case rel => exact ⟨i + 1, by omega, by rw [← HS.out], by go_num, HB2.out⟩
        case measure => simp [intOf]; omega
      · have hn : i = m.length := by omega
        subst hn
        obtain ⟨d, hd⟩ : ∃ d, d = sm m.length (fun i => at' m i i) := ⟨_, rfl⟩
        rw [← hd] at d0 d1
        have HD := Lib.hid hd
        rw [← hd]
        clear hbel hd
        go_wp2
        go_ret2
        exact ⟨by rw [HV.out, HC.out]; unfold trcM; rw [← HD.out]; rfl, HB2.out⟩
  · have e1 : (sqC p m == 0) = false := by simpa using h1
    have e2 : (sqC p m != 0) = true := by simpa using h1
    have HV : Hid (trcV p m = 0) := by show _ = _; unfold trcV; rw [if_neg h1]
    obtain ⟨q, hq0⟩ : ∃ q, q = sqC p m := ⟨_, rfl⟩
    have HQ0 := Lib.hid hq0
    rw [← hq0] at e1 e2
    rw [← hq0]
    clear h1 hq0
    go_enter Try.func37, Try.ntmps37
    go_wp2_with (go_at_call 79; (with_reducible refine (checkSquare_any p _ m _ lom tpm w Hm.out tm Sm.out).mono ?_); rintro e w1 ⟨rfl, hb⟩; rw [← HQ0.out]; have HB := Lib.hid hb; clear hb)
    go_ret2
    exact ⟨by rw [HV.out]; rfl, HB.out⟩

end Go.Proofs.Ytckndpoklimnbaa
