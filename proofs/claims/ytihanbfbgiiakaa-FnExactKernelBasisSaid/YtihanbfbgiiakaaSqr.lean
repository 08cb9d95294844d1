/-
  Square matrices, in the model.
  Conditions: the arguments are nil or rows of known cells, of at most 1048576 numbers.
-/
import Derived.Test.YtihanbfbgiiakaaIsR
import Derived.Test.YtihanbfbgiiakaaImA
namespace Go.Proofs.Ytihanbfbgiiakaa
open Go.RowKit
set_option linter.unusedVariables false

theorem sq_yes {p : Int} {m : List (List Int)} (h : isM p m = true) (k : m.length = (rw' m 0).length) : sqC p m = 0 := by unfold sqC; rw [if_pos h, if_pos k]
theorem sq_no {p : Int} {m : List (List Int)} (h : isM p m = true) (k : ¬ m.length = (rw' m 0).length) : sqC p m = 2 := by unfold sqC; rw [if_pos h, if_neg k]
theorem sq_not {p : Int} {m : List (List Int)} (h : isM p m = false) : sqC p m = 1 := by unfold sqC; rw [if_neg (by simp [h])]
theorem sq_cases (p : Int) (m : List (List Int)) : (sqC p m = 0 ∧ Lst 1 p m ∧ m.length = (rw' m 0).length) ∨ sqC p m ≠ 0 := by
  by_cases h : isM p m = true
  · by_cases k : m.length = (rw' m 0).length
    · exact .inl ⟨sq_yes h k, isL_iff.1 h, k⟩
    · right; rw [sq_no h k]; simp
  · right; rw [sq_not (by simpa using h)]; simp

def SqRet (p : Int) (m : List (List Int)) (w : World) (e : Ending) (w' : World) : Prop := e = .returned (.int .i64 (sqC p m)) ∧ Quiet w w'
set_option maxRecDepth 100000 in
set_option maxHeartbeats 1600000 in
theorem spec_l02Square (p : Int) (am : Option Addr) (m : List (List Int)) (cm lom tpm : Nat) (w : World) (hm : MatIn lom tpm w am m) (tm : tpm ≤ w.heap.size) (sm : m.length + tot m m.length ≤ 1048576) :
    Calls Try.prog 53 #[.int .i64 p, .slice am m.length cm] w (SqRet p m w) := by
  have Hm := Lib.hid hm
  have Sm := Lib.hid sm
  clear hm sm
  by_cases h1 : isM p m = true
  · by_cases hq : m.length = (rw' m 0).length
    · have I1 := Lib.hid h1
      have hm0 : 0 < m.length := (isL_iff.1 h1).lo
      obtain ⟨b0, o0, r0, k0, ha0, _, hb0, hr0, _⟩ := Hm.out.row (i := 0) (isL_iff.1 h1).lo
      subst ha0
      rw [Nat.add_zero] at hr0
      have hb0' : b0 < w.heap.size := Nat.lt_of_lt_of_le hb0 tm
      have HV := Lib.hid (sq_yes h1 hq)
      have hl0 := (len_of Sm.out).1
      rw [← hq] at hr0
      clear h1 hq
      go_enter Try.func53, Try.ntmps53
      go_wp2_with (first | (go_at_call 57; (with_reducible refine (l02Is_any p _ m _ lom tpm w Hm.out (len_of Sm.out).1 (len_of Sm.out).2).mono ?_); rintro e w1 ⟨rfl, hq⟩; rw [I1.out]; have HQ := Lib.hid hq; clear hq; have hr0' := (HQ.out.cell _).trans hr0; clear hr0))
      go_ret
      exact ⟨by rw [HV.out]; rfl, HQ.out⟩
    · have I1 := Lib.hid h1
      have hm0 : 0 < m.length := (isL_iff.1 h1).lo
      obtain ⟨b0, o0, r0, k0, ha0, _, hb0, hr0, _⟩ := Hm.out.row (i := 0) (isL_iff.1 h1).lo
      subst ha0
      rw [Nat.add_zero] at hr0
      have hb0' : b0 < w.heap.size := Nat.lt_of_lt_of_le hb0 tm
      have HV := Lib.hid (sq_no h1 hq)
      obtain ⟨e1, e2⟩ := neq_spell hq
      have hl0 := (len_of Sm.out).2 0 hm0
      have hl1 := (len_of Sm.out).1
      clear h1 hq
      go_enter Try.func53, Try.ntmps53
      go_wp2_with (first | (go_at_call 57; (with_reducible refine (l02Is_any p _ m _ lom tpm w Hm.out (len_of Sm.out).1 (len_of Sm.out).2).mono ?_); rintro e w1 ⟨rfl, hq⟩; rw [I1.out]; have HQ := Lib.hid hq; clear hq; have hr0' := (HQ.out.cell _).trans hr0; clear hr0))
      go_ret
      exact ⟨by rw [HV.out]; rfl, HQ.out⟩
  · have I1 : Hid (isM p m = false) := by show isM p m = false; simpa using h1
    have HV := Lib.hid (sq_not (by simpa using h1 : isM p m = false))
    clear h1
    go_enter Try.func53, Try.ntmps53
    go_wp2_with (first | (go_at_call 57; (with_reducible refine (l02Is_any p _ m _ lom tpm w Hm.out (len_of Sm.out).1 (len_of Sm.out).2).mono ?_); rintro e w1 ⟨rfl, hq⟩; rw [I1.out]; have HQ := Lib.hid hq; clear hq))
    go_ret
    exact ⟨by rw [HV.out]; rfl, HQ.out⟩

end Go.Proofs.Ytihanbfbgiiakaa
