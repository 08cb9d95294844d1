/-
  TransposeMatrix, in the program and in the model.
  Conditions: the arguments are nil or rows of known cells, of at most 1048576 numbers.
-/
import Derived.Test.YtckndpoklimnbaaKit
import Derived.Test.YtckndpoklimnbaaImA
import Derived.Test.YtckndpoklimnbaaSpB
import Derived.Test.YtckndpoklimnbaaSpT
namespace Go.Proofs.Ytckndpoklimnbaa
open Go.RowKit
set_option linter.unusedVariables false

theorem rect_of {n : Nat} {p : Int} {m : List (List Int)} (h : Lst n p m) : Rect p m (rw' m 0).length where
  rows := by have := h.hi; omega
  cols := by
    by_cases h0 : 0 < m.length
    · have := h.c1 0 h0; omega
    · have e : m = [] := List.eq_nil_of_length_eq_zero (by omega)
      rw [e]; simp [rw']
  len := h.len
  num i hi := Nums.of (h.all i hi)

theorem tot_const {m : List (List Int)} {c : Nat} (h : ∀ i, i < m.length → (rw' m i).length = c) : ∀ {k : Nat}, k ≤ m.length → tot m k = k * c := by
  intro k
  induction k with
  | zero => intro _; simp [tot]
  | succ k ih => intro hk; simp only [tot]; rw [ih (by omega), h k (by omega), Nat.succ_mul]
theorem mk_size {n c : Nat} {f : Nat → Nat → Int} (hn : n ≤ 1024) (hc : c ≤ 1023) : (mk n c f).length + tot (mk n c f) (mk n c f).length ≤ 1048576 := by
  have h := tot_const (m := mk n c f) (c := c) (fun i hi => mk_rowLen f (by rwa [mk_len] at hi)) (k := n) (by rw [mk_len]; exact Nat.le_refl _)
  rw [mk_len, h]
  have : n * c ≤ 1024 * 1023 := Nat.mul_le_mul hn hc
  omega
theorem Lst.c16 {n : Nat} {p : Int} {m : List (List Int)} (h : Lst n p m) : (rw' m 0).length ≤ 16 := by
  by_cases h0 : 0 < m.length
  · exact h.c1 0 h0
  · have e : m = [] := List.eq_nil_of_length_eq_zero (by omega)
    rw [e]; simp [rw']
def trV (p : Int) (m : List (List Int)) : List (List Int) := if isM p m = true then trM m else []
theorem trV_size (p : Int) (m : List (List Int)) : (trV p m).length + tot (trV p m) (trV p m).length ≤ 1048576 := by
  unfold trV
  split
  · rename_i h
    have h1 := isL_iff.1 h
    have e : trM m = mk (rw' m 0).length m.length fun k i => at' m i k := rfl
    have h2 := h1.c16
    have h3 := h1.hi
    rw [e]; exact mk_size (by omega) (by omega)
  · simp [tot]

set_option maxRecDepth 100000 in
set_option maxHeartbeats 1600000 in
theorem spec_TransposeMatrix (p : Int) (am : Option Addr) (m : List (List Int)) (cm lom tpm : Nat) (w : World) (hm : MatIn lom tpm w am m) (tm : tpm ≤ w.heap.size) (sm : m.length + tot m m.length ≤ 1048576) :
    Calls Try.prog 20 #[.int .i64 p, .slice am m.length cm] w (SpecM (trV p m) (chk1 p m) w) := by
  have Hm := Lib.hid hm
  have Sm := Lib.hid sm
  clear hm sm
  by_cases h : isM p m = true
  · have HI := Lib.hid h
    have HL := Lib.hid (isL_iff.1 h)
    have HV : Hid (trV p m = trM m) := by show _ = _; unfold trV; rw [if_pos h]
    clear h
    go_enter Try.func20, Try.ntmps20
    go_wp2_with (first | (go_at_call 60; (with_reducible refine (l02Is_any _ _ _ _ lom tpm _ Hm.out (len_of Sm.out).1 (len_of Sm.out).2).mono ?_); rintro e w1 ⟨rfl, hq⟩; rw [HI.out]; have HQ := Lib.hid hq; have hz := quiet_z hq; clear hq) | (go_at_call 62; (with_reducible refine (l02Turn_any _ _ _ lom tpm _ (Hm.out.same (HQ.out.same _ _)) (by omega) (by have := HL.out.lo; omega) HL.out.len (by have := HL.out.hi; omega) (by have := HL.out.c16; omega)).mono ?_); rintro e w2 ⟨r2, k2, rfl, ho2, hb2⟩; have HO2 := Lib.hid ho2; have HB2 := Lib.hid hb2; clear ho2 hb2))
    go_ret2
    rw [HV.out, chk1_yes HI.out]
    exact ⟨_, _, rfl, HO2.out.mono hz (Nat.le_refl _), ((HQ.out.below _).trans (HB2.out.mono hz))⟩
  · have HI : Hid (isM p m = false) := by show isM p m = false; simpa using h
    have HV : Hid (trV p m = []) := by show _ = _; unfold trV; rw [if_neg h]
    clear h
    go_enter Try.func20, Try.ntmps20
    go_wp2_with (first | (go_at_call 60; (with_reducible refine (l02Is_any _ _ _ _ lom tpm _ Hm.out (len_of Sm.out).1 (len_of Sm.out).2).mono ?_); rintro e w1 ⟨rfl, hq⟩; rw [HI.out]; have HQ := Lib.hid hq; have hz := quiet_z hq; clear hq))
    go_ret2
    rw [HV.out, chk1_no HI.out]
    exact ⟨none, 0, rfl, .inl rfl, HQ.out.below _⟩

set_option maxRecDepth 100000 in
set_option maxHeartbeats 1600000 in
theorem impl_TransposeMatrix (p : Int) (am : Option Addr) (m : List (List Int)) (cm lom tpm : Nat) (w : World) (hm : MatIn lom tpm w am m) (tm : tpm ≤ w.heap.size) (sm : m.length + tot m m.length ≤ 1048576) :
    Calls Try.prog 21 #[.int .i64 p, .slice am m.length cm] w (ImplM (trV p m) (chk1 p m) w) := by
  have Hm := Lib.hid hm
  have Sm := Lib.hid sm
  clear hm sm
  by_cases h : isM p m = true
  · have HI := Lib.hid h
    have HL := Lib.hid (isL_iff.1 h)
    have HV : Hid (trV p m = trM m) := by show _ = _; unfold trV; rw [if_pos h]
    have HC := Lib.hid (chk1_yes h)
    clear h
    go_enter Try.func21, Try.ntmps21
    go_wp2_with (first | (go_at_call 63; (with_reducible refine (checkOne_new p _ m _ lom tpm w _ Hm.out tm Sm.out).mono ?_); rintro e w1 ⟨rfl, rfl⟩; rw [HC.out]) | (go_at_call 64; (with_reducible refine (transposed_any _ _ _ lom tpm _ (Hm.out.below ((Below.refl _ _).alloc (Nat.le_refl _) _) tm) (by simp; omega) (by have := HL.out.lo; omega) HL.out.len (by have := HL.out.hi; omega) (by have := HL.out.c16; omega)).mono ?_); rintro e w2 ⟨r2, k2, rfl, ho2, hb2⟩; have HO2 := Lib.hid ho2; have HB2 := Lib.hid hb2; clear ho2 hb2))
    go_ret2
    rw [HV.out, HC.out]
    exact ⟨_, _, rfl, HO2.out.mono (by simp) (Nat.le_refl _), ((Below.refl _ _).alloc (Nat.le_refl _) _).trans (HB2.out.mono (by simp))⟩
  · have HI : Hid (isM p m = false) := by show isM p m = false; simpa using h
    have HV : Hid (trV p m = []) := by show _ = _; unfold trV; rw [if_neg h]
    have HC := Lib.hid (chk1_no (by simpa using h : isM p m = false))
    clear h
    go_enter Try.func21, Try.ntmps21
    go_wp2_with (first | (go_at_call 63; (with_reducible refine (checkOne_new p _ m _ lom tpm w _ Hm.out tm Sm.out).mono ?_); rintro e w1 ⟨rfl, rfl⟩; rw [HC.out]))
    go_ret2
    rw [HV.out, HC.out]
    exact ⟨none, 0, rfl, .inl rfl, (Below.refl _ _).alloc (Nat.le_refl _) _⟩

end Go.Proofs.Ytckndpoklimnbaa
