/-
  Determinants, in the program and in the model.
  Conditions: the arguments are nil or rows of known cells, of at most 1048576 numbers.
-/
import Derived.Test.YtihanbfbgiiakaaDtW
import Derived.Test.YtihanbfbgiiakaaSpI
import Derived.Test.YtihanbfbgiiakaaSqr
namespace Go.Proofs.Ytihanbfbgiiakaa
open Go.RowKit Go.ChangeShapes Go.WideShapes
set_option linter.unusedVariables false

def detV (p : Int) (m : List (List Int)) : Int := if sqC p m = 0 then detP p m else 0
theorem field_ech2 (x y z : Value) (w : World) : (Instr.field 59 (.agg #[x, y, z]) 2).run Try.prog w = .ok z w := by kernel_rfl
theorem sqM {p : Int} {m : List (List Int)} (h : Lst 1 p m) : isL 0 p m = true := isL_iff.2 { h with lo := Nat.zero_le _ }
theorem det_bd {p : Int} (hp : prm p = true) (m : List (List Int)) : 0 ≤ detP p m ∧ detP p m < p := by
  have := prm_bd hp
  unfold detP
  exact ⟨Int.emod_nonneg _ (by omega), Int.emod_lt_of_pos _ (by omega)⟩

set_option maxRecDepth 100000 in
set_option maxHeartbeats 1600000 in
theorem spec_Determinant (p : Int) (am : Option Addr) (m : List (List Int)) (cm lom tpm : Nat) (w : World) (hm : MatIn lom tpm w am m) (tm : tpm ≤ w.heap.size) (sm' : m.length + tot m m.length ≤ 1048576) :
    Calls Try.prog 16 #[.int .i64 p, .slice am m.length cm] w (RetI (detV p m) (sqC p m) w) := by
  have Hm := Lib.hid hm
  have Sm := Lib.hid sm'
  clear hm sm'
  rcases sq_cases p m with ⟨h1, h2, h3⟩ | h1
  · have HC := Lib.hid h1
    have HV : Hid (detV p m = detP p m) := by show _ = _; unfold detV; rw [if_pos h1]
    have L1 := Lib.hid h2
    have HE := Lib.hid h3
    have hn := h2.hi
    have hn0 : 0 < m.length := h2.lo
    clear h1 h2 h3
    go_enter Try.func16, Try.ntmps16
    go_wp2_with (first | (go_at_call 53; (with_reducible refine (spec_l02Square p _ m _ lom tpm w Hm.out tm Sm.out).mono ?_); rintro e w1 ⟨rfl, hq⟩; rw [HC.out]; have HQ := Lib.hid hq; clear hq) | (go_at_call 54; go_loud (with_reducible refine (l02Det_any p _ m _ lom tpm w1 L1.out.prime (Hm.out.same (HQ.out.same _ _)) (Nat.le_trans tm (HQ.out.below 0).size) hn0 (by omega) (fun i hi => by rw [L1.out.len i hi, HE.out]) (fun i hi j hj => L1.out.at hi (by rw [← HE.out]; exact hj))).mono ?_); rintro e w2 ⟨rfl, hb⟩; have HB := Lib.hid hb; clear hb))
    go_ret2
    exact ⟨by rw [HV.out, HC.out]; rfl, (HQ.out.below _).trans (HB.out.mono (HQ.out.below 0).size)⟩
  · have e1 : (sqC p m == 0) = false := by simpa using h1
    have e2 : (sqC p m != 0) = true := by simpa using h1
    have HV : Hid (detV p m = 0) := by show _ = _; unfold detV; rw [if_neg h1]
    obtain ⟨q, hq0⟩ : ∃ q, q = sqC p m := ⟨_, rfl⟩
    have HQ0 := Lib.hid hq0
    rw [← hq0] at e1 e2
    rw [← hq0]
    clear h1 hq0
    go_enter Try.func16, Try.ntmps16
    go_wp2_with (go_at_call 53; (with_reducible refine (spec_l02Square p _ m _ lom tpm w Hm.out tm Sm.out).mono ?_); rintro e w1 ⟨rfl, hq⟩; rw [← HQ0.out]; have HQ := Lib.hid hq; clear hq)
    go_ret2
    exact ⟨by rw [HV.out]; rfl, HQ.out.below _⟩

/-- What elimination tells of a square matrix: as many rows as columns and the determinant, or fewer and 0. -/
def ElimD (p : Int) (A : List (List Int)) (w : World) (e : Ending) (w' : World) : Prop :=
  ∃ ar cr ap cp dd, e = .returned (.agg #[.slice ar (bas p A).length cr, .slice ap (bas p A).length cp, .int .i64 dd]) ∧ ((bas p A).length < A.length → detP p A = 0) ∧ (¬ (bas p A).length < A.length → detP p A = dd) ∧ Below w.heap.size w w'
theorem elimD (p : Int) (a : Option Addr) (A : List (List Int)) (ca lo tp : Nat) (w : World) (hm : MatIn lo tp w a A) (ht : tp ≤ w.heap.size) (hA : Lst 1 p A) (hq : A.length = (rw' A 0).length) :
    Calls Try.prog 56 #[.int .i64 p, .slice a A.length ca] w (ElimD p A w) := by
  refine (elimL p a A ca lo tp w hm ht (sqM hA)).mono ?_
  rintro e w' ⟨P, d, dd, ar, ap, cr, cp, kb, c, RB, RO, RC, rfl, hE, hM, hB, hk, hd⟩
  obtain ⟨rfl, hc⟩ := hd hA.lo
  refine ⟨ar, cr, _, _, dd, rfl, ?_, ?_, hB⟩ <;> rcases hM.value hA.prime (by rw [hc]; exact hq) with ⟨h1, h2, _⟩ | ⟨h1, h2⟩
  · intro h; omega
  · exact fun _ => h2
  · exact fun _ => h2
  · intro h; omega

set_option maxRecDepth 100000 in
set_option maxHeartbeats 1600000 in
theorem impl_Determinant (p : Int) (am : Option Addr) (m : List (List Int)) (cm lom tpm : Nat) (w : World) (hm : MatIn lom tpm w am m) (tm : tpm ≤ w.heap.size) (sm' : m.length + tot m m.length ≤ 1048576) :
    Calls Try.prog 18 #[.int .i64 p, .slice am m.length cm] w (RetI (detV p m) (sqC p m) w) := by
  have Hm := Lib.hid hm
  have Sm := Lib.hid sm'
  have fv := field_ech
  have fv2 := field_ech2
  clear hm sm'
  rcases sq_cases p m with ⟨h1, h2, h3⟩ | h1
  · have HC := Lib.hid h1
    have HV : Hid (detV p m = detP p m) := by show _ = _; unfold detV; rw [if_pos h1]
    have L1 := Lib.hid h2
    have HE := Lib.hid h3
    have hn := h2.hi
    clear h1 h2 h3
    obtain ⟨bl, hbl⟩ : ∃ x, x = (bas p m).length := ⟨_, rfl⟩
    have HBL := Lib.hid hbl
    clear hbl
    by_cases hlt : bl < m.length
    · have g1 : (bl : Int) < (m.length : Int) := by omega
      go_enter Try.func18, Try.ntmps18
      go_wp2_with (first | (go_at_call 55; (with_reducible refine (checkSquare_any p _ m _ lom tpm w Hm.out tm Sm.out).mono ?_); rintro e w1 ⟨rfl, hb⟩; rw [HC.out]; have HB := Lib.hid hb; clear hb) | (go_at_call 56; go_loud (with_reducible refine (elimD p _ m _ lom tpm w1 (Hm.out.below HB.out tm) (Nat.le_trans tm HB.out.size) L1.out HE.out).mono ?_); rintro e w2 ⟨r2, k2, ap, cp, dd, rfl, ha, hb, hb2⟩; have HB2 := Lib.hid (HB.out.trans (hb2.mono HB.out.size)); clear hb2; have HD := Lib.hid (ha (by rw [← HBL.out]; exact hlt)); rw [← HBL.out]; clear ha hb))
      go_ret2
      exact ⟨by rw [HV.out, HC.out, HD.out]; rfl, HB2.out.alloc (by have := HB2.out.size; omega) _⟩
    · have g1 : ¬ (bl : Int) < (m.length : Int) := by omega
      go_enter Try.func18, Try.ntmps18
      go_wp2_with (first | (go_at_call 55; (with_reducible refine (checkSquare_any p _ m _ lom tpm w Hm.out tm Sm.out).mono ?_); rintro e w1 ⟨rfl, hb⟩; rw [HC.out]; have HB := Lib.hid hb; clear hb) | (go_at_call 56; go_loud (with_reducible refine (elimD p _ m _ lom tpm w1 (Hm.out.below HB.out tm) (Nat.le_trans tm HB.out.size) L1.out HE.out).mono ?_); rintro e w2 ⟨r2, k2, ap, cp, dd, rfl, ha, hb, hb2⟩; have HB2 := Lib.hid (HB.out.trans (hb2.mono HB.out.size)); clear hb2; have HD := Lib.hid (hb (by rw [← HBL.out]; exact hlt)); rw [← HBL.out]; clear ha hb))
      go_ret2
      exact ⟨by rw [HV.out, HC.out, HD.out]; rfl, HB2.out.alloc (by have := HB2.out.size; omega) _⟩
  · have e1 : (sqC p m == 0) = false := by simpa using h1
    have e2 : (sqC p m != 0) = true := by simpa using h1
    have HV : Hid (detV p m = 0) := by show _ = _; unfold detV; rw [if_neg h1]
    obtain ⟨q, hq0⟩ : ∃ q, q = sqC p m := ⟨_, rfl⟩
    have HQ0 := Lib.hid hq0
    rw [← hq0] at e1 e2
    rw [← hq0]
    clear h1 hq0
    go_enter Try.func18, Try.ntmps18
    go_wp2_with (go_at_call 55; (with_reducible refine (checkSquare_any p _ m _ lom tpm w Hm.out tm Sm.out).mono ?_); rintro e w1 ⟨rfl, hb⟩; rw [← HQ0.out]; have HB := Lib.hid hb; clear hb)
    go_ret2
    exact ⟨by rw [HV.out]; rfl, HB.out⟩

end Go.Proofs.Ytihanbfbgiiakaa
