/-
  SolveMatrix: contracts of the program and of the model.
  Conditions: the arguments are nil or rows of known cells, of at most 1048576 numbers.
-/
import Derived.Test.YtihanbfbgiiakaaSolS
import Derived.Test.YtihanbfbgiiakaaBes
import Derived.Test.YtihanbfbgiiakaaElK
import Derived.Test.YtihanbfbgiiakaaImA
import Derived.Test.YtihanbfbgiiakaaImC
import Derived.Test.YtihanbfbgiiakaaKit
namespace Go.Proofs.Ytihanbfbgiiakaa
open Go.RowKit Go.ChangeShapes Go.WideShapes
set_option linter.unusedVariables false

theorem elimX (p : Int) (a : Option Addr) (A : List (List Int)) (n ca lo tp c : Nat) (w : World) (hn : A.length = n) (hm : MatIn lo tp w a A) (ht : tp ≤ w.heap.size) (hA : RowsX p c A) :
    Calls Try.prog 56 #[.int .i64 p, .slice a n ca] w (ElimK p A w) := by
  subst hn
  have hp := hA.prime
  have hc0 := hA.c0
  have hc1 := hA.c1
  have h0 := hA.len0
  refine (eliminate_bas p a A ca lo tp w hp hm ht hA.hi (fun i hi => by rw [hA.len i hi, h0]; exact ⟨hc0, hc1, rfl⟩) (fun i hi j hj => hA.rng i hi j (by rw [← hA.len i hi]; exact hj))).mono ?_
  rintro e w' ⟨P, d, dd, ar, ap, cr, cp, kb, c', RB, RO, RC, rfl, hE, hM, hB, hk, hd⟩
  obtain ⟨_, rfl⟩ := hd hA.lo
  have hK := hM.kept hp
  refine ⟨ar, cr, ap, cp, dd, rfl, hE.own hK.len hk, ?_, hK.bas, hB⟩
  rw [pvL_congr (fun i hi => hK.red.pvs hK.len hi)]
  exact hE.pivRow.mono hk (Nat.le_refl _)
theorem matOne {W : World} {lo tp cv b : Nat} {a : Option Addr} {v : List Int} (hb' : b = W.heap.size) (hv : RowIn lo tp W a v) (tv : tp ≤ W.heap.size) (T : TypeId) :
    MatIn 0 (W.alloc (.cells #[.slice a v.length cv] T)).heap.size (W.alloc (.cells #[.slice a v.length cv] T)) (some ⟨b, 0, none⟩) [v] := by
  subst hb'
  refine .inr ⟨W.heap.size, 0, rfl, Nat.zero_le _, by simp, fun i hi => ?_⟩
  have hb := balloc W (.cells #[.slice a v.length cv] T)
  match i, hi with
  | 0, _ => exact ⟨a, cv, by simp [go_sem, rw'], (hv.below hb tv).mono (Nat.zero_le _) (Nat.le_trans tv hb.size)⟩
theorem transpCol (av : Option Addr) (v : List Int) (nv cv lov tpv b cap : Nat) (W : World) (T : TypeId) (hb : b = W.heap.size) (hnv : v.length = nv) (hv : RowIn lov tpv W av v) (tv : tpv ≤ W.heap.size) (v0 : 0 < nv) (v1 : nv ≤ 1024) :
    Calls Try.prog 65 #[.slice (some ⟨b, 0, none⟩) 1 cap] (W.alloc (.cells #[.slice av nv cv] T)) (NewMN nv (col v) (W.alloc (.cells #[.slice av nv cv] T))) := by
  subst hnv
  refine (transposed_any (some ⟨b, 0, none⟩) [v] cap 0 _ _ (matOne (cv := cv) hb hv tv T) (Nat.le_refl _) (by show 0 < 1; omega) (fun i hi => by match i, hi with | 0, _ => rfl) (by show 1 ≤ 1024; omega) (by show v.length ≤ 1024; exact v1)).mono ?_
  rintro e w' ⟨r, k, rfl, ho, hb'⟩
  rw [col_tr] at ho ⊢
  exact ⟨r, k, by rw [col_len], ho.mat, hb'⟩

noncomputable def solC (p : Int) (A : List (List Int)) (v : List Int) : Int := if isM p A = true then (if v.length = A.length ∧ v.all (inr p) = true then (if solOk p A v = true then 0 else 4) else 2) else 1
noncomputable def solV (p : Int) (A : List (List Int)) (v : List Int) : List Int := if isM p A = true then (if v.length = A.length ∧ v.all (inr p) = true then solL p A v else []) else []
theorem sol_not {p : Int} {A : List (List Int)} {v : List Int} (h : isM p A = false) : solC p A v = 1 ∧ solV p A v = [] := by unfold solC solV; rw [if_neg (by simp [h]), if_neg (by simp [h])]; exact ⟨rfl, rfl⟩
theorem sol_rng {p : Int} {A : List (List Int)} {v : List Int} (h : isM p A = true) (k : ¬ (v.length = A.length ∧ v.all (inr p) = true)) : solC p A v = 2 ∧ solV p A v = [] := by unfold solC solV; rw [if_pos h, if_neg k, if_pos h, if_neg k]; exact ⟨rfl, rfl⟩
theorem sol_in {p : Int} {A : List (List Int)} {v : List Int} (h : isM p A = true) (k : v.length = A.length ∧ v.all (inr p) = true) : solC p A v = (if solOk p A v = true then 0 else 4) ∧ solV p A v = solL p A v := by unfold solC solV; rw [if_pos h, if_pos k, if_pos h, if_pos k]; exact ⟨rfl, rfl⟩
theorem solL_no {p : Int} {A : List (List Int)} {v : List Int} (h : solOk p A v = false) : solL p A v = [] := by unfold solL; rw [if_neg (by simp [h])]
theorem solV_size (p : Int) (A : List (List Int)) (v : List Int) : (solV p A v).length ≤ 1048576 := by
  unfold solV
  split
  · rename_i h
    split
    · unfold solL
      split
      · rw [solvec_len]; have := (isL_iff.1 h).c1 0 (isL_iff.1 h).lo; omega
      · simp
    · simp
  · simp

set_option maxRecDepth 100000 in
set_option maxHeartbeats 3200000 in
theorem spec_SolveMatrix (p : Int) (am : Option Addr) (m : List (List Int)) (cm lom tpm : Nat) (av : Option Addr) (v : List Int) (cv lov tpv : Nat) (w : World) (hm : MatIn lom tpm w am m) (tm : tpm ≤ w.heap.size) (sm : m.length + tot m m.length ≤ 1048576) (hv : RowIn lov tpv w av v) (tv : tpv ≤ w.heap.size) (sv : v.length ≤ 1048576) :
    Calls Try.prog 24 #[.int .i64 p, .slice am m.length cm, .slice av v.length cv] w (SpecR (solV p m v) (solC p m v) w) := by
  have Hm := Lib.hid hm
  have Sm := Lib.hid sm
  have Hv := Lib.hid hv
  clear hm sm hv
  by_cases h : isM p m = true
  · have HI := Lib.hid h
    have HL := Lib.hid (isL_iff.1 h)
    have hm0 : 0 < m.length := (isL_iff.1 h).lo
    by_cases h2 : v.length = m.length
    · have e1 : ((v.length : Int) == (m.length : Int)) = true := by simp [h2]
      have e2 : ((v.length : Int) != (m.length : Int)) = false := by simp [h2]
      have H2 := Lib.hid h2
      by_cases h3 : v.all (inr p) = true
      · have H3 := Lib.hid h3
        have HV := Lib.hid (sol_in h ⟨h2, h3⟩)
        clear h h2 h3
        cases hok : solOk p m v with
        | true =>
          have HK := Lib.hid hok
          clear hok
          go_enter Try.func24, Try.ntmps24
          go_wp2_with (first | (go_at_call 57; (with_reducible refine (l02Is_any p _ m _ lom tpm w Hm.out (len_of Sm.out).1 (len_of Sm.out).2).mono ?_); rintro e w1 ⟨rfl, hq⟩; rw [HI.out]; have HQ := Lib.hid hq; clear hq) | (go_at_call 61; (with_reducible refine (numsRow p av v cv lov tpv _ HL.out.prime (Hv.out.same (HQ.out.same _ _)) (by omega)).mono ?_); rintro e w' ⟨rfl, rfl⟩; rw [H3.out]) | (go_at_call 62; (with_reducible refine (l02Solve_any p am m cm lom tpm av v cv lov tpv w1 (Hm.out.same (HQ.out.same _ _)) (Nat.le_trans tm (HQ.out.below 0).size) (Hv.out.same (HQ.out.same _ _)) (Nat.le_trans tv (HQ.out.below 0).size) HL.out H2.out H3.out).mono ?_); rintro e w2 ⟨r2, k2, rfl, ho2, hb2⟩; rw [HK.out]; have HO2 := Lib.hid ho2; have HB2 := Lib.hid hb2; clear ho2 hb2))
          go_ret2
          rw [HV.out.1, HV.out.2, HK.out]
          exact ⟨_, _, rfl, HO2.out.mono (HQ.out.below 0).size (Nat.le_refl _), (HQ.out.below _).trans (HB2.out.mono (HQ.out.below 0).size)⟩
        | false =>
          have HK := Lib.hid hok
          clear hok
          go_enter Try.func24, Try.ntmps24
          go_wp2_with (first | (go_at_call 57; (with_reducible refine (l02Is_any p _ m _ lom tpm w Hm.out (len_of Sm.out).1 (len_of Sm.out).2).mono ?_); rintro e w1 ⟨rfl, hq⟩; rw [HI.out]; have HQ := Lib.hid hq; clear hq) | (go_at_call 61; (with_reducible refine (numsRow p av v cv lov tpv _ HL.out.prime (Hv.out.same (HQ.out.same _ _)) (by omega)).mono ?_); rintro e w' ⟨rfl, rfl⟩; rw [H3.out]) | (go_at_call 62; (with_reducible refine (l02Solve_any p am m cm lom tpm av v cv lov tpv w1 (Hm.out.same (HQ.out.same _ _)) (Nat.le_trans tm (HQ.out.below 0).size) (Hv.out.same (HQ.out.same _ _)) (Nat.le_trans tv (HQ.out.below 0).size) HL.out H2.out H3.out).mono ?_); rintro e w2 ⟨r2, k2, rfl, ho2, hb2⟩; rw [HK.out]; have HB2 := Lib.hid hb2; clear ho2 hb2))
          go_ret2
          rw [HV.out.1, HV.out.2, HK.out, solL_no HK.out]
          exact ⟨none, 0, rfl, .inl rfl, (HQ.out.below _).trans (HB2.out.mono (HQ.out.below 0).size)⟩
      · have H3 : Hid (v.all (inr p) = false) := by show _ = _; simpa using h3
        have HV := Lib.hid (sol_rng h (fun k => h3 k.2))
        clear h h2 h3
        go_enter Try.func24, Try.ntmps24
        go_wp2_with (first | (go_at_call 57; (with_reducible refine (l02Is_any p _ m _ lom tpm w Hm.out (len_of Sm.out).1 (len_of Sm.out).2).mono ?_); rintro e w1 ⟨rfl, hq⟩; rw [HI.out]; have HQ := Lib.hid hq; clear hq) | (go_at_call 61; (with_reducible refine (numsRow p av v cv lov tpv _ HL.out.prime (Hv.out.same (HQ.out.same _ _)) (by omega)).mono ?_); rintro e w' ⟨rfl, rfl⟩; rw [H3.out]))
        go_ret2
        rw [HV.out.1, HV.out.2]
        exact ⟨none, 0, rfl, .inl rfl, HQ.out.below _⟩
    · obtain ⟨e1, e2⟩ := neq_spell h2
      have HV := Lib.hid (sol_rng h (fun k => h2 k.1))
      clear h h2
      go_enter Try.func24, Try.ntmps24
      go_wp2_with (first | (go_at_call 57; (with_reducible refine (l02Is_any p _ m _ lom tpm w Hm.out (len_of Sm.out).1 (len_of Sm.out).2).mono ?_); rintro e w1 ⟨rfl, hq⟩; rw [HI.out]; have HQ := Lib.hid hq; clear hq))
      go_ret2
      rw [HV.out.1, HV.out.2]
      exact ⟨none, 0, rfl, .inl rfl, HQ.out.below _⟩
  · have HI : Hid (isM p m = false) := by show isM p m = false; simpa using h
    have HV := Lib.hid (sol_not (v := v) (by simpa using h : isM p m = false))
    clear h
    go_enter Try.func24, Try.ntmps24
    go_wp2_with (first | (go_at_call 57; (with_reducible refine (l02Is_any p _ m _ lom tpm w Hm.out (len_of Sm.out).1 (len_of Sm.out).2).mono ?_); rintro e w1 ⟨rfl, hq⟩; rw [HI.out]; have HQ := Lib.hid hq; clear hq))
    go_ret2
    rw [HV.out.1, HV.out.2]
    exact ⟨none, 0, rfl, .inl rfl, HQ.out.below _⟩

end Go.Proofs.Ytihanbfbgiiakaa
