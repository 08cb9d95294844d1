/-
  Square matrices, in the model.
  Conditions: the arguments are nil or rows of known cells, of at most 1048576 numbers.
  What the program's elimination hands back, to be read: rows, pivots.
  Conditions: the list of vectors is a row of rows of known cells.
  The program's kernel: the walk.
  Conditions: the matrix is a row of rows of known cells with numbers of the prime.
  Vectors orthogonal to others: the equations, and what the equation 0 = 0 does. No Go in sight.
  No conditions.
  Lists of vectors of a space, in the program and in the model.
  Conditions: the lists are nil or rows of known cells, of at most 1048576 numbers.
  The model's vectors orthogonal to others: the walk.
  Conditions: the lists are nil or rows of known cells.
  The program's equations: the walk.
  Conditions: the lists are nil or rows of known cells.
  The program's new matrices of zeros, to be appended to.
  Conditions: at least one column, at most 1024 rows and columns.
  OrthogonalTo: contracts of the program and of the model.
  Conditions: the lists are nil or rows of known cells, of at most 1048576 numbers.
  The walk of the exact law of OrthogonalTo.
  No conditions but that the arguments are nil or rows of known cells.
-/
import Derived.Test.YtihanbfbgiiakaaIsR
import Derived.Test.YtihanbfbgiiakaaImA
import Derived.Test.YtihanbfbgiiakaaSpI
import Derived.Test.YtihanbfbgiiakaaKerS
import Derived.Test.YtihanbfbgiiakaaPiv
import Derived.Test.YtihanbfbgiiakaaElmD
import Derived.Test.YtihanbfbgiiakaaPr
import Derived.Test.YtihanbfbgiiakaaPof
import Derived.Test.YtihanbfbgiiakaaOwn
import Derived.Test.YtihanbfbgiiakaaImB
import Derived.Test.YtihanbfbgiiakaaKit
import Derived.Deep.RegionHeld3
namespace Go.Proofs.Ytihanbfbgiiakaa
open Go.RowKit
set_option linter.unusedVariables false

theorem sq_yes {p : Int} {m : List (List Int)} (h : isM p m = true) (k : m.length = (rw' m 0).length) : sqC p m = 0 := by unfold sqC; rw [if_pos h, if_pos k]
theorem sq_no {p : Int} {m : List (List Int)} (h : isM p m = true) (k : ¬ m.length = (rw' m 0).length) : sqC p m = 2 := by unfold sqC; rw [if_pos h, if_neg k]
theorem sq_not {p : Int} {m : List (List Int)} (h : isM p m = false) : sqC p m = 1 := by unfold sqC; rw [if_neg (by simp [h])]
theorem sq_cases (p : Int) (m : List (List Int)) : (sqC p m = 0 ∧ Lst 1 p m ∧ m.length = (rw' m 0).length) ∨ sqC p m ≠ 0 := by
  by_cases h : isM p m = true
  · by_cases k : m.length = (rw' m 0).length
    · exact .inl ⟨sq_yes h k, isL_iff.1 h, k⟩
    · right; rw [sq_no h k]; simp
  · right; rw [sq_not (by simpa using h)]; simp

def SqRet (p : Int) (m : List (List Int)) (w : World) (e : Ending) (w' : World) : Prop := e = .returned (.int .i64 (sqC p m)) ∧ Quiet w w'
set_option maxRecDepth 100000 in
set_option maxHeartbeats 1600000 in
theorem spec_l02Square (p : Int) (am : Option Addr) (m : List (List Int)) (cm lom tpm : Nat) (w : World) (hm : MatIn lom tpm w am m) (tm : tpm ≤ w.heap.size) (sm : m.length + tot m m.length ≤ 1048576) :
    Calls Try.prog 53 #[.int .i64 p, .slice am m.length cm] w (SqRet p m w) := by
  have Hm := Lib.hid hm
  have Sm := Lib.hid sm
  clear hm sm
  by_cases h1 : isM p m = true
  · by_cases hq : m.length = (rw' m 0).length
    · have I1 := Lib.hid h1
      have hm0 : 0 < m.length := (isL_iff.1 h1).lo
      obtain ⟨b0, o0, r0, k0, ha0, _, hb0, hr0, _⟩ := Hm.out.row (i := 0) (isL_iff.1 h1).lo
      subst ha0
      rw [Nat.add_zero] at hr0
      have hb0' : b0 < w.heap.size := Nat.lt_of_lt_of_le hb0 tm
      have HV := Lib.hid (sq_yes h1 hq)
      have hl0 := (len_of Sm.out).1
      rw [← hq] at hr0
      clear h1 hq
      go_enter Try.func53, Try.ntmps53
      go_wp2_with (first | (go_at_call 57; (with_reducible refine (l02Is_any p _ m _ lom tpm w Hm.out (len_of Sm.out).1 (len_of Sm.out).2).mono ?_); rintro e w1 ⟨rfl, hq⟩; rw [I1.out]; have HQ := Lib.hid hq; clear hq; have hr0' := (HQ.out.cell _).trans hr0; clear hr0))
      go_ret
      exact ⟨by rw [HV.out]; rfl, HQ.out⟩
    · have I1 := Lib.hid h1
      have hm0 : 0 < m.length := (isL_iff.1 h1).lo
      obtain ⟨b0, o0, r0, k0, ha0, _, hb0, hr0, _⟩ := Hm.out.row (i := 0) (isL_iff.1 h1).lo
      subst ha0
      rw [Nat.add_zero] at hr0
      have hb0' : b0 < w.heap.size := Nat.lt_of_lt_of_le hb0 tm
      have HV := Lib.hid (sq_no h1 hq)
      obtain ⟨e1, e2⟩ := neq_spell hq
      have hl0 := (len_of Sm.out).2 0 hm0
      have hl1 := (len_of Sm.out).1
      clear h1 hq
      go_enter Try.func53, Try.ntmps53
      go_wp2_with (first | (go_at_call 57; (with_reducible refine (l02Is_any p _ m _ lom tpm w Hm.out (len_of Sm.out).1 (len_of Sm.out).2).mono ?_); rintro e w1 ⟨rfl, hq⟩; rw [I1.out]; have HQ := Lib.hid hq; clear hq; have hr0' := (HQ.out.cell _).trans hr0; clear hr0))
      go_ret
      exact ⟨by rw [HV.out]; rfl, HQ.out⟩
  · have I1 : Hid (isM p m = false) := by show isM p m = false; simpa using h1
    have HV := Lib.hid (sq_not (by simpa using h1 : isM p m = false))
    clear h1
    go_enter Try.func53, Try.ntmps53
    go_wp2_with (first | (go_at_call 57; (with_reducible refine (l02Is_any p _ m _ lom tpm w Hm.out (len_of Sm.out).1 (len_of Sm.out).2).mono ?_); rintro e w1 ⟨rfl, hq⟩; rw [I1.out]; have HQ := Lib.hid hq; clear hq))
    go_ret
    exact ⟨by rw [HV.out]; rfl, HQ.out⟩

end Go.Proofs.Ytihanbfbgiiakaa

namespace Go.Proofs.Ytihanbfbgiiakaa
open Go.RowKit Go.ChangeShapes Go.WideShapes
set_option linter.unusedVariables false

theorem EchM.pivRow {w : World} {kb c nr np : Nat} {Z : Nat → Nat → Int} {P : Nat → Nat} {ar ap : Option Addr} {cr cp : Nat} {d : Int} {RB RO RC : Nat → Nat} (h : EchM w kb c nr np Z P (.slice ar nr cr) (.slice ap np cp) d RB RO RC) : RowIn kb w.heap.size w ap (pvL P np) := by
  by_cases h0 : 0 < np
  · obtain ⟨g, rfl, _, hg0, hg1⟩ := h.pivA h0
    refine .inr ⟨g, 0, rfl, by omega, hg1, fun j hj => ?_⟩
    rw [pvL_len] at hj
    obtain ⟨g', e, hc, _, _⟩ := h.pivA hj
    injection e with e1
    injection e1 with e2
    subst e2
    rw [Nat.zero_add, pvL_at hj]; exact hc
  · have : np = 0 := by omega
    subst this
    exact .inl rfl
def ElimK (p : Int) (A : List (List Int)) (w : World) (e : Ending) (w' : World) : Prop :=
  ∃ ar cr ap cp dd, e = .returned (.agg #[.slice ar (bas p A).length cr, .slice ap (bas p A).length cp, .int .i64 dd]) ∧ OwnM w.heap.size w'.heap.size w' ar (bas p A) ∧ RowIn w.heap.size w'.heap.size w' ap (pvL (pvs (bas p A)) (bas p A).length) ∧
    IsBas p (rw' A 0).length A (bas p A) ∧ Below w.heap.size w w'
theorem pvL_congr {P P' : Nat → Nat} {n : Nat} (h : ∀ i, i < n → P i = P' i) : pvL P n = pvL P' n := by
  unfold pvL
  apply List.map_congr_left
  intro i hi
  rw [h i (List.mem_range.1 hi)]
/-- Rows of one length with numbers of the prime, at least one. -/
structure RowsW (p : Int) (A : List (List Int)) : Prop where
  prime : prm p = true
  lo : 0 < A.length
  hi : A.length ≤ 1024
  c0 : 1 ≤ (rw' A 0).length
  c1 : (rw' A 0).length ≤ 16
  len : ∀ i, i < A.length → (rw' A i).length = (rw' A 0).length
  rng : ∀ i, i < A.length → ∀ j, j < (rw' A 0).length → 0 ≤ at' A i j ∧ at' A i j < p
theorem Lst.wide {p : Int} {A : List (List Int)} (h : Lst 1 p A) : RowsW p A :=
  ⟨h.prime, h.lo, by have := h.hi; omega, h.c0 0 h.lo, h.c1 0 h.lo, h.len, fun i hi j hj => h.at hi hj⟩
theorem elimK (p : Int) (a : Option Addr) (A : List (List Int)) (ca lo tp : Nat) (w : World) (hm : MatIn lo tp w a A) (ht : tp ≤ w.heap.size) (hA : RowsW p A) :
    Calls Try.prog 56 #[.int .i64 p, .slice a A.length ca] w (ElimK p A w) := by
  have hp := hA.prime
  have hc0 := hA.c0
  have hc1 := hA.c1
  refine (eliminate_bas p a A ca lo tp w hp hm ht hA.hi (fun i hi => by rw [hA.len i hi]; exact ⟨hc0, by omega, rfl⟩) (fun i hi j hj => hA.rng i hi j (by rw [← hA.len i hi]; exact hj))).mono ?_
  rintro e w' ⟨P, d, dd, ar, ap, cr, cp, kb, c, RB, RO, RC, rfl, hE, hM, hB, hk, hd⟩
  obtain ⟨_, rfl⟩ := hd hA.lo
  have hK := hM.kept hp
  refine ⟨ar, cr, ap, cp, dd, rfl, hE.own hK.len hk, ?_, hK.bas, hB⟩
  rw [pvL_congr (fun i hi => hK.red.pvs hK.len hi)]
  exact hE.pivRow.mono hk (Nat.le_refl _)
theorem kerP_lstW {p : Int} {A : List (List Int)} (h : RowsW p A) : isL 0 p (kerP p A) = true :=
  isL_iff.2 (kerN_lst h.prime h.c0 h.c1 (Nat.le_refl _))

end Go.Proofs.Ytihanbfbgiiakaa

namespace Go.Proofs.Ytihanbfbgiiakaa
open Go.RowKit
set_option linter.unusedVariables false

def OwnK (m : List (List Int)) (w : World) (e : Ending) (w' : World) : Prop :=
  ∃ r k, e = .returned (.slice r m.length k) ∧ OwnM w.heap.size w'.heap.size w' r m ∧ Below w.heap.size w w'

set_option maxRecDepth 100000 in
set_option maxHeartbeats 6400000 in
theorem kernelOf_any (p : Int) (a : Option Addr) (A : List (List Int)) (ca lo tp : Nat) (w : World) (hm : MatIn lo tp w a A) (ht : tp ≤ w.heap.size) (hA : RowsW p A) :
    Calls Try.prog 60 #[.int .i64 p, .slice a A.length ca] w (OwnK (kerB p A) w) := by
  obtain ⟨i0, hi, hz0, hz1, hz2⟩ := info_parts info64
  obtain ⟨j0, kj, kz0, kz1, kz2⟩ := info_parts info_slice
  have hpb := prm_bd hA.prime
  have HP := Lib.hid hA.prime
  have HM := Lib.hid hm
  have HA := Lib.hid hA
  have HKL := Lib.hid (kerP_lstW hA)
  have hA0 : 0 < A.length := hA.lo
  obtain ⟨b, o, r0, c0, ha, _, hb, hr0, _⟩ := HM.out.row (i := 0) hA.lo
  subst ha
  rw [Nat.add_zero] at hr0
  have c1 := hA.c0
  have c16 := hA.c1
  obtain ⟨KP, hKP⟩ : ∃ x, x = kerP p A := ⟨_, rfl⟩
  have HKP : Hid (KP = kerN p (bas p A) (pvs (bas p A)) (rw' A 0).length (bas p A).length (rw' A 0).length) := hKP
  have HKB : Hid (kerB p A = bas p KP) := by show _ = _; rw [hKP]; rfl
  rw [← hKP] at HKL
  obtain ⟨c, hcc⟩ : ∃ c, c = (rw' A 0).length := ⟨_, rfl⟩
  rw [← hcc] at hr0 c1 c16 HKP
  have HCC := Lib.hid hcc
  have hb' : b < w.heap.size := Nat.lt_of_lt_of_le hb ht
  obtain ⟨B, hB⟩ : ∃ B, B = bas p A := ⟨_, rfl⟩
  rw [← hB] at HKP
  have HBE := Lib.hid hB
  obtain ⟨n, hn⟩ : ∃ n, n = B.length := ⟨_, rfl⟩
  rw [← hn] at HKP
  have HN := Lib.hid hn
  obtain ⟨P, hP⟩ : ∃ P, P = pvs B := ⟨_, rfl⟩
  rw [← hP] at HKP
  have HPE := Lib.hid hP
  have fv := field_ech
  have hmk := fun W => run_make_row' (P := Try.prog) 31 2 (.int .i64 0) 8 Try.underlying31 info64 rfl .i64 .i64 c (by omega) (by omega) W
  have HMK := Lib.hid hmk
  rw [HKB.out]
  clear hm hA hKP hcc hB hn hP hmk
  go_enter Try.func60, Try.ntmps60
  go_wp2_with (go_at_call 56; (with_reducible refine (elimK p _ A _ lo tp _ HM.out ht HA.out).mono ?_); rintro e w2 ⟨ar, cr, ap, cp, dd, rfl, ho2, hp2, hi2, hb2⟩; rw [← HBE.out, ← HN.out]; rw [← HBE.out, ← HCC.out] at hi2; rw [← HBE.out] at ho2; rw [← HBE.out, ← HN.out, ← HPE.out] at hp2; have HIB := Lib.hid hi2; have HO2 := Lib.hid ho2.mat; have HP2 := Lib.hid hp2; have HB2 := Lib.hid hb2; have hr0' := (hb2.cell (p := ⟨b, o, none⟩) hb').trans hr0; have zw2 := hb2.size; have hr3 := ((balloc w2 (.cells #[.slice ar n cr, .slice ap n cp, .int .i64 dd] 59)).cell (p := ⟨b, o, none⟩) (Nat.lt_of_lt_of_le hb' zw2)).trans hr0'; clear ho2 hb2 hi2 hp2 hr0')
  have hRR : Rref p n c (at' B) P := by rw [HPE.out, HN.out]; exact HIB.out.pivs
  have HRR := Lib.hid hRR
  have hnc : n ≤ c := hRR.rows_le
  have HLB : Hid (∀ i, i < n → (rw' B i).length = c) := fun i hi => HIB.out.len i (by rw [← HN.out]; exact hi)
  have HB3 := Lib.hid (balloc w2 (.cells #[.slice ar n cr, .slice ap n cp, .int .i64 dd] 59))
  have HK0 := Lib.hid (cel3_new w2 (.slice ar n cr) (.slice ap n cp) (.int .i64 dd) 59).c0
  have HK1 := Lib.hid (cel3_new w2 (.slice ar n cr) (.slice ap n cp) (.int .i64 dd) 59).c1
  have hz3 : w2.heap.size < (w2.alloc (.cells #[.slice ar n cr, .slice ap n cp, .int .i64 dd] 59)).heap.size := by simp
  obtain ⟨w3, hw3⟩ : ∃ z, z = w2.alloc (.cells #[.slice ar n cr, .slice ap n cp, .int .i64 dd] 59) := ⟨_, rfl⟩
  rw [← hw3] at HB3 HK0 HK1 hz3 hr3
  rw [← hw3]
  clear hRR hw3 hr0
  go_loopw [6, 18] (fun v t wr => ∃ k : Nat, k ≤ c ∧ t = .int .i64 k ∧ OutM w3.heap.size wr v (kerN p B P c n k) ∧ Below w3.heap.size w3 wr) (fun _ t _ => c - (intOf t).toNat)
  case atStart => exact ⟨0, Nat.zero_le _, rfl, ⟨[], ⟨rfl, .inl ⟨rfl, rfl⟩⟩, fun i hi => absurd hi (Nat.not_lt_zero i)⟩, Below.refl _ _⟩
  case round =>
    obtain ⟨k, hk, rfl, ho, hbel⟩ := hrel
    have HO := Lib.hid ho
    have HBEL := Lib.hid hbel
    have hwz := hbel.size
    have k0 := (hbel.cell (p := ⟨w2.heap.size, 0, none⟩) hz3).trans HK0.out
    have k1 := (hbel.cell (p := ⟨w2.heap.size, 1, none⟩) hz3).trans HK1.out
    have hr := (hbel.cell (p := ⟨b, o, none⟩) (show b < w3.heap.size by omega)).trans hr3
    have HB3k : Hid (Below w2.heap.size w2 wr) := HB3.out.trans (hbel.mono (by omega))
    rename World => wk
    clear ho hbel
    by_cases hlt : k < c
    · have hk1 : (k : Int) < (c : Int) := by omega
      cases hpv : isPv P n k with
      | true =>
        have HPV : Hid ((pvL P n).any (· == (k : Int)) = true) := by show _ = _; rw [pvL_any]; exact hpv
        have HE := Lib.hid (kerN_pv (p := p) (B := B) (c := c) hpv)
        clear hpv
        go_wp2_with (go_at_call 100; (with_reducible refine (containsI_any ap (pvL P n) k n _ _ _ _ (HP2.out.below HB3k.out (Nat.le_refl _)) (pvL_len _ _) (by omega)).mono ?_); rintro e w' ⟨rfl, rfl⟩; rw [HPV.out])
        go_roundw
        case rel => exact ⟨k + 1, by omega, by go_num, by rw [HE.out]; exact HO.out, HBEL.out⟩
        case measure => simp [intOf]; omega
      | false =>
        have HPV : Hid ((pvL P n).any (· == (k : Int)) = false) := by show _ = _; rw [pvL_any]; exact hpv
        have HE := Lib.hid (kerN_no (p := p) (B := B) (c := c) hpv)
        have HNP : Hid (∀ i, i < n → P i ≠ k) := fun i hi => isPv_no hpv hi
        have g0 := made_cell wk (.int .i64 0) c 2 hlt
        have f0 : (wk.alloc (.cells (madeCells #[.int .i64 0] c) 2)).frozen? ⟨wk.heap.size, k, none⟩ = false := by simp [go_sem]
        have HT := Lib.hid (unit_tag wk hlt)
        have hmk := HMK.out
        have k1u := ((balloc wk (.cells ((madeCells #[.int .i64 0] c).setIfInBounds k (.int .i64 1)) 2)).cell (p := ⟨w2.heap.size, 1, none⟩) (show w2.heap.size < wk.heap.size by omega)).trans k1
        clear hpv
        go_wp2_with (go_at_call 100; (with_reducible refine (containsI_any ap (pvL P n) k n _ _ _ _ (HP2.out.below HB3k.out (Nat.le_refl _)) (pvL_len _ _) (by omega)).mono ?_); rintro e w' ⟨rfl, rfl⟩; rw [HPV.out])
        clear hmk g0 f0 k0 k1 k1u
        go_loopw [36] (fun t wr => ∃ j : Nat, j ≤ n ∧ t = .int .i64 j ∧ TagR wk.heap.size wr.heap.size wr (some ⟨wk.heap.size, 0, none⟩) (kvec p B P c j k) ∧ Below wk.heap.size wk wr) (fun t _ => n - (intOf t).toNat)
        case atStart => exact ⟨0, Nat.zero_le _, rfl, by rw [← kvec_unit (by omega)]; exact HT.out, by ((repeat' (first | with_reducible exact Below.refl _ _ | (with_reducible refine Below.setCell ?_ ?_ _) | (with_reducible refine Below.alloc ?_ ?_ _) | (with_reducible refine Below.drew ?_))); all_goals (first | (simp; done) | omega | (simp; omega)))⟩
        case round =>
          obtain ⟨j, hj, rfl, htv, hbv⟩ := hrel
          have HTV := Lib.hid htv
          have HBV := Lib.hid hbv
          have hwv := hbv.size
          have HBW : Hid (Below w2.heap.size w2 wr) := HB3k.out.trans (hbv.mono (by omega))
          have k0 := (hbv.cell (p := ⟨w2.heap.size, 0, none⟩) (show w2.heap.size < wk.heap.size by omega)).trans ((HBEL.out.cell (p := ⟨w2.heap.size, 0, none⟩) hz3).trans HK0.out)
          clear htv hbv
          by_cases hltj : j < n
          · have hj1 : (j : Int) < (n : Int) := by omega
            obtain ⟨bp, op, hap, _, _, hcp⟩ := (HP2.out.below HBW.out (Nat.le_refl _)).num (j := j) (by rw [pvL_len]; exact hltj)
            subst hap
            rw [pvL_at hltj] at hcp
            obtain ⟨bq, oq, rq, cq, haq, _, _, hrq, hrowq⟩ := (HO2.out.below HBW.out (Nat.le_refl _)).row (show j < B.length by rw [← HN.out]; exact hltj)
            subst haq
            have hcl := HLB.out j hltj
            rw [hcl] at hrq
            obtain ⟨bx, ox, hax, _, _, hcx0⟩ := hrowq.num (j := k) (by omega)
            subst hax
            obtain ⟨x0, x1⟩ := HRR.out.rng j hltj k hlt
            obtain ⟨x, hx⟩ : ∃ x, x = at' B j k := ⟨_, rfl⟩
            have hcx : wr.cell? ⟨bx, ox + k, none⟩ = some (.int .i64 x) := by rw [hx]; exact hcx0
            rw [← hx] at x0 x1
            have HST : Hid ((kvec p B P c j k).set (P j) (-x % p) = kvec p B P c (j + 1) k) := by
              show _ = _
              rw [hx, ← neg_mod]
              exact kvec_next HRR.out hltj (HNP.out j hltj)
            have hpc := HRR.out.pv j hltj
            have hpc1 : (P j : Int) < (c : Int) := by omega
            obtain ⟨bv, ov, hav, _, _, hcv⟩ := HTV.out.row.num (j := P j) (by rw [kvec_len]; exact hpc)
            cases hav
            rw [Nat.zero_add] at hcv
            obtain ⟨y, hy⟩ : ∃ y, y = (kvec p B P c j k).getD (P j) 0 := ⟨_, rfl⟩
            rw [← hy] at hcv
            have hfv : wr.frozen? ⟨wk.heap.size, P j, none⟩ = false := by
              rcases HTV.out with h | ⟨b', o', cur, e, _, _, ht, _⟩
              · have := kvec_len p B P c j k; rw [h] at this; simp at this; omega
              · cases e; exact free_of ht _
            clear hx hy hcx0 hrowq hcl
            go_wp2_with (go_at_call 101; (with_reducible refine (opposite_any p x _ HP.out x0 x1).mono ?_); rintro e w' ⟨rfl, rfl⟩)
            go_roundw
            case rel =>
              refine ⟨j + 1, by omega, by go_num, ?_, Below.setCell HBV.out (Nat.le_refl wk.heap.size) _⟩
              have h := HTV.out.set (j := P j) (by rw [kvec_len]; exact hpc) (-x % p)
              rw [HST.out, Nat.zero_add] at h
              exact h.block (Nat.le_refl _) (by simp [World.setCell]) (fun _ _ _ _ _ => rfl)
            case measure => simp [intOf]; omega
          · have hji : j = n := by omega
            subst hji
            obtain ⟨vals, hvo, hvr⟩ := HO.out
            have hkb := kerN_len p B P c j k
            obtain ⟨kl, hkl⟩ : ∃ x, x = (kerN p B P c j k).length := ⟨_, rfl⟩
            rw [← hkl] at hvo hvr hkb
            have HKN := Lib.hid hkl
            have HV := Lib.hid hvo
            have HVR := Lib.hid hvr
            have HVW := Lib.hid (hvo.kept (below_grown HBV.out) (by cases hv : Value.ownBlock u6 <;> simp))
            clear hvo hvr hkl
            go_wp2_with (at_builtin; refine wpList_append_lies _ rfl _ _ 22 rfl w3.heap.size 31 j0 (.slice none 0 0) 1 24 Try.underlying22 kj kz0 kz1 kz2 rfl (by decide) u6 kl vals rfl (HVW.out.alloc _) ⟨wr.heap.size, 0, none⟩ 1 1 [.slice (some ⟨wk.heap.size, 0, none⟩) c c] rfl rfl (World.news_of_block (cs := #[.slice (some ⟨wk.heap.size, 0, none⟩) c c]) (t := 31) (fr := (0, 0)) (heap_alloc_new wr _)) (by simp [Value.oneCell']) (by omega) (by unfold maxLen; omega) (by omega) (by simp; omega) (wr.heap.size + 1) (by simp) ?_; intro gg cap w1 hown1 hgrow hat hlt1)
            go_roundw
            case rel =>
              exact ⟨k + 1, by omega, by go_num, by rw [HE.out]; exact OutM.pushW HKN.out.symm (kvec_len _ _ _ _ _ _) HV.out HVR.out HTV.out hwz HBV.out hown1 hgrow,
                ((HBEL.out.trans (HBV.out.mono hwz)).alloc (by omega) _).grown hgrow (by simp; omega) (fun _ hk => (HV.out.lt _ hk).1)⟩
            case measure => simp [intOf]; omega
    · have hkc : k = c := by omega
      subst hkc
      obtain ⟨a8, c8, e8, hm8⟩ := HO.out.mat
      subst e8
      have HM8 := Lib.hid hm8
      have HE : Hid (kerN p B P k n k = KP) := by show _ = _; exact HKP.out.symm
      rw [HE.out] at HM8 ⊢
      clear hm8
      go_wp2_with (go_at_call 56; (with_reducible refine (elimO p _ KP _ w3.heap.size wk.heap.size _ HM8.out (Nat.le_refl _) HKL.out).mono ?_); rintro e w5 ⟨r5, k5, vp, d5, rfl, ho5, hb5⟩; have HO5 := Lib.hid ho5; have HB5 := Lib.hid hb5; clear ho5 hb5)
      go_ret
      exact ⟨_, _, rfl, HO5.out.mono (by omega) (Nat.le_refl _), (HB2.out.trans (HB3k.out.mono zw2)).trans (HB5.out.mono (by omega))⟩

end Go.Proofs.Ytihanbfbgiiakaa

namespace Go.Proofs.Ytihanbfbgiiakaa
set_option linter.unusedVariables false

def ortF (p : Int) (S : List Int) (m : List (List Int)) (i k : Nat) : Int := at' m i k * S.getD k 0 % p
def ortM (p : Int) (S : List Int) (m : List (List Int)) : List (List Int) := mk m.length S.length (ortF p S m)
def zrow (c : Nat) : List Int := mkR c fun _ => 0
theorem zrow_len (c : Nat) : (zrow c).length = c := mkR_len _ _
theorem nul_zero {p : Int} {c : Nat} {E : List (List Int)} (x : Nat → Int) : nul p (zrow c :: E).length c (at' (zrow c :: E)) x ↔ nul p E.length c (at' E) x := by
  constructor
  · intro h i hi
    have := h (i + 1) (by simp; omega)
    rwa [at_cons] at this
  · intro h i hi
    cases i with
    | zero =>
      rw [at_cons0]
      have e : sm c (fun j => num (zrow c) j * x j) = sm c (fun _ => 0) := sm_congr fun j hj => by
        have : num (zrow c) j = 0 := mkR_at _ hj
        rw [this, Int.zero_mul]
      rw [e, sm_zero]; rfl
    | succ i =>
      rw [at_cons]
      exact h i (by simp at hi; omega)
theorem isBas_zero {p : Int} {c : Nat} {E m : List (List Int)} : IsBas p c (zrow c :: E) m ↔ IsBas p c E m :=
  ⟨fun h => ⟨h.len, h.red, fun x => (nul_zero x).symm.trans (h.nul x)⟩, fun h => ⟨h.len, h.red, fun x => (nul_zero x).trans (h.nul x)⟩⟩
theorem bas_zero {p : Int} {c : Nat} {E : List (List Int)} (hp : 1 < p) (h0 : (rw' E 0).length = c) : bas p (zrow c :: E) = bas p E := by
  have e0 : (rw' (zrow c :: E) 0).length = c := zrow_len c
  by_cases hx : ∃ m, IsBas p c E m
  · obtain ⟨m, hm⟩ := hx
    rw [← bas_eq (A := E) hp (by rw [h0]; exact hm), ← bas_eq (A := zrow c :: E) hp (by rw [e0]; exact isBas_zero.2 hm)]
  · unfold bas
    rw [e0, h0, dif_neg (fun ⟨m, hm⟩ => hx ⟨m, isBas_zero.1 hm⟩), dif_neg hx]
theorem ker_zero {p : Int} {c : Nat} {E : List (List Int)} (hp : 1 < p) (h0 : (rw' E 0).length = c) : kerB p (zrow c :: E) = kerB p E := by
  have e0 : (rw' (zrow c :: E) 0).length = c := zrow_len c
  unfold kerB kerP
  rw [bas_zero hp h0, e0, h0]
theorem bas_zrow {p : Int} {c : Nat} (hp : 1 < p) : bas p [zrow c] = [] := by
  have e0 : (rw' [zrow c] 0).length = c := zrow_len c
  refine (bas_eq (A := [zrow c]) hp ?_).symm
  rw [e0]
  refine isBas_zero.2 ⟨fun i hi => by simp at hi, ⟨fun _ => 0, ?_⟩, fun x => Iff.rfl⟩
  constructor <;> intros <;> simp at * <;> omega
theorem kerN_free {p : Int} (hp : 1 < p) (P : Nat → Nat) (c k : Nat) : kerN p [] P c 0 k = mk k c fun i j => if i = j then 1 else 0 := by
  induction k with
  | zero => rfl
  | succ k ih =>
    rw [kerN_no rfl, ih, mk_succ, kvec_unit hp]
theorem one_bas {p : Int} {c : Nat} (hp : 1 < p) (c0 : 0 < c) : IsBas p (rw' (oneM c) 0).length (oneM c) (oneM c) := by
  have e0 : (rw' (oneM c) 0).length = c := mk_rowLen _ c0
  have el : (oneM c).length = c := mk_len _ _ _
  have ea : ∀ i, i < c → ∀ j, j < c → at' (oneM c) i j = if i = j then 1 else 0 := fun i hi j hj => mk_at _ hi hj
  rw [e0]
  refine ⟨fun i hi => mk_rowLen _ (by omega), ⟨fun i => i, ?_⟩, fun x => Iff.rfl⟩
  rw [el]
  exact ⟨fun i hi => hi, fun i i' h _ => h, fun i hi => by rw [ea i hi i hi, if_pos rfl], fun i hi i' hi' hne => by rw [ea i' hi' i hi, if_neg (fun q => hne q.symm)], fun i hi j hj => by rw [ea i hi j (by omega), if_neg (by omega)],
    fun i hi j hj => by rw [ea i hi j hj]; split <;> omega⟩
theorem ker_zrow {p : Int} {c : Nat} (hp : 1 < p) (c0 : 0 < c) : kerB p [zrow c] = oneM c := by
  have e0 : (rw' [zrow c] 0).length = c := zrow_len c
  unfold kerB kerP
  rw [bas_zrow hp, e0]
  have e1 : kerN p [] (pvs []) c ([] : List (List Int)).length c = oneM c := kerN_free hp _ c c
  rw [e1]
  exact (bas_eq hp (one_bas hp c0)).symm
theorem ort_row {p : Int} {S : List Int} {m : List (List Int)} {i : Nat} (hi : i < m.length) : rw' (ortM p S m) i = mkR S.length (ortF p S m i) := mk_row _ hi
theorem ort_lst {p : Int} {S : List Int} {m : List (List Int)} (hp : prm p = true) (s0 : 1 ≤ S.length) (s1 : S.length ≤ 6) (hm : 0 < m.length) (hm2 : m.length ≤ 16) : Lst 1 p (ortM p S m) := by
  have el : (ortM p S m).length = m.length := mk_len _ _ _
  have er : ∀ i, i < m.length → (rw' (ortM p S m) i).length = S.length := fun i hi => mk_rowLen _ hi
  refine ⟨hp, by omega, by omega, fun i hi => by rw [er i (by omega), er 0 hm], fun i hi => by rw [er i (by omega)]; exact s0, fun i hi => by rw [er i (by omega)]; omega, fun i hi => ?_⟩
  rw [ort_row (by omega), List.all_eq_true]
  intro x hx
  unfold mkR at hx
  obtain ⟨k, _, rfl⟩ := List.mem_map.1 hx
  exact inr_iff.2 (mod_bd hp _)

end Go.Proofs.Ytihanbfbgiiakaa

namespace Go.Proofs.Ytihanbfbgiiakaa
open Go.RowKit
set_option linter.unusedVariables false

def listB (p : Int) (S : List Int) (m : List (List Int)) : Bool := m.all (isVec p S.length) && decide (m.length ≤ 16)
def codeL (p : Int) (S : List Int) (m : List (List Int)) : Int := if isSp p S = true then (if listB p S m = true then 0 else 2) else 1
theorem codeL_sp {p : Int} {S : List Int} {m : List (List Int)} (h : isSp p S = false) : codeL p S m = 1 := if_neg (by simp [h])
theorem codeL_ok {p : Int} {S : List Int} {m : List (List Int)} (h : isSp p S = true) (k : listB p S m = true) : codeL p S m = 0 := by unfold codeL; rw [if_pos h, if_pos k]
theorem codeL_no {p : Int} {S : List Int} {m : List (List Int)} (h : isSp p S = true) (k : listB p S m = false) : codeL p S m = 2 := by unfold codeL; rw [if_pos h, if_neg (by simp [k])]
theorem codeL_cases (p : Int) (S : List Int) (m : List (List Int)) : (isSp p S = false ∧ codeL p S m = 1) ∨ (isSp p S = true ∧ listB p S m = true ∧ codeL p S m = 0) ∨ (isSp p S = true ∧ listB p S m = false ∧ codeL p S m = 2) := by
  by_cases h : isSp p S = true
  · by_cases k : listB p S m = true
    · exact .inr (.inl ⟨h, k, codeL_ok h k⟩)
    · have k' : listB p S m = false := by simpa using k
      exact .inr (.inr ⟨h, k', codeL_no h k'⟩)
  · have h' : isSp p S = false := by simpa using h
    exact .inl ⟨h', codeL_sp h'⟩
/-- What a list of vectors is. -/
theorem listB_iff {p : Int} {S : List Int} {m : List (List Int)} (h : listB p S m = true) : m.length ≤ 16 ∧ ∀ i, i < m.length → isVec p S.length (rw' m i) = true := by
  unfold listB at h
  rw [Bool.and_eq_true, List.all_eq_true] at h
  exact ⟨of_decide_eq_true h.2, fun i hi => h.1 _ (mem_row hi)⟩

set_option maxRecDepth 100000 in
set_option maxHeartbeats 3200000 in
theorem l03List_any (p : Int) (aS : Option Addr) (S : List Int) (cS : Nat) (am : Option Addr) (m : List (List Int)) (cm lom tpm : Nat) (w : World) (hp : prm p = true) (sS : S.length ≤ 1048576)
    (hm : MatIn lom tpm w am m) (tm : tpm ≤ w.heap.size) (sm : m.length ≤ 1048576) (sr : ∀ i, i < m.length → (rw' m i).length ≤ 1048576) :
    Calls Try.prog 72 #[.agg #[.int .i64 p, .slice aS S.length cS], .slice am m.length cm] w fun e w' => e = .returned (.bool (listB p S m)) ∧ Below w.heap.size w w' := by
  have HM := Lib.hid hm
  have HP := Lib.hid hp
  have HT := Lib.hid sr
  clear hm hp sr
  go_enter Try.func72, Try.ntmps72
  go_wp2
  go_loopw [5] (fun t wr => ∃ i : Nat, i ≤ m.length ∧ t = .int .i64 i ∧ (m.take i).all (isVec p S.length) = true ∧ wr.cell? ⟨w.heap.size, 0, none⟩ = some (.int .i64 p) ∧ wr.cell? ⟨w.heap.size, 1, none⟩ = some (.slice aS S.length cS) ∧ Below w.heap.size w wr ∧ w.heap.size < wr.heap.size) (fun t _ => m.length - (intOf t).toNat)
  case atStart => exact ⟨0, Nat.zero_le _, rfl, rfl, nw0 w _ _ _, nw1 w _ _ _, below_alloc w _, lt_alloc w _⟩
  case round =>
    obtain ⟨i, hi, rfl, hA, k0, k1, hbel, hlw⟩ := hrel
    have HA := Lib.hid hA
    have HB := Lib.hid hbel
    clear hA
    by_cases hlt : i < m.length
    · obtain ⟨b1, o1, r, c1, ha1, _, hb1, hr, hrow⟩ := (HM.out.below hbel tm).row hlt
      subst ha1
      have hl := HT.out i hlt
      have hwz := hbel.size
      have HR := Lib.hid (hrow.below (below_drew wr) (Nat.le_trans tm hwz))
      have HTD : Hid (tpm ≤ wr.drew.heap.size) := Nat.le_trans tm hwz
      have hi1 : (i : Int) < (m.length : Int) := by omega
      have hb1w : b1 < wr.heap.size := Nat.lt_of_lt_of_le hb1 (Nat.le_trans tm hwz)
      clear hrow hbel
      by_cases hv : isVec p S.length (rw' m i) = true
      · have HV := Lib.hid hv
        clear hv
        go_wp2
        go_region_held3 (fun w' => w'.cell? ⟨w.heap.size, 0, none⟩ = some (.int .i64 p) ∧ w'.cell? ⟨w.heap.size, 1, none⟩ = some (.slice aS S.length cS) ∧ w'.cell? ⟨b1, o1 + i, none⟩ = some (.slice r (rw' m i).length c1)) (first | go_keep | exact SS3.out) (first | (go_at_call 107; (with_reducible refine (l03Vector_any p aS S cS r (rw' m i) c1 lom tpm wr.drew HP.out sS HR.out HTD.out hl).mono ?_); rintro e w3 ⟨rfl, hb3⟩; rw [HV.out]; have HB3 : Hid (Below wr.heap.size wr w3) := (below_drew wr).trans hb3; have SS3 := Lib.hid (And.intro ((HB3.out.cell (p := ⟨w.heap.size, 0, none⟩) hlw).trans k0) (And.intro ((HB3.out.cell (p := ⟨w.heap.size, 1, none⟩) hlw).trans k1) ((HB3.out.cell (p := ⟨b1, o1 + i, none⟩) hb1w).trans hr))); clear hb3))
        go_wp2
        go_roundw
        case rel => exact ⟨i + 1, by omega, by go_num, by rw [all_take_vec hlt, HA.out, HV.out]; rfl, SS3.out.1, SS3.out.2.1, HB.out.trans (HB3.out.mono hwz), Nat.lt_of_lt_of_le hlw HB3.out.size⟩
        case measure => simp [intOf]; omega
      · have HV : Hid (isVec p S.length (rw' m i) = false) := by show _ = _; simpa using hv
        have HCV : Hid (listB p S m = false) := by show _ = _; unfold listB; rw [all_false_vec hlt HV.out]; rfl
        clear hv
        go_wp2
        go_region_held3 (fun w' => w'.cell? ⟨w.heap.size, 0, none⟩ = some (.int .i64 p) ∧ w'.cell? ⟨w.heap.size, 1, none⟩ = some (.slice aS S.length cS) ∧ w'.cell? ⟨b1, o1 + i, none⟩ = some (.slice r (rw' m i).length c1)) (first | go_keep | exact SS3.out) (first | (go_at_call 107; (with_reducible refine (l03Vector_any p aS S cS r (rw' m i) c1 lom tpm wr.drew HP.out sS HR.out HTD.out hl).mono ?_); rintro e w3 ⟨rfl, hb3⟩; rw [HV.out]; have HB3 : Hid (Below wr.heap.size wr w3) := (below_drew wr).trans hb3; have SS3 := Lib.hid (And.intro ((HB3.out.cell (p := ⟨w.heap.size, 0, none⟩) hlw).trans k0) (And.intro ((HB3.out.cell (p := ⟨w.heap.size, 1, none⟩) hlw).trans k1) ((HB3.out.cell (p := ⟨b1, o1 + i, none⟩) hb1w).trans hr))); clear hb3))
        go_wp2
        go_ret
        exact ⟨by rw [HCV.out]; rfl, HB.out.trans (HB3.out.mono hwz)⟩
    · have HAll : Hid (m.all (isVec p S.length) = true) := by have h := HA.out; rwa [List.take_of_length_le (by omega)] at h
      by_cases h16 : m.length ≤ 16
      · have e1 : (m.length : Int) ≤ 16 := by omega
        have HCV : Hid (listB p S m = true) := by show _ = _; unfold listB; rw [HAll.out]; simp [h16]
        go_wp2
        go_ret
        exact ⟨by rw [HCV.out]; rfl, HB.out⟩
      · have e1 : ¬ (m.length : Int) ≤ 16 := by omega
        have HCV : Hid (listB p S m = false) := by show _ = _; unfold listB; rw [HAll.out]; simp; omega
        go_wp2
        go_ret
        exact ⟨by rw [HCV.out]; rfl, HB.out⟩

theorem checkList_any (pS : Int) (aS : Option Addr) (S : List Int) (cS loS tpS : Nat) (am : Option Addr) (m : List (List Int)) (cm lom tpm : Nat) (w : World)
    (hS : RowIn loS tpS w aS S) (tS : tpS ≤ w.heap.size) (sS : S.length ≤ 1048576) (hm : MatIn lom tpm w am m) (tm : tpm ≤ w.heap.size) (sm : m.length ≤ 1048576) (sr : ∀ i, i < m.length → (rw' m i).length ≤ 1048576) :
    Calls Try.prog 74 #[.agg #[.int .i64 pS, .slice aS S.length cS], .slice am m.length cm] w fun e w' => e = .returned (.int .i64 (codeL pS S m)) ∧ Below w.heap.size w w' := by
  have HS := Lib.hid hS
  have HM := Lib.hid hm
  have HT := Lib.hid sr
  have HBB := Lib.hid (below_alloc w (.cells #[.int .i64 pS, .slice aS S.length cS] 44))
  have HSA := Lib.hid (hS.below HBB.out tS)
  have HMA := Lib.hid (hm.below HBB.out tm)
  have HZ := Lib.hid HBB.out.size
  clear hS hm sr
  rcases codeVs_cases pS S m with ⟨hi, hc⟩ | ⟨hi, ha, hc⟩ | ⟨hi, ha, hc⟩
  · have HC := Lib.hid hc
    have HV := Lib.hid (codeL_sp (m := m) hi)
    clear hi hc
    go_enter Try.func74, Try.ntmps74
    go_wp2_with (go_at_call 108; (with_reducible refine (checkVectors_any pS aS S cS loS tpS am m cm lom tpm _ HSA.out (Nat.le_trans tS HZ.out) sS HMA.out (Nat.le_trans tm HZ.out) sm HT.out).mono ?_); rintro e w2 ⟨rfl, hb⟩; rw [HC.out]; have HB := Lib.hid hb; clear hb)
    go_ret
    exact ⟨by rw [HV.out]; rfl, HBB.out.trans (HB.out.mono HZ.out)⟩
  · by_cases h16 : m.length ≤ 16
    · have e1 : (m.length : Int) ≤ 16 := by omega
      have HC := Lib.hid hc
      have HV := Lib.hid (codeL_ok (m := m) hi (by unfold listB; rw [ha]; simp [h16]))
      clear hi hc ha
      go_enter Try.func74, Try.ntmps74
      go_wp2_with (go_at_call 108; (with_reducible refine (checkVectors_any pS aS S cS loS tpS am m cm lom tpm _ HSA.out (Nat.le_trans tS HZ.out) sS HMA.out (Nat.le_trans tm HZ.out) sm HT.out).mono ?_); rintro e w2 ⟨rfl, hb⟩; rw [HC.out]; have HB := Lib.hid hb; clear hb)
      go_ret
      exact ⟨by rw [HV.out]; rfl, HBB.out.trans (HB.out.mono HZ.out)⟩
    · have e1 : ¬ (m.length : Int) ≤ 16 := by omega
      have e2 : (16 : Int) < (m.length : Int) := by omega
      have HC := Lib.hid hc
      have HV := Lib.hid (codeL_no (m := m) hi (by unfold listB; rw [ha]; simp; omega))
      clear hi hc ha
      go_enter Try.func74, Try.ntmps74
      go_wp2_with (go_at_call 108; (with_reducible refine (checkVectors_any pS aS S cS loS tpS am m cm lom tpm _ HSA.out (Nat.le_trans tS HZ.out) sS HMA.out (Nat.le_trans tm HZ.out) sm HT.out).mono ?_); rintro e w2 ⟨rfl, hb⟩; rw [HC.out]; have HB := Lib.hid hb; clear hb)
      go_ret
      exact ⟨by rw [HV.out]; rfl, HBB.out.trans (HB.out.mono HZ.out)⟩
  · have HC := Lib.hid hc
    have HV := Lib.hid (codeL_no (m := m) hi (by unfold listB; rw [ha]; rfl))
    clear hi hc ha
    go_enter Try.func74, Try.ntmps74
    go_wp2_with (go_at_call 108; (with_reducible refine (checkVectors_any pS aS S cS loS tpS am m cm lom tpm _ HSA.out (Nat.le_trans tS HZ.out) sS HMA.out (Nat.le_trans tm HZ.out) sm HT.out).mono ?_); rintro e w2 ⟨rfl, hb⟩; rw [HC.out]; have HB := Lib.hid hb; clear hb)
    go_ret
    exact ⟨by rw [HV.out]; rfl, HBB.out.trans (HB.out.mono HZ.out)⟩

end Go.Proofs.Ytihanbfbgiiakaa

namespace Go.Proofs.Ytihanbfbgiiakaa
open Go.RowKit Go.ChangeShapes Go.WideShapes
set_option linter.unusedVariables false

noncomputable def ortB (p : Int) (S : List Int) (m : List (List Int)) : List (List Int) := if m.length = 0 then oneM S.length else kerB p (ortM p S m)

theorem OutM.startA (w : World) (B a : Nat) (t : TypeId) (ha : w.heap.size = a) (hB : B ≤ w.heap.size) (ht : t = 31) : OutM B (w.alloc (.cells #[] t)) (.slice (some ⟨a, 0, none⟩) 0 0) [] := by
  subst ha; exact OutM.start w B t hB ht
set_option maxRecDepth 100000 in
set_option maxHeartbeats 6400000 in
theorem l03Orthogonal_any (p : Int) (aS : Option Addr) (S : List Int) (cS loS tpS : Nat) (am : Option Addr) (m : List (List Int)) (cm lom tpm : Nat) (w : World)
    (hS : RowIn loS tpS w aS S) (tS : tpS ≤ w.heap.size) (hm : MatIn lom tpm w am m) (tm : tpm ≤ w.heap.size) (hs : isSp p S = true) (hl : listB p S m = true) :
    Calls Try.prog 80 #[.agg #[.int .i64 p, .slice aS S.length cS], .slice am m.length cm] w (NewM (ortB p S m) w) := by
  obtain ⟨i0, hi, hz0, hz1, hz2⟩ := info_parts info64
  obtain ⟨j0, kj, kz0, kz1, kz2⟩ := info_parts info_slice
  have K := isSp_iff.1 hs
  have hpb := prm_bd K.prime
  have HP := Lib.hid K.prime
  have hS6 := K.hi
  have hS1 := K.lo
  have HS := Lib.hid hS
  have Hm := Lib.hid hm
  have HK := Lib.hid K
  have hm16 := (listB_iff hl).1
  have HVE := Lib.hid (listB_iff hl).2
  have HOL : Hid (0 < m.length → Lst 1 p (ortM p S m)) := fun h => ort_lst K.prime hS1 hS6 h hm16
  obtain ⟨n, hn⟩ : ∃ n, n = S.length := ⟨_, rfl⟩
  rw [← hn] at hS6 hS1
  have HN := Lib.hid hn
  have hn1 : S.length ≤ n ∧ n ≤ S.length := by omega
  rw [← hn]
  have HB1 := Lib.hid (balloc w (.cells #[.int .i64 p, .slice aS n cS] 44))
  have k0n := nw0 w (.int .i64 p) (.slice aS n cS) 44
  have k1n := nw1 w (.int .i64 p) (.slice aS n cS) 44
  have l0 : w.heap.size < (w.alloc (.cells #[.int .i64 p, .slice aS n cS] 44)).heap.size := by simp
  have HZ1 : Hid ((w.alloc (.cells #[.int .i64 p, .slice aS n cS] 44)).heap.size = w.heap.size + 1) := by show _ = _; simp
  clear hS hm hs hl K hn
  by_cases h0 : m.length = 0
  · have HO : Hid (ortB p S m = oneM n) := by show _ = _; unfold ortB; rw [if_pos h0, HN.out]
    have HOE : Hid ((oneM n).length = n) := mk_len _ _ _
    have e0 : ((m.length : Int) == 0) = true := beq_iff_eq.2 (by omega)
    clear h0
    rw [HO.out]
    go_enter Try.func80, Try.ntmps80
    go_wp2_with (go_at_call 106; (with_reducible refine (l02Unit_any n _ (by omega)).mono ?_); rintro e w2 ⟨r2, k2, rfl, ho2, hb2⟩; have HO2 := Lib.hid ho2; have HB2 := Lib.hid (HB1.out.trans (hb2.mono HB1.out.size)); clear ho2 hb2)
    go_ret
    exact ⟨r2, k2, rfl, HO2.out.mono HB1.out.size (Nat.le_refl _), HB2.out⟩
  · have HO : Hid (ortB p S m = kerB p (ortM p S m)) := by show _ = _; unfold ortB; rw [if_neg h0]
    have hm0 : 0 < m.length := by omega
    have e0 : ((m.length : Int) == 0) = false := beq_eq_false_iff_ne.2 (by omega)
    have HEM : Hid (mk m.length n (ortF p S m) = ortM p S m) := by show _ = _; rw [HN.out]; rfl
    have HLO := Lib.hid (HOL.out hm0)
    clear h0
    rw [HO.out]
    go_enter Try.func80, Try.ntmps80
    go_wp2
    obtain ⟨w1, hw1⟩ : ∃ z, z = w.alloc (.cells #[.int .i64 p, .slice aS n cS] 44) := ⟨_, rfl⟩
    rw [← hw1] at HB1 k0n k1n l0 HZ1
    rw [← hw1]
    have K0 := Lib.hid k0n
    have K1 := Lib.hid k1n
    have hzw := HB1.out.size
    clear hw1 k0n k1n
    go_loopw [5, 6] (fun v t wr => ∃ i : Nat, i ≤ m.length ∧ t = .int .i64 i ∧ OutM w1.heap.size wr v (mk i n (ortF p S m)) ∧ Below w1.heap.size w1 wr) (fun _ t _ => m.length - (intOf t).toNat)
    case atStart => exact ⟨0, Nat.zero_le _, rfl, OutM.startA w1 _ _ _ HZ1.out (Nat.le_refl _) rfl, balloc w1 _⟩
    case round =>
      obtain ⟨i, hi', rfl, ho, hbel⟩ := hrel
      have HOO := Lib.hid ho
      have HBEL := Lib.hid hbel
      have hwz := hbel.size
      have k0w := (hbel.cell (p := ⟨w.heap.size, 0, none⟩) l0).trans K0.out
      rename World => wo
      clear ho hbel
      by_cases hlt : i < m.length
      · have hk1 : (i : Int) < (m.length : Int) := by omega
        have hvec := isVec_iff.1 (HVE.out i hlt)
        have HVEC := Lib.hid hvec
        clear k0w hvec
        go_wp2
        go_loopw [7, 8] (fun v t wr => ∃ j : Nat, j ≤ n ∧ t = .int .i64 j ∧ OutR wo.heap.size wr v (mkR j (ortF p S m i)) ∧ Below wo.heap.size wo wr) (fun _ t _ => n - (intOf t).toNat)
        case atStart => exact ⟨0, Nat.zero_le _, rfl, OutR.start wo _ _ (Nat.le_refl _) rfl, balloc wo _⟩
        case round =>
          obtain ⟨j, hj', rfl, hoj, hbj⟩ := hrel
          have HOJ := Lib.hid hoj
          have HBJ := Lib.hid hbj
          have hwj := hbj.size
          have HBK : Hid (Below w1.heap.size w1 wr) := HBEL.out.trans (hbj.mono hwz)
          have HBX : Hid (Below w.heap.size w wr) := HB1.out.trans (HBK.out.mono hzw)
          have k0 := (HBK.out.cell (p := ⟨w.heap.size, 0, none⟩) l0).trans K0.out
          have k1 := (HBK.out.cell (p := ⟨w.heap.size, 1, none⟩) l0).trans K1.out
          clear hoj
          by_cases hltj : j < n
          · have hj1 : (j : Int) < (n : Int) := by omega
            obtain ⟨b1, o1, r1, c1, ha1, _, hb1, hr1, hrow1⟩ := (Hm.out.below HBX.out tm).row hlt
            cases ha1
            have hvl := HVEC.out.len
            rw [HVEC.out.len, ← HN.out] at hr1
            obtain ⟨b2, o2, ha2, _, hb2, hc2⟩ := hrow1.num (j := j) (by rw [hvl]; omega)
            subst ha2
            obtain ⟨b3, o3, ha3, _, hb3, hc3⟩ := (HS.out.below HBX.out tS).num (by omega : j < S.length)
            cases ha3
            obtain ⟨x0, x1⟩ := HVEC.out.num (by omega : j < S.length)
            obtain ⟨y0, y1⟩ := HK.out.num (by omega : j < S.length)
            have HSU : Hid (mkR (j + 1) (ortF p S m i) = mkR j (ortF p S m i) ++ [(rw' m i).getD j 0 * S.getD j 0 % p]) := mkR_succ _ _
            obtain ⟨x, hx⟩ : ∃ x, x = (rw' m i).getD j 0 := ⟨_, rfl⟩
            obtain ⟨y, hy⟩ : ∃ y, y = S.getD j 0 := ⟨_, rfl⟩
            rw [← hx] at hc2 x0 x1 HSU
            rw [← hy] at hc3 y0 y1 HSU
            obtain ⟨m0, m1, _, _⟩ := prod3 hpb.2 x0 x1 y0 y1 y0 y1
            have e1 : IntKind.i64.wrap (x * y) = x * y := IntWalk.i64_in _ (by omega)
            have e2 : (x * y).tmod p = x * y % p := Int.tmod_eq_emod_of_nonneg m0
            have hp0 : ¬ p = 0 := by omega
            have hp1 : (p == 0) = false := by simpa using hp0
            obtain ⟨X, hX⟩ : ∃ X, X = (mkR j (ortF p S m i)).map (Value.int .i64) := ⟨_, rfl⟩
            have HX := Lib.hid hX
            have HO2 : Hid (wr.ownsRow wo.heap.size 2 1 u7 j X) := by
              have := HOJ.out; unfold OutR at this; rw [mkR_len, ← hX] at this; exact this
            have hsz := HBX.out.size
            have n0 : u7.ownBlock ≠ some w.heap.size := fun e => by have := (HO2.out.lt _ e).1; omega
            have nb : ∀ b, b < w.heap.size → u7.ownBlock ≠ some b := fun b hb e => by have := (HO2.out.lt _ e).1; omega
            have n1 := nb _ (Nat.lt_of_lt_of_le hb1 tm)
            have n2 := nb _ (Nat.lt_of_lt_of_le hb2 tm)
            have n3 := nb _ (Nat.lt_of_lt_of_le hb3 tS)
            have q0 : w.heap.size < wr.heap.size := by omega
            have q1 := Nat.lt_of_lt_of_le (Nat.lt_of_lt_of_le hb1 tm) hsz
            have q2 := Nat.lt_of_lt_of_le (Nat.lt_of_lt_of_le hb2 tm) hsz
            have q3 := Nat.lt_of_lt_of_le (Nat.lt_of_lt_of_le hb3 tS) hsz
            clear hX hx hy hrow1 hbj nb hvl
            go_wp2
            go_region_held3 (fun w' => w'.cell? ⟨w.heap.size, 0, none⟩ = some (.int .i64 p) ∧ w'.cell? ⟨w.heap.size, 1, none⟩ = some (.slice (some ⟨b3, o3, none⟩) n cS) ∧ w'.cell? ⟨b1, o1 + i, none⟩ = some (.slice (some ⟨b2, o2, none⟩) n c1) ∧ w'.cell? ⟨b2, o2 + j, none⟩ = some (.int .i64 x) ∧ w'.cell? ⟨b3, o3 + j, none⟩ = some (.int .i64 y)) (first | go_keep | (go_split_ands; refine ⟨?_, ?_, ?_, ?_, ?_⟩; (rw [hgrow.cell_far _ (by simp; omega) (Ne.symm n0)]; assumption); (rw [hgrow.cell_far _ (by simp; omega) (Ne.symm n0)]; assumption); (rw [hgrow.cell_far _ (by simp; omega) (Ne.symm n1)]; assumption); (rw [hgrow.cell_far _ (by simp; omega) (Ne.symm n2)]; assumption); (rw [hgrow.cell_far _ (by simp; omega) (Ne.symm n3)]; assumption))) (go_loud (refine step_append_lies _ (by rfl) _ _ _ (by rfl) wo.heap.size 2 i0 _ 1 8 Try.underlying31 hi hz0 hz1 hz2 rfl (by omega) u7 j X (by rfl) ((HO2.out.alloc _).drew) ⟨wr.heap.size, 0, none⟩ 1 1 [.int .i64 (x * y % p)] (by rfl) (by rfl) (World.news_of_block (cs := #[.int .i64 (x * y % p)]) (t := 2) (fr := (0, 0)) (heap_alloc_new wr _)) (by simp [Value.oneCell']) (by omega) (by unfold maxLen; omega) (by omega) (by simp; omega) (wr.heap.size + 1) (by simp) ?_; intro gg cap w4 hown1 hgrow hat hlt1))
            clear e1 e2
            go_wp2
            go_roundw
            case rel => exact ⟨j + 1, by omega, by go_num, OutR.step HO2.out HX.out HSU.out hown1, ((HBJ.out.alloc hwj _).drew).grown hgrow (by simp; omega) (fun _ hk => (HO2.out.lt _ hk).1)⟩
            case measure => simp [intOf]; omega
          · have hjn : j = n := by omega
            subst hjn
            obtain ⟨a8, c8, e8, ht8⟩ := HOJ.out.tag
            rw [mkR_len] at e8
            subst e8
            have HT8 := Lib.hid ht8
            obtain ⟨vals, hvo, hvr⟩ := HOO.out
            rw [mk_len] at hvo hvr
            have HV1 := Lib.hid hvo
            have HVR := Lib.hid hvr
            have HVW := Lib.hid (hvo.kept (below_grown HBJ.out) (by cases hv : Value.ownBlock u5 <;> simp))
            have HVRW : Hid (∀ i', i' < i → ∃ r c', vals[i']? = some (.slice r (rw' (mk i j (ortF p S m)) i').length c') ∧ TagR w1.heap.size wr.heap.size wr r (rw' (mk i j (ortF p S m)) i')) := fun i' h' => by
              obtain ⟨r', c', g1, g2⟩ := HVR.out i' h'
              exact ⟨r', c', g1, g2.below HBJ.out (Nat.le_refl _) (Nat.le_refl _) hwj⟩
            clear ht8 hvo hvr hbj
            go_wp2_with (at_builtin; refine wpList_append_lies _ rfl _ _ 22 rfl w1.heap.size 31 j0 (.slice none 0 0) 1 24 Try.underlying22 kj kz0 kz1 kz2 rfl (by decide) u5 i vals rfl (HVW.out.alloc _) ⟨wr.heap.size, 0, none⟩ 1 1 [.slice a8 j c8] rfl rfl (World.news_of_block (cs := #[.slice a8 j c8]) (t := 31) (fr := (0, 0)) (heap_alloc_new wr _)) (by simp [Value.oneCell']) (by omega) (by unfold maxLen; omega) (by omega) (by simp; omega) (wr.heap.size + 1) (by simp) ?_; intro gg cap w1 hown1 hgrow hat hlt1)
            go_wp2
            go_roundw
            case rel => exact ⟨i + 1, by omega, by go_num, OutM.next HVW.out HVRW.out HT8.out rfl hwz hown1 hgrow, ((HBEL.out.trans (HBJ.out.mono hwz)).alloc (by omega) _).grown hgrow (by simp; omega) (fun _ hk => (HV1.out.lt _ hk).1)⟩
            case measure => simp [intOf]; omega
      · have hin : i = m.length := by omega
        subst hin
        have ho2 := HOO.out
        rw [HEM.out] at ho2
        obtain ⟨r, c, hv, hmat⟩ := ho2.mat
        subst hv
        have HMT := Lib.hid hmat
        clear hmat ho2
        go_wp2_with (go_at_call 58; (with_reducible refine (l02Kernel_any p r (ortM p S m) c _ _ wo HMT.out (Nat.le_refl _) HLO.out).mono ?_); rintro e w3 ⟨r3, k3, rfl, ho3, hb3⟩; have HO3 := Lib.hid ho3; have HB3 := Lib.hid hb3; clear ho3 hb3)
        go_ret
        exact ⟨r3, k3, rfl, HO3.out.mono (Nat.le_trans hzw hwz) (Nat.le_refl _), (HB1.out.trans (HBEL.out.mono hzw)).trans (HB3.out.mono (Nat.le_trans hzw hwz))⟩

end Go.Proofs.Ytihanbfbgiiakaa

namespace Go.Proofs.Ytihanbfbgiiakaa
open Go.RowKit Go.ChangeShapes Go.WideShapes
set_option linter.unusedVariables false

theorem made_tagE (w : World) (n : Nat) (t : TypeId) (ht : t = 2) : TagR w.heap.size (w.alloc (.cells (madeCells #[.int .i64 0] n) t)).heap.size (w.alloc (.cells (madeCells #[.int .i64 0] n) t)) (some ⟨w.heap.size, 0, none⟩) (mkR n fun _ => 0) := by
  subst ht
  refine .inr ⟨w.heap.size, 0, madeCells #[.int .i64 0] n, rfl, Nat.le_refl _, by simp, heap_alloc_new w _, fun j hj => ?_⟩
  rw [mkR_len] at hj
  rw [Nat.zero_add, made_cell w _ n _ hj, mkR_at _ hj]

def eqnL (p : Int) (S v : List Int) : List Int := mkR S.length fun k => v.getD k 0 * S.getD k 0 % p
def NewE (n : Nat) (z : List Int) (w : World) (e : Ending) (w' : World) : Prop := ∃ g, e = .returned (.slice (some ⟨g, 0, none⟩) n n) ∧ TagR w.heap.size w'.heap.size w' (some ⟨g, 0, none⟩) z ∧ Below w.heap.size w w'
set_option maxRecDepth 100000 in
set_option maxHeartbeats 6400000 in
theorem equationOf_any (p : Int) (aS : Option Addr) (S : List Int) (cS loS tpS : Nat) (av : Option Addr) (v : List Int) (n cv lov tpv : Nat) (w : World) (hn : S.length = n)
    (hS : RowIn loS tpS w aS S) (tS : tpS ≤ w.heap.size) (hv : RowIn lov tpv w av v) (tv : tpv ≤ w.heap.size) (hs : isSp p S = true) (h1 : isVec p S.length v = true) :
    Calls Try.prog 82 #[.agg #[.int .i64 p, .slice aS n cS], .slice av n cv] w (NewE n (eqnL p S v) w) := by
  have K := isSp_iff.1 hs
  have V := isVec_iff.1 h1
  have hpb := prm_bd K.prime
  have HP := Lib.hid K.prime
  have hS6 := K.hi
  have hS1 := K.lo
  have HS := Lib.hid hS
  have Hv := Lib.hid hv
  have HK := Lib.hid K
  have HVV := Lib.hid V
  have HEL : Hid (eqnL p S v = mkR n fun k => v.getD k 0 * S.getD k 0 % p) := by show _ = _; rw [← hn]; rfl
  have HVL : Hid (v.length = n) := V.len.trans hn
  have HN := Lib.hid hn
  rw [hn] at hS6 hS1
  have hn1 : S.length ≤ n ∧ n ≤ S.length := by omega
  have hmk := fun W => run_make_row' (P := Try.prog) 31 2 (.int .i64 0) 8 Try.underlying31 info64 rfl .i64 .i64 n (by omega) (by omega) W
  have HB1 := Lib.hid (balloc w (.cells #[.int .i64 p, .slice aS n cS] 44))
  have k0n := nw0 w (.int .i64 p) (.slice aS n cS) 44
  have k1n := nw1 w (.int .i64 p) (.slice aS n cS) 44
  have k1u := ((balloc (w.alloc (.cells #[.int .i64 p, .slice aS n cS] 44)) (.cells (madeCells #[.int .i64 0] n) 2)).cell (p := ⟨w.heap.size, 1, none⟩) (show w.heap.size < (w.alloc (.cells #[.int .i64 p, .slice aS n cS] 44)).heap.size by simp)).trans k1n
  have l0 : w.heap.size < (w.alloc (.cells #[.int .i64 p, .slice aS n cS] 44)).heap.size := by simp
  have HZ1 : Hid ((w.alloc (.cells #[.int .i64 p, .slice aS n cS] 44)).heap.size = w.heap.size + 1) := by show _ = _; simp
  rw [HEL.out]
  clear hS hv hs h1 K V hn
  go_enter Try.func82, Try.ntmps82
  go_wp2
  clear hmk k1u
  obtain ⟨w1, hw1⟩ : ∃ z, z = w.alloc (.cells #[.int .i64 p, .slice aS n cS] 44) := ⟨_, rfl⟩
  rw [← hw1] at HB1 k0n k1n l0 HZ1
  rw [← hw1]
  have K0 := Lib.hid k0n
  have hzw := HB1.out.size
  clear hw1 k0n k1n
  go_loopw [14] (fun t wr => ∃ i : Nat, i ≤ n ∧ t = .int .i64 i ∧ TagR w1.heap.size wr.heap.size wr (some ⟨w.heap.size + 1, 0, none⟩) (mkR n fun k => if k < i then v.getD k 0 * S.getD k 0 % p else 0) ∧ Below w1.heap.size w1 wr) (fun t _ => n - (intOf t).toNat)
  case atStart => exact ⟨0, Nat.zero_le _, rfl, by have h := made_tagE w1 n _ rfl; rw [show (mkR n fun _ => (0 : Int)) = mkR n (fun k => if k < 0 then v.getD k 0 * S.getD k 0 % p else 0) from mkR_congr (fun j _ => by simp)] at h; rw [← HZ1.out]; exact h, balloc w1 _⟩
  case round =>
    obtain ⟨i, hi, rfl, ht, hb⟩ := hrel
    have HT := Lib.hid ht
    have HB := Lib.hid hb
    have HBX : Hid (Below w.heap.size w wr) := HB1.out.trans (hb.mono hzw)
    have k0 := (hb.cell (p := ⟨w.heap.size, 0, none⟩) l0).trans K0.out
    clear ht
    by_cases hlt : i < n
    · have hi1 : (i : Int) < (n : Int) := by omega
      obtain ⟨b2, o2, ha2, _, hb2, hc2⟩ := (Hv.out.below HBX.out tv).num (j := i) (by rw [HVL.out]; exact hlt)
      subst ha2
      obtain ⟨b3, o3, ha3, _, hb3, hc3⟩ := (HS.out.below HBX.out tS).num (by omega : i < S.length)
      subst ha3
      obtain ⟨x0, x1⟩ := HVV.out.num (by omega : i < S.length)
      obtain ⟨y0, y1⟩ := HK.out.num (by omega : i < S.length)
      have HSET : Hid ((mkR n fun k => if k < i then v.getD k 0 * S.getD k 0 % p else 0).set i (v.getD i 0 * S.getD i 0 % p) = mkR n fun k => if k < i + 1 then v.getD k 0 * S.getD k 0 % p else 0) := mkR_set _ _ (fun j _ => by
        by_cases e : j = i
        · subst e; rw [if_pos (by omega), if_pos rfl]
        · rw [if_neg e]
          by_cases e2 : j < i
          · rw [if_pos e2, if_pos (by omega)]
          · rw [if_neg e2, if_neg (by omega)])
      obtain ⟨bg, og, hag, _, _, hcg⟩ := HT.out.row.num (j := i) (by rw [mkR_len]; exact hlt)
      cases hag
      rw [Nat.zero_add] at hcg
      obtain ⟨u, hu⟩ : ∃ u, u = (mkR n fun k => if k < i then v.getD k 0 * S.getD k 0 % p else 0).getD i 0 := ⟨_, rfl⟩
      rw [← hu] at hcg
      have hfg : wr.frozen? ⟨w.heap.size + 1, i, none⟩ = false := by
        rcases HT.out with h | ⟨b', o', cur, e, _, _, ht, _⟩
        · have := mkR_len n (fun k => if k < i then v.getD k 0 * S.getD k 0 % p else 0); rw [h] at this; simp at this; omega
        · cases e; exact free_of ht _
      obtain ⟨x, hx⟩ : ∃ x, x = v.getD i 0 := ⟨_, rfl⟩
      obtain ⟨y, hy⟩ : ∃ y, y = S.getD i 0 := ⟨_, rfl⟩
      rw [← hx] at hc2 x0 x1
      rw [← hy] at hc3 y0 y1
      have HXY : Hid (v.getD i 0 * S.getD i 0 % p = x * y % p) := by show _ = _; rw [hx, hy]
      obtain ⟨m0, m1, _, _⟩ := prod3 hpb.2 x0 x1 y0 y1 y0 y1
      have e1 : IntKind.i64.wrap (x * y) = x * y := IntWalk.i64_in _ (by omega)
      have e2 : (x * y).tmod p = x * y % p := Int.tmod_eq_emod_of_nonneg m0
      have hp0 : ¬ p = 0 := by omega
      have hp1 : (p == 0) = false := by simpa using hp0
      clear hu hx hy hb
      go_wp2
      go_region
      go_wp2
      go_roundw
      case rel =>
        have h := HT.out.set (j := i) (by rw [mkR_len]; exact hlt) (x * y % p)
        rw [← HXY.out, HSET.out, HXY.out, Nat.zero_add] at h
        exact ⟨i + 1, by omega, by go_num, h.block (Nat.le_refl _) (by simp [World.setCell]) (fun _ _ _ _ _ => rfl), (Below.setCell HB.out (Nat.le_of_eq HZ1.out) _).drew⟩
      case measure => simp [intOf]; omega
    · have hin : i = n := by omega
      subst hin
      have HE : Hid ((mkR i fun k => if k < i then v.getD k 0 * S.getD k 0 % p else 0) = mkR i fun k => v.getD k 0 * S.getD k 0 % p) := mkR_congr (fun j h => if_pos h)
      clear hb
      go_wp2
      go_ret
      exact ⟨_, rfl, by have h := HT.out; rw [HE.out] at h; exact h.block hzw (Nat.le_refl _) (fun _ _ _ _ _ => rfl), HBX.out⟩

end Go.Proofs.Ytihanbfbgiiakaa

namespace Go.Proofs.Ytihanbfbgiiakaa
open Go.RowKit
set_option linter.unusedVariables false

/-- What the two blocks hold. -/
def Tgs (w : World) (bm br n : Nat) : Prop := (∃ cur, w.heap[bm]? = some (.cells cur 31 (0, 0)) ∧ cur.size = n) ∧ ∃ cur, w.heap[br]? = some (.cells cur 2 (0, 0))
theorem Tgs.set {w : World} {bm br n : Nat} (h : Tgs w bm br n) (hne : bm ≠ br) (i : Nat) (v : Value) : Tgs (w.setCell ⟨bm, i, none⟩ v).drew bm br n := by
  obtain ⟨⟨cur, h1, h2⟩, ⟨cur', h3⟩⟩ := h
  refine ⟨⟨cur.setIfInBounds i v, ?_, by simp [h2]⟩, ⟨cur', ?_⟩⟩
  · show (w.setCell ⟨bm, i, none⟩ v).heap[bm]? = _
    simp [World.setCell, Array.getElem?_modify, h1]
  · show (w.setCell ⟨bm, i, none⟩ v).heap[br]? = _
    rw [Below.heap_setCell _ _ _ _ (fun e => hne e.symm)]; exact h3
theorem tgs1 (w : World) (n k : Nat) (t t' : TypeId) (ht : t = 31) (ht' : t' = 2) : Tgs ((w.alloc (.cells (madeCells #[.slice none 0 0] n) t)).alloc (.cells (madeCells #[.int .i64 0] k) t')).drew w.heap.size (w.heap.size + 1) n := by
  subst ht ht'
  refine ⟨⟨madeCells #[.slice none 0 0] n, ?_, by simp [size_madeCells]⟩, ⟨madeCells #[.int .i64 0] k, ?_⟩⟩
  · show ((w.alloc _).alloc _).heap[w.heap.size]? = _
    rw [Below.heap_alloc _ _ _ (by simp)]; exact heap_alloc_new w _
  · have h := heap_alloc_new (w.alloc (.cells (madeCells #[.slice none 0 0] n) 31)) (.cells (madeCells #[.int .i64 0] k) 2)
    have e : ∀ o : Obj, (w.alloc o).heap.size = w.heap.size + 1 := fun o => by simp
    rw [e] at h; exact h
theorem tgs2 (w : World) (n k : Nat) (t t' : TypeId) (ht : t = 31) (ht' : t' = 2) : Tgs ((w.alloc (.cells (madeCells #[.int .i64 0] k) t')).alloc (.cells (madeCells #[.slice none 0 0] n) t)).drew (w.heap.size + 1) w.heap.size n := by
  subst ht ht'
  refine ⟨⟨madeCells #[.slice none 0 0] n, ?_, by simp [size_madeCells]⟩, ⟨madeCells #[.int .i64 0] k, ?_⟩⟩
  · have h := heap_alloc_new (w.alloc (.cells (madeCells #[.int .i64 0] k) 2)) (.cells (madeCells #[.slice none 0 0] n) 31)
    have e : ∀ o : Obj, (w.alloc o).heap.size = w.heap.size + 1 := fun o => by simp
    rw [e] at h; exact h
  · show ((w.alloc _).alloc _).heap[w.heap.size]? = _
    rw [Below.heap_alloc _ _ _ (by simp)]; exact heap_alloc_new w _
theorem cut_out {w wr : World} {bm br n c : Nat} (h : CutAt w wr bm br n c n) (ht : Tgs wr bm br n) (hn : n ≤ 1024) : OutM w.heap.size wr (.slice (some ⟨bm, 0, none⟩) n n) (mk n c fun _ _ => 0) := by
  obtain ⟨⟨cur, h1, h2⟩, ⟨cur', h3⟩⟩ := ht
  refine ⟨cur.toList, ?_, fun i hi => ?_⟩
  · rw [mk_len]
    refine ⟨by simp [h2], .inr ⟨bm, n, cur, rfl, h.lm.1, h1, Nat.le_refl _, by unfold maxLen; omega, by omega, ?_⟩⟩
    rw [List.take_of_length_le (by simp [h2])]
  · rw [mk_len] at hi
    refine ⟨some ⟨br, i * c, none⟩, c, ?_, .inr ⟨br, i * c, cur', rfl, h.lr.1, h.lr.2, h3, fun j hj => ?_⟩⟩
    · have := h.done i hi
      rw [mk_rowLen _ hi]
      simpa [World.cell?, h1] using this
    · rw [mk_rowLen _ hi] at hj
      rw [mk_row _ hi, mkR_at _ hj]
      refine h.zero _ ?_
      have h4 : (i + 1) * c ≤ n * c := Nat.mul_le_mul_right _ hi
      rw [Nat.succ_mul] at h4
      omega
def NewZO (n c : Nat) (w : World) (e : Ending) (w' : World) : Prop := ∃ g, e = .returned (.slice (some ⟨g, 0, none⟩) n n) ∧ OutM w.heap.size w' (.slice (some ⟨g, 0, none⟩) n n) (mk n c fun _ _ => 0) ∧ Below w.heap.size w w'

set_option maxRecDepth 100000 in
set_option maxHeartbeats 3200000 in
theorem newMatrix_out (n c : Nat) (w : World) (hn : n ≤ 1024) (hc : c ≤ 1024) (hc0 : 1 ≤ c) :
    Calls Try.prog 81 #[.int .i64 n, .int .i64 c] w (NewZO n c w) := by
  have hn' := Lib.hid hn
  obtain ⟨t, htt⟩ : ∃ t, t = n * c := ⟨_, rfl⟩
  have htb : t ≤ 1048576 := by rw [htt]; exact Nat.mul_le_mul hn hc
  have hmul : IntKind.i64.wrap ((n : Int) * (c : Int)) = (t : Int) := by
    have : (n : Int) * (c : Int) = (t : Int) := by rw [htt]; simp
    rw [this]; exact IntWalk.i64_in _ (by omega)
  have HT := Lib.hid htt
  clear htt
  have hmk := fun W => run_make_row' (P := Try.prog) 22 31 (.slice none 0 0) 24 Try.underlying22 info_slice rfl .i64 .i64 n (by omega) (by omega) W
  have hmk2 := fun W => run_make_row' (P := Try.prog) 31 2 (.int .i64 0) 8 Try.underlying31 info64 rfl .i64 .i64 t (by omega) (by omega) W
  go_enter Try.func81, Try.ntmps81
  go_wp2
  go_region
  · go_wp2
    go_loopw [6, 16] (fun v t wr => ∃ i o L : Nat, i ≤ n ∧ t = .int .i64 i ∧ v = .slice (some ⟨(w.heap.size + 1), o, none⟩) L L ∧ L = (n - i) * c ∧ (i < n → o = i * c) ∧ CutAt w wr w.heap.size (w.heap.size + 1) n c i ∧ Tgs wr w.heap.size (w.heap.size + 1) n) (fun _ t _ => n - (intOf t).toNat)
    case atStart => exact ⟨0, 0, t, Nat.zero_le _, rfl, rfl, by rw [HT.out]; rfl, fun _ => by simp, (CutAt.start1 w n c t _ _ HT.out).drew, tgs1 w n t _ _ rfl rfl⟩
    case round =>
      obtain ⟨i, o, L, hi, rfl, rfl, hL, ho, hcut, htg⟩ := hrel
      have HTg := Lib.hid htg
      clear htg
      have HCut := Lib.hid hcut
      have HL := Lib.hid hL
      have HOo := Lib.hid ho
      by_cases hlt : i < n
      · have g0 := hcut.rest i (Nat.le_refl _) hlt
        have f0 := hcut.fm i
        have hLc : c ≤ L := by rw [hL]; exact Nat.le_mul_of_pos_left _ (by omega)
        have hLe : L - c = (n - (i + 1)) * c := by
          rw [hL]
          have : n - i = (n - (i + 1)) + 1 := by omega
          rw [this, Nat.succ_mul]; omega
        have HLe := Lib.hid hLe
        have hLt : L ≤ t := by rw [hL, HT.out]; exact Nat.mul_le_mul_right _ (by omega)
        have hi1 : (i : Int) < (n : Int) := by omega
        have hc1 : (c : Int) ≤ (L : Int) := by omega
        by_cases hend : c = L
        · have hin : i + 1 = n := by
            have h2 : (n - (i + 1)) * c = 0 := by omega
            rcases Nat.mul_eq_zero.1 h2 with h3 | h3 <;> omega
          have HIn := Lib.hid hin
          subst hend
          clear hL ho hcut hLe hin
          go_wp2
          go_region
          go_wp2
          go_roundw
          case rel => exact ⟨i + 1, o, 0, by omega, by go_num, by first | rfl | simp, by rw [HIn.out]; simp, fun h => absurd HIn.out (by omega), (HCut.out.next hlt (HOo.out hlt)).drew, HTg.out.set HCut.out.ne _ _⟩
          case measure => simp [intOf]; omega
        · have hlt2 : c < L := by omega
          clear hL ho hcut hLe hend
          go_wp2
          go_region
          go_wp2
          go_roundw
          case rel => exact ⟨i + 1, o + c, L - c, by omega, by go_num, by first | rfl | simp, HLe.out, fun h => by rw [HOo.out hlt, Nat.succ_mul], (HCut.out.next hlt (HOo.out hlt)).drew, HTg.out.set HCut.out.ne _ _⟩
          case measure => simp [intOf]; omega
      · have hn : i = n := by omega
        subst hn
        clear hL ho hcut
        go_wp2
        go_ret
        exact ⟨_, rfl, cut_out HCut.out HTg.out hn'.out, HCut.out.bel⟩
  · go_wp2
    go_loopw [6, 16] (fun v t wr => ∃ i o L : Nat, i ≤ n ∧ t = .int .i64 i ∧ v = .slice (some ⟨w.heap.size, o, none⟩) L L ∧ L = (n - i) * c ∧ (i < n → o = i * c) ∧ CutAt w wr (w.heap.size + 1) w.heap.size n c i ∧ Tgs wr (w.heap.size + 1) w.heap.size n) (fun _ t _ => n - (intOf t).toNat)
    case atStart => exact ⟨0, 0, t, Nat.zero_le _, rfl, rfl, by rw [HT.out]; rfl, fun _ => by simp, (CutAt.start2 w n c t _ _ HT.out).drew, tgs2 w n t _ _ rfl rfl⟩
    case round =>
      obtain ⟨i, o, L, hi, rfl, rfl, hL, ho, hcut, htg⟩ := hrel
      have HTg := Lib.hid htg
      clear htg
      have HCut := Lib.hid hcut
      have HL := Lib.hid hL
      have HOo := Lib.hid ho
      by_cases hlt : i < n
      · have g0 := hcut.rest i (Nat.le_refl _) hlt
        have f0 := hcut.fm i
        have hLc : c ≤ L := by rw [hL]; exact Nat.le_mul_of_pos_left _ (by omega)
        have hLe : L - c = (n - (i + 1)) * c := by
          rw [hL]
          have : n - i = (n - (i + 1)) + 1 := by omega
          rw [this, Nat.succ_mul]; omega
        have HLe := Lib.hid hLe
        have hLt : L ≤ t := by rw [hL, HT.out]; exact Nat.mul_le_mul_right _ (by omega)
        have hi1 : (i : Int) < (n : Int) := by omega
        have hc1 : (c : Int) ≤ (L : Int) := by omega
        by_cases hend : c = L
        · have hin : i + 1 = n := by
            have h2 : (n - (i + 1)) * c = 0 := by omega
            rcases Nat.mul_eq_zero.1 h2 with h3 | h3 <;> omega
          have HIn := Lib.hid hin
          subst hend
          clear hL ho hcut hLe hin
          go_wp2
          go_region
          go_wp2
          go_roundw
          case rel => exact ⟨i + 1, o, 0, by omega, by go_num, by first | rfl | simp, by rw [HIn.out]; simp, fun h => absurd HIn.out (by omega), (HCut.out.next hlt (HOo.out hlt)).drew, HTg.out.set HCut.out.ne _ _⟩
          case measure => simp [intOf]; omega
        · have hlt2 : c < L := by omega
          clear hL ho hcut hLe hend
          go_wp2
          go_region
          go_wp2
          go_roundw
          case rel => exact ⟨i + 1, o + c, L - c, by omega, by go_num, by first | rfl | simp, HLe.out, fun h => by rw [HOo.out hlt, Nat.succ_mul], (HCut.out.next hlt (HOo.out hlt)).drew, HTg.out.set HCut.out.ne _ _⟩
          case measure => simp [intOf]; omega
      · have hn : i = n := by omega
        subst hn
        clear hL ho hcut
        go_wp2
        go_ret
        exact ⟨_, rfl, cut_out HCut.out HTg.out hn'.out, HCut.out.bel⟩


theorem newMatrix_one (c : Nat) (w : World) (hc : c ≤ 1024) (hc0 : 1 ≤ c) : Calls Try.prog 81 #[.int .i64 1, .int .i64 c] w (NewZO 1 c w) := newMatrix_out 1 c w (by omega) hc hc0

end Go.Proofs.Ytihanbfbgiiakaa

namespace Go.Proofs.Ytihanbfbgiiakaa
open Go.RowKit
set_option linter.unusedVariables false

noncomputable def ortV (p : Int) (S : List Int) (m : List (List Int)) : List (List Int) := if codeL p S m = 0 then ortB p S m else []
theorem ortV_size (p : Int) (S : List Int) (m : List (List Int)) : (ortV p S m).length + tot (ortV p S m) (ortV p S m).length ≤ 1048576 := by
  unfold ortV
  split
  · rename_i h
    rcases codeL_cases p S m with ⟨hs, hc⟩ | ⟨hs, hl, hc⟩ | ⟨hs, hl, hc⟩
    · omega
    · have K := isSp_iff.1 hs
      have s0 := K.lo
      have s1 := K.hi
      unfold ortB
      split
      · exact mk_size (by omega) (by omega)
      · rename_i h0
        have h2 := kerP_lst (ort_lst K.prime s0 s1 (show 0 < m.length by omega) (listB_iff hl).1)
        have e : kerB p (ortM p S m) = basV p (kerP p (ortM p S m)) := by unfold basV; rw [if_pos h2]; rfl
        rw [e]; exact basV_size p _
    · omega
  · simp [tot]
theorem ort_wide {p : Int} {S : List Int} {m : List (List Int)} (hs : isSp p S = true) (hl : listB p S m = true) : RowsW p (zrow S.length :: ortM p S m) := by
  have K := isSp_iff.1 hs
  have s0 := K.lo
  have s1 := K.hi
  have h16 := (listB_iff hl).1
  have el : (ortM p S m).length = m.length := mk_len _ _ _
  have e0 : (rw' (zrow S.length :: ortM p S m) 0).length = S.length := zrow_len _
  have hp := prm_bd K.prime
  refine ⟨K.prime, by simp, by simp [el]; omega, by omega, by omega, fun i hi => ?_, fun i hi j hj => ?_⟩
  · rw [e0]
    cases i with
    | zero => exact zrow_len _
    | succ i => exact mk_rowLen (n := m.length) _ (by simp [el] at hi; omega)
  · rw [e0] at hj
    cases i with
    | zero =>
      rw [at_cons0]
      have : num (zrow S.length) j = 0 := mkR_at _ hj
      rw [this]; omega
    | succ i =>
      rw [at_cons]
      have hi' : i < m.length := by simp [el] at hi; omega
      have : at' (ortM p S m) i j = ortF p S m i j := mk_at _ hi' hj
      rw [this]
      exact mod_bd K.prime _
theorem ort_ker {p : Int} {S : List Int} {m : List (List Int)} (hs : isSp p S = true) : kerB p (zrow S.length :: ortM p S m) = ortB p S m := by
  have K := isSp_iff.1 hs
  have s0 := K.lo
  have hp := prm_bd K.prime
  unfold ortB
  split
  · rename_i h
    have : ortM p S m = [] := List.eq_nil_of_length_eq_zero (by rw [ortM, mk_len]; exact h)
    rw [this]
    exact ker_zrow (by omega) s0
  · rename_i h
    exact ker_zero (by omega) (mk_rowLen _ (by omega))

set_option maxRecDepth 100000 in
set_option maxHeartbeats 1600000 in
theorem spec_OrthogonalTo (pS : Int) (aS : Option Addr) (S : List Int) (cS loS tpS : Nat) (am : Option Addr) (m : List (List Int)) (cm lom tpm : Nat) (w : World)
    (hS : RowIn loS tpS w aS S) (tS : tpS ≤ w.heap.size) (sS : S.length ≤ 1048576) (hm : MatIn lom tpm w am m) (tm : tpm ≤ w.heap.size) (sm : m.length + tot m m.length ≤ 1048576) :
    Calls Try.prog 44 #[.agg #[.int .i64 pS, .slice aS S.length cS], .slice am m.length cm] w (SpecM (ortV pS S m) (codeL pS S m) w) := by
  have HS := Lib.hid hS
  have Hm := Lib.hid hm
  have sm1 : m.length ≤ 1048576 := by omega
  have SR : Hid (∀ i, i < m.length → (rw' m i).length ≤ 1048576) := fun i hi => by have := tot_row hi; omega
  clear hS hm sm
  rcases codeL_cases pS S m with ⟨hs, hc⟩ | ⟨hs, hl, hc⟩ | ⟨hs, hl, hc⟩
  · have HI := Lib.hid hs
    have HC := Lib.hid hc
    have HV : Hid (ortV pS S m = []) := by show _ = _; unfold ortV; rw [if_neg (by rw [hc]; decide)]
    clear hs hc
    go_enter Try.func44, Try.ntmps44
    go_wp2_with (first | (go_at_call 71; (with_reducible refine (l03Is_any pS aS S cS loS tpS _ (HS.out.below ((Below.refl _ _).alloc (Nat.le_refl _) (.cells #[.int .i64 pS, .slice aS S.length cS] 44)) tS) (Nat.le_trans tS (((Below.refl _ _).alloc (Nat.le_refl _) (.cells #[.int .i64 pS, .slice aS S.length cS] 44))).size) sS).mono ?_); rintro e w2 ⟨rfl, b2⟩; rw [HI.out]; have B2 := Lib.hid b2; have K2_0_0 := (b2.cell (p := ⟨w.heap.size, 0, none⟩) (Nat.lt_of_lt_of_le (show w.heap.size < (w.alloc (.cells #[.int .i64 pS, .slice aS S.length cS] 44)).heap.size by simp) (Nat.le_refl _))).trans (show (w.alloc (.cells #[.int .i64 pS, .slice aS S.length cS] 44)).cell? ⟨w.heap.size, 0, none⟩ = some (.int .i64 pS) by simp [go_sem]); have K2_0_1 := (b2.cell (p := ⟨w.heap.size, 1, none⟩) (Nat.lt_of_lt_of_le (show w.heap.size < (w.alloc (.cells #[.int .i64 pS, .slice aS S.length cS] 44)).heap.size by simp) (Nat.le_refl _))).trans (show (w.alloc (.cells #[.int .i64 pS, .slice aS S.length cS] 44)).cell? ⟨w.heap.size, 1, none⟩ = some (.slice aS S.length cS) by simp [go_sem]); clear b2))
    go_ret2
    rw [HV.out, HC.out]
    exact ⟨none, 0, rfl, .inl rfl, (below_step ((Below.refl _ _).alloc (Nat.le_refl _) (.cells #[.int .i64 pS, .slice aS S.length cS] 44)) (show w.heap.size ≤ (w.alloc (.cells #[.int .i64 pS, .slice aS S.length cS] 44)).heap.size from (((Below.refl _ _).alloc (Nat.le_refl _) (.cells #[.int .i64 pS, .slice aS S.length cS] 44))).size) B2.out)⟩
  · have HI := Lib.hid hs
    have HC := Lib.hid hc
    have HL := Lib.hid hl
    have HP := Lib.hid (isSp_iff.1 hs).prime
    have HV : Hid (ortV pS S m = ortB pS S m) := by show _ = _; unfold ortV; rw [if_pos hc]
    clear hs hc hl
    go_enter Try.func44, Try.ntmps44
    go_wp2_with (first | (go_at_call 71; (with_reducible refine (l03Is_any pS aS S cS loS tpS _ (HS.out.below ((Below.refl _ _).alloc (Nat.le_refl _) (.cells #[.int .i64 pS, .slice aS S.length cS] 44)) tS) (Nat.le_trans tS (((Below.refl _ _).alloc (Nat.le_refl _) (.cells #[.int .i64 pS, .slice aS S.length cS] 44))).size) sS).mono ?_); rintro e w2 ⟨rfl, b2⟩; rw [HI.out]; have B2 := Lib.hid b2; have K2_0_0 := (b2.cell (p := ⟨w.heap.size, 0, none⟩) (Nat.lt_of_lt_of_le (show w.heap.size < (w.alloc (.cells #[.int .i64 pS, .slice aS S.length cS] 44)).heap.size by simp) (Nat.le_refl _))).trans (show (w.alloc (.cells #[.int .i64 pS, .slice aS S.length cS] 44)).cell? ⟨w.heap.size, 0, none⟩ = some (.int .i64 pS) by simp [go_sem]); have K2_0_1 := (b2.cell (p := ⟨w.heap.size, 1, none⟩) (Nat.lt_of_lt_of_le (show w.heap.size < (w.alloc (.cells #[.int .i64 pS, .slice aS S.length cS] 44)).heap.size by simp) (Nat.le_refl _))).trans (show (w.alloc (.cells #[.int .i64 pS, .slice aS S.length cS] 44)).cell? ⟨w.heap.size, 1, none⟩ = some (.slice aS S.length cS) by simp [go_sem]); clear b2) | (go_at_call 72; (with_reducible refine (l03List_any pS aS S cS am m cm lom tpm _ HP.out sS (Hm.out.below (below_step ((Below.refl _ _).alloc (Nat.le_refl _) (.cells #[.int .i64 pS, .slice aS S.length cS] 44)) (show w.heap.size ≤ (w.alloc (.cells #[.int .i64 pS, .slice aS S.length cS] 44)).heap.size from (((Below.refl _ _).alloc (Nat.le_refl _) (.cells #[.int .i64 pS, .slice aS S.length cS] 44))).size) B2.out) tm) (Nat.le_trans tm ((below_step ((Below.refl _ _).alloc (Nat.le_refl _) (.cells #[.int .i64 pS, .slice aS S.length cS] 44)) (show w.heap.size ≤ (w.alloc (.cells #[.int .i64 pS, .slice aS S.length cS] 44)).heap.size from (((Below.refl _ _).alloc (Nat.le_refl _) (.cells #[.int .i64 pS, .slice aS S.length cS] 44))).size) B2.out)).size) sm1 SR.out).mono ?_); rintro e w3 ⟨rfl, b3⟩; rw [HL.out]; have B3 := Lib.hid b3; have K3_0_0 := (b3.cell (p := ⟨w.heap.size, 0, none⟩) (Nat.lt_of_lt_of_le (show w.heap.size < (w.alloc (.cells #[.int .i64 pS, .slice aS S.length cS] 44)).heap.size by simp) (Nat.le_trans (Nat.le_refl _) B2.out.size))).trans K2_0_0; clear K2_0_0; have K3_0_1 := (b3.cell (p := ⟨w.heap.size, 1, none⟩) (Nat.lt_of_lt_of_le (show w.heap.size < (w.alloc (.cells #[.int .i64 pS, .slice aS S.length cS] 44)).heap.size by simp) (Nat.le_trans (Nat.le_refl _) B2.out.size))).trans K2_0_1; clear K2_0_1; clear b3) | (go_at_call 80; (with_reducible refine (l03Orthogonal_any pS aS S cS loS tpS am m cm lom tpm _ (HS.out.below (below_step (below_step ((Below.refl _ _).alloc (Nat.le_refl _) (.cells #[.int .i64 pS, .slice aS S.length cS] 44)) (show w.heap.size ≤ (w.alloc (.cells #[.int .i64 pS, .slice aS S.length cS] 44)).heap.size from (((Below.refl _ _).alloc (Nat.le_refl _) (.cells #[.int .i64 pS, .slice aS S.length cS] 44))).size) B2.out) (show w.heap.size ≤ w2.heap.size from ((below_step ((Below.refl _ _).alloc (Nat.le_refl _) (.cells #[.int .i64 pS, .slice aS S.length cS] 44)) (show w.heap.size ≤ (w.alloc (.cells #[.int .i64 pS, .slice aS S.length cS] 44)).heap.size from (((Below.refl _ _).alloc (Nat.le_refl _) (.cells #[.int .i64 pS, .slice aS S.length cS] 44))).size) B2.out)).size) B3.out) tS) (Nat.le_trans tS ((below_step (below_step ((Below.refl _ _).alloc (Nat.le_refl _) (.cells #[.int .i64 pS, .slice aS S.length cS] 44)) (show w.heap.size ≤ (w.alloc (.cells #[.int .i64 pS, .slice aS S.length cS] 44)).heap.size from (((Below.refl _ _).alloc (Nat.le_refl _) (.cells #[.int .i64 pS, .slice aS S.length cS] 44))).size) B2.out) (show w.heap.size ≤ w2.heap.size from ((below_step ((Below.refl _ _).alloc (Nat.le_refl _) (.cells #[.int .i64 pS, .slice aS S.length cS] 44)) (show w.heap.size ≤ (w.alloc (.cells #[.int .i64 pS, .slice aS S.length cS] 44)).heap.size from (((Below.refl _ _).alloc (Nat.le_refl _) (.cells #[.int .i64 pS, .slice aS S.length cS] 44))).size) B2.out)).size) B3.out)).size) (Hm.out.below (below_step (below_step ((Below.refl _ _).alloc (Nat.le_refl _) (.cells #[.int .i64 pS, .slice aS S.length cS] 44)) (show w.heap.size ≤ (w.alloc (.cells #[.int .i64 pS, .slice aS S.length cS] 44)).heap.size from (((Below.refl _ _).alloc (Nat.le_refl _) (.cells #[.int .i64 pS, .slice aS S.length cS] 44))).size) B2.out) (show w.heap.size ≤ w2.heap.size from ((below_step ((Below.refl _ _).alloc (Nat.le_refl _) (.cells #[.int .i64 pS, .slice aS S.length cS] 44)) (show w.heap.size ≤ (w.alloc (.cells #[.int .i64 pS, .slice aS S.length cS] 44)).heap.size from (((Below.refl _ _).alloc (Nat.le_refl _) (.cells #[.int .i64 pS, .slice aS S.length cS] 44))).size) B2.out)).size) B3.out) tm) (Nat.le_trans tm ((below_step (below_step ((Below.refl _ _).alloc (Nat.le_refl _) (.cells #[.int .i64 pS, .slice aS S.length cS] 44)) (show w.heap.size ≤ (w.alloc (.cells #[.int .i64 pS, .slice aS S.length cS] 44)).heap.size from (((Below.refl _ _).alloc (Nat.le_refl _) (.cells #[.int .i64 pS, .slice aS S.length cS] 44))).size) B2.out) (show w.heap.size ≤ w2.heap.size from ((below_step ((Below.refl _ _).alloc (Nat.le_refl _) (.cells #[.int .i64 pS, .slice aS S.length cS] 44)) (show w.heap.size ≤ (w.alloc (.cells #[.int .i64 pS, .slice aS S.length cS] 44)).heap.size from (((Below.refl _ _).alloc (Nat.le_refl _) (.cells #[.int .i64 pS, .slice aS S.length cS] 44))).size) B2.out)).size) B3.out)).size) HI.out HL.out).mono ?_); rintro e w4 ⟨r4, k4, rfl, o4, b4⟩; have B4 := Lib.hid b4; have K4_0_0 := (b4.cell (p := ⟨w.heap.size, 0, none⟩) (Nat.lt_of_lt_of_le (show w.heap.size < (w.alloc (.cells #[.int .i64 pS, .slice aS S.length cS] 44)).heap.size by simp) (Nat.le_trans (Nat.le_trans (Nat.le_refl _) B2.out.size) B3.out.size))).trans K3_0_0; clear K3_0_0; have K4_0_1 := (b4.cell (p := ⟨w.heap.size, 1, none⟩) (Nat.lt_of_lt_of_le (show w.heap.size < (w.alloc (.cells #[.int .i64 pS, .slice aS S.length cS] 44)).heap.size by simp) (Nat.le_trans (Nat.le_trans (Nat.le_refl _) B2.out.size) B3.out.size))).trans K3_0_1; clear K3_0_1; have O4 := Lib.hid o4; clear o4; clear b4))
    go_ret2
    rw [HV.out, HC.out]
    exact ⟨_, _, rfl, O4.out.mono (show w.heap.size ≤ w3.heap.size from ((below_step (below_step ((Below.refl _ _).alloc (Nat.le_refl _) (.cells #[.int .i64 pS, .slice aS S.length cS] 44)) (show w.heap.size ≤ (w.alloc (.cells #[.int .i64 pS, .slice aS S.length cS] 44)).heap.size from (((Below.refl _ _).alloc (Nat.le_refl _) (.cells #[.int .i64 pS, .slice aS S.length cS] 44))).size) B2.out) (show w.heap.size ≤ w2.heap.size from ((below_step ((Below.refl _ _).alloc (Nat.le_refl _) (.cells #[.int .i64 pS, .slice aS S.length cS] 44)) (show w.heap.size ≤ (w.alloc (.cells #[.int .i64 pS, .slice aS S.length cS] 44)).heap.size from (((Below.refl _ _).alloc (Nat.le_refl _) (.cells #[.int .i64 pS, .slice aS S.length cS] 44))).size) B2.out)).size) B3.out)).size) (Nat.le_refl _), (below_step (below_step (below_step ((Below.refl _ _).alloc (Nat.le_refl _) (.cells #[.int .i64 pS, .slice aS S.length cS] 44)) (show w.heap.size ≤ (w.alloc (.cells #[.int .i64 pS, .slice aS S.length cS] 44)).heap.size from (((Below.refl _ _).alloc (Nat.le_refl _) (.cells #[.int .i64 pS, .slice aS S.length cS] 44))).size) B2.out) (show w.heap.size ≤ w2.heap.size from ((below_step ((Below.refl _ _).alloc (Nat.le_refl _) (.cells #[.int .i64 pS, .slice aS S.length cS] 44)) (show w.heap.size ≤ (w.alloc (.cells #[.int .i64 pS, .slice aS S.length cS] 44)).heap.size from (((Below.refl _ _).alloc (Nat.le_refl _) (.cells #[.int .i64 pS, .slice aS S.length cS] 44))).size) B2.out)).size) B3.out) (show w.heap.size ≤ w3.heap.size from ((below_step (below_step ((Below.refl _ _).alloc (Nat.le_refl _) (.cells #[.int .i64 pS, .slice aS S.length cS] 44)) (show w.heap.size ≤ (w.alloc (.cells #[.int .i64 pS, .slice aS S.length cS] 44)).heap.size from (((Below.refl _ _).alloc (Nat.le_refl _) (.cells #[.int .i64 pS, .slice aS S.length cS] 44))).size) B2.out) (show w.heap.size ≤ w2.heap.size from ((below_step ((Below.refl _ _).alloc (Nat.le_refl _) (.cells #[.int .i64 pS, .slice aS S.length cS] 44)) (show w.heap.size ≤ (w.alloc (.cells #[.int .i64 pS, .slice aS S.length cS] 44)).heap.size from (((Below.refl _ _).alloc (Nat.le_refl _) (.cells #[.int .i64 pS, .slice aS S.length cS] 44))).size) B2.out)).size) B3.out)).size) B4.out)⟩
  · have HI := Lib.hid hs
    have HC := Lib.hid hc
    have HV : Hid (ortV pS S m = []) := by show _ = _; unfold ortV; rw [if_neg (by rw [hc]; decide)]
    have HL := Lib.hid hl
    have HP := Lib.hid (isSp_iff.1 hs).prime
    clear hs hc hl
    go_enter Try.func44, Try.ntmps44
    go_wp2_with (first | (go_at_call 71; (with_reducible refine (l03Is_any pS aS S cS loS tpS _ (HS.out.below ((Below.refl _ _).alloc (Nat.le_refl _) (.cells #[.int .i64 pS, .slice aS S.length cS] 44)) tS) (Nat.le_trans tS (((Below.refl _ _).alloc (Nat.le_refl _) (.cells #[.int .i64 pS, .slice aS S.length cS] 44))).size) sS).mono ?_); rintro e w2 ⟨rfl, b2⟩; rw [HI.out]; have B2 := Lib.hid b2; have K2_0_0 := (b2.cell (p := ⟨w.heap.size, 0, none⟩) (Nat.lt_of_lt_of_le (show w.heap.size < (w.alloc (.cells #[.int .i64 pS, .slice aS S.length cS] 44)).heap.size by simp) (Nat.le_refl _))).trans (show (w.alloc (.cells #[.int .i64 pS, .slice aS S.length cS] 44)).cell? ⟨w.heap.size, 0, none⟩ = some (.int .i64 pS) by simp [go_sem]); have K2_0_1 := (b2.cell (p := ⟨w.heap.size, 1, none⟩) (Nat.lt_of_lt_of_le (show w.heap.size < (w.alloc (.cells #[.int .i64 pS, .slice aS S.length cS] 44)).heap.size by simp) (Nat.le_refl _))).trans (show (w.alloc (.cells #[.int .i64 pS, .slice aS S.length cS] 44)).cell? ⟨w.heap.size, 1, none⟩ = some (.slice aS S.length cS) by simp [go_sem]); clear b2) | (go_at_call 72; (with_reducible refine (l03List_any pS aS S cS am m cm lom tpm _ HP.out sS (Hm.out.below (below_step ((Below.refl _ _).alloc (Nat.le_refl _) (.cells #[.int .i64 pS, .slice aS S.length cS] 44)) (show w.heap.size ≤ (w.alloc (.cells #[.int .i64 pS, .slice aS S.length cS] 44)).heap.size from (((Below.refl _ _).alloc (Nat.le_refl _) (.cells #[.int .i64 pS, .slice aS S.length cS] 44))).size) B2.out) tm) (Nat.le_trans tm ((below_step ((Below.refl _ _).alloc (Nat.le_refl _) (.cells #[.int .i64 pS, .slice aS S.length cS] 44)) (show w.heap.size ≤ (w.alloc (.cells #[.int .i64 pS, .slice aS S.length cS] 44)).heap.size from (((Below.refl _ _).alloc (Nat.le_refl _) (.cells #[.int .i64 pS, .slice aS S.length cS] 44))).size) B2.out)).size) sm1 SR.out).mono ?_); rintro e w3 ⟨rfl, b3⟩; rw [HL.out]; have B3 := Lib.hid b3; have K3_0_0 := (b3.cell (p := ⟨w.heap.size, 0, none⟩) (Nat.lt_of_lt_of_le (show w.heap.size < (w.alloc (.cells #[.int .i64 pS, .slice aS S.length cS] 44)).heap.size by simp) (Nat.le_trans (Nat.le_refl _) B2.out.size))).trans K2_0_0; clear K2_0_0; have K3_0_1 := (b3.cell (p := ⟨w.heap.size, 1, none⟩) (Nat.lt_of_lt_of_le (show w.heap.size < (w.alloc (.cells #[.int .i64 pS, .slice aS S.length cS] 44)).heap.size by simp) (Nat.le_trans (Nat.le_refl _) B2.out.size))).trans K2_0_1; clear K2_0_1; clear b3))
    go_ret2
    rw [HV.out, HC.out]
    exact ⟨none, 0, rfl, .inl rfl, (below_step (below_step ((Below.refl _ _).alloc (Nat.le_refl _) (.cells #[.int .i64 pS, .slice aS S.length cS] 44)) (show w.heap.size ≤ (w.alloc (.cells #[.int .i64 pS, .slice aS S.length cS] 44)).heap.size from (((Below.refl _ _).alloc (Nat.le_refl _) (.cells #[.int .i64 pS, .slice aS S.length cS] 44))).size) B2.out) (show w.heap.size ≤ w2.heap.size from ((below_step ((Below.refl _ _).alloc (Nat.le_refl _) (.cells #[.int .i64 pS, .slice aS S.length cS] 44)) (show w.heap.size ≤ (w.alloc (.cells #[.int .i64 pS, .slice aS S.length cS] 44)).heap.size from (((Below.refl _ _).alloc (Nat.le_refl _) (.cells #[.int .i64 pS, .slice aS S.length cS] 44))).size) B2.out)).size) B3.out)⟩

set_option maxRecDepth 100000 in
set_option maxHeartbeats 3200000 in
theorem impl_OrthogonalTo (pS : Int) (aS : Option Addr) (S : List Int) (cS loS tpS : Nat) (am : Option Addr) (m : List (List Int)) (cm lom tpm : Nat) (w : World)
    (hS : RowIn loS tpS w aS S) (tS : tpS ≤ w.heap.size) (sS : S.length ≤ 1048576) (hm : MatIn lom tpm w am m) (tm : tpm ≤ w.heap.size) (sm : m.length + tot m m.length ≤ 1048576) :
    Calls Try.prog 45 #[.agg #[.int .i64 pS, .slice aS S.length cS], .slice am m.length cm] w (ImplM (ortV pS S m) (codeL pS S m) w) := by
  obtain ⟨j0, kj, kz0, kz1, kz2⟩ := info_parts info_slice
  have HS := Lib.hid hS
  have Hm := Lib.hid hm
  have sm1 : m.length ≤ 1048576 := by omega
  have SR : Hid (∀ i, i < m.length → (rw' m i).length ≤ 1048576) := fun i hi => by have := tot_row hi; omega
  clear hS hm sm
  rcases codeL_cases pS S m with ⟨hs, hc⟩ | ⟨hs, hl, hc⟩ | ⟨hs, hl, hc⟩
  · have HI := Lib.hid hs
    have HC := Lib.hid hc
    have HV : Hid (ortV pS S m = []) := by show _ = _; unfold ortV; rw [if_neg (by rw [hc]; decide)]
    clear hs hc
    go_enter Try.func45, Try.ntmps45
    go_wp2_with (first | (go_at_call 74; (with_reducible refine (checkList_any pS aS S cS loS tpS am m cm lom tpm _ (HS.out.below ((Below.refl _ _).alloc (Nat.le_refl _) (.cells #[.int .i64 pS, .slice aS S.length cS] 44)) tS) (Nat.le_trans tS (((Below.refl _ _).alloc (Nat.le_refl _) (.cells #[.int .i64 pS, .slice aS S.length cS] 44))).size) sS (Hm.out.below ((Below.refl _ _).alloc (Nat.le_refl _) (.cells #[.int .i64 pS, .slice aS S.length cS] 44)) tm) (Nat.le_trans tm (((Below.refl _ _).alloc (Nat.le_refl _) (.cells #[.int .i64 pS, .slice aS S.length cS] 44))).size) sm1 SR.out).mono ?_); rintro e w2 ⟨rfl, b2⟩; rw [HC.out]; have B2 := Lib.hid b2; have K2_0_0 := (b2.cell (p := ⟨w.heap.size, 0, none⟩) (Nat.lt_of_lt_of_le (show w.heap.size < (w.alloc (.cells #[.int .i64 pS, .slice aS S.length cS] 44)).heap.size by simp) (Nat.le_refl _))).trans (show (w.alloc (.cells #[.int .i64 pS, .slice aS S.length cS] 44)).cell? ⟨w.heap.size, 0, none⟩ = some (.int .i64 pS) by simp [go_sem]); have K2_0_1 := (b2.cell (p := ⟨w.heap.size, 1, none⟩) (Nat.lt_of_lt_of_le (show w.heap.size < (w.alloc (.cells #[.int .i64 pS, .slice aS S.length cS] 44)).heap.size by simp) (Nat.le_refl _))).trans (show (w.alloc (.cells #[.int .i64 pS, .slice aS S.length cS] 44)).cell? ⟨w.heap.size, 1, none⟩ = some (.slice aS S.length cS) by simp [go_sem]); clear b2))
    go_ret2
    rw [HV.out, HC.out]
    exact ⟨none, 0, rfl, .inl rfl, (below_step ((Below.refl _ _).alloc (Nat.le_refl _) (.cells #[.int .i64 pS, .slice aS S.length cS] 44)) (show w.heap.size ≤ (w.alloc (.cells #[.int .i64 pS, .slice aS S.length cS] 44)).heap.size from (((Below.refl _ _).alloc (Nat.le_refl _) (.cells #[.int .i64 pS, .slice aS S.length cS] 44))).size) B2.out)⟩
  · have HI := Lib.hid hs
    have HC := Lib.hid hc
    have HL := Lib.hid hl
    have HP := Lib.hid (isSp_iff.1 hs).prime
    have HV : Hid (ortV pS S m = ortB pS S m) := by show _ = _; unfold ortV; rw [if_pos hc]
    have HVE : Hid (∀ i, i < m.length → isVec pS S.length (rw' m i) = true) := (listB_iff hl).2
    have h16 := (listB_iff hl).1
    have hS6 := (isSp_iff.1 hs).hi
    have hS1 := (isSp_iff.1 hs).lo
    have HRW := Lib.hid (ort_wide hs hl)
    have HKE := Lib.hid (ort_ker (m := m) hs)
    have HEM : Hid (zrow S.length :: mk m.length S.length (ortF pS S m) = zrow S.length :: ortM pS S m) := rfl
    obtain ⟨Z, hZ⟩ : ∃ Z, Z = zrow S.length :: ortM pS S m := ⟨_, rfl⟩
    rw [← hZ] at HRW HKE HEM
    clear hZ
    clear hs hc hl
    go_enter Try.func45, Try.ntmps45
    go_wp2_with (first | (go_at_call 74; (with_reducible refine (checkList_any pS aS S cS loS tpS am m cm lom tpm _ (HS.out.below ((Below.refl _ _).alloc (Nat.le_refl _) (.cells #[.int .i64 pS, .slice aS S.length cS] 44)) tS) (Nat.le_trans tS (((Below.refl _ _).alloc (Nat.le_refl _) (.cells #[.int .i64 pS, .slice aS S.length cS] 44))).size) sS (Hm.out.below ((Below.refl _ _).alloc (Nat.le_refl _) (.cells #[.int .i64 pS, .slice aS S.length cS] 44)) tm) (Nat.le_trans tm (((Below.refl _ _).alloc (Nat.le_refl _) (.cells #[.int .i64 pS, .slice aS S.length cS] 44))).size) sm1 SR.out).mono ?_); rintro e w2 ⟨rfl, b2⟩; rw [HC.out]; have B2 := Lib.hid b2; have K2_0_0 := (b2.cell (p := ⟨w.heap.size, 0, none⟩) (Nat.lt_of_lt_of_le (show w.heap.size < (w.alloc (.cells #[.int .i64 pS, .slice aS S.length cS] 44)).heap.size by simp) (Nat.le_refl _))).trans (show (w.alloc (.cells #[.int .i64 pS, .slice aS S.length cS] 44)).cell? ⟨w.heap.size, 0, none⟩ = some (.int .i64 pS) by simp [go_sem]); have K2_0_1 := (b2.cell (p := ⟨w.heap.size, 1, none⟩) (Nat.lt_of_lt_of_le (show w.heap.size < (w.alloc (.cells #[.int .i64 pS, .slice aS S.length cS] 44)).heap.size by simp) (Nat.le_refl _))).trans (show (w.alloc (.cells #[.int .i64 pS, .slice aS S.length cS] 44)).cell? ⟨w.heap.size, 1, none⟩ = some (.slice aS S.length cS) by simp [go_sem]); have KK0 := Lib.hid K2_0_0; have KK1 := Lib.hid K2_0_1; have lw2 : w.heap.size < w2.heap.size := (Nat.lt_of_lt_of_le (show w.heap.size < (w.alloc (.cells #[.int .i64 pS, .slice aS S.length cS] 44)).heap.size by simp) (Nat.le_trans (Nat.le_refl _) B2.out.size)); have HBW := Lib.hid (below_step ((Below.refl _ _).alloc (Nat.le_refl _) (.cells #[.int .i64 pS, .slice aS S.length cS] 44)) (show w.heap.size ≤ (w.alloc (.cells #[.int .i64 pS, .slice aS S.length cS] 44)).heap.size from (((Below.refl _ _).alloc (Nat.le_refl _) (.cells #[.int .i64 pS, .slice aS S.length cS] 44))).size) B2.out); clear b2) | (go_at_call 81; (with_reducible refine (newMatrix_one S.length _ (by omega) (by omega)).mono ?_); rintro e w3 ⟨g3, rfl, o3, b3⟩; have B3 := Lib.hid b3; have K3_0_0 := (b3.cell (p := ⟨w.heap.size, 0, none⟩) (Nat.lt_of_lt_of_le (show w.heap.size < (w.alloc (.cells #[.int .i64 pS, .slice aS S.length cS] 44)).heap.size by simp) (Nat.le_trans (Nat.le_refl _) B2.out.size))).trans K2_0_0; clear K2_0_0; have K3_0_1 := (b3.cell (p := ⟨w.heap.size, 1, none⟩) (Nat.lt_of_lt_of_le (show w.heap.size < (w.alloc (.cells #[.int .i64 pS, .slice aS S.length cS] 44)).heap.size by simp) (Nat.le_trans (Nat.le_refl _) B2.out.size))).trans K2_0_1; clear K2_0_1; have O3 := Lib.hid o3; clear o3; clear b3))
    go_loopw [7, 22] (fun v t wr => ∃ i : Nat, i ≤ m.length ∧ t = .int .i64 i ∧ OutM w2.heap.size wr v (zrow S.length :: mk i S.length (ortF pS S m)) ∧ Below w2.heap.size w2 wr) (fun _ t _ => m.length - (intOf t).toNat)
    case atStart => exact ⟨0, Nat.zero_le _, rfl, O3.out, B3.out⟩
    case round =>
      obtain ⟨i, hi', rfl, ho, hbel⟩ := hrel
      have HO := Lib.hid ho
      have HBEL := Lib.hid hbel
      have hwz := hbel.size
      have k0 := (hbel.cell (p := ⟨w.heap.size, 0, none⟩) lw2).trans KK0.out
      have k1 := (hbel.cell (p := ⟨w.heap.size, 1, none⟩) lw2).trans KK1.out
      have HBX : Hid (Below w.heap.size w wr) := HBW.out.trans (hbel.mono HBW.out.size)
      have HXZ := Lib.hid HBX.out.size
      clear ho hbel
      by_cases hlt : i < m.length
      · have hk1 : (i : Int) < (m.length : Int) := by omega
        obtain ⟨b1, o1, r1, c1, ha1, _, hb1, hr1, hrow1⟩ := (Hm.out.below HBX.out tm).row hlt
        cases ha1
        have v1 := HVE.out i hlt
        rw [(isVec_iff.1 v1).len] at hr1
        have HR1 := Lib.hid hrow1
        have HSd := Lib.hid (HS.out.below HBX.out tS)
        have HTS : Hid (tpS ≤ wr.heap.size) := Nat.le_trans tS HXZ.out
        have HTM : Hid (tpm ≤ wr.heap.size) := Nat.le_trans tm HXZ.out
        obtain ⟨vals, hvo, hvr⟩ := HO.out
        rw [List.length_cons, mk_len] at hvo hvr
        have HV1 := Lib.hid hvo
        have HVR := Lib.hid hvr
        have HKEEP : Hid (∀ W', Below wr.heap.size wr W' → W'.ownsRow w2.heap.size 31 1 u7 (i + 1) vals) := fun W' h => HV1.out.kept (below_grown h) (by cases hv : Value.ownBlock u7 <;> simp)
        have HMS : Hid (zrow S.length :: mk (i + 1) S.length (ortF pS S m) = (zrow S.length :: mk i S.length (ortF pS S m)) ++ [eqnL pS S (rw' m i)]) := by show _ = _; rw [mk_succ]; rfl
        have HML : Hid ((zrow S.length :: mk i S.length (ortF pS S m)).length = i + 1) := by show _ = _; rw [List.length_cons, mk_len]
        have HEL : Hid ((eqnL pS S (rw' m i)).length = S.length) := mkR_len _ _
        obtain ⟨z, hz⟩ : ∃ z, z = eqnL pS S (rw' m i) := ⟨_, rfl⟩
        have HZ := Lib.hid hz
        rw [← hz] at HMS HEL
        clear hvo hvr hrow1 hz
        go_wp2_with (first | (go_at_call 82; (with_reducible refine (equationOf_any pS aS S cS loS tpS r1 (rw' m i) S.length c1 lom tpm wr rfl HSd.out HTS.out HR1.out HTM.out HI.out v1).mono ?_); rintro e w5 ⟨g5, rfl, ht5, hb5⟩; rw [← HZ.out] at ht5; have HT5 := Lib.hid ht5; have HB5 := Lib.hid hb5; have hz5 := hb5.size; clear ht5 hb5) | (at_builtin; go_loud (refine wpList_append_lies _ rfl _ _ 22 rfl w2.heap.size 31 j0 (.slice none 0 0) 1 24 Try.underlying22 kj kz0 kz1 kz2 rfl (by decide) u7 (i + 1) vals rfl ((HKEEP.out _ HB5.out).alloc _) ⟨w5.heap.size, 0, none⟩ 1 1 [.slice (some ⟨g5, 0, none⟩) S.length S.length] rfl rfl (World.news_of_block (cs := #[.slice (some ⟨g5, 0, none⟩) S.length S.length]) (t := 31) (fr := (0, 0)) (heap_alloc_new w5 _)) (by simp [Value.oneCell']) (by omega) (by unfold maxLen; omega) (by omega) (by simp; omega) (w5.heap.size + 1) (by simp) ?_); intro gg cap w1 hown1 hgrow hat hlt1))
        go_roundw
        case rel => exact ⟨i + 1, by omega, by go_num, by rw [HMS.out]; exact OutM.pushW HML.out HEL.out HV1.out HVR.out HT5.out hwz HB5.out hown1 hgrow, ((HBEL.out.trans (HB5.out.mono hwz)).alloc (by omega) _).grown hgrow (by simp; omega) (fun _ hk => (HV1.out.lt _ hk).1)⟩
        case measure => simp [intOf]; omega
      · have hin : i = m.length := by omega
        subst hin
        have ho2 := HO.out
        rw [HEM.out] at ho2
        obtain ⟨r, c, hv, hmat⟩ := ho2.mat
        subst hv
        have HMT := Lib.hid hmat
        clear hmat ho2
        go_wp2_with (go_at_call 60; go_loud ((with_reducible refine (kernelOf_any pS r Z c _ _ wr HMT.out (Nat.le_refl _) HRW.out).mono ?_); rintro e w5 ⟨r5, k5, rfl, ho5, hb5⟩; rw [HKE.out] at ho5 ⊢; have HO5 := Lib.hid ho5; have HB5 := Lib.hid hb5; clear ho5 hb5))
        go_ret2
        rw [HV.out, HC.out]
        exact ⟨r5, k5, rfl, HO5.out.mono HXZ.out (Nat.le_refl _), HBX.out.trans (HB5.out.mono HXZ.out)⟩
  · have HI := Lib.hid hs
    have HC := Lib.hid hc
    have HV : Hid (ortV pS S m = []) := by show _ = _; unfold ortV; rw [if_neg (by rw [hc]; decide)]
    clear hs hc hl
    go_enter Try.func45, Try.ntmps45
    go_wp2_with (first | (go_at_call 74; (with_reducible refine (checkList_any pS aS S cS loS tpS am m cm lom tpm _ (HS.out.below ((Below.refl _ _).alloc (Nat.le_refl _) (.cells #[.int .i64 pS, .slice aS S.length cS] 44)) tS) (Nat.le_trans tS (((Below.refl _ _).alloc (Nat.le_refl _) (.cells #[.int .i64 pS, .slice aS S.length cS] 44))).size) sS (Hm.out.below ((Below.refl _ _).alloc (Nat.le_refl _) (.cells #[.int .i64 pS, .slice aS S.length cS] 44)) tm) (Nat.le_trans tm (((Below.refl _ _).alloc (Nat.le_refl _) (.cells #[.int .i64 pS, .slice aS S.length cS] 44))).size) sm1 SR.out).mono ?_); rintro e w2 ⟨rfl, b2⟩; rw [HC.out]; have B2 := Lib.hid b2; have K2_0_0 := (b2.cell (p := ⟨w.heap.size, 0, none⟩) (Nat.lt_of_lt_of_le (show w.heap.size < (w.alloc (.cells #[.int .i64 pS, .slice aS S.length cS] 44)).heap.size by simp) (Nat.le_refl _))).trans (show (w.alloc (.cells #[.int .i64 pS, .slice aS S.length cS] 44)).cell? ⟨w.heap.size, 0, none⟩ = some (.int .i64 pS) by simp [go_sem]); have K2_0_1 := (b2.cell (p := ⟨w.heap.size, 1, none⟩) (Nat.lt_of_lt_of_le (show w.heap.size < (w.alloc (.cells #[.int .i64 pS, .slice aS S.length cS] 44)).heap.size by simp) (Nat.le_refl _))).trans (show (w.alloc (.cells #[.int .i64 pS, .slice aS S.length cS] 44)).cell? ⟨w.heap.size, 1, none⟩ = some (.slice aS S.length cS) by simp [go_sem]); clear b2))
    go_ret2
    rw [HV.out, HC.out]
    exact ⟨none, 0, rfl, .inl rfl, (below_step ((Below.refl _ _).alloc (Nat.le_refl _) (.cells #[.int .i64 pS, .slice aS S.length cS] 44)) (show w.heap.size ≤ (w.alloc (.cells #[.int .i64 pS, .slice aS S.length cS] 44)).heap.size from (((Below.refl _ _).alloc (Nat.le_refl _) (.cells #[.int .i64 pS, .slice aS S.length cS] 44))).size) B2.out)⟩

end Go.Proofs.Ytihanbfbgiiakaa

namespace Go.Proofs.Ytihanbfbgiiakaa
open Go.RowKit
set_option linter.unusedVariables false

set_option maxRecDepth 100000 in
set_option maxHeartbeats 8000000 in
theorem law_OrthogonalTo (pS : Int) (aS : Option Addr) (S : List Int) (cS : Nat) (am : Option Addr) (m : List (List Int)) (cm : Nat) (w : World) (hS : RowIn 0 w.heap.size w aS S) (lS : S.length ≤ 9223372036854775807) (hm : MatIn 0 w.heap.size w am m) (lm : m.length ≤ 9223372036854775807) (rm : ∀ i, i < m.length → (rw' m i).length ≤ 9223372036854775807) :
    Calls Try.prog 11 #[.agg #[.int .i64 pS, .slice aS S.length cS], .slice am m.length cm] w fun e w' => e = .returned (.bool true) ∧ Below w.heap.size w w' := by
  have HS := Lib.hid hS
  have LS := Lib.hid lS
  clear hS
  have Hm := Lib.hid hm
  have Lm := Lib.hid lm
  have Rm := Lib.hid rm
  clear rm
  clear hm
  obtain ⟨nS, hnS⟩ : ∃ zq, zq = S.length := ⟨_, rfl⟩
  have HNS := Lib.hid hnS
  have lnS : S.length ≤ nS := by omega
  clear hnS
  obtain ⟨nm, hnm⟩ : ∃ zq, zq = m.length + tot m m.length := ⟨_, rfl⟩
  have HNm := Lib.hid hnm
  obtain ⟨tm, htm⟩ : ∃ zq, zq = tot m m.length := ⟨_, rfl⟩
  have Tm := Lib.hid htm
  have lnm : tm ≤ nm := by omega
  clear hnm htm
  by_cases sS : nS ≤ 1048576
  · have HSS : Hid (S.length ≤ 1048576) := by show _ ≤ _; rw [← HNS.out]; omega
    by_cases sm : nS + nm ≤ 1048576
    · have HSm : Hid (m.length + tot m m.length ≤ 1048576) := by show _ ≤ _; rw [← HNm.out]; omega
      obtain ⟨t0, ht0⟩ : ∃ zq, zq = tot (ortV pS S m) (ortV pS S m).length := ⟨_, rfl⟩
      have T0 := Lib.hid ht0
      have l0 : t0 ≤ 1048576 := by have := (ortV_size pS S m); omega
      clear ht0
      go_enter Try.func11, Try.ntmps11
      go_wp2_with (first | (go_at_call 34; (with_reducible refine (szSpace_yes pS aS S nS cS (1048576) _ HNS.out (by omega) (by omega)).mono ?_); rintro e w2 ⟨rfl, b2⟩; have B2 := Lib.hid b2; have Z2 := Lib.hid b2.size; have K2_0_0 := (b2.cell (p := ⟨w.heap.size, 0, none⟩) (Nat.lt_of_lt_of_le (lt_alloc w (.cells #[.int .i64 pS, .slice aS S.length cS] 41)) (Nat.le_refl _))).trans (show (w.alloc (.cells #[.int .i64 pS, .slice aS S.length cS] 41)).cell? ⟨w.heap.size, 0, none⟩ = some (.int .i64 pS) by simp [go_sem]); have K2_0_1 := (b2.cell (p := ⟨w.heap.size, 1, none⟩) (Nat.lt_of_lt_of_le (lt_alloc w (.cells #[.int .i64 pS, .slice aS S.length cS] 41)) (Nat.le_refl _))).trans (show (w.alloc (.cells #[.int .i64 pS, .slice aS S.length cS] 41)).cell? ⟨w.heap.size, 1, none⟩ = some (.slice aS S.length cS) by simp [go_sem]); clear b2) | (go_at_call 15; (with_reducible refine (szMat_n am m cm 0 w.heap.size nm (1048576 - (nS : Int)) _ (Hm.out.same (Same.trans (same_below (below_alloc w (.cells #[.int .i64 pS, .slice aS S.length cS] 41)) (Nat.le_refl _)) (same_below B2.out (size_alloc w (.cells #[.int .i64 pS, .slice aS S.length cS] 41))))) HNm.out (by omega) (by omega)).mono ?_); rintro e w' ⟨rfl, rfl⟩) | (go_at_call 36; (with_reducible refine (copySpace pS aS S cS 0 w.heap.size _ (HS.out.same (Same.trans (same_below (below_alloc w (.cells #[.int .i64 pS, .slice aS S.length cS] 41)) (Nat.le_refl _)) (same_below B2.out (size_alloc w (.cells #[.int .i64 pS, .slice aS S.length cS] 41))))) (Nat.le_trans (size_alloc w (.cells #[.int .i64 pS, .slice aS S.length cS] 41)) Z2.out) HSS.out).mono ?_); rintro e w3 ⟨r3, rfl, b3, o3⟩; have F3 := Lib.hid o3; clear o3; have B3 := Lib.hid b3; have Z3 := Lib.hid b3.size; have K3_0_0 := (b3.cell (p := ⟨w.heap.size, 0, none⟩) (Nat.lt_of_lt_of_le (lt_alloc w (.cells #[.int .i64 pS, .slice aS S.length cS] 41)) Z2.out)).trans K2_0_0; clear K2_0_0; have K3_0_1 := (b3.cell (p := ⟨w.heap.size, 1, none⟩) (Nat.lt_of_lt_of_le (lt_alloc w (.cells #[.int .i64 pS, .slice aS S.length cS] 41)) Z2.out)).trans K2_0_1; clear K2_0_1; clear b3) | (go_at_call 17; (with_reducible refine (copyMatE am m cm 0 w.heap.size _ (Hm.out.same (Same.trans (Same.trans (same_below (below_alloc w (.cells #[.int .i64 pS, .slice aS S.length cS] 41)) (Nat.le_refl _)) (same_below B2.out (size_alloc w (.cells #[.int .i64 pS, .slice aS S.length cS] 41)))) (same_below B3.out (Nat.le_trans (size_alloc w (.cells #[.int .i64 pS, .slice aS S.length cS] 41)) Z2.out)))) (Nat.le_trans (size_alloc w (.cells #[.int .i64 pS, .slice aS S.length cS] 41)) (Nat.le_trans Z2.out Z3.out)) HSm.out).mono ?_); rintro e w4 ⟨r4, rfl, b4, o4⟩; have F4 := Lib.hid o4; clear o4; have B4 := Lib.hid b4; have Z4 := Lib.hid b4.size; have K4_0_0 := (b4.cell (p := ⟨w.heap.size, 0, none⟩) (Nat.lt_of_lt_of_le (lt_alloc w (.cells #[.int .i64 pS, .slice aS S.length cS] 41)) (Nat.le_trans Z2.out Z3.out))).trans K3_0_0; clear K3_0_0; have K4_0_1 := (b4.cell (p := ⟨w.heap.size, 1, none⟩) (Nat.lt_of_lt_of_le (lt_alloc w (.cells #[.int .i64 pS, .slice aS S.length cS] 41)) (Nat.le_trans Z2.out Z3.out))).trans K3_0_1; clear K3_0_1; clear b4) | (go_at_call 44; (with_reducible refine (spec_OrthogonalTo pS r3 S S.length w2.heap.size w3.heap.size r4 m m.length w3.heap.size w4.heap.size _ ((F3.out.row).same (same_below B4.out (Nat.le_refl _))) Z4.out HSS.out (F4.out.mat) (Nat.le_refl _) HSm.out).mono ?_); rintro e w5 ⟨r5, k5, rfl, o5, b5⟩; have F5 := Lib.hid o5; clear o5; have B5 := Lib.hid b5; have Z5 := Lib.hid b5.size; have K5_0_0 := (b5.cell (p := ⟨w.heap.size, 0, none⟩) (Nat.lt_of_lt_of_le (lt_alloc w (.cells #[.int .i64 pS, .slice aS S.length cS] 41)) (Nat.le_trans Z2.out (Nat.le_trans Z3.out Z4.out)))).trans K4_0_0; clear K4_0_0; have K5_0_1 := (b5.cell (p := ⟨w.heap.size, 1, none⟩) (Nat.lt_of_lt_of_le (lt_alloc w (.cells #[.int .i64 pS, .slice aS S.length cS] 41)) (Nat.le_trans Z2.out (Nat.le_trans Z3.out Z4.out)))).trans K4_0_1; clear K4_0_1; clear b5) | (go_at_call 36; (with_reducible refine (copySpace pS aS S cS 0 w.heap.size _ (HS.out.same (Same.trans (Same.trans (Same.trans (Same.trans (same_below (below_alloc w (.cells #[.int .i64 pS, .slice aS S.length cS] 41)) (Nat.le_refl _)) (same_below B2.out (size_alloc w (.cells #[.int .i64 pS, .slice aS S.length cS] 41)))) (same_below B3.out (Nat.le_trans (size_alloc w (.cells #[.int .i64 pS, .slice aS S.length cS] 41)) Z2.out))) (same_below B4.out (Nat.le_trans (size_alloc w (.cells #[.int .i64 pS, .slice aS S.length cS] 41)) (Nat.le_trans Z2.out Z3.out)))) (same_below B5.out (Nat.le_trans (size_alloc w (.cells #[.int .i64 pS, .slice aS S.length cS] 41)) (Nat.le_trans Z2.out (Nat.le_trans Z3.out Z4.out)))))) (Nat.le_trans (size_alloc w (.cells #[.int .i64 pS, .slice aS S.length cS] 41)) (Nat.le_trans Z2.out (Nat.le_trans Z3.out (Nat.le_trans Z4.out Z5.out)))) HSS.out).mono ?_); rintro e w6 ⟨r6, rfl, b6, o6⟩; have F6 := Lib.hid o6; clear o6; have B6 := Lib.hid b6; have Z6 := Lib.hid b6.size; have K6_0_0 := (b6.cell (p := ⟨w.heap.size, 0, none⟩) (Nat.lt_of_lt_of_le (lt_alloc w (.cells #[.int .i64 pS, .slice aS S.length cS] 41)) (Nat.le_trans Z2.out (Nat.le_trans Z3.out (Nat.le_trans Z4.out Z5.out))))).trans K5_0_0; clear K5_0_0; have K6_0_1 := (b6.cell (p := ⟨w.heap.size, 1, none⟩) (Nat.lt_of_lt_of_le (lt_alloc w (.cells #[.int .i64 pS, .slice aS S.length cS] 41)) (Nat.le_trans Z2.out (Nat.le_trans Z3.out (Nat.le_trans Z4.out Z5.out))))).trans K5_0_1; clear K5_0_1; clear b6; have K7_0_0 := ((below_alloc w6 (.cells #[.int .i64 pS, .slice r6 S.length S.length] 44)).cell (p := ⟨w.heap.size, 0, none⟩) (Nat.lt_of_lt_of_le (lt_alloc w (.cells #[.int .i64 pS, .slice aS S.length cS] 41)) (Nat.le_trans Z2.out (Nat.le_trans Z3.out (Nat.le_trans Z4.out (Nat.le_trans Z5.out Z6.out)))))).trans K6_0_0; clear K6_0_0; have K7_0_1 := ((below_alloc w6 (.cells #[.int .i64 pS, .slice r6 S.length S.length] 44)).cell (p := ⟨w.heap.size, 1, none⟩) (Nat.lt_of_lt_of_le (lt_alloc w (.cells #[.int .i64 pS, .slice aS S.length cS] 41)) (Nat.le_trans Z2.out (Nat.le_trans Z3.out (Nat.le_trans Z4.out (Nat.le_trans Z5.out Z6.out)))))).trans K6_0_1; clear K6_0_1; have K7_1_0 := nw0 w6 (.int .i64 pS) (.slice r6 S.length S.length) 44; have K7_1_1 := nw1 w6 (.int .i64 pS) (.slice r6 S.length S.length) 44) | (go_at_call 17; (with_reducible refine (copyMatE am m cm 0 w.heap.size _ (Hm.out.same (Same.trans (Same.trans (Same.trans (Same.trans (Same.trans (Same.trans (same_below (below_alloc w (.cells #[.int .i64 pS, .slice aS S.length cS] 41)) (Nat.le_refl _)) (same_below B2.out (size_alloc w (.cells #[.int .i64 pS, .slice aS S.length cS] 41)))) (same_below B3.out (Nat.le_trans (size_alloc w (.cells #[.int .i64 pS, .slice aS S.length cS] 41)) Z2.out))) (same_below B4.out (Nat.le_trans (size_alloc w (.cells #[.int .i64 pS, .slice aS S.length cS] 41)) (Nat.le_trans Z2.out Z3.out)))) (same_below B5.out (Nat.le_trans (size_alloc w (.cells #[.int .i64 pS, .slice aS S.length cS] 41)) (Nat.le_trans Z2.out (Nat.le_trans Z3.out Z4.out))))) (same_below B6.out (Nat.le_trans (size_alloc w (.cells #[.int .i64 pS, .slice aS S.length cS] 41)) (Nat.le_trans Z2.out (Nat.le_trans Z3.out (Nat.le_trans Z4.out Z5.out)))))) (same_below (below_alloc w6 (.cells #[.int .i64 pS, .slice r6 S.length S.length] 44)) (Nat.le_trans (size_alloc w (.cells #[.int .i64 pS, .slice aS S.length cS] 41)) (Nat.le_trans Z2.out (Nat.le_trans Z3.out (Nat.le_trans Z4.out (Nat.le_trans Z5.out Z6.out)))))))) (Nat.le_trans (size_alloc w (.cells #[.int .i64 pS, .slice aS S.length cS] 41)) (Nat.le_trans Z2.out (Nat.le_trans Z3.out (Nat.le_trans Z4.out (Nat.le_trans Z5.out (Nat.le_trans Z6.out (size_alloc w6 (.cells #[.int .i64 pS, .slice r6 S.length S.length] 44)))))))) HSm.out).mono ?_); rintro e w8 ⟨r8, rfl, b8, o8⟩; have F8 := Lib.hid o8; clear o8; have B8 := Lib.hid b8; have Z8 := Lib.hid b8.size; have K8_0_0 := (b8.cell (p := ⟨w.heap.size, 0, none⟩) (Nat.lt_of_lt_of_le (lt_alloc w (.cells #[.int .i64 pS, .slice aS S.length cS] 41)) (Nat.le_trans Z2.out (Nat.le_trans Z3.out (Nat.le_trans Z4.out (Nat.le_trans Z5.out (Nat.le_trans Z6.out (size_alloc w6 (.cells #[.int .i64 pS, .slice r6 S.length S.length] 44))))))))).trans K7_0_0; clear K7_0_0; have K8_0_1 := (b8.cell (p := ⟨w.heap.size, 1, none⟩) (Nat.lt_of_lt_of_le (lt_alloc w (.cells #[.int .i64 pS, .slice aS S.length cS] 41)) (Nat.le_trans Z2.out (Nat.le_trans Z3.out (Nat.le_trans Z4.out (Nat.le_trans Z5.out (Nat.le_trans Z6.out (size_alloc w6 (.cells #[.int .i64 pS, .slice r6 S.length S.length] 44))))))))).trans K7_0_1; clear K7_0_1; have K8_1_0 := (b8.cell (p := ⟨w6.heap.size, 0, none⟩) (Nat.lt_of_lt_of_le (lt_alloc w6 (.cells #[.int .i64 pS, .slice r6 S.length S.length] 44)) (Nat.le_refl _))).trans K7_1_0; clear K7_1_0; have K8_1_1 := (b8.cell (p := ⟨w6.heap.size, 1, none⟩) (Nat.lt_of_lt_of_le (lt_alloc w6 (.cells #[.int .i64 pS, .slice r6 S.length S.length] 44)) (Nat.le_refl _))).trans K7_1_1; clear K7_1_1; clear b8) | (go_at_call 45; (with_reducible refine (impl_OrthogonalTo pS r6 S S.length w5.heap.size w6.heap.size r8 m m.length (w6.alloc (.cells #[.int .i64 pS, .slice r6 S.length S.length] 44)).heap.size w8.heap.size _ ((F6.out.row).same (Same.trans (same_below (below_alloc w6 (.cells #[.int .i64 pS, .slice r6 S.length S.length] 44)) (Nat.le_refl _)) (same_below B8.out (size_alloc w6 (.cells #[.int .i64 pS, .slice r6 S.length S.length] 44))))) (Nat.le_trans (size_alloc w6 (.cells #[.int .i64 pS, .slice r6 S.length S.length] 44)) Z8.out) HSS.out (F8.out.mat) (Nat.le_refl _) HSm.out).mono ?_); rintro e w9 ⟨r9, k9, rfl, o9, b9⟩; have F9 := Lib.hid o9; clear o9; have B9 := Lib.hid b9; have Z9 := Lib.hid b9.size; have K9_0_0 := (b9.cell (p := ⟨w.heap.size, 0, none⟩) (Nat.lt_of_lt_of_le (lt_alloc w (.cells #[.int .i64 pS, .slice aS S.length cS] 41)) (Nat.le_trans Z2.out (Nat.le_trans Z3.out (Nat.le_trans Z4.out (Nat.le_trans Z5.out (Nat.le_trans Z6.out (Nat.le_trans (size_alloc w6 (.cells #[.int .i64 pS, .slice r6 S.length S.length] 44)) Z8.out)))))))).trans K8_0_0; clear K8_0_0; have K9_0_1 := (b9.cell (p := ⟨w.heap.size, 1, none⟩) (Nat.lt_of_lt_of_le (lt_alloc w (.cells #[.int .i64 pS, .slice aS S.length cS] 41)) (Nat.le_trans Z2.out (Nat.le_trans Z3.out (Nat.le_trans Z4.out (Nat.le_trans Z5.out (Nat.le_trans Z6.out (Nat.le_trans (size_alloc w6 (.cells #[.int .i64 pS, .slice r6 S.length S.length] 44)) Z8.out)))))))).trans K8_0_1; clear K8_0_1; have K9_1_0 := (b9.cell (p := ⟨w6.heap.size, 0, none⟩) (Nat.lt_of_lt_of_le (lt_alloc w6 (.cells #[.int .i64 pS, .slice r6 S.length S.length] 44)) Z8.out)).trans K8_1_0; clear K8_1_0; have K9_1_1 := (b9.cell (p := ⟨w6.heap.size, 1, none⟩) (Nat.lt_of_lt_of_le (lt_alloc w6 (.cells #[.int .i64 pS, .slice r6 S.length S.length] 44)) Z8.out)).trans K8_1_1; clear K8_1_1; clear b9) | (go_at_call 19; (with_reducible refine (sameMat r9 r5 (ortV pS S m) k9 k5 w8.heap.size w9.heap.size w4.heap.size w5.heap.size _ (F9.out.mat) (F5.out.same (Same.trans (Same.trans (Same.trans (same_below B6.out (Nat.le_refl _)) (same_below (below_alloc w6 (.cells #[.int .i64 pS, .slice r6 S.length S.length] 44)) Z6.out)) (same_below B8.out (Nat.le_trans Z6.out (size_alloc w6 (.cells #[.int .i64 pS, .slice r6 S.length S.length] 44))))) (same_below B9.out (Nat.le_trans Z6.out (Nat.le_trans (size_alloc w6 (.cells #[.int .i64 pS, .slice r6 S.length S.length] 44)) Z8.out))))) (ortV_size pS S m)).mono ?_); rintro e w10 ⟨rfl, q10⟩; have Q10 := Lib.hid q10; have Z10 := Lib.hid (quiet_z q10); have K10_0_0 := (q10.cell ⟨w.heap.size, 0, none⟩).trans K9_0_0; clear K9_0_0; have K10_0_1 := (q10.cell ⟨w.heap.size, 1, none⟩).trans K9_0_1; clear K9_0_1; have K10_1_0 := (q10.cell ⟨w6.heap.size, 0, none⟩).trans K9_1_0; clear K9_1_0; have K10_1_1 := (q10.cell ⟨w6.heap.size, 1, none⟩).trans K9_1_1; clear K9_1_1; clear q10))
      have K11_0_0 := ((below_drew w10).cell (p := ⟨w.heap.size, 0, none⟩) (Nat.lt_of_lt_of_le (lt_alloc w (.cells #[.int .i64 pS, .slice aS S.length cS] 41)) (Nat.le_trans Z2.out (Nat.le_trans Z3.out (Nat.le_trans Z4.out (Nat.le_trans Z5.out (Nat.le_trans Z6.out (Nat.le_trans (size_alloc w6 (.cells #[.int .i64 pS, .slice r6 S.length S.length] 44)) (Nat.le_trans Z8.out (Nat.le_trans Z9.out Z10.out)))))))))).trans K10_0_0
      clear K10_0_0
      have K11_0_1 := ((below_drew w10).cell (p := ⟨w.heap.size, 1, none⟩) (Nat.lt_of_lt_of_le (lt_alloc w (.cells #[.int .i64 pS, .slice aS S.length cS] 41)) (Nat.le_trans Z2.out (Nat.le_trans Z3.out (Nat.le_trans Z4.out (Nat.le_trans Z5.out (Nat.le_trans Z6.out (Nat.le_trans (size_alloc w6 (.cells #[.int .i64 pS, .slice r6 S.length S.length] 44)) (Nat.le_trans Z8.out (Nat.le_trans Z9.out Z10.out)))))))))).trans K10_0_1
      clear K10_0_1
      have K11_1_0 := ((below_drew w10).cell (p := ⟨w6.heap.size, 0, none⟩) (Nat.lt_of_lt_of_le (lt_alloc w6 (.cells #[.int .i64 pS, .slice r6 S.length S.length] 44)) (Nat.le_trans Z8.out (Nat.le_trans Z9.out Z10.out)))).trans K10_1_0
      clear K10_1_0
      have K11_1_1 := ((below_drew w10).cell (p := ⟨w6.heap.size, 1, none⟩) (Nat.lt_of_lt_of_le (lt_alloc w6 (.cells #[.int .i64 pS, .slice r6 S.length S.length] 44)) (Nat.le_trans Z8.out (Nat.le_trans Z9.out Z10.out)))).trans K10_1_1
      clear K10_1_1
      go_region_held3 (fun w' => w'.cell? ⟨w6.heap.size, 0, none⟩ = some (.int .i64 pS) ∧ w'.cell? ⟨w6.heap.size, 1, none⟩ = some (.slice r6 S.length S.length) ∧ w'.cell? ⟨w.heap.size, 0, none⟩ = some (.int .i64 pS) ∧ w'.cell? ⟨w.heap.size, 1, none⟩ = some (.slice aS S.length cS)) (first | go_keep | exact SS12.out | exact SS13.out) (first | (go_at_call 36; (with_reducible refine (copySpace pS aS S cS 0 w.heap.size _ (HS.out.same (Same.trans (Same.trans (Same.trans (Same.trans (Same.trans (Same.trans (Same.trans (Same.trans (Same.trans (Same.trans (same_below (below_alloc w (.cells #[.int .i64 pS, .slice aS S.length cS] 41)) (Nat.le_refl _)) (same_below B2.out (size_alloc w (.cells #[.int .i64 pS, .slice aS S.length cS] 41)))) (same_below B3.out (Nat.le_trans (size_alloc w (.cells #[.int .i64 pS, .slice aS S.length cS] 41)) Z2.out))) (same_below B4.out (Nat.le_trans (size_alloc w (.cells #[.int .i64 pS, .slice aS S.length cS] 41)) (Nat.le_trans Z2.out Z3.out)))) (same_below B5.out (Nat.le_trans (size_alloc w (.cells #[.int .i64 pS, .slice aS S.length cS] 41)) (Nat.le_trans Z2.out (Nat.le_trans Z3.out Z4.out))))) (same_below B6.out (Nat.le_trans (size_alloc w (.cells #[.int .i64 pS, .slice aS S.length cS] 41)) (Nat.le_trans Z2.out (Nat.le_trans Z3.out (Nat.le_trans Z4.out Z5.out)))))) (same_below (below_alloc w6 (.cells #[.int .i64 pS, .slice r6 S.length S.length] 44)) (Nat.le_trans (size_alloc w (.cells #[.int .i64 pS, .slice aS S.length cS] 41)) (Nat.le_trans Z2.out (Nat.le_trans Z3.out (Nat.le_trans Z4.out (Nat.le_trans Z5.out Z6.out))))))) (same_below B8.out (Nat.le_trans (size_alloc w (.cells #[.int .i64 pS, .slice aS S.length cS] 41)) (Nat.le_trans Z2.out (Nat.le_trans Z3.out (Nat.le_trans Z4.out (Nat.le_trans Z5.out (Nat.le_trans Z6.out (size_alloc w6 (.cells #[.int .i64 pS, .slice r6 S.length S.length] 44)))))))))) (same_below B9.out (Nat.le_trans (size_alloc w (.cells #[.int .i64 pS, .slice aS S.length cS] 41)) (Nat.le_trans Z2.out (Nat.le_trans Z3.out (Nat.le_trans Z4.out (Nat.le_trans Z5.out (Nat.le_trans Z6.out (Nat.le_trans (size_alloc w6 (.cells #[.int .i64 pS, .slice r6 S.length S.length] 44)) Z8.out))))))))) (Q10.out.same _ _)) (same_below (below_drew w10) (Nat.le_trans (size_alloc w (.cells #[.int .i64 pS, .slice aS S.length cS] 41)) (Nat.le_trans Z2.out (Nat.le_trans Z3.out (Nat.le_trans Z4.out (Nat.le_trans Z5.out (Nat.le_trans Z6.out (Nat.le_trans (size_alloc w6 (.cells #[.int .i64 pS, .slice r6 S.length S.length] 44)) (Nat.le_trans Z8.out (Nat.le_trans Z9.out Z10.out)))))))))))) (Nat.le_trans (size_alloc w (.cells #[.int .i64 pS, .slice aS S.length cS] 41)) (Nat.le_trans Z2.out (Nat.le_trans Z3.out (Nat.le_trans Z4.out (Nat.le_trans Z5.out (Nat.le_trans Z6.out (Nat.le_trans (size_alloc w6 (.cells #[.int .i64 pS, .slice r6 S.length S.length] 44)) (Nat.le_trans Z8.out (Nat.le_trans Z9.out (Nat.le_trans Z10.out (size_drew w10))))))))))) HSS.out).mono ?_); rintro e w12 ⟨r12, rfl, b12, o12⟩; have F12 := Lib.hid o12; clear o12; have B12 := Lib.hid b12; have Z12 := Lib.hid b12.size; have K12_0_0 := (b12.cell (p := ⟨w.heap.size, 0, none⟩) (Nat.lt_of_lt_of_le (lt_alloc w (.cells #[.int .i64 pS, .slice aS S.length cS] 41)) (Nat.le_trans Z2.out (Nat.le_trans Z3.out (Nat.le_trans Z4.out (Nat.le_trans Z5.out (Nat.le_trans Z6.out (Nat.le_trans (size_alloc w6 (.cells #[.int .i64 pS, .slice r6 S.length S.length] 44)) (Nat.le_trans Z8.out (Nat.le_trans Z9.out (Nat.le_trans Z10.out (size_drew w10)))))))))))).trans K11_0_0; clear K11_0_0; have K12_0_1 := (b12.cell (p := ⟨w.heap.size, 1, none⟩) (Nat.lt_of_lt_of_le (lt_alloc w (.cells #[.int .i64 pS, .slice aS S.length cS] 41)) (Nat.le_trans Z2.out (Nat.le_trans Z3.out (Nat.le_trans Z4.out (Nat.le_trans Z5.out (Nat.le_trans Z6.out (Nat.le_trans (size_alloc w6 (.cells #[.int .i64 pS, .slice r6 S.length S.length] 44)) (Nat.le_trans Z8.out (Nat.le_trans Z9.out (Nat.le_trans Z10.out (size_drew w10)))))))))))).trans K11_0_1; clear K11_0_1; have K12_1_0 := (b12.cell (p := ⟨w6.heap.size, 0, none⟩) (Nat.lt_of_lt_of_le (lt_alloc w6 (.cells #[.int .i64 pS, .slice r6 S.length S.length] 44)) (Nat.le_trans Z8.out (Nat.le_trans Z9.out (Nat.le_trans Z10.out (size_drew w10)))))).trans K11_1_0; clear K11_1_0; have K12_1_1 := (b12.cell (p := ⟨w6.heap.size, 1, none⟩) (Nat.lt_of_lt_of_le (lt_alloc w6 (.cells #[.int .i64 pS, .slice r6 S.length S.length] 44)) (Nat.le_trans Z8.out (Nat.le_trans Z9.out (Nat.le_trans Z10.out (size_drew w10)))))).trans K11_1_1; clear K11_1_1; clear b12; have SS12 := Lib.hid (And.intro K12_1_0 (And.intro K12_1_1 (And.intro K12_0_0 (K12_0_1))))) | (go_at_call 38; (with_reducible refine (sameSpace pS r6 r12 S S.length S.length w5.heap.size w6.heap.size w10.drew.heap.size w12.heap.size _ ((F6.out.row).same (Same.trans (Same.trans (Same.trans (Same.trans (Same.trans (same_below (below_alloc w6 (.cells #[.int .i64 pS, .slice r6 S.length S.length] 44)) (Nat.le_refl _)) (same_below B8.out (size_alloc w6 (.cells #[.int .i64 pS, .slice r6 S.length S.length] 44)))) (same_below B9.out (Nat.le_trans (size_alloc w6 (.cells #[.int .i64 pS, .slice r6 S.length S.length] 44)) Z8.out))) (Q10.out.same _ _)) (same_below (below_drew w10) (Nat.le_trans (size_alloc w6 (.cells #[.int .i64 pS, .slice r6 S.length S.length] 44)) (Nat.le_trans Z8.out (Nat.le_trans Z9.out Z10.out))))) (same_below B12.out (Nat.le_trans (size_alloc w6 (.cells #[.int .i64 pS, .slice r6 S.length S.length] 44)) (Nat.le_trans Z8.out (Nat.le_trans Z9.out (Nat.le_trans Z10.out (size_drew w10)))))))) (F12.out.row) (Nat.le_trans (size_alloc w6 (.cells #[.int .i64 pS, .slice r6 S.length S.length] 44)) (Nat.le_trans Z8.out (Nat.le_trans Z9.out (Nat.le_trans Z10.out (Nat.le_trans (size_drew w10) Z12.out))))) (Nat.le_refl _) HSS.out).mono ?_); rintro e w13 ⟨rfl, b13⟩; have B13 := Lib.hid b13; have Z13 := Lib.hid b13.size; have K13_0_0 := (b13.cell (p := ⟨w.heap.size, 0, none⟩) (Nat.lt_of_lt_of_le (lt_alloc w (.cells #[.int .i64 pS, .slice aS S.length cS] 41)) (Nat.le_trans Z2.out (Nat.le_trans Z3.out (Nat.le_trans Z4.out (Nat.le_trans Z5.out (Nat.le_trans Z6.out (Nat.le_trans (size_alloc w6 (.cells #[.int .i64 pS, .slice r6 S.length S.length] 44)) (Nat.le_trans Z8.out (Nat.le_trans Z9.out (Nat.le_trans Z10.out (Nat.le_trans (size_drew w10) Z12.out)))))))))))).trans K12_0_0; clear K12_0_0; have K13_0_1 := (b13.cell (p := ⟨w.heap.size, 1, none⟩) (Nat.lt_of_lt_of_le (lt_alloc w (.cells #[.int .i64 pS, .slice aS S.length cS] 41)) (Nat.le_trans Z2.out (Nat.le_trans Z3.out (Nat.le_trans Z4.out (Nat.le_trans Z5.out (Nat.le_trans Z6.out (Nat.le_trans (size_alloc w6 (.cells #[.int .i64 pS, .slice r6 S.length S.length] 44)) (Nat.le_trans Z8.out (Nat.le_trans Z9.out (Nat.le_trans Z10.out (Nat.le_trans (size_drew w10) Z12.out)))))))))))).trans K12_0_1; clear K12_0_1; have K13_1_0 := (b13.cell (p := ⟨w6.heap.size, 0, none⟩) (Nat.lt_of_lt_of_le (lt_alloc w6 (.cells #[.int .i64 pS, .slice r6 S.length S.length] 44)) (Nat.le_trans Z8.out (Nat.le_trans Z9.out (Nat.le_trans Z10.out (Nat.le_trans (size_drew w10) Z12.out)))))).trans K12_1_0; clear K12_1_0; have K13_1_1 := (b13.cell (p := ⟨w6.heap.size, 1, none⟩) (Nat.lt_of_lt_of_le (lt_alloc w6 (.cells #[.int .i64 pS, .slice r6 S.length S.length] 44)) (Nat.le_trans Z8.out (Nat.le_trans Z9.out (Nat.le_trans Z10.out (Nat.le_trans (size_drew w10) Z12.out)))))).trans K12_1_1; clear K12_1_1; clear b13; have SS13 := Lib.hid (And.intro K13_1_0 (And.intro K13_1_1 (And.intro K13_0_0 (K13_0_1))))))
      go_wp2_with (first | (go_at_call 17; (with_reducible refine (copyMatE am m cm 0 w.heap.size _ (Hm.out.same (Same.trans (Same.trans (Same.trans (Same.trans (Same.trans (Same.trans (Same.trans (Same.trans (Same.trans (Same.trans (Same.trans (Same.trans (same_below (below_alloc w (.cells #[.int .i64 pS, .slice aS S.length cS] 41)) (Nat.le_refl _)) (same_below B2.out (size_alloc w (.cells #[.int .i64 pS, .slice aS S.length cS] 41)))) (same_below B3.out (Nat.le_trans (size_alloc w (.cells #[.int .i64 pS, .slice aS S.length cS] 41)) Z2.out))) (same_below B4.out (Nat.le_trans (size_alloc w (.cells #[.int .i64 pS, .slice aS S.length cS] 41)) (Nat.le_trans Z2.out Z3.out)))) (same_below B5.out (Nat.le_trans (size_alloc w (.cells #[.int .i64 pS, .slice aS S.length cS] 41)) (Nat.le_trans Z2.out (Nat.le_trans Z3.out Z4.out))))) (same_below B6.out (Nat.le_trans (size_alloc w (.cells #[.int .i64 pS, .slice aS S.length cS] 41)) (Nat.le_trans Z2.out (Nat.le_trans Z3.out (Nat.le_trans Z4.out Z5.out)))))) (same_below (below_alloc w6 (.cells #[.int .i64 pS, .slice r6 S.length S.length] 44)) (Nat.le_trans (size_alloc w (.cells #[.int .i64 pS, .slice aS S.length cS] 41)) (Nat.le_trans Z2.out (Nat.le_trans Z3.out (Nat.le_trans Z4.out (Nat.le_trans Z5.out Z6.out))))))) (same_below B8.out (Nat.le_trans (size_alloc w (.cells #[.int .i64 pS, .slice aS S.length cS] 41)) (Nat.le_trans Z2.out (Nat.le_trans Z3.out (Nat.le_trans Z4.out (Nat.le_trans Z5.out (Nat.le_trans Z6.out (size_alloc w6 (.cells #[.int .i64 pS, .slice r6 S.length S.length] 44)))))))))) (same_below B9.out (Nat.le_trans (size_alloc w (.cells #[.int .i64 pS, .slice aS S.length cS] 41)) (Nat.le_trans Z2.out (Nat.le_trans Z3.out (Nat.le_trans Z4.out (Nat.le_trans Z5.out (Nat.le_trans Z6.out (Nat.le_trans (size_alloc w6 (.cells #[.int .i64 pS, .slice r6 S.length S.length] 44)) Z8.out))))))))) (Q10.out.same _ _)) (same_below (below_drew w10) (Nat.le_trans (size_alloc w (.cells #[.int .i64 pS, .slice aS S.length cS] 41)) (Nat.le_trans Z2.out (Nat.le_trans Z3.out (Nat.le_trans Z4.out (Nat.le_trans Z5.out (Nat.le_trans Z6.out (Nat.le_trans (size_alloc w6 (.cells #[.int .i64 pS, .slice r6 S.length S.length] 44)) (Nat.le_trans Z8.out (Nat.le_trans Z9.out Z10.out))))))))))) (same_below B12.out (Nat.le_trans (size_alloc w (.cells #[.int .i64 pS, .slice aS S.length cS] 41)) (Nat.le_trans Z2.out (Nat.le_trans Z3.out (Nat.le_trans Z4.out (Nat.le_trans Z5.out (Nat.le_trans Z6.out (Nat.le_trans (size_alloc w6 (.cells #[.int .i64 pS, .slice r6 S.length S.length] 44)) (Nat.le_trans Z8.out (Nat.le_trans Z9.out (Nat.le_trans Z10.out (size_drew w10))))))))))))) (same_below B13.out (Nat.le_trans (size_alloc w (.cells #[.int .i64 pS, .slice aS S.length cS] 41)) (Nat.le_trans Z2.out (Nat.le_trans Z3.out (Nat.le_trans Z4.out (Nat.le_trans Z5.out (Nat.le_trans Z6.out (Nat.le_trans (size_alloc w6 (.cells #[.int .i64 pS, .slice r6 S.length S.length] 44)) (Nat.le_trans Z8.out (Nat.le_trans Z9.out (Nat.le_trans Z10.out (Nat.le_trans (size_drew w10) Z12.out)))))))))))))) (Nat.le_trans (size_alloc w (.cells #[.int .i64 pS, .slice aS S.length cS] 41)) (Nat.le_trans Z2.out (Nat.le_trans Z3.out (Nat.le_trans Z4.out (Nat.le_trans Z5.out (Nat.le_trans Z6.out (Nat.le_trans (size_alloc w6 (.cells #[.int .i64 pS, .slice r6 S.length S.length] 44)) (Nat.le_trans Z8.out (Nat.le_trans Z9.out (Nat.le_trans Z10.out (Nat.le_trans (size_drew w10) (Nat.le_trans Z12.out Z13.out)))))))))))) HSm.out).mono ?_); rintro e w14 ⟨r14, rfl, b14, o14⟩; have F14 := Lib.hid o14; clear o14; have B14 := Lib.hid b14; have Z14 := Lib.hid b14.size; have K14_0_0 := (b14.cell (p := ⟨w.heap.size, 0, none⟩) (Nat.lt_of_lt_of_le (lt_alloc w (.cells #[.int .i64 pS, .slice aS S.length cS] 41)) (Nat.le_trans Z2.out (Nat.le_trans Z3.out (Nat.le_trans Z4.out (Nat.le_trans Z5.out (Nat.le_trans Z6.out (Nat.le_trans (size_alloc w6 (.cells #[.int .i64 pS, .slice r6 S.length S.length] 44)) (Nat.le_trans Z8.out (Nat.le_trans Z9.out (Nat.le_trans Z10.out (Nat.le_trans (size_drew w10) (Nat.le_trans Z12.out Z13.out))))))))))))).trans K13_0_0; clear K13_0_0; have K14_0_1 := (b14.cell (p := ⟨w.heap.size, 1, none⟩) (Nat.lt_of_lt_of_le (lt_alloc w (.cells #[.int .i64 pS, .slice aS S.length cS] 41)) (Nat.le_trans Z2.out (Nat.le_trans Z3.out (Nat.le_trans Z4.out (Nat.le_trans Z5.out (Nat.le_trans Z6.out (Nat.le_trans (size_alloc w6 (.cells #[.int .i64 pS, .slice r6 S.length S.length] 44)) (Nat.le_trans Z8.out (Nat.le_trans Z9.out (Nat.le_trans Z10.out (Nat.le_trans (size_drew w10) (Nat.le_trans Z12.out Z13.out))))))))))))).trans K13_0_1; clear K13_0_1; have K14_1_0 := (b14.cell (p := ⟨w6.heap.size, 0, none⟩) (Nat.lt_of_lt_of_le (lt_alloc w6 (.cells #[.int .i64 pS, .slice r6 S.length S.length] 44)) (Nat.le_trans Z8.out (Nat.le_trans Z9.out (Nat.le_trans Z10.out (Nat.le_trans (size_drew w10) (Nat.le_trans Z12.out Z13.out))))))).trans K13_1_0; clear K13_1_0; have K14_1_1 := (b14.cell (p := ⟨w6.heap.size, 1, none⟩) (Nat.lt_of_lt_of_le (lt_alloc w6 (.cells #[.int .i64 pS, .slice r6 S.length S.length] 44)) (Nat.le_trans Z8.out (Nat.le_trans Z9.out (Nat.le_trans Z10.out (Nat.le_trans (size_drew w10) (Nat.le_trans Z12.out Z13.out))))))).trans K13_1_1; clear K13_1_1; clear b14) | (go_at_call 19; (with_reducible refine (sameMat r8 r14 m m.length m.length (w6.alloc (.cells #[.int .i64 pS, .slice r6 S.length S.length] 44)).heap.size w8.heap.size w13.heap.size w14.heap.size _ ((F8.out.mat).same (Same.trans (Same.trans (Same.trans (Same.trans (Same.trans (same_below B9.out (Nat.le_refl _)) (Q10.out.same _ _)) (same_below (below_drew w10) (Nat.le_trans Z9.out Z10.out))) (same_below B12.out (Nat.le_trans Z9.out (Nat.le_trans Z10.out (size_drew w10))))) (same_below B13.out (Nat.le_trans Z9.out (Nat.le_trans Z10.out (Nat.le_trans (size_drew w10) Z12.out))))) (same_below B14.out (Nat.le_trans Z9.out (Nat.le_trans Z10.out (Nat.le_trans (size_drew w10) (Nat.le_trans Z12.out Z13.out))))))) (F14.out.mat) HSm.out).mono ?_); rintro e w15 ⟨rfl, q15⟩; have Q15 := Lib.hid q15; have Z15 := Lib.hid (quiet_z q15); have K15_0_0 := (q15.cell ⟨w.heap.size, 0, none⟩).trans K14_0_0; clear K14_0_0; have K15_0_1 := (q15.cell ⟨w.heap.size, 1, none⟩).trans K14_0_1; clear K14_0_1; have K15_1_0 := (q15.cell ⟨w6.heap.size, 0, none⟩).trans K14_1_0; clear K14_1_0; have K15_1_1 := (q15.cell ⟨w6.heap.size, 1, none⟩).trans K14_1_1; clear K14_1_1; clear q15) | (go_at_call 39; (with_reducible refine (markSpace_any pS r6 S S.length w5.heap.size w6.heap.size (1) _ (F6.out.same (Same.trans (Same.trans (Same.trans (Same.trans (Same.trans (Same.trans (Same.trans (Same.trans (same_below (below_alloc w6 (.cells #[.int .i64 pS, .slice r6 S.length S.length] 44)) (Nat.le_refl _)) (same_below B8.out (size_alloc w6 (.cells #[.int .i64 pS, .slice r6 S.length S.length] 44)))) (same_below B9.out (Nat.le_trans (size_alloc w6 (.cells #[.int .i64 pS, .slice r6 S.length S.length] 44)) Z8.out))) (Q10.out.same _ _)) (same_below (below_drew w10) (Nat.le_trans (size_alloc w6 (.cells #[.int .i64 pS, .slice r6 S.length S.length] 44)) (Nat.le_trans Z8.out (Nat.le_trans Z9.out Z10.out))))) (same_below B12.out (Nat.le_trans (size_alloc w6 (.cells #[.int .i64 pS, .slice r6 S.length S.length] 44)) (Nat.le_trans Z8.out (Nat.le_trans Z9.out (Nat.le_trans Z10.out (size_drew w10))))))) (same_below B13.out (Nat.le_trans (size_alloc w6 (.cells #[.int .i64 pS, .slice r6 S.length S.length] 44)) (Nat.le_trans Z8.out (Nat.le_trans Z9.out (Nat.le_trans Z10.out (Nat.le_trans (size_drew w10) Z12.out))))))) (same_below B14.out (Nat.le_trans (size_alloc w6 (.cells #[.int .i64 pS, .slice r6 S.length S.length] 44)) (Nat.le_trans Z8.out (Nat.le_trans Z9.out (Nat.le_trans Z10.out (Nat.le_trans (size_drew w10) (Nat.le_trans Z12.out Z13.out)))))))) (Q15.out.same _ _))) (Nat.le_trans (size_alloc w6 (.cells #[.int .i64 pS, .slice r6 S.length S.length] 44)) (Nat.le_trans Z8.out (Nat.le_trans Z9.out (Nat.le_trans Z10.out (Nat.le_trans (size_drew w10) (Nat.le_trans Z12.out (Nat.le_trans Z13.out (Nat.le_trans Z14.out Z15.out)))))))) HSS.out (by omega) (by omega)).mono ?_); rintro e w16 ⟨rfl, o16, f16⟩; have F16 := Lib.hid o16; have O16 := Lib.hid f16; have Z16 := Lib.hid f16.size; have K16_0_0 := (f16.cell (p := ⟨w.heap.size, 0, none⟩) (Nat.lt_of_lt_of_le (lt_alloc w (.cells #[.int .i64 pS, .slice aS S.length cS] 41)) (Nat.le_trans Z2.out (Nat.le_trans Z3.out (Nat.le_trans Z4.out (Nat.le_trans Z5.out (Nat.le_trans Z6.out (Nat.le_trans (size_alloc w6 (.cells #[.int .i64 pS, .slice r6 S.length S.length] 44)) (Nat.le_trans Z8.out (Nat.le_trans Z9.out (Nat.le_trans Z10.out (Nat.le_trans (size_drew w10) (Nat.le_trans Z12.out (Nat.le_trans Z13.out (Nat.le_trans Z14.out Z15.out)))))))))))))) (.inl (Nat.lt_of_lt_of_le (lt_alloc w (.cells #[.int .i64 pS, .slice aS S.length cS] 41)) (Nat.le_trans Z2.out (Nat.le_trans Z3.out (Nat.le_trans Z4.out Z5.out)))))).trans K15_0_0; clear K15_0_0; have K16_0_1 := (f16.cell (p := ⟨w.heap.size, 1, none⟩) (Nat.lt_of_lt_of_le (lt_alloc w (.cells #[.int .i64 pS, .slice aS S.length cS] 41)) (Nat.le_trans Z2.out (Nat.le_trans Z3.out (Nat.le_trans Z4.out (Nat.le_trans Z5.out (Nat.le_trans Z6.out (Nat.le_trans (size_alloc w6 (.cells #[.int .i64 pS, .slice r6 S.length S.length] 44)) (Nat.le_trans Z8.out (Nat.le_trans Z9.out (Nat.le_trans Z10.out (Nat.le_trans (size_drew w10) (Nat.le_trans Z12.out (Nat.le_trans Z13.out (Nat.le_trans Z14.out Z15.out)))))))))))))) (.inl (Nat.lt_of_lt_of_le (lt_alloc w (.cells #[.int .i64 pS, .slice aS S.length cS] 41)) (Nat.le_trans Z2.out (Nat.le_trans Z3.out (Nat.le_trans Z4.out Z5.out)))))).trans K15_0_1; clear K15_0_1; have K16_1_0 := (f16.cell (p := ⟨w6.heap.size, 0, none⟩) (Nat.lt_of_lt_of_le (lt_alloc w6 (.cells #[.int .i64 pS, .slice r6 S.length S.length] 44)) (Nat.le_trans Z8.out (Nat.le_trans Z9.out (Nat.le_trans Z10.out (Nat.le_trans (size_drew w10) (Nat.le_trans Z12.out (Nat.le_trans Z13.out (Nat.le_trans Z14.out Z15.out)))))))) (.inr (Nat.le_refl _))).trans K15_1_0; clear K15_1_0; have K16_1_1 := (f16.cell (p := ⟨w6.heap.size, 1, none⟩) (Nat.lt_of_lt_of_le (lt_alloc w6 (.cells #[.int .i64 pS, .slice r6 S.length S.length] 44)) (Nat.le_trans Z8.out (Nat.le_trans Z9.out (Nat.le_trans Z10.out (Nat.le_trans (size_drew w10) (Nat.le_trans Z12.out (Nat.le_trans Z13.out (Nat.le_trans Z14.out Z15.out)))))))) (.inr (Nat.le_refl _))).trans K15_1_1; clear K15_1_1; clear o16 f16) | (go_at_call 22; (with_reducible refine (markOwnM r8 m m.length (w6.alloc (.cells #[.int .i64 pS, .slice r6 S.length S.length] 44)).heap.size w8.heap.size tm (1 + (S.length : Int)) _ (F8.out.same (Same.trans (Same.trans (Same.trans (Same.trans (Same.trans (Same.trans (Same.trans (same_below B9.out (Nat.le_refl _)) (Q10.out.same _ _)) (same_below (below_drew w10) (Nat.le_trans Z9.out Z10.out))) (same_below B12.out (Nat.le_trans Z9.out (Nat.le_trans Z10.out (size_drew w10))))) (same_below B13.out (Nat.le_trans Z9.out (Nat.le_trans Z10.out (Nat.le_trans (size_drew w10) Z12.out))))) (same_below B14.out (Nat.le_trans Z9.out (Nat.le_trans Z10.out (Nat.le_trans (size_drew w10) (Nat.le_trans Z12.out Z13.out)))))) (Q15.out.same _ _)) (O16.out.same (.inr (size_alloc w6 (.cells #[.int .i64 pS, .slice r6 S.length S.length] 44))) (Nat.le_trans Z9.out (Nat.le_trans Z10.out (Nat.le_trans (size_drew w10) (Nat.le_trans Z12.out (Nat.le_trans Z13.out (Nat.le_trans Z14.out Z15.out))))))))) Tm.out HSm.out (by omega) (by omega)).mono ?_); rintro e w17 ⟨rfl, o17, f17⟩; have F17 := Lib.hid o17; have O17 := Lib.hid f17; have Z17 := Lib.hid (off_z f17); have K17_0_0 := (f17.cell (p := ⟨w.heap.size, 0, none⟩) (.inl (Nat.lt_of_lt_of_le (lt_alloc w (.cells #[.int .i64 pS, .slice aS S.length cS] 41)) (Nat.le_trans Z2.out (Nat.le_trans Z3.out (Nat.le_trans Z4.out (Nat.le_trans Z5.out (Nat.le_trans Z6.out (size_alloc w6 (.cells #[.int .i64 pS, .slice r6 S.length S.length] 44)))))))))).trans K16_0_0; clear K16_0_0; have K17_0_1 := (f17.cell (p := ⟨w.heap.size, 1, none⟩) (.inl (Nat.lt_of_lt_of_le (lt_alloc w (.cells #[.int .i64 pS, .slice aS S.length cS] 41)) (Nat.le_trans Z2.out (Nat.le_trans Z3.out (Nat.le_trans Z4.out (Nat.le_trans Z5.out (Nat.le_trans Z6.out (size_alloc w6 (.cells #[.int .i64 pS, .slice r6 S.length S.length] 44)))))))))).trans K16_0_1; clear K16_0_1; have K17_1_0 := (f17.cell (p := ⟨w6.heap.size, 0, none⟩) (.inl (Nat.lt_of_lt_of_le (lt_alloc w6 (.cells #[.int .i64 pS, .slice r6 S.length S.length] 44)) (Nat.le_refl _)))).trans K16_1_0; clear K16_1_0; have K17_1_1 := (f17.cell (p := ⟨w6.heap.size, 1, none⟩) (.inl (Nat.lt_of_lt_of_le (lt_alloc w6 (.cells #[.int .i64 pS, .slice r6 S.length S.length] 44)) (Nat.le_refl _)))).trans K16_1_1; clear K16_1_1; clear o17 f17) | (go_at_call 19; (with_reducible refine (sameMat r9 r5 (ortV pS S m) k9 k5 w8.heap.size w9.heap.size w4.heap.size w5.heap.size _ ((F9.out.mat).same (Same.trans (Same.trans (Same.trans (Same.trans (Same.trans (Same.trans (Same.trans (Q10.out.same _ _) (same_below (below_drew w10) Z10.out)) (same_below B12.out (Nat.le_trans Z10.out (size_drew w10)))) (same_below B13.out (Nat.le_trans Z10.out (Nat.le_trans (size_drew w10) Z12.out)))) (same_below B14.out (Nat.le_trans Z10.out (Nat.le_trans (size_drew w10) (Nat.le_trans Z12.out Z13.out))))) (Q15.out.same _ _)) (O16.out.same (.inr (Nat.le_trans (size_alloc w6 (.cells #[.int .i64 pS, .slice r6 S.length S.length] 44)) Z8.out)) (Nat.le_trans Z10.out (Nat.le_trans (size_drew w10) (Nat.le_trans Z12.out (Nat.le_trans Z13.out (Nat.le_trans Z14.out Z15.out))))))) (O17.out.same (.inr (Nat.le_refl _))))) (F5.out.same (Same.trans (Same.trans (Same.trans (Same.trans (Same.trans (Same.trans (Same.trans (Same.trans (Same.trans (Same.trans (Same.trans (same_below B6.out (Nat.le_refl _)) (same_below (below_alloc w6 (.cells #[.int .i64 pS, .slice r6 S.length S.length] 44)) Z6.out)) (same_below B8.out (Nat.le_trans Z6.out (size_alloc w6 (.cells #[.int .i64 pS, .slice r6 S.length S.length] 44))))) (same_below B9.out (Nat.le_trans Z6.out (Nat.le_trans (size_alloc w6 (.cells #[.int .i64 pS, .slice r6 S.length S.length] 44)) Z8.out)))) (Q10.out.same _ _)) (same_below (below_drew w10) (Nat.le_trans Z6.out (Nat.le_trans (size_alloc w6 (.cells #[.int .i64 pS, .slice r6 S.length S.length] 44)) (Nat.le_trans Z8.out (Nat.le_trans Z9.out Z10.out)))))) (same_below B12.out (Nat.le_trans Z6.out (Nat.le_trans (size_alloc w6 (.cells #[.int .i64 pS, .slice r6 S.length S.length] 44)) (Nat.le_trans Z8.out (Nat.le_trans Z9.out (Nat.le_trans Z10.out (size_drew w10)))))))) (same_below B13.out (Nat.le_trans Z6.out (Nat.le_trans (size_alloc w6 (.cells #[.int .i64 pS, .slice r6 S.length S.length] 44)) (Nat.le_trans Z8.out (Nat.le_trans Z9.out (Nat.le_trans Z10.out (Nat.le_trans (size_drew w10) Z12.out)))))))) (same_below B14.out (Nat.le_trans Z6.out (Nat.le_trans (size_alloc w6 (.cells #[.int .i64 pS, .slice r6 S.length S.length] 44)) (Nat.le_trans Z8.out (Nat.le_trans Z9.out (Nat.le_trans Z10.out (Nat.le_trans (size_drew w10) (Nat.le_trans Z12.out Z13.out))))))))) (Q15.out.same _ _)) (O16.out.same (.inl (Nat.le_refl _)) (Nat.le_trans Z6.out (Nat.le_trans (size_alloc w6 (.cells #[.int .i64 pS, .slice r6 S.length S.length] 44)) (Nat.le_trans Z8.out (Nat.le_trans Z9.out (Nat.le_trans Z10.out (Nat.le_trans (size_drew w10) (Nat.le_trans Z12.out (Nat.le_trans Z13.out (Nat.le_trans Z14.out Z15.out))))))))))) (O17.out.same (.inl (Nat.le_trans Z6.out (size_alloc w6 (.cells #[.int .i64 pS, .slice r6 S.length S.length] 44))))))) (ortV_size pS S m)).mono ?_); rintro e w18 ⟨rfl, q18⟩; have Q18 := Lib.hid q18; have Z18 := Lib.hid (quiet_z q18); have K18_0_0 := (q18.cell ⟨w.heap.size, 0, none⟩).trans K17_0_0; clear K17_0_0; have K18_0_1 := (q18.cell ⟨w.heap.size, 1, none⟩).trans K17_0_1; clear K17_0_1; have K18_1_0 := (q18.cell ⟨w6.heap.size, 0, none⟩).trans K17_1_0; clear K17_1_0; have K18_1_1 := (q18.cell ⟨w6.heap.size, 1, none⟩).trans K17_1_1; clear K17_1_1; clear q18) | (go_at_call 22; (with_reducible refine (markOwnM r9 (ortV pS S m) k9 w8.heap.size w9.heap.size t0 1 _ (F9.out.same (Same.trans (Same.trans (Same.trans (Same.trans (Same.trans (Same.trans (Same.trans (Same.trans (Q10.out.same _ _) (same_below (below_drew w10) Z10.out)) (same_below B12.out (Nat.le_trans Z10.out (size_drew w10)))) (same_below B13.out (Nat.le_trans Z10.out (Nat.le_trans (size_drew w10) Z12.out)))) (same_below B14.out (Nat.le_trans Z10.out (Nat.le_trans (size_drew w10) (Nat.le_trans Z12.out Z13.out))))) (Q15.out.same _ _)) (O16.out.same (.inr (Nat.le_trans (size_alloc w6 (.cells #[.int .i64 pS, .slice r6 S.length S.length] 44)) Z8.out)) (Nat.le_trans Z10.out (Nat.le_trans (size_drew w10) (Nat.le_trans Z12.out (Nat.le_trans Z13.out (Nat.le_trans Z14.out Z15.out))))))) (O17.out.same (.inr (Nat.le_refl _)))) (Q18.out.same _ _))) T0.out (ortV_size pS S m) (by omega) (by omega)).mono ?_); rintro e w19 ⟨rfl, o19, f19⟩; have F19 := Lib.hid o19; have O19 := Lib.hid f19; have Z19 := Lib.hid (off_z f19); have K19_0_0 := (f19.cell (p := ⟨w.heap.size, 0, none⟩) (.inl (Nat.lt_of_lt_of_le (lt_alloc w (.cells #[.int .i64 pS, .slice aS S.length cS] 41)) (Nat.le_trans Z2.out (Nat.le_trans Z3.out (Nat.le_trans Z4.out (Nat.le_trans Z5.out (Nat.le_trans Z6.out (Nat.le_trans (size_alloc w6 (.cells #[.int .i64 pS, .slice r6 S.length S.length] 44)) Z8.out))))))))).trans K18_0_0; clear K18_0_0; have K19_0_1 := (f19.cell (p := ⟨w.heap.size, 1, none⟩) (.inl (Nat.lt_of_lt_of_le (lt_alloc w (.cells #[.int .i64 pS, .slice aS S.length cS] 41)) (Nat.le_trans Z2.out (Nat.le_trans Z3.out (Nat.le_trans Z4.out (Nat.le_trans Z5.out (Nat.le_trans Z6.out (Nat.le_trans (size_alloc w6 (.cells #[.int .i64 pS, .slice r6 S.length S.length] 44)) Z8.out))))))))).trans K18_0_1; clear K18_0_1; have K19_1_0 := (f19.cell (p := ⟨w6.heap.size, 0, none⟩) (.inl (Nat.lt_of_lt_of_le (lt_alloc w6 (.cells #[.int .i64 pS, .slice r6 S.length S.length] 44)) Z8.out))).trans K18_1_0; clear K18_1_0; have K19_1_1 := (f19.cell (p := ⟨w6.heap.size, 1, none⟩) (.inl (Nat.lt_of_lt_of_le (lt_alloc w6 (.cells #[.int .i64 pS, .slice r6 S.length S.length] 44)) Z8.out))).trans K18_1_1; clear K18_1_1; clear o19 f19) | (go_at_call 23; (with_reducible refine (heldMat_n r9 (ortV pS S m) k9 w8.heap.size w9.heap.size t0 _ (F19.out.mat) T0.out (ortV_size pS S m)).mono ?_); rintro e w20 ⟨rfl, q20⟩; have Q20 := Lib.hid q20; have Z20 := Lib.hid (quiet_z q20); have K20_0_0 := (q20.cell ⟨w.heap.size, 0, none⟩).trans K19_0_0; clear K19_0_0; have K20_0_1 := (q20.cell ⟨w.heap.size, 1, none⟩).trans K19_0_1; clear K19_0_1; have K20_1_0 := (q20.cell ⟨w6.heap.size, 0, none⟩).trans K19_1_0; clear K19_1_0; have K20_1_1 := (q20.cell ⟨w6.heap.size, 1, none⟩).trans K19_1_1; clear K19_1_1; clear q20) | (go_at_call 36; (with_reducible refine (copySpace pS aS S cS 0 w.heap.size _ (HS.out.same (Same.trans (Same.trans (Same.trans (Same.trans (Same.trans (Same.trans (Same.trans (Same.trans (Same.trans (Same.trans (Same.trans (Same.trans (Same.trans (Same.trans (Same.trans (Same.trans (Same.trans (Same.trans (Same.trans (same_below (below_alloc w (.cells #[.int .i64 pS, .slice aS S.length cS] 41)) (Nat.le_refl _)) (same_below B2.out (size_alloc w (.cells #[.int .i64 pS, .slice aS S.length cS] 41)))) (same_below B3.out (Nat.le_trans (size_alloc w (.cells #[.int .i64 pS, .slice aS S.length cS] 41)) Z2.out))) (same_below B4.out (Nat.le_trans (size_alloc w (.cells #[.int .i64 pS, .slice aS S.length cS] 41)) (Nat.le_trans Z2.out Z3.out)))) (same_below B5.out (Nat.le_trans (size_alloc w (.cells #[.int .i64 pS, .slice aS S.length cS] 41)) (Nat.le_trans Z2.out (Nat.le_trans Z3.out Z4.out))))) (same_below B6.out (Nat.le_trans (size_alloc w (.cells #[.int .i64 pS, .slice aS S.length cS] 41)) (Nat.le_trans Z2.out (Nat.le_trans Z3.out (Nat.le_trans Z4.out Z5.out)))))) (same_below (below_alloc w6 (.cells #[.int .i64 pS, .slice r6 S.length S.length] 44)) (Nat.le_trans (size_alloc w (.cells #[.int .i64 pS, .slice aS S.length cS] 41)) (Nat.le_trans Z2.out (Nat.le_trans Z3.out (Nat.le_trans Z4.out (Nat.le_trans Z5.out Z6.out))))))) (same_below B8.out (Nat.le_trans (size_alloc w (.cells #[.int .i64 pS, .slice aS S.length cS] 41)) (Nat.le_trans Z2.out (Nat.le_trans Z3.out (Nat.le_trans Z4.out (Nat.le_trans Z5.out (Nat.le_trans Z6.out (size_alloc w6 (.cells #[.int .i64 pS, .slice r6 S.length S.length] 44)))))))))) (same_below B9.out (Nat.le_trans (size_alloc w (.cells #[.int .i64 pS, .slice aS S.length cS] 41)) (Nat.le_trans Z2.out (Nat.le_trans Z3.out (Nat.le_trans Z4.out (Nat.le_trans Z5.out (Nat.le_trans Z6.out (Nat.le_trans (size_alloc w6 (.cells #[.int .i64 pS, .slice r6 S.length S.length] 44)) Z8.out))))))))) (Q10.out.same _ _)) (same_below (below_drew w10) (Nat.le_trans (size_alloc w (.cells #[.int .i64 pS, .slice aS S.length cS] 41)) (Nat.le_trans Z2.out (Nat.le_trans Z3.out (Nat.le_trans Z4.out (Nat.le_trans Z5.out (Nat.le_trans Z6.out (Nat.le_trans (size_alloc w6 (.cells #[.int .i64 pS, .slice r6 S.length S.length] 44)) (Nat.le_trans Z8.out (Nat.le_trans Z9.out Z10.out))))))))))) (same_below B12.out (Nat.le_trans (size_alloc w (.cells #[.int .i64 pS, .slice aS S.length cS] 41)) (Nat.le_trans Z2.out (Nat.le_trans Z3.out (Nat.le_trans Z4.out (Nat.le_trans Z5.out (Nat.le_trans Z6.out (Nat.le_trans (size_alloc w6 (.cells #[.int .i64 pS, .slice r6 S.length S.length] 44)) (Nat.le_trans Z8.out (Nat.le_trans Z9.out (Nat.le_trans Z10.out (size_drew w10))))))))))))) (same_below B13.out (Nat.le_trans (size_alloc w (.cells #[.int .i64 pS, .slice aS S.length cS] 41)) (Nat.le_trans Z2.out (Nat.le_trans Z3.out (Nat.le_trans Z4.out (Nat.le_trans Z5.out (Nat.le_trans Z6.out (Nat.le_trans (size_alloc w6 (.cells #[.int .i64 pS, .slice r6 S.length S.length] 44)) (Nat.le_trans Z8.out (Nat.le_trans Z9.out (Nat.le_trans Z10.out (Nat.le_trans (size_drew w10) Z12.out))))))))))))) (same_below B14.out (Nat.le_trans (size_alloc w (.cells #[.int .i64 pS, .slice aS S.length cS] 41)) (Nat.le_trans Z2.out (Nat.le_trans Z3.out (Nat.le_trans Z4.out (Nat.le_trans Z5.out (Nat.le_trans Z6.out (Nat.le_trans (size_alloc w6 (.cells #[.int .i64 pS, .slice r6 S.length S.length] 44)) (Nat.le_trans Z8.out (Nat.le_trans Z9.out (Nat.le_trans Z10.out (Nat.le_trans (size_drew w10) (Nat.le_trans Z12.out Z13.out)))))))))))))) (Q15.out.same _ _)) (O16.out.same (.inl (Nat.le_trans (size_alloc w (.cells #[.int .i64 pS, .slice aS S.length cS] 41)) (Nat.le_trans Z2.out (Nat.le_trans Z3.out (Nat.le_trans Z4.out Z5.out))))) (Nat.le_trans (size_alloc w (.cells #[.int .i64 pS, .slice aS S.length cS] 41)) (Nat.le_trans Z2.out (Nat.le_trans Z3.out (Nat.le_trans Z4.out (Nat.le_trans Z5.out (Nat.le_trans Z6.out (Nat.le_trans (size_alloc w6 (.cells #[.int .i64 pS, .slice r6 S.length S.length] 44)) (Nat.le_trans Z8.out (Nat.le_trans Z9.out (Nat.le_trans Z10.out (Nat.le_trans (size_drew w10) (Nat.le_trans Z12.out (Nat.le_trans Z13.out (Nat.le_trans Z14.out Z15.out)))))))))))))))) (O17.out.same (.inl (Nat.le_trans (size_alloc w (.cells #[.int .i64 pS, .slice aS S.length cS] 41)) (Nat.le_trans Z2.out (Nat.le_trans Z3.out (Nat.le_trans Z4.out (Nat.le_trans Z5.out (Nat.le_trans Z6.out (size_alloc w6 (.cells #[.int .i64 pS, .slice r6 S.length S.length] 44))))))))))) (Q18.out.same _ _)) (O19.out.same (.inl (Nat.le_trans (size_alloc w (.cells #[.int .i64 pS, .slice aS S.length cS] 41)) (Nat.le_trans Z2.out (Nat.le_trans Z3.out (Nat.le_trans Z4.out (Nat.le_trans Z5.out (Nat.le_trans Z6.out (Nat.le_trans (size_alloc w6 (.cells #[.int .i64 pS, .slice r6 S.length S.length] 44)) Z8.out)))))))))) (Q20.out.same _ _))) (Nat.le_trans (size_alloc w (.cells #[.int .i64 pS, .slice aS S.length cS] 41)) (Nat.le_trans Z2.out (Nat.le_trans Z3.out (Nat.le_trans Z4.out (Nat.le_trans Z5.out (Nat.le_trans Z6.out (Nat.le_trans (size_alloc w6 (.cells #[.int .i64 pS, .slice r6 S.length S.length] 44)) (Nat.le_trans Z8.out (Nat.le_trans Z9.out (Nat.le_trans Z10.out (Nat.le_trans (size_drew w10) (Nat.le_trans Z12.out (Nat.le_trans Z13.out (Nat.le_trans Z14.out (Nat.le_trans Z15.out (Nat.le_trans Z16.out (Nat.le_trans Z17.out (Nat.le_trans Z18.out (Nat.le_trans Z19.out Z20.out))))))))))))))))))) HSS.out).mono ?_); rintro e w21 ⟨r21, rfl, b21, o21⟩; have F21 := Lib.hid o21; clear o21; have B21 := Lib.hid b21; have Z21 := Lib.hid b21.size; have K21_0_0 := (b21.cell (p := ⟨w.heap.size, 0, none⟩) (Nat.lt_of_lt_of_le (lt_alloc w (.cells #[.int .i64 pS, .slice aS S.length cS] 41)) (Nat.le_trans Z2.out (Nat.le_trans Z3.out (Nat.le_trans Z4.out (Nat.le_trans Z5.out (Nat.le_trans Z6.out (Nat.le_trans (size_alloc w6 (.cells #[.int .i64 pS, .slice r6 S.length S.length] 44)) (Nat.le_trans Z8.out (Nat.le_trans Z9.out (Nat.le_trans Z10.out (Nat.le_trans (size_drew w10) (Nat.le_trans Z12.out (Nat.le_trans Z13.out (Nat.le_trans Z14.out (Nat.le_trans Z15.out (Nat.le_trans Z16.out (Nat.le_trans Z17.out (Nat.le_trans Z18.out (Nat.le_trans Z19.out Z20.out)))))))))))))))))))).trans K20_0_0; clear K20_0_0; have K21_0_1 := (b21.cell (p := ⟨w.heap.size, 1, none⟩) (Nat.lt_of_lt_of_le (lt_alloc w (.cells #[.int .i64 pS, .slice aS S.length cS] 41)) (Nat.le_trans Z2.out (Nat.le_trans Z3.out (Nat.le_trans Z4.out (Nat.le_trans Z5.out (Nat.le_trans Z6.out (Nat.le_trans (size_alloc w6 (.cells #[.int .i64 pS, .slice r6 S.length S.length] 44)) (Nat.le_trans Z8.out (Nat.le_trans Z9.out (Nat.le_trans Z10.out (Nat.le_trans (size_drew w10) (Nat.le_trans Z12.out (Nat.le_trans Z13.out (Nat.le_trans Z14.out (Nat.le_trans Z15.out (Nat.le_trans Z16.out (Nat.le_trans Z17.out (Nat.le_trans Z18.out (Nat.le_trans Z19.out Z20.out)))))))))))))))))))).trans K20_0_1; clear K20_0_1; have K21_1_0 := (b21.cell (p := ⟨w6.heap.size, 0, none⟩) (Nat.lt_of_lt_of_le (lt_alloc w6 (.cells #[.int .i64 pS, .slice r6 S.length S.length] 44)) (Nat.le_trans Z8.out (Nat.le_trans Z9.out (Nat.le_trans Z10.out (Nat.le_trans (size_drew w10) (Nat.le_trans Z12.out (Nat.le_trans Z13.out (Nat.le_trans Z14.out (Nat.le_trans Z15.out (Nat.le_trans Z16.out (Nat.le_trans Z17.out (Nat.le_trans Z18.out (Nat.le_trans Z19.out Z20.out)))))))))))))).trans K20_1_0; clear K20_1_0; have K21_1_1 := (b21.cell (p := ⟨w6.heap.size, 1, none⟩) (Nat.lt_of_lt_of_le (lt_alloc w6 (.cells #[.int .i64 pS, .slice r6 S.length S.length] 44)) (Nat.le_trans Z8.out (Nat.le_trans Z9.out (Nat.le_trans Z10.out (Nat.le_trans (size_drew w10) (Nat.le_trans Z12.out (Nat.le_trans Z13.out (Nat.le_trans Z14.out (Nat.le_trans Z15.out (Nat.le_trans Z16.out (Nat.le_trans Z17.out (Nat.le_trans Z18.out (Nat.le_trans Z19.out Z20.out)))))))))))))).trans K20_1_1; clear K20_1_1; clear b21) | (go_at_call 17; (with_reducible refine (copyMatE am m cm 0 w.heap.size _ (Hm.out.same (Same.trans (Same.trans (Same.trans (Same.trans (Same.trans (Same.trans (Same.trans (Same.trans (Same.trans (Same.trans (Same.trans (Same.trans (Same.trans (Same.trans (Same.trans (Same.trans (Same.trans (Same.trans (Same.trans (Same.trans (same_below (below_alloc w (.cells #[.int .i64 pS, .slice aS S.length cS] 41)) (Nat.le_refl _)) (same_below B2.out (size_alloc w (.cells #[.int .i64 pS, .slice aS S.length cS] 41)))) (same_below B3.out (Nat.le_trans (size_alloc w (.cells #[.int .i64 pS, .slice aS S.length cS] 41)) Z2.out))) (same_below B4.out (Nat.le_trans (size_alloc w (.cells #[.int .i64 pS, .slice aS S.length cS] 41)) (Nat.le_trans Z2.out Z3.out)))) (same_below B5.out (Nat.le_trans (size_alloc w (.cells #[.int .i64 pS, .slice aS S.length cS] 41)) (Nat.le_trans Z2.out (Nat.le_trans Z3.out Z4.out))))) (same_below B6.out (Nat.le_trans (size_alloc w (.cells #[.int .i64 pS, .slice aS S.length cS] 41)) (Nat.le_trans Z2.out (Nat.le_trans Z3.out (Nat.le_trans Z4.out Z5.out)))))) (same_below (below_alloc w6 (.cells #[.int .i64 pS, .slice r6 S.length S.length] 44)) (Nat.le_trans (size_alloc w (.cells #[.int .i64 pS, .slice aS S.length cS] 41)) (Nat.le_trans Z2.out (Nat.le_trans Z3.out (Nat.le_trans Z4.out (Nat.le_trans Z5.out Z6.out))))))) (same_below B8.out (Nat.le_trans (size_alloc w (.cells #[.int .i64 pS, .slice aS S.length cS] 41)) (Nat.le_trans Z2.out (Nat.le_trans Z3.out (Nat.le_trans Z4.out (Nat.le_trans Z5.out (Nat.le_trans Z6.out (size_alloc w6 (.cells #[.int .i64 pS, .slice r6 S.length S.length] 44)))))))))) (same_below B9.out (Nat.le_trans (size_alloc w (.cells #[.int .i64 pS, .slice aS S.length cS] 41)) (Nat.le_trans Z2.out (Nat.le_trans Z3.out (Nat.le_trans Z4.out (Nat.le_trans Z5.out (Nat.le_trans Z6.out (Nat.le_trans (size_alloc w6 (.cells #[.int .i64 pS, .slice r6 S.length S.length] 44)) Z8.out))))))))) (Q10.out.same _ _)) (same_below (below_drew w10) (Nat.le_trans (size_alloc w (.cells #[.int .i64 pS, .slice aS S.length cS] 41)) (Nat.le_trans Z2.out (Nat.le_trans Z3.out (Nat.le_trans Z4.out (Nat.le_trans Z5.out (Nat.le_trans Z6.out (Nat.le_trans (size_alloc w6 (.cells #[.int .i64 pS, .slice r6 S.length S.length] 44)) (Nat.le_trans Z8.out (Nat.le_trans Z9.out Z10.out))))))))))) (same_below B12.out (Nat.le_trans (size_alloc w (.cells #[.int .i64 pS, .slice aS S.length cS] 41)) (Nat.le_trans Z2.out (Nat.le_trans Z3.out (Nat.le_trans Z4.out (Nat.le_trans Z5.out (Nat.le_trans Z6.out (Nat.le_trans (size_alloc w6 (.cells #[.int .i64 pS, .slice r6 S.length S.length] 44)) (Nat.le_trans Z8.out (Nat.le_trans Z9.out (Nat.le_trans Z10.out (size_drew w10))))))))))))) (same_below B13.out (Nat.le_trans (size_alloc w (.cells #[.int .i64 pS, .slice aS S.length cS] 41)) (Nat.le_trans Z2.out (Nat.le_trans Z3.out (Nat.le_trans Z4.out (Nat.le_trans Z5.out (Nat.le_trans Z6.out (Nat.le_trans (size_alloc w6 (.cells #[.int .i64 pS, .slice r6 S.length S.length] 44)) (Nat.le_trans Z8.out (Nat.le_trans Z9.out (Nat.le_trans Z10.out (Nat.le_trans (size_drew w10) Z12.out))))))))))))) (same_below B14.out (Nat.le_trans (size_alloc w (.cells #[.int .i64 pS, .slice aS S.length cS] 41)) (Nat.le_trans Z2.out (Nat.le_trans Z3.out (Nat.le_trans Z4.out (Nat.le_trans Z5.out (Nat.le_trans Z6.out (Nat.le_trans (size_alloc w6 (.cells #[.int .i64 pS, .slice r6 S.length S.length] 44)) (Nat.le_trans Z8.out (Nat.le_trans Z9.out (Nat.le_trans Z10.out (Nat.le_trans (size_drew w10) (Nat.le_trans Z12.out Z13.out)))))))))))))) (Q15.out.same _ _)) (O16.out.same (.inl (Nat.le_trans (size_alloc w (.cells #[.int .i64 pS, .slice aS S.length cS] 41)) (Nat.le_trans Z2.out (Nat.le_trans Z3.out (Nat.le_trans Z4.out Z5.out))))) (Nat.le_trans (size_alloc w (.cells #[.int .i64 pS, .slice aS S.length cS] 41)) (Nat.le_trans Z2.out (Nat.le_trans Z3.out (Nat.le_trans Z4.out (Nat.le_trans Z5.out (Nat.le_trans Z6.out (Nat.le_trans (size_alloc w6 (.cells #[.int .i64 pS, .slice r6 S.length S.length] 44)) (Nat.le_trans Z8.out (Nat.le_trans Z9.out (Nat.le_trans Z10.out (Nat.le_trans (size_drew w10) (Nat.le_trans Z12.out (Nat.le_trans Z13.out (Nat.le_trans Z14.out Z15.out)))))))))))))))) (O17.out.same (.inl (Nat.le_trans (size_alloc w (.cells #[.int .i64 pS, .slice aS S.length cS] 41)) (Nat.le_trans Z2.out (Nat.le_trans Z3.out (Nat.le_trans Z4.out (Nat.le_trans Z5.out (Nat.le_trans Z6.out (size_alloc w6 (.cells #[.int .i64 pS, .slice r6 S.length S.length] 44))))))))))) (Q18.out.same _ _)) (O19.out.same (.inl (Nat.le_trans (size_alloc w (.cells #[.int .i64 pS, .slice aS S.length cS] 41)) (Nat.le_trans Z2.out (Nat.le_trans Z3.out (Nat.le_trans Z4.out (Nat.le_trans Z5.out (Nat.le_trans Z6.out (Nat.le_trans (size_alloc w6 (.cells #[.int .i64 pS, .slice r6 S.length S.length] 44)) Z8.out)))))))))) (Q20.out.same _ _)) (same_below B21.out (Nat.le_trans (size_alloc w (.cells #[.int .i64 pS, .slice aS S.length cS] 41)) (Nat.le_trans Z2.out (Nat.le_trans Z3.out (Nat.le_trans Z4.out (Nat.le_trans Z5.out (Nat.le_trans Z6.out (Nat.le_trans (size_alloc w6 (.cells #[.int .i64 pS, .slice r6 S.length S.length] 44)) (Nat.le_trans Z8.out (Nat.le_trans Z9.out (Nat.le_trans Z10.out (Nat.le_trans (size_drew w10) (Nat.le_trans Z12.out (Nat.le_trans Z13.out (Nat.le_trans Z14.out (Nat.le_trans Z15.out (Nat.le_trans Z16.out (Nat.le_trans Z17.out (Nat.le_trans Z18.out (Nat.le_trans Z19.out Z20.out)))))))))))))))))))))) (Nat.le_trans (size_alloc w (.cells #[.int .i64 pS, .slice aS S.length cS] 41)) (Nat.le_trans Z2.out (Nat.le_trans Z3.out (Nat.le_trans Z4.out (Nat.le_trans Z5.out (Nat.le_trans Z6.out (Nat.le_trans (size_alloc w6 (.cells #[.int .i64 pS, .slice r6 S.length S.length] 44)) (Nat.le_trans Z8.out (Nat.le_trans Z9.out (Nat.le_trans Z10.out (Nat.le_trans (size_drew w10) (Nat.le_trans Z12.out (Nat.le_trans Z13.out (Nat.le_trans Z14.out (Nat.le_trans Z15.out (Nat.le_trans Z16.out (Nat.le_trans Z17.out (Nat.le_trans Z18.out (Nat.le_trans Z19.out (Nat.le_trans Z20.out Z21.out)))))))))))))))))))) HSm.out).mono ?_); rintro e w22 ⟨r22, rfl, b22, o22⟩; have F22 := Lib.hid o22; clear o22; have B22 := Lib.hid b22; have Z22 := Lib.hid b22.size; have K22_0_0 := (b22.cell (p := ⟨w.heap.size, 0, none⟩) (Nat.lt_of_lt_of_le (lt_alloc w (.cells #[.int .i64 pS, .slice aS S.length cS] 41)) (Nat.le_trans Z2.out (Nat.le_trans Z3.out (Nat.le_trans Z4.out (Nat.le_trans Z5.out (Nat.le_trans Z6.out (Nat.le_trans (size_alloc w6 (.cells #[.int .i64 pS, .slice r6 S.length S.length] 44)) (Nat.le_trans Z8.out (Nat.le_trans Z9.out (Nat.le_trans Z10.out (Nat.le_trans (size_drew w10) (Nat.le_trans Z12.out (Nat.le_trans Z13.out (Nat.le_trans Z14.out (Nat.le_trans Z15.out (Nat.le_trans Z16.out (Nat.le_trans Z17.out (Nat.le_trans Z18.out (Nat.le_trans Z19.out (Nat.le_trans Z20.out Z21.out))))))))))))))))))))).trans K21_0_0; clear K21_0_0; have K22_0_1 := (b22.cell (p := ⟨w.heap.size, 1, none⟩) (Nat.lt_of_lt_of_le (lt_alloc w (.cells #[.int .i64 pS, .slice aS S.length cS] 41)) (Nat.le_trans Z2.out (Nat.le_trans Z3.out (Nat.le_trans Z4.out (Nat.le_trans Z5.out (Nat.le_trans Z6.out (Nat.le_trans (size_alloc w6 (.cells #[.int .i64 pS, .slice r6 S.length S.length] 44)) (Nat.le_trans Z8.out (Nat.le_trans Z9.out (Nat.le_trans Z10.out (Nat.le_trans (size_drew w10) (Nat.le_trans Z12.out (Nat.le_trans Z13.out (Nat.le_trans Z14.out (Nat.le_trans Z15.out (Nat.le_trans Z16.out (Nat.le_trans Z17.out (Nat.le_trans Z18.out (Nat.le_trans Z19.out (Nat.le_trans Z20.out Z21.out))))))))))))))))))))).trans K21_0_1; clear K21_0_1; have K22_1_0 := (b22.cell (p := ⟨w6.heap.size, 0, none⟩) (Nat.lt_of_lt_of_le (lt_alloc w6 (.cells #[.int .i64 pS, .slice r6 S.length S.length] 44)) (Nat.le_trans Z8.out (Nat.le_trans Z9.out (Nat.le_trans Z10.out (Nat.le_trans (size_drew w10) (Nat.le_trans Z12.out (Nat.le_trans Z13.out (Nat.le_trans Z14.out (Nat.le_trans Z15.out (Nat.le_trans Z16.out (Nat.le_trans Z17.out (Nat.le_trans Z18.out (Nat.le_trans Z19.out (Nat.le_trans Z20.out Z21.out))))))))))))))).trans K21_1_0; clear K21_1_0; have K22_1_1 := (b22.cell (p := ⟨w6.heap.size, 1, none⟩) (Nat.lt_of_lt_of_le (lt_alloc w6 (.cells #[.int .i64 pS, .slice r6 S.length S.length] 44)) (Nat.le_trans Z8.out (Nat.le_trans Z9.out (Nat.le_trans Z10.out (Nat.le_trans (size_drew w10) (Nat.le_trans Z12.out (Nat.le_trans Z13.out (Nat.le_trans Z14.out (Nat.le_trans Z15.out (Nat.le_trans Z16.out (Nat.le_trans Z17.out (Nat.le_trans Z18.out (Nat.le_trans Z19.out (Nat.le_trans Z20.out Z21.out))))))))))))))).trans K21_1_1; clear K21_1_1; clear b22) | (go_at_call 45; (with_reducible refine (impl_OrthogonalTo pS r21 S S.length w20.heap.size w21.heap.size r22 m m.length w21.heap.size w22.heap.size _ ((F21.out.row).same (same_below B22.out (Nat.le_refl _))) Z22.out HSS.out (F22.out.mat) (Nat.le_refl _) HSm.out).mono ?_); rintro e w23 ⟨r23, k23, rfl, o23, b23⟩; have F23 := Lib.hid o23; clear o23; have B23 := Lib.hid b23; have Z23 := Lib.hid b23.size; have K23_0_0 := (b23.cell (p := ⟨w.heap.size, 0, none⟩) (Nat.lt_of_lt_of_le (lt_alloc w (.cells #[.int .i64 pS, .slice aS S.length cS] 41)) (Nat.le_trans Z2.out (Nat.le_trans Z3.out (Nat.le_trans Z4.out (Nat.le_trans Z5.out (Nat.le_trans Z6.out (Nat.le_trans (size_alloc w6 (.cells #[.int .i64 pS, .slice r6 S.length S.length] 44)) (Nat.le_trans Z8.out (Nat.le_trans Z9.out (Nat.le_trans Z10.out (Nat.le_trans (size_drew w10) (Nat.le_trans Z12.out (Nat.le_trans Z13.out (Nat.le_trans Z14.out (Nat.le_trans Z15.out (Nat.le_trans Z16.out (Nat.le_trans Z17.out (Nat.le_trans Z18.out (Nat.le_trans Z19.out (Nat.le_trans Z20.out (Nat.le_trans Z21.out Z22.out)))))))))))))))))))))).trans K22_0_0; clear K22_0_0; have K23_0_1 := (b23.cell (p := ⟨w.heap.size, 1, none⟩) (Nat.lt_of_lt_of_le (lt_alloc w (.cells #[.int .i64 pS, .slice aS S.length cS] 41)) (Nat.le_trans Z2.out (Nat.le_trans Z3.out (Nat.le_trans Z4.out (Nat.le_trans Z5.out (Nat.le_trans Z6.out (Nat.le_trans (size_alloc w6 (.cells #[.int .i64 pS, .slice r6 S.length S.length] 44)) (Nat.le_trans Z8.out (Nat.le_trans Z9.out (Nat.le_trans Z10.out (Nat.le_trans (size_drew w10) (Nat.le_trans Z12.out (Nat.le_trans Z13.out (Nat.le_trans Z14.out (Nat.le_trans Z15.out (Nat.le_trans Z16.out (Nat.le_trans Z17.out (Nat.le_trans Z18.out (Nat.le_trans Z19.out (Nat.le_trans Z20.out (Nat.le_trans Z21.out Z22.out)))))))))))))))))))))).trans K22_0_1; clear K22_0_1; have K23_1_0 := (b23.cell (p := ⟨w6.heap.size, 0, none⟩) (Nat.lt_of_lt_of_le (lt_alloc w6 (.cells #[.int .i64 pS, .slice r6 S.length S.length] 44)) (Nat.le_trans Z8.out (Nat.le_trans Z9.out (Nat.le_trans Z10.out (Nat.le_trans (size_drew w10) (Nat.le_trans Z12.out (Nat.le_trans Z13.out (Nat.le_trans Z14.out (Nat.le_trans Z15.out (Nat.le_trans Z16.out (Nat.le_trans Z17.out (Nat.le_trans Z18.out (Nat.le_trans Z19.out (Nat.le_trans Z20.out (Nat.le_trans Z21.out Z22.out)))))))))))))))).trans K22_1_0; clear K22_1_0; have K23_1_1 := (b23.cell (p := ⟨w6.heap.size, 1, none⟩) (Nat.lt_of_lt_of_le (lt_alloc w6 (.cells #[.int .i64 pS, .slice r6 S.length S.length] 44)) (Nat.le_trans Z8.out (Nat.le_trans Z9.out (Nat.le_trans Z10.out (Nat.le_trans (size_drew w10) (Nat.le_trans Z12.out (Nat.le_trans Z13.out (Nat.le_trans Z14.out (Nat.le_trans Z15.out (Nat.le_trans Z16.out (Nat.le_trans Z17.out (Nat.le_trans Z18.out (Nat.le_trans Z19.out (Nat.le_trans Z20.out (Nat.le_trans Z21.out Z22.out)))))))))))))))).trans K22_1_1; clear K22_1_1; clear b23) | (go_at_call 19; (with_reducible refine (sameMat r23 r5 (ortV pS S m) k23 k5 w22.heap.size w23.heap.size w4.heap.size w5.heap.size _ (F23.out.mat) (F5.out.same (Same.trans (Same.trans (Same.trans (Same.trans (Same.trans (Same.trans (Same.trans (Same.trans (Same.trans (Same.trans (Same.trans (Same.trans (Same.trans (Same.trans (Same.trans (Same.trans (Same.trans (same_below B6.out (Nat.le_refl _)) (same_below (below_alloc w6 (.cells #[.int .i64 pS, .slice r6 S.length S.length] 44)) Z6.out)) (same_below B8.out (Nat.le_trans Z6.out (size_alloc w6 (.cells #[.int .i64 pS, .slice r6 S.length S.length] 44))))) (same_below B9.out (Nat.le_trans Z6.out (Nat.le_trans (size_alloc w6 (.cells #[.int .i64 pS, .slice r6 S.length S.length] 44)) Z8.out)))) (Q10.out.same _ _)) (same_below (below_drew w10) (Nat.le_trans Z6.out (Nat.le_trans (size_alloc w6 (.cells #[.int .i64 pS, .slice r6 S.length S.length] 44)) (Nat.le_trans Z8.out (Nat.le_trans Z9.out Z10.out)))))) (same_below B12.out (Nat.le_trans Z6.out (Nat.le_trans (size_alloc w6 (.cells #[.int .i64 pS, .slice r6 S.length S.length] 44)) (Nat.le_trans Z8.out (Nat.le_trans Z9.out (Nat.le_trans Z10.out (size_drew w10)))))))) (same_below B13.out (Nat.le_trans Z6.out (Nat.le_trans (size_alloc w6 (.cells #[.int .i64 pS, .slice r6 S.length S.length] 44)) (Nat.le_trans Z8.out (Nat.le_trans Z9.out (Nat.le_trans Z10.out (Nat.le_trans (size_drew w10) Z12.out)))))))) (same_below B14.out (Nat.le_trans Z6.out (Nat.le_trans (size_alloc w6 (.cells #[.int .i64 pS, .slice r6 S.length S.length] 44)) (Nat.le_trans Z8.out (Nat.le_trans Z9.out (Nat.le_trans Z10.out (Nat.le_trans (size_drew w10) (Nat.le_trans Z12.out Z13.out))))))))) (Q15.out.same _ _)) (O16.out.same (.inl (Nat.le_refl _)) (Nat.le_trans Z6.out (Nat.le_trans (size_alloc w6 (.cells #[.int .i64 pS, .slice r6 S.length S.length] 44)) (Nat.le_trans Z8.out (Nat.le_trans Z9.out (Nat.le_trans Z10.out (Nat.le_trans (size_drew w10) (Nat.le_trans Z12.out (Nat.le_trans Z13.out (Nat.le_trans Z14.out Z15.out))))))))))) (O17.out.same (.inl (Nat.le_trans Z6.out (size_alloc w6 (.cells #[.int .i64 pS, .slice r6 S.length S.length] 44)))))) (Q18.out.same _ _)) (O19.out.same (.inl (Nat.le_trans Z6.out (Nat.le_trans (size_alloc w6 (.cells #[.int .i64 pS, .slice r6 S.length S.length] 44)) Z8.out))))) (Q20.out.same _ _)) (same_below B21.out (Nat.le_trans Z6.out (Nat.le_trans (size_alloc w6 (.cells #[.int .i64 pS, .slice r6 S.length S.length] 44)) (Nat.le_trans Z8.out (Nat.le_trans Z9.out (Nat.le_trans Z10.out (Nat.le_trans (size_drew w10) (Nat.le_trans Z12.out (Nat.le_trans Z13.out (Nat.le_trans Z14.out (Nat.le_trans Z15.out (Nat.le_trans Z16.out (Nat.le_trans Z17.out (Nat.le_trans Z18.out (Nat.le_trans Z19.out Z20.out)))))))))))))))) (same_below B22.out (Nat.le_trans Z6.out (Nat.le_trans (size_alloc w6 (.cells #[.int .i64 pS, .slice r6 S.length S.length] 44)) (Nat.le_trans Z8.out (Nat.le_trans Z9.out (Nat.le_trans Z10.out (Nat.le_trans (size_drew w10) (Nat.le_trans Z12.out (Nat.le_trans Z13.out (Nat.le_trans Z14.out (Nat.le_trans Z15.out (Nat.le_trans Z16.out (Nat.le_trans Z17.out (Nat.le_trans Z18.out (Nat.le_trans Z19.out (Nat.le_trans Z20.out Z21.out))))))))))))))))) (same_below B23.out (Nat.le_trans Z6.out (Nat.le_trans (size_alloc w6 (.cells #[.int .i64 pS, .slice r6 S.length S.length] 44)) (Nat.le_trans Z8.out (Nat.le_trans Z9.out (Nat.le_trans Z10.out (Nat.le_trans (size_drew w10) (Nat.le_trans Z12.out (Nat.le_trans Z13.out (Nat.le_trans Z14.out (Nat.le_trans Z15.out (Nat.le_trans Z16.out (Nat.le_trans Z17.out (Nat.le_trans Z18.out (Nat.le_trans Z19.out (Nat.le_trans Z20.out (Nat.le_trans Z21.out Z22.out))))))))))))))))))) (ortV_size pS S m)).mono ?_); rintro e w24 ⟨rfl, q24⟩; have Q24 := Lib.hid q24; have Z24 := Lib.hid (quiet_z q24); have K24_0_0 := (q24.cell ⟨w.heap.size, 0, none⟩).trans K23_0_0; clear K23_0_0; have K24_0_1 := (q24.cell ⟨w.heap.size, 1, none⟩).trans K23_0_1; clear K23_0_1; have K24_1_0 := (q24.cell ⟨w6.heap.size, 0, none⟩).trans K23_1_0; clear K23_1_0; have K24_1_1 := (q24.cell ⟨w6.heap.size, 1, none⟩).trans K23_1_1; clear K23_1_1; clear q24) | (go_at_call 23; (with_reducible refine (heldMat_n r9 (ortV pS S m) k9 w8.heap.size w9.heap.size t0 _ ((F19.out.mat).same (Same.trans (Same.trans (Same.trans (Same.trans (Q20.out.same _ _) (same_below B21.out (Nat.le_trans Z10.out (Nat.le_trans (size_drew w10) (Nat.le_trans Z12.out (Nat.le_trans Z13.out (Nat.le_trans Z14.out (Nat.le_trans Z15.out (Nat.le_trans Z16.out (Nat.le_trans Z17.out (Nat.le_trans Z18.out (Nat.le_trans Z19.out Z20.out)))))))))))) (same_below B22.out (Nat.le_trans Z10.out (Nat.le_trans (size_drew w10) (Nat.le_trans Z12.out (Nat.le_trans Z13.out (Nat.le_trans Z14.out (Nat.le_trans Z15.out (Nat.le_trans Z16.out (Nat.le_trans Z17.out (Nat.le_trans Z18.out (Nat.le_trans Z19.out (Nat.le_trans Z20.out Z21.out))))))))))))) (same_below B23.out (Nat.le_trans Z10.out (Nat.le_trans (size_drew w10) (Nat.le_trans Z12.out (Nat.le_trans Z13.out (Nat.le_trans Z14.out (Nat.le_trans Z15.out (Nat.le_trans Z16.out (Nat.le_trans Z17.out (Nat.le_trans Z18.out (Nat.le_trans Z19.out (Nat.le_trans Z20.out (Nat.le_trans Z21.out Z22.out)))))))))))))) (Q24.out.same _ _))) T0.out (ortV_size pS S m)).mono ?_); rintro e w25 ⟨rfl, q25⟩; have Q25 := Lib.hid q25; have Z25 := Lib.hid (quiet_z q25); have K25_0_0 := (q25.cell ⟨w.heap.size, 0, none⟩).trans K24_0_0; clear K24_0_0; have K25_0_1 := (q25.cell ⟨w.heap.size, 1, none⟩).trans K24_0_1; clear K24_0_1; have K25_1_0 := (q25.cell ⟨w6.heap.size, 0, none⟩).trans K24_1_0; clear K24_1_0; have K25_1_1 := (q25.cell ⟨w6.heap.size, 1, none⟩).trans K24_1_1; clear K24_1_1; clear q25))
      go_ret
      exact ⟨rfl, (((below_step (below_step (below_step (((((((below_step (below_step (below_step (below_step ((below_step (below_step (below_step (below_step (below_step (below_step (below_step (below_step (below_step (Below.refl _ _) (Nat.le_refl _) (below_alloc w (.cells #[.int .i64 pS, .slice aS S.length cS] 41))) (size_alloc w (.cells #[.int .i64 pS, .slice aS S.length cS] 41)) B2.out) (Nat.le_trans (size_alloc w (.cells #[.int .i64 pS, .slice aS S.length cS] 41)) Z2.out) B3.out) (Nat.le_trans (size_alloc w (.cells #[.int .i64 pS, .slice aS S.length cS] 41)) (Nat.le_trans Z2.out Z3.out)) B4.out) (Nat.le_trans (size_alloc w (.cells #[.int .i64 pS, .slice aS S.length cS] 41)) (Nat.le_trans Z2.out (Nat.le_trans Z3.out Z4.out))) B5.out) (Nat.le_trans (size_alloc w (.cells #[.int .i64 pS, .slice aS S.length cS] 41)) (Nat.le_trans Z2.out (Nat.le_trans Z3.out (Nat.le_trans Z4.out Z5.out)))) B6.out) (Nat.le_trans (size_alloc w (.cells #[.int .i64 pS, .slice aS S.length cS] 41)) (Nat.le_trans Z2.out (Nat.le_trans Z3.out (Nat.le_trans Z4.out (Nat.le_trans Z5.out Z6.out))))) (below_alloc w6 (.cells #[.int .i64 pS, .slice r6 S.length S.length] 44))) (Nat.le_trans (size_alloc w (.cells #[.int .i64 pS, .slice aS S.length cS] 41)) (Nat.le_trans Z2.out (Nat.le_trans Z3.out (Nat.le_trans Z4.out (Nat.le_trans Z5.out (Nat.le_trans Z6.out (size_alloc w6 (.cells #[.int .i64 pS, .slice r6 S.length S.length] 44)))))))) B8.out) (Nat.le_trans (size_alloc w (.cells #[.int .i64 pS, .slice aS S.length cS] 41)) (Nat.le_trans Z2.out (Nat.le_trans Z3.out (Nat.le_trans Z4.out (Nat.le_trans Z5.out (Nat.le_trans Z6.out (Nat.le_trans (size_alloc w6 (.cells #[.int .i64 pS, .slice r6 S.length S.length] 44)) Z8.out))))))) B9.out).trans (Q10.out.below _)) (Nat.le_trans (size_alloc w (.cells #[.int .i64 pS, .slice aS S.length cS] 41)) (Nat.le_trans Z2.out (Nat.le_trans Z3.out (Nat.le_trans Z4.out (Nat.le_trans Z5.out (Nat.le_trans Z6.out (Nat.le_trans (size_alloc w6 (.cells #[.int .i64 pS, .slice r6 S.length S.length] 44)) (Nat.le_trans Z8.out (Nat.le_trans Z9.out Z10.out))))))))) (below_drew w10)) (Nat.le_trans (size_alloc w (.cells #[.int .i64 pS, .slice aS S.length cS] 41)) (Nat.le_trans Z2.out (Nat.le_trans Z3.out (Nat.le_trans Z4.out (Nat.le_trans Z5.out (Nat.le_trans Z6.out (Nat.le_trans (size_alloc w6 (.cells #[.int .i64 pS, .slice r6 S.length S.length] 44)) (Nat.le_trans Z8.out (Nat.le_trans Z9.out (Nat.le_trans Z10.out (size_drew w10))))))))))) B12.out) (Nat.le_trans (size_alloc w (.cells #[.int .i64 pS, .slice aS S.length cS] 41)) (Nat.le_trans Z2.out (Nat.le_trans Z3.out (Nat.le_trans Z4.out (Nat.le_trans Z5.out (Nat.le_trans Z6.out (Nat.le_trans (size_alloc w6 (.cells #[.int .i64 pS, .slice r6 S.length S.length] 44)) (Nat.le_trans Z8.out (Nat.le_trans Z9.out (Nat.le_trans Z10.out (Nat.le_trans (size_drew w10) Z12.out))))))))))) B13.out) (Nat.le_trans (size_alloc w (.cells #[.int .i64 pS, .slice aS S.length cS] 41)) (Nat.le_trans Z2.out (Nat.le_trans Z3.out (Nat.le_trans Z4.out (Nat.le_trans Z5.out (Nat.le_trans Z6.out (Nat.le_trans (size_alloc w6 (.cells #[.int .i64 pS, .slice r6 S.length S.length] 44)) (Nat.le_trans Z8.out (Nat.le_trans Z9.out (Nat.le_trans Z10.out (Nat.le_trans (size_drew w10) (Nat.le_trans Z12.out Z13.out)))))))))))) B14.out).trans (Q15.out.below _)).trans (O16.out.below (Nat.le_trans (size_alloc w (.cells #[.int .i64 pS, .slice aS S.length cS] 41)) (Nat.le_trans Z2.out (Nat.le_trans Z3.out (Nat.le_trans Z4.out Z5.out)))) (Nat.le_trans Z6.out (Nat.le_trans (size_alloc w6 (.cells #[.int .i64 pS, .slice r6 S.length S.length] 44)) (Nat.le_trans Z8.out (Nat.le_trans Z9.out (Nat.le_trans Z10.out (Nat.le_trans (size_drew w10) (Nat.le_trans Z12.out (Nat.le_trans Z13.out (Nat.le_trans Z14.out Z15.out))))))))))).trans (O17.out.below (Nat.le_trans (size_alloc w (.cells #[.int .i64 pS, .slice aS S.length cS] 41)) (Nat.le_trans Z2.out (Nat.le_trans Z3.out (Nat.le_trans Z4.out (Nat.le_trans Z5.out (Nat.le_trans Z6.out (size_alloc w6 (.cells #[.int .i64 pS, .slice r6 S.length S.length] 44)))))))))).trans (Q18.out.below _)).trans (O19.out.below (Nat.le_trans (size_alloc w (.cells #[.int .i64 pS, .slice aS S.length cS] 41)) (Nat.le_trans Z2.out (Nat.le_trans Z3.out (Nat.le_trans Z4.out (Nat.le_trans Z5.out (Nat.le_trans Z6.out (Nat.le_trans (size_alloc w6 (.cells #[.int .i64 pS, .slice r6 S.length S.length] 44)) Z8.out))))))))).trans (Q20.out.below _)) (Nat.le_trans (size_alloc w (.cells #[.int .i64 pS, .slice aS S.length cS] 41)) (Nat.le_trans Z2.out (Nat.le_trans Z3.out (Nat.le_trans Z4.out (Nat.le_trans Z5.out (Nat.le_trans Z6.out (Nat.le_trans (size_alloc w6 (.cells #[.int .i64 pS, .slice r6 S.length S.length] 44)) (Nat.le_trans Z8.out (Nat.le_trans Z9.out (Nat.le_trans Z10.out (Nat.le_trans (size_drew w10) (Nat.le_trans Z12.out (Nat.le_trans Z13.out (Nat.le_trans Z14.out (Nat.le_trans Z15.out (Nat.le_trans Z16.out (Nat.le_trans Z17.out (Nat.le_trans Z18.out (Nat.le_trans Z19.out Z20.out))))))))))))))))))) B21.out) (Nat.le_trans (size_alloc w (.cells #[.int .i64 pS, .slice aS S.length cS] 41)) (Nat.le_trans Z2.out (Nat.le_trans Z3.out (Nat.le_trans Z4.out (Nat.le_trans Z5.out (Nat.le_trans Z6.out (Nat.le_trans (size_alloc w6 (.cells #[.int .i64 pS, .slice r6 S.length S.length] 44)) (Nat.le_trans Z8.out (Nat.le_trans Z9.out (Nat.le_trans Z10.out (Nat.le_trans (size_drew w10) (Nat.le_trans Z12.out (Nat.le_trans Z13.out (Nat.le_trans Z14.out (Nat.le_trans Z15.out (Nat.le_trans Z16.out (Nat.le_trans Z17.out (Nat.le_trans Z18.out (Nat.le_trans Z19.out (Nat.le_trans Z20.out Z21.out)))))))))))))))))))) B22.out) (Nat.le_trans (size_alloc w (.cells #[.int .i64 pS, .slice aS S.length cS] 41)) (Nat.le_trans Z2.out (Nat.le_trans Z3.out (Nat.le_trans Z4.out (Nat.le_trans Z5.out (Nat.le_trans Z6.out (Nat.le_trans (size_alloc w6 (.cells #[.int .i64 pS, .slice r6 S.length S.length] 44)) (Nat.le_trans Z8.out (Nat.le_trans Z9.out (Nat.le_trans Z10.out (Nat.le_trans (size_drew w10) (Nat.le_trans Z12.out (Nat.le_trans Z13.out (Nat.le_trans Z14.out (Nat.le_trans Z15.out (Nat.le_trans Z16.out (Nat.le_trans Z17.out (Nat.le_trans Z18.out (Nat.le_trans Z19.out (Nat.le_trans Z20.out (Nat.le_trans Z21.out Z22.out))))))))))))))))))))) B23.out).trans (Q24.out.below _)).trans (Q25.out.below _))⟩
    · go_enter Try.func11, Try.ntmps11
      go_wp2_with (first | (go_at_call 34; (with_reducible refine (szSpace_yes pS aS S nS cS (1048576) _ HNS.out (by omega) (by omega)).mono ?_); rintro e w2 ⟨rfl, b2⟩; have B2 := Lib.hid b2; have Z2 := Lib.hid b2.size; have K2_0_0 := (b2.cell (p := ⟨w.heap.size, 0, none⟩) (Nat.lt_of_lt_of_le (lt_alloc w (.cells #[.int .i64 pS, .slice aS S.length cS] 41)) (Nat.le_refl _))).trans (show (w.alloc (.cells #[.int .i64 pS, .slice aS S.length cS] 41)).cell? ⟨w.heap.size, 0, none⟩ = some (.int .i64 pS) by simp [go_sem]); have K2_0_1 := (b2.cell (p := ⟨w.heap.size, 1, none⟩) (Nat.lt_of_lt_of_le (lt_alloc w (.cells #[.int .i64 pS, .slice aS S.length cS] 41)) (Nat.le_refl _))).trans (show (w.alloc (.cells #[.int .i64 pS, .slice aS S.length cS] 41)).cell? ⟨w.heap.size, 1, none⟩ = some (.slice aS S.length cS) by simp [go_sem]); clear b2) | (go_at_call 15; (with_reducible refine (szMat_x am m cm 0 w.heap.size nm (1048576 - (nS : Int)) _ (Hm.out.same (Same.trans (same_below (below_alloc w (.cells #[.int .i64 pS, .slice aS S.length cS] 41)) (Nat.le_refl _)) (same_below B2.out (size_alloc w (.cells #[.int .i64 pS, .slice aS S.length cS] 41))))) HNm.out (by omega) (by omega) (by omega) Lm.out Rm.out).mono ?_); rintro e w' ⟨rfl, rfl⟩))
      go_ret
      exact ⟨rfl, (below_step (below_step (Below.refl _ _) (Nat.le_refl _) (below_alloc w (.cells #[.int .i64 pS, .slice aS S.length cS] 41))) (size_alloc w (.cells #[.int .i64 pS, .slice aS S.length cS] 41)) B2.out)⟩
  · go_enter Try.func11, Try.ntmps11
    go_wp2_with (first | (go_at_call 34; (with_reducible refine (szSpace_no pS aS S nS cS (1048576) _ HNS.out (by omega) (by omega) (by rw [HNS.out]; have := LS.out; omega)).mono ?_); rintro e w2 ⟨rfl, b2⟩; have B2 := Lib.hid b2; have Z2 := Lib.hid b2.size; have K2_0_0 := (b2.cell (p := ⟨w.heap.size, 0, none⟩) (Nat.lt_of_lt_of_le (lt_alloc w (.cells #[.int .i64 pS, .slice aS S.length cS] 41)) (Nat.le_refl _))).trans (show (w.alloc (.cells #[.int .i64 pS, .slice aS S.length cS] 41)).cell? ⟨w.heap.size, 0, none⟩ = some (.int .i64 pS) by simp [go_sem]); have K2_0_1 := (b2.cell (p := ⟨w.heap.size, 1, none⟩) (Nat.lt_of_lt_of_le (lt_alloc w (.cells #[.int .i64 pS, .slice aS S.length cS] 41)) (Nat.le_refl _))).trans (show (w.alloc (.cells #[.int .i64 pS, .slice aS S.length cS] 41)).cell? ⟨w.heap.size, 1, none⟩ = some (.slice aS S.length cS) by simp [go_sem]); clear b2))
    go_ret
    exact ⟨rfl, (below_step (below_step (Below.refl _ _) (Nat.le_refl _) (below_alloc w (.cells #[.int .i64 pS, .slice aS S.length cS] 41))) (size_alloc w (.cells #[.int .i64 pS, .slice aS S.length cS] 41)) B2.out)⟩

theorem law_OrthogonalTo_all (pS : Int) (aS : Option Addr) (lenS cS : Nat) (am : Option Addr) (lenm cm : Nat) (w : World) (hS : IsLst w aS lenS) (hm : IsMat w am lenm) :
    Calls Try.prog 11 #[.agg #[.int .i64 pS, .slice aS lenS cS], .slice am lenm cm] w fun e w' => e = .returned (.bool true) ∧ Below w.heap.size w w' := by
  obtain ⟨S, rfl, hS, lS⟩ := hS
  obtain ⟨m, rfl, hm, lm, rm⟩ := hm
  exact law_OrthogonalTo pS aS S cS am m cm w hS lS hm lm rm

end Go.Proofs.Ytihanbfbgiiakaa
