/-
  What the program's elimination hands back, to be read: rows, pivots.
  Conditions: the list of vectors is a row of rows of known cells.
  What the model's turned matrices are: a contract.
  Conditions: the matrix is a row of rows of known cells, all of one length.
  Products of matrices, in the program and in the model: contracts.
  Conditions: the matrices are rows of rows of known cells with numbers of the prime; their sizes fit.
  The model's products of matrices: a contract.
  Conditions: the matrices are rows of rows of known cells with numbers of the prime; their sizes fit.
  TransposeMatrix, in the program and in the model.
  Conditions: the arguments are nil or rows of known cells, of at most 1048576 numbers.
  Traces, in the program and in the model.
  Conditions: the arguments are nil or rows of known cells, of at most 1048576 numbers.
-/
import Derived.Test.YtkibkkdeaojjoabQf27
import Derived.Test.YtkibkkdeaojjoabQf23
import Derived.Test.YtkibkkdeaojjoabQf7
import Derived.Deep.AppendLies
import Derived.Test.YtkibkkdeaojjoabQf10
import Derived.Test.YtkibkkdeaojjoabQf5
import Derived.Test.YtkibkkdeaojjoabQf12
namespace Go.Proofs.Ytkibkkdeaojjoab
open Go.RowKit Go.ChangeShapes Go.WideShapes
set_option linter.unusedVariables false

theorem EchM.pivRow {w : World} {kb c nr np : Nat} {Z : Nat → Nat → Int} {P : Nat → Nat} {ar ap : Option Addr} {cr cp : Nat} {d : Int} {RB RO RC : Nat → Nat} (h : EchM w kb c nr np Z P (.slice ar nr cr) (.slice ap np cp) d RB RO RC) : RowIn kb w.heap.size w ap (pvL P np) := by
  by_cases h0 : 0 < np
  · obtain ⟨g, rfl, _, hg0, hg1⟩ := h.pivA h0
    refine .inr ⟨g, 0, rfl, by omega, hg1, fun j hj => ?_⟩
    rw [pvL_len] at hj
    obtain ⟨g', e, hc, _, _⟩ := h.pivA hj
    injection e with e1
    injection e1 with e2
    subst e2
    rw [Nat.zero_add, pvL_at hj]; exact hc
  · have : np = 0 := by omega
    subst this
    exact .inl rfl
def ElimK (p : Int) (A : List (List Int)) (w : World) (e : Ending) (w' : World) : Prop :=
  ∃ ar cr ap cp dd, e = .returned (.agg #[.slice ar (bas p A).length cr, .slice ap (bas p A).length cp, .int .i64 dd]) ∧ OwnM w.heap.size w'.heap.size w' ar (bas p A) ∧ RowIn w.heap.size w'.heap.size w' ap (pvL (pvs (bas p A)) (bas p A).length) ∧
    IsBas p (rw' A 0).length A (bas p A) ∧ Below w.heap.size w w'
theorem pvL_congr {P P' : Nat → Nat} {n : Nat} (h : ∀ i, i < n → P i = P' i) : pvL P n = pvL P' n := by
  unfold pvL
  apply List.map_congr_left
  intro i hi
  rw [h i (List.mem_range.1 hi)]
/-- Rows of one length with numbers of the prime, at least one. -/
structure RowsW (p : Int) (A : List (List Int)) : Prop where
  prime : prm p = true
  lo : 0 < A.length
  hi : A.length ≤ 1024
  c0 : 1 ≤ (rw' A 0).length
  c1 : (rw' A 0).length ≤ 16
  len : ∀ i, i < A.length → (rw' A i).length = (rw' A 0).length
  rng : ∀ i, i < A.length → ∀ j, j < (rw' A 0).length → 0 ≤ at' A i j ∧ at' A i j < p
theorem Lst.wide {p : Int} {A : List (List Int)} (h : Lst 1 p A) : RowsW p A :=
  ⟨h.prime, h.lo, by have := h.hi; omega, h.c0 0 h.lo, h.c1 0 h.lo, h.len, fun i hi j hj => h.at hi hj⟩
theorem elimK (p : Int) (a : Option Addr) (A : List (List Int)) (ca lo tp : Nat) (w : World) (hm : MatIn lo tp w a A) (ht : tp ≤ w.heap.size) (hA : RowsW p A) :
    Calls Try.prog 50 #[.int .i64 p, .slice a A.length ca] w (ElimK p A w) := by
  have hp := hA.prime
  have hc0 := hA.c0
  have hc1 := hA.c1
  refine (eliminate_bas p a A ca lo tp w hp hm ht hA.hi (fun i hi => by rw [hA.len i hi]; exact ⟨hc0, by omega, rfl⟩) (fun i hi j hj => hA.rng i hi j (by rw [← hA.len i hi]; exact hj))).mono ?_
  rintro e w' ⟨P, d, dd, ar, ap, cr, cp, kb, c, RB, RO, RC, rfl, hE, hM, hB, hk, hd⟩
  obtain ⟨_, rfl⟩ := hd hA.lo
  have hK := hM.kept hp
  refine ⟨ar, cr, ap, cp, dd, rfl, hE.own hK.len hk, ?_, hK.bas, hB⟩
  rw [pvL_congr (fun i hi => hK.red.pvs hK.len hi)]
  exact hE.pivRow.mono hk (Nat.le_refl _)
end Go.Proofs.Ytkibkkdeaojjoab

namespace Go.Proofs.Ytkibkkdeaojjoab
open Go.RowKit
set_option linter.unusedVariables false

set_option maxRecDepth 100000 in
set_option maxHeartbeats 3200000 in
theorem l02Turn_any (a : Option Addr) (m : List (List Int)) (ca lo tp : Nat) (w : World) (hm : MatIn lo tp w a m) (ht : tp ≤ w.heap.size) (h0 : 0 < m.length) (hc : ∀ i, i < m.length → (rw' m i).length = (rw' m 0).length) (hn : m.length ≤ 1024) (hn2 : (rw' m 0).length ≤ 1024) :
    Calls Try.prog 57 #[.slice a m.length ca] w (NewM (trM m) w) := by
  obtain ⟨i0, hi, hz0, hz1, hz2⟩ := info_parts info64
  obtain ⟨j0, kj, kz0, kz1, kz2⟩ := info_parts info_slice
  have HM := Lib.hid hm
  have HC := Lib.hid hc
  obtain ⟨b, o, r0, c0, ha, _, hb, hr0, _⟩ := HM.out.row h0
  subst ha
  rw [Nat.add_zero] at hr0
  have HR0 := Lib.hid hr0
  obtain ⟨c, hcc⟩ : ∃ c, c = (rw' m 0).length := ⟨_, rfl⟩
  rw [← hcc] at hn2 hr0
  have HCC := Lib.hid hcc
  have hb' : b < w.heap.size := Nat.lt_of_lt_of_le hb ht
  clear hm hc hcc
  go_enter Try.func57, Try.ntmps57
  go_wp2
  go_loopw [3, 4] (fun v t wr => ∃ k : Nat, k ≤ c ∧ t = .int .i64 k ∧ OutM w.heap.size wr v (mk k m.length fun k i => at' m i k) ∧ Below w.heap.size w wr) (fun _ t _ => c - (intOf t).toNat)
  case atStart => exact ⟨0, Nat.zero_le _, rfl, OutM.start w _ _ (Nat.le_refl _) rfl, by ((repeat' (first | with_reducible exact Below.refl _ _ | (with_reducible refine Below.setCell ?_ ?_ _) | (with_reducible refine Below.alloc ?_ ?_ _) | (with_reducible refine Below.drew ?_))); all_goals (first | (simp; done) | omega | (simp; omega)))⟩
  case round =>
    obtain ⟨k, hk, rfl, ho, hbel⟩ := hrel
    have HO := Lib.hid ho
    have HBEL := Lib.hid hbel
    have hwz := hbel.size
    have hr0 := (hbel.cell (p := ⟨b, o, none⟩) hb').trans hr0
    rename World => wo
    clear ho
    by_cases hlt : k < c
    · have hk1 : (k : Int) < (c : Int) := by omega
      clear hbel
      go_wp2
      go_loopw [5, 6] (fun v t wr => ∃ i : Nat, i ≤ m.length ∧ t = .int .i64 i ∧ OutR wo.heap.size wr v (mkR i fun i => at' m i k) ∧ Below wo.heap.size wo wr) (fun _ t _ => m.length - (intOf t).toNat)
      case atStart => exact ⟨0, Nat.zero_le _, rfl, OutR.start wo _ _ (Nat.le_refl _) rfl, by ((repeat' (first | with_reducible exact Below.refl _ _ | (with_reducible refine Below.setCell ?_ ?_ _) | (with_reducible refine Below.alloc ?_ ?_ _) | (with_reducible refine Below.drew ?_))); all_goals (first | (simp; done) | omega | (simp; omega)))⟩
      case round =>
        obtain ⟨i, hi', rfl, hoi, hbi⟩ := hrel
        have HOI := Lib.hid hoi
        have HBI := Lib.hid hbi
        have hwi := hbi.size
        clear hoi hr0
        by_cases hlti : i < m.length
        · have hbw := HBEL.out.trans (HBI.out.mono hwz)
          obtain ⟨b1, o1, r, c1, ha1, _, hb1, hr1, hrow⟩ := (HM.out.below hbw ht).row hlti
          cases ha1
          have hcl := HC.out i hlti
          rw [← HCC.out] at hcl
          obtain ⟨b2, o2, ha2, _, hb2, hc2⟩ := hrow.num (j := k) (by omega)
          subst ha2
          rw [hcl] at hr1
          have HS : Hid (mkR (i + 1) (fun i => at' m i k) = mkR i (fun i => at' m i k) ++ [(rw' m i).getD k 0]) := mkR_succ _ _
          obtain ⟨x, hx⟩ : ∃ x, x = (rw' m i).getD k 0 := ⟨_, rfl⟩
          rw [← hx] at hc2 HS
          obtain ⟨X, hX⟩ : ∃ X, X = (mkR i (fun i => at' m i k)).map (Value.int .i64) := ⟨_, rfl⟩
          have HX := Lib.hid hX
          have HO2 : Hid (wr.ownsRow wo.heap.size 2 1 u5 i X) := by
            have := HOI.out; unfold OutR at this; rw [mkR_len, ← hX] at this; exact this
          clear hX hx hcl hrow hbw hbi
          go_wp2_with (at_builtin; refine wpList_append_lies _ rfl _ _ 22 rfl wo.heap.size 2 i0 (.int .i64 0) 1 8 Try.underlying22 hi hz0 hz1 hz2 rfl (by decide) u5 i X rfl (HO2.out.alloc _) ⟨wr.heap.size, 0, none⟩ 1 1 [.int .i64 x] rfl rfl (World.news_of_block (cs := #[.int .i64 x]) (t := 2) (fr := (0, 0)) (heap_alloc_new wr _)) (by simp [Value.oneCell']) (by omega) (by unfold maxLen; omega) (by omega) (by simp; omega) (wr.heap.size + 1) (by simp) ?_; intro gg cap w1 hown1 hgrow hat hlt1)
          go_wp2
          go_roundw
          case rel => exact ⟨i + 1, by omega, by go_num, OutR.step HO2.out HX.out HS.out hown1, (HBI.out.alloc hwi _).grown hgrow (by simp; omega) (fun _ hk => (HO2.out.lt _ hk).1)⟩
          case measure => simp [intOf]; omega
        · have hn : i = m.length := by omega
          subst hn
          obtain ⟨r, cp, hv, htag⟩ := HOI.out.tag
          rw [mkR_len] at hv
          subst hv
          obtain ⟨vals, hvo, hvr⟩ := HO.out.below HBI.out
          rw [mk_len] at hvo hvr
          have HV := Lib.hid hvo
          have HVR := Lib.hid hvr
          have HT := Lib.hid htag
          clear hvo hvr htag hbi
          go_wp2_with (at_builtin; refine wpList_append_lies _ rfl _ _ 25 rfl w.heap.size 22 j0 (.slice none 0 0) 1 24 Try.underlying25 kj kz0 kz1 kz2 rfl (by decide) u3 k vals rfl (HV.out.alloc _) ⟨wr.heap.size, 0, none⟩ 1 1 [.slice r m.length cp] rfl rfl (World.news_of_block (cs := #[.slice r m.length cp]) (t := 22) (fr := (0, 0)) (heap_alloc_new wr _)) (by simp [Value.oneCell']) (by omega) (by unfold maxLen; omega) (by omega) (by simp; omega) (wr.heap.size + 1) (by simp) ?_; intro gg cap w1 hown1 hgrow hat hlt1)
          go_wp2
          go_roundw
          case rel => exact ⟨k + 1, by omega, by go_num, OutM.next HV.out HVR.out HT.out rfl hwz hown1 hgrow, ((HBEL.out.trans (HBI.out.mono hwz)).alloc (by omega) _).grown hgrow (by simp; omega) (fun _ hk => (HV.out.lt _ hk).1)⟩
          case measure => simp [intOf]; omega
    · have hn : k = c := by omega
      subst hn
      have HE : Hid (trM m = mk k m.length fun k i => at' m i k) := by show trM m = _; unfold trM; rw [← HCC.out]
      clear hbel
      go_wp2
      go_ret
      rw [HE.out]
      exact HO.out.new HBEL.out

end Go.Proofs.Ytkibkkdeaojjoab

namespace Go.Proofs.Ytkibkkdeaojjoab
open Go.RowKit Go.ChangeShapes Go.WideShapes
set_option linter.unusedVariables false

set_option maxRecDepth 100000 in
set_option maxHeartbeats 1600000 in
theorem timesMatrix_any (p : Int) (a b : Option Addr) (m m' : List (List Int)) (ca cb lo tp lo' tp' : Nat) (w : World) (hp : prm p = true) (hm : MatIn lo tp w a m) (hm' : MatIn lo' tp' w b m') (ht : tp ≤ w.heap.size) (ht' : tp' ≤ w.heap.size)
    (hr : Rect p m m'.length) (hr' : Rect p m' (rw' m' 0).length) (h0 : 0 < m'.length) :
    Calls Try.prog 72 #[.int .i64 p, .slice a m.length ca, .slice b m'.length cb] w (OwnNew (mulM p m m') w) := by
  have HP := Lib.hid hp
  have HM := Lib.hid hm
  have HM' := Lib.hid hm'
  have HR := Lib.hid hr
  have HR' := Lib.hid hr'
  have hn := hr.rows
  have hn' := hr.cols
  have hc' := hr'.cols
  have hRT := hr'.tr rfl
  have HRT := Lib.hid hRT
  have hZ : (mulM p m m').length = m.length := mk_len _ _ _
  obtain ⟨Z, hZe⟩ : ∃ Z, Z = mulM p m m' := ⟨_, rfl⟩
  rw [← hZe] at hZ
  rw [← hZe]
  have HZE := Lib.hid hZe
  have HZL := Lib.hid hZ
  have hmk := fun W => run_make_row' (P := Try.prog) 25 22 (.slice none 0 0) 24 Try.underlying25 info_slice rfl .i64 .i64 m.length (by omega) (by omega) W
  clear hm hm' hp hr hr' hZ hZe hRT
  go_enter Try.func72, Try.ntmps72
  go_wp2_with (go_at_call 103; (with_reducible refine (transposed_any _ _ _ lo' tp' _ HM'.out ht' h0 HR'.out.len (by omega) (by omega)).mono ?_); rintro e w1 ⟨r1, k1, rfl, ho1, hb1⟩; have HO1 := Lib.hid ho1; have HB1 := Lib.hid hb1; have hz1 := hb1.size; clear ho1 hb1)
  clear hmk
  go_loopw [18] (fun t wr => ∃ i : Nat, i ≤ m.length ∧ t = .int .i64 i ∧ (∃ B, HalfM wr w1.heap.size i Z B) ∧ Below w1.heap.size w1 wr) (fun t _ => m.length - (intOf t).toNat)
  case atStart => exact ⟨0, Nat.zero_le _, rfl, ⟨fun _ => 0, by have := HalfM.start w1 Z 22 (fun _ => 0); rw [HZL.out] at this; exact this⟩, by ((repeat' (first | with_reducible exact Below.refl _ _ | (with_reducible refine Below.setCell ?_ ?_ _) | (with_reducible refine Below.alloc ?_ ?_ _) | (with_reducible refine Below.drew ?_))); all_goals (first | (simp; done) | omega | (simp; omega)))⟩
  case round =>
    obtain ⟨i, hi, rfl, ⟨B, hh⟩, hbel⟩ := hrel
    have HH := Lib.hid hh
    have HBEL := Lib.hid hbel
    have hbw := HB1.out.trans (hbel.mono hz1)
    have hz2 := hbel.size
    by_cases hlt : i < m.length
    · obtain ⟨b2, o2, r, c2, ha2, _, hb2, hr2, hrow⟩ := (HM.out.below hbw ht).row hlt
      subst ha2
      have HROW := Lib.hid hrow
      have HCOL := Lib.hid (HO1.out.mat.below hbel (Nat.le_refl _))
      have hlen := HR.out.len i hlt
      have HLen := Lib.hid hlen
      have hx0 : rw' Z i = appV p (trM m') (rw' m i) := by rw [HZE.out]; exact mul_row hlt HR'.out
      have HX := Lib.hid hx0
      have hsz := hh.lt
      have g0 := hh.rest i (Nat.le_refl _) (by rw [HZL.out]; exact hlt)
      have f0 := hh.free i
      clear hx0 hrow hbel hh hlen hbw
      go_wp2_with (go_at_call 105; (with_reducible refine (timesVector_any _ _ _ _ _ _ _ w.heap.size w1.heap.size lo tp _ HP.out HCOL.out HROW.out (by omega) (by omega) (by rw [HLen.out]; exact HRT.out) (HR.out.num i hlt)).mono ?_); rintro e w2 ⟨rfl, hb3, hs3, ho3⟩; rw [← HX.out] at ho3; rw [← HX.out]; have HO3 := Lib.hid ho3; have HB3 := Lib.hid hb3; have g2 := (hb3.cell (p := ⟨w1.heap.size, i, none⟩) hsz).trans g0; have f2 := (hb3.frozen (p := ⟨w1.heap.size, i, none⟩) hsz).trans f0; clear ho3 hb3)
      go_roundw
      case rel => exact ⟨i + 1, by omega, by go_num, ⟨_, HH.out.next (by rw [HZL.out]; exact hlt) HB3.out hs3 HO3.out⟩, (HBEL.out.trans (HB3.out.mono hz2)).setCell (Nat.le_refl _) _⟩
      case measure => simp [intOf]; omega
    · have hn : i = m.length := by omega
      subst hn
      clear hbel hh hbw
      have HF : Hid (HalfM wr w1.heap.size Z.length Z B) := by have := HH.out; rw [← HZL.out] at this; exact this
      have hle : w.heap.size ≤ w1.heap.size := hz1
      go_wp2
      go_ret
      exact ⟨_, m.length, by rw [HZL.out]; rfl, HF.out.own.mono (by omega) (Nat.le_refl _), HB1.out.trans (HBEL.out.mono hz1)⟩

end Go.Proofs.Ytkibkkdeaojjoab

namespace Go.Proofs.Ytkibkkdeaojjoab
open Go.RowKit
set_option linter.unusedVariables false

set_option maxRecDepth 100000 in
set_option maxHeartbeats 6400000 in
theorem l02Times_any (p : Int) (a b : Option Addr) (m m' : List (List Int)) (ca cb lo tp lo' tp' : Nat) (w : World) (hp : prm p = true) (hm : MatIn lo tp w a m) (hm' : MatIn lo' tp' w b m') (ht : tp ≤ w.heap.size) (ht' : tp' ≤ w.heap.size)
    (hr : Rect p m m'.length) (hr' : Rect p m' (rw' m' 0).length) (h0 : 0 < m'.length) :
    Calls Try.prog 67 #[.int .i64 p, .slice a m.length ca, .slice b m'.length cb] w (NewM (mulM p m m') w) := by
  obtain ⟨i0, hi, hz0, hz1, hz2⟩ := info_parts info64
  obtain ⟨j0, kj, kz0, kz1, kz2⟩ := info_parts info_slice
  have hpb := prm_bd hp
  have HM := Lib.hid hm
  have HM' := Lib.hid hm'
  have HR := Lib.hid hr
  have HR' := Lib.hid hr'
  have hn := hr.rows
  have hn' := hr.cols
  obtain ⟨bb, bo, r0, c0, hb, _, hbt, hr0, _⟩ := HM'.out.row h0
  subst hb
  rw [Nat.add_zero] at hr0
  have hbw : bb < w.heap.size := Nat.lt_of_lt_of_le hbt ht'
  obtain ⟨c, hcc⟩ : ∃ c, c = (rw' m' 0).length := ⟨_, rfl⟩
  have hc' : c ≤ 1024 := by rw [hcc]; exact hr'.cols
  rw [← hcc] at hr0
  have HCC := Lib.hid hcc
  have HNP : Hid (∀ i j, i < m.length → j < m'.length → 0 ≤ at' m i j ∧ at' m i j < p) := fun i j hi hj => HR.out.at hi hj
  have HNQ : Hid (∀ j k, j < m'.length → k < c → 0 ≤ at' m' j k ∧ at' m' j k < p) := fun j k hj hk => HR'.out.at hj (by rw [← HCC.out]; exact hk)
  clear hm hm' hp hr hr' hcc
  go_enter Try.func67, Try.ntmps67
  go_wp2
  go_loopw [7, 8] (fun v t wr => ∃ i : Nat, i ≤ m.length ∧ t = .int .i64 i ∧ OutM w.heap.size wr v (mk i c fun i k => sm m'.length (fun j => at' m i j * at' m' j k) % p) ∧ Below w.heap.size w wr) (fun _ t _ => m.length - (intOf t).toNat)
  case atStart => exact ⟨0, Nat.zero_le _, rfl, OutM.start w _ _ (Nat.le_refl _) rfl, by ((repeat' (first | with_reducible exact Below.refl _ _ | (with_reducible refine Below.setCell ?_ ?_ _) | (with_reducible refine Below.alloc ?_ ?_ _) | (with_reducible refine Below.drew ?_))); all_goals (first | (simp; done) | omega | (simp; omega)))⟩
  case round =>
    obtain ⟨i, hi', rfl, ho, hbel⟩ := hrel
    have HO := Lib.hid ho
    have HBEL := Lib.hid hbel
    have hwz := hbel.size
    rename World => wo
    clear ho hbel
    by_cases hlt : i < m.length
    · go_wp2
      go_loopw [9, 10] (fun v t wr => ∃ k : Nat, k ≤ c ∧ t = .int .i64 k ∧ OutR wo.heap.size wr v (mkR k fun k => sm m'.length (fun j => at' m i j * at' m' j k) % p) ∧ Below wo.heap.size wo wr) (fun _ t _ => c - (intOf t).toNat)
      case atStart => exact ⟨0, Nat.zero_le _, rfl, OutR.start wo _ _ (Nat.le_refl _) rfl, by ((repeat' (first | with_reducible exact Below.refl _ _ | (with_reducible refine Below.setCell ?_ ?_ _) | (with_reducible refine Below.alloc ?_ ?_ _) | (with_reducible refine Below.drew ?_))); all_goals (first | (simp; done) | omega | (simp; omega)))⟩
      case round =>
        obtain ⟨k, hk, rfl, hom, hbm⟩ := hrel
        have HOM := Lib.hid hom
        have HBM := Lib.hid hbm
        have hwm := hbm.size
        have hbwm := HBEL.out.trans (hbm.mono hwz)
        have HBWM := Lib.hid hbwm
        have hr0m := (hbwm.cell (p := ⟨bb, bo, none⟩) hbw).trans hr0
        rename World => wm
        clear hom hbm hbwm hr0
        by_cases hltk : k < c
        · have hk1 : (k : Int) < (c : Int) := by omega
          go_wp2
          go_loopw [11, 12] (fun s t wr => ∃ j : Nat, j ≤ m'.length ∧ s = .int .i64 (sm j (fun j => at' m i j * at' m' j k) % p) ∧ t = .int .i64 j ∧ Quiet wm wr) (fun _ t _ => m'.length - (intOf t).toNat)
          case atStart => exact ⟨0, Nat.zero_le _, by simp [sm], rfl, Quiet.refl _⟩
          case round =>
            obtain ⟨j, hj, rfl, rfl, hq⟩ := hrel
            have HQ := Lib.hid hq
            have HB3 := Lib.hid (HBWM.out.trans (hq.below _))
            clear hr0m
            by_cases hltj : j < m'.length
            · obtain ⟨b1, o1, r1, c1, ha1, _, _, hr1, hrow1⟩ := (HM.out.below HB3.out ht).row hlt
              subst ha1
              obtain ⟨b2, o2, ha2, _, _, hc1o⟩ := hrow1.num (j := j) (by rw [HR.out.len i hlt]; exact hltj)
              subst ha2
              obtain ⟨b3, o3, r3, c3, ha3, _, _, hr3, hrow3⟩ := (HM'.out.below HB3.out ht').row hltj
              cases ha3
              obtain ⟨b4, o4, ha4, _, _, hc3o⟩ := hrow3.num (j := k) (by rw [HR'.out.len j hltj, ← HCC.out]; exact hltk)
              subst ha4
              rw [HR.out.len i hlt] at hr1
              rw [HR'.out.len j hltj, ← HCC.out] at hr3
              obtain ⟨x0, x1⟩ := HNP.out i j hlt hltj
              obtain ⟨y0, y1⟩ := HNQ.out j k hltj hltk
              have hst : (sm j (fun j => at' m i j * at' m' j k) % p + at' m i j * at' m' j k) % p = sm (j + 1) (fun j => at' m i j * at' m' j k) % p := by rw [add_mod']; rfl
              have d0 := Int.emod_nonneg (sm j (fun j => at' m i j * at' m' j k)) (by omega : p ≠ 0)
              have d1 := Int.emod_lt_of_pos (sm j (fun j => at' m i j * at' m' j k)) (by omega : 0 < p)
              have hc1 : wr.cell? ⟨b2, o2 + j, none⟩ = some (.int .i64 (at' m i j)) := hc1o
              have hc3 : wr.cell? ⟨b4, o4 + k, none⟩ = some (.int .i64 (at' m' j k)) := hc3o
              clear hc1o hc3o
              obtain ⟨x, hx⟩ : ∃ x, x = at' m i j := ⟨_, rfl⟩
              obtain ⟨y, hy⟩ : ∃ y, y = at' m' j k := ⟨_, rfl⟩
              obtain ⟨d, hd⟩ : ∃ d, d = sm j (fun j => at' m i j * at' m' j k) % p := ⟨_, rfl⟩
              rw [← hx] at hc1 x0 x1 hst
              rw [← hy] at hc3 y0 y1 hst
              rw [← hd] at d0 d1 hst
              rw [← hd]
              have HS := Lib.hid hst
              clear hx hy hd hst hq hrow1 hrow3
              obtain ⟨m0, m1⟩ := mul_bd' hpb.2 x0 x1 y0 y1
              have hi1 : (i : Int) < (m.length : Int) := by omega
              have hj1 : (j : Int) < (m'.length : Int) := by omega
              have e1 : IntKind.i64.wrap (x * y) = x * y := IntWalk.i64_in _ (by omega)
              have e2 : IntKind.i64.wrap (d + x * y) = d + x * y := IntWalk.i64_in _ (by omega)
              have e3 : (d + x * y).tmod p = (d + x * y) % p := Int.tmod_eq_emod_of_nonneg (by omega)
              have hp0 : ¬ p = 0 := by omega
              have hp1 : (p == 0) = false := by simpa using hp0
              go_wp2
              go_quiet (fail)
              clear e1 e2 e3
              go_wp2
              go_roundw
              case rel => exact ⟨j + 1, by omega, by rw [HS.out], by go_num, HQ.out.next _⟩
              case measure => simp [intOf]; omega
            · have hn : j = m'.length := by omega
              subst hn
              have HS : Hid (mkR (k + 1) (fun k => sm m'.length (fun j => at' m i j * at' m' j k) % p) = mkR k (fun k => sm m'.length (fun j => at' m i j * at' m' j k) % p) ++ [sm m'.length (fun j => at' m i j * at' m' j k) % p]) := mkR_succ _ _
              obtain ⟨x, hx⟩ : ∃ x, x = sm m'.length (fun j => at' m i j * at' m' j k) % p := ⟨_, rfl⟩
              rw [← hx] at HS
              rw [← hx]
              obtain ⟨X, hX⟩ : ∃ X, X = (mkR k (fun k => sm m'.length (fun j => at' m i j * at' m' j k) % p)).map (Value.int .i64) := ⟨_, rfl⟩
              have HX := Lib.hid hX
              have HO2 : Hid (wr.ownsRow wo.heap.size 2 1 u9 k X) := by
                have := HOM.out.below (HQ.out.below _); unfold OutR at this; rw [mkR_len, ← hX] at this; exact this
              have hwr : wo.heap.size ≤ wr.heap.size := Nat.le_trans hwm (Nat.le_of_eq hq.size.symm)
              clear hX hx hq
              go_wp2_with (at_builtin; refine wpList_append_lies _ rfl _ _ 22 rfl wo.heap.size 2 i0 (.int .i64 0) 1 8 Try.underlying22 hi hz0 hz1 hz2 rfl (by decide) u9 k X rfl (HO2.out.alloc _) ⟨wr.heap.size, 0, none⟩ 1 1 [.int .i64 x] rfl rfl (World.news_of_block (cs := #[.int .i64 x]) (t := 2) (fr := (0, 0)) (heap_alloc_new wr _)) (by simp [Value.oneCell']) (by omega) (by unfold maxLen; omega) (by omega) (by simp; omega) (wr.heap.size + 1) (by simp) ?_; intro gg cap w1 hown1 hgrow hat hlt1)
              go_wp2
              go_roundw
              case rel => exact ⟨k + 1, by omega, by go_num, OutR.step HO2.out HX.out HS.out hown1, ((HBM.out.trans (HQ.out.below _)).alloc hwr _).grown hgrow (by simp; omega) (fun _ hk => (HO2.out.lt _ hk).1)⟩
              case measure => simp [intOf]; omega
        · have hn : k = c := by omega
          subst hn
          obtain ⟨r, cp, hv, htag⟩ := HOM.out.tag
          rw [mkR_len] at hv
          subst hv
          obtain ⟨vals, hvo, hvr⟩ := HO.out.below HBM.out
          rw [mk_len] at hvo hvr
          have HV := Lib.hid hvo
          have HVR := Lib.hid hvr
          have HT := Lib.hid htag
          clear hvo hvr htag
          go_wp2_with (at_builtin; refine wpList_append_lies _ rfl _ _ 25 rfl w.heap.size 22 j0 (.slice none 0 0) 1 24 Try.underlying25 kj kz0 kz1 kz2 rfl (by decide) u7 i vals rfl (HV.out.alloc _) ⟨wm.heap.size, 0, none⟩ 1 1 [.slice r k cp] rfl rfl (World.news_of_block (cs := #[.slice r k cp]) (t := 22) (fr := (0, 0)) (heap_alloc_new wm _)) (by simp [Value.oneCell']) (by omega) (by unfold maxLen; omega) (by omega) (by simp; omega) (wm.heap.size + 1) (by simp) ?_; intro gg cap w1 hown1 hgrow hat hlt1)
          go_wp2
          go_roundw
          case rel => exact ⟨i + 1, by omega, by go_num, OutM.next HV.out HVR.out HT.out rfl hwz hown1 hgrow, (HBWM.out.alloc (by omega) _).grown hgrow (by simp; omega) (fun _ hk => (HV.out.lt _ hk).1)⟩
          case measure => simp [intOf]; omega
    · have hn : i = m.length := by omega
      subst hn
      have HE : Hid (mulM p m m' = mk m.length c fun i k => sm m'.length (fun j => at' m i j * at' m' j k) % p) := by show mulM p m m' = _; unfold mulM; rw [← HCC.out]
      go_wp2
      go_ret
      rw [HE.out]
      exact HO.out.new HBEL.out

end Go.Proofs.Ytkibkkdeaojjoab
