/-
  Products of matrices, in the program and in the model: contracts.
  Conditions: the matrices are rows of rows of known cells with numbers of the prime; their sizes fit.
  The model's products of matrices: a contract.
  Conditions: the matrices are rows of rows of known cells with numbers of the prime; their sizes fit.
  TransposeMatrix, in the program and in the model.
  Conditions: the arguments are nil or rows of known cells, of at most 1048576 numbers.
  Traces, in the program and in the model.
  Conditions: the arguments are nil or rows of known cells, of at most 1048576 numbers.
  Powers of matrices, in the program and in the model.
  Conditions: the matrix is nil or a row of rows of known cells.
-/
import Derived.Test.YtkibkkdeaojjoabGreatQg10
import Derived.Test.YtkibkkdeaojjoabGreatQg5
import Derived.Test.YtkibkkdeaojjoabGreatQg12
import Derived.Test.YtkibkkdeaojjoabGreatQg29
import Derived.Test.YtkibkkdeaojjoabGreatQg23
namespace Go.Proofs.YtkibkkdeaojjoabGreat
open Go.RowKit Go.ChangeShapes Go.WideShapes
set_option linter.unusedVariables false

set_option maxRecDepth 100000 in
set_option maxHeartbeats 1600000 in
theorem timesMatrix_any (p : Int) (a b : Option Addr) (m m' : List (List Int)) (ca cb lo tp lo' tp' : Nat) (w : World) (hp : prm p = true) (hm : MatIn lo tp w a m) (hm' : MatIn lo' tp' w b m') (ht : tp ≤ w.heap.size) (ht' : tp' ≤ w.heap.size)
    (hr : Rect p m m'.length) (hr' : Rect p m' (rw' m' 0).length) (h0 : 0 < m'.length) :
    Calls Tryz.prog 69 #[.int .i64 p, .slice a m.length ca, .slice b m'.length cb] w (OwnNew (mulM p m m') w) := by
  have HP := Lib.hid hp
  have HM := Lib.hid hm
  have HM' := Lib.hid hm'
  have HR := Lib.hid hr
  have HR' := Lib.hid hr'
  have hn := hr.rows
  have hn' := hr.cols
  have hc' := hr'.cols
  have hRT := hr'.tr rfl
  have HRT := Lib.hid hRT
  have hZ : (mulM p m m').length = m.length := mk_len _ _ _
  obtain ⟨Z, hZe⟩ : ∃ Z, Z = mulM p m m' := ⟨_, rfl⟩
  rw [← hZe] at hZ
  rw [← hZe]
  have HZE := Lib.hid hZe
  have HZL := Lib.hid hZ
  have hmk := fun W => run_make_row' (P := Tryz.prog) 26 22 (.slice none 0 0) 24 Tryz.underlying26 info_slice rfl .i64 .i64 m.length (by omega) (by omega) W
  clear hm hm' hp hr hr' hZ hZe hRT
  go_enter Tryz.func69, Tryz.ntmps69
  go_wp2_with (go_at_call 50; (with_reducible refine (transposed_any _ _ _ lo' tp' _ HM'.out ht' h0 HR'.out.len (by omega) (by omega)).mono ?_); rintro e w1 ⟨r1, k1, rfl, ho1, hb1⟩; have HO1 := Lib.hid ho1; have HB1 := Lib.hid hb1; have hz1 := hb1.size; clear ho1 hb1)
  clear hmk
  go_loopw [18] (fun t wr => ∃ i : Nat, i ≤ m.length ∧ t = .int .i64 i ∧ (∃ B, HalfM wr w1.heap.size i Z B) ∧ Below w1.heap.size w1 wr) (fun t _ => m.length - (intOf t).toNat)
  case atStart => exact ⟨0, Nat.zero_le _, rfl, ⟨fun _ => 0, by have := HalfM.start w1 Z 22 (fun _ => 0); rw [HZL.out] at this; exact this⟩, by ((repeat' (first | with_reducible exact Below.refl _ _ | (with_reducible refine Below.setCell ?_ ?_ _) | (with_reducible refine Below.alloc ?_ ?_ _) | (with_reducible refine Below.drew ?_))); all_goals (first | (simp; done) | omega | (simp; omega)))⟩
  case round =>
    obtain ⟨i, hi, rfl, ⟨B, hh⟩, hbel⟩ := hrel
    have HH := Lib.hid hh
    have HBEL := Lib.hid hbel
    have hbw := HB1.out.trans (hbel.mono hz1)
    have hz2 := hbel.size
    by_cases hlt : i < m.length
    · obtain ⟨b2, o2, r, c2, ha2, _, hb2, hr2, hrow⟩ := (HM.out.below hbw ht).row hlt
      subst ha2
      have HROW := Lib.hid hrow
      have HCOL := Lib.hid (HO1.out.mat.below hbel (Nat.le_refl _))
      have hlen := HR.out.len i hlt
      have HLen := Lib.hid hlen
      have hx0 : rw' Z i = appV p (trM m') (rw' m i) := by rw [HZE.out]; exact mul_row hlt HR'.out
      have HX := Lib.hid hx0
      have hsz := hh.lt
      have g0 := hh.rest i (Nat.le_refl _) (by rw [HZL.out]; exact hlt)
      have f0 := hh.free i
      clear hx0 hrow hbel hh hlen hbw
      go_wp2_with (go_at_call 93; (with_reducible refine (timesVector_any _ _ _ _ _ _ _ w.heap.size w1.heap.size lo tp _ HP.out HCOL.out HROW.out (by omega) (by omega) (by rw [HLen.out]; exact HRT.out) (HR.out.num i hlt)).mono ?_); rintro e w2 ⟨rfl, hb3, hs3, ho3⟩; rw [← HX.out] at ho3; rw [← HX.out]; have HO3 := Lib.hid ho3; have HB3 := Lib.hid hb3; have g2 := (hb3.cell (p := ⟨w1.heap.size, i, none⟩) hsz).trans g0; have f2 := (hb3.frozen (p := ⟨w1.heap.size, i, none⟩) hsz).trans f0; clear ho3 hb3)
      go_roundw
      case rel => exact ⟨i + 1, by omega, by go_num, ⟨_, HH.out.next (by rw [HZL.out]; exact hlt) HB3.out hs3 HO3.out⟩, (HBEL.out.trans (HB3.out.mono hz2)).setCell (Nat.le_refl _) _⟩
      case measure => simp [intOf]; omega
    · have hn : i = m.length := by omega
      subst hn
      clear hbel hh hbw
      have HF : Hid (HalfM wr w1.heap.size Z.length Z B) := by have := HH.out; rw [← HZL.out] at this; exact this
      have hle : w.heap.size ≤ w1.heap.size := hz1
      go_wp2
      go_ret
      exact ⟨_, m.length, by rw [HZL.out]; rfl, HF.out.own.mono (by omega) (Nat.le_refl _), HB1.out.trans (HBEL.out.mono hz1)⟩

end Go.Proofs.YtkibkkdeaojjoabGreat

namespace Go.Proofs.YtkibkkdeaojjoabGreat
open Go.RowKit
set_option linter.unusedVariables false

set_option maxRecDepth 100000 in
set_option maxHeartbeats 6400000 in
theorem l02Times_any (p : Int) (a b : Option Addr) (m m' : List (List Int)) (ca cb lo tp lo' tp' : Nat) (w : World) (hp : prm p = true) (hm : MatIn lo tp w a m) (hm' : MatIn lo' tp' w b m') (ht : tp ≤ w.heap.size) (ht' : tp' ≤ w.heap.size)
    (hr : Rect p m m'.length) (hr' : Rect p m' (rw' m' 0).length) (h0 : 0 < m'.length) :
    Calls Tryz.prog 63 #[.int .i64 p, .slice a m.length ca, .slice b m'.length cb] w (NewM (mulM p m m') w) := by
  obtain ⟨i0, hi, hz0, hz1, hz2⟩ := info_parts info64
  obtain ⟨j0, kj, kz0, kz1, kz2⟩ := info_parts info_slice
  have hpb := prm_bd hp
  have HM := Lib.hid hm
  have HM' := Lib.hid hm'
  have HR := Lib.hid hr
  have HR' := Lib.hid hr'
  have hn := hr.rows
  have hn' := hr.cols
  obtain ⟨bb, bo, r0, c0, hb, _, hbt, hr0, _⟩ := HM'.out.row h0
  subst hb
  rw [Nat.add_zero] at hr0
  have hbw : bb < w.heap.size := Nat.lt_of_lt_of_le hbt ht'
  obtain ⟨c, hcc⟩ : ∃ c, c = (rw' m' 0).length := ⟨_, rfl⟩
  have hc' : c ≤ 1024 := by rw [hcc]; exact hr'.cols
  rw [← hcc] at hr0
  have HCC := Lib.hid hcc
  have HNP : Hid (∀ i j, i < m.length → j < m'.length → 0 ≤ at' m i j ∧ at' m i j < p) := fun i j hi hj => HR.out.at hi hj
  have HNQ : Hid (∀ j k, j < m'.length → k < c → 0 ≤ at' m' j k ∧ at' m' j k < p) := fun j k hj hk => HR'.out.at hj (by rw [← HCC.out]; exact hk)
  clear hm hm' hp hr hr' hcc
  go_enter Tryz.func63, Tryz.ntmps63
  go_wp2
  go_loopw [7, 8] (fun v t wr => ∃ i : Nat, i ≤ m.length ∧ t = .int .i64 i ∧ OutM w.heap.size wr v (mk i c fun i k => sm m'.length (fun j => at' m i j * at' m' j k) % p) ∧ Below w.heap.size w wr) (fun _ t _ => m.length - (intOf t).toNat)
  case atStart => exact ⟨0, Nat.zero_le _, rfl, OutM.start w _ _ (Nat.le_refl _) rfl, by ((repeat' (first | with_reducible exact Below.refl _ _ | (with_reducible refine Below.setCell ?_ ?_ _) | (with_reducible refine Below.alloc ?_ ?_ _) | (with_reducible refine Below.drew ?_))); all_goals (first | (simp; done) | omega | (simp; omega)))⟩
  case round =>
    obtain ⟨i, hi', rfl, ho, hbel⟩ := hrel
    have HO := Lib.hid ho
    have HBEL := Lib.hid hbel
    have hwz := hbel.size
    rename World => wo
    clear ho hbel
    by_cases hlt : i < m.length
    · go_wp2
      go_loopw [9, 10] (fun v t wr => ∃ k : Nat, k ≤ c ∧ t = .int .i64 k ∧ OutR wo.heap.size wr v (mkR k fun k => sm m'.length (fun j => at' m i j * at' m' j k) % p) ∧ Below wo.heap.size wo wr) (fun _ t _ => c - (intOf t).toNat)
      case atStart => exact ⟨0, Nat.zero_le _, rfl, OutR.start wo _ _ (Nat.le_refl _) rfl, by ((repeat' (first | with_reducible exact Below.refl _ _ | (with_reducible refine Below.setCell ?_ ?_ _) | (with_reducible refine Below.alloc ?_ ?_ _) | (with_reducible refine Below.drew ?_))); all_goals (first | (simp; done) | omega | (simp; omega)))⟩
      case round =>
        obtain ⟨k, hk, rfl, hom, hbm⟩ := hrel
        have HOM := Lib.hid hom
        have HBM := Lib.hid hbm
        have hwm := hbm.size
        have hbwm := HBEL.out.trans (hbm.mono hwz)
        have HBWM := Lib.hid hbwm
        have hr0m := (hbwm.cell (p := ⟨bb, bo, none⟩) hbw).trans hr0
        rename World => wm
        clear hom hbm hbwm hr0
        by_cases hltk : k < c
        · have hk1 : (k : Int) < (c : Int) := by omega
          go_wp2
          go_loopw [11, 12] (fun s t wr => ∃ j : Nat, j ≤ m'.length ∧ s = .int .i64 (sm j (fun j => at' m i j * at' m' j k) % p) ∧ t = .int .i64 j ∧ Quiet wm wr) (fun _ t _ => m'.length - (intOf t).toNat)
          case atStart => exact ⟨0, Nat.zero_le _, by simp [sm], rfl, Quiet.refl _⟩
          case round =>
            obtain ⟨j, hj, rfl, rfl, hq⟩ := hrel
            have HQ := Lib.hid hq
            have HB3 := Lib.hid (HBWM.out.trans (hq.below _))
            clear hr0m
            by_cases hltj : j < m'.length
            · obtain ⟨b1, o1, r1, c1, ha1, _, _, hr1, hrow1⟩ := (HM.out.below HB3.out ht).row hlt
              subst ha1
              obtain ⟨b2, o2, ha2, _, _, hc1o⟩ := hrow1.num (j := j) (by rw [HR.out.len i hlt]; exact hltj)
              subst ha2
              obtain ⟨b3, o3, r3, c3, ha3, _, _, hr3, hrow3⟩ := (HM'.out.below HB3.out ht').row hltj
              cases ha3
              obtain ⟨b4, o4, ha4, _, _, hc3o⟩ := hrow3.num (j := k) (by rw [HR'.out.len j hltj, ← HCC.out]; exact hltk)
              subst ha4
              rw [HR.out.len i hlt] at hr1
              rw [HR'.out.len j hltj, ← HCC.out] at hr3
              obtain ⟨x0, x1⟩ := HNP.out i j hlt hltj
              obtain ⟨y0, y1⟩ := HNQ.out j k hltj hltk
              have hst : (sm j (fun j => at' m i j * at' m' j k) % p + at' m i j * at' m' j k) % p = sm (j + 1) (fun j => at' m i j * at' m' j k) % p := by rw [add_mod']; rfl
              have d0 := Int.emod_nonneg (sm j (fun j => at' m i j * at' m' j k)) (by omega : p ≠ 0)
              have d1 := Int.emod_lt_of_pos (sm j (fun j => at' m i j * at' m' j k)) (by omega : 0 < p)
              have hc1 : wr.cell? ⟨b2, o2 + j, none⟩ = some (.int .i64 (at' m i j)) := hc1o
              have hc3 : wr.cell? ⟨b4, o4 + k, none⟩ = some (.int .i64 (at' m' j k)) := hc3o
              clear hc1o hc3o
              obtain ⟨x, hx⟩ : ∃ x, x = at' m i j := ⟨_, rfl⟩
              obtain ⟨y, hy⟩ : ∃ y, y = at' m' j k := ⟨_, rfl⟩
              obtain ⟨d, hd⟩ : ∃ d, d = sm j (fun j => at' m i j * at' m' j k) % p := ⟨_, rfl⟩
              rw [← hx] at hc1 x0 x1 hst
              rw [← hy] at hc3 y0 y1 hst
              rw [← hd] at d0 d1 hst
              rw [← hd]
              have HS := Lib.hid hst
              clear hx hy hd hst hq hrow1 hrow3
              obtain ⟨m0, m1⟩ := mul_bd' hpb.2 x0 x1 y0 y1
              have hi1 : (i : Int) < (m.length : Int) := by omega
              have hj1 : (j : Int) < (m'.length : Int) := by omega
              have e1 : IntKind.i64.wrap (x * y) = x * y := IntWalk.i64_in _ (by omega)
              have e2 : IntKind.i64.wrap (d + x * y) = d + x * y := IntWalk.i64_in _ (by omega)
              have e3 : (d + x * y).tmod p = (d + x * y) % p := Int.tmod_eq_emod_of_nonneg (by omega)
              have hp0 : ¬ p = 0 := by omega
              have hp1 : (p == 0) = false := by simpa using hp0
              go_wp2
              go_quiet (fail)
              clear e1 e2 e3
              go_wp2
              go_roundw
              case rel => exact ⟨j + 1, by omega, by rw [HS.out], by go_num, HQ.out.next _⟩
              case measure => simp [intOf]; omega
            · have hn : j = m'.length := by omega
              subst hn
              have HS : Hid (mkR (k + 1) (fun k => sm m'.length (fun j => at' m i j * at' m' j k) % p) = mkR k (fun k => sm m'.length (fun j => at' m i j * at' m' j k) % p) ++ [sm m'.length (fun j => at' m i j * at' m' j k) % p]) := mkR_succ _ _
              obtain ⟨x, hx⟩ : ∃ x, x = sm m'.length (fun j => at' m i j * at' m' j k) % p := ⟨_, rfl⟩
              rw [← hx] at HS
              rw [← hx]
              obtain ⟨X, hX⟩ : ∃ X, X = (mkR k (fun k => sm m'.length (fun j => at' m i j * at' m' j k) % p)).map (Value.int .i64) := ⟨_, rfl⟩
              have HX := Lib.hid hX
              have HO2 : Hid (wr.ownsRow wo.heap.size 2 1 u9 k X) := by
                have := HOM.out.below (HQ.out.below _); unfold OutR at this; rw [mkR_len, ← hX] at this; exact this
              have hwr : wo.heap.size ≤ wr.heap.size := Nat.le_trans hwm (Nat.le_of_eq hq.size.symm)
              clear hX hx hq
              go_wp2_with (at_builtin; refine wpList_append_lies _ rfl _ _ 22 rfl wo.heap.size 2 i0 (.int .i64 0) 1 8 Tryz.underlying22 hi hz0 hz1 hz2 rfl (by decide) u9 k X rfl (HO2.out.alloc _) ⟨wr.heap.size, 0, none⟩ 1 1 [.int .i64 x] rfl rfl (World.news_of_block (cs := #[.int .i64 x]) (t := 2) (fr := (0, 0)) (heap_alloc_new wr _)) (by simp [Value.oneCell']) (by omega) (by unfold maxLen; omega) (by omega) (by simp; omega) (wr.heap.size + 1) (by simp) ?_; intro gg cap w1 hown1 hgrow hat hlt1)
              go_wp2
              go_roundw
              case rel => exact ⟨k + 1, by omega, by go_num, OutR.step HO2.out HX.out HS.out hown1, ((HBM.out.trans (HQ.out.below _)).alloc hwr _).grown hgrow (by simp; omega) (fun _ hk => (HO2.out.lt _ hk).1)⟩
              case measure => simp [intOf]; omega
        · have hn : k = c := by omega
          subst hn
          obtain ⟨r, cp, hv, htag⟩ := HOM.out.tag
          rw [mkR_len] at hv
          subst hv
          obtain ⟨vals, hvo, hvr⟩ := HO.out.below HBM.out
          rw [mk_len] at hvo hvr
          have HV := Lib.hid hvo
          have HVR := Lib.hid hvr
          have HT := Lib.hid htag
          clear hvo hvr htag
          go_wp2_with (at_builtin; refine wpList_append_lies _ rfl _ _ 26 rfl w.heap.size 22 j0 (.slice none 0 0) 1 24 Tryz.underlying26 kj kz0 kz1 kz2 rfl (by decide) u7 i vals rfl (HV.out.alloc _) ⟨wm.heap.size, 0, none⟩ 1 1 [.slice r k cp] rfl rfl (World.news_of_block (cs := #[.slice r k cp]) (t := 22) (fr := (0, 0)) (heap_alloc_new wm _)) (by simp [Value.oneCell']) (by omega) (by unfold maxLen; omega) (by omega) (by simp; omega) (wm.heap.size + 1) (by simp) ?_; intro gg cap w1 hown1 hgrow hat hlt1)
          go_wp2
          go_roundw
          case rel => exact ⟨i + 1, by omega, by go_num, OutM.next HV.out HVR.out HT.out rfl hwz hown1 hgrow, (HBWM.out.alloc (by omega) _).grown hgrow (by simp; omega) (fun _ hk => (HV.out.lt _ hk).1)⟩
          case measure => simp [intOf]; omega
    · have hn : i = m.length := by omega
      subst hn
      have HE : Hid (mulM p m m' = mk m.length c fun i k => sm m'.length (fun j => at' m i j * at' m' j k) % p) := by show mulM p m m' = _; unfold mulM; rw [← HCC.out]
      go_wp2
      go_ret
      rw [HE.out]
      exact HO.out.new HBEL.out

end Go.Proofs.YtkibkkdeaojjoabGreat

namespace Go.Proofs.YtkibkkdeaojjoabGreat
open Go.RowKit
set_option linter.unusedVariables false

set_option maxHeartbeats 1600000 in
theorem unitMatrix_any (n : Nat) (w : World) (hn : n ≤ 1024) (h0 : 1 ≤ n) :
    Calls Tryz.prog 53 #[.int .i64 n] w (OwnNew (oneM n) w) := by
  go_enter Tryz.func53, Tryz.ntmps53
  go_wp2_with (go_at_call 75; (with_reducible refine (newMatrix_any n n _ (by omega) (by omega) (by omega)).mono ?_); rintro e w1 ⟨q, rfl, ho1, hb1⟩; have HO1 := Lib.hid ho1; have HB1 := Lib.hid hb1; clear ho1 hb1)
  go_loopw [10] (fun t wr => ∃ i : Nat, i ≤ n ∧ t = .int .i64 i ∧ OwnAt w.heap.size w1.heap.size wr q n (fun _ => n) (fun k j => if k < i ∧ k = j then 1 else 0) ∧ Below w.heap.size w wr ∧ wr.heap.size = w1.heap.size) (fun t _ => n - (intOf t).toNat)
  case atStart => exact ⟨0, Nat.zero_le _, rfl, HO1.out.congr (fun i _ j _ => by simp), HB1.out, rfl⟩
  case round =>
    obtain ⟨i, hi, rfl, ho, hbel, hsz⟩ := hrel
    have HO := Lib.hid ho
    have HBEL := Lib.hid hbel
    have HSZ := Lib.hid hsz
    clear hsz hbel
    by_cases hlt : i < n
    · have ht3 := ho.top i hlt
      have hR := (ho.row i hlt).resolve_left (by omega)
      rw [hR] at ht3
      have hf3 := ho.free i hlt i hlt
      have hrg := ho.rrng i hlt (by omega)
      obtain ⟨y, hy⟩ : ∃ y, wr.cell? ⟨q.B i, q.O i + i, none⟩ = some (.int .i64 y) := ⟨_, ho.cell i hlt i hlt⟩
      have hi1 : (i : Int) < (n : Int) := by omega
      clear ho hR
      go_wp2
      go_roundw
      case rel => exact ⟨i + 1, by omega, by go_num, (HO.out.set hlt hlt 1).congr (fun k hk j _ => by
        by_cases e1 : k = i ∧ j = i
        · obtain ⟨rfl, rfl⟩ := e1
          rw [if_pos ⟨rfl, rfl⟩, if_pos ⟨by omega, rfl⟩]
        · rw [if_neg e1]
          by_cases e2 : k < i ∧ k = j
          · rw [if_pos e2, if_pos ⟨by omega, e2.2⟩]
          · rw [if_neg e2, if_neg (by omega)]), HBEL.out.setCell hrg.1 _, by simpa [World.setCell] using HSZ.out⟩
      case measure => simp [intOf]; omega
    · have hn : i = n := by omega
      subst hn
      have HF := Lib.hid (HO.out.congr (Z' := fun k j => if k = j then 1 else 0) (fun k hk j _ => by
        by_cases e : k = j
        · rw [if_pos ⟨hk, e⟩, if_pos e]
        · rw [if_neg (fun h => e h.2), if_neg e]))
      clear ho
      go_wp2
      go_ret
      exact ⟨_, i, by unfold oneM; rw [mk_len]; rfl, (HF.out.mono (Nat.le_refl _) (by rw [HSZ.out]; exact Nat.le_refl _)).ownM, HBEL.out⟩

/-! ### Powers -/
def pwF (p : Int) : Nat → Nat → List (List Int) → List (List Int) → List (List Int)
  | 0, _, out, _ => out
  | f + 1, k, out, step => if k = 0 then out else pwF p f (k / 2) (if k % 2 = 1 then mulM p out step else out) (mulM p step step)
def powM (p : Int) (m : List (List Int)) (k : Nat) : List (List Int) := pwF p 11 k (oneM m.length) m
/-- A square matrix with n rows of numbers. -/
def Sq (p : Int) (m : List (List Int)) (n : Nat) : Prop := Rect p m n ∧ m.length = n
theorem Sq.one {p : Int} (hp : prm p = true) {n : Nat} (hn : n ≤ 1024) : Sq p (oneM n) n := by
  have := prm_bd hp
  refine ⟨⟨by unfold oneM; rw [mk_len]; exact hn, hn, fun i hi => ?_, fun i hi j hj => ?_⟩, by unfold oneM; rw [mk_len]⟩
  · unfold oneM at hi ⊢; rw [mk_len] at hi; exact mk_rowLen _ hi
  · unfold oneM at hi hj ⊢
    rw [mk_len] at hi
    rw [mk_rowLen _ hi] at hj
    have e : (rw' (mk n n fun i j => if i = j then 1 else 0) i).getD j 0 = if i = j then 1 else 0 := mk_at _ hi hj
    rw [e]; split <;> omega
theorem Sq.size {p : Int} {m : List (List Int)} {n : Nat} (h : Sq p m n) (hn : n ≤ 16) : m.length + tot m m.length ≤ 1048576 := by
  rw [tot_const h.1.len (Nat.le_refl _), h.2]
  have : n * n ≤ 16 * 16 := Nat.mul_le_mul hn hn
  omega
theorem Sq.of {p : Int} {m : List (List Int)} (h : Lst 1 p m) (k : m.length = (rw' m 0).length) : Sq p m m.length := ⟨by rw [k]; have := rect_of h; exact this, rfl⟩
/-- Where a loop of powers stands: f rounds may come. -/
def PwAt (p : Int) (m : List (List Int)) (k0 k f : Nat) (out step : List (List Int)) : Prop :=
  k < 2 ^ f ∧ f ≤ 11 ∧ pwF p f k out step = powM p m k0 ∧ Sq p out m.length ∧ Sq p step m.length
theorem PwAt.start {p : Int} {m : List (List Int)} {k : Nat} (h : Lst 1 p m) (hq : m.length = (rw' m 0).length) (hk : k ≤ 1000) : PwAt p m k k 11 (oneM m.length) m :=
  ⟨by omega, Nat.le_refl _, rfl, Sq.one h.prime (by have := h.hi; omega), Sq.of h hq⟩
theorem Sq.r2 {p : Int} {a b : List (List Int)} {n : Nat} (ha : Sq p a n) (hb : Sq p b n) : Rect p a b.length := by rw [hb.2]; exact ha.1
theorem Sq.r0 {p : Int} {b : List (List Int)} {n : Nat} (hb : Sq p b n) (h0 : 0 < n) : Rect p b (rw' b 0).length ∧ 0 < b.length := by
  rw [hb.1.len 0 (by rw [hb.2]; exact h0), hb.2]; exact ⟨hb.1, h0⟩
end Go.Proofs.YtkibkkdeaojjoabGreat
