/-
  Products of matrices, in the program and in the model: contracts.
  Conditions: the matrices are rows of rows of known cells with numbers of the prime; their sizes fit.
-/
import Derived.Test.YtckndpoklimnbaaDots
namespace Go.Proofs.Ytckndpoklimnbaa
open Go.RowKit Go.ChangeShapes Go.WideShapes
set_option linter.unusedVariables false

/-- Rows of c numbers of the prime, at most 1024 of at most 1024. -/
structure Rect (p : Int) (m : List (List Int)) (c : Nat) : Prop where
  rows : m.length ≤ 1024
  cols : c ≤ 1024
  len : ∀ i, i < m.length → (rw' m i).length = c
  num : ∀ i, i < m.length → Nums p (rw' m i)
theorem Rect.at {p : Int} {m : List (List Int)} {c : Nat} (h : Rect p m c) {i j : Nat} (hi : i < m.length) (hj : j < c) : 0 ≤ at' m i j ∧ at' m i j < p := h.num i hi j (by rw [h.len i hi]; exact hj)
theorem Rect.tr {p : Int} {m : List (List Int)} {c : Nat} (h : Rect p m c) (hc : c = (rw' m 0).length) : Rect p (trM m) m.length where
  rows := by unfold trM; rw [mk_len, ← hc]; exact h.cols
  cols := h.rows
  len i hi := by unfold trM at hi ⊢; rw [mk_len] at hi; exact mk_rowLen _ hi
  num i hi j hj := by
    unfold trM at hi hj ⊢
    rw [mk_len] at hi
    rw [mk_rowLen _ hi] at hj
    have : (rw' (Go.Proofs.Ytckndpoklimnbaa.mk (rw' m 0).length m.length fun k i => at' m i k) i).getD j 0 = at' m j i := mk_at _ hi hj
    rw [this]; exact h.at hj (by rw [hc]; exact hi)

theorem mul_row {p : Int} {a b : List (List Int)} {i : Nat} (hi : i < a.length) (hb : Rect p b (rw' b 0).length) : rw' (mulM p a b) i = appV p (trM b) (rw' a i) := by
  unfold mulM appV
  rw [mk_row _ hi]
  have e : (trM b).length = (rw' b 0).length := by unfold trM; rw [mk_len]
  rw [e]
  apply mkR_congr
  intro k hk
  have e2 : (rw' (trM b) k).length = b.length := by unfold trM; rw [mk_rowLen _ hk]
  rw [e2]
  congr 1
  unfold sdot
  apply sm_congr
  intro j hj
  have e3 : (rw' (trM b) k).getD j 0 = at' b j k := by unfold trM; exact mk_at _ hk hj
  rw [e3, Int.mul_comm]; rfl

set_option maxHeartbeats 1600000 in
theorem timesVector_any (p : Int) (a b : Option Addr) (m : List (List Int)) (v : List Int) (ca cb lo tp lo' tp' : Nat) (w : World) (hp : prm p = true) (hm : MatIn lo tp w a m) (hv : RowIn lo' tp' w b v) (ht : tp ≤ w.heap.size) (ht' : tp' ≤ w.heap.size)
    (hr : Rect p m v.length) (hnb : Nums p v) :
    Calls Try.prog 77 #[.int .i64 p, .slice a m.length ca, .slice b v.length cb] w (Copied (appV p m v) w) := by
  have HP := Lib.hid hp
  have HM := Lib.hid hm
  have HV := Lib.hid hv
  have HR := Lib.hid hr
  have HNB := Lib.hid hnb
  have hn := hr.rows
  have hvl := hr.cols
  have hZ : (appV p m v).length = m.length := mkR_len _ _
  have HZ := Lib.hid hZ
  obtain ⟨Z, hZe⟩ : ∃ Z, Z = appV p m v := ⟨_, rfl⟩
  rw [← hZe] at hZ
  rw [← hZe]
  have HZE := Lib.hid hZe
  have HZL := Lib.hid hZ
  have hmk := fun W => run_make_row' (P := Try.prog) 33 2 (.int .i64 0) 8 Try.underlying33 info64 rfl .i64 .i64 m.length (by omega) (by omega) W
  clear hm hv hnb hp hr hZ hZe
  go_enter Try.func77, Try.ntmps77
  go_wp2
  clear hmk
  go_loopw [15] (fun t wr => ∃ i : Nat, i ≤ m.length ∧ t = .int .i64 i ∧ Half wr w.heap.size i Z ∧ Below w.heap.size w wr) (fun t _ => m.length - (intOf t).toNat)
  case atStart => exact ⟨0, Nat.zero_le _, rfl, by have := Half.start w Z 2; rw [HZL.out] at this; exact this, by ((repeat' (first | with_reducible exact Below.refl _ _ | (with_reducible refine Below.setCell ?_ ?_ _) | (with_reducible refine Below.alloc ?_ ?_ _) | (with_reducible refine Below.drew ?_))); all_goals (first | (simp; done) | omega | (simp; omega)))⟩
  case round =>
    obtain ⟨i, hi, rfl, hh, hbel⟩ := hrel
    have HH := Lib.hid hh
    have HBEL := Lib.hid hbel
    by_cases hlt : i < m.length
    · obtain ⟨b1, o1, r, c1, ha1, _, hb1, hr1, hrow⟩ := (HM.out.below hbel ht).row hlt
      subst ha1
      have HROW := Lib.hid hrow
      have HVW := Lib.hid (HV.out.below hbel ht')
      have hlen := HR.out.len i hlt
      have HLen := Lib.hid hlen
      have hx0 : Z.getD i 0 = sdot (rw' m i) v (rw' m i).length % p := by rw [HZE.out]; exact mkR_at _ hlt
      have HX := Lib.hid hx0
      obtain ⟨x, hx⟩ : ∃ x, x = sdot (rw' m i) v (rw' m i).length % p := ⟨_, rfl⟩
      have HX' := Lib.hid hx
      have hsz := hh.lt
      have g0 := hh.rest i (Nat.le_refl _) (by rw [HZL.out]; exact hlt)
      have f0 := hh.free i
      clear hx hx0 hrow hbel hh hlen
      go_wp2_with (go_at_call 100; (with_reducible refine (dotI _ _ _ _ _ _ _ lo tp lo' tp' _ HP.out HROW.out HVW.out (by rw [HLen.out]; exact Nat.le_refl _) (by rw [HLen.out]; omega) (HR.out.num i hlt) HNB.out).mono ?_); rintro e w2 ⟨rfl, hq2⟩; have HQ2 := Lib.hid hq2; have g2 := (hq2.cell _).trans g0; have f2 := (((hq2.same 0 (w.heap.size + 1)).frozen (p := ⟨w.heap.size, i, none⟩) (Nat.zero_le _) (Nat.lt_succ_self _))).trans f0; rw [← HX'.out]; clear hq2)
      go_roundw
      case rel => exact ⟨i + 1, by omega, by go_num, by
        have := (HH.out.quiet HQ2.out).next (by rw [HZL.out]; exact hlt)
        rw [HX.out, ← HX'.out] at this; exact this, (HBEL.out.trans (HQ2.out.below _)).setCell (Nat.le_refl _) _⟩
      case measure => simp [intOf]; omega
    · have hn : i = m.length := by omega
      subst hn
      clear hbel hh
      go_wp2
      go_ret
      exact ⟨by rw [HZL.out]; rfl, HBEL.out, HH.out.lt, .inr ⟨_, 0, rfl, Nat.le_refl _, HH.out.lt, fun j hj => ⟨by rw [Nat.zero_add]; exact HH.out.done j (by rw [HZL.out] at hj; omega), by rw [Nat.zero_add]; exact HH.out.free j⟩⟩⟩

set_option maxRecDepth 100000 in
set_option maxHeartbeats 1600000 in
theorem timesMatrix_any (p : Int) (a b : Option Addr) (m m' : List (List Int)) (ca cb lo tp lo' tp' : Nat) (w : World) (hp : prm p = true) (hm : MatIn lo tp w a m) (hm' : MatIn lo' tp' w b m') (ht : tp ≤ w.heap.size) (ht' : tp' ≤ w.heap.size)
    (hr : Rect p m m'.length) (hr' : Rect p m' (rw' m' 0).length) (h0 : 0 < m'.length) :
    Calls Try.prog 73 #[.int .i64 p, .slice a m.length ca, .slice b m'.length cb] w (OwnNew (mulM p m m') w) := by
  have HP := Lib.hid hp
  have HM := Lib.hid hm
  have HM' := Lib.hid hm'
  have HR := Lib.hid hr
  have HR' := Lib.hid hr'
  have hn := hr.rows
  have hn' := hr.cols
  have hc' := hr'.cols
  have hRT := hr'.tr rfl
  have HRT := Lib.hid hRT
  have hZ : (mulM p m m').length = m.length := mk_len _ _ _
  obtain ⟨Z, hZe⟩ : ∃ Z, Z = mulM p m m' := ⟨_, rfl⟩
  rw [← hZe] at hZ
  rw [← hZe]
  have HZE := Lib.hid hZe
  have HZL := Lib.hid hZ
  have hmk := fun W => run_make_row' (P := Try.prog) 22 33 (.slice none 0 0) 24 Try.underlying22 info_slice rfl .i64 .i64 m.length (by omega) (by omega) W
  clear hm hm' hp hr hr' hZ hZe hRT
  go_enter Try.func73, Try.ntmps73
  go_wp2_with (go_at_call 64; (with_reducible refine (transposed_any _ _ _ lo' tp' _ HM'.out ht' h0 HR'.out.len (by omega) (by omega)).mono ?_); rintro e w1 ⟨r1, k1, rfl, ho1, hb1⟩; have HO1 := Lib.hid ho1; have HB1 := Lib.hid hb1; have hz1 := hb1.size; clear ho1 hb1)
  clear hmk
  go_loopw [18] (fun t wr => ∃ i : Nat, i ≤ m.length ∧ t = .int .i64 i ∧ (∃ B, HalfM wr w1.heap.size i Z B) ∧ Below w1.heap.size w1 wr) (fun t _ => m.length - (intOf t).toNat)
  case atStart => exact ⟨0, Nat.zero_le _, rfl, ⟨fun _ => 0, by have := HalfM.start w1 Z 33 (fun _ => 0); rw [HZL.out] at this; exact this⟩, by ((repeat' (first | with_reducible exact Below.refl _ _ | (with_reducible refine Below.setCell ?_ ?_ _) | (with_reducible refine Below.alloc ?_ ?_ _) | (with_reducible refine Below.drew ?_))); all_goals (first | (simp; done) | omega | (simp; omega)))⟩
  case round =>
    obtain ⟨i, hi, rfl, ⟨B, hh⟩, hbel⟩ := hrel
    have HH := Lib.hid hh
    have HBEL := Lib.hid hbel
    have hbw := HB1.out.trans (hbel.mono hz1)
    have hz2 := hbel.size
    by_cases hlt : i < m.length
    · obtain ⟨b2, o2, r, c2, ha2, _, hb2, hr2, hrow⟩ := (HM.out.below hbw ht).row hlt
      subst ha2
      have HROW := Lib.hid hrow
      have HCOL := Lib.hid (HO1.out.mat.below hbel (Nat.le_refl _))
      have hlen := HR.out.len i hlt
      have HLen := Lib.hid hlen
      have hx0 : rw' Z i = appV p (trM m') (rw' m i) := by rw [HZE.out]; exact mul_row hlt HR'.out
      have HX := Lib.hid hx0
      have hsz := hh.lt
      have g0 := hh.rest i (Nat.le_refl _) (by rw [HZL.out]; exact hlt)
      have f0 := hh.free i
      clear hx0 hrow hbel hh hlen hbw
      go_wp2_with (go_at_call 77; (with_reducible refine (timesVector_any _ _ _ _ _ _ _ w.heap.size w1.heap.size lo tp _ HP.out HCOL.out HROW.out (by omega) (by omega) (by rw [HLen.out]; exact HRT.out) (HR.out.num i hlt)).mono ?_); rintro e w2 ⟨rfl, hb3, hs3, ho3⟩; rw [← HX.out] at ho3; rw [← HX.out]; have HO3 := Lib.hid ho3; have HB3 := Lib.hid hb3; have g2 := (hb3.cell (p := ⟨w1.heap.size, i, none⟩) hsz).trans g0; have f2 := (hb3.frozen (p := ⟨w1.heap.size, i, none⟩) hsz).trans f0; clear ho3 hb3)
      go_roundw
      case rel => exact ⟨i + 1, by omega, by go_num, ⟨_, HH.out.next (by rw [HZL.out]; exact hlt) HB3.out hs3 HO3.out⟩, (HBEL.out.trans (HB3.out.mono hz2)).setCell (Nat.le_refl _) _⟩
      case measure => simp [intOf]; omega
    · have hn : i = m.length := by omega
      subst hn
      clear hbel hh hbw
      have HF : Hid (HalfM wr w1.heap.size Z.length Z B) := by have := HH.out; rw [← HZL.out] at this; exact this
      have hle : w.heap.size ≤ w1.heap.size := hz1
      go_wp2
      go_ret
      exact ⟨_, m.length, by rw [HZL.out]; rfl, HF.out.own.mono (by omega) (Nat.le_refl _), HB1.out.trans (HBEL.out.mono hz1)⟩

end Go.Proofs.Ytckndpoklimnbaa
