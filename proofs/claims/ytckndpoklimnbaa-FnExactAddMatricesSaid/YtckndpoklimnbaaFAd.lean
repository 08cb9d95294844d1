/-
  AddMatrices, in the program.
  Conditions: the arguments are nil or rows of known cells, of at most 1048576 numbers.
-/
import Derived.Test.YtckndpoklimnbaaFAdS
namespace Go.Proofs.Ytckndpoklimnbaa
open Go.RowKit
set_option linter.unusedVariables false

theorem HalfG.start_q {w w' : World} {m : List (List Int)} {k : Nat} {t : TypeId} {A : Nat → Option Addr} {C lo tp : Nat → Nat} (hq : Quiet w w') (hl : m.length = k) : HalfG (w'.alloc (.cells (madeCells #[.slice none 0 0] k) t)) w.heap.size 0 m A C lo tp := by
  obtain ⟨n, rfl⟩ := hq
  subst hl
  exact HalfG.start (w.drewN n) m t A C lo tp
theorem far_cell (w : World) (v : Value) {b c i j : Nat} (h : b ≠ c) : (w.setCell ⟨c, i, none⟩ v).cell? ⟨b, j, none⟩ = w.cell? ⟨b, j, none⟩ := World.cell?_of_block (w := w) (a := ⟨b, j, none⟩) (Below.heap_setCell _ _ _ _ h)
theorem far_same (w : World) (v : Value) {c i lo tp : Nat} (h : tp ≤ c) : Same lo tp w (w.setCell ⟨c, i, none⟩ v) := fun k _ k1 => Below.heap_setCell _ _ _ _ (by show k ≠ c; omega)
theorem checkTwo_b (p : Int) (a a' : Option Addr) (m m' : List (List Int)) (cap cap' lo tp lo' tp' : Nat) (w : World) (t : TypeId) (hm : MatIn lo tp w a m) (ht : tp ≤ w.heap.size) (hs : m.length + tot m m.length ≤ 1048576) (hm' : MatIn lo' tp' w a' m') (ht' : tp' ≤ w.heap.size) (hs' : m'.length + tot m' m'.length ≤ 1048576) :
    Calls Try.prog 63 #[.int .i64 p, .slice (some ⟨w.heap.size, 0, none⟩) 2 2] (w.alloc (.cells #[.slice a m.length cap, .slice a' m'.length cap'] t)) fun e w' => e = .returned (.int .i64 (chk2 p m m')) ∧ Below w.heap.size w w' :=
  (checkTwo_new p a a' m m' cap cap' lo tp lo' tp' w t hm ht hs hm' ht' hs').mono fun e w' ⟨he, hw⟩ => ⟨he, by subst hw; exact (Below.refl _ _).alloc (Nat.le_refl _) _⟩

set_option maxRecDepth 100000 in
set_option maxHeartbeats 3200000 in
theorem impl_AddMatrices (p : Int) (am : Option Addr) (m : List (List Int)) (cm lom tpm : Nat) (an : Option Addr) (n : List (List Int)) (cn lon tpn : Nat) (w : World) (hm : MatIn lom tpm w am m) (tm : tpm ≤ w.heap.size) (sm' : m.length + tot m m.length ≤ 1048576) (hn : MatIn lon tpn w an n) (tn : tpn ≤ w.heap.size) (sn' : n.length + tot n n.length ≤ 1048576) :
    Calls Try.prog 25 #[.int .i64 p, .slice am m.length cm, .slice an n.length cn] w (ImplM (adV p m n) (adC p m n) w) := by
  have Hm := Lib.hid hm
  have Sm := Lib.hid sm'
  have Hn := Lib.hid hn
  have Sn := Lib.hid sn'
  clear hm sm' hn sn'
  by_cases h1 : isM p m = true
  · have L1 := Lib.hid (isL_iff.1 h1)
    by_cases h2 : isM p n = true
    · have L2 := Lib.hid (isL_iff.1 h2)
      have HK := Lib.hid (chk2_yes h1 h2)
      have hnn := L1.out.hi
      have hm0 : 0 < m.length := L1.out.lo
      have hn0 : 0 < n.length := L2.out.lo
      have hnn2 := L2.out.hi
      have hpb := prm_bd L1.out.prime
      obtain ⟨b0, o0, r0, k0, ha0, _, hb0, hr0, _⟩ := Hm.out.row (i := 0) hm0
      subst ha0
      rw [Nat.add_zero] at hr0
      obtain ⟨b9, o9, r9, k9, ha9, _, hb9, hr9, _⟩ := Hn.out.row (i := 0) hn0
      subst ha9
      rw [Nat.add_zero] at hr9
      have hl16 := L1.out.c16
      have hl17 := L2.out.c16
      have hb0w : b0 < w.heap.size := by omega
      have hb9w : b9 < w.heap.size := by omega
      by_cases hlen : m.length = n.length
      · by_cases hcol : (rw' m 0).length = (rw' n 0).length
        · have HCol := Lib.hid hcol
          have HV : Hid (adV p m n = addM p m n ∧ adC p m n = 0) := by show _ ∧ _; unfold adV adC adEq; simp [h1, h2, hlen, hcol]
          have HR : Hid (∀ i, i < m.length → rw' (addM p m n) i = plusR p (rw' m i) (rw' n i) 1) := fun i hi => add_row L1.out hi
          obtain ⟨Z, hZ⟩ : ∃ Z, Z = addM p m n := ⟨_, rfl⟩
          rw [← hZ] at HV HR
          have HZL : Hid (Z.length = m.length) := by show _ = _; rw [hZ]; exact mk_len _ _ _
          obtain ⟨e1, e2⟩ := eq_spell hlen
          obtain ⟨e3, e4⟩ := eq_spell hcol
          have hlle : m.length ≤ n.length := by omega
          have hmk := fun W => run_make_row' (P := Try.prog) 22 33 (.slice none 0 0) 24 Try.underlying22 info_slice rfl .i64 .i64 m.length (by omega) (by omega) W
          clear h1 h2 hZ hlen hcol
          go_enter Try.func25, Try.ntmps25
          go_wp2_with (go_at_call 63; (with_reducible refine (checkTwo_b p _ _ m n _ _ lom tpm lon tpn w _ Hm.out tm Sm.out Hn.out tn Sn.out).mono ?_); rintro e w1 ⟨rfl, hb1⟩; rw [HK.out]; have HB1 := Lib.hid hb1; have hz1 := hb1.size; have hr0' := (hb1.cell (p := ⟨b0, o0, none⟩) hb0w).trans hr0; have hr9' := (hb1.cell (p := ⟨b9, o9, none⟩) hb9w).trans hr9; clear hb1 hr0 hr9)
          go_quiet (fail)
          go_wp2
          clear hr0' hr9' e1 e2 e3 e4 hmk
          go_loopw [41] (fun t wr => ∃ i : Nat, i ≤ m.length ∧ t = .int .i64 i ∧ (∃ A C lo tp, HalfG wr w1.heap.size i Z A C lo tp) ∧ Below w.heap.size w wr ∧ w1.heap.size < wr.heap.size) (fun t _ => m.length - (intOf t).toNat)
          case atStart => exact ⟨0, Nat.zero_le _, rfl, ⟨fun _ => none, fun _ => 0, fun _ => 0, fun _ => 0, HalfG.start_q ⟨_, rfl⟩ HZL.out⟩, (HB1.out.trans ((Quiet.refl w1).next _ |>.below _)).alloc hz1 _, by simp⟩
          case round =>
            obtain ⟨i, hi, rfl, ⟨A, C, lo, tp, hh⟩, hbel, hwlt⟩ := hrel
            have HH := Lib.hid hh
            have HBEL := Lib.hid hbel
            have hwz := hbel.size
            by_cases hlt : i < m.length
            · have hltn : i < n.length := by omega
              obtain ⟨b1, o1, r, c1, ha1, _, hb1, hr1, hrow⟩ := (Hm.out.below hbel tm).row hlt
              cases ha1
              obtain ⟨b2, o2, r2, c2, ha2, _, hb2, hr2, hrow2⟩ := (Hn.out.below hbel tn).row hltn
              cases ha2
              have HROW := Lib.hid hrow
              have HROW2 := Lib.hid hrow2
              have g0 := hh.rest i (Nat.le_refl _) (by rw [HZL.out]; exact hlt)
              have f0 := hh.free i
              have hl16 : (rw' m i).length ≤ 16 := L1.out.c1 i hlt
              have hl1 : 1 ≤ (rw' m i).length := L1.out.c0 i hlt
              have hl26 : (rw' n i).length ≤ 16 := L2.out.c1 i hltn
              have hl2 : (rw' m i).length ≤ (rw' n i).length := by rw [L1.out.len i hlt, L2.out.len i hltn, HCol.out]; exact Nat.le_refl _
              have HN1 : Hid (∀ j, j < (rw' m i).length → 0 ≤ (rw' m i).getD j 0 ∧ (rw' m i).getD j 0 < p) := (rect_of L1.out).num i hlt
              have HN2 := Lib.hid ((rect_of L2.out).num i hltn)
              have HRI := Lib.hid (HR.out i hlt)
              have hi1 : (i : Int) < (m.length : Int) := by omega
              have hi2 : (i : Int) < (n.length : Int) := by omega
              have hb9r : b9 < wr.heap.size := by omega
              clear hrow hrow2 hbel hh
              go_wp2_with (go_at_call 66; (with_reducible refine (cloneR _ _ _ lom tpm _ HROW.out (by omega) (by omega) (by omega)).mono ?_); rintro e w3 ⟨r3, k3, rfl, ho3, hb3⟩; obtain ⟨g, og, rfl, hg0, hg1, hro⟩ := RowOwn.of ho3.own (by omega); have HRO := Lib.hid (hro.far (w1.heap.size) i (.slice (some ⟨g, og, none⟩) (rw' m i).length k3) (by omega)); have HB3 := Lib.hid hb3; have hz3 := hb3.size; have g3 := (hb3.cell (p := ⟨w1.heap.size, i, none⟩) hwlt).trans g0; have f3 := (hb3.frozen (p := ⟨w1.heap.size, i, none⟩) hwlt).trans f0; have q9 := (far_cell w3 (.slice (some ⟨g, og, none⟩) (rw' m i).length k3) (j := o9 + i) (i := i) (by omega : b9 ≠ w1.heap.size)).trans ((hb3.cell (p := ⟨b9, o9 + i, none⟩) hb9r).trans hr2); have HR4 := Lib.hid ((HROW2.out.below hb3 (by omega)).same (far_same w3 (.slice (some ⟨g, og, none⟩) (rw' m i).length k3) (c := w1.heap.size) (i := i) (lo := lon) (tp := tpn) (by omega))); clear ho3 hb3 hro)
              have q8 : (w3.setCell ⟨w1.heap.size, i, none⟩ (.slice (some ⟨g, og, none⟩) (rw' m i).length k3)).cell? ⟨w1.heap.size, i, none⟩ = some (.slice (some ⟨g, og, none⟩) (rw' m i).length k3) := World.cell?_setCell_same w3 _ _ g3
              have hgt : g < lon ∨ tpn ≤ g := by omega
              obtain ⟨w4, hw4⟩ : ∃ w4, w4 = w3.setCell ⟨w1.heap.size, i, none⟩ (.slice (some ⟨g, og, none⟩) (rw' m i).length k3) := ⟨_, rfl⟩
              rw [← hw4] at HRO q9 HR4 q8
              rw [← hw4]
              have HW4 := Lib.hid hw4
              have HRO4 : Hid (RowOwn w4.drew g og (rw' m i).length fun j => (rw' m i).getD j 0) := HRO.out.drew
              have HR5 : Hid (RowIn lon tpn w4.drew r2 (rw' n i)) := HR4.out.same (fun _ _ _ => rfl)
              clear hw4 g3 f3
              go_still_tail 9, (by kernel_rfl)
              change wpList _ _ _ _ _ w4.drew
              obtain ⟨w4d, hw4d⟩ : ∃ x, x = w4.drew := ⟨_, rfl⟩
              rw [← hw4d] at HRO4 HR5
              rw [← hw4d]
              have HW4d := Lib.hid hw4d
              clear hw4d
              go_wp2_with (go_at_call 67; (with_reducible refine (addMultiple_any p 1 g og _ _ _ _ _ _ lon tpn _ L1.out.prime HRO4.out HR5.out hgt hl2 (by omega) HN1.out HN2.out (by omega) (by omega)).mono ?_); rintro e w5 ⟨rfl, ho5, hw5⟩; have HO5 := Lib.hid ho5; have HW5 := Lib.hid hw5; clear ho5 hw5)
              go_roundw
              case rel =>
                have HF := HH.out.fill (by rw [HZL.out]; exact hlt) HB3.out hg0 hg1 (by rw [HRI.out]; exact mkR_len _ _) (c := k3) (w5 := w5) (o := og) (by have := HW5.out; rw [HW4d.out, HW4.out] at this; exact ⟨this.os, this.tape, this.output, this.size, this.block, this.cell, this.frozen⟩) HO5.out (fun j hj => by rw [HRI.out]; exact plusR_at hj)
                exact ⟨i + 1, by omega, by go_num, ⟨_, _, _, _, HF.1⟩, HBEL.out.trans (HF.2.mono (by omega)), by have := HF.2.size; omega⟩
              case measure => simp [intOf]; omega
            · have hn : i = m.length := by omega
              subst hn
              have HF : Hid (HalfG wr w1.heap.size Z.length Z A C lo tp) := by have := HH.out; rw [← HZL.out] at this; exact this
              clear hh hbel
              go_wp2
              go_ret2
              rw [HV.out.1, HV.out.2]
              exact ⟨_, m.length, by rw [HZL.out]; rfl, HF.out.own.mono hz1 (Nat.le_refl _), HBEL.out⟩
        · have HV : Hid (adV p m n = [] ∧ adC p m n = 2) := by show _ ∧ _; unfold adV adC adEq; simp [h1, h2, hlen, hcol]
          obtain ⟨e1, e2⟩ := eq_spell hlen
          obtain ⟨e3, e4⟩ := neq_spell hcol
          clear h1 h2 hlen hcol
          go_enter Try.func25, Try.ntmps25
          go_wp2_with (go_at_call 63; (with_reducible refine (checkTwo_b p _ _ m n _ _ lom tpm lon tpn w _ Hm.out tm Sm.out Hn.out tn Sn.out).mono ?_); rintro e w1 ⟨rfl, hb1⟩; rw [HK.out]; have HB1 := Lib.hid hb1; have hz1 := hb1.size; have hr0' := (hb1.cell (p := ⟨b0, o0, none⟩) hb0w).trans hr0; have hr9' := (hb1.cell (p := ⟨b9, o9, none⟩) hb9w).trans hr9; clear hb1 hr0 hr9)
          go_quiet (fail)
          go_wp2
          go_ret2
          rw [HV.out.1, HV.out.2]
          exact ⟨none, 0, rfl, .inl rfl, HB1.out.trans ((Quiet.refl _).next _ |>.below _)⟩
      · have HV : Hid (adV p m n = [] ∧ adC p m n = 2) := by show _ ∧ _; unfold adV adC adEq; simp [h1, h2, hlen]
        obtain ⟨e1, e2⟩ := neq_spell hlen
        clear h1 h2 hlen
        go_enter Try.func25, Try.ntmps25
        go_wp2_with (go_at_call 63; (with_reducible refine (checkTwo_b p _ _ m n _ _ lom tpm lon tpn w _ Hm.out tm Sm.out Hn.out tn Sn.out).mono ?_); rintro e w1 ⟨rfl, hb1⟩; rw [HK.out]; have HB1 := Lib.hid hb1; have hz1 := hb1.size; have hr0' := (hb1.cell (p := ⟨b0, o0, none⟩) hb0w).trans hr0; have hr9' := (hb1.cell (p := ⟨b9, o9, none⟩) hb9w).trans hr9; clear hb1 hr0 hr9)
        go_quiet (fail)
        go_wp2
        go_ret2
        rw [HV.out.1, HV.out.2]
        exact ⟨none, 0, rfl, .inl rfl, HB1.out.trans ((Quiet.refl _).next _ |>.below _)⟩
    · have HV : Hid (adV p m n = [] ∧ adC p m n = 1) := by show _ ∧ _; unfold adV adC; simp [h2]
      have HK := Lib.hid (chk2_no (m := m) (.inr (by simpa using h2 : isM p n = false)))
      clear h1 h2
      go_enter Try.func25, Try.ntmps25
      go_wp2_with (go_at_call 63; (with_reducible refine (checkTwo_b p _ _ m n _ _ lom tpm lon tpn w _ Hm.out tm Sm.out Hn.out tn Sn.out).mono ?_); rintro e w1 ⟨rfl, hb1⟩; rw [HK.out]; have HB1 := Lib.hid hb1; clear hb1)
      go_ret2
      rw [HV.out.1, HV.out.2]
      exact ⟨none, 0, rfl, .inl rfl, HB1.out⟩
  · have HV : Hid (adV p m n = [] ∧ adC p m n = 1) := by show _ ∧ _; unfold adV adC; simp [h1]
    have HK := Lib.hid (chk2_no (m' := n) (.inl (by simpa using h1 : isM p m = false)))
    clear h1
    go_enter Try.func25, Try.ntmps25
    go_wp2_with (go_at_call 63; (with_reducible refine (checkTwo_b p _ _ m n _ _ lom tpm lon tpn w _ Hm.out tm Sm.out Hn.out tn Sn.out).mono ?_); rintro e w1 ⟨rfl, hb1⟩; rw [HK.out]; have HB1 := Lib.hid hb1; clear hb1)
    go_ret2
    rw [HV.out.1, HV.out.2]
    exact ⟨none, 0, rfl, .inl rfl, HB1.out⟩

end Go.Proofs.Ytckndpoklimnbaa
