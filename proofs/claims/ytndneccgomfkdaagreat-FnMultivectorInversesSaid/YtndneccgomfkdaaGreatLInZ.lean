/-
  The walk of the law on inverses of multivectors: FnMultivectorInverses.
  Conditions: the code is nil or a row of known bytes.
-/
import Derived.Test.YtndneccgomfkdaaGreatQi8
import Derived.Test.YtndneccgomfkdaaGreatQi11
import Derived.Test.YtndneccgomfkdaaGreatQi17
import Derived.Test.YtndneccgomfkdaaGreatQi34
import Derived.Test.YtndneccgomfkdaaGreatQi37
import Derived.Test.YtndneccgomfkdaaGreatQi39
import Derived.Test.YtndneccgomfkdaaGreatQi40
import Derived.Deep.RegionHeld3
import Derived.Deep.DeepCutAuto
namespace Go.Proofs.YtndneccgomfkdaaGreat
open Go.RowKit
set_option linter.unusedVariables false

theorem cells2_alloc {w : World} {g : Nat} {u0 u1 : Value} (o : Obj) (l : g < w.heap.size) (h0 : w.cell? ⟨g, 0, none⟩ = some u0 ∧ w.cell? ⟨g, 1, none⟩ = some u1) : (w.alloc o).cell? ⟨g, 0, none⟩ = some u0 ∧ (w.alloc o).cell? ⟨g, 1, none⟩ = some u1 :=
  ⟨((below_alloc w o).cell (p := ⟨g, 0, none⟩) l).trans h0.1, ((below_alloc w o).cell (p := ⟨g, 1, none⟩) l).trans h0.2⟩
theorem cells2_far {w : World} {g k i : Nat} {u0 u1 x : Value} (hne : g ≠ k) (h0 : w.cell? ⟨g, 0, none⟩ = some u0 ∧ w.cell? ⟨g, 1, none⟩ = some u1) : (w.setCell ⟨k, i, none⟩ x).cell? ⟨g, 0, none⟩ = some u0 ∧ (w.setCell ⟨k, i, none⟩ x).cell? ⟨g, 1, none⟩ = some u1 :=
  ⟨(World.cell?_setCell_other _ ⟨k, i, none⟩ ⟨g, 0, none⟩ _ (fun e => by injection e with e1; omega)).trans h0.1, (World.cell?_setCell_other _ ⟨k, i, none⟩ ⟨g, 1, none⟩ _ (fun e => by injection e with e1; omega)).trans h0.2⟩
theorem unit_in {lo tp : Nat} {w : World} {g : Nat} {S : List Int} {z : Int} (h : RowOwn w g 0 (bl S) (fun _ => 0)) (h0 : lo ≤ g) (h1 : g < tp) (hb : 0 < bl S) : RowIn lo tp (w.setCell ⟨g, 0, none⟩ (.int .i64 z)) (some ⟨g, 0, none⟩) (unitR S z) :=
  rowOwn_in (rowOwn_put0 h hb z) h0 h1
theorem like_eq (a c : Option Addr) (za zb : List Int) (k1 k2 lo hi lo' hi' : Nat) (w : World) (hb : RowIn lo hi w a za) (hc : RowIn lo' hi' w c zb) (he : za = zb) {n : Nat} (hn : zb.length = n) (hl : za.length ≤ 1048576) :
    Calls Tryz.prog 9 #[.slice a za.length k1, .slice c n k2] w fun e w' => e = .returned (.bool true) ∧ Quiet w w' := by
  subst hn
  subst he
  exact likeInts_same a c za k1 k2 lo hi lo' hi' w hb hc hl
theorem mv_sz {p : Int} {S x : List Int} (h6 : S.length ≤ 6) (hx : isMv p S x = true) : x.length ≤ 1048576 := by
  have := bl_le h6
  rw [Mv.len hx]; omega
theorem stC_ok {p : Int} {S x : List Int} (hs : isSp p S = true) (h4 : S.length ≤ 4) (hx : isMv p S x = true) : stC p S [x] = 0 := by
  unfold stC
  rw [if_pos (codeMv_ok hs (by rw [mv_all1]; exact hx)), if_neg (by omega)]
theorem in_cases (p : Int) (S x : List Int) : (∃ c, invC p S x = c ∧ c ≠ 0 ∧ c ≠ 5 ∧ invV p S x = []) ∨ (isSp p S = true ∧ isMv p S x = true ∧ S.length ≤ 4 ∧ invOk p S x = false ∧ invC p S x = 5 ∧ invV p S x = []) ∨ (isSp p S = true ∧ isMv p S x = true ∧ S.length ≤ 4 ∧ invOk p S x = true ∧ invC p S x = 0 ∧ invV p S x = invY p S x) := by
  rcases codeMv_cases p S [x] with ⟨hi, hc⟩ | ⟨hi, ha, hc⟩ | ⟨hi, ha, hc⟩
  · have h := inv_code (p := p) (S := S) (x := x) (by rw [hc]; decide)
    exact .inl ⟨1, by rw [h.1, hc], by decide, by decide, h.2⟩
  · rw [mv_all1] at ha
    by_cases h4 : 4 < S.length
    · have h := inv_far hc h4
      exact .inl ⟨3, h.1, by decide, by decide, h.2⟩
    · cases ho : invOk p S x with
      | false =>
        have h := inv_not hc (by omega) ho
        exact .inr (.inl ⟨hi, ha, by omega, rfl, h.1, h.2⟩)
      | true =>
        have h := inv_yes hc (by omega) ho
        exact .inr (.inr ⟨hi, ha, by omega, rfl, h.1, h.2⟩)
  · have h := inv_code (p := p) (S := S) (x := x) (by rw [hc]; decide)
    exact .inl ⟨2, by rw [h.1, hc], by decide, by decide, h.2⟩
theorem sq_left {p : Int} {S : List Int} (hs : isSp p S = true) (h4 : S.length ≤ 4) (x : List Int) : sqC p (leftM p S x) = 0 := by
  unfold sqC
  rw [if_pos (show isM p (leftM p S x) = true from isL_iff.2 (left_wide hs h4 x)), if_pos (by rw [left_rl (bl_pos S)]; exact left_len _ _ _)]

set_option maxRecDepth 100000 in
set_option maxHeartbeats 16000000 in
theorem law_in_small (a0 : Option Addr) (len cap : Nat) (zs : List Int) (w0 : World) (hb : Code8 w0 a0 len zs) (hl : len ≤ 4096) :
    Calls Tryz.prog 3 #[.slice a0 len cap] w0 fun e w' => e = .returned (.bool true) ∧ Below w0.heap.size w0 w' := by
  have HC8 := Lib.hid hb
  clear hb
  go_enter Tryz.func3, Tryz.ntmps3
  go_upto_region 4 with (first | (go_at_call 5; refine (big_no a0 len cap _ hl).mono ?_; rintro e w' ⟨rfl, rfl⟩) | (go_at_call 6; (with_reducible refine (drawIO_any a0 len cap zs _ HC8.out hl).mono ?_); rintro e w ⟨pS, aS, S, cS, ax, x, cx, rfl, hX, hY, hS, hx, hb0⟩; have HS := Lib.hid hS; have Hx := Lib.hid hx; have HB00 := Lib.hid hb0; have HL := Lib.hid (And.intro hX hY); clear hS hx hb0 hX hY))
  have tS : w.heap.size ≤ w.heap.size := Nat.le_refl _
  have sS : S.length ≤ 1048576 := by have := HL.out.1; omega
  have sx : x.length ≤ 1048576 := by have := HL.out.2; omega
  obtain ⟨w1, hw1⟩ : ∃ z, z = w.alloc (.cells #[.int .i64 pS, .slice aS S.length cS] 26) := ⟨_, rfl⟩
  have SS1 : Hid (w1.cell? ⟨w.heap.size, 0, none⟩ = some (.int .i64 pS) ∧ w1.cell? ⟨w.heap.size, 1, none⟩ = some (.slice aS S.length cS)) := by show _ ∧ _; rw [hw1]; exact ⟨nw0 w _ _ _, nw1 w _ _ _⟩
  have HB1 : Hid (Below w.heap.size w w1) := by show Below _ _ _; rw [hw1]; exact below_alloc w _
  have hd1 : w.heap.size < w1.heap.size := by rw [hw1]; simp
  have kk0 := SS1.out.1
  have kk1 := SS1.out.2
  rw [← hw1]
  clear hw1
  rcases in_cases pS S x with ⟨C, hc, hc0, hc5, hv⟩ | ⟨hi, mx, h4, ho, hc, hv⟩ | ⟨hi, mx, h4, ho, hc, hv⟩
  · have HC := Lib.hid hc
    obtain ⟨z, hz⟩ : ∃ z, z = invV pS S x := ⟨_, rfl⟩
    have EZ : Hid (invV pS S x = z) := hz.symm
    have s_z : z.length ≤ 1048576 := by rw [hz]; exact invV_size _ _ _
    have hk1 : (C != 0) = true := by simpa using hc0
    have hk2 : (C != 5) = true := by simpa using hc5
    have hk3 : (C != C) = false := by simp
    clear hc hz hc0 hc5 hv
    go_wp2_with (first | (go_at_call 7; (with_reducible refine (impl_InverseOf pS aS S cS w0.heap.size w.heap.size ax x cx w0.heap.size w.heap.size w1 (HS.out.below HB1.out tS) (Nat.le_trans tS (HB1.out).size) sS (Hx.out.below HB1.out tS) (Nat.le_trans tS (HB1.out).size) sx).mono ?_); rintro e w2 ⟨rz, kz, rfl, o_, b_⟩; have SS2 := Lib.hid (And.intro ((b_.cell (p := ⟨w.heap.size, 0, none⟩) hd1).trans SS1.out.1) ((b_.cell (p := ⟨w.heap.size, 1, none⟩) hd1).trans SS1.out.2)); have HB2 := Lib.hid (below_step HB1.out (Nat.le_of_lt hd1) b_); have zz_ := b_.size; have hd2 := Nat.lt_of_lt_of_le hd1 zz_; rw [EZ.out] at o_; rw [HC.out, EZ.out]; have o_ := o_.row; have RZ_2 := Lib.hid (o_.mono (Nat.le_of_lt hd1) (Nat.le_refl _)); clear o_; have kc2_0 := SS2.out.1; have kc2_1 := SS2.out.2; clear b_) | (go_at_call 8; (with_reducible refine (spec_InverseOf pS aS S cS w0.heap.size w.heap.size ax x cx w0.heap.size w.heap.size w2 (HS.out.below HB2.out tS) (Nat.le_trans tS (HB2.out).size) sS (Hx.out.below HB2.out tS) (Nat.le_trans tS (HB2.out).size) sx).mono ?_); rintro e w3 ⟨rwt, kwt, rfl, o_, b_⟩; have SS3 := Lib.hid (And.intro ((b_.cell (p := ⟨w.heap.size, 0, none⟩) hd2).trans SS2.out.1) ((b_.cell (p := ⟨w.heap.size, 1, none⟩) hd2).trans SS2.out.2)); have HB3 := Lib.hid (below_step HB2.out (Nat.le_of_lt hd2) b_); have zz_ := b_.size; have hd3 := Nat.lt_of_lt_of_le hd2 zz_; have RZ_3 := Lib.hid ((RZ_2.out.below b_ (Nat.le_refl _)).mono (Nat.le_refl _) zz_); rw [EZ.out] at o_; rw [HC.out, EZ.out]; have WT_3 := Lib.hid (o_.mono (Nat.le_of_lt hd2) (Nat.le_refl _)); clear o_; have kc3_0 := SS3.out.1; have kc3_1 := SS3.out.2; clear b_) | (go_at_call 9; (with_reducible refine (likeInts_same rz rwt z kz kwt w.heap.size w3.heap.size w.heap.size w3.heap.size w3 RZ_3.out WT_3.out s_z).mono ?_); rintro e w4 ⟨rfl, q_⟩; have b_ := q_.below w3.heap.size; have SS4 := Lib.hid (And.intro ((b_.cell (p := ⟨w.heap.size, 0, none⟩) hd3).trans SS3.out.1) ((b_.cell (p := ⟨w.heap.size, 1, none⟩) hd3).trans SS3.out.2)); have HB4 := Lib.hid (below_step HB3.out (Nat.le_of_lt hd3) b_); have zz_ := b_.size; have hd4 := Nat.lt_of_lt_of_le hd3 zz_; have RZ_4 := Lib.hid ((RZ_3.out.below b_ (Nat.le_refl _)).mono (Nat.le_refl _) zz_); have WT_4 := Lib.hid ((WT_3.out.below b_ (Nat.le_refl _)).mono (Nat.le_refl _) zz_); have kc4_0 := SS4.out.1; have kc4_1 := SS4.out.2; clear q_; clear b_))
    go_ret
    exact ⟨rfl, HB00.out.trans (HB4.out.mono HB00.out.size)⟩
  · have HC := Lib.hid hc
    obtain ⟨z, hz⟩ : ∃ z, z = invV pS S x := ⟨_, rfl⟩
    have EZ : Hid (invV pS S x = z) := hz.symm
    have s_z : z.length ≤ 1048576 := by rw [hz]; exact invV_size _ _ _
    have HI := Lib.hid hi
    have MX := Lib.hid mx
    have H4 := Lib.hid h4
    have HP := Lib.hid (isSp_iff.1 hi).prime
    have hpb := prm_bd (isSp_iff.1 hi).prime
    have h6 := (isSp_iff.1 hi).hi
    have hbl := bl_le h6
    have hb0 := bl_pos S
    have C_x : Hid (stC pS S [x] = 0) := stC_ok hi h4 mx
    obtain ⟨z1, hz1⟩ : ∃ v, v = leftM pS S x := ⟨_, rfl⟩
    have E_z1 : Hid (lmV pS S x = z1) := by show _ = _; unfold lmV; rw [if_pos C_x.out, hz1]
    have t_z1 : z1.length + tot z1 z1.length ≤ 1048576 := by rw [← E_z1.out]; exact lmV_size _ _ _
    have C_d : Hid (sqC pS z1 = 0) := by show _ = _; rw [hz1]; exact sq_left hi h4 x
    obtain ⟨D, hD⟩ : ∃ v, v = detP pS z1 := ⟨_, rfl⟩
    have E_d : Hid (detV pS z1 = D) := by show _ = _; unfold detV; rw [if_pos C_d.out, hD]
    have hdo := det_ok hi h4 mx
    rw [← hz1, ← hD] at hdo
    have E_h : Hid (hiV pS S x = false) := by show _ = _; unfold hiV; rw [if_pos C_x.out, ho]
    have hD0 : D = 0 := Classical.byContradiction fun h => by rw [hdo.1 h] at ho; cases ho
    have hdt : (D != 0) = false := by rw [hD0]; rfl
    clear hc hz hv hi mx h4 ho hz1 hD hdo hD0
    go_wp2_with (first | (go_at_call 7; (with_reducible refine (impl_InverseOf pS aS S cS w0.heap.size w.heap.size ax x cx w0.heap.size w.heap.size w1 (HS.out.below HB1.out tS) (Nat.le_trans tS (HB1.out).size) sS (Hx.out.below HB1.out tS) (Nat.le_trans tS (HB1.out).size) sx).mono ?_); rintro e w2 ⟨rz, kz, rfl, o_, b_⟩; have SS2 := Lib.hid (And.intro ((b_.cell (p := ⟨w.heap.size, 0, none⟩) hd1).trans SS1.out.1) ((b_.cell (p := ⟨w.heap.size, 1, none⟩) hd1).trans SS1.out.2)); have HB2 := Lib.hid (below_step HB1.out (Nat.le_of_lt hd1) b_); have zz_ := b_.size; have hd2 := Nat.lt_of_lt_of_le hd1 zz_; rw [EZ.out] at o_; rw [HC.out, EZ.out]; have o_ := o_.row; have RZ_2 := Lib.hid (o_.mono (Nat.le_of_lt hd1) (Nat.le_refl _)); clear o_; have kc2_0 := SS2.out.1; have kc2_1 := SS2.out.2; clear b_) | (go_at_call 8; (with_reducible refine (spec_InverseOf pS aS S cS w0.heap.size w.heap.size ax x cx w0.heap.size w.heap.size w2 (HS.out.below HB2.out tS) (Nat.le_trans tS (HB2.out).size) sS (Hx.out.below HB2.out tS) (Nat.le_trans tS (HB2.out).size) sx).mono ?_); rintro e w3 ⟨rwt, kwt, rfl, o_, b_⟩; have SS3 := Lib.hid (And.intro ((b_.cell (p := ⟨w.heap.size, 0, none⟩) hd2).trans SS2.out.1) ((b_.cell (p := ⟨w.heap.size, 1, none⟩) hd2).trans SS2.out.2)); have HB3 := Lib.hid (below_step HB2.out (Nat.le_of_lt hd2) b_); have zz_ := b_.size; have hd3 := Nat.lt_of_lt_of_le hd2 zz_; have RZ_3 := Lib.hid ((RZ_2.out.below b_ (Nat.le_refl _)).mono (Nat.le_refl _) zz_); rw [EZ.out] at o_; rw [HC.out, EZ.out]; have WT_3 := Lib.hid (o_.mono (Nat.le_of_lt hd2) (Nat.le_refl _)); clear o_; have kc3_0 := SS3.out.1; have kc3_1 := SS3.out.2; clear b_) | (go_at_call 9; (with_reducible refine (likeInts_same rz rwt z kz kwt w.heap.size w3.heap.size w.heap.size w3.heap.size w3 RZ_3.out WT_3.out s_z).mono ?_); rintro e w4 ⟨rfl, q_⟩; have b_ := q_.below w3.heap.size; have SS4 := Lib.hid (And.intro ((b_.cell (p := ⟨w.heap.size, 0, none⟩) hd3).trans SS3.out.1) ((b_.cell (p := ⟨w.heap.size, 1, none⟩) hd3).trans SS3.out.2)); have HB4 := Lib.hid (below_step HB3.out (Nat.le_of_lt hd3) b_); have zz_ := b_.size; have hd4 := Nat.lt_of_lt_of_le hd3 zz_; have RZ_4 := Lib.hid ((RZ_3.out.below b_ (Nat.le_refl _)).mono (Nat.le_refl _) zz_); have WT_4 := Lib.hid ((WT_3.out.below b_ (Nat.le_refl _)).mono (Nat.le_refl _) zz_); have kc4_0 := SS4.out.1; have kc4_1 := SS4.out.2; clear q_; clear b_) | (go_at_call 10; (with_reducible refine (impl_LeftMatrix pS aS S cS w0.heap.size w.heap.size ax x cx w0.heap.size w.heap.size w4 (HS.out.below HB4.out tS) (Nat.le_trans tS (HB4.out).size) sS (Hx.out.below HB4.out tS) (Nat.le_trans tS (HB4.out).size) sx).mono ?_); rintro e w5 ⟨ra1, ka1, rfl, o_, b_⟩; have SS5 := Lib.hid (And.intro ((b_.cell (p := ⟨w.heap.size, 0, none⟩) hd4).trans SS4.out.1) ((b_.cell (p := ⟨w.heap.size, 1, none⟩) hd4).trans SS4.out.2)); have HB5 := Lib.hid (below_step HB4.out (Nat.le_of_lt hd4) b_); have zz_ := b_.size; have hd5 := Nat.lt_of_lt_of_le hd4 zz_; have RZ_5 := Lib.hid ((RZ_4.out.below b_ (Nat.le_refl _)).mono (Nat.le_refl _) zz_); rw [E_z1.out] at o_; rw [C_x.out, E_z1.out]; have o_ := o_.mat; have A1_5 := Lib.hid (o_.mono (Nat.le_of_lt hd4) (Nat.le_refl _)); clear o_; have kc5_0 := SS5.out.1; have kc5_1 := SS5.out.2; clear b_) | (go_at_call 11; (with_reducible refine (impl_Determinant pS ra1 z1 ka1 w.heap.size w5.heap.size w5 A1_5.out (Nat.le_refl _) t_z1).mono ?_); rintro e w6 ⟨rfl, b_⟩; have SS6 := Lib.hid (And.intro ((b_.cell (p := ⟨w.heap.size, 0, none⟩) hd5).trans SS5.out.1) ((b_.cell (p := ⟨w.heap.size, 1, none⟩) hd5).trans SS5.out.2)); have HB6 := Lib.hid (below_step HB5.out (Nat.le_of_lt hd5) b_); have zz_ := b_.size; have hd6 := Nat.lt_of_lt_of_le hd5 zz_; have RZ_6 := Lib.hid ((RZ_5.out.below b_ (Nat.le_refl _)).mono (Nat.le_refl _) zz_); have A1_6 := Lib.hid ((A1_5.out.below b_ (Nat.le_refl _)).mono (Nat.le_refl _) zz_); rw [C_d.out, E_d.out]; have kc6_0 := SS6.out.1; have kc6_1 := SS6.out.2; clear b_) | (go_at_call 12; (with_reducible refine (impl_HasInverse pS aS S cS w0.heap.size w.heap.size ax x cx w0.heap.size w.heap.size w6 (HS.out.below HB6.out tS) (Nat.le_trans tS (HB6.out).size) sS (Hx.out.below HB6.out tS) (Nat.le_trans tS (HB6.out).size) sx).mono ?_); rintro e w7 ⟨rfl, b_⟩; have SS7 := Lib.hid (And.intro ((b_.cell (p := ⟨w.heap.size, 0, none⟩) hd6).trans SS6.out.1) ((b_.cell (p := ⟨w.heap.size, 1, none⟩) hd6).trans SS6.out.2)); have HB7 := Lib.hid (below_step HB6.out (Nat.le_of_lt hd6) b_); have zz_ := b_.size; have hd7 := Nat.lt_of_lt_of_le hd6 zz_; have RZ_7 := Lib.hid ((RZ_6.out.below b_ (Nat.le_refl _)).mono (Nat.le_refl _) zz_); rw [C_x.out, E_h.out]; have kc7_0 := SS7.out.1; have kc7_1 := SS7.out.2; clear b_))
    go_ret
    exact ⟨rfl, HB00.out.trans (HB7.out.mono HB00.out.size)⟩
  · have HC := Lib.hid hc
    obtain ⟨z, hz⟩ : ∃ z, z = invV pS S x := ⟨_, rfl⟩
    have EZ : Hid (invV pS S x = z) := hz.symm
    have s_z : z.length ≤ 1048576 := by rw [hz]; exact invV_size _ _ _
    have HI := Lib.hid hi
    have MX := Lib.hid mx
    have H4 := Lib.hid h4
    have HP := Lib.hid (isSp_iff.1 hi).prime
    have hpb := prm_bd (isSp_iff.1 hi).prime
    have h6 := (isSp_iff.1 hi).hi
    have hbl := bl_le h6
    have hb0 := bl_pos S
    have C_x : Hid (stC pS S [x] = 0) := stC_ok hi h4 mx
    obtain ⟨z1, hz1⟩ : ∃ v, v = leftM pS S x := ⟨_, rfl⟩
    have E_z1 : Hid (lmV pS S x = z1) := by show _ = _; unfold lmV; rw [if_pos C_x.out, hz1]
    have t_z1 : z1.length + tot z1 z1.length ≤ 1048576 := by rw [← E_z1.out]; exact lmV_size _ _ _
    have C_d : Hid (sqC pS z1 = 0) := by show _ = _; rw [hz1]; exact sq_left hi h4 x
    obtain ⟨D, hD⟩ : ∃ v, v = detP pS z1 := ⟨_, rfl⟩
    have E_d : Hid (detV pS z1 = D) := by show _ = _; unfold detV; rw [if_pos C_d.out, hD]
    have hdo := det_ok hi h4 mx
    rw [← hz1, ← hD] at hdo
    have E_h : Hid (hiV pS S x = true) := by show _ = _; unfold hiV; rw [if_pos C_x.out, ho]
    have hD0 : D ≠ 0 := hdo.2 ho
    have hdt : (D != 0) = true := by simpa using hD0
    have hy := inv_is hi h4 ho
    have hzy : z = invY pS S x := by rw [hz, hv]
    have M_z : Hid (isMv pS S z = true) := by show _ = _; rw [hzy]; exact hy.1
    obtain ⟨un, hun⟩ : ∃ v, v = unitR S 1 := ⟨_, rfl⟩
    have HUN : Hid (unitR S 1 = un) := hun.symm
    have E_b : Hid (prodM pS S z x = un) := by show _ = _; rw [hzy, hun]; exact hy.2
    have E_a : Hid (prodM pS S x z = un) := by show _ = _; rw [hzy, hun]; exact inv_both hi mx hy.2
    have HUL : Hid (un.length = bl S) := by show _ = _; rw [hun]; unfold unitR; rw [mkR_len]
    have s_un : un.length ≤ 1048576 := by rw [HUL.out]; omega
    have hmk := fun W => run_make_row' (P := Tryz.prog) 24 2 (.int .i64 0) 8 Tryz.underlying24 info64 rfl .i64 .i64 (bl S) (by omega) (by omega) W
    have hi0 : (0 : Int) < ((bl S : Nat) : Int) := by omega
    clear hy hzy hun
    clear hc hz hv hi mx h4 ho hz1 hD hdo hD0
    go_upto_region 18 with (first | (go_at_call 7; (with_reducible refine (impl_InverseOf pS aS S cS w0.heap.size w.heap.size ax x cx w0.heap.size w.heap.size w1 (HS.out.below HB1.out tS) (Nat.le_trans tS (HB1.out).size) sS (Hx.out.below HB1.out tS) (Nat.le_trans tS (HB1.out).size) sx).mono ?_); rintro e w2 ⟨rz, kz, rfl, o_, b_⟩; have SS2 := Lib.hid (And.intro ((b_.cell (p := ⟨w.heap.size, 0, none⟩) hd1).trans SS1.out.1) ((b_.cell (p := ⟨w.heap.size, 1, none⟩) hd1).trans SS1.out.2)); have HB2 := Lib.hid (below_step HB1.out (Nat.le_of_lt hd1) b_); have zz_ := b_.size; have hd2 := Nat.lt_of_lt_of_le hd1 zz_; rw [EZ.out] at o_; rw [HC.out, EZ.out]; have o_ := o_.row; have RZ_2 := Lib.hid (o_.mono (Nat.le_of_lt hd1) (Nat.le_refl _)); clear o_; have kc2_0 := SS2.out.1; have kc2_1 := SS2.out.2; clear b_) | (go_at_call 8; (with_reducible refine (spec_InverseOf pS aS S cS w0.heap.size w.heap.size ax x cx w0.heap.size w.heap.size w2 (HS.out.below HB2.out tS) (Nat.le_trans tS (HB2.out).size) sS (Hx.out.below HB2.out tS) (Nat.le_trans tS (HB2.out).size) sx).mono ?_); rintro e w3 ⟨rwt, kwt, rfl, o_, b_⟩; have SS3 := Lib.hid (And.intro ((b_.cell (p := ⟨w.heap.size, 0, none⟩) hd2).trans SS2.out.1) ((b_.cell (p := ⟨w.heap.size, 1, none⟩) hd2).trans SS2.out.2)); have HB3 := Lib.hid (below_step HB2.out (Nat.le_of_lt hd2) b_); have zz_ := b_.size; have hd3 := Nat.lt_of_lt_of_le hd2 zz_; have RZ_3 := Lib.hid ((RZ_2.out.below b_ (Nat.le_refl _)).mono (Nat.le_refl _) zz_); rw [EZ.out] at o_; rw [HC.out, EZ.out]; have WT_3 := Lib.hid (o_.mono (Nat.le_of_lt hd2) (Nat.le_refl _)); clear o_; have kc3_0 := SS3.out.1; have kc3_1 := SS3.out.2; clear b_) | (go_at_call 9; (with_reducible refine (likeInts_same rz rwt z kz kwt w.heap.size w3.heap.size w.heap.size w3.heap.size w3 RZ_3.out WT_3.out s_z).mono ?_); rintro e w4 ⟨rfl, q_⟩; have b_ := q_.below w3.heap.size; have SS4 := Lib.hid (And.intro ((b_.cell (p := ⟨w.heap.size, 0, none⟩) hd3).trans SS3.out.1) ((b_.cell (p := ⟨w.heap.size, 1, none⟩) hd3).trans SS3.out.2)); have HB4 := Lib.hid (below_step HB3.out (Nat.le_of_lt hd3) b_); have zz_ := b_.size; have hd4 := Nat.lt_of_lt_of_le hd3 zz_; have RZ_4 := Lib.hid ((RZ_3.out.below b_ (Nat.le_refl _)).mono (Nat.le_refl _) zz_); have WT_4 := Lib.hid ((WT_3.out.below b_ (Nat.le_refl _)).mono (Nat.le_refl _) zz_); have kc4_0 := SS4.out.1; have kc4_1 := SS4.out.2; clear q_; clear b_) | (go_at_call 10; (with_reducible refine (impl_LeftMatrix pS aS S cS w0.heap.size w.heap.size ax x cx w0.heap.size w.heap.size w4 (HS.out.below HB4.out tS) (Nat.le_trans tS (HB4.out).size) sS (Hx.out.below HB4.out tS) (Nat.le_trans tS (HB4.out).size) sx).mono ?_); rintro e w5 ⟨ra1, ka1, rfl, o_, b_⟩; have SS5 := Lib.hid (And.intro ((b_.cell (p := ⟨w.heap.size, 0, none⟩) hd4).trans SS4.out.1) ((b_.cell (p := ⟨w.heap.size, 1, none⟩) hd4).trans SS4.out.2)); have HB5 := Lib.hid (below_step HB4.out (Nat.le_of_lt hd4) b_); have zz_ := b_.size; have hd5 := Nat.lt_of_lt_of_le hd4 zz_; have RZ_5 := Lib.hid ((RZ_4.out.below b_ (Nat.le_refl _)).mono (Nat.le_refl _) zz_); rw [E_z1.out] at o_; rw [C_x.out, E_z1.out]; have o_ := o_.mat; have A1_5 := Lib.hid (o_.mono (Nat.le_of_lt hd4) (Nat.le_refl _)); clear o_; have kc5_0 := SS5.out.1; have kc5_1 := SS5.out.2; clear b_) | (go_at_call 11; (with_reducible refine (impl_Determinant pS ra1 z1 ka1 w.heap.size w5.heap.size w5 A1_5.out (Nat.le_refl _) t_z1).mono ?_); rintro e w6 ⟨rfl, b_⟩; have SS6 := Lib.hid (And.intro ((b_.cell (p := ⟨w.heap.size, 0, none⟩) hd5).trans SS5.out.1) ((b_.cell (p := ⟨w.heap.size, 1, none⟩) hd5).trans SS5.out.2)); have HB6 := Lib.hid (below_step HB5.out (Nat.le_of_lt hd5) b_); have zz_ := b_.size; have hd6 := Nat.lt_of_lt_of_le hd5 zz_; have RZ_6 := Lib.hid ((RZ_5.out.below b_ (Nat.le_refl _)).mono (Nat.le_refl _) zz_); have A1_6 := Lib.hid ((A1_5.out.below b_ (Nat.le_refl _)).mono (Nat.le_refl _) zz_); rw [C_d.out, E_d.out]; have kc6_0 := SS6.out.1; have kc6_1 := SS6.out.2; clear b_) | (go_at_call 12; (with_reducible refine (impl_HasInverse pS aS S cS w0.heap.size w.heap.size ax x cx w0.heap.size w.heap.size w6 (HS.out.below HB6.out tS) (Nat.le_trans tS (HB6.out).size) sS (Hx.out.below HB6.out tS) (Nat.le_trans tS (HB6.out).size) sx).mono ?_); rintro e w7 ⟨rfl, b_⟩; have SS7 := Lib.hid (And.intro ((b_.cell (p := ⟨w.heap.size, 0, none⟩) hd6).trans SS6.out.1) ((b_.cell (p := ⟨w.heap.size, 1, none⟩) hd6).trans SS6.out.2)); have HB7 := Lib.hid (below_step HB6.out (Nat.le_of_lt hd6) b_); have zz_ := b_.size; have hd7 := Nat.lt_of_lt_of_le hd6 zz_; have RZ_7 := Lib.hid ((RZ_6.out.below b_ (Nat.le_refl _)).mono (Nat.le_refl _) zz_); rw [C_x.out, E_h.out]; have kc7_0 := SS7.out.1; have kc7_1 := SS7.out.2; clear b_) | (go_at_call 13; (with_reducible refine (size5_any pS aS S cS w7 h6).mono ?_); rintro e w8 ⟨rfl, b_⟩; have SS8 := Lib.hid (And.intro ((b_.cell (p := ⟨w.heap.size, 0, none⟩) hd7).trans SS7.out.1) ((b_.cell (p := ⟨w.heap.size, 1, none⟩) hd7).trans SS7.out.2)); have HB8 := Lib.hid (below_step HB7.out (Nat.le_of_lt hd7) b_); have zz_ := b_.size; have hd8 := Nat.lt_of_lt_of_le hd7 zz_; have RZ_8 := Lib.hid ((RZ_7.out.below b_ (Nat.le_refl _)).mono (Nat.le_refl _) zz_); have kc8_0 := SS8.out.1; have kc8_1 := SS8.out.2; clear b_))
    obtain ⟨wz1, hwz⟩ : ∃ z, z = w8.alloc (.cells (madeCells #[.int .i64 0] (bl S)) 2) := ⟨_, rfl⟩
    obtain ⟨gz1, hgz⟩ : ∃ z, z = w8.heap.size := ⟨_, rfl⟩
    have SS9 : Hid (wz1.cell? ⟨w.heap.size, 0, none⟩ = some (.int .i64 pS) ∧ wz1.cell? ⟨w.heap.size, 1, none⟩ = some (.slice aS S.length cS)) := by show _ ∧ _; rw [hwz]; exact cells2_alloc _ hd8 SS8.out
    have HB9 : Hid (Below w.heap.size w wz1) := by show Below _ _ _; rw [hwz]; exact (HB8.out).alloc (Nat.le_of_lt hd8) _
    have hd9 : w.heap.size < wz1.heap.size := by rw [hwz]; exact Nat.lt_of_lt_of_le hd8 (size_alloc _ _)
    have hwg_gz1 : w.heap.size < gz1 := by rw [hgz]; exact hd8
    have hgw_gz1 : gz1 < wz1.heap.size := by rw [hwz, hgz]; simp
    have RZ_gz1 : Hid (RowOwn wz1 gz1 0 (bl S) (fun _ => 0)) := by show RowOwn _ _ _ _ _; rw [hwz, hgz]; exact RowOwn.start _ _ _
    have RZ_9 : Hid (RowIn w.heap.size gz1 wz1 rz (z)) := by show RowIn _ _ _ _ _; rw [hwz, hgz]; exact RZ_8.out.below (below_alloc _ _) (Nat.le_refl _)
    rw [← hwz, ← hgz]
    clear hwz hgz
    have zc := RZ_gz1.out.cell 0 hb0
    have zf := RZ_gz1.out.free 0 hb0
    rw [Nat.zero_add] at zc zf
    have kc9_0 := SS9.out.1
    have kc9_1 := SS9.out.2
    clear hmk
    go_upto_region 19 with fail
    obtain ⟨wy1, hwy⟩ : ∃ z, z = (wz1.setCell ⟨gz1, 0, none⟩ (.int .i64 (1))) := ⟨_, rfl⟩
    have hsz_wy1 : wy1.heap.size = wz1.heap.size := by rw [hwy]; simp [World.setCell]
    have SS10 : Hid (wy1.cell? ⟨w.heap.size, 0, none⟩ = some (.int .i64 pS) ∧ wy1.cell? ⟨w.heap.size, 1, none⟩ = some (.slice aS S.length cS)) := by show _ ∧ _; rw [hwy]; exact cells2_far (Nat.ne_of_lt hwg_gz1) SS9.out
    have HB10 : Hid (Below w.heap.size w wy1) := by show Below _ _ _; rw [hwy]; exact (HB9.out).setCell (Nat.le_of_lt hwg_gz1) _
    have hd10 : w.heap.size < wy1.heap.size := by rw [hsz_wy1]; exact hd9
    have UN_10 : Hid (RowIn w.heap.size wy1.heap.size wy1 (some ⟨gz1, 0, none⟩) un) := by show RowIn _ _ _ _ _; rw [← HUN.out, hsz_wy1, hwy]; exact unit_in RZ_gz1.out (Nat.le_of_lt hwg_gz1) hgw_gz1 hb0
    have RZ_10 : Hid (RowIn w.heap.size wy1.heap.size wy1 rz (z)) := by show RowIn _ _ _ _ _; rw [hsz_wy1, hwy]; exact (RZ_9.out.far _ (.inr (Nat.le_refl _))).mono (Nat.le_refl _) (Nat.le_of_lt hgw_gz1)
    rw [← hwy]
    clear hwy hsz_wy1 zc zf
    have kc10_0 := SS10.out.1
    have kc10_1 := SS10.out.2
    go_wp2_with (first | (go_at_call 14; (with_reducible refine (times5_any pS aS S cS w0.heap.size w.heap.size ax x cx w0.heap.size w.heap.size rz z kz w.heap.size wy1.heap.size wy1 HI.out (HS.out.below HB10.out tS) (Nat.le_trans tS (HB10.out).size) (Hx.out.below HB10.out tS) (Nat.le_trans tS (HB10.out).size) MX.out RZ_10.out (Nat.le_refl _) M_z.out).mono ?_); rintro e w11 ⟨rp1, kp1, rfl, o_, b_⟩; have SS11 := Lib.hid (And.intro ((b_.cell (p := ⟨w.heap.size, 0, none⟩) hd10).trans SS10.out.1) ((b_.cell (p := ⟨w.heap.size, 1, none⟩) hd10).trans SS10.out.2)); have HB11 := Lib.hid (below_step HB10.out (Nat.le_of_lt hd10) b_); have zz_ := b_.size; have hd11 := Nat.lt_of_lt_of_le hd10 zz_; have RZ_11 := Lib.hid ((RZ_10.out.below b_ (Nat.le_refl _)).mono (Nat.le_refl _) zz_); have UN_11 := Lib.hid ((UN_10.out.below b_ (Nat.le_refl _)).mono (Nat.le_refl _) zz_); rw [E_a.out] at o_ ⊢; have P1_11 := Lib.hid (o_.mono (Nat.le_of_lt hd10) (Nat.le_refl _)); clear o_; have kc11_0 := SS11.out.1; have kc11_1 := SS11.out.2; clear b_) | (go_at_call 9; (with_reducible refine (like_eq rp1 (some ⟨gz1, 0, none⟩) un un kp1 (bl S) w.heap.size w11.heap.size w.heap.size w11.heap.size w11 P1_11.out UN_11.out rfl HUL.out s_un).mono ?_); rintro e w12 ⟨rfl, q_⟩; have b_ := q_.below w11.heap.size; have SS12 := Lib.hid (And.intro ((b_.cell (p := ⟨w.heap.size, 0, none⟩) hd11).trans SS11.out.1) ((b_.cell (p := ⟨w.heap.size, 1, none⟩) hd11).trans SS11.out.2)); have HB12 := Lib.hid (below_step HB11.out (Nat.le_of_lt hd11) b_); have zz_ := b_.size; have hd12 := Nat.lt_of_lt_of_le hd11 zz_; have RZ_12 := Lib.hid ((RZ_11.out.below b_ (Nat.le_refl _)).mono (Nat.le_refl _) zz_); have UN_12 := Lib.hid ((UN_11.out.below b_ (Nat.le_refl _)).mono (Nat.le_refl _) zz_); have P1_12 := Lib.hid ((P1_11.out.below b_ (Nat.le_refl _)).mono (Nat.le_refl _) zz_); have kc12_0 := SS12.out.1; have kc12_1 := SS12.out.2; clear q_; clear b_) | (go_at_call 14; (with_reducible refine (times5_any pS aS S cS w0.heap.size w.heap.size rz z kz w.heap.size w12.heap.size ax x cx w0.heap.size w.heap.size w12 HI.out (HS.out.below HB12.out tS) (Nat.le_trans tS (HB12.out).size) RZ_12.out (Nat.le_refl _) M_z.out (Hx.out.below HB12.out tS) (Nat.le_trans tS (HB12.out).size) MX.out).mono ?_); rintro e w13 ⟨rp2, kp2, rfl, o_, b_⟩; have SS13 := Lib.hid (And.intro ((b_.cell (p := ⟨w.heap.size, 0, none⟩) hd12).trans SS12.out.1) ((b_.cell (p := ⟨w.heap.size, 1, none⟩) hd12).trans SS12.out.2)); have HB13 := Lib.hid (below_step HB12.out (Nat.le_of_lt hd12) b_); have zz_ := b_.size; have hd13 := Nat.lt_of_lt_of_le hd12 zz_; have RZ_13 := Lib.hid ((RZ_12.out.below b_ (Nat.le_refl _)).mono (Nat.le_refl _) zz_); have UN_13 := Lib.hid ((UN_12.out.below b_ (Nat.le_refl _)).mono (Nat.le_refl _) zz_); rw [E_b.out] at o_ ⊢; have P2_13 := Lib.hid (o_.mono (Nat.le_of_lt hd12) (Nat.le_refl _)); clear o_; have kc13_0 := SS13.out.1; have kc13_1 := SS13.out.2; clear b_) | (go_at_call 9; (with_reducible refine (like_eq rp2 (some ⟨gz1, 0, none⟩) un un kp2 (bl S) w.heap.size w13.heap.size w.heap.size w13.heap.size w13 P2_13.out UN_13.out rfl HUL.out s_un).mono ?_); rintro e w14 ⟨rfl, q_⟩; have b_ := q_.below w13.heap.size; have SS14 := Lib.hid (And.intro ((b_.cell (p := ⟨w.heap.size, 0, none⟩) hd13).trans SS13.out.1) ((b_.cell (p := ⟨w.heap.size, 1, none⟩) hd13).trans SS13.out.2)); have HB14 := Lib.hid (below_step HB13.out (Nat.le_of_lt hd13) b_); have zz_ := b_.size; have hd14 := Nat.lt_of_lt_of_le hd13 zz_; have RZ_14 := Lib.hid ((RZ_13.out.below b_ (Nat.le_refl _)).mono (Nat.le_refl _) zz_); have UN_14 := Lib.hid ((UN_13.out.below b_ (Nat.le_refl _)).mono (Nat.le_refl _) zz_); have P2_14 := Lib.hid ((P2_13.out.below b_ (Nat.le_refl _)).mono (Nat.le_refl _) zz_); have kc14_0 := SS14.out.1; have kc14_1 := SS14.out.2; clear q_; clear b_))
    go_ret
    exact ⟨rfl, HB00.out.trans (HB14.out.mono HB00.out.size)⟩

set_option maxRecDepth 100000 in
theorem law_in (a : Option Addr) (len cap : Nat) (zs : List Int) (w : World) (hb : Code8 w a len zs) (hm : len ≤ 9223372036854775807) :
    Calls Tryz.prog 3 #[.slice a len cap] w fun e w' => e = .returned (.bool true) ∧ Below w.heap.size w w' := by
  by_cases hl : len ≤ 4096
  · exact law_in_small a len cap zs w hb hl
  · clear hb
    go_enter Tryz.func3, Tryz.ntmps3
    go_wp2_with (go_at_call 5; refine (big_yes a len cap _ (by omega) hm).mono ?_; rintro e w' ⟨rfl, rfl⟩)
    go_ret
    exact ⟨rfl, Below.refl _ _⟩

end Go.Proofs.YtndneccgomfkdaaGreat
