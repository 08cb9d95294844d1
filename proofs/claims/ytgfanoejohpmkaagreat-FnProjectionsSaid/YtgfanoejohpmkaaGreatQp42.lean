/-
  Contracts and facts that the walk of the law rests on.
  Conditions: those that each theorem names.
-/
import Derived.Test.YtgfanoejohpmkaaGreatQp39
import Derived.Test.YtgfanoejohpmkaaGreatQp37
import Derived.Test.YtgfanoejohpmkaaGreatQp36
import Derived.Deep.RegionHeld3
import Derived.Deep.DeepCutAuto
namespace Go.Proofs.YtgfanoejohpmkaaGreat
open Go.RowKit
set_option linter.unusedVariables false
set_option maxRecDepth 100000 in
set_option maxHeartbeats 6400000 in
theorem splitF_any (pS : Int) (aS : Option Addr) (S : List Int) (cS loS tpS : Nat) (ax : Option Addr) (x : List Int) (cx lox tpx : Nat) (av : Option Addr) (v : List Int) (cv lov tpv : Nat) (w : World) (hS : RowIn loS tpS w aS S) (tS : tpS ≤ w.heap.size) (sS : S.length ≤ 1048576) (hx : RowIn lox tpx w ax x) (tx : tpx ≤ w.heap.size) (sx : x.length ≤ 1048576) (hv : RowIn lov tpv w av v) (tv : tpv ≤ w.heap.size) (sv : v.length ≤ 1048576) :
 Calls Tryz.prog 127 #[.agg #[.int .i64 pS, .slice aS S.length cS], .slice ax x.length cx, .slice av v.length cv, .func (.func 132) #[] #[]] w (ImplR (splFV pS S x v) (codeI pS S x v) w) := by
 have HS := Lib.hid hS
 have Hx := Lib.hid hx
 have Hv := Lib.hid hv
 have HB0 := Lib.hid (below_alloc w (.cells #[.int .i64 pS, .slice aS S.length cS] 26))
 have k0 := nw0 w (.int .i64 pS) (.slice aS S.length cS) 26
 have k1 := nw1 w (.int .i64 pS) (.slice aS S.length cS) 26
 clear hS hx hv
 by_cases hc : codeBV pS S x v = 0
 · have HC := Lib.hid hc
   have hb := codeB_one (codeBV_zero hc).2
   have HI := Lib.hid hb.1
   have HMX := Lib.hid hb.2.1
   have hmv := codeVs_vec (codeBV_zero hc).1
   have HMV := Lib.hid hmv
   have HLV := Lib.hid (isVec_iff.1 hmv).len
   have hfv := field_value
   obtain ⟨Q, hQ⟩ : ∃ q, q = sqX pS S x := ⟨_, rfl⟩
   have HQE := Lib.hid hQ
   clear hb hmv
   by_cases hq : Q = 0
   · have e1 : (Q == 0) = true := by simpa using hq
     have HR : Hid (codeI pS S x v = 5 ∧ splFV pS S x v = []) := by
      have h5 : codeI pS S x v = 5 := by unfold codeI; rw [if_pos hc, if_pos (by rw [← hQ]; exact hq)]
      exact ⟨h5, by unfold splFV; rw [h5, if_neg (by decide)]⟩
     clear hc hq hQ
     go_enter Tryz.func127, Tryz.ntmps127
     obtain ⟨F, hF⟩ : ∃ f, f = facM pS S x := ⟨_, rfl⟩
     have HF := Lib.hid hF
     clear hF
     go_upto_region 2 with (go_at_call 133; ((with_reducible refine (checkBV_y pS aS S cS loS tpS ax x cx lox tpx av v cv lov tpv _ (HS.out.below HB0.out tS) (Nat.le_trans tS HB0.out.size) sS (Hx.out.below HB0.out tx) (Nat.le_trans tx HB0.out.size) sx (Hv.out.below HB0.out tv) (Nat.le_trans tv HB0.out.size) sv HC.out).mono ?_); rintro e w2 ⟨r0, k0_, rfl, oo_, b_⟩; rw [← HF.out]; have OO := Lib.hid oo_; have HB2 := Lib.hid (below_step HB0.out HB0.out.size b_); have k0' := (b_.cell (p := ⟨w.heap.size, 0, none⟩) (lt_alloc w (.cells #[.int .i64 pS, .slice aS S.length cS] 26))).trans k0; have k1' := (b_.cell (p := ⟨w.heap.size, 1, none⟩) (lt_alloc w (.cells #[.int .i64 pS, .slice aS S.length cS] 26))).trans k1; have hd2 := Nat.lt_of_lt_of_le (lt_alloc w (.cells #[.int .i64 pS, .slice aS S.length cS] 26)) b_.size; clear oo_ b_ k0 k1))
     obtain ⟨w3, hw3⟩ : ∃ z, z = w2.alloc (.cells #[.int .i64 pS, .slice aS S.length cS, .slice ax x.length cx, .slice r0 (subM pS S x).length k0_, .int .i64 F] 115) := ⟨_, rfl⟩
     obtain ⟨gB, hgB⟩ : ∃ b, b = w2.heap.size := ⟨_, rfl⟩
     have hzz : Z5 gB (.int .i64 pS) (.slice aS S.length cS) (.slice ax x.length cx) (.slice r0 (subM pS S x).length k0_) (.int .i64 F) w3 := by rw [hw3, hgB]; exact Z5.new _ _ _ _ _ _ _
     have HB3 : Hid (Below w.heap.size w w3) := by show Below _ _ _; rw [hw3]; exact HB2.out.alloc HB2.out.size _
     have OO3 : Hid (OwnM w.heap.size w3.heap.size w3 r0 (subM pS S x)) := by show OwnM _ _ _ _ _; rw [hw3]; exact (OO.out.below (below_alloc w2 _) (Nat.le_refl _)).mono (Nat.le_of_lt (lt_alloc w (.cells #[.int .i64 pS, .slice aS S.length cS] 26))) (size_alloc w2 _)
     have k03 : w3.cell? ⟨w.heap.size, 0, none⟩ = some (.int .i64 pS) := by rw [hw3]; exact (World.cell?_alloc_old _ _ _ (show w.heap.size ≠ w2.heap.size by omega)).trans k0'
     have k13 : w3.cell? ⟨w.heap.size, 1, none⟩ = some (.slice aS S.length cS) := by rw [hw3]; exact (World.cell?_alloc_old _ _ _ (show w.heap.size ≠ w2.heap.size by omega)).trans k1'
     have hd3 : w.heap.size < w3.heap.size := by rw [hw3]; simp; omega
     have hgB3 : gB < w3.heap.size := by rw [hw3, hgB]; simp
     rw [← hw3, ← hgB]
     clear hw3 hgB k0' k1'
     have hzz5 := Lib.hid hzz
     obtain ⟨⟨y0, y1, y2, y3, y4⟩, _⟩ := hzz
     go_wp2_with (go_at_call 136; ((with_reducible refine (squareX_any' pS aS S cS loS tpS ax x cx lox tpx w3 HI.out (HS.out.below HB3.out tS) (Nat.le_trans tS HB3.out.size) (Hx.out.below HB3.out tx) (Nat.le_trans tx HB3.out.size) HMX.out).mono ?_); rintro e w4 ⟨rfl, b_⟩; rw [← HQE.out]; have B4 := Lib.hid (below_step HB3.out HB3.out.size b_); have k04 := (b_.cell (p := ⟨w.heap.size, 0, none⟩) hd3).trans k03; have k14 := (b_.cell (p := ⟨w.heap.size, 1, none⟩) hd3).trans k13; have hz4 := b_.size; obtain ⟨⟨z0, z1, z2, z3, z4⟩, _⟩ := hzz5.out.below b_ hgB3; clear b_ k03 k13))
     go_ret2
     rw [HR.out.2, HR.out.1]
     exact ⟨none, 0, rfl, .inl rfl, B4.out⟩
   · have e1 : (Q == 0) = false := by simpa using hq
     have HR : Hid (codeI pS S x v = 0 ∧ splFV pS S x v = mkR v.length (splFF pS S x v)) := by
      have h5 : codeI pS S x v = 0 := by unfold codeI; rw [if_pos hc, if_neg (by rw [← hQ]; exact hq)]
      exact ⟨h5, by unfold splFV; rw [if_pos h5]⟩
     clear hc hq hQ
     go_enter Tryz.func127, Tryz.ntmps127
     obtain ⟨F, hF⟩ : ∃ f, f = facM pS S x := ⟨_, rfl⟩
     have HF := Lib.hid hF
     clear hF
     go_upto_region 2 with (go_at_call 133; ((with_reducible refine (checkBV_y pS aS S cS loS tpS ax x cx lox tpx av v cv lov tpv _ (HS.out.below HB0.out tS) (Nat.le_trans tS HB0.out.size) sS (Hx.out.below HB0.out tx) (Nat.le_trans tx HB0.out.size) sx (Hv.out.below HB0.out tv) (Nat.le_trans tv HB0.out.size) sv HC.out).mono ?_); rintro e w2 ⟨r0, k0_, rfl, oo_, b_⟩; rw [← HF.out]; have OO := Lib.hid oo_; have HB2 := Lib.hid (below_step HB0.out HB0.out.size b_); have k0' := (b_.cell (p := ⟨w.heap.size, 0, none⟩) (lt_alloc w (.cells #[.int .i64 pS, .slice aS S.length cS] 26))).trans k0; have k1' := (b_.cell (p := ⟨w.heap.size, 1, none⟩) (lt_alloc w (.cells #[.int .i64 pS, .slice aS S.length cS] 26))).trans k1; have hd2 := Nat.lt_of_lt_of_le (lt_alloc w (.cells #[.int .i64 pS, .slice aS S.length cS] 26)) b_.size; clear oo_ b_ k0 k1))
     obtain ⟨w3, hw3⟩ : ∃ z, z = w2.alloc (.cells #[.int .i64 pS, .slice aS S.length cS, .slice ax x.length cx, .slice r0 (subM pS S x).length k0_, .int .i64 F] 115) := ⟨_, rfl⟩
     obtain ⟨gB, hgB⟩ : ∃ b, b = w2.heap.size := ⟨_, rfl⟩
     have hzz : Z5 gB (.int .i64 pS) (.slice aS S.length cS) (.slice ax x.length cx) (.slice r0 (subM pS S x).length k0_) (.int .i64 F) w3 := by rw [hw3, hgB]; exact Z5.new _ _ _ _ _ _ _
     have HB3 : Hid (Below w.heap.size w w3) := by show Below _ _ _; rw [hw3]; exact HB2.out.alloc HB2.out.size _
     have OO3 : Hid (OwnM w.heap.size w3.heap.size w3 r0 (subM pS S x)) := by show OwnM _ _ _ _ _; rw [hw3]; exact (OO.out.below (below_alloc w2 _) (Nat.le_refl _)).mono (Nat.le_of_lt (lt_alloc w (.cells #[.int .i64 pS, .slice aS S.length cS] 26))) (size_alloc w2 _)
     have k03 : w3.cell? ⟨w.heap.size, 0, none⟩ = some (.int .i64 pS) := by rw [hw3]; exact (World.cell?_alloc_old _ _ _ (show w.heap.size ≠ w2.heap.size by omega)).trans k0'
     have k13 : w3.cell? ⟨w.heap.size, 1, none⟩ = some (.slice aS S.length cS) := by rw [hw3]; exact (World.cell?_alloc_old _ _ _ (show w.heap.size ≠ w2.heap.size by omega)).trans k1'
     have hd3 : w.heap.size < w3.heap.size := by rw [hw3]; simp; omega
     have hgB3 : gB < w3.heap.size := by rw [hw3, hgB]; simp
     rw [← hw3, ← hgB]
     clear hw3 hgB k0' k1'
     have hzz5 := Lib.hid hzz
     obtain ⟨⟨y0, y1, y2, y3, y4⟩, _⟩ := hzz
     go_upto_region 7 with (first | (go_at_call 136; ((with_reducible refine (squareX_any' pS aS S cS loS tpS ax x cx lox tpx w3 HI.out (HS.out.below HB3.out tS) (Nat.le_trans tS HB3.out.size) (Hx.out.below HB3.out tx) (Nat.le_trans tx HB3.out.size) HMX.out).mono ?_); rintro e w4 ⟨rfl, b_⟩; rw [← HQE.out]; have B4 := Lib.hid (below_step HB3.out HB3.out.size b_); have k04 := (b_.cell (p := ⟨w.heap.size, 0, none⟩) hd3).trans k03; have k14 := (b_.cell (p := ⟨w.heap.size, 1, none⟩) hd3).trans k13; have hz4 := b_.size; obtain ⟨⟨z0, z1, z2, z3, z4⟩, _⟩ := hzz5.out.below b_ hgB3; clear b_ k03 k13)) | (go_at_call 211; ((with_reducible refine (projection_any pS aS S cS loS tpS ax x cx lox tpx av v cv lov tpv r0 (subM pS S x).length k0_ F w4 HI.out (HS.out.below B4.out tS) (Nat.le_trans tS B4.out.size) (Hx.out.below B4.out tx) (Nat.le_trans tx B4.out.size) HMX.out (Hv.out.below B4.out tv) (Nat.le_trans tv B4.out.size) HMV.out).mono ?_); rintro e w5 ⟨g, rfl, l_, u_, o_, b_⟩; have OP := Lib.hid o_; have B5 := Lib.hid (below_step B4.out B4.out.size b_); have hd4 := Nat.lt_of_lt_of_le hd3 hz4; have k05 := (b_.cell (p := ⟨w.heap.size, 0, none⟩) hd4).trans k04; have k15 := (b_.cell (p := ⟨w.heap.size, 1, none⟩) hd4).trans k14; have hg0 := Nat.lt_of_lt_of_le hd4 l_; have hd5 := Nat.lt_of_lt_of_le hd4 b_.size; clear o_ b_ k04 k14 z0 z1 z2 z3 z4)))
     have K5 := Lib.hid (And.intro k05 k15)
     have hvl6 : v.length ≤ 6 := by rw [HLV.out]; exact (isSp_iff.1 HI.out).hi
     have hpb := prm_bd (isSp_iff.1 HI.out).prime
     have HP := Lib.hid (isSp_iff.1 HI.out).prime
     have HVN : Hid (∀ j, j < v.length → 0 ≤ v.getD j 0 ∧ v.getD j 0 < pS) := fun j hj => (isVec_iff.1 HMV.out).num' (by rw [← HLV.out]; exact hj)
     clear k05 k15 y0 y1 y2 y3 y4 hz4
     go_wp2
     go_loopw [36] (fun t wr => ∃ i : Nat, i ≤ v.length ∧ t = .int .i64 i ∧ RowOwn wr g 0 v.length (fun j => if j < i then splFF pS S x v j else prjF pS S x v j) ∧ (wr.cell? ⟨w.heap.size, 0, none⟩ = some (.int .i64 pS) ∧ wr.cell? ⟨w.heap.size, 1, none⟩ = some (.slice aS S.length cS)) ∧ Below w.heap.size w wr ∧ w5.heap.size ≤ wr.heap.size) (fun t _ => v.length - (intOf t).toNat)
     case atStart => exact ⟨0, Nat.zero_le _, rfl, OP.out.congr (fun j _ => (if_neg (Nat.not_lt_zero j)).symm), K5.out, B5.out, Nat.le_refl _⟩
     case round =>
      obtain ⟨i, hi, rfl, hr, hk, hbel, hz⟩ := hrel
      have HR2 := Lib.hid hr
      have HK := Lib.hid hk
      have HB := Lib.hid hbel
      have hbz := hbel.size
      by_cases hlt : i < v.length
      · obtain ⟨bv, ov, hav, _, huv, hcv⟩ := (Hv.out.below hbel tv).num hlt
        subst hav
        have c0 := hr.cell i hlt
        rw [Nat.zero_add] at c0
        rw [if_neg (Nat.lt_irrefl i)] at c0
        obtain ⟨A, hA⟩ : ∃ q, q = prjF pS S x v i := ⟨_, rfl⟩
        obtain ⟨Bv, hBv⟩ : ∃ q, q = v.getD i 0 := ⟨_, rfl⟩
        obtain ⟨A0, A1⟩ : 0 ≤ A ∧ A < pS := by rw [hA]; exact prjF_bd (by omega) _ _ _ _
        obtain ⟨V0, V1⟩ : 0 ≤ Bv ∧ Bv < pS := by rw [hBv]; exact HVN.out i hlt
        rw [← hA] at c0
        rw [← hBv] at hcv
        have HAE := Lib.hid hA
        have HBE := Lib.hid hBv
        obtain ⟨D0, D1⟩ : 0 ≤ (Bv - A) % pS ∧ (Bv - A) % pS < pS := ⟨Int.emod_nonneg _ (by omega), Int.emod_lt_of_pos _ (by omega)⟩
        have HGF : Hid (splFF pS S x v i = splF pS A ((Bv - A) % pS)) := by show _ = _; rw [hA, hBv]; rfl
        have hi1 : (i : Int) < (v.length : Int) := by omega
        have k0 := hk.1
        clear hr hk hbel hA hBv
        go_upto_region 11 with fail
        clear c0 k0
        obtain ⟨w6, hw6⟩ : ∃ z, z = wr.alloc (.cells #[.int .i64 pS, .int .i64 A] 84) := ⟨_, rfl⟩
        obtain ⟨gi, hgi⟩ : ∃ b, b = wr.heap.size := ⟨_, rfl⟩
        have hgi1 : gi < w6.drew.heap.size := by show gi < w6.heap.size; rw [hw6, hgi]; simp
        have q0 : w6.drew.cell? ⟨gi, 0, none⟩ = some (.int .i64 pS) := by show w6.cell? _ = _; rw [hw6, hgi]; simp [go_sem]
        have q1 : w6.drew.cell? ⟨gi, 1, none⟩ = some (.int .i64 A) := by show w6.cell? _ = _; rw [hw6, hgi]; simp [go_sem]
        have B6 : Hid (Below wr.heap.size wr w6.drew) := by show Below _ _ _; rw [hw6]; exact (balloc wr _).drew
        have hwr : w.heap.size < wr.heap.size := Nat.lt_of_lt_of_le hd5 hz
        have hgr : g < wr.heap.size := Nat.lt_of_lt_of_le u_ hz
        have hbvr : bv < wr.heap.size := Nat.lt_of_lt_of_le huv (Nat.le_trans tv hbz)
        have q2 := (B6.out.cell (p := ⟨w.heap.size, 0, none⟩) hwr).trans HK.out.1
        have q3 := (B6.out.cell (p := ⟨bv, ov + i, none⟩) hbvr).trans hcv
        have hs1 : Hid (Q4 w.heap.size gi bv (ov + i) pS A Bv w6.drew) := ⟨q2, q3, q0, q1⟩
        have hl4 : w.heap.size < w6.drew.heap.size ∧ gi < w6.drew.heap.size ∧ bv < w6.drew.heap.size := ⟨Nat.lt_of_lt_of_le hwr B6.out.size, hgi1, Nat.lt_of_lt_of_le hbvr B6.out.size⟩
        have hng : w.heap.size ≠ g ∧ gi ≠ g ∧ bv ≠ g := ⟨Nat.ne_of_lt hg0, by omega, by omega⟩
        have hc6 := (HR2.out.stay (B6.out.block g hgr))
        rw [← hw6, ← hgi]
        clear hw6 hgi q0 q1 q2 q3 hcv
        go_region_held3 (fun w' => w'.cell? ⟨w.heap.size, 0, none⟩ = some (.int .i64 pS) ∧ w'.cell? ⟨bv, ov + i, none⟩ = some (.int .i64 Bv) ∧ w'.cell? ⟨gi, 0, none⟩ = some (.int .i64 pS) ∧ w'.cell? ⟨gi, 1, none⟩ = some (.int .i64 A)) (first | exact hs1.out | exact SSa.out | exact SSb.out | exact SSc.out | go_keep) (first | (go_at_call 132; ((with_reducible refine (minus_any pS Bv A w6.drew HP.out V0 V1 A0 (by omega)).mono ?_); rintro e wa ⟨rfl, b_⟩; have SSa := Lib.hid (hs1.out.below b_ hl4); have hla := And.intro (Nat.lt_of_lt_of_le hl4.1 b_.size) (And.intro (Nat.lt_of_lt_of_le hl4.2.1 b_.size) (Nat.lt_of_lt_of_le hl4.2.2 b_.size)); have Ba := Lib.hid (B6.out.trans (b_.mono B6.out.size)); clear b_)) | (go_at_call 132; ((with_reducible refine (op_F pS A ((Bv - A) % pS) wa HP.out A0 A1 D0 D1).mono ?_); rintro e wb ⟨rfl, b_⟩; have SSb := Lib.hid (SSa.out.below b_ hla); have Bb := Lib.hid (Ba.out.trans (b_.mono Ba.out.size)); have hcb := HR2.out.stay (Bb.out.block g hgr); have c0 := hcb.cell i hlt; have f0 := hcb.free i hlt; rw [Nat.zero_add] at c0 f0; rw [if_neg (Nat.lt_irrefl i)] at c0; have SSc := Lib.hid (SSb.out.put (j := i) (u := .int .i64 (splF pS A ((Bv - A) % pS))) hng); clear b_)))
        all_goals
         go_wp2
         go_roundw
         case rel => exact ⟨i + 1, by omega, by go_num, row_put0 hcb hlt (fun j _ => by
          by_cases e : j = i
          · subst e; rw [if_pos rfl, if_pos (Nat.lt_succ_self _), HGF.out]
          · rw [if_neg e]
            by_cases e3 : j < i
            · rw [if_pos e3, if_pos (by omega)]
            · rw [if_neg e3, if_neg (by omega)]), ⟨(World.cell?_setCell_other wb ⟨g, i, none⟩ ⟨w.heap.size, 0, none⟩ _ (fun e => hng.1 (by injection e with e1; exact e1.symm))).trans SSb.out.1, (World.cell?_setCell_other wb ⟨g, i, none⟩ ⟨w.heap.size, 1, none⟩ _ (fun e => hng.1 (by injection e with e1; exact e1.symm))).trans ((Bb.out.cell (p := ⟨w.heap.size, 1, none⟩) hwr).trans HK.out.2)⟩, (HB.out.trans (Bb.out.mono hbz)).setCell (Nat.le_of_lt hg0) _, by have := Bb.out.size; simp [World.setCell]; omega⟩
         case measure => simp [intOf]; omega
      · have hin : i = v.length := by omega
        subst hin
        have HRN : Hid (RowOwn wr g 0 v.length (splFF pS S x v)) := hr.congr (fun j hj => if_pos hj)
        have hgw : g < wr.heap.size := Nat.lt_of_lt_of_le u_ hz
        clear hr hk hbel
        go_wp2
        go_ret2
        rw [HR.out.2, HR.out.1]
        exact ImplR.new HRN.out (Nat.le_of_lt hg0) hgw HB.out
 · have HC := Lib.hid hc
   have HR : Hid (codeI pS S x v = codeBV pS S x v ∧ splFV pS S x v = []) := by
    have h5 : codeI pS S x v = codeBV pS S x v := if_neg hc
    exact ⟨h5, by unfold splFV; rw [h5, if_neg hc]⟩
   clear hc
   obtain ⟨C, hC⟩ : ∃ c, c = codeBV pS S x v := ⟨_, rfl⟩
   have hc1 : (C != 0) = true := by rw [hC]; simpa using HC.out
   have HCE := Lib.hid hC
   clear hC
   go_enter Tryz.func127, Tryz.ntmps127
   go_wp2_with (go_at_call 133; ((with_reducible refine (checkBV_n pS aS S cS loS tpS ax x cx lox tpx av v cv lov tpv _ (HS.out.below HB0.out tS) (Nat.le_trans tS HB0.out.size) sS (Hx.out.below HB0.out tx) (Nat.le_trans tx HB0.out.size) sx (Hv.out.below HB0.out tv) (Nat.le_trans tv HB0.out.size) sv HC.out).mono ?_); rintro e w2 ⟨rfl, b_⟩; rw [← HCE.out]; have HB2 := Lib.hid (below_step HB0.out HB0.out.size b_); clear b_ k0 k1))
   go_ret2
   rw [HR.out.2, HR.out.1, ← HCE.out]
   exact ⟨none, 0, rfl, .inl rfl, HB2.out.alloc HB2.out.size _⟩
set_option maxRecDepth 100000 in
set_option maxHeartbeats 1600000 in
theorem impl_ReflectInBlade (pS : Int) (aS : Option Addr) (S : List Int) (cS loS tpS : Nat) (ax : Option Addr) (x : List Int) (cx lox tpx : Nat) (av : Option Addr) (v : List Int) (cv lov tpv : Nat) (w : World) (hS : RowIn loS tpS w aS S) (tS : tpS ≤ w.heap.size) (sS : S.length ≤ 1048576) (hx : RowIn lox tpx w ax x) (tx : tpx ≤ w.heap.size) (sx : x.length ≤ 1048576) (hv : RowIn lov tpv w av v) (tv : tpv ≤ w.heap.size) (sv : v.length ≤ 1048576) :
 Calls Tryz.prog 39 #[.agg #[.int .i64 pS, .slice aS S.length cS], .slice ax x.length cx, .slice av v.length cv] w (ImplR (splFV pS S x v) (codeI pS S x v) w) := by
 have HS := Lib.hid hS
 have Hx := Lib.hid hx
 have Hv := Lib.hid hv
 clear hS hx hv
 go_enter Tryz.func39, Tryz.ntmps39
 go_wp2_with (first | (go_at_call 127; (with_reducible refine (splitF_any pS aS S cS loS tpS ax x cx lox tpx av v cv lov tpv _ (HS.out.below ((Below.refl _ _).alloc (Nat.le_refl _) (.cells #[.int .i64 pS, .slice aS S.length cS] 26)) tS) (Nat.le_trans tS (((Below.refl _ _).alloc (Nat.le_refl _) (.cells #[.int .i64 pS, .slice aS S.length cS] 26))).size) sS (Hx.out.below ((Below.refl _ _).alloc (Nat.le_refl _) (.cells #[.int .i64 pS, .slice aS S.length cS] 26)) tx) (Nat.le_trans tx (((Below.refl _ _).alloc (Nat.le_refl _) (.cells #[.int .i64 pS, .slice aS S.length cS] 26))).size) sx (Hv.out.below ((Below.refl _ _).alloc (Nat.le_refl _) (.cells #[.int .i64 pS, .slice aS S.length cS] 26)) tv) (Nat.le_trans tv (((Below.refl _ _).alloc (Nat.le_refl _) (.cells #[.int .i64 pS, .slice aS S.length cS] 26))).size) sv).mono ?_); rintro e w2 ⟨r2, c2, rfl, o2, b2⟩; have B2 := Lib.hid b2; have K2_0_0 := (b2.cell (p := ⟨w.heap.size, 0, none⟩) (Nat.lt_of_lt_of_le (show w.heap.size < (w.alloc (.cells #[.int .i64 pS, .slice aS S.length cS] 26)).heap.size by simp) (Nat.le_refl _))).trans (show (w.alloc (.cells #[.int .i64 pS, .slice aS S.length cS] 26)).cell? ⟨w.heap.size, 0, none⟩ = some (.int .i64 pS) by simp [go_sem]); have K2_0_1 := (b2.cell (p := ⟨w.heap.size, 1, none⟩) (Nat.lt_of_lt_of_le (show w.heap.size < (w.alloc (.cells #[.int .i64 pS, .slice aS S.length cS] 26)).heap.size by simp) (Nat.le_refl _))).trans (show (w.alloc (.cells #[.int .i64 pS, .slice aS S.length cS] 26)).cell? ⟨w.heap.size, 1, none⟩ = some (.slice aS S.length cS) by simp [go_sem]); have O2 := Lib.hid o2; clear o2; clear b2))
 go_ret2
 exact ⟨_, _, rfl, OwnR.mono' O2.out (show w.heap.size ≤ (w.alloc (.cells #[.int .i64 pS, .slice aS S.length cS] 26)).heap.size from (((Below.refl _ _).alloc (Nat.le_refl _) (.cells #[.int .i64 pS, .slice aS S.length cS] 26))).size) (Nat.le_refl _), (below_step ((Below.refl _ _).alloc (Nat.le_refl _) (.cells #[.int .i64 pS, .slice aS S.length cS] 26)) (show w.heap.size ≤ (w.alloc (.cells #[.int .i64 pS, .slice aS S.length cS] 26)).heap.size from (((Below.refl _ _).alloc (Nat.le_refl _) (.cells #[.int .i64 pS, .slice aS S.length cS] 26))).size) B2.out)⟩
end Go.Proofs.YtgfanoejohpmkaaGreat