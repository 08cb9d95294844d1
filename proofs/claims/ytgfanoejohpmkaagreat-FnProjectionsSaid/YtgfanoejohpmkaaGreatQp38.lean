/-
  Contracts and facts that the walk of the law rests on.
  Conditions: those that each theorem names.
-/
import Derived.Test.YtgfanoejohpmkaaGreatQp37
import Derived.Deep.RegionHeld3
import Derived.Deep.DeepCutAuto
import Derived.Test.YtgfanoejohpmkaaGreatQp32
import Derived.Test.YtgfanoejohpmkaaGreatQp26
import Derived.Test.YtgfanoejohpmkaaGreatQp6
import Derived.Test.YtgfanoejohpmkaaGreatQp11
import Derived.Test.YtgfanoejohpmkaaGreatQp3
import Derived.Test.YtgfanoejohpmkaaGreatQp2
import Derived.Test.YtgfanoejohpmkaaGreatQp34
import Derived.Test.YtgfanoejohpmkaaGreatQp10
import Derived.Test.YtgfanoejohpmkaaGreatQp23
import Derived.Test.YtgfanoejohpmkaaGreatQp22
namespace Go.Proofs.YtgfanoejohpmkaaGreat
open Go.RowKit
set_option linter.unusedVariables false
noncomputable def codeBV (p : Int) (S x v : List Int) : Int := if codeVs p S [v] = 0 then codeB p S [x] else codeVs p S [v]
theorem checkBlade_y (pS : Int) (aS : Option Addr) (S : List Int) (cS loS tpS : Nat) (ax : Option Addr) (x : List Int) (cx lox tpx : Nat) (w : World) (hS : RowIn loS tpS w aS S) (tS : tpS ≤ w.heap.size) (sS : S.length ≤ 1048576) (hx : RowIn lox tpx w ax x) (tx : tpx ≤ w.heap.size) (sx : x.length ≤ 1048576) (hc : codeB pS S [x] = 0) :
 Calls Tryz.prog 135 #[.agg #[.int .i64 pS, .slice aS S.length cS], .slice ax x.length cx] w fun e w' => ∃ (r : Option Addr) (k : Nat), e = .returned (.tuple #[.agg #[.int .i64 pS, .slice aS S.length cS, .slice ax x.length cx, .slice r (subM pS S x).length k, .int .i64 (facM pS S x)], .int .i64 0]) ∧ OwnM w.heap.size w'.heap.size w' r (subM pS S x) ∧ Below w.heap.size w w' :=
 (checkBlade_any pS aS S cS loS tpS ax x cx lox tpx w hS tS sS hx tx sx).mono fun _ _ h => by
  rcases h with ⟨_, h⟩ | ⟨h, _⟩
  · exact h
  · exact absurd hc h
theorem checkBlade_n (pS : Int) (aS : Option Addr) (S : List Int) (cS loS tpS : Nat) (ax : Option Addr) (x : List Int) (cx lox tpx : Nat) (w : World) (hS : RowIn loS tpS w aS S) (tS : tpS ≤ w.heap.size) (sS : S.length ≤ 1048576) (hx : RowIn lox tpx w ax x) (tx : tpx ≤ w.heap.size) (sx : x.length ≤ 1048576) (hc : codeB pS S [x] ≠ 0) :
 Calls Tryz.prog 135 #[.agg #[.int .i64 pS, .slice aS S.length cS], .slice ax x.length cx] w fun e w' => e = .returned (.tuple #[.agg #[.int .i64 0, .slice none 0 0, .slice none 0 0, .slice none 0 0, .int .i64 0], .int .i64 (codeB pS S [x])]) ∧ Below w.heap.size w w' :=
 (checkBlade_any pS aS S cS loS tpS ax x cx lox tpx w hS tS sS hx tx sx).mono fun _ _ h => by
  rcases h with ⟨h, _⟩ | ⟨_, h⟩
  · exact absurd h hc
  · exact h
theorem checkV1b (p : Int) (aS : Option Addr) (S : List Int) (cS loS tpS : Nat) (av : Option Addr) (v : List Int) (cv lov tpv b cap : Nat) (W : World) (T : TypeId) (hb : b = W.heap.size) (hS : RowIn loS tpS W aS S) (tS : tpS ≤ W.heap.size) (sS : S.length ≤ 1048576) (hv : RowIn lov tpv W av v) (tv : tpv ≤ W.heap.size) (sv : v.length ≤ 1048576) :
 Calls Tryz.prog 104 #[.agg #[.int .i64 p, .slice aS S.length cS], .slice (some ⟨b, 0, none⟩) 1 cap] (W.alloc (.cells #[.slice av v.length cv] T)) fun e w' => e = .returned (.int .i64 (codeVs p S [v])) ∧ Below W.heap.size W w' :=
 (checkVectors_any p aS S cS loS tpS (some ⟨b, 0, none⟩) [v] cap 0 _ _ (hS.below (below_alloc W _) tS) (Nat.le_trans tS (size_alloc W _)) sS (mv_one hb hv tv T) (Nat.le_refl _) (by show 1 ≤ 1048576; omega) (fun i hi => by match i, hi with | 0, _ => exact sv)).mono fun _ _ h => ⟨h.1, below_step (below_alloc W _) (size_alloc W _) h.2⟩
set_option maxRecDepth 100000 in
set_option maxHeartbeats 3200000 in
theorem checkBladeAndVector_any (pS : Int) (aS : Option Addr) (S : List Int) (cS loS tpS : Nat) (ax : Option Addr) (x : List Int) (cx lox tpx : Nat) (av : Option Addr) (v : List Int) (cv lov tpv : Nat) (w : World) (hS : RowIn loS tpS w aS S) (tS : tpS ≤ w.heap.size) (sS : S.length ≤ 1048576) (hx : RowIn lox tpx w ax x) (tx : tpx ≤ w.heap.size) (sx : x.length ≤ 1048576) (hv : RowIn lov tpv w av v) (tv : tpv ≤ w.heap.size) (sv : v.length ≤ 1048576) :
 Calls Tryz.prog 133 #[.agg #[.int .i64 pS, .slice aS S.length cS], .slice ax x.length cx, .slice av v.length cv] w (ChB pS aS S cS ax x cx (codeBV pS S x v) w) := by
 have HS := Lib.hid hS
 have Hx := Lib.hid hx
 have Hv := Lib.hid hv
 have HB0 := Lib.hid (below_alloc w (.cells #[.int .i64 pS, .slice aS S.length cS] 26))
 have k0 := nw0 w (.int .i64 pS) (.slice aS S.length cS) 26
 have k1 := nw1 w (.int .i64 pS) (.slice aS S.length cS) 26
 clear hS hx hv
 by_cases hc : codeVs pS S [v] = 0
 · have HC := Lib.hid hc
   have HBV : Hid (codeBV pS S x v = codeB pS S [x]) := by show _ = _; unfold codeBV; rw [if_pos hc]
   rw [HBV.out]
   clear hc
   by_cases hcb : codeB pS S [x] = 0
   · have HCB := Lib.hid hcb
     clear hcb
     go_enter Tryz.func133, Tryz.ntmps133
     go_upto_region 1 with fail
     obtain ⟨w0, hw0'⟩ : ∃ z, z = w.alloc (.cells #[.int .i64 pS, .slice aS S.length cS] 26) := ⟨_, rfl⟩
     rw [← hw0'] at HB0 k0 k1 ⊢
     have hw0 : w.heap.size < w0.heap.size := by rw [hw0']; simp
     have hwz : w.heap.size + 1 = w0.heap.size := by rw [hw0']; simp
     try rw [hwz]
     clear hw0'
     obtain ⟨w1, hw1⟩ : ∃ z, z = w0.alloc (.cells #[.int .i64 0, .slice none 0 0, .slice none 0 0, .slice none 0 0, .int .i64 0] 115) := ⟨_, rfl⟩
     obtain ⟨g, hg⟩ : ∃ b, b = w0.heap.size := ⟨_, rfl⟩
     have hs0 : w1.cell? ⟨w.heap.size, 0, none⟩ = some (.int .i64 pS) ∧ w1.cell? ⟨w.heap.size, 1, none⟩ = some (.slice aS S.length cS) := by rw [hw1]; exact ss2x (below_alloc w0 _) hw0 ⟨k0, k1⟩
     have hzz : Z5 g (.int .i64 0) (.slice none 0 0) (.slice none 0 0) (.slice none 0 0) (.int .i64 0) w1 := by rw [hw1, hg]; exact Z5.new _ _ _ _ _ _ _
     have HB1 : Hid (Below w.heap.size w w1) := by show Below _ _ _; rw [hw1]; exact HB0.out.alloc HB0.out.size _
     have hg1 : g < w1.heap.size := by rw [hw1, hg]; simp
     have hwg : w.heap.size < g := by omega
     have hd1 : w.heap.size < w1.heap.size := Nat.lt_trans hwg hg1
     rw [← hw1]
     rw [← hg]
     clear hw1 hwz hg k0 k1
     have k0 := hs0.1
     have k1 := hs0.2
     have K1 := Lib.hid hs0
     have ZZ := Lib.hid hzz
     clear hs0 hzz
     go_upto_region 4 with (go_at_call 104; ((with_reducible refine (checkV1b pS aS S cS loS tpS av v cv lov tpv _ _ w1 _ rfl (HS.out.below HB1.out tS) (Nat.le_trans tS HB1.out.size) sS (Hv.out.below HB1.out tv) (Nat.le_trans tv HB1.out.size) sv).mono ?_); rintro e w2 ⟨rfl, b_⟩; rw [HC.out]; have HB2 := Lib.hid (HB1.out.trans (b_.mono (Nat.le_of_lt hd1))); have k0' := (b_.cell (p := ⟨w.heap.size, 0, none⟩) hd1).trans k0; have k1' := (b_.cell (p := ⟨w.heap.size, 1, none⟩) hd1).trans k1; have hd2 := Nat.lt_of_lt_of_le hd1 b_.size; have gd2 := Nat.lt_of_lt_of_le hg1 b_.size; have ZZ2 := Lib.hid (ZZ.out.below b_ hg1); clear b_ k0 k1))
     go_wp2_with (go_at_call 135; ((with_reducible refine (checkBlade_y pS aS S cS loS tpS ax x cx lox tpx w2 (HS.out.below HB2.out tS) (Nat.le_trans tS HB2.out.size) sS (Hx.out.below HB2.out tx) (Nat.le_trans tx HB2.out.size) sx HCB.out).mono ?_); rintro e w3 ⟨r0, k0_, rfl, oo_, b_⟩; have OO := Lib.hid oo_; have B3 := Lib.hid b_; obtain ⟨⟨z0, z1, z2, z3, z4⟩, y0, y1, y2, y3, y4⟩ := ZZ2.out.below b_ gd2; obtain ⟨F, hF⟩ : ∃ f, f = facM pS S x := ⟨_, rfl⟩; have HF := Lib.hid hF; rw [← hF]; clear oo_ b_ hF k0' k1'))
     refine bodyPost_ret (v := .tuple #[.agg #[.int .i64 pS, .slice aS S.length cS, .slice ax x.length cx, .slice r0 (subM pS S x).length k0_, .int .i64 F], .int .i64 0]) (by simp [results, Tryz.results133, go_sem, z0, z1, z2, z3, z4]) rfl (.inl ⟨HCB.out, r0, k0_, by rw [← HF.out], ?_, ?_⟩)
     · exact (OO.out.put5 (g := g) gd2).mono (Nat.le_of_lt hd2) (by simp [World.setCell])
     · exact below_put5 (HB2.out.trans (B3.out.mono (Nat.le_of_lt hd2))) (Nat.le_of_lt hwg)
   · have HCB := Lib.hid hcb
     clear hcb
     go_enter Tryz.func133, Tryz.ntmps133
     go_upto_region 1 with fail
     obtain ⟨w0, hw0'⟩ : ∃ z, z = w.alloc (.cells #[.int .i64 pS, .slice aS S.length cS] 26) := ⟨_, rfl⟩
     rw [← hw0'] at HB0 k0 k1 ⊢
     have hw0 : w.heap.size < w0.heap.size := by rw [hw0']; simp
     have hwz : w.heap.size + 1 = w0.heap.size := by rw [hw0']; simp
     try rw [hwz]
     clear hw0'
     obtain ⟨w1, hw1⟩ : ∃ z, z = w0.alloc (.cells #[.int .i64 0, .slice none 0 0, .slice none 0 0, .slice none 0 0, .int .i64 0] 115) := ⟨_, rfl⟩
     obtain ⟨g, hg⟩ : ∃ b, b = w0.heap.size := ⟨_, rfl⟩
     have hs0 : w1.cell? ⟨w.heap.size, 0, none⟩ = some (.int .i64 pS) ∧ w1.cell? ⟨w.heap.size, 1, none⟩ = some (.slice aS S.length cS) := by rw [hw1]; exact ss2x (below_alloc w0 _) hw0 ⟨k0, k1⟩
     have hzz : Z5 g (.int .i64 0) (.slice none 0 0) (.slice none 0 0) (.slice none 0 0) (.int .i64 0) w1 := by rw [hw1, hg]; exact Z5.new _ _ _ _ _ _ _
     have HB1 : Hid (Below w.heap.size w w1) := by show Below _ _ _; rw [hw1]; exact HB0.out.alloc HB0.out.size _
     have hg1 : g < w1.heap.size := by rw [hw1, hg]; simp
     have hwg : w.heap.size < g := by omega
     have hd1 : w.heap.size < w1.heap.size := Nat.lt_trans hwg hg1
     rw [← hw1]
     rw [← hg]
     clear hw1 hwz hg k0 k1
     have k0 := hs0.1
     have k1 := hs0.2
     have K1 := Lib.hid hs0
     have ZZ := Lib.hid hzz
     clear hs0 hzz
     go_upto_region 4 with (go_at_call 104; ((with_reducible refine (checkV1b pS aS S cS loS tpS av v cv lov tpv _ _ w1 _ rfl (HS.out.below HB1.out tS) (Nat.le_trans tS HB1.out.size) sS (Hv.out.below HB1.out tv) (Nat.le_trans tv HB1.out.size) sv).mono ?_); rintro e w2 ⟨rfl, b_⟩; rw [HC.out]; have HB2 := Lib.hid (HB1.out.trans (b_.mono (Nat.le_of_lt hd1))); have k0' := (b_.cell (p := ⟨w.heap.size, 0, none⟩) hd1).trans k0; have k1' := (b_.cell (p := ⟨w.heap.size, 1, none⟩) hd1).trans k1; have hd2 := Nat.lt_of_lt_of_le hd1 b_.size; have gd2 := Nat.lt_of_lt_of_le hg1 b_.size; have ZZ2 := Lib.hid (ZZ.out.below b_ hg1); clear b_ k0 k1))
     go_wp2_with (go_at_call 135; ((with_reducible refine (checkBlade_n pS aS S cS loS tpS ax x cx lox tpx w2 (HS.out.below HB2.out tS) (Nat.le_trans tS HB2.out.size) sS (Hx.out.below HB2.out tx) (Nat.le_trans tx HB2.out.size) sx HCB.out).mono ?_); rintro e w3 ⟨rfl, b_⟩; have B3 := Lib.hid b_; obtain ⟨⟨z0, z1, z2, z3, z4⟩, y0, y1, y2, y3, y4⟩ := ZZ2.out.below b_ gd2; clear b_ k0' k1'))
     refine bodyPost_ret (v := .tuple #[.agg #[.int .i64 0, .slice none 0 0, .slice none 0 0, .slice none 0 0, .int .i64 0], .int .i64 (codeB pS S [x])]) (by simp [results, Tryz.results133, go_sem, z0, z1, z2, z3, z4]) rfl (.inr ⟨HCB.out, rfl, below_put5 (HB2.out.trans (B3.out.mono (Nat.le_of_lt hd2))) (Nat.le_of_lt hwg)⟩)
 · obtain ⟨C, hC⟩ : ∃ c, c = codeVs pS S [v] := ⟨_, rfl⟩
   have HBV : Hid (codeBV pS S x v = C) := by show _ = _; unfold codeBV; rw [if_neg hc, hC]
   have HC0 : Hid (C ≠ 0) := by show _ ≠ _; rw [hC]; exact hc
   have hc1 : (C != 0) = true := by simpa using HC0.out
   have HCE := Lib.hid hC
   rw [HBV.out]
   clear hc hC
   go_enter Tryz.func133, Tryz.ntmps133
   go_upto_region 1 with fail
   obtain ⟨w0, hw0'⟩ : ∃ z, z = w.alloc (.cells #[.int .i64 pS, .slice aS S.length cS] 26) := ⟨_, rfl⟩
   rw [← hw0'] at HB0 k0 k1 ⊢
   have hw0 : w.heap.size < w0.heap.size := by rw [hw0']; simp
   have hwz : w.heap.size + 1 = w0.heap.size := by rw [hw0']; simp
   try rw [hwz]
   clear hw0'
   obtain ⟨w1, hw1⟩ : ∃ z, z = w0.alloc (.cells #[.int .i64 0, .slice none 0 0, .slice none 0 0, .slice none 0 0, .int .i64 0] 115) := ⟨_, rfl⟩
   obtain ⟨g, hg⟩ : ∃ b, b = w0.heap.size := ⟨_, rfl⟩
   have hs0 : w1.cell? ⟨w.heap.size, 0, none⟩ = some (.int .i64 pS) ∧ w1.cell? ⟨w.heap.size, 1, none⟩ = some (.slice aS S.length cS) := by rw [hw1]; exact ss2x (below_alloc w0 _) hw0 ⟨k0, k1⟩
   have hzz : Z5 g (.int .i64 0) (.slice none 0 0) (.slice none 0 0) (.slice none 0 0) (.int .i64 0) w1 := by rw [hw1, hg]; exact Z5.new _ _ _ _ _ _ _
   have HB1 : Hid (Below w.heap.size w w1) := by show Below _ _ _; rw [hw1]; exact HB0.out.alloc HB0.out.size _
   have hg1 : g < w1.heap.size := by rw [hw1, hg]; simp
   have hwg : w.heap.size < g := by omega
   have hd1 : w.heap.size < w1.heap.size := Nat.lt_trans hwg hg1
   rw [← hw1]
   rw [← hg]
   clear hw1 hwz hg k0 k1
   have k0 := hs0.1
   have k1 := hs0.2
   have K1 := Lib.hid hs0
   have ZZ := Lib.hid hzz
   clear hs0 hzz
   go_wp2_with (go_at_call 104; ((with_reducible refine (checkV1b pS aS S cS loS tpS av v cv lov tpv _ _ w1 _ rfl (HS.out.below HB1.out tS) (Nat.le_trans tS HB1.out.size) sS (Hv.out.below HB1.out tv) (Nat.le_trans tv HB1.out.size) sv).mono ?_); rintro e w2 ⟨rfl, b_⟩; rw [← HCE.out]; have HB2 := Lib.hid (HB1.out.trans (b_.mono (Nat.le_of_lt hd1))); have k0' := (b_.cell (p := ⟨w.heap.size, 0, none⟩) hd1).trans k0; have k1' := (b_.cell (p := ⟨w.heap.size, 1, none⟩) hd1).trans k1; have hd2 := Nat.lt_of_lt_of_le hd1 b_.size; have gd2 := Nat.lt_of_lt_of_le hg1 b_.size; have ZZ2 := Lib.hid (ZZ.out.below b_ hg1); obtain ⟨⟨z0, z1, z2, z3, z4⟩, y0, y1, y2, y3, y4⟩ := ZZ.out.below b_ hg1; clear b_ k0 k1))
   refine bodyPost_ret (v := .tuple #[.agg #[.int .i64 0, .slice none 0 0, .slice none 0 0, .slice none 0 0, .int .i64 0], .int .i64 C]) (by simp [results, Tryz.results133, go_sem, z0, z1, z2, z3, z4]) rfl (.inr ⟨HC0.out, rfl, below_put5 HB2.out (Nat.le_of_lt hwg)⟩)
theorem codeB_one {p : Int} {S x : List Int} (h : codeB p S [x] = 0) : isSp p S = true ∧ isMv p S x = true ∧ isBl p S x = true := by
 rcases codeB_cases p S [x] with ⟨_, _, h2⟩ | ⟨_, _, h2⟩ | ⟨_, _, _, _, h2⟩ | ⟨h0, h1, _, h3, _⟩
 · rw [h] at h2; cases h2
 · rw [h] at h2; cases h2
 · rw [h] at h2; cases h2
 · rw [mv_all1] at h1
   exact ⟨h0, h1, h3 0 (by show 0 < 1; omega)⟩
theorem codeBV_zero {p : Int} {S x v : List Int} (h : codeBV p S x v = 0) : codeVs p S [v] = 0 ∧ codeB p S [x] = 0 := by
 unfold codeBV at h
 by_cases h0 : codeVs p S [v] = 0
 · rw [if_pos h0] at h; exact ⟨h0, h⟩
 · rw [if_neg h0] at h; exact absurd h h0
theorem codeVs_vec {p : Int} {S v : List Int} (h : codeVs p S [v] = 0) : isVec p S.length v = true := by
 unfold codeVs at h
 by_cases h0 : isSp p S = true
 · rw [if_pos h0] at h
   by_cases h1 : [v].all (isVec p S.length) = true
   · rw [mv_all1] at h1; exact h1
   · rw [if_neg h1] at h; cases h
 · rw [if_neg h0] at h; cases h
noncomputable def subV (p : Int) (S x : List Int) : List (List Int) := if codeB p S [x] = 0 then subM p S x else []
noncomputable def sqB (p : Int) (S x : List Int) : Int := if codeB p S [x] = 0 then prodF p S x x 0 else 0
noncomputable def hasV (p : Int) (S x v : List Int) : Bool := if codeBV p S x v = 0 then allZ (wgM p S (vecM S v) x) else false
theorem checkBV_y (pS : Int) (aS : Option Addr) (S : List Int) (cS loS tpS : Nat) (ax : Option Addr) (x : List Int) (cx lox tpx : Nat) (av : Option Addr) (v : List Int) (cv lov tpv : Nat) (w : World) (hS : RowIn loS tpS w aS S) (tS : tpS ≤ w.heap.size) (sS : S.length ≤ 1048576) (hx : RowIn lox tpx w ax x) (tx : tpx ≤ w.heap.size) (sx : x.length ≤ 1048576) (hv : RowIn lov tpv w av v) (tv : tpv ≤ w.heap.size) (sv : v.length ≤ 1048576) (hc : codeBV pS S x v = 0) :
 Calls Tryz.prog 133 #[.agg #[.int .i64 pS, .slice aS S.length cS], .slice ax x.length cx, .slice av v.length cv] w fun e w' => ∃ (r : Option Addr) (k : Nat), e = .returned (.tuple #[.agg #[.int .i64 pS, .slice aS S.length cS, .slice ax x.length cx, .slice r (subM pS S x).length k, .int .i64 (facM pS S x)], .int .i64 0]) ∧ OwnM w.heap.size w'.heap.size w' r (subM pS S x) ∧ Below w.heap.size w w' :=
 (checkBladeAndVector_any pS aS S cS loS tpS ax x cx lox tpx av v cv lov tpv w hS tS sS hx tx sx hv tv sv).mono fun _ _ h => by
  rcases h with ⟨_, h⟩ | ⟨h, _⟩
  · exact h
  · exact absurd hc h
theorem checkBV_n (pS : Int) (aS : Option Addr) (S : List Int) (cS loS tpS : Nat) (ax : Option Addr) (x : List Int) (cx lox tpx : Nat) (av : Option Addr) (v : List Int) (cv lov tpv : Nat) (w : World) (hS : RowIn loS tpS w aS S) (tS : tpS ≤ w.heap.size) (sS : S.length ≤ 1048576) (hx : RowIn lox tpx w ax x) (tx : tpx ≤ w.heap.size) (sx : x.length ≤ 1048576) (hv : RowIn lov tpv w av v) (tv : tpv ≤ w.heap.size) (sv : v.length ≤ 1048576) (hc : codeBV pS S x v ≠ 0) :
 Calls Tryz.prog 133 #[.agg #[.int .i64 pS, .slice aS S.length cS], .slice ax x.length cx, .slice av v.length cv] w fun e w' => e = .returned (.tuple #[.agg #[.int .i64 0, .slice none 0 0, .slice none 0 0, .slice none 0 0, .int .i64 0], .int .i64 (codeBV pS S x v)]) ∧ Below w.heap.size w w' :=
 (checkBladeAndVector_any pS aS S cS loS tpS ax x cx lox tpx av v cv lov tpv w hS tS sS hx tx sx hv tv sv).mono fun _ _ h => by
  rcases h with ⟨h, _⟩ | ⟨_, h⟩
  · exact absurd h hc
  · exact h
set_option maxRecDepth 100000 in
set_option maxHeartbeats 3200000 in
theorem impl_SubspaceOf (pS : Int) (aS : Option Addr) (S : List Int) (cS loS tpS : Nat) (ax : Option Addr) (x : List Int) (cx lox tpx : Nat) (w : World) (hS : RowIn loS tpS w aS S) (tS : tpS ≤ w.heap.size) (sS : S.length ≤ 1048576) (hx : RowIn lox tpx w ax x) (tx : tpx ≤ w.heap.size) (sx : x.length ≤ 1048576) :
 Calls Tryz.prog 41 #[.agg #[.int .i64 pS, .slice aS S.length cS], .slice ax x.length cx] w (ImplM (subV pS S x) (codeB pS S [x]) w) := by
 have HS := Lib.hid hS
 have Hx := Lib.hid hx
 have HB0 := Lib.hid (below_alloc w (.cells #[.int .i64 pS, .slice aS S.length cS] 26))
 have k0 := nw0 w (.int .i64 pS) (.slice aS S.length cS) 26
 have k1 := nw1 w (.int .i64 pS) (.slice aS S.length cS) 26
 clear hS hx
 by_cases hc : codeB pS S [x] = 0
 · have HC := Lib.hid hc
   have hb := codeB_one hc
   have HI := Lib.hid hb.1
   have HMX := Lib.hid hb.2.1
   have HV : Hid (subV pS S x = subM pS S x) := by show _ = _; unfold subV; rw [if_pos hc]
   clear hc hb
   go_enter Tryz.func41, Tryz.ntmps41
   obtain ⟨F, hF⟩ : ∃ f, f = facM pS S x := ⟨_, rfl⟩
   have HF := Lib.hid hF
   clear hF
   go_upto_region 2 with (go_at_call 135; ((with_reducible refine (checkBlade_y pS aS S cS loS tpS ax x cx lox tpx _ (HS.out.below HB0.out tS) (Nat.le_trans tS HB0.out.size) sS (Hx.out.below HB0.out tx) (Nat.le_trans tx HB0.out.size) sx HC.out).mono ?_); rintro e w2 ⟨r0, k0_, rfl, oo_, b_⟩; rw [← HF.out]; have OO := Lib.hid oo_; have HB2 := Lib.hid (below_step HB0.out HB0.out.size b_); have k0' := (b_.cell (p := ⟨w.heap.size, 0, none⟩) (lt_alloc w (.cells #[.int .i64 pS, .slice aS S.length cS] 26))).trans k0; have k1' := (b_.cell (p := ⟨w.heap.size, 1, none⟩) (lt_alloc w (.cells #[.int .i64 pS, .slice aS S.length cS] 26))).trans k1; have hd2 := Nat.lt_of_lt_of_le (lt_alloc w (.cells #[.int .i64 pS, .slice aS S.length cS] 26)) b_.size; clear oo_ b_ k0 k1))
   obtain ⟨w3, hw3⟩ : ∃ z, z = w2.alloc (.cells #[.int .i64 pS, .slice aS S.length cS, .slice ax x.length cx, .slice r0 (subM pS S x).length k0_, .int .i64 F] 115) := ⟨_, rfl⟩
   obtain ⟨gB, hgB⟩ : ∃ b, b = w2.heap.size := ⟨_, rfl⟩
   have hzz : Z5 gB (.int .i64 pS) (.slice aS S.length cS) (.slice ax x.length cx) (.slice r0 (subM pS S x).length k0_) (.int .i64 F) w3 := by rw [hw3, hgB]; exact Z5.new _ _ _ _ _ _ _
   have HB3 : Hid (Below w.heap.size w w3) := by show Below _ _ _; rw [hw3]; exact HB2.out.alloc HB2.out.size _
   have OO3 : Hid (OwnM w.heap.size w3.heap.size w3 r0 (subM pS S x)) := by show OwnM _ _ _ _ _; rw [hw3]; exact (OO.out.below (below_alloc w2 _) (Nat.le_refl _)).mono (Nat.le_of_lt (lt_alloc w (.cells #[.int .i64 pS, .slice aS S.length cS] 26))) (size_alloc w2 _)
   have k03 : w3.cell? ⟨w.heap.size, 0, none⟩ = some (.int .i64 pS) := by rw [hw3]; exact (World.cell?_alloc_old _ _ _ (show w.heap.size ≠ w2.heap.size by omega)).trans k0'
   have k13 : w3.cell? ⟨w.heap.size, 1, none⟩ = some (.slice aS S.length cS) := by rw [hw3]; exact (World.cell?_alloc_old _ _ _ (show w.heap.size ≠ w2.heap.size by omega)).trans k1'
   have hd3 : w.heap.size < w3.heap.size := by rw [hw3]; simp; omega
   have hgB3 : gB < w3.heap.size := by rw [hw3, hgB]; simp
   rw [← hw3, ← hgB]
   clear hw3 hgB k0' k1'
   obtain ⟨⟨z0, z1, z2, z3, z4⟩, _⟩ := hzz
   go_wp2
   go_ret2
   rw [HV.out, HC.out]
   exact ⟨r0, k0_, rfl, OO3.out, HB3.out⟩
 · have HC := Lib.hid hc
   have HV : Hid (subV pS S x = []) := by show _ = _; unfold subV; rw [if_neg hc]
   clear hc
   obtain ⟨C, hC⟩ : ∃ c, c = codeB pS S [x] := ⟨_, rfl⟩
   have hc1 : (C != 0) = true := by rw [hC]; simpa using HC.out
   have HCE := Lib.hid hC
   clear hC
   go_enter Tryz.func41, Tryz.ntmps41
   go_wp2_with (go_at_call 135; ((with_reducible refine (checkBlade_n pS aS S cS loS tpS ax x cx lox tpx _ (HS.out.below HB0.out tS) (Nat.le_trans tS HB0.out.size) sS (Hx.out.below HB0.out tx) (Nat.le_trans tx HB0.out.size) sx HC.out).mono ?_); rintro e w2 ⟨rfl, b_⟩; rw [← HCE.out]; have HB2 := Lib.hid (below_step HB0.out HB0.out.size b_); clear b_ k0 k1))
   go_ret2
   rw [HV.out, ← HCE.out]
   exact ⟨none, 0, rfl, .inl rfl, HB2.out.alloc HB2.out.size _⟩
set_option maxRecDepth 100000 in
set_option maxHeartbeats 3200000 in
theorem impl_BladeSquare (pS : Int) (aS : Option Addr) (S : List Int) (cS loS tpS : Nat) (ax : Option Addr) (x : List Int) (cx lox tpx : Nat) (w : World) (hS : RowIn loS tpS w aS S) (tS : tpS ≤ w.heap.size) (sS : S.length ≤ 1048576) (hx : RowIn lox tpx w ax x) (tx : tpx ≤ w.heap.size) (sx : x.length ≤ 1048576) :
 Calls Tryz.prog 42 #[.agg #[.int .i64 pS, .slice aS S.length cS], .slice ax x.length cx] w (RetI (sqB pS S x) (codeB pS S [x]) w) := by
 have HS := Lib.hid hS
 have Hx := Lib.hid hx
 have HB0 := Lib.hid (below_alloc w (.cells #[.int .i64 pS, .slice aS S.length cS] 26))
 have k0 := nw0 w (.int .i64 pS) (.slice aS S.length cS) 26
 have k1 := nw1 w (.int .i64 pS) (.slice aS S.length cS) 26
 clear hS hx
 by_cases hc : codeB pS S [x] = 0
 · have HC := Lib.hid hc
   have hb := codeB_one hc
   have HI := Lib.hid hb.1
   have HMX := Lib.hid hb.2.1
   have HV : Hid (sqB pS S x = prodF pS S x x 0) := by show _ = _; unfold sqB; rw [if_pos hc]
   clear hc hb
   go_enter Tryz.func42, Tryz.ntmps42
   obtain ⟨F, hF⟩ : ∃ f, f = facM pS S x := ⟨_, rfl⟩
   have HF := Lib.hid hF
   clear hF
   go_upto_region 2 with (go_at_call 135; ((with_reducible refine (checkBlade_y pS aS S cS loS tpS ax x cx lox tpx _ (HS.out.below HB0.out tS) (Nat.le_trans tS HB0.out.size) sS (Hx.out.below HB0.out tx) (Nat.le_trans tx HB0.out.size) sx HC.out).mono ?_); rintro e w2 ⟨r0, k0_, rfl, oo_, b_⟩; rw [← HF.out]; have OO := Lib.hid oo_; have HB2 := Lib.hid (below_step HB0.out HB0.out.size b_); have k0' := (b_.cell (p := ⟨w.heap.size, 0, none⟩) (lt_alloc w (.cells #[.int .i64 pS, .slice aS S.length cS] 26))).trans k0; have k1' := (b_.cell (p := ⟨w.heap.size, 1, none⟩) (lt_alloc w (.cells #[.int .i64 pS, .slice aS S.length cS] 26))).trans k1; have hd2 := Nat.lt_of_lt_of_le (lt_alloc w (.cells #[.int .i64 pS, .slice aS S.length cS] 26)) b_.size; clear oo_ b_ k0 k1))
   obtain ⟨w3, hw3⟩ : ∃ z, z = w2.alloc (.cells #[.int .i64 pS, .slice aS S.length cS, .slice ax x.length cx, .slice r0 (subM pS S x).length k0_, .int .i64 F] 115) := ⟨_, rfl⟩
   obtain ⟨gB, hgB⟩ : ∃ b, b = w2.heap.size := ⟨_, rfl⟩
   have hzz : Z5 gB (.int .i64 pS) (.slice aS S.length cS) (.slice ax x.length cx) (.slice r0 (subM pS S x).length k0_) (.int .i64 F) w3 := by rw [hw3, hgB]; exact Z5.new _ _ _ _ _ _ _
   have HB3 : Hid (Below w.heap.size w w3) := by show Below _ _ _; rw [hw3]; exact HB2.out.alloc HB2.out.size _
   have OO3 : Hid (OwnM w.heap.size w3.heap.size w3 r0 (subM pS S x)) := by show OwnM _ _ _ _ _; rw [hw3]; exact (OO.out.below (below_alloc w2 _) (Nat.le_refl _)).mono (Nat.le_of_lt (lt_alloc w (.cells #[.int .i64 pS, .slice aS S.length cS] 26))) (size_alloc w2 _)
   have k03 : w3.cell? ⟨w.heap.size, 0, none⟩ = some (.int .i64 pS) := by rw [hw3]; exact (World.cell?_alloc_old _ _ _ (show w.heap.size ≠ w2.heap.size by omega)).trans k0'
   have k13 : w3.cell? ⟨w.heap.size, 1, none⟩ = some (.slice aS S.length cS) := by rw [hw3]; exact (World.cell?_alloc_old _ _ _ (show w.heap.size ≠ w2.heap.size by omega)).trans k1'
   have hd3 : w.heap.size < w3.heap.size := by rw [hw3]; simp; omega
   have hgB3 : gB < w3.heap.size := by rw [hw3, hgB]; simp
   rw [← hw3, ← hgB]
   clear hw3 hgB k0' k1'
   obtain ⟨⟨z0, z1, z2, z3, z4⟩, _⟩ := hzz
   have hfv := field_value
   go_wp2_with (go_at_call 136; ((with_reducible refine (squareX_any pS aS S cS loS tpS ax x cx lox tpx w3 HI.out (HS.out.below HB3.out tS) (Nat.le_trans tS HB3.out.size) (Hx.out.below HB3.out tx) (Nat.le_trans tx HB3.out.size) HMX.out).mono ?_); rintro e w4 ⟨rfl, b_⟩; have B4 := Lib.hid (below_step HB3.out HB3.out.size b_); clear b_))
   go_ret2
   exact ⟨by rw [HV.out, HC.out]; rfl, B4.out⟩
 · have HC := Lib.hid hc
   have HV : Hid (sqB pS S x = 0) := by show _ = _; unfold sqB; rw [if_neg hc]
   clear hc
   obtain ⟨C, hC⟩ : ∃ c, c = codeB pS S [x] := ⟨_, rfl⟩
   have hc1 : (C != 0) = true := by rw [hC]; simpa using HC.out
   have HCE := Lib.hid hC
   clear hC
   go_enter Tryz.func42, Tryz.ntmps42
   go_wp2_with (go_at_call 135; ((with_reducible refine (checkBlade_n pS aS S cS loS tpS ax x cx lox tpx _ (HS.out.below HB0.out tS) (Nat.le_trans tS HB0.out.size) sS (Hx.out.below HB0.out tx) (Nat.le_trans tx HB0.out.size) sx HC.out).mono ?_); rintro e w2 ⟨rfl, b_⟩; rw [← HCE.out]; have HB2 := Lib.hid (below_step HB0.out HB0.out.size b_); clear b_ k0 k1))
   go_ret2
   exact ⟨by rw [HV.out, ← HCE.out]; rfl, HB2.out.alloc HB2.out.size _⟩
set_option maxRecDepth 100000 in
set_option maxHeartbeats 3200000 in
theorem impl_BladeContains (pS : Int) (aS : Option Addr) (S : List Int) (cS loS tpS : Nat) (ax : Option Addr) (x : List Int) (cx lox tpx : Nat) (av : Option Addr) (v : List Int) (cv lov tpv : Nat) (w : World) (hS : RowIn loS tpS w aS S) (tS : tpS ≤ w.heap.size) (sS : S.length ≤ 1048576) (hx : RowIn lox tpx w ax x) (tx : tpx ≤ w.heap.size) (sx : x.length ≤ 1048576) (hv : RowIn lov tpv w av v) (tv : tpv ≤ w.heap.size) (sv : v.length ≤ 1048576) :
 Calls Tryz.prog 40 #[.agg #[.int .i64 pS, .slice aS S.length cS], .slice ax x.length cx, .slice av v.length cv] w (RetB (hasV pS S x v) (codeBV pS S x v) w) := by
 have HS := Lib.hid hS
 have Hx := Lib.hid hx
 have Hv := Lib.hid hv
 have HB0 := Lib.hid (below_alloc w (.cells #[.int .i64 pS, .slice aS S.length cS] 26))
 have k0 := nw0 w (.int .i64 pS) (.slice aS S.length cS) 26
 have k1 := nw1 w (.int .i64 pS) (.slice aS S.length cS) 26
 clear hS hx hv
 by_cases hc : codeBV pS S x v = 0
 · have HC := Lib.hid hc
   have hb := codeB_one (codeBV_zero hc).2
   have HI := Lib.hid hb.1
   have HMX := Lib.hid hb.2.1
   have HV : Hid (hasV pS S x v = allZ (wgM pS S (vecM S v) x)) := by show _ = _; unfold hasV; rw [if_pos hc]
   have HMV := Lib.hid (codeVs_vec (codeBV_zero hc).1)
   clear hc hb
   go_enter Tryz.func40, Tryz.ntmps40
   obtain ⟨F, hF⟩ : ∃ f, f = facM pS S x := ⟨_, rfl⟩
   have HF := Lib.hid hF
   clear hF
   go_upto_region 2 with (go_at_call 133; ((with_reducible refine (checkBV_y pS aS S cS loS tpS ax x cx lox tpx av v cv lov tpv _ (HS.out.below HB0.out tS) (Nat.le_trans tS HB0.out.size) sS (Hx.out.below HB0.out tx) (Nat.le_trans tx HB0.out.size) sx (Hv.out.below HB0.out tv) (Nat.le_trans tv HB0.out.size) sv HC.out).mono ?_); rintro e w2 ⟨r0, k0_, rfl, oo_, b_⟩; rw [← HF.out]; have OO := Lib.hid oo_; have HB2 := Lib.hid (below_step HB0.out HB0.out.size b_); have k0' := (b_.cell (p := ⟨w.heap.size, 0, none⟩) (lt_alloc w (.cells #[.int .i64 pS, .slice aS S.length cS] 26))).trans k0; have k1' := (b_.cell (p := ⟨w.heap.size, 1, none⟩) (lt_alloc w (.cells #[.int .i64 pS, .slice aS S.length cS] 26))).trans k1; have hd2 := Nat.lt_of_lt_of_le (lt_alloc w (.cells #[.int .i64 pS, .slice aS S.length cS] 26)) b_.size; clear oo_ b_ k0 k1))
   obtain ⟨w3, hw3⟩ : ∃ z, z = w2.alloc (.cells #[.int .i64 pS, .slice aS S.length cS, .slice ax x.length cx, .slice r0 (subM pS S x).length k0_, .int .i64 F] 115) := ⟨_, rfl⟩
   obtain ⟨gB, hgB⟩ : ∃ b, b = w2.heap.size := ⟨_, rfl⟩
   have hzz : Z5 gB (.int .i64 pS) (.slice aS S.length cS) (.slice ax x.length cx) (.slice r0 (subM pS S x).length k0_) (.int .i64 F) w3 := by rw [hw3, hgB]; exact Z5.new _ _ _ _ _ _ _
   have HB3 : Hid (Below w.heap.size w w3) := by show Below _ _ _; rw [hw3]; exact HB2.out.alloc HB2.out.size _
   have OO3 : Hid (OwnM w.heap.size w3.heap.size w3 r0 (subM pS S x)) := by show OwnM _ _ _ _ _; rw [hw3]; exact (OO.out.below (below_alloc w2 _) (Nat.le_refl _)).mono (Nat.le_of_lt (lt_alloc w (.cells #[.int .i64 pS, .slice aS S.length cS] 26))) (size_alloc w2 _)
   have k03 : w3.cell? ⟨w.heap.size, 0, none⟩ = some (.int .i64 pS) := by rw [hw3]; exact (World.cell?_alloc_old _ _ _ (show w.heap.size ≠ w2.heap.size by omega)).trans k0'
   have k13 : w3.cell? ⟨w.heap.size, 1, none⟩ = some (.slice aS S.length cS) := by rw [hw3]; exact (World.cell?_alloc_old _ _ _ (show w.heap.size ≠ w2.heap.size by omega)).trans k1'
   have hd3 : w.heap.size < w3.heap.size := by rw [hw3]; simp; omega
   have hgB3 : gB < w3.heap.size := by rw [hw3, hgB]; simp
   rw [← hw3, ← hgB]
   clear hw3 hgB k0' k1'
   obtain ⟨⟨z0, z1, z2, z3, z4⟩, _⟩ := hzz
   go_wp2_with (go_at_call 134; ((with_reducible refine (annihilates_any pS aS S cS loS tpS ax x cx lox tpx av v cv lov tpv w3 HI.out (HS.out.below HB3.out tS) (Nat.le_trans tS HB3.out.size) (Hx.out.below HB3.out tx) (Nat.le_trans tx HB3.out.size) HMX.out (Hv.out.below HB3.out tv) (Nat.le_trans tv HB3.out.size) HMV.out).mono ?_); rintro e w4 ⟨rfl, b_⟩; have B4 := Lib.hid (below_step HB3.out HB3.out.size b_); clear b_))
   go_ret2
   exact ⟨by rw [HV.out, HC.out]; rfl, B4.out⟩
 · have HC := Lib.hid hc
   have HV : Hid (hasV pS S x v = false) := by show _ = _; unfold hasV; rw [if_neg hc]
   clear hc
   obtain ⟨C, hC⟩ : ∃ c, c = codeBV pS S x v := ⟨_, rfl⟩
   have hc1 : (C != 0) = true := by rw [hC]; simpa using HC.out
   have HCE := Lib.hid hC
   clear hC
   go_enter Tryz.func40, Tryz.ntmps40
   go_wp2_with (go_at_call 133; ((with_reducible refine (checkBV_n pS aS S cS loS tpS ax x cx lox tpx av v cv lov tpv _ (HS.out.below HB0.out tS) (Nat.le_trans tS HB0.out.size) sS (Hx.out.below HB0.out tx) (Nat.le_trans tx HB0.out.size) sx (Hv.out.below HB0.out tv) (Nat.le_trans tv HB0.out.size) sv HC.out).mono ?_); rintro e w2 ⟨rfl, b_⟩; rw [← HCE.out]; have HB2 := Lib.hid (below_step HB0.out HB0.out.size b_); clear b_ k0 k1))
   go_ret2
   exact ⟨by rw [HV.out, ← HCE.out]; rfl, HB2.out.alloc HB2.out.size _⟩
end Go.Proofs.YtgfanoejohpmkaaGreat