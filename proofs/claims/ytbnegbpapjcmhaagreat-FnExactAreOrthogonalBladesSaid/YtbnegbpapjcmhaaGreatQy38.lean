/-
  A blade and a vector checked: contracts of the program and of the model.
  Conditions: the lists are nil or rows of known cells, of at most 1048576 numbers.
  Vectors orthogonal to others: the equations, and what the equation 0 = 0 does. No Go in sight.
  No conditions.
  The model's vectors orthogonal to others: the walk.
  Conditions: the lists are nil or rows of known cells.
  The program's equations: the walk.
  Conditions: the lists are nil or rows of known cells.
  The program's new matrices of zeros, to be appended to.
  Conditions: at least one column, at most 1024 rows and columns.
  Square matrices, in the model.
  Conditions: the arguments are nil or rows of known cells, of at most 1048576 numbers.
  OrthogonalTo: contracts of the program and of the model.
  Conditions: the lists are nil or rows of known cells, of at most 1048576 numbers.
  SubspaceOf, FactorOf, BladeSquare, BladeContains, OrthogonalBlade, IsBlade, BladeOfVectors (program): contracts of the program and of the model.
  Conditions: the lists are nil or rows of known cells, of at most 1048576 numbers.
-/
import Derived.Test.YtbnegbpapjcmhaaGreatQy37
import Derived.Deep.RegionHeld3
import Derived.Deep.DeepCutAuto
import Derived.Test.YtbnegbpapjcmhaaGreatQy30
import Derived.Test.YtbnegbpapjcmhaaGreatQy21
import Derived.Test.YtbnegbpapjcmhaaGreatQy3
import Derived.Test.YtbnegbpapjcmhaaGreatQy18
import Derived.Test.YtbnegbpapjcmhaaGreatQy7
import Derived.Test.YtbnegbpapjcmhaaGreatQy27
import Derived.Test.YtbnegbpapjcmhaaGreatQy33
namespace Go.Proofs.YtbnegbpapjcmhaaGreat
open Go.RowKit
set_option linter.unusedVariables false

noncomputable def codeBV (p : Int) (S x v : List Int) : Int := if codeVs p S [v] = 0 then codeB p S [x] else codeVs p S [v]
theorem checkBlade_y (pS : Int) (aS : Option Addr) (S : List Int) (cS loS tpS : Nat) (ax : Option Addr) (x : List Int) (cx lox tpx : Nat) (w : World) (hS : RowIn loS tpS w aS S) (tS : tpS ≤ w.heap.size) (sS : S.length ≤ 1048576) (hx : RowIn lox tpx w ax x) (tx : tpx ≤ w.heap.size) (sx : x.length ≤ 1048576) (hc : codeB pS S [x] = 0) :
    Calls Tryz.prog 50 #[.agg #[.int .i64 pS, .slice aS S.length cS], .slice ax x.length cx] w fun e w' => ∃ (r : Option Addr) (k : Nat), e = .returned (.tuple #[.agg #[.int .i64 pS, .slice aS S.length cS, .slice ax x.length cx, .slice r (subM pS S x).length k, .int .i64 (facM pS S x)], .int .i64 0]) ∧ OwnM w.heap.size w'.heap.size w' r (subM pS S x) ∧ Below w.heap.size w w' :=
  (checkBlade_any pS aS S cS loS tpS ax x cx lox tpx w hS tS sS hx tx sx).mono fun _ _ h => by
    rcases h with ⟨_, h⟩ | ⟨h, _⟩
    · exact h
    · exact absurd hc h
theorem checkBlade_n (pS : Int) (aS : Option Addr) (S : List Int) (cS loS tpS : Nat) (ax : Option Addr) (x : List Int) (cx lox tpx : Nat) (w : World) (hS : RowIn loS tpS w aS S) (tS : tpS ≤ w.heap.size) (sS : S.length ≤ 1048576) (hx : RowIn lox tpx w ax x) (tx : tpx ≤ w.heap.size) (sx : x.length ≤ 1048576) (hc : codeB pS S [x] ≠ 0) :
    Calls Tryz.prog 50 #[.agg #[.int .i64 pS, .slice aS S.length cS], .slice ax x.length cx] w fun e w' => e = .returned (.tuple #[.agg #[.int .i64 0, .slice none 0 0, .slice none 0 0, .slice none 0 0, .int .i64 0], .int .i64 (codeB pS S [x])]) ∧ Below w.heap.size w w' :=
  (checkBlade_any pS aS S cS loS tpS ax x cx lox tpx w hS tS sS hx tx sx).mono fun _ _ h => by
    rcases h with ⟨h, _⟩ | ⟨_, h⟩
    · exact absurd h hc
    · exact h
theorem checkV1 (p : Int) (aS : Option Addr) (S : List Int) (cS loS tpS : Nat) (av : Option Addr) (v : List Int) (cv lov tpv b cap : Nat) (W : World) (T : TypeId) (hb : b = W.heap.size) (hS : RowIn loS tpS W aS S) (tS : tpS ≤ W.heap.size) (sS : S.length ≤ 1048576) (hv : RowIn lov tpv W av v) (tv : tpv ≤ W.heap.size) (sv : v.length ≤ 1048576) :
    Calls Tryz.prog 89 #[.agg #[.int .i64 p, .slice aS S.length cS], .slice (some ⟨b, 0, none⟩) 1 cap] (W.alloc (.cells #[.slice av v.length cv] T)) fun e w' => e = .returned (.int .i64 (codeVs p S [v])) ∧ Below W.heap.size W w' :=
  (checkVectors_any p aS S cS loS tpS (some ⟨b, 0, none⟩) [v] cap 0 _ _ (hS.below (below_alloc W _) tS) (Nat.le_trans tS (size_alloc W _)) sS (mv_one hb hv tv T) (Nat.le_refl _) (by show 1 ≤ 1048576; omega) (fun i hi => by match i, hi with | 0, _ => exact sv)).mono fun _ _ h => ⟨h.1, below_step (below_alloc W _) (size_alloc W _) h.2⟩

set_option maxRecDepth 100000 in
set_option maxHeartbeats 3200000 in
theorem checkBladeAndVector_any (pS : Int) (aS : Option Addr) (S : List Int) (cS loS tpS : Nat) (ax : Option Addr) (x : List Int) (cx lox tpx : Nat) (av : Option Addr) (v : List Int) (cv lov tpv : Nat) (w : World) (hS : RowIn loS tpS w aS S) (tS : tpS ≤ w.heap.size) (sS : S.length ≤ 1048576) (hx : RowIn lox tpx w ax x) (tx : tpx ≤ w.heap.size) (sx : x.length ≤ 1048576) (hv : RowIn lov tpv w av v) (tv : tpv ≤ w.heap.size) (sv : v.length ≤ 1048576) :
    Calls Tryz.prog 57 #[.agg #[.int .i64 pS, .slice aS S.length cS], .slice ax x.length cx, .slice av v.length cv] w (ChB pS aS S cS ax x cx (codeBV pS S x v) w) := by
  have HS := Lib.hid hS
  have Hx := Lib.hid hx
  have Hv := Lib.hid hv
  have HB0 := Lib.hid (below_alloc w (.cells #[.int .i64 pS, .slice aS S.length cS] 29))
  have k0 := nw0 w (.int .i64 pS) (.slice aS S.length cS) 29
  have k1 := nw1 w (.int .i64 pS) (.slice aS S.length cS) 29
  clear hS hx hv
  by_cases hc : codeVs pS S [v] = 0
  · have HC := Lib.hid hc
    have HBV : Hid (codeBV pS S x v = codeB pS S [x]) := by show _ = _; unfold codeBV; rw [if_pos hc]
    rw [HBV.out]
    clear hc
    by_cases hcb : codeB pS S [x] = 0
    · have HCB := Lib.hid hcb
      clear hcb
      go_enter Tryz.func57, Tryz.ntmps57
      go_upto_region 1 with fail
      obtain ⟨w0, hw0'⟩ : ∃ z, z = w.alloc (.cells #[.int .i64 pS, .slice aS S.length cS] 29) := ⟨_, rfl⟩
      rw [← hw0'] at HB0 k0 k1 ⊢
      have hw0 : w.heap.size < w0.heap.size := by rw [hw0']; simp
      have hwz : w.heap.size + 1 = w0.heap.size := by rw [hw0']; simp
      try rw [hwz]
      clear hw0'
      obtain ⟨w1, hw1⟩ : ∃ z, z = w0.alloc (.cells #[.int .i64 0, .slice none 0 0, .slice none 0 0, .slice none 0 0, .int .i64 0] 52) := ⟨_, rfl⟩
      obtain ⟨g, hg⟩ : ∃ b, b = w0.heap.size := ⟨_, rfl⟩
      have hs0 : w1.cell? ⟨w.heap.size, 0, none⟩ = some (.int .i64 pS) ∧ w1.cell? ⟨w.heap.size, 1, none⟩ = some (.slice aS S.length cS) := by rw [hw1]; exact ss2x (below_alloc w0 _) hw0 ⟨k0, k1⟩
      have hzz : Z5 g (.int .i64 0) (.slice none 0 0) (.slice none 0 0) (.slice none 0 0) (.int .i64 0) w1 := by rw [hw1, hg]; exact Z5.new _ _ _ _ _ _ _
      have HB1 : Hid (Below w.heap.size w w1) := by show Below _ _ _; rw [hw1]; exact HB0.out.alloc HB0.out.size _
      have hg1 : g < w1.heap.size := by rw [hw1, hg]; simp
      have hwg : w.heap.size < g := by omega
      have hd1 : w.heap.size < w1.heap.size := Nat.lt_trans hwg hg1
      rw [← hw1]
      rw [← hg]
      clear hw1 hwz hg k0 k1
      have k0 := hs0.1
      have k1 := hs0.2
      have K1 := Lib.hid hs0
      have ZZ := Lib.hid hzz
      clear hs0 hzz
      go_upto_region 4 with (go_at_call 89; ((with_reducible refine (checkV1 pS aS S cS loS tpS av v cv lov tpv _ _ w1 _ rfl (HS.out.below HB1.out tS) (Nat.le_trans tS HB1.out.size) sS (Hv.out.below HB1.out tv) (Nat.le_trans tv HB1.out.size) sv).mono ?_); rintro e w2 ⟨rfl, b_⟩; rw [HC.out]; have HB2 := Lib.hid (HB1.out.trans (b_.mono (Nat.le_of_lt hd1))); have k0' := (b_.cell (p := ⟨w.heap.size, 0, none⟩) hd1).trans k0; have k1' := (b_.cell (p := ⟨w.heap.size, 1, none⟩) hd1).trans k1; have hd2 := Nat.lt_of_lt_of_le hd1 b_.size; have gd2 := Nat.lt_of_lt_of_le hg1 b_.size; have ZZ2 := Lib.hid (ZZ.out.below b_ hg1); clear b_ k0 k1))
      go_wp2_with (go_at_call 50; ((with_reducible refine (checkBlade_y pS aS S cS loS tpS ax x cx lox tpx w2 (HS.out.below HB2.out tS) (Nat.le_trans tS HB2.out.size) sS (Hx.out.below HB2.out tx) (Nat.le_trans tx HB2.out.size) sx HCB.out).mono ?_); rintro e w3 ⟨r0, k0_, rfl, oo_, b_⟩; have OO := Lib.hid oo_; have B3 := Lib.hid b_; obtain ⟨⟨z0, z1, z2, z3, z4⟩, y0, y1, y2, y3, y4⟩ := ZZ2.out.below b_ gd2; obtain ⟨F, hF⟩ : ∃ f, f = facM pS S x := ⟨_, rfl⟩; have HF := Lib.hid hF; rw [← hF]; clear oo_ b_ hF k0' k1'))
      refine bodyPost_ret (v := .tuple #[.agg #[.int .i64 pS, .slice aS S.length cS, .slice ax x.length cx, .slice r0 (subM pS S x).length k0_, .int .i64 F], .int .i64 0]) (by simp [results, Tryz.results57, go_sem, z0, z1, z2, z3, z4]) rfl (.inl ⟨HCB.out, r0, k0_, by rw [← HF.out], ?_, ?_⟩)
      · exact (OO.out.put5 (g := g) gd2).mono (Nat.le_of_lt hd2) (by simp [World.setCell])
      · exact below_put5 (HB2.out.trans (B3.out.mono (Nat.le_of_lt hd2))) (Nat.le_of_lt hwg)
    · have HCB := Lib.hid hcb
      clear hcb
      go_enter Tryz.func57, Tryz.ntmps57
      go_upto_region 1 with fail
      obtain ⟨w0, hw0'⟩ : ∃ z, z = w.alloc (.cells #[.int .i64 pS, .slice aS S.length cS] 29) := ⟨_, rfl⟩
      rw [← hw0'] at HB0 k0 k1 ⊢
      have hw0 : w.heap.size < w0.heap.size := by rw [hw0']; simp
      have hwz : w.heap.size + 1 = w0.heap.size := by rw [hw0']; simp
      try rw [hwz]
      clear hw0'
      obtain ⟨w1, hw1⟩ : ∃ z, z = w0.alloc (.cells #[.int .i64 0, .slice none 0 0, .slice none 0 0, .slice none 0 0, .int .i64 0] 52) := ⟨_, rfl⟩
      obtain ⟨g, hg⟩ : ∃ b, b = w0.heap.size := ⟨_, rfl⟩
      have hs0 : w1.cell? ⟨w.heap.size, 0, none⟩ = some (.int .i64 pS) ∧ w1.cell? ⟨w.heap.size, 1, none⟩ = some (.slice aS S.length cS) := by rw [hw1]; exact ss2x (below_alloc w0 _) hw0 ⟨k0, k1⟩
      have hzz : Z5 g (.int .i64 0) (.slice none 0 0) (.slice none 0 0) (.slice none 0 0) (.int .i64 0) w1 := by rw [hw1, hg]; exact Z5.new _ _ _ _ _ _ _
      have HB1 : Hid (Below w.heap.size w w1) := by show Below _ _ _; rw [hw1]; exact HB0.out.alloc HB0.out.size _
      have hg1 : g < w1.heap.size := by rw [hw1, hg]; simp
      have hwg : w.heap.size < g := by omega
      have hd1 : w.heap.size < w1.heap.size := Nat.lt_trans hwg hg1
      rw [← hw1]
      rw [← hg]
      clear hw1 hwz hg k0 k1
      have k0 := hs0.1
      have k1 := hs0.2
      have K1 := Lib.hid hs0
      have ZZ := Lib.hid hzz
      clear hs0 hzz
      go_upto_region 4 with (go_at_call 89; ((with_reducible refine (checkV1 pS aS S cS loS tpS av v cv lov tpv _ _ w1 _ rfl (HS.out.below HB1.out tS) (Nat.le_trans tS HB1.out.size) sS (Hv.out.below HB1.out tv) (Nat.le_trans tv HB1.out.size) sv).mono ?_); rintro e w2 ⟨rfl, b_⟩; rw [HC.out]; have HB2 := Lib.hid (HB1.out.trans (b_.mono (Nat.le_of_lt hd1))); have k0' := (b_.cell (p := ⟨w.heap.size, 0, none⟩) hd1).trans k0; have k1' := (b_.cell (p := ⟨w.heap.size, 1, none⟩) hd1).trans k1; have hd2 := Nat.lt_of_lt_of_le hd1 b_.size; have gd2 := Nat.lt_of_lt_of_le hg1 b_.size; have ZZ2 := Lib.hid (ZZ.out.below b_ hg1); clear b_ k0 k1))
      go_wp2_with (go_at_call 50; ((with_reducible refine (checkBlade_n pS aS S cS loS tpS ax x cx lox tpx w2 (HS.out.below HB2.out tS) (Nat.le_trans tS HB2.out.size) sS (Hx.out.below HB2.out tx) (Nat.le_trans tx HB2.out.size) sx HCB.out).mono ?_); rintro e w3 ⟨rfl, b_⟩; have B3 := Lib.hid b_; obtain ⟨⟨z0, z1, z2, z3, z4⟩, y0, y1, y2, y3, y4⟩ := ZZ2.out.below b_ gd2; clear b_ k0' k1'))
      refine bodyPost_ret (v := .tuple #[.agg #[.int .i64 0, .slice none 0 0, .slice none 0 0, .slice none 0 0, .int .i64 0], .int .i64 (codeB pS S [x])]) (by simp [results, Tryz.results57, go_sem, z0, z1, z2, z3, z4]) rfl (.inr ⟨HCB.out, rfl, below_put5 (HB2.out.trans (B3.out.mono (Nat.le_of_lt hd2))) (Nat.le_of_lt hwg)⟩)
  · obtain ⟨C, hC⟩ : ∃ c, c = codeVs pS S [v] := ⟨_, rfl⟩
    have HBV : Hid (codeBV pS S x v = C) := by show _ = _; unfold codeBV; rw [if_neg hc, hC]
    have HC0 : Hid (C ≠ 0) := by show _ ≠ _; rw [hC]; exact hc
    have hc1 : (C != 0) = true := by simpa using HC0.out
    have HCE := Lib.hid hC
    rw [HBV.out]
    clear hc hC
    go_enter Tryz.func57, Tryz.ntmps57
    go_upto_region 1 with fail
    obtain ⟨w0, hw0'⟩ : ∃ z, z = w.alloc (.cells #[.int .i64 pS, .slice aS S.length cS] 29) := ⟨_, rfl⟩
    rw [← hw0'] at HB0 k0 k1 ⊢
    have hw0 : w.heap.size < w0.heap.size := by rw [hw0']; simp
    have hwz : w.heap.size + 1 = w0.heap.size := by rw [hw0']; simp
    try rw [hwz]
    clear hw0'
    obtain ⟨w1, hw1⟩ : ∃ z, z = w0.alloc (.cells #[.int .i64 0, .slice none 0 0, .slice none 0 0, .slice none 0 0, .int .i64 0] 52) := ⟨_, rfl⟩
    obtain ⟨g, hg⟩ : ∃ b, b = w0.heap.size := ⟨_, rfl⟩
    have hs0 : w1.cell? ⟨w.heap.size, 0, none⟩ = some (.int .i64 pS) ∧ w1.cell? ⟨w.heap.size, 1, none⟩ = some (.slice aS S.length cS) := by rw [hw1]; exact ss2x (below_alloc w0 _) hw0 ⟨k0, k1⟩
    have hzz : Z5 g (.int .i64 0) (.slice none 0 0) (.slice none 0 0) (.slice none 0 0) (.int .i64 0) w1 := by rw [hw1, hg]; exact Z5.new _ _ _ _ _ _ _
    have HB1 : Hid (Below w.heap.size w w1) := by show Below _ _ _; rw [hw1]; exact HB0.out.alloc HB0.out.size _
    have hg1 : g < w1.heap.size := by rw [hw1, hg]; simp
    have hwg : w.heap.size < g := by omega
    have hd1 : w.heap.size < w1.heap.size := Nat.lt_trans hwg hg1
    rw [← hw1]
    rw [← hg]
    clear hw1 hwz hg k0 k1
    have k0 := hs0.1
    have k1 := hs0.2
    have K1 := Lib.hid hs0
    have ZZ := Lib.hid hzz
    clear hs0 hzz
    go_wp2_with (go_at_call 89; ((with_reducible refine (checkV1 pS aS S cS loS tpS av v cv lov tpv _ _ w1 _ rfl (HS.out.below HB1.out tS) (Nat.le_trans tS HB1.out.size) sS (Hv.out.below HB1.out tv) (Nat.le_trans tv HB1.out.size) sv).mono ?_); rintro e w2 ⟨rfl, b_⟩; rw [← HCE.out]; have HB2 := Lib.hid (HB1.out.trans (b_.mono (Nat.le_of_lt hd1))); have k0' := (b_.cell (p := ⟨w.heap.size, 0, none⟩) hd1).trans k0; have k1' := (b_.cell (p := ⟨w.heap.size, 1, none⟩) hd1).trans k1; have hd2 := Nat.lt_of_lt_of_le hd1 b_.size; have gd2 := Nat.lt_of_lt_of_le hg1 b_.size; have ZZ2 := Lib.hid (ZZ.out.below b_ hg1); obtain ⟨⟨z0, z1, z2, z3, z4⟩, y0, y1, y2, y3, y4⟩ := ZZ.out.below b_ hg1; clear b_ k0 k1))
    refine bodyPost_ret (v := .tuple #[.agg #[.int .i64 0, .slice none 0 0, .slice none 0 0, .slice none 0 0, .int .i64 0], .int .i64 C]) (by simp [results, Tryz.results57, go_sem, z0, z1, z2, z3, z4]) rfl (.inr ⟨HC0.out, rfl, below_put5 HB2.out (Nat.le_of_lt hwg)⟩)

end Go.Proofs.YtbnegbpapjcmhaaGreat

namespace Go.Proofs.YtbnegbpapjcmhaaGreat
open Go.RowKit
set_option linter.unusedVariables false

/-- What the two blocks hold. -/
def Tgs (w : World) (bm br n : Nat) : Prop := (∃ cur, w.heap[bm]? = some (.cells cur 22 (0, 0)) ∧ cur.size = n) ∧ ∃ cur, w.heap[br]? = some (.cells cur 2 (0, 0))
theorem Tgs.set {w : World} {bm br n : Nat} (h : Tgs w bm br n) (hne : bm ≠ br) (i : Nat) (v : Value) : Tgs (w.setCell ⟨bm, i, none⟩ v).drew bm br n := by
  obtain ⟨⟨cur, h1, h2⟩, ⟨cur', h3⟩⟩ := h
  refine ⟨⟨cur.setIfInBounds i v, ?_, by simp [h2]⟩, ⟨cur', ?_⟩⟩
  · show (w.setCell ⟨bm, i, none⟩ v).heap[bm]? = _
    simp [World.setCell, Array.getElem?_modify, h1]
  · show (w.setCell ⟨bm, i, none⟩ v).heap[br]? = _
    rw [Below.heap_setCell _ _ _ _ (fun e => hne e.symm)]; exact h3
end Go.Proofs.YtbnegbpapjcmhaaGreat

namespace Go.Proofs.YtbnegbpapjcmhaaGreat
open Go.RowKit
set_option linter.unusedVariables false

theorem codeB_one {p : Int} {S x : List Int} (h : codeB p S [x] = 0) : isSp p S = true ∧ isMv p S x = true ∧ isBl p S x = true := by
  rcases codeB_cases p S [x] with ⟨_, _, h2⟩ | ⟨_, _, h2⟩ | ⟨_, _, _, _, h2⟩ | ⟨h0, h1, _, h3, _⟩
  · rw [h] at h2; cases h2
  · rw [h] at h2; cases h2
  · rw [h] at h2; cases h2
  · rw [mv_all1] at h1
    exact ⟨h0, h1, h3 0 (by show 0 < 1; omega)⟩
theorem codeBV_zero {p : Int} {S x v : List Int} (h : codeBV p S x v = 0) : codeVs p S [v] = 0 ∧ codeB p S [x] = 0 := by
  unfold codeBV at h
  by_cases h0 : codeVs p S [v] = 0
  · rw [if_pos h0] at h; exact ⟨h0, h⟩
  · rw [if_neg h0] at h; exact absurd h h0
theorem codeVs_vec {p : Int} {S v : List Int} (h : codeVs p S [v] = 0) : isVec p S.length v = true := by
  unfold codeVs at h
  by_cases h0 : isSp p S = true
  · rw [if_pos h0] at h
    by_cases h1 : [v].all (isVec p S.length) = true
    · rw [mv_all1] at h1; exact h1
    · rw [if_neg h1] at h; cases h
  · rw [if_neg h0] at h; cases h
theorem checkBV_y (pS : Int) (aS : Option Addr) (S : List Int) (cS loS tpS : Nat) (ax : Option Addr) (x : List Int) (cx lox tpx : Nat) (av : Option Addr) (v : List Int) (cv lov tpv : Nat) (w : World) (hS : RowIn loS tpS w aS S) (tS : tpS ≤ w.heap.size) (sS : S.length ≤ 1048576) (hx : RowIn lox tpx w ax x) (tx : tpx ≤ w.heap.size) (sx : x.length ≤ 1048576) (hv : RowIn lov tpv w av v) (tv : tpv ≤ w.heap.size) (sv : v.length ≤ 1048576) (hc : codeBV pS S x v = 0) :
    Calls Tryz.prog 57 #[.agg #[.int .i64 pS, .slice aS S.length cS], .slice ax x.length cx, .slice av v.length cv] w fun e w' => ∃ (r : Option Addr) (k : Nat), e = .returned (.tuple #[.agg #[.int .i64 pS, .slice aS S.length cS, .slice ax x.length cx, .slice r (subM pS S x).length k, .int .i64 (facM pS S x)], .int .i64 0]) ∧ OwnM w.heap.size w'.heap.size w' r (subM pS S x) ∧ Below w.heap.size w w' :=
  (checkBladeAndVector_any pS aS S cS loS tpS ax x cx lox tpx av v cv lov tpv w hS tS sS hx tx sx hv tv sv).mono fun _ _ h => by
    rcases h with ⟨_, h⟩ | ⟨h, _⟩
    · exact h
    · exact absurd hc h
theorem checkBV_n (pS : Int) (aS : Option Addr) (S : List Int) (cS loS tpS : Nat) (ax : Option Addr) (x : List Int) (cx lox tpx : Nat) (av : Option Addr) (v : List Int) (cv lov tpv : Nat) (w : World) (hS : RowIn loS tpS w aS S) (tS : tpS ≤ w.heap.size) (sS : S.length ≤ 1048576) (hx : RowIn lox tpx w ax x) (tx : tpx ≤ w.heap.size) (sx : x.length ≤ 1048576) (hv : RowIn lov tpv w av v) (tv : tpv ≤ w.heap.size) (sv : v.length ≤ 1048576) (hc : codeBV pS S x v ≠ 0) :
    Calls Tryz.prog 57 #[.agg #[.int .i64 pS, .slice aS S.length cS], .slice ax x.length cx, .slice av v.length cv] w fun e w' => e = .returned (.tuple #[.agg #[.int .i64 0, .slice none 0 0, .slice none 0 0, .slice none 0 0, .int .i64 0], .int .i64 (codeBV pS S x v)]) ∧ Below w.heap.size w w' :=
  (checkBladeAndVector_any pS aS S cS loS tpS ax x cx lox tpx av v cv lov tpv w hS tS sS hx tx sx hv tv sv).mono fun _ _ h => by
    rcases h with ⟨h, _⟩ | ⟨_, h⟩
    · exact absurd h hc
    · exact h

end Go.Proofs.YtbnegbpapjcmhaaGreat
