/-
  A blade and a vector checked: contracts of the program and of the model.
  Conditions: the lists are nil or rows of known cells, of at most 1048576 numbers.
  Vectors orthogonal to others: the equations, and what the equation 0 = 0 does. No Go in sight.
  No conditions.
  The model's vectors orthogonal to others: the walk.
  Conditions: the lists are nil or rows of known cells.
  The program's equations: the walk.
  Conditions: the lists are nil or rows of known cells.
-/
import Derived.Test.YtbnegbpapjcmhaaGreatQz24
import Derived.Deep.RegionHeld3
import Derived.Deep.DeepCutAuto
import Derived.Test.YtbnegbpapjcmhaaGreatQz20
import Derived.Test.YtbnegbpapjcmhaaGreatQz13
import Derived.Test.YtbnegbpapjcmhaaGreatQz2
import Derived.Test.YtbnegbpapjcmhaaGreatQz11
import Derived.Test.YtbnegbpapjcmhaaGreatQz5
namespace Go.Proofs.YtbnegbpapjcmhaaGreat
open Go.RowKit
set_option linter.unusedVariables false

noncomputable def codeBV (p : Int) (S x v : List Int) : Int := if codeVs p S [v] = 0 then codeB p S [x] else codeVs p S [v]
theorem checkBlade_y (pS : Int) (aS : Option Addr) (S : List Int) (cS loS tpS : Nat) (ax : Option Addr) (x : List Int) (cx lox tpx : Nat) (w : World) (hS : RowIn loS tpS w aS S) (tS : tpS ≤ w.heap.size) (sS : S.length ≤ 1048576) (hx : RowIn lox tpx w ax x) (tx : tpx ≤ w.heap.size) (sx : x.length ≤ 1048576) (hc : codeB pS S [x] = 0) :
    Calls Tryz.prog 50 #[.agg #[.int .i64 pS, .slice aS S.length cS], .slice ax x.length cx] w fun e w' => ∃ (r : Option Addr) (k : Nat), e = .returned (.tuple #[.agg #[.int .i64 pS, .slice aS S.length cS, .slice ax x.length cx, .slice r (subM pS S x).length k, .int .i64 (facM pS S x)], .int .i64 0]) ∧ OwnM w.heap.size w'.heap.size w' r (subM pS S x) ∧ Below w.heap.size w w' :=
  (checkBlade_any pS aS S cS loS tpS ax x cx lox tpx w hS tS sS hx tx sx).mono fun _ _ h => by
    rcases h with ⟨_, h⟩ | ⟨h, _⟩
    · exact h
    · exact absurd hc h
theorem checkBlade_n (pS : Int) (aS : Option Addr) (S : List Int) (cS loS tpS : Nat) (ax : Option Addr) (x : List Int) (cx lox tpx : Nat) (w : World) (hS : RowIn loS tpS w aS S) (tS : tpS ≤ w.heap.size) (sS : S.length ≤ 1048576) (hx : RowIn lox tpx w ax x) (tx : tpx ≤ w.heap.size) (sx : x.length ≤ 1048576) (hc : codeB pS S [x] ≠ 0) :
    Calls Tryz.prog 50 #[.agg #[.int .i64 pS, .slice aS S.length cS], .slice ax x.length cx] w fun e w' => e = .returned (.tuple #[.agg #[.int .i64 0, .slice none 0 0, .slice none 0 0, .slice none 0 0, .int .i64 0], .int .i64 (codeB pS S [x])]) ∧ Below w.heap.size w w' :=
  (checkBlade_any pS aS S cS loS tpS ax x cx lox tpx w hS tS sS hx tx sx).mono fun _ _ h => by
    rcases h with ⟨h, _⟩ | ⟨_, h⟩
    · exact absurd h hc
    · exact h
theorem checkV1 (p : Int) (aS : Option Addr) (S : List Int) (cS loS tpS : Nat) (av : Option Addr) (v : List Int) (cv lov tpv b cap : Nat) (W : World) (T : TypeId) (hb : b = W.heap.size) (hS : RowIn loS tpS W aS S) (tS : tpS ≤ W.heap.size) (sS : S.length ≤ 1048576) (hv : RowIn lov tpv W av v) (tv : tpv ≤ W.heap.size) (sv : v.length ≤ 1048576) :
    Calls Tryz.prog 89 #[.agg #[.int .i64 p, .slice aS S.length cS], .slice (some ⟨b, 0, none⟩) 1 cap] (W.alloc (.cells #[.slice av v.length cv] T)) fun e w' => e = .returned (.int .i64 (codeVs p S [v])) ∧ Below W.heap.size W w' :=
  (checkVectors_any p aS S cS loS tpS (some ⟨b, 0, none⟩) [v] cap 0 _ _ (hS.below (below_alloc W _) tS) (Nat.le_trans tS (size_alloc W _)) sS (mv_one hb hv tv T) (Nat.le_refl _) (by show 1 ≤ 1048576; omega) (fun i hi => by match i, hi with | 0, _ => exact sv)).mono fun _ _ h => ⟨h.1, below_step (below_alloc W _) (size_alloc W _) h.2⟩

set_option maxRecDepth 100000 in
set_option maxHeartbeats 3200000 in
theorem checkBladeAndVector_any (pS : Int) (aS : Option Addr) (S : List Int) (cS loS tpS : Nat) (ax : Option Addr) (x : List Int) (cx lox tpx : Nat) (av : Option Addr) (v : List Int) (cv lov tpv : Nat) (w : World) (hS : RowIn loS tpS w aS S) (tS : tpS ≤ w.heap.size) (sS : S.length ≤ 1048576) (hx : RowIn lox tpx w ax x) (tx : tpx ≤ w.heap.size) (sx : x.length ≤ 1048576) (hv : RowIn lov tpv w av v) (tv : tpv ≤ w.heap.size) (sv : v.length ≤ 1048576) :
    Calls Tryz.prog 57 #[.agg #[.int .i64 pS, .slice aS S.length cS], .slice ax x.length cx, .slice av v.length cv] w (ChB pS aS S cS ax x cx (codeBV pS S x v) w) := by
  have HS := Lib.hid hS
  have Hx := Lib.hid hx
  have Hv := Lib.hid hv
  have HB0 := Lib.hid (below_alloc w (.cells #[.int .i64 pS, .slice aS S.length cS] 29))
  have k0 := nw0 w (.int .i64 pS) (.slice aS S.length cS) 29
  have k1 := nw1 w (.int .i64 pS) (.slice aS S.length cS) 29
  clear hS hx hv
  by_cases hc : codeVs pS S [v] = 0
  · have HC := Lib.hid hc
    have HBV : Hid (codeBV pS S x v = codeB pS S [x]) := by show _ = _; unfold codeBV; rw [if_pos hc]
    rw [HBV.out]
    clear hc
    by_cases hcb : codeB pS S [x] = 0
    · have HCB := Lib.hid hcb
      clear hcb
      go_enter Tryz.func57, Tryz.ntmps57
      go_upto_region 1 with fail
      obtain ⟨w0, hw0'⟩ : ∃ z, z = w.alloc (.cells #[.int .i64 pS, .slice aS S.length cS] 29) := ⟨_, rfl⟩
      rw [← hw0'] at HB0 k0 k1 ⊢
      have hw0 : w.heap.size < w0.heap.size := by rw [hw0']; simp
      have hwz : w.heap.size + 1 = w0.heap.size := by rw [hw0']; simp
      try rw [hwz]
      clear hw0'
      obtain ⟨w1, hw1⟩ : ∃ z, z = w0.alloc (.cells #[.int .i64 0, .slice none 0 0, .slice none 0 0, .slice none 0 0, .int .i64 0] 52) := ⟨_, rfl⟩
      obtain ⟨g, hg⟩ : ∃ b, b = w0.heap.size := ⟨_, rfl⟩
      have hs0 : w1.cell? ⟨w.heap.size, 0, none⟩ = some (.int .i64 pS) ∧ w1.cell? ⟨w.heap.size, 1, none⟩ = some (.slice aS S.length cS) := by rw [hw1]; exact ss2x (below_alloc w0 _) hw0 ⟨k0, k1⟩
      have hzz : Z5 g (.int .i64 0) (.slice none 0 0) (.slice none 0 0) (.slice none 0 0) (.int .i64 0) w1 := by rw [hw1, hg]; exact Z5.new _ _ _ _ _ _ _
      have HB1 : Hid (Below w.heap.size w w1) := by show Below _ _ _; rw [hw1]; exact HB0.out.alloc HB0.out.size _
      have hg1 : g < w1.heap.size := by rw [hw1, hg]; simp
      have hwg : w.heap.size < g := by omega
      have hd1 : w.heap.size < w1.heap.size := Nat.lt_trans hwg hg1
      rw [← hw1]
      rw [← hg]
      clear hw1 hwz hg k0 k1
      have k0 := hs0.1
      have k1 := hs0.2
      have K1 := Lib.hid hs0
      have ZZ := Lib.hid hzz
      clear hs0 hzz
      go_upto_region 4 with (go_at_call 89; ((with_reducible refine (checkV1 pS aS S cS loS tpS av v cv lov tpv _ _ w1 _ rfl (HS.out.below HB1.out tS) (Nat.le_trans tS HB1.out.size) sS (Hv.out.below HB1.out tv) (Nat.le_trans tv HB1.out.size) sv).mono ?_); rintro e w2 ⟨rfl, b_⟩; rw [HC.out]; have HB2 := Lib.hid (HB1.out.trans (b_.mono (Nat.le_of_lt hd1))); have k0' := (b_.cell (p := ⟨w.heap.size, 0, none⟩) hd1).trans k0; have k1' := (b_.cell (p := ⟨w.heap.size, 1, none⟩) hd1).trans k1; have hd2 := Nat.lt_of_lt_of_le hd1 b_.size; have gd2 := Nat.lt_of_lt_of_le hg1 b_.size; have ZZ2 := Lib.hid (ZZ.out.below b_ hg1); clear b_ k0 k1))
      go_wp2_with (go_at_call 50; ((with_reducible refine (checkBlade_y pS aS S cS loS tpS ax x cx lox tpx w2 (HS.out.below HB2.out tS) (Nat.le_trans tS HB2.out.size) sS (Hx.out.below HB2.out tx) (Nat.le_trans tx HB2.out.size) sx HCB.out).mono ?_); rintro e w3 ⟨r0, k0_, rfl, oo_, b_⟩; have OO := Lib.hid oo_; have B3 := Lib.hid b_; obtain ⟨⟨z0, z1, z2, z3, z4⟩, y0, y1, y2, y3, y4⟩ := ZZ2.out.below b_ gd2; obtain ⟨F, hF⟩ : ∃ f, f = facM pS S x := ⟨_, rfl⟩; have HF := Lib.hid hF; rw [← hF]; clear oo_ b_ hF k0' k1'))
      refine bodyPost_ret (v := .tuple #[.agg #[.int .i64 pS, .slice aS S.length cS, .slice ax x.length cx, .slice r0 (subM pS S x).length k0_, .int .i64 F], .int .i64 0]) (by simp [results, Tryz.results57, go_sem, z0, z1, z2, z3, z4]) rfl (.inl ⟨HCB.out, r0, k0_, by rw [← HF.out], ?_, ?_⟩)
      · exact (OO.out.put5 (g := g) gd2).mono (Nat.le_of_lt hd2) (by simp [World.setCell])
      · exact below_put5 (HB2.out.trans (B3.out.mono (Nat.le_of_lt hd2))) (Nat.le_of_lt hwg)
    · have HCB := Lib.hid hcb
      clear hcb
      go_enter Tryz.func57, Tryz.ntmps57
      go_upto_region 1 with fail
      obtain ⟨w0, hw0'⟩ : ∃ z, z = w.alloc (.cells #[.int .i64 pS, .slice aS S.length cS] 29) := ⟨_, rfl⟩
      rw [← hw0'] at HB0 k0 k1 ⊢
      have hw0 : w.heap.size < w0.heap.size := by rw [hw0']; simp
      have hwz : w.heap.size + 1 = w0.heap.size := by rw [hw0']; simp
      try rw [hwz]
      clear hw0'
      obtain ⟨w1, hw1⟩ : ∃ z, z = w0.alloc (.cells #[.int .i64 0, .slice none 0 0, .slice none 0 0, .slice none 0 0, .int .i64 0] 52) := ⟨_, rfl⟩
      obtain ⟨g, hg⟩ : ∃ b, b = w0.heap.size := ⟨_, rfl⟩
      have hs0 : w1.cell? ⟨w.heap.size, 0, none⟩ = some (.int .i64 pS) ∧ w1.cell? ⟨w.heap.size, 1, none⟩ = some (.slice aS S.length cS) := by rw [hw1]; exact ss2x (below_alloc w0 _) hw0 ⟨k0, k1⟩
      have hzz : Z5 g (.int .i64 0) (.slice none 0 0) (.slice none 0 0) (.slice none 0 0) (.int .i64 0) w1 := by rw [hw1, hg]; exact Z5.new _ _ _ _ _ _ _
      have HB1 : Hid (Below w.heap.size w w1) := by show Below _ _ _; rw [hw1]; exact HB0.out.alloc HB0.out.size _
      have hg1 : g < w1.heap.size := by rw [hw1, hg]; simp
      have hwg : w.heap.size < g := by omega
      have hd1 : w.heap.size < w1.heap.size := Nat.lt_trans hwg hg1
      rw [← hw1]
      rw [← hg]
      clear hw1 hwz hg k0 k1
      have k0 := hs0.1
      have k1 := hs0.2
      have K1 := Lib.hid hs0
      have ZZ := Lib.hid hzz
      clear hs0 hzz
      go_upto_region 4 with (go_at_call 89; ((with_reducible refine (checkV1 pS aS S cS loS tpS av v cv lov tpv _ _ w1 _ rfl (HS.out.below HB1.out tS) (Nat.le_trans tS HB1.out.size) sS (Hv.out.below HB1.out tv) (Nat.le_trans tv HB1.out.size) sv).mono ?_); rintro e w2 ⟨rfl, b_⟩; rw [HC.out]; have HB2 := Lib.hid (HB1.out.trans (b_.mono (Nat.le_of_lt hd1))); have k0' := (b_.cell (p := ⟨w.heap.size, 0, none⟩) hd1).trans k0; have k1' := (b_.cell (p := ⟨w.heap.size, 1, none⟩) hd1).trans k1; have hd2 := Nat.lt_of_lt_of_le hd1 b_.size; have gd2 := Nat.lt_of_lt_of_le hg1 b_.size; have ZZ2 := Lib.hid (ZZ.out.below b_ hg1); clear b_ k0 k1))
      go_wp2_with (go_at_call 50; ((with_reducible refine (checkBlade_n pS aS S cS loS tpS ax x cx lox tpx w2 (HS.out.below HB2.out tS) (Nat.le_trans tS HB2.out.size) sS (Hx.out.below HB2.out tx) (Nat.le_trans tx HB2.out.size) sx HCB.out).mono ?_); rintro e w3 ⟨rfl, b_⟩; have B3 := Lib.hid b_; obtain ⟨⟨z0, z1, z2, z3, z4⟩, y0, y1, y2, y3, y4⟩ := ZZ2.out.below b_ gd2; clear b_ k0' k1'))
      refine bodyPost_ret (v := .tuple #[.agg #[.int .i64 0, .slice none 0 0, .slice none 0 0, .slice none 0 0, .int .i64 0], .int .i64 (codeB pS S [x])]) (by simp [results, Tryz.results57, go_sem, z0, z1, z2, z3, z4]) rfl (.inr ⟨HCB.out, rfl, below_put5 (HB2.out.trans (B3.out.mono (Nat.le_of_lt hd2))) (Nat.le_of_lt hwg)⟩)
  · obtain ⟨C, hC⟩ : ∃ c, c = codeVs pS S [v] := ⟨_, rfl⟩
    have HBV : Hid (codeBV pS S x v = C) := by show _ = _; unfold codeBV; rw [if_neg hc, hC]
    have HC0 : Hid (C ≠ 0) := by show _ ≠ _; rw [hC]; exact hc
    have hc1 : (C != 0) = true := by simpa using HC0.out
    have HCE := Lib.hid hC
    rw [HBV.out]
    clear hc hC
    go_enter Tryz.func57, Tryz.ntmps57
    go_upto_region 1 with fail
    obtain ⟨w0, hw0'⟩ : ∃ z, z = w.alloc (.cells #[.int .i64 pS, .slice aS S.length cS] 29) := ⟨_, rfl⟩
    rw [← hw0'] at HB0 k0 k1 ⊢
    have hw0 : w.heap.size < w0.heap.size := by rw [hw0']; simp
    have hwz : w.heap.size + 1 = w0.heap.size := by rw [hw0']; simp
    try rw [hwz]
    clear hw0'
    obtain ⟨w1, hw1⟩ : ∃ z, z = w0.alloc (.cells #[.int .i64 0, .slice none 0 0, .slice none 0 0, .slice none 0 0, .int .i64 0] 52) := ⟨_, rfl⟩
    obtain ⟨g, hg⟩ : ∃ b, b = w0.heap.size := ⟨_, rfl⟩
    have hs0 : w1.cell? ⟨w.heap.size, 0, none⟩ = some (.int .i64 pS) ∧ w1.cell? ⟨w.heap.size, 1, none⟩ = some (.slice aS S.length cS) := by rw [hw1]; exact ss2x (below_alloc w0 _) hw0 ⟨k0, k1⟩
    have hzz : Z5 g (.int .i64 0) (.slice none 0 0) (.slice none 0 0) (.slice none 0 0) (.int .i64 0) w1 := by rw [hw1, hg]; exact Z5.new _ _ _ _ _ _ _
    have HB1 : Hid (Below w.heap.size w w1) := by show Below _ _ _; rw [hw1]; exact HB0.out.alloc HB0.out.size _
    have hg1 : g < w1.heap.size := by rw [hw1, hg]; simp
    have hwg : w.heap.size < g := by omega
    have hd1 : w.heap.size < w1.heap.size := Nat.lt_trans hwg hg1
    rw [← hw1]
    rw [← hg]
    clear hw1 hwz hg k0 k1
    have k0 := hs0.1
    have k1 := hs0.2
    have K1 := Lib.hid hs0
    have ZZ := Lib.hid hzz
    clear hs0 hzz
    go_wp2_with (go_at_call 89; ((with_reducible refine (checkV1 pS aS S cS loS tpS av v cv lov tpv _ _ w1 _ rfl (HS.out.below HB1.out tS) (Nat.le_trans tS HB1.out.size) sS (Hv.out.below HB1.out tv) (Nat.le_trans tv HB1.out.size) sv).mono ?_); rintro e w2 ⟨rfl, b_⟩; rw [← HCE.out]; have HB2 := Lib.hid (HB1.out.trans (b_.mono (Nat.le_of_lt hd1))); have k0' := (b_.cell (p := ⟨w.heap.size, 0, none⟩) hd1).trans k0; have k1' := (b_.cell (p := ⟨w.heap.size, 1, none⟩) hd1).trans k1; have hd2 := Nat.lt_of_lt_of_le hd1 b_.size; have gd2 := Nat.lt_of_lt_of_le hg1 b_.size; have ZZ2 := Lib.hid (ZZ.out.below b_ hg1); obtain ⟨⟨z0, z1, z2, z3, z4⟩, y0, y1, y2, y3, y4⟩ := ZZ.out.below b_ hg1; clear b_ k0 k1))
    refine bodyPost_ret (v := .tuple #[.agg #[.int .i64 0, .slice none 0 0, .slice none 0 0, .slice none 0 0, .int .i64 0], .int .i64 C]) (by simp [results, Tryz.results57, go_sem, z0, z1, z2, z3, z4]) rfl (.inr ⟨HC0.out, rfl, below_put5 HB2.out (Nat.le_of_lt hwg)⟩)

end Go.Proofs.YtbnegbpapjcmhaaGreat

namespace Go.Proofs.YtbnegbpapjcmhaaGreat
set_option linter.unusedVariables false

def ortF (p : Int) (S : List Int) (m : List (List Int)) (i k : Nat) : Int := at' m i k * S.getD k 0 % p
def ortM (p : Int) (S : List Int) (m : List (List Int)) : List (List Int) := mk m.length S.length (ortF p S m)
def zrow (c : Nat) : List Int := mkR c fun _ => 0
theorem zrow_len (c : Nat) : (zrow c).length = c := mkR_len _ _
theorem nul_zero {p : Int} {c : Nat} {E : List (List Int)} (x : Nat → Int) : nul p (zrow c :: E).length c (at' (zrow c :: E)) x ↔ nul p E.length c (at' E) x := by
  constructor
  · intro h i hi
    have := h (i + 1) (by simp; omega)
    rwa [at_cons] at this
  · intro h i hi
    cases i with
    | zero =>
      rw [at_cons0]
      have e : sm c (fun j => num (zrow c) j * x j) = sm c (fun _ => 0) := sm_congr fun j hj => by
        have : num (zrow c) j = 0 := mkR_at _ hj
        rw [this, Int.zero_mul]
      rw [e, sm_zero]; rfl
    | succ i =>
      rw [at_cons]
      exact h i (by simp at hi; omega)
theorem isBas_zero {p : Int} {c : Nat} {E m : List (List Int)} : IsBas p c (zrow c :: E) m ↔ IsBas p c E m :=
  ⟨fun h => ⟨h.len, h.red, fun x => (nul_zero x).symm.trans (h.nul x)⟩, fun h => ⟨h.len, h.red, fun x => (nul_zero x).trans (h.nul x)⟩⟩
theorem bas_zero {p : Int} {c : Nat} {E : List (List Int)} (hp : 1 < p) (h0 : (rw' E 0).length = c) : bas p (zrow c :: E) = bas p E := by
  have e0 : (rw' (zrow c :: E) 0).length = c := zrow_len c
  by_cases hx : ∃ m, IsBas p c E m
  · obtain ⟨m, hm⟩ := hx
    rw [← bas_eq (A := E) hp (by rw [h0]; exact hm), ← bas_eq (A := zrow c :: E) hp (by rw [e0]; exact isBas_zero.2 hm)]
  · unfold bas
    rw [e0, h0, dif_neg (fun ⟨m, hm⟩ => hx ⟨m, isBas_zero.1 hm⟩), dif_neg hx]
theorem ker_zero {p : Int} {c : Nat} {E : List (List Int)} (hp : 1 < p) (h0 : (rw' E 0).length = c) : kerB p (zrow c :: E) = kerB p E := by
  have e0 : (rw' (zrow c :: E) 0).length = c := zrow_len c
  unfold kerB kerP
  rw [bas_zero hp h0, e0, h0]
theorem bas_zrow {p : Int} {c : Nat} (hp : 1 < p) : bas p [zrow c] = [] := by
  have e0 : (rw' [zrow c] 0).length = c := zrow_len c
  refine (bas_eq (A := [zrow c]) hp ?_).symm
  rw [e0]
  refine isBas_zero.2 ⟨fun i hi => by simp at hi, ⟨fun _ => 0, ?_⟩, fun x => Iff.rfl⟩
  constructor <;> intros <;> simp at * <;> omega
theorem kerN_free {p : Int} (hp : 1 < p) (P : Nat → Nat) (c k : Nat) : kerN p [] P c 0 k = mk k c fun i j => if i = j then 1 else 0 := by
  induction k with
  | zero => rfl
  | succ k ih =>
    rw [kerN_no rfl, ih, mk_succ, kvec_unit hp]
theorem one_bas {p : Int} {c : Nat} (hp : 1 < p) (c0 : 0 < c) : IsBas p (rw' (oneM c) 0).length (oneM c) (oneM c) := by
  have e0 : (rw' (oneM c) 0).length = c := mk_rowLen _ c0
  have el : (oneM c).length = c := mk_len _ _ _
  have ea : ∀ i, i < c → ∀ j, j < c → at' (oneM c) i j = if i = j then 1 else 0 := fun i hi j hj => mk_at _ hi hj
  rw [e0]
  refine ⟨fun i hi => mk_rowLen _ (by omega), ⟨fun i => i, ?_⟩, fun x => Iff.rfl⟩
  rw [el]
  exact ⟨fun i hi => hi, fun i i' h _ => h, fun i hi => by rw [ea i hi i hi, if_pos rfl], fun i hi i' hi' hne => by rw [ea i' hi' i hi, if_neg (fun q => hne q.symm)], fun i hi j hj => by rw [ea i hi j (by omega), if_neg (by omega)],
    fun i hi j hj => by rw [ea i hi j hj]; split <;> omega⟩
theorem ker_zrow {p : Int} {c : Nat} (hp : 1 < p) (c0 : 0 < c) : kerB p [zrow c] = oneM c := by
  have e0 : (rw' [zrow c] 0).length = c := zrow_len c
  unfold kerB kerP
  rw [bas_zrow hp, e0]
  have e1 : kerN p [] (pvs []) c ([] : List (List Int)).length c = oneM c := kerN_free hp _ c c
  rw [e1]
  exact (bas_eq hp (one_bas hp c0)).symm
theorem ort_row {p : Int} {S : List Int} {m : List (List Int)} {i : Nat} (hi : i < m.length) : rw' (ortM p S m) i = mkR S.length (ortF p S m i) := mk_row _ hi
theorem ort_lst {p : Int} {S : List Int} {m : List (List Int)} (hp : prm p = true) (s0 : 1 ≤ S.length) (s1 : S.length ≤ 6) (hm : 0 < m.length) (hm2 : m.length ≤ 16) : Lst 1 p (ortM p S m) := by
  have el : (ortM p S m).length = m.length := mk_len _ _ _
  have er : ∀ i, i < m.length → (rw' (ortM p S m) i).length = S.length := fun i hi => mk_rowLen _ hi
  refine ⟨hp, by omega, by omega, fun i hi => by rw [er i (by omega), er 0 hm], fun i hi => by rw [er i (by omega)]; exact s0, fun i hi => by rw [er i (by omega)]; omega, fun i hi => ?_⟩
  rw [ort_row (by omega), List.all_eq_true]
  intro x hx
  unfold mkR at hx
  obtain ⟨k, _, rfl⟩ := List.mem_map.1 hx
  exact inr_iff.2 (mod_bd hp _)

end Go.Proofs.YtbnegbpapjcmhaaGreat

namespace Go.Proofs.YtbnegbpapjcmhaaGreat
open Go.RowKit Go.ChangeShapes Go.WideShapes
set_option linter.unusedVariables false

noncomputable def ortB (p : Int) (S : List Int) (m : List (List Int)) : List (List Int) := if m.length = 0 then oneM S.length else kerB p (ortM p S m)

theorem OutM.startA (w : World) (B a : Nat) (t : TypeId) (ha : w.heap.size = a) (hB : B ≤ w.heap.size) (ht : t = 22) : OutM B (w.alloc (.cells #[] t)) (.slice (some ⟨a, 0, none⟩) 0 0) [] := by
  subst ha; exact OutM.start w B t hB ht
set_option maxRecDepth 100000 in
set_option maxHeartbeats 6400000 in
theorem l03Orthogonal_any (p : Int) (aS : Option Addr) (S : List Int) (cS loS tpS : Nat) (am : Option Addr) (m : List (List Int)) (cm lom tpm : Nat) (w : World)
    (hS : RowIn loS tpS w aS S) (tS : tpS ≤ w.heap.size) (hm : MatIn lom tpm w am m) (tm : tpm ≤ w.heap.size) (hs : isSp p S = true) (hl : listB p S m = true) :
    Calls Tryz.prog 66 #[.agg #[.int .i64 p, .slice aS S.length cS], .slice am m.length cm] w (NewM (ortB p S m) w) := by
  obtain ⟨i0, hi, hz0, hz1, hz2⟩ := info_parts info64
  obtain ⟨j0, kj, kz0, kz1, kz2⟩ := info_parts info_slice
  have K := isSp_iff.1 hs
  have hpb := prm_bd K.prime
  have HP := Lib.hid K.prime
  have hS6 := K.hi
  have hS1 := K.lo
  have HS := Lib.hid hS
  have Hm := Lib.hid hm
  have HK := Lib.hid K
  have hm16 := (listB_iff hl).1
  have HVE := Lib.hid (listB_iff hl).2
  have HOL : Hid (0 < m.length → Lst 1 p (ortM p S m)) := fun h => ort_lst K.prime hS1 hS6 h hm16
  obtain ⟨n, hn⟩ : ∃ n, n = S.length := ⟨_, rfl⟩
  rw [← hn] at hS6 hS1
  have HN := Lib.hid hn
  have hn1 : S.length ≤ n ∧ n ≤ S.length := by omega
  rw [← hn]
  have HB1 := Lib.hid (balloc w (.cells #[.int .i64 p, .slice aS n cS] 29))
  have k0n := nw0 w (.int .i64 p) (.slice aS n cS) 29
  have k1n := nw1 w (.int .i64 p) (.slice aS n cS) 29
  have l0 : w.heap.size < (w.alloc (.cells #[.int .i64 p, .slice aS n cS] 29)).heap.size := by simp
  have HZ1 : Hid ((w.alloc (.cells #[.int .i64 p, .slice aS n cS] 29)).heap.size = w.heap.size + 1) := by show _ = _; simp
  clear hS hm hs hl K hn
  by_cases h0 : m.length = 0
  · have HO : Hid (ortB p S m = oneM n) := by show _ = _; unfold ortB; rw [if_pos h0, HN.out]
    have HOE : Hid ((oneM n).length = n) := mk_len _ _ _
    have e0 : ((m.length : Int) == 0) = true := beq_iff_eq.2 (by omega)
    clear h0
    rw [HO.out]
    go_enter Tryz.func66, Tryz.ntmps66
    go_wp2_with (go_at_call 103; (with_reducible refine (l02Unit_any n _ (by omega)).mono ?_); rintro e w2 ⟨r2, k2, rfl, ho2, hb2⟩; have HO2 := Lib.hid ho2; have HB2 := Lib.hid (HB1.out.trans (hb2.mono HB1.out.size)); clear ho2 hb2)
    go_ret
    exact ⟨r2, k2, rfl, HO2.out.mono HB1.out.size (Nat.le_refl _), HB2.out⟩
  · have HO : Hid (ortB p S m = kerB p (ortM p S m)) := by show _ = _; unfold ortB; rw [if_neg h0]
    have hm0 : 0 < m.length := by omega
    have e0 : ((m.length : Int) == 0) = false := beq_eq_false_iff_ne.2 (by omega)
    have HEM : Hid (mk m.length n (ortF p S m) = ortM p S m) := by show _ = _; rw [HN.out]; rfl
    have HLO := Lib.hid (HOL.out hm0)
    clear h0
    rw [HO.out]
    go_enter Tryz.func66, Tryz.ntmps66
    go_wp2
    obtain ⟨w1, hw1⟩ : ∃ z, z = w.alloc (.cells #[.int .i64 p, .slice aS n cS] 29) := ⟨_, rfl⟩
    rw [← hw1] at HB1 k0n k1n l0 HZ1
    rw [← hw1]
    have K0 := Lib.hid k0n
    have K1 := Lib.hid k1n
    have hzw := HB1.out.size
    clear hw1 k0n k1n
    go_loopw [5, 6] (fun v t wr => ∃ i : Nat, i ≤ m.length ∧ t = .int .i64 i ∧ OutM w1.heap.size wr v (mk i n (ortF p S m)) ∧ Below w1.heap.size w1 wr) (fun _ t _ => m.length - (intOf t).toNat)
    case atStart => exact ⟨0, Nat.zero_le _, rfl, OutM.startA w1 _ _ _ HZ1.out (Nat.le_refl _) rfl, balloc w1 _⟩
    case round =>
      obtain ⟨i, hi', rfl, ho, hbel⟩ := hrel
      have HOO := Lib.hid ho
      have HBEL := Lib.hid hbel
      have hwz := hbel.size
      have k0w := (hbel.cell (p := ⟨w.heap.size, 0, none⟩) l0).trans K0.out
      rename World => wo
      clear ho hbel
      by_cases hlt : i < m.length
      · have hk1 : (i : Int) < (m.length : Int) := by omega
        have hvec := isVec_iff.1 (HVE.out i hlt)
        have HVEC := Lib.hid hvec
        clear k0w hvec
        go_wp2
        go_loopw [7, 8] (fun v t wr => ∃ j : Nat, j ≤ n ∧ t = .int .i64 j ∧ OutR wo.heap.size wr v (mkR j (ortF p S m i)) ∧ Below wo.heap.size wo wr) (fun _ t _ => n - (intOf t).toNat)
        case atStart => exact ⟨0, Nat.zero_le _, rfl, OutR.start wo _ _ (Nat.le_refl _) rfl, balloc wo _⟩
        case round =>
          obtain ⟨j, hj', rfl, hoj, hbj⟩ := hrel
          have HOJ := Lib.hid hoj
          have HBJ := Lib.hid hbj
          have hwj := hbj.size
          have HBK : Hid (Below w1.heap.size w1 wr) := HBEL.out.trans (hbj.mono hwz)
          have HBX : Hid (Below w.heap.size w wr) := HB1.out.trans (HBK.out.mono hzw)
          have k0 := (HBK.out.cell (p := ⟨w.heap.size, 0, none⟩) l0).trans K0.out
          have k1 := (HBK.out.cell (p := ⟨w.heap.size, 1, none⟩) l0).trans K1.out
          clear hoj
          by_cases hltj : j < n
          · have hj1 : (j : Int) < (n : Int) := by omega
            obtain ⟨b1, o1, r1, c1, ha1, _, hb1, hr1, hrow1⟩ := (Hm.out.below HBX.out tm).row hlt
            cases ha1
            have hvl := HVEC.out.len
            rw [HVEC.out.len, ← HN.out] at hr1
            obtain ⟨b2, o2, ha2, _, hb2, hc2⟩ := hrow1.num (j := j) (by rw [hvl]; omega)
            subst ha2
            obtain ⟨b3, o3, ha3, _, hb3, hc3⟩ := (HS.out.below HBX.out tS).num (by omega : j < S.length)
            cases ha3
            obtain ⟨x0, x1⟩ := HVEC.out.num (by omega : j < S.length)
            obtain ⟨y0, y1⟩ := HK.out.num (by omega : j < S.length)
            have HSU : Hid (mkR (j + 1) (ortF p S m i) = mkR j (ortF p S m i) ++ [(rw' m i).getD j 0 * S.getD j 0 % p]) := mkR_succ _ _
            obtain ⟨x, hx⟩ : ∃ x, x = (rw' m i).getD j 0 := ⟨_, rfl⟩
            obtain ⟨y, hy⟩ : ∃ y, y = S.getD j 0 := ⟨_, rfl⟩
            rw [← hx] at hc2 x0 x1 HSU
            rw [← hy] at hc3 y0 y1 HSU
            obtain ⟨m0, m1, _, _⟩ := prod3 hpb.2 x0 x1 y0 y1 y0 y1
            have e1 : IntKind.i64.wrap (x * y) = x * y := IntWalk.i64_in _ (by omega)
            have e2 : (x * y).tmod p = x * y % p := Int.tmod_eq_emod_of_nonneg m0
            have hp0 : ¬ p = 0 := by omega
            have hp1 : (p == 0) = false := by simpa using hp0
            obtain ⟨X, hX⟩ : ∃ X, X = (mkR j (ortF p S m i)).map (Value.int .i64) := ⟨_, rfl⟩
            have HX := Lib.hid hX
            have HO2 : Hid (wr.ownsRow wo.heap.size 2 1 u7 j X) := by
              have := HOJ.out; unfold OutR at this; rw [mkR_len, ← hX] at this; exact this
            have hsz := HBX.out.size
            have n0 : u7.ownBlock ≠ some w.heap.size := fun e => by have := (HO2.out.lt _ e).1; omega
            have nb : ∀ b, b < w.heap.size → u7.ownBlock ≠ some b := fun b hb e => by have := (HO2.out.lt _ e).1; omega
            have n1 := nb _ (Nat.lt_of_lt_of_le hb1 tm)
            have n2 := nb _ (Nat.lt_of_lt_of_le hb2 tm)
            have n3 := nb _ (Nat.lt_of_lt_of_le hb3 tS)
            have q0 : w.heap.size < wr.heap.size := by omega
            have q1 := Nat.lt_of_lt_of_le (Nat.lt_of_lt_of_le hb1 tm) hsz
            have q2 := Nat.lt_of_lt_of_le (Nat.lt_of_lt_of_le hb2 tm) hsz
            have q3 := Nat.lt_of_lt_of_le (Nat.lt_of_lt_of_le hb3 tS) hsz
            clear hX hx hy hrow1 hbj nb hvl
            go_wp2
            go_region_held3 (fun w' => w'.cell? ⟨w.heap.size, 0, none⟩ = some (.int .i64 p) ∧ w'.cell? ⟨w.heap.size, 1, none⟩ = some (.slice (some ⟨b3, o3, none⟩) n cS) ∧ w'.cell? ⟨b1, o1 + i, none⟩ = some (.slice (some ⟨b2, o2, none⟩) n c1) ∧ w'.cell? ⟨b2, o2 + j, none⟩ = some (.int .i64 x) ∧ w'.cell? ⟨b3, o3 + j, none⟩ = some (.int .i64 y)) (first | go_keep | (go_split_ands; refine ⟨?_, ?_, ?_, ?_, ?_⟩; (rw [hgrow.cell_far _ (by simp; omega) (Ne.symm n0)]; assumption); (rw [hgrow.cell_far _ (by simp; omega) (Ne.symm n0)]; assumption); (rw [hgrow.cell_far _ (by simp; omega) (Ne.symm n1)]; assumption); (rw [hgrow.cell_far _ (by simp; omega) (Ne.symm n2)]; assumption); (rw [hgrow.cell_far _ (by simp; omega) (Ne.symm n3)]; assumption))) ((refine step_append_lies _ (by rfl) _ _ _ (by rfl) wo.heap.size 2 i0 _ 1 8 Tryz.underlying22 hi hz0 hz1 hz2 rfl (by omega) u7 j X (by rfl) ((HO2.out.alloc _).drew) ⟨wr.heap.size, 0, none⟩ 1 1 [.int .i64 (x * y % p)] (by rfl) (by rfl) (World.news_of_block (cs := #[.int .i64 (x * y % p)]) (t := 2) (fr := (0, 0)) (heap_alloc_new wr _)) (by simp [Value.oneCell']) (by omega) (by unfold maxLen; omega) (by omega) (by simp; omega) (wr.heap.size + 1) (by simp) ?_; intro gg cap w4 hown1 hgrow hat hlt1))
            clear e1 e2
            go_wp2
            go_roundw
            case rel => exact ⟨j + 1, by omega, by go_num, OutR.step HO2.out HX.out HSU.out hown1, ((HBJ.out.alloc hwj _).drew).grown hgrow (by simp; omega) (fun _ hk => (HO2.out.lt _ hk).1)⟩
            case measure => simp [intOf]; omega
          · have hjn : j = n := by omega
            subst hjn
            obtain ⟨a8, c8, e8, ht8⟩ := HOJ.out.tag
            rw [mkR_len] at e8
            subst e8
            have HT8 := Lib.hid ht8
            obtain ⟨vals, hvo, hvr⟩ := HOO.out
            rw [mk_len] at hvo hvr
            have HV1 := Lib.hid hvo
            have HVR := Lib.hid hvr
            have HVW := Lib.hid (hvo.kept (below_grown HBJ.out) (by cases hv : Value.ownBlock u5 <;> simp))
            have HVRW : Hid (∀ i', i' < i → ∃ r c', vals[i']? = some (.slice r (rw' (mk i j (ortF p S m)) i').length c') ∧ TagR w1.heap.size wr.heap.size wr r (rw' (mk i j (ortF p S m)) i')) := fun i' h' => by
              obtain ⟨r', c', g1, g2⟩ := HVR.out i' h'
              exact ⟨r', c', g1, g2.below HBJ.out (Nat.le_refl _) (Nat.le_refl _) hwj⟩
            clear ht8 hvo hvr hbj
            go_wp2_with (at_builtin; refine wpList_append_lies _ rfl _ _ 26 rfl w1.heap.size 22 j0 (.slice none 0 0) 1 24 Tryz.underlying26 kj kz0 kz1 kz2 rfl (by decide) u5 i vals rfl (HVW.out.alloc _) ⟨wr.heap.size, 0, none⟩ 1 1 [.slice a8 j c8] rfl rfl (World.news_of_block (cs := #[.slice a8 j c8]) (t := 22) (fr := (0, 0)) (heap_alloc_new wr _)) (by simp [Value.oneCell']) (by omega) (by unfold maxLen; omega) (by omega) (by simp; omega) (wr.heap.size + 1) (by simp) ?_; intro gg cap w1 hown1 hgrow hat hlt1)
            go_wp2
            go_roundw
            case rel => exact ⟨i + 1, by omega, by go_num, OutM.next HVW.out HVRW.out HT8.out rfl hwz hown1 hgrow, ((HBEL.out.trans (HBJ.out.mono hwz)).alloc (by omega) _).grown hgrow (by simp; omega) (fun _ hk => (HV1.out.lt _ hk).1)⟩
            case measure => simp [intOf]; omega
      · have hin : i = m.length := by omega
        subst hin
        have ho2 := HOO.out
        rw [HEM.out] at ho2
        obtain ⟨r, c, hv, hmat⟩ := ho2.mat
        subst hv
        have HMT := Lib.hid hmat
        clear hmat ho2
        go_wp2_with (go_at_call 82; (with_reducible refine (l02Kernel_any p r (ortM p S m) c _ _ wo HMT.out (Nat.le_refl _) HLO.out).mono ?_); rintro e w3 ⟨r3, k3, rfl, ho3, hb3⟩; have HO3 := Lib.hid ho3; have HB3 := Lib.hid hb3; clear ho3 hb3)
        go_ret
        exact ⟨r3, k3, rfl, HO3.out.mono (Nat.le_trans hzw hwz) (Nat.le_refl _), (HB1.out.trans (HBEL.out.mono hzw)).trans (HB3.out.mono (Nat.le_trans hzw hwz))⟩

end Go.Proofs.YtbnegbpapjcmhaaGreat

namespace Go.Proofs.YtbnegbpapjcmhaaGreat
open Go.RowKit Go.ChangeShapes Go.WideShapes
set_option linter.unusedVariables false

theorem made_tagE (w : World) (n : Nat) (t : TypeId) (ht : t = 2) : TagR w.heap.size (w.alloc (.cells (madeCells #[.int .i64 0] n) t)).heap.size (w.alloc (.cells (madeCells #[.int .i64 0] n) t)) (some ⟨w.heap.size, 0, none⟩) (mkR n fun _ => 0) := by
  subst ht
  refine .inr ⟨w.heap.size, 0, madeCells #[.int .i64 0] n, rfl, Nat.le_refl _, by simp, heap_alloc_new w _, fun j hj => ?_⟩
  rw [mkR_len] at hj
  rw [Nat.zero_add, made_cell w _ n _ hj, mkR_at _ hj]

def eqnL (p : Int) (S v : List Int) : List Int := mkR S.length fun k => v.getD k 0 * S.getD k 0 % p
def NewE (n : Nat) (z : List Int) (w : World) (e : Ending) (w' : World) : Prop := ∃ g, e = .returned (.slice (some ⟨g, 0, none⟩) n n) ∧ TagR w.heap.size w'.heap.size w' (some ⟨g, 0, none⟩) z ∧ Below w.heap.size w w'
set_option maxRecDepth 100000 in
set_option maxHeartbeats 6400000 in
theorem equationOf_any (p : Int) (aS : Option Addr) (S : List Int) (cS loS tpS : Nat) (av : Option Addr) (v : List Int) (n cv lov tpv : Nat) (w : World) (hn : S.length = n)
    (hS : RowIn loS tpS w aS S) (tS : tpS ≤ w.heap.size) (hv : RowIn lov tpv w av v) (tv : tpv ≤ w.heap.size) (hs : isSp p S = true) (h1 : isVec p S.length v = true) :
    Calls Tryz.prog 106 #[.agg #[.int .i64 p, .slice aS n cS], .slice av n cv] w (NewE n (eqnL p S v) w) := by
  have K := isSp_iff.1 hs
  have V := isVec_iff.1 h1
  have hpb := prm_bd K.prime
  have HP := Lib.hid K.prime
  have hS6 := K.hi
  have hS1 := K.lo
  have HS := Lib.hid hS
  have Hv := Lib.hid hv
  have HK := Lib.hid K
  have HVV := Lib.hid V
  have HEL : Hid (eqnL p S v = mkR n fun k => v.getD k 0 * S.getD k 0 % p) := by show _ = _; rw [← hn]; rfl
  have HVL : Hid (v.length = n) := V.len.trans hn
  have HN := Lib.hid hn
  rw [hn] at hS6 hS1
  have hn1 : S.length ≤ n ∧ n ≤ S.length := by omega
  have hmk := fun W => run_make_row' (P := Tryz.prog) 22 2 (.int .i64 0) 8 Tryz.underlying22 info64 rfl .i64 .i64 n (by omega) (by omega) W
  have HB1 := Lib.hid (balloc w (.cells #[.int .i64 p, .slice aS n cS] 29))
  have k0n := nw0 w (.int .i64 p) (.slice aS n cS) 29
  have k1n := nw1 w (.int .i64 p) (.slice aS n cS) 29
  have k1u := ((balloc (w.alloc (.cells #[.int .i64 p, .slice aS n cS] 29)) (.cells (madeCells #[.int .i64 0] n) 2)).cell (p := ⟨w.heap.size, 1, none⟩) (show w.heap.size < (w.alloc (.cells #[.int .i64 p, .slice aS n cS] 29)).heap.size by simp)).trans k1n
  have l0 : w.heap.size < (w.alloc (.cells #[.int .i64 p, .slice aS n cS] 29)).heap.size := by simp
  have HZ1 : Hid ((w.alloc (.cells #[.int .i64 p, .slice aS n cS] 29)).heap.size = w.heap.size + 1) := by show _ = _; simp
  rw [HEL.out]
  clear hS hv hs h1 K V hn
  go_enter Tryz.func106, Tryz.ntmps106
  go_wp2
  clear hmk k1u
  obtain ⟨w1, hw1⟩ : ∃ z, z = w.alloc (.cells #[.int .i64 p, .slice aS n cS] 29) := ⟨_, rfl⟩
  rw [← hw1] at HB1 k0n k1n l0 HZ1
  rw [← hw1]
  have K0 := Lib.hid k0n
  have hzw := HB1.out.size
  clear hw1 k0n k1n
  go_loopw [14] (fun t wr => ∃ i : Nat, i ≤ n ∧ t = .int .i64 i ∧ TagR w1.heap.size wr.heap.size wr (some ⟨w.heap.size + 1, 0, none⟩) (mkR n fun k => if k < i then v.getD k 0 * S.getD k 0 % p else 0) ∧ Below w1.heap.size w1 wr) (fun t _ => n - (intOf t).toNat)
  case atStart => exact ⟨0, Nat.zero_le _, rfl, by have h := made_tagE w1 n _ rfl; rw [show (mkR n fun _ => (0 : Int)) = mkR n (fun k => if k < 0 then v.getD k 0 * S.getD k 0 % p else 0) from mkR_congr (fun j _ => by simp)] at h; rw [← HZ1.out]; exact h, balloc w1 _⟩
  case round =>
    obtain ⟨i, hi, rfl, ht, hb⟩ := hrel
    have HT := Lib.hid ht
    have HB := Lib.hid hb
    have HBX : Hid (Below w.heap.size w wr) := HB1.out.trans (hb.mono hzw)
    have k0 := (hb.cell (p := ⟨w.heap.size, 0, none⟩) l0).trans K0.out
    clear ht
    by_cases hlt : i < n
    · have hi1 : (i : Int) < (n : Int) := by omega
      obtain ⟨b2, o2, ha2, _, hb2, hc2⟩ := (Hv.out.below HBX.out tv).num (j := i) (by rw [HVL.out]; exact hlt)
      subst ha2
      obtain ⟨b3, o3, ha3, _, hb3, hc3⟩ := (HS.out.below HBX.out tS).num (by omega : i < S.length)
      subst ha3
      obtain ⟨x0, x1⟩ := HVV.out.num (by omega : i < S.length)
      obtain ⟨y0, y1⟩ := HK.out.num (by omega : i < S.length)
      have HSET : Hid ((mkR n fun k => if k < i then v.getD k 0 * S.getD k 0 % p else 0).set i (v.getD i 0 * S.getD i 0 % p) = mkR n fun k => if k < i + 1 then v.getD k 0 * S.getD k 0 % p else 0) := mkR_set _ _ (fun j _ => by
        by_cases e : j = i
        · subst e; rw [if_pos (by omega), if_pos rfl]
        · rw [if_neg e]
          by_cases e2 : j < i
          · rw [if_pos e2, if_pos (by omega)]
          · rw [if_neg e2, if_neg (by omega)])
      obtain ⟨bg, og, hag, _, _, hcg⟩ := HT.out.row.num (j := i) (by rw [mkR_len]; exact hlt)
      cases hag
      rw [Nat.zero_add] at hcg
      obtain ⟨u, hu⟩ : ∃ u, u = (mkR n fun k => if k < i then v.getD k 0 * S.getD k 0 % p else 0).getD i 0 := ⟨_, rfl⟩
      rw [← hu] at hcg
      have hfg : wr.frozen? ⟨w.heap.size + 1, i, none⟩ = false := by
        rcases HT.out with h | ⟨b', o', cur, e, _, _, ht, _⟩
        · have := mkR_len n (fun k => if k < i then v.getD k 0 * S.getD k 0 % p else 0); rw [h] at this; simp at this; omega
        · cases e; exact free_of ht _
      obtain ⟨x, hx⟩ : ∃ x, x = v.getD i 0 := ⟨_, rfl⟩
      obtain ⟨y, hy⟩ : ∃ y, y = S.getD i 0 := ⟨_, rfl⟩
      rw [← hx] at hc2 x0 x1
      rw [← hy] at hc3 y0 y1
      have HXY : Hid (v.getD i 0 * S.getD i 0 % p = x * y % p) := by show _ = _; rw [hx, hy]
      obtain ⟨m0, m1, _, _⟩ := prod3 hpb.2 x0 x1 y0 y1 y0 y1
      have e1 : IntKind.i64.wrap (x * y) = x * y := IntWalk.i64_in _ (by omega)
      have e2 : (x * y).tmod p = x * y % p := Int.tmod_eq_emod_of_nonneg m0
      have hp0 : ¬ p = 0 := by omega
      have hp1 : (p == 0) = false := by simpa using hp0
      clear hu hx hy hb
      go_wp2
      go_region
      go_wp2
      go_roundw
      case rel =>
        have h := HT.out.set (j := i) (by rw [mkR_len]; exact hlt) (x * y % p)
        rw [← HXY.out, HSET.out, HXY.out, Nat.zero_add] at h
        exact ⟨i + 1, by omega, by go_num, h.block (Nat.le_refl _) (by simp [World.setCell]) (fun _ _ _ _ _ => rfl), (Below.setCell HB.out (Nat.le_of_eq HZ1.out) _).drew⟩
      case measure => simp [intOf]; omega
    · have hin : i = n := by omega
      subst hin
      have HE : Hid ((mkR i fun k => if k < i then v.getD k 0 * S.getD k 0 % p else 0) = mkR i fun k => v.getD k 0 * S.getD k 0 % p) := mkR_congr (fun j h => if_pos h)
      clear hb
      go_wp2
      go_ret
      exact ⟨_, rfl, by have h := HT.out; rw [HE.out] at h; exact h.block hzw (Nat.le_refl _) (fun _ _ _ _ _ => rfl), HBX.out⟩

end Go.Proofs.YtbnegbpapjcmhaaGreat
