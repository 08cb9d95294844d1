/-
  The program's matrix of the products with a multivector: contract.
  Conditions: a space and a multivector of it: rows of known cells.
  Products of a kind: wedge product, left and right contraction: sums. No Go in sight.
  No conditions.
  The program's products of a kind: sums; the table of the kinds: contracts.
  No conditions but masks below 64.
  Few squares: codes: contracts of the program and of the model.
  Conditions: the lists are nil or rows of known cells, of at most 1048576 numbers.
-/
import Derived.Test.YtckpcfhmppdghaaQu18
import Derived.Test.YtckpcfhmppdghaaQu13
import Derived.Test.YtckpcfhmppdghaaQu12
import Derived.Laws.EntriesVeiled
import Derived.Test.YtckpcfhmppdghaaQu6
import Derived.Deep.RegionHeld3
import Derived.Deep.DeepCutAuto
namespace Go.Proofs.Ytckpcfhmppdghaa
open Go.RowKit
set_option linter.unusedVariables false

theorem transposed_n (a : Option Addr) (m : List (List Int)) (n ca lo tp : Nat) (w : World) (hnm : m.length = n) (hm : MatIn lo tp w a m) (ht : tp ≤ w.heap.size) (h0 : 0 < m.length) (hc : ∀ i, i < m.length → (rw' m i).length = (rw' m 0).length) (hn : m.length ≤ 1024) (hn2 : (rw' m 0).length ≤ 1024) :
    Calls Try.prog 76 #[.slice a n ca] w (OwnNew (trM m) w) := by
  subst hnm; exact transposed_any a m ca lo tp w hm ht h0 hc hn hn2

set_option maxRecDepth 100000 in
set_option maxHeartbeats 3200000 in
theorem leftMatrix_any (p : Int) (aS : Option Addr) (S : List Int) (cS loS tpS : Nat) (ax : Option Addr) (x : List Int) (cx lox tpx : Nat) (w : World) (hs : isSp p S = true) (hS : RowIn loS tpS w aS S) (tS : tpS ≤ w.heap.size) (hx : RowIn lox tpx w ax x) (tx : tpx ≤ w.heap.size) (mx : isMv p S x = true) :
    Calls Try.prog 83 #[.agg #[.int .i64 p, .slice aS S.length cS], .slice ax x.length cx] w (OwnNew (leftM p S x) w) := by
  have HS := Lib.hid hS
  have HX := Lib.hid hx
  have HI := Lib.hid hs
  have HMX := Lib.hid mx
  have h6 := (isSp_iff.1 hs).hi
  have hbl := bl_le h6
  have hb0 := bl_pos S
  have hmk := fun W => run_make_row' (P := Try.prog) 26 22 (.slice none 0 0) 24 Try.underlying26 info_slice rfl .i64 .i64 (bl S) (by omega) (by omega) W
  obtain ⟨Z, hZ⟩ : ∃ Z, Z = colsM p S x := ⟨_, rfl⟩
  have HZL : Hid (Z.length = bl S) := by show _ = _; rw [hZ]; exact mk_len _ _ _
  have HZR : Hid (∀ i, i < bl S → rw' Z i = prodM p S x (bladeM S i)) := fun i hi => by rw [hZ]; exact cols_row hi
  have HZT : Hid (trM Z = leftM p S x) := by show _ = _; rw [hZ]; exact cols_tr p S x
  have HZE : Hid (∀ i, i < Z.length → (rw' Z i).length = bl S) := fun i hi => by rw [HZL.out] at hi; rw [HZR.out i hi, prodM_len]
  have HB0 := Lib.hid (below_alloc w (.cells #[.int .i64 p, .slice aS S.length cS] 29))
  have k0 := nw0 w (.int .i64 p) (.slice aS S.length cS) 29
  have k1 := nw1 w (.int .i64 p) (.slice aS S.length cS) 29
  clear hS hx hs mx hZ
  go_enter Try.func83, Try.ntmps83
  go_upto_region 1 with fail
  obtain ⟨w1, hw1⟩ : ∃ z, z = w.alloc (.cells #[.int .i64 p, .slice aS S.length cS] 29) := ⟨_, rfl⟩
  rw [← hw1] at HB0 k0 k1 ⊢
  have hw0 : w.heap.size < w1.heap.size := by rw [hw1]; simp
  clear hw1
  go_upto_region 2 with (go_at_call 41; (with_reducible refine (blades_any p aS S cS _ h6).mono ?_); rintro e w2 ⟨rfl, b2⟩; have B2 := Lib.hid b2; have z2 := b2.size; clear b2)
  obtain ⟨b, hb⟩ : ∃ b, b = w2.heap.size := ⟨_, rfl⟩
  obtain ⟨w3, hw3⟩ : ∃ z, z = w2.alloc (.cells (madeCells #[.slice none 0 0] (bl S)) 22) := ⟨_, rfl⟩
  have HG3 : Hid (HalfG w3 b 0 Z (fun _ => none) (fun _ => 0) (fun _ => 0) (fun _ => 0)) := by
    show HalfG _ _ _ _ _ _ _ _
    rw [hw3, hb, ← HZL.out]
    exact HalfG.start w2 Z 22 (fun _ => none) (fun _ => 0) (fun _ => 0) (fun _ => 0)
  have HB2 : Hid (Below w.heap.size w w2) := HB0.out.trans (B2.out.mono (by omega))
  have HB3 : Hid (Below w.heap.size w w3) := by show Below _ _ _; rw [hw3]; exact HB2.out.alloc HB2.out.size _
  have K0 : Hid (w3.cell? ⟨w.heap.size, 0, none⟩ = some (.int .i64 p)) := by show _ = _; rw [hw3]; exact (World.cell?_alloc_old _ _ _ (show w.heap.size ≠ w2.heap.size by omega)).trans ((B2.out.cell (p := ⟨w.heap.size, 0, none⟩) hw0).trans k0)
  have K1 : Hid (w3.cell? ⟨w.heap.size, 1, none⟩ = some (.slice aS S.length cS)) := by show _ = _; rw [hw3]; exact (World.cell?_alloc_old _ _ _ (show w.heap.size ≠ w2.heap.size by omega)).trans ((B2.out.cell (p := ⟨w.heap.size, 1, none⟩) hw0).trans k1)
  have hwb : w.heap.size < b := by omega
  have hbl3 : b < w3.heap.size := by rw [hw3, hb]; simp
  rw [← hw3, ← hb]
  clear hw3 hmk hb z2 k0 k1
  go_wp2
  go_loopw [12] (fun t wr => ∃ i : Nat, i ≤ bl S ∧ t = .int .i64 i ∧ (∃ A C lo tp, HalfG wr b i Z A C lo tp) ∧ wr.cell? ⟨w.heap.size, 0, none⟩ = some (.int .i64 p) ∧ wr.cell? ⟨w.heap.size, 1, none⟩ = some (.slice aS S.length cS) ∧ Below w.heap.size w wr ∧ b < wr.heap.size) (fun t _ => bl S - (intOf t).toNat)
  case atStart => exact ⟨0, Nat.zero_le _, rfl, ⟨_, _, _, _, HG3.out⟩, K0.out, K1.out, HB3.out, hbl3⟩
  case round =>
    obtain ⟨i, hi, rfl, ⟨A, C, lo, tp, hh⟩, hk0, hk1, hbel, hbr⟩ := hrel
    have HH := Lib.hid hh
    have HB := Lib.hid hbel
    have HK0 := Lib.hid hk0
    have HK1 := Lib.hid hk1
    have hwz := hbel.size
    by_cases hlt : i < bl S
    · have hi1 : (i : Int) < (bl S : Int) := Int.ofNat_lt.2 hlt
      have g0 := hh.rest i (Nat.le_refl _) (by rw [HZL.out]; exact hlt)
      have gf := hh.free i
      have hlw : w.heap.size < wr.drew.heap.size := by show w.heap.size < wr.heap.size; omega
      have hbd : b < wr.drew.heap.size := hbr
      have hs1 : Hid (wr.drew.cell? ⟨w.heap.size, 0, none⟩ = some (.int .i64 p) ∧ wr.drew.cell? ⟨w.heap.size, 1, none⟩ = some (.slice aS S.length cS)) := ⟨hk0, hk1⟩
      have HBD : Hid (Below w.heap.size w wr.drew) := hbel.drew
      have hzd := HBD.out.size
      have hwb2 : w.heap.size ≠ b := by omega
      have G0 : Hid (wr.drew.cell? ⟨b, i, none⟩ = some (.slice none 0 0)) := g0
      have GF : Hid (wr.drew.frozen? ⟨b, i, none⟩ = false) := gf
      clear hh hbel
      go_wp2
      go_region_held3 (fun w' => w'.cell? ⟨w.heap.size, 0, none⟩ = some (.int .i64 p) ∧ w'.cell? ⟨w.heap.size, 1, none⟩ = some (.slice aS S.length cS)) (first | go_keep | exact SS7.out | exact SS9.out | exact SS10.out) (first | (go_at_call 69; (with_reducible refine (blade_any p aS S cS i wr.drew h6 hlt).mono ?_); rintro e w7 ⟨b7, rfl, l7, u7, o7, q7⟩; have O7 := Lib.hid o7; have B7 := Lib.hid q7; have z7 := q7.size; have SS7 := Lib.hid (And.intro ((q7.cell (p := ⟨w.heap.size, 0, none⟩) hlw).trans hs1.out.1) ((q7.cell (p := ⟨w.heap.size, 1, none⟩) hlw).trans hs1.out.2)); have HB7 := Lib.hid (HBD.out.trans (q7.mono hzd)); have hz7 := Nat.le_trans hzd z7; have hlw7 := Nat.lt_of_lt_of_le hlw z7; have hbd7 := Nat.lt_of_lt_of_le hbd z7; clear o7 q7) | (go_at_call 68; (with_reducible refine (product_blade p aS S cS loS tpS ax x cx lox tpx b7 i w7 HI.out (HS.out.below HB7.out tS) (Nat.le_trans tS hz7) (HX.out.below HB7.out tx) (Nat.le_trans tx hz7) HMX.out O7.out u7).mono ?_); rintro e w9 ⟨r9, c9, rfl, o9, q9⟩; have O9 := Lib.hid o9; have B9 := Lib.hid q9; have z9 := q9.size; have SS9 := Lib.hid (And.intro ((q9.cell (p := ⟨w.heap.size, 0, none⟩) hlw7).trans SS7.out.1) ((q9.cell (p := ⟨w.heap.size, 1, none⟩) hlw7).trans SS7.out.2)); have SS10 := Lib.hid (And.intro ((World.cell?_setCell_other w9 ⟨b, i, none⟩ ⟨w.heap.size, 0, none⟩ (.slice r9 (prodM p S x (bladeM S i)).length c9) (fun e => hwb2 (by injection e with e1; exact e1.symm))).trans SS9.out.1) ((World.cell?_setCell_other w9 ⟨b, i, none⟩ ⟨w.heap.size, 1, none⟩ (.slice r9 (prodM p S x (bladeM S i)).length c9) (fun e => hwb2 (by injection e with e1; exact e1.symm))).trans SS9.out.2)); have HQ9 := Lib.hid (B7.out.trans (q9.mono z7)); have c0 := (HQ9.out.cell (p := ⟨b, i, none⟩) hbd).trans G0.out; have f0 := (HQ9.out.frozen (p := ⟨b, i, none⟩) hbd).trans GF.out; clear o9 q9))
      have hq9 := HQ9.out.size
      have hq9' : wr.heap.size ≤ w9.heap.size := hq9
      have HZI := HZR.out i hlt
      have HNX := HH.out.next (w1 := w9.setCell ⟨b, i, none⟩ (.slice r9 (prodM p S x (bladeM S i)).length c9)) (r := r9) (c := c9) (T := w9.heap.size) (by rw [HZL.out]; exact hlt)
        (fun k k0 k1 => (Below.heap_setCell _ _ _ _ k1).trans (HQ9.out.block k k0)) (by simp [World.setCell]; exact hq9') (by simp [World.setCell])
        (by rw [HZI]; exact World.cell?_setCell_same w9 _ _ c0)
        (fun j hj => (World.cell?_setCell_other w9 ⟨b, i, none⟩ ⟨b, j, none⟩ _ (fun e => hj (by injection e with _ e2; exact e2.symm))).trans (HQ9.out.cell (p := ⟨b, j, none⟩) hbd))
        (fun j => by have := (HQ9.out.frozen (p := ⟨b, j, none⟩) hbd).trans (HH.out.free j); simp [go_sem, this])
        (by rw [HZI]; exact (OwnR.mono' O9.out (show wr.heap.size ≤ w7.heap.size from z7) (Nat.le_refl _)).same (fun k k0 _ => Below.heap_setCell _ _ _ _ (show k ≠ b by omega)))
      have HNX := Lib.hid HNX
      go_wp2
      go_roundw
      case rel => exact ⟨i + 1, by omega, by go_num, ⟨_, _, _, _, HNX.out⟩, SS10.out.1, SS10.out.2, (HBD.out.trans (HQ9.out.mono hzd)).setCell (by show w.heap.size ≤ b; omega) _, by simp [World.setCell]; omega⟩
      case measure => simp [intOf]; omega
    · have hin : i = bl S := by omega
      have HF : Hid (HalfG wr b Z.length Z A C lo tp) := by show HalfG _ _ _ _ _ _ _ _; rw [HZL.out, ← hin]; exact hh
      have HM := Lib.hid HF.out.own.mat
      have hz0 : 0 < Z.length := by rw [HZL.out]; exact hb0
      have HE : Hid (∀ i, i < Z.length → (rw' Z i).length = (rw' Z 0).length) := fun i hi => by rw [HZE.out i hi, HZE.out 0 hz0]
      have hz1 : Z.length ≤ 1024 := by rw [HZL.out]; omega
      have hz2 : (rw' Z 0).length ≤ 1024 := by rw [HZE.out 0 hz0]; omega
      clear hh hbel hin
      go_wp2_with (first | (go_at_call 76; (with_reducible refine (transposed_n (some ⟨b, 0, none⟩) Z (bl S) (bl S) b wr.heap.size wr HZL.out HM.out (Nat.le_refl _) hz0 HE.out hz1 hz2).mono ?_); rintro e w7 ⟨r7, c7, rfl, o7, q7⟩; have O7 := Lib.hid o7; have B7 := Lib.hid q7; clear o7 q7))
      go_ret
      have h := O7.out
      rw [HZT.out] at h
      exact ⟨r7, c7, by rw [HZT.out]; rfl, h.mono hwz (Nat.le_refl _), HB.out.trans (B7.out.mono hwz)⟩

end Go.Proofs.Ytckpcfhmppdghaa

namespace Go.Proofs.Ytckpcfhmppdghaa
open Go.RowKit
set_option linter.unusedVariables false

/-- Whether the product of two blades is kept: 0 the wedge product, 1 the left contraction, else the right one. -/
def kp (κ a b : Nat) : Bool := if κ = 0 then a &&& b == 0 else if κ = 1 then a &&& b == a else a &&& b == b
end Go.Proofs.Ytckpcfhmppdghaa

namespace Go.Proofs.Ytckpcfhmppdghaa
open Go.RowKit Go.Maps
set_option linter.unusedVariables false

theorem ss2 {B : Nat} {w w' : World} (h : Below B w w') {g : Nat} {u0 u1 : Value} (l : g < B) (h0 : w.cell? ⟨g, 0, none⟩ = some u0 ∧ w.cell? ⟨g, 1, none⟩ = some u1) : w'.cell? ⟨g, 0, none⟩ = some u0 ∧ w'.cell? ⟨g, 1, none⟩ = some u1 :=
  ⟨(h.cell (p := ⟨g, 0, none⟩) l).trans h0.1, (h.cell (p := ⟨g, 1, none⟩) l).trans h0.2⟩
end Go.Proofs.Ytckpcfhmppdghaa

namespace Go.Proofs.Ytckpcfhmppdghaa
open Go.RowKit
set_option linter.unusedVariables false

/-- The code of a space with few squares and multivectors. -/
def stC (p : Int) (S : List Int) (m : List (List Int)) : Int := if codeMv p S m = 0 then (if 4 < S.length then 3 else 0) else codeMv p S m
theorem stC_cases (p : Int) (S : List Int) (m : List (List Int)) : (codeMv p S m ≠ 0 ∧ stC p S m = codeMv p S m) ∨ (codeMv p S m = 0 ∧ 4 < S.length ∧ stC p S m = 3) ∨ (codeMv p S m = 0 ∧ S.length ≤ 4 ∧ stC p S m = 0) := by
  unfold stC
  by_cases h : codeMv p S m = 0
  · by_cases h4 : 4 < S.length
    · exact .inr (.inl ⟨h, h4, by rw [if_pos h, if_pos h4]⟩)
    · exact .inr (.inr ⟨h, by omega, by rw [if_pos h, if_neg h4]⟩)
  · exact .inl ⟨h, if_neg h⟩
theorem stC_zero {p : Int} {S : List Int} {m : List (List Int)} (h : stC p S m = 0) : isSp p S = true ∧ m.all (isMv p S) = true ∧ S.length ≤ 4 := by
  rcases stC_cases p S m with ⟨h1, h2⟩ | ⟨_, _, h2⟩ | ⟨h1, h2, _⟩
  · rw [h2] at h; exact absurd h h1
  · rw [h] at h2; cases h2
  · rcases codeMv_cases p S m with ⟨_, hc⟩ | ⟨hi, ha, _⟩ | ⟨_, _, hc⟩
    · rw [hc] at h1; cases h1
    · exact ⟨hi, ha, h2⟩
    · rw [hc] at h1; cases h1
theorem stC_one {p : Int} {S x : List Int} (h : stC p S [x] = 0) : isSp p S = true ∧ isMv p S x = true ∧ S.length ≤ 4 := by
  have h1 := stC_zero h
  rw [mv_all1] at h1
  exact h1

set_option maxRecDepth 100000 in
set_option maxHeartbeats 3200000 in
theorem checkStructure_any (pS : Int) (aS : Option Addr) (S : List Int) (cS loS tpS : Nat) (am : Option Addr) (m : List (List Int)) (cm lom tpm : Nat) (w : World) (hS : RowIn loS tpS w aS S) (tS : tpS ≤ w.heap.size) (sS : S.length ≤ 1048576) (hm : MatIn lom tpm w am m) (tm : tpm ≤ w.heap.size) (sm : m.length ≤ 1048576) (sr : ∀ i, i < m.length → (rw' m i).length ≤ 1048576) :
    Calls Try.prog 33 #[.agg #[.int .i64 pS, .slice aS S.length cS], .slice am m.length cm] w fun e w' => e = .returned (.int .i64 (stC pS S m)) ∧ Below w.heap.size w w' := by
  have HS := Lib.hid hS
  have Hm := Lib.hid hm
  have HSR := Lib.hid sr
  have k0 := nw0 w (.int .i64 pS) (.slice aS S.length cS) 29
  have k1 := nw1 w (.int .i64 pS) (.slice aS S.length cS) 29
  have HB0 := Lib.hid (below_alloc w (.cells #[.int .i64 pS, .slice aS S.length cS] 29))
  clear hS hm sr
  rcases stC_cases pS S m with ⟨h0, hv⟩ | ⟨h0, h4, hv⟩ | ⟨h0, h4, hv⟩
  · have HV := Lib.hid hv
    obtain ⟨C, hC⟩ : ∃ c, c = codeMv pS S m := ⟨_, rfl⟩
    have hc1 : (C != 0) = true := by rw [hC]; simpa using h0
    have hc2 : (C == 0) = false := by rw [hC]; simpa using h0
    have HCE := Lib.hid hC
    clear hC
    clear h0 hv
    go_enter Try.func33, Try.ntmps33
    go_upto_region 1 with fail
    obtain ⟨w1, hw1⟩ : ∃ z, z = w.alloc (.cells #[.int .i64 pS, .slice aS S.length cS] 29) := ⟨_, rfl⟩
    rw [← hw1] at HB0 k0 k1 ⊢
    have hd1 : w.heap.size < w1.heap.size := by rw [hw1]; simp
    have HB1 := HB0
    clear hw1
    have SS1 := Lib.hid (And.intro k0 k1)
    go_wp2_with (go_at_call 66; ((with_reducible refine (checkMultivectors_any pS aS S cS loS tpS am m cm lom tpm w1 (HS.out.below HB1.out tS) (Nat.le_trans tS HB1.out.size) sS (Hm.out.below HB1.out tm) (Nat.le_trans tm HB1.out.size) sm HSR.out).mono ?_); rintro e w2 ⟨rfl, b_⟩; rw [← HCE.out]; have SS2 := Lib.hid (ss2 b_ hd1 SS1.out); have HB2 := Lib.hid (below_step HB1.out HB1.out.size b_); have hd2 := Nat.lt_of_lt_of_le hd1 b_.size; clear k0 k1; obtain ⟨k0, k1⟩ := SS2.out; clear b_))
    go_ret
    exact ⟨by rw [HV.out, ← HCE.out]; rfl, HB2.out⟩
  · have HV := Lib.hid hv
    have HZ := Lib.hid h0
    have hI1 : (4 : Int) < (S.length : Int) := by omega
    clear h0 hv h4
    go_enter Try.func33, Try.ntmps33
    go_upto_region 1 with fail
    obtain ⟨w1, hw1⟩ : ∃ z, z = w.alloc (.cells #[.int .i64 pS, .slice aS S.length cS] 29) := ⟨_, rfl⟩
    rw [← hw1] at HB0 k0 k1 ⊢
    have hd1 : w.heap.size < w1.heap.size := by rw [hw1]; simp
    have HB1 := HB0
    clear hw1
    have SS1 := Lib.hid (And.intro k0 k1)
    go_wp2_with (go_at_call 66; ((with_reducible refine (checkMultivectors_any pS aS S cS loS tpS am m cm lom tpm w1 (HS.out.below HB1.out tS) (Nat.le_trans tS HB1.out.size) sS (Hm.out.below HB1.out tm) (Nat.le_trans tm HB1.out.size) sm HSR.out).mono ?_); rintro e w2 ⟨rfl, b_⟩; rw [HZ.out]; have SS2 := Lib.hid (ss2 b_ hd1 SS1.out); have HB2 := Lib.hid (below_step HB1.out HB1.out.size b_); have hd2 := Nat.lt_of_lt_of_le hd1 b_.size; clear k0 k1; obtain ⟨k0, k1⟩ := SS2.out; clear b_))
    go_ret
    exact ⟨by rw [HV.out]; rfl, HB2.out⟩
  · have HV := Lib.hid hv
    have HZ := Lib.hid h0
    have hI1 : ¬ (4 : Int) < (S.length : Int) := by omega
    clear h0 hv h4
    go_enter Try.func33, Try.ntmps33
    go_upto_region 1 with fail
    obtain ⟨w1, hw1⟩ : ∃ z, z = w.alloc (.cells #[.int .i64 pS, .slice aS S.length cS] 29) := ⟨_, rfl⟩
    rw [← hw1] at HB0 k0 k1 ⊢
    have hd1 : w.heap.size < w1.heap.size := by rw [hw1]; simp
    have HB1 := HB0
    clear hw1
    have SS1 := Lib.hid (And.intro k0 k1)
    go_wp2_with (go_at_call 66; ((with_reducible refine (checkMultivectors_any pS aS S cS loS tpS am m cm lom tpm w1 (HS.out.below HB1.out tS) (Nat.le_trans tS HB1.out.size) sS (Hm.out.below HB1.out tm) (Nat.le_trans tm HB1.out.size) sm HSR.out).mono ?_); rintro e w2 ⟨rfl, b_⟩; rw [HZ.out]; have SS2 := Lib.hid (ss2 b_ hd1 SS1.out); have HB2 := Lib.hid (below_step HB1.out HB1.out.size b_); have hd2 := Nat.lt_of_lt_of_le hd1 b_.size; clear k0 k1; obtain ⟨k0, k1⟩ := SS2.out; clear b_))
    go_ret
    exact ⟨by rw [HV.out]; rfl, HB2.out⟩

set_option maxRecDepth 100000 in
set_option maxHeartbeats 3200000 in
theorem l09Code_any (pS : Int) (aS : Option Addr) (S : List Int) (cS loS tpS : Nat) (am : Option Addr) (m : List (List Int)) (cm lom tpm : Nat) (w : World) (hS : RowIn loS tpS w aS S) (tS : tpS ≤ w.heap.size) (sS : S.length ≤ 1048576) (hm : MatIn lom tpm w am m) (tm : tpm ≤ w.heap.size) (sm : m.length ≤ 1048576) (sr : ∀ i, i < m.length → (rw' m i).length ≤ 1048576) :
    Calls Try.prog 30 #[.agg #[.int .i64 pS, .slice aS S.length cS], .slice am m.length cm] w fun e w' => e = .returned (.int .i64 (stC pS S m)) ∧ Below w.heap.size w w' := by
  have HS := Lib.hid hS
  have Hm := Lib.hid hm
  have HSR := Lib.hid sr
  have k0 := nw0 w (.int .i64 pS) (.slice aS S.length cS) 29
  have k1 := nw1 w (.int .i64 pS) (.slice aS S.length cS) 29
  have HB0 := Lib.hid (below_alloc w (.cells #[.int .i64 pS, .slice aS S.length cS] 29))
  clear hS hm sr
  rcases stC_cases pS S m with ⟨h0, hv⟩ | ⟨h0, h4, hv⟩ | ⟨h0, h4, hv⟩
  · have HV := Lib.hid hv
    obtain ⟨C, hC⟩ : ∃ c, c = codeMv pS S m := ⟨_, rfl⟩
    have hc1 : (C != 0) = true := by rw [hC]; simpa using h0
    have hc2 : (C == 0) = false := by rw [hC]; simpa using h0
    have HCE := Lib.hid hC
    clear hC
    clear h0 hv
    go_enter Try.func30, Try.ntmps30
    go_upto_region 1 with fail
    obtain ⟨w1, hw1⟩ : ∃ z, z = w.alloc (.cells #[.int .i64 pS, .slice aS S.length cS] 29) := ⟨_, rfl⟩
    rw [← hw1] at HB0 k0 k1 ⊢
    have hd1 : w.heap.size < w1.heap.size := by rw [hw1]; simp
    have HB1 := HB0
    clear hw1
    have SS1 := Lib.hid (And.intro k0 k1)
    go_wp2_with (go_at_call 62; ((with_reducible refine (l04Code_any pS aS S cS loS tpS am m cm lom tpm w1 (HS.out.below HB1.out tS) (Nat.le_trans tS HB1.out.size) sS (Hm.out.below HB1.out tm) (Nat.le_trans tm HB1.out.size) sm HSR.out).mono ?_); rintro e w2 ⟨rfl, b_⟩; rw [← HCE.out]; have SS2 := Lib.hid (ss2 b_ hd1 SS1.out); have HB2 := Lib.hid (below_step HB1.out HB1.out.size b_); have hd2 := Nat.lt_of_lt_of_le hd1 b_.size; clear k0 k1; obtain ⟨k0, k1⟩ := SS2.out; clear b_))
    go_ret
    exact ⟨by rw [HV.out, ← HCE.out]; rfl, HB2.out⟩
  · have HV := Lib.hid hv
    have HZ := Lib.hid h0
    have hI1 : (4 : Int) < (S.length : Int) := by omega
    clear h0 hv h4
    go_enter Try.func30, Try.ntmps30
    go_upto_region 1 with fail
    obtain ⟨w1, hw1⟩ : ∃ z, z = w.alloc (.cells #[.int .i64 pS, .slice aS S.length cS] 29) := ⟨_, rfl⟩
    rw [← hw1] at HB0 k0 k1 ⊢
    have hd1 : w.heap.size < w1.heap.size := by rw [hw1]; simp
    have HB1 := HB0
    clear hw1
    have SS1 := Lib.hid (And.intro k0 k1)
    go_wp2_with (go_at_call 62; ((with_reducible refine (l04Code_any pS aS S cS loS tpS am m cm lom tpm w1 (HS.out.below HB1.out tS) (Nat.le_trans tS HB1.out.size) sS (Hm.out.below HB1.out tm) (Nat.le_trans tm HB1.out.size) sm HSR.out).mono ?_); rintro e w2 ⟨rfl, b_⟩; rw [HZ.out]; have SS2 := Lib.hid (ss2 b_ hd1 SS1.out); have HB2 := Lib.hid (below_step HB1.out HB1.out.size b_); have hd2 := Nat.lt_of_lt_of_le hd1 b_.size; clear k0 k1; obtain ⟨k0, k1⟩ := SS2.out; clear b_))
    go_ret
    exact ⟨by rw [HV.out]; rfl, HB2.out⟩
  · have HV := Lib.hid hv
    have HZ := Lib.hid h0
    have hI1 : ¬ (4 : Int) < (S.length : Int) := by omega
    clear h0 hv h4
    go_enter Try.func30, Try.ntmps30
    go_upto_region 1 with fail
    obtain ⟨w1, hw1⟩ : ∃ z, z = w.alloc (.cells #[.int .i64 pS, .slice aS S.length cS] 29) := ⟨_, rfl⟩
    rw [← hw1] at HB0 k0 k1 ⊢
    have hd1 : w.heap.size < w1.heap.size := by rw [hw1]; simp
    have HB1 := HB0
    clear hw1
    have SS1 := Lib.hid (And.intro k0 k1)
    go_wp2_with (go_at_call 62; ((with_reducible refine (l04Code_any pS aS S cS loS tpS am m cm lom tpm w1 (HS.out.below HB1.out tS) (Nat.le_trans tS HB1.out.size) sS (Hm.out.below HB1.out tm) (Nat.le_trans tm HB1.out.size) sm HSR.out).mono ?_); rintro e w2 ⟨rfl, b_⟩; rw [HZ.out]; have SS2 := Lib.hid (ss2 b_ hd1 SS1.out); have HB2 := Lib.hid (below_step HB1.out HB1.out.size b_); have hd2 := Nat.lt_of_lt_of_le hd1 b_.size; clear k0 k1; obtain ⟨k0, k1⟩ := SS2.out; clear b_))
    go_ret
    exact ⟨by rw [HV.out]; rfl, HB2.out⟩

theorem checkS1 (p : Int) (aS : Option Addr) (S : List Int) (cS loS tpS : Nat) (av : Option Addr) (v : List Int) (cv lov tpv b cap : Nat) (W : World) (T : TypeId) (hb : b = W.heap.size)
    (hS : RowIn loS tpS W aS S) (tS : tpS ≤ W.heap.size) (sS : S.length ≤ 1048576) (hv : RowIn lov tpv W av v) (tv : tpv ≤ W.heap.size) (sv : v.length ≤ 1048576) :
    Calls Try.prog 33 #[.agg #[.int .i64 p, .slice aS S.length cS], .slice (some ⟨b, 0, none⟩) 1 cap] (W.alloc (.cells #[.slice av v.length cv] T)) fun e w' => e = .returned (.int .i64 (stC p S [v])) ∧ Below (W.alloc (.cells #[.slice av v.length cv] T)).heap.size (W.alloc (.cells #[.slice av v.length cv] T)) w' :=
  checkStructure_any p aS S cS loS tpS (some ⟨b, 0, none⟩) [v] cap 0 _ _ (hS.below (below_alloc W _) tS) (Nat.le_trans tS (size_alloc W _)) sS (mv_one hb hv tv T) (Nat.le_refl _) (by show 1 ≤ 1048576; omega) (fun i hi => by match i, hi with | 0, _ => exact sv)
theorem checkS0 (pS : Int) (aS : Option Addr) (S : List Int) (cS loS tpS : Nat) (w : World) (hS : RowIn loS tpS w aS S) (tS : tpS ≤ w.heap.size) (sS : S.length ≤ 1048576) :
    Calls Try.prog 33 #[.agg #[.int .i64 pS, .slice aS S.length cS], .slice none 0 0] w fun e w' => e = .returned (.int .i64 (stC pS S [])) ∧ Below w.heap.size w w' :=
  checkStructure_any pS aS S cS loS tpS none [] 0 0 0 w hS tS sS (.inl rfl) (Nat.zero_le _) (by show 0 ≤ 1048576; omega) (fun i hi => absurd hi (Nat.not_lt_zero i))
theorem codeS1 (p : Int) (aS : Option Addr) (S : List Int) (cS loS tpS : Nat) (av : Option Addr) (v : List Int) (cv lov tpv b cap : Nat) (W : World) (T : TypeId) (hb : b = W.heap.size)
    (hS : RowIn loS tpS W aS S) (tS : tpS ≤ W.heap.size) (sS : S.length ≤ 1048576) (hv : RowIn lov tpv W av v) (tv : tpv ≤ W.heap.size) (sv : v.length ≤ 1048576) :
    Calls Try.prog 30 #[.agg #[.int .i64 p, .slice aS S.length cS], .slice (some ⟨b, 0, none⟩) 1 cap] (W.alloc (.cells #[.slice av v.length cv] T)) fun e w' => e = .returned (.int .i64 (stC p S [v])) ∧ Below (W.alloc (.cells #[.slice av v.length cv] T)).heap.size (W.alloc (.cells #[.slice av v.length cv] T)) w' :=
  l09Code_any p aS S cS loS tpS (some ⟨b, 0, none⟩) [v] cap 0 _ _ (hS.below (below_alloc W _) tS) (Nat.le_trans tS (size_alloc W _)) sS (mv_one hb hv tv T) (Nat.le_refl _) (by show 1 ≤ 1048576; omega) (fun i hi => by match i, hi with | 0, _ => exact sv)
theorem codeS0 (pS : Int) (aS : Option Addr) (S : List Int) (cS loS tpS : Nat) (w : World) (hS : RowIn loS tpS w aS S) (tS : tpS ≤ w.heap.size) (sS : S.length ≤ 1048576) :
    Calls Try.prog 30 #[.agg #[.int .i64 pS, .slice aS S.length cS], .slice none 0 0] w fun e w' => e = .returned (.int .i64 (stC pS S [])) ∧ Below w.heap.size w w' :=
  l09Code_any pS aS S cS loS tpS none [] 0 0 0 w hS tS sS (.inl rfl) (Nat.zero_le _) (by show 0 ≤ 1048576; omega) (fun i hi => absurd hi (Nat.not_lt_zero i))

end Go.Proofs.Ytckpcfhmppdghaa
