/-
  The program's equations of a subspace: contract.
  Conditions: a space and a multivector of it: rows of known cells.
  Masks of pivots, the greatest number, lists compared: contracts of the program and of the model.
  Conditions: the lists are nil or rows of known cells, of at most 1048576 numbers.
  AreDependent: contracts of the program and of the model.
  Conditions: the lists are nil or rows of known cells, of at most 1048576 numbers.
  Squares, members, blades of lists: contracts of the program and of the model.
  Conditions: the lists are nil or rows of known cells, of at most 1048576 numbers.
-/
import Derived.Test.YtbnegbpapjcmhaaGreatQz20
import Derived.Test.YtbnegbpapjcmhaaGreatQz16
import Derived.Test.YtbnegbpapjcmhaaGreatQz11
import Derived.Deep.RegionHeld3
import Derived.Deep.DeepCutAuto
import Derived.Test.YtbnegbpapjcmhaaGreatQz15
import Derived.BigQuiet
import Derived.Test.YtbnegbpapjcmhaaGreatQz19
import Derived.Test.YtbnegbpapjcmhaaGreatQz12
namespace Go.Proofs.YtbnegbpapjcmhaaGreat
open Go.RowKit
set_option linter.unusedVariables false

theorem transposed_n (a : Option Addr) (m : List (List Int)) (n ca lo tp : Nat) (w : World) (hnm : m.length = n) (hm : MatIn lo tp w a m) (ht : tp ≤ w.heap.size) (h0 : 0 < m.length) (hc : ∀ i, i < m.length → (rw' m i).length = (rw' m 0).length) (hn : m.length ≤ 1024) (hn2 : (rw' m 0).length ≤ 1024) :
    Calls Tryz.prog 100 #[.slice a n ca] w (OwnNew (trM m) w) := by
  subst hnm; exact transposed_any a m ca lo tp w hm ht h0 hc hn hn2
theorem blade_mv {p : Int} {S : List Int} (hs : isSp p S = true) (k : Nat) : isMv p S (bladeM S k) = true :=
  isMv_of (mkR_len _ _) (fun j hj => by
    have hp := prm_bd (isSp_iff.1 hs).prime
    unfold bladeM at hj ⊢
    rw [mkR_len] at hj
    rw [mkR_at _ hj]
    split <;> omega)
theorem wedge_blade (p : Int) (aS : Option Addr) (S : List Int) (cS loS tpS : Nat) (ax : Option Addr) (x : List Int) (cx lox tpx b i : Nat) (w : World) (hs : isSp p S = true) (hS : RowIn loS tpS w aS S) (tS : tpS ≤ w.heap.size) (hx : RowIn lox tpx w ax x) (tx : tpx ≤ w.heap.size) (mx : isMv p S x = true) (hb : RowOwn w b 0 (bl S) (fun j => if j = i then 1 else 0)) (ub : b < w.heap.size) :
    Calls Tryz.prog 91 #[.agg #[.int .i64 p, .slice aS S.length cS], .slice (some ⟨b, 0, none⟩) (bl S) (bl S), .slice ax x.length cx] w (OwnE (wgM p S (bladeM S i) x) w) := by
  have h := wedge_own p aS S cS loS tpS (some ⟨b, 0, none⟩) (bladeM S i) (bl S) 0 w.heap.size ax x cx lox tpx w hs hS tS (hb.own (Nat.zero_le _) ub).row (Nat.le_refl _) (blade_mv hs i) hx tx mx
  rw [show (bladeM S i).length = bl S from mkR_len _ _] at h
  exact h
theorem kwrap_pow {i : Nat} (h : i < 6) : IntKind.i64.wrap ((2 : Int) ^ i) = ((2 ^ i : Nat) : Int) := by
  have : i = 0 ∨ i = 1 ∨ i = 2 ∨ i = 3 ∨ i = 4 ∨ i = 5 := by omega
  rcases this with rfl | rfl | rfl | rfl | rfl | rfl <;> exact IntWalk.i64_in _ (by decide)
/-- The cells of the box of a multivector. -/
def BoxX (g : Nat) (p : Int) (aS : Option Addr) (n cS : Nat) (ax : Option Addr) (l cx : Nat) (W : World) : Prop :=
  W.cell? ⟨g, 0, none⟩ = some (.int .i64 p) ∧ W.cell? ⟨g, 1, none⟩ = some (.slice aS n cS) ∧ W.cell? ⟨g, 2, none⟩ = some (.slice ax l cx)
theorem BoxX.below {g : Nat} {p : Int} {aS ax : Option Addr} {n cS l cx B : Nat} {w w' : World} (h : BoxX g p aS n cS ax l cx w) (hb : Below B w w') (hg : g < B) : BoxX g p aS n cS ax l cx w' :=
  ⟨(hb.cell (p := ⟨g, 0, none⟩) hg).trans h.1, (hb.cell (p := ⟨g, 1, none⟩) hg).trans h.2.1, (hb.cell (p := ⟨g, 2, none⟩) hg).trans h.2.2⟩
theorem BoxX.put {g b o : Nat} {p : Int} {aS ax : Option Addr} {n cS l cx : Nat} {w : World} {v : Value} (h : BoxX g p aS n cS ax l cx w) (hg : g ≠ b) : BoxX g p aS n cS ax l cx (w.setCell ⟨b, o, none⟩ v) := by
  have e : ∀ j, (w.setCell ⟨b, o, none⟩ v).cell? ⟨g, j, none⟩ = w.cell? ⟨g, j, none⟩ := fun j => World.cell?_setCell_other w ⟨b, o, none⟩ ⟨g, j, none⟩ v (fun e => hg (by injection e with e1; exact e1.symm))
  exact ⟨(e 0).trans h.1, (e 1).trans h.2.1, (e 2).trans h.2.2⟩
theorem BoxX.wrote {g b o m : Nat} {p : Int} {aS ax : Option Addr} {n cS l cx : Nat} {w w' : World} (h : BoxX g p aS n cS ax l cx w) (hb : Wrote b o m w w') (hg : g ≠ b) : BoxX g p aS n cS ax l cx w' :=
  ⟨(World.cell?_of_block (w := w) (a := ⟨g, 0, none⟩) (hb.block g hg)).trans h.1, (World.cell?_of_block (w := w) (a := ⟨g, 1, none⟩) (hb.block g hg)).trans h.2.1, (World.cell?_of_block (w := w) (a := ⟨g, 2, none⟩) (hb.block g hg)).trans h.2.2⟩
theorem BoxX.new (w : World) (p : Int) (aS : Option Addr) (n cS : Nat) (ax : Option Addr) (l cx : Nat) (T : TypeId) : BoxX w.heap.size p aS n cS ax l cx (w.alloc (.cells #[.int .i64 p, .slice aS n cS, .slice ax l cx] T)) :=
  ⟨by simp [go_sem], by simp [go_sem], by simp [go_sem]⟩

set_option maxRecDepth 100000 in
set_option maxHeartbeats 3200000 in
theorem wedgeEquations_any (p : Int) (aS : Option Addr) (S : List Int) (cS loS tpS : Nat) (ax : Option Addr) (x : List Int) (cx lox tpx : Nat) (w : World) (hs : isSp p S = true) (hS : RowIn loS tpS w aS S) (tS : tpS ≤ w.heap.size) (hx : RowIn lox tpx w ax x) (tx : tpx ≤ w.heap.size) (mx : isMv p S x = true) :
    Calls Tryz.prog 63 #[.agg #[.int .i64 p, .slice aS S.length cS, .slice ax x.length cx]] w (OwnNew (eqM p S x) w) := by
  have HS := Lib.hid hS
  have HX := Lib.hid hx
  have HI := Lib.hid hs
  have HMX := Lib.hid mx
  have h6 := (isSp_iff.1 hs).hi
  have hS1 := (isSp_iff.1 hs).lo
  have hbl := bl_le h6
  have hb0 := bl_pos S
  have hmk := fun W => run_make_row' (P := Tryz.prog) 26 22 (.slice none 0 0) 24 Tryz.underlying26 info_slice rfl .i64 .i64 S.length (by omega) (by omega) W
  obtain ⟨Z, hZ⟩ : ∃ Z, Z = colW p S x := ⟨_, rfl⟩
  have HZL : Hid (Z.length = S.length) := by show _ = _; rw [hZ]; exact mk_len _ _ _
  have HZR : Hid (∀ i, i < S.length → rw' Z i = wgM p S (bladeM S (2 ^ i)) x) := fun i hi => by rw [hZ]; exact colW_row hi
  have HZT : Hid (trM Z = eqM p S x) := by show _ = _; rw [hZ]; exact colW_tr hS1
  have HZE : Hid (∀ i, i < Z.length → (rw' Z i).length = bl S) := fun i hi => by rw [HZL.out] at hi; rw [HZR.out i hi, wgM_len]
  have HB0 := Lib.hid (below_alloc w (.cells #[.int .i64 p, .slice aS S.length cS, .slice ax x.length cx] 50))
  have k0 := BoxX.new w p aS S.length cS ax x.length cx 50
  have k0a := k0.1
  have k0b := k0.2.1
  have k0c := k0.2.2
  have K0 := Lib.hid k0
  clear hS hx hs mx hZ k0
  go_enter Tryz.func63, Tryz.ntmps63
  go_upto_region 1 with fail
  obtain ⟨w2, hw1⟩ : ∃ z, z = w.alloc (.cells #[.int .i64 p, .slice aS S.length cS, .slice ax x.length cx] 50) := ⟨_, rfl⟩
  rw [← hw1] at HB0 K0 k0a k0b k0c ⊢
  have hw0 : w.heap.size < w2.heap.size := by rw [hw1]; simp
  clear hw1
  go_upto_region 2 with fail
  obtain ⟨b, hb⟩ : ∃ b, b = w2.heap.size := ⟨_, rfl⟩
  obtain ⟨w3, hw3⟩ : ∃ z, z = w2.alloc (.cells (madeCells #[.slice none 0 0] S.length) 22) := ⟨_, rfl⟩
  have HG3 : Hid (HalfG w3 b 0 Z (fun _ => none) (fun _ => 0) (fun _ => 0) (fun _ => 0)) := by
    show HalfG _ _ _ _ _ _ _ _
    rw [hw3, hb, ← HZL.out]
    exact HalfG.start w2 Z 22 (fun _ => none) (fun _ => 0) (fun _ => 0) (fun _ => 0)
  have HB3 : Hid (Below w.heap.size w w3) := by show Below _ _ _; rw [hw3]; exact HB0.out.alloc HB0.out.size _
  have K3 : Hid (BoxX w.heap.size p aS S.length cS ax x.length cx w3) := by show BoxX _ _ _ _ _ _ _ _ _; rw [hw3]; exact K0.out.below (below_alloc w2 _) hw0
  have hwb : w.heap.size < b := by omega
  have hbl3 : b < w3.heap.size := by rw [hw3, hb]; simp
  rw [← hw3, ← hb]
  clear hw3 hmk hb k0a k0b k0c
  go_wp2
  go_loopw [12] (fun t wr => ∃ i : Nat, i ≤ S.length ∧ t = .int .i64 i ∧ (∃ A C lo tp, HalfG wr b i Z A C lo tp) ∧ BoxX w.heap.size p aS S.length cS ax x.length cx wr ∧ Below w.heap.size w wr ∧ b < wr.heap.size) (fun t _ => S.length - (intOf t).toNat)
  case atStart => exact ⟨0, Nat.zero_le _, rfl, ⟨_, _, _, _, HG3.out⟩, K3.out, HB3.out, hbl3⟩
  case round =>
    obtain ⟨i, hi, rfl, ⟨A, C, lo, tp, hh⟩, hk0, hbel, hbr⟩ := hrel
    have HH := Lib.hid hh
    have HB := Lib.hid hbel
    have hwz := hbel.size
    by_cases hlt : i < S.length
    · have hi1 : (i : Int) < (S.length : Int) := Int.ofNat_lt.2 hlt
      obtain ⟨q, hq⟩ : ∃ q, q = 2 ^ i := ⟨_, rfl⟩
      have hqn : q < bl S := by rw [hq]; exact Nat.pow_lt_pow_right (by decide) hlt
      have e1 : wrap64 ((2 : Int) ^ i) = (q : Int) := by rw [hq]; exact wrap_pow (by omega)
      have e2 : IntKind.i64.wrap ((2 : Int) ^ i) = (q : Int) := by rw [hq]; exact kwrap_pow (by omega)
      have HZI : Hid (rw' Z i = wgM p S (bladeM S q) x) := by show _ = _; rw [hq]; exact HZR.out i hlt
      clear hq
      have g0 := hh.rest i (Nat.le_refl _) (by rw [HZL.out]; exact hlt)
      have gf := hh.free i
      have hlw : w.heap.size < wr.drew.heap.size := by show w.heap.size < wr.heap.size; omega
      have hbd : b < wr.drew.heap.size := hbr
      have hs1 : Hid (BoxX w.heap.size p aS S.length cS ax x.length cx wr.drew) := hk0
      have HBD : Hid (Below w.heap.size w wr.drew) := hbel.drew
      have hzd := HBD.out.size
      have hwb2 : w.heap.size ≠ b := by omega
      have G0 : Hid (wr.drew.cell? ⟨b, i, none⟩ = some (.slice none 0 0)) := g0
      have GF : Hid (wr.drew.frozen? ⟨b, i, none⟩ = false) := gf
      clear hh hbel hk0
      go_wp2
      go_region_held3 (fun w' => w'.cell? ⟨w.heap.size, 0, none⟩ = some (.int .i64 p) ∧ w'.cell? ⟨w.heap.size, 1, none⟩ = some (.slice aS S.length cS) ∧ w'.cell? ⟨w.heap.size, 2, none⟩ = some (.slice ax x.length cx)) (first | exact hs1.out | exact SS7.out | exact SS9.out | exact SS10.out | go_keep) (first | (go_at_call 99; ((with_reducible refine (blade_any p aS S cS q wr.drew h6 hqn).mono ?_); rintro e w7 ⟨b7, rfl, l7, u7, o7, q7⟩; have O7 := Lib.hid o7; have B7 := Lib.hid q7; have z7 := q7.size; have SS7 := Lib.hid (hs1.out.below q7 hlw); have HB7 := Lib.hid (HBD.out.trans (q7.mono hzd)); have hz7 := Nat.le_trans hzd z7; have hlw7 := Nat.lt_of_lt_of_le hlw z7; have hbd7 := Nat.lt_of_lt_of_le hbd z7; clear o7 q7)) | (go_at_call 91; ((with_reducible refine (wedge_blade p aS S cS loS tpS ax x cx lox tpx b7 q w7 HI.out (HS.out.below HB7.out tS) (Nat.le_trans tS hz7) (HX.out.below HB7.out tx) (Nat.le_trans tx hz7) HMX.out O7.out u7).mono ?_); rintro e w9 ⟨r9, c9, rfl, o9, q9⟩; have O9 := Lib.hid o9; have B9 := Lib.hid q9; have z9 := q9.size; have SS9 := Lib.hid (SS7.out.below q9 hlw7); have SS10 := Lib.hid (SS9.out.put (o := i) (v := .slice r9 (wgM p S (bladeM S q) x).length c9) hwb2); have HQ9 := Lib.hid (B7.out.trans (q9.mono z7)); have c0 := (HQ9.out.cell (p := ⟨b, i, none⟩) hbd).trans G0.out; have f0 := (HQ9.out.frozen (p := ⟨b, i, none⟩) hbd).trans GF.out; clear o9 q9)))
      have hq9 := HQ9.out.size
      have hq9' : wr.heap.size ≤ w9.heap.size := hq9
      have HNX := HH.out.next (w1 := w9.setCell ⟨b, i, none⟩ (.slice r9 (wgM p S (bladeM S q) x).length c9)) (r := r9) (c := c9) (T := w9.heap.size) (by rw [HZL.out]; exact hlt)
        (fun k k0 k1 => (Below.heap_setCell _ _ _ _ k1).trans (HQ9.out.block k k0)) (by simp [World.setCell]; exact hq9') (by simp [World.setCell])
        (by rw [HZI.out]; exact World.cell?_setCell_same w9 _ _ c0)
        (fun j hj => (World.cell?_setCell_other w9 ⟨b, i, none⟩ ⟨b, j, none⟩ _ (fun e => hj (by injection e with _ e2; exact e2.symm))).trans (HQ9.out.cell (p := ⟨b, j, none⟩) hbd))
        (fun j => by have := (HQ9.out.frozen (p := ⟨b, j, none⟩) hbd).trans (HH.out.free j); simp [go_sem, this])
        (by rw [HZI.out]; exact (OwnR.mono' O9.out (show wr.heap.size ≤ w7.heap.size from z7) (Nat.le_refl _)).same (fun k k0 _ => Below.heap_setCell _ _ _ _ (show k ≠ b by omega)))
      have HNX := Lib.hid HNX
      go_wp2
      go_roundw
      case rel => exact ⟨i + 1, by omega, by go_num, ⟨_, _, _, _, HNX.out⟩, SS10.out, (HBD.out.trans (HQ9.out.mono hzd)).setCell (by show w.heap.size ≤ b; omega) _, by simp [World.setCell]; omega⟩
      case measure => simp [intOf]; omega
    · have hin : i = S.length := by omega
      have HF : Hid (HalfG wr b Z.length Z A C lo tp) := by show HalfG _ _ _ _ _ _ _ _; rw [HZL.out, ← hin]; exact hh
      have HM := Lib.hid HF.out.own.mat
      have hz0 : 0 < Z.length := by rw [HZL.out]; exact hS1
      have HE : Hid (∀ i, i < Z.length → (rw' Z i).length = (rw' Z 0).length) := fun i hi => by rw [HZE.out i hi, HZE.out 0 hz0]
      have hz1 : Z.length ≤ 1024 := by rw [HZL.out]; omega
      have hz2 : (rw' Z 0).length ≤ 1024 := by rw [HZE.out 0 hz0]; omega
      clear hh hbel hin
      go_wp2_with (first | (go_at_call 100; (with_reducible refine (transposed_n (some ⟨b, 0, none⟩) Z S.length S.length b wr.heap.size wr HZL.out HM.out (Nat.le_refl _) hz0 HE.out hz1 hz2).mono ?_); rintro e w7 ⟨r7, c7, rfl, o7, q7⟩; have O7 := Lib.hid o7; have B7 := Lib.hid q7; clear o7 q7))
      go_ret
      have h := O7.out
      rw [HZT.out] at h
      exact ⟨r7, c7, by rw [HZT.out]; rfl, h.mono hwz (Nat.le_refl _), HB.out.trans (B7.out.mono hwz)⟩

end Go.Proofs.YtbnegbpapjcmhaaGreat

namespace Go.Proofs.YtbnegbpapjcmhaaGreat
open Go.RowKit
set_option linter.unusedVariables false

theorem isNotZ_any (x : Int) (w : World) :
    Calls Tryz.prog 148 #[.int .i64 x] w fun e w' => e = .returned (.bool (x != 0)) ∧ w = w' := by
  go_enter Tryz.func148, Tryz.ntmps148
  go_wp2
  go_ret
  exact ⟨rfl, rfl⟩

set_option maxHeartbeats 800000 in
theorem pivFunc_yes (a : Option Addr) (z : List Int) (n k ca lo tp : Nat) (w : World) (hz : RowIn lo tp w a z) (hn : z.length = n) (hl : n ≤ 1024) (hk : fstAt z k) :
    Calls Tryz.prog 147 #[.slice a n ca, .func (.func 148) #[] #[]] w fun e w' => e = .returned (.int .i64 k) ∧ w = w' := by
  subst hn
  have HZ := Lib.hid hz
  have HK := Lib.hid hk
  clear hz hk
  go_enter Tryz.func147, Tryz.ntmps147
  go_wp2
  go_loop [8] (fun t => ∃ i : Nat, i ≤ k ∧ t = .int .i64 i) (fun t => z.length - (intOf t).toNat)
  case atStart => exact ⟨0, Nat.zero_le _, rfl⟩
  case round =>
    obtain ⟨i, hi, rfl⟩ := hrel
    have hkl := HK.out.1
    have hi1 : (i : Int) < (z.length : Int) := by omega
    obtain ⟨b1, o1, ha1, _, _, hc1⟩ := HZ.out.num (by omega : i < z.length)
    subst ha1
    by_cases e : i = k
    · subst e
      have h3 := HK.out.2.2
      obtain ⟨x, hx⟩ : ∃ x, x = z.getD i 0 := ⟨_, rfl⟩
      rw [← hx] at hc1 h3
      have HX : Hid ((x != 0) = true) := by show _ = _; simpa using h3
      clear hx h3
      go_wp2_with (go_at_call 148; refine (isNotZ_any x _).mono ?_; rintro e w1 ⟨rfl, rfl⟩; rw [HX.out])
      go_ret
      exact ⟨rfl, rfl⟩
    · have h2 := HK.out.2.1 i (by omega)
      rw [h2] at hc1
      go_wp2_with (go_at_call 148; refine (isNotZ_any 0 _).mono ?_; rintro e w1 ⟨rfl, rfl⟩)
      go_round
      case rel => exact ⟨i + 1, by omega, by go_num⟩
      case measure => simp [intOf]; omega

theorem or_64 {a b : Nat} (ha : a < 64) (hb : b < 64) : bits .or .i64 (a : Int) (b : Int) = ((a ||| b : Nat) : Int) := by
  have h : ∀ a : Nat, a < 64 → ∀ b : Nat, b < 64 → bits .or .i64 (a : Int) (b : Int) = ((a ||| b : Nat) : Int) := by decide +kernel
  exact h a ha b hb
set_option maxHeartbeats 1600000 in
theorem pivotMask_any (a : Option Addr) (m : List (List Int)) (ca lo tp : Nat) (P : Nat → Nat) (w : World) (hm : MatIn lo tp w a m) (hl : ∀ i, i < m.length → (rw' m i).length ≤ 1024) (hf : ∀ i, i < m.length → fstAt (rw' m i) (P i)) (h6 : ∀ i, i < m.length → P i < 6) (hn : m.length ≤ 1024) :
    Calls Tryz.prog 127 #[.slice a m.length ca] w fun e w' => e = .returned (.int .i64 (pm P m.length)) ∧ w = w' := by
  have HM := Lib.hid hm
  have HL := Lib.hid hl
  have HF := Lib.hid hf
  have H6 := Lib.hid h6
  clear hm hl hf h6
  go_enter Tryz.func127, Tryz.ntmps127
  go_wp2
  go_loop [3, 8] (fun u t => ∃ i : Nat, i ≤ m.length ∧ u = .int .i64 (pm P i) ∧ t = .int .i64 i) (fun _ t => m.length - (intOf t).toNat)
  case atStart => exact ⟨0, Nat.zero_le _, rfl, rfl⟩
  case round =>
    obtain ⟨i, hi, rfl, rfl⟩ := hrel
    by_cases hlt : i < m.length
    · have hi1 : (i : Int) < (m.length : Int) := by omega
      obtain ⟨b9, o9, rv, cv, ha9, _, _, hr9, hrow⟩ := HM.out.row hlt
      subst ha9
      have HR := Lib.hid hrow
      have h6 := H6.out i hlt
      have hl1 := HL.out i hlt
      obtain ⟨q, hq⟩ : ∃ q, q = 2 ^ P i := ⟨_, rfl⟩
      obtain ⟨M, hM⟩ : ∃ M, M = pm P i := ⟨_, rfl⟩
      have hM64 : M < 64 := by rw [hM]; exact pm_lt (Q := 6) P i fun j hj => H6.out j (by omega)
      have hq64 : q < 64 := by rw [hq]; exact (show 2 ^ P i < 2 ^ 6 from Nat.pow_lt_pow_right (by decide) h6)
      have e1 : wrap64 ((2 : Int) ^ P i) = (q : Int) := by rw [hq]; exact wrap_pow h6
      have e2 : IntKind.i64.wrap ((2 : Int) ^ P i) = (q : Int) := by rw [hq]; exact kwrap_pow h6
      have e3 : bits .or .i64 (M : Int) (q : Int) = ((M ||| q : Nat) : Int) := or_64 hM64 hq64
      have HN : Hid (M ||| q = pm P (i + 1)) := by show _ = _; rw [hM, hq]; rfl
      rw [← hM]
      clear hrow hq hM
      go_wp2_with (go_at_call 147; (with_reducible refine (pivFunc_yes rv (rw' m i) (rw' m i).length (P i) cv lo tp _ HR.out rfl hl1 (HF.out i hlt)).mono ?_); rintro e w1 ⟨rfl, rfl⟩)
      go_round
      case rel => exact ⟨i + 1, by omega, by rw [← HN.out], by go_num⟩
      case measure => simp [intOf]; omega
    · have hin : i = m.length := by omega
      subst hin
      go_wp2
      go_ret
      exact ⟨rfl, rfl⟩

/-- The greatest of the first numbers. -/
def mxF (z : List Int) : Nat → Int
  | 0 => z.getD 0 0
  | k + 1 => if mxF z k < z.getD (k + 1) 0 then z.getD (k + 1) 0 else mxF z k
theorem mxF_le (z : List Int) : ∀ k j, j ≤ k → z.getD j 0 ≤ mxF z k
  | 0, j, h => by rw [show j = 0 by omega]; exact Int.le_refl _
  | k + 1, j, h => by
    show _ ≤ if mxF z k < z.getD (k + 1) 0 then z.getD (k + 1) 0 else mxF z k
    by_cases e : j = k + 1
    · subst e; split <;> omega
    · have := mxF_le z k j (by omega)
      split <;> omega
theorem mxF_at (z : List Int) : ∀ k, ∃ j, j ≤ k ∧ mxF z k = z.getD j 0
  | 0 => ⟨0, Nat.le_refl _, rfl⟩
  | k + 1 => by
    obtain ⟨j, h1, h2⟩ := mxF_at z k
    by_cases e : mxF z k < z.getD (k + 1) 0
    · exact ⟨k + 1, Nat.le_refl _, if_pos e⟩
    · exact ⟨j, by omega, by rw [← h2]; exact if_neg e⟩
def allZ (z : List Int) : Bool := (List.range z.length).all fun j => decide (z.getD j 0 = 0)
theorem allZ_iff {z : List Int} : allZ z = true ↔ ∀ j, j < z.length → z.getD j 0 = 0 := by
  unfold allZ; simp only [List.all_eq_true, List.mem_range, decide_eq_true_eq]
theorem mx_zero {z : List Int} (h0 : 0 < z.length) (hn : ∀ j, j < z.length → 0 ≤ z.getD j 0) : (mxF z (z.length - 1) == 0) = allZ z := by
  rw [Bool.eq_iff_iff, beq_iff_eq, allZ_iff]
  constructor
  · intro h j hj
    have := mxF_le z (z.length - 1) j (by omega)
    have := hn j hj
    omega
  · intro h
    obtain ⟨j, h1, h2⟩ := mxF_at z (z.length - 1)
    rw [h2]; exact h j (by omega)
set_option maxHeartbeats 1600000 in
theorem max_any (a : Option Addr) (z : List Int) (ca lo tp : Nat) (w : World) (hz : RowIn lo tp w a z) (h0 : 0 < z.length) (hl : z.length ≤ 1048576) :
    Calls Tryz.prog 90 #[.slice a z.length ca] w fun e w' => e = .returned (.int .i64 (mxF z (z.length - 1))) ∧ w = w' := by
  have HZ := Lib.hid hz
  obtain ⟨b1, o1, ha1, _, _, hc1⟩ := hz.num h0
  subst ha1
  have hi0 : ¬ ((z.length : Int) < 1) := by omega
  have hi1 : (0 : Int) < (z.length : Int) := by omega
  rw [Nat.add_zero] at hc1
  obtain ⟨X0, hX0⟩ : ∃ x, x = z.getD 0 0 := ⟨_, rfl⟩
  rw [← hX0] at hc1
  have HX0 := Lib.hid hX0
  clear hz hX0
  go_enter Tryz.func90, Tryz.ntmps90
  go_wp2
  clear hc1
  go_loop [3, 4] (fun u t => ∃ i : Nat, i < z.length ∧ u = .int .i64 (mxF z i) ∧ t = .int .i64 ((i + 1 : Nat) : Int)) (fun _ t => z.length - (intOf t).toNat)
  case atStart => exact ⟨0, h0, by rw [HX0.out]; rfl, by simp⟩
  case round =>
    obtain ⟨i, hi, rfl, rfl⟩ := hrel
    by_cases hlt : i + 1 < z.length
    · have hi2 : ((i + 1 : Nat) : Int) < (z.length : Int) := by omega
      obtain ⟨b2, o2, ha2, _, _, hc2⟩ := HZ.out.num hlt
      cases ha2
      obtain ⟨x, hx⟩ : ∃ x, x = mxF z i := ⟨_, rfl⟩
      obtain ⟨y, hy⟩ : ∃ y, y = z.getD (i + 1) 0 := ⟨_, rfl⟩
      have HS : Hid (mxF z (i + 1) = if x < y then y else x) := by show _ = _; rw [hx, hy]; rfl
      rw [← hy] at hc2
      rw [← hx]
      clear hx hy
      go_wp2
      go_round
      case rel => exact ⟨i + 1, hlt, by rw [HS.out]; congr 1; split <;> omega, by go_num⟩
      case measure => simp [intOf]; omega
    · have hin : i = z.length - 1 := by omega
      have hi2 : ¬ (((i + 1 : Nat) : Int) < (z.length : Int)) := by omega
      have HIN := Lib.hid hin
      clear hin
      go_wp2
      go_ret
      exact ⟨by rw [← HIN.out]; rfl, rfl⟩

set_option maxHeartbeats 1600000 in
theorem equal_any (a b : Option Addr) (za zb : List Int) (ca cb lo tp lo' tp' : Nat) (w : World) (ha : RowIn lo tp w a za) (hb : RowIn lo' tp' w b zb) (sa : za.length ≤ 1048576) :
    Calls Tryz.prog 129 #[.slice a za.length ca, .slice b zb.length cb] w fun e w' => e = .returned (.bool (decide (za = zb))) ∧ Quiet w w' := by
  have HA := Lib.hid ha
  have HB := Lib.hid hb
  clear ha hb
  by_cases hl : za.length = zb.length
  · have HL := Lib.hid hl
    obtain ⟨n, hn⟩ : ∃ n, n = zb.length := ⟨_, rfl⟩
    have HN := Lib.hid hn
    rw [hl] at sa ⊢
    rw [← hn] at sa ⊢
    clear hl hn
    go_enter Tryz.func129, Tryz.ntmps129
    go_wp2
    go_loopw [13] (fun t wr => ∃ i : Nat, i ≤ n ∧ t = .int .i64 i ∧ (∀ j, j < i → za.getD j 0 = zb.getD j 0) ∧ Quiet w wr) (fun t _ => n - (intOf t).toNat)
    case atStart => exact ⟨0, Nat.zero_le _, rfl, fun j hj => by omega, Quiet.refl _⟩
    case round =>
      obtain ⟨i, hi, rfl, hall, hq⟩ := hrel
      have HQ := Lib.hid hq
      have HALL := Lib.hid hall
      by_cases hlt : i < n
      · obtain ⟨b1, o1, ha1, _, _, hc1⟩ := (HA.out.same (hq.same _ _)).num (show i < za.length by rw [HL.out, ← HN.out]; exact hlt)
        obtain ⟨b2, o2, ha2, _, _, hc2⟩ := (HB.out.same (hq.same _ _)).num (show i < zb.length by rw [← HN.out]; exact hlt)
        subst ha1
        subst ha2
        have hi1 : (i : Int) < (n : Int) := by omega
        obtain ⟨x, hx⟩ : ∃ x, x = za.getD i 0 := ⟨_, rfl⟩
        obtain ⟨y, hy⟩ : ∃ y, y = zb.getD i 0 := ⟨_, rfl⟩
        have HX := Lib.hid hx
        have HY := Lib.hid hy
        rw [← hx] at hc1
        rw [← hy] at hc2
        clear hx hy hall hq
        by_cases hxy : x = y
        · have e1 : (x != y) = false := by simp [hxy]
          have HXY := Lib.hid hxy
          clear hxy
          go_wp2
          go_quiet (fail)
          go_wp2
          go_roundw
          case rel => exact ⟨i + 1, by omega, by go_num, fun j hj => by
            by_cases e : j = i
            · subst e; rw [← HX.out, ← HY.out, HXY.out]
            · exact HALL.out j (by omega), HQ.out.next _⟩
          case measure => simp [intOf]; omega
        · have e1 : (x != y) = true := by simp [hxy]
          have HR : Hid (decide (za = zb) = false) := decide_eq_false fun e => hxy (by rw [HX.out, HY.out, e])
          clear hxy
          go_wp2
          go_quiet (fail)
          go_wp2
          go_ret
          exact ⟨by rw [HR.out]; rfl, HQ.out.next _⟩
      · have hin : i = n := by omega
        subst hin
        have HR : Hid (decide (za = zb) = true) := decide_eq_true (row_ext HL.out (fun j hj => hall j (by rw [HN.out, ← HL.out]; exact hj)))
        clear hall hq
        go_wp2
        go_ret
        exact ⟨by rw [HR.out]; rfl, HQ.out⟩
  · have HR : Hid (decide (za = zb) = false) := decide_eq_false fun e => hl (by rw [e])
    obtain ⟨n, hn⟩ : ∃ n, n = za.length := ⟨_, rfl⟩
    obtain ⟨m, hm⟩ : ∃ m, m = zb.length := ⟨_, rfl⟩
    rw [← hn, ← hm] at hl ⊢
    have hl2 : ((n : Int) != (m : Int)) = true := by simp; omega
    go_enter Tryz.func129, Tryz.ntmps129
    go_wp2
    go_ret
    exact ⟨by rw [HR.out]; rfl, Quiet.refl _⟩

end Go.Proofs.YtbnegbpapjcmhaaGreat

namespace Go.Proofs.YtbnegbpapjcmhaaGreat
open Go.RowKit
set_option linter.unusedVariables false

theorem list_isL {p : Int} {S : List Int} {m : List (List Int)} (hs : isSp p S = true) (hl : listB p S m = true) : isL 0 p m = true := by
  have h := listB_iff hl
  have k := isSp_iff.1 hs
  have len : ∀ i, i < m.length → (rw' m i).length = S.length := fun i hi => (isVec_iff.1 (h.2 i hi)).len
  have h6 := k.hi
  have h1 := k.lo
  refine isL_iff.2 ⟨k.prime, Nat.zero_le _, h.1, fun i hi => ?_, fun i hi => ?_, fun i hi => ?_, fun i hi => ?_⟩
  · rw [len i hi, len 0 (by omega)]
  · rw [len i hi]; exact h1
  · rw [len i hi]; omega
  · have h2 := h.2 i hi
    unfold isVec at h2
    rw [Bool.and_eq_true] at h2
    exact h2.2

end Go.Proofs.YtbnegbpapjcmhaaGreat

namespace Go.Proofs.YtbnegbpapjcmhaaGreat
open Go.RowKit
set_option linter.unusedVariables false

theorem live4b {B : Nat} {w w' : World} (h : Below B w w') {g : Nat} {u v : Value} (l : g < B) (k : w.cell? ⟨g, 0, none⟩ = some u ∧ w.cell? ⟨g, 1, none⟩ = some v ∧ w.frozen? ⟨g, 0, none⟩ = false ∧ w.frozen? ⟨g, 1, none⟩ = false) : w'.cell? ⟨g, 0, none⟩ = some u ∧ w'.cell? ⟨g, 1, none⟩ = some v ∧ w'.frozen? ⟨g, 0, none⟩ = false ∧ w'.frozen? ⟨g, 1, none⟩ = false :=
  ⟨(h.cell (p := ⟨g, 0, none⟩) l).trans k.1, (h.cell (p := ⟨g, 1, none⟩) l).trans k.2.1, (h.frozen (p := ⟨g, 0, none⟩) l).trans k.2.2.1, (h.frozen (p := ⟨g, 1, none⟩) l).trans k.2.2.2⟩
set_option maxRecDepth 100000 in
set_option maxHeartbeats 3200000 in
theorem squareX_any (pS : Int) (aS : Option Addr) (S : List Int) (cS loS tpS : Nat) (ax : Option Addr) (x : List Int) (cx lox tpx : Nat) (w : World) (hs : isSp pS S = true) (hS : RowIn loS tpS w aS S) (tS : tpS ≤ w.heap.size) (hx : RowIn lox tpx w ax x) (tx : tpx ≤ w.heap.size) (mx : isMv pS S x = true) :
    Calls Tryz.prog 69 #[.agg #[.int .i64 pS, .slice aS S.length cS, .slice ax x.length cx]] w (fun e w' => e = .returned (.agg #[.int .i64 pS, .int .i64 (prodF pS S x x 0)]) ∧ Below w.heap.size w w') := by
  have HI := Lib.hid hs
  have HS := Lib.hid hS
  have Hx := Lib.hid hx
  have HMx := Lib.hid mx
  have h6 := (isSp_iff.1 hs).hi
  have hpb := prm_bd (isSp_iff.1 hs).prime
  have hbl := bl_le h6
  have hb0 := bl_pos S
  have HB0 := Lib.hid (below_alloc w (.cells #[.int .i64 pS, .slice aS S.length cS, .slice ax x.length cx] 50))
  have k0 := BoxX.new w pS aS S.length cS ax x.length cx 50
  have hi0 : (0 : Int) < ((bl S : Nat) : Int) := by omega
  clear hs hS hx mx
  go_enter Tryz.func69, Tryz.ntmps69
  go_upto_region 1 with fail
  obtain ⟨w0, hw0'⟩ : ∃ z, z = w.alloc (.cells #[.int .i64 pS, .slice aS S.length cS, .slice ax x.length cx] 50) := ⟨_, rfl⟩
  rw [← hw0'] at HB0 k0 ⊢
  have hw0 : w.heap.size < w0.heap.size := by rw [hw0']; simp
  have hwz : w.heap.size + 1 = w0.heap.size := by rw [hw0']; simp
  try rw [hwz]
  clear hw0'
  obtain ⟨w1, hw1⟩ : ∃ z, z = w0.alloc (.cells #[.int .i64 0, .int .i64 0] 74) := ⟨_, rfl⟩
  obtain ⟨g, hg⟩ : ∃ b, b = w0.heap.size := ⟨_, rfl⟩
  have hs0 : BoxX w.heap.size pS aS S.length cS ax x.length cx w1 := by rw [hw1]; exact k0.below (below_alloc w0 _) hw0
  have z0 : w1.cell? ⟨g, 0, none⟩ = some (.int .i64 0) := by rw [hw1, hg]; simp [go_sem]
  have z1 : w1.cell? ⟨g, 1, none⟩ = some (.int .i64 0) := by rw [hw1, hg]; simp [go_sem]
  have y0 : w1.frozen? ⟨g, 0, none⟩ = false := by rw [hw1, hg]; simp [go_sem]
  have y1 : w1.frozen? ⟨g, 1, none⟩ = false := by rw [hw1, hg]; simp [go_sem]
  have HB1 : Hid (Below w.heap.size w w1) := by show Below _ _ _; rw [hw1]; exact HB0.out.alloc HB0.out.size _
  have hg1 : g < w1.heap.size := by rw [hw1, hg]; simp
  have hwg : w.heap.size < g := by omega
  have hngw : w.heap.size ≠ g := by omega
  rw [← hw1]
  rw [← hg]
  clear hw1 hwz hg
  have hs1 : Hid (BoxX w.heap.size pS aS S.length cS ax x.length cx w1.drew) := hs0
  have HBD : Hid (Below w.heap.size w w1.drew) := HB1.out.drew
  have hd0 : w.heap.size < w1.drew.heap.size := Nat.lt_trans hwg hg1
  have gd : g < w1.drew.heap.size := hg1
  have zz0_ : Hid (w1.drew.cell? ⟨g, 0, none⟩ = some (.int .i64 0) ∧ w1.drew.cell? ⟨g, 1, none⟩ = some (.int .i64 0) ∧ w1.drew.frozen? ⟨g, 0, none⟩ = false ∧ w1.drew.frozen? ⟨g, 1, none⟩ = false) := ⟨z0, z1, y0, y1⟩
  clear z0 z1 y0 y1 k0 hs0
  refine wp_region_noPanic ?_
  refine wp_region_held_drew (S := fun w' => w'.cell? ⟨w.heap.size, 0, none⟩ = some (.int .i64 pS) ∧ w'.cell? ⟨w.heap.size, 1, none⟩ = some (.slice aS S.length cS) ∧ w'.cell? ⟨w.heap.size, 2, none⟩ = some (.slice ax x.length cx)) (by kernel_rfl) (hs1.out) (fun hHeld => ?_)
  (refine wpAnyH_take (i := 0) (oi := _) (v := ?_) rfl (by kernel_rfl) (by kernel_rfl) (by kernel_rfl) (fun _ _ _ h => h) (Or.inl ⟨by rfl, ?_⟩) (by assumption) ?_; rotate_left; (focus (intro w' hSw; (try dsimp only at hSw); first | (go_simp; done) | (go_simp; with_reducible rfl)))); ((try simp only [Act.put]); (try simp only [List.setIfInBounds_toArray]); (try simp only [List.set_cons_succ]); (try simp only [List.set_cons_zero]))
  (refine wpAnyH_take (i := 1) (oi := _) (v := ?_) rfl (by kernel_rfl) (by kernel_rfl) (by kernel_rfl) (fun _ _ _ h => h) (Or.inl ⟨by rfl, ?_⟩) (by assumption) ?_; rotate_left; (focus (intro w' hSw; (try dsimp only at hSw); first | (go_simp; done) | (go_simp; with_reducible rfl)))); ((try simp only [Act.put]); (try simp only [List.setIfInBounds_toArray]); (try simp only [List.set_cons_succ]); (try simp only [List.set_cons_zero]))
  (refine wpAnyH_take (i := 2) (oi := _) (v := ?_) rfl (by kernel_rfl) (by kernel_rfl) (by kernel_rfl) (fun _ _ _ h => h) (Or.inl ⟨by rfl, ?_⟩) (by assumption) ?_; rotate_left; (focus (intro w' hSw; (try dsimp only at hSw); first | (go_simp; done) | (go_simp; with_reducible rfl)))); ((try simp only [Act.put]); (try simp only [List.setIfInBounds_toArray]); (try simp only [List.set_cons_succ]); (try simp only [List.set_cons_zero]))
  (refine wpAnyH_take (i := 3) (oi := _) (v := ?_) rfl (by kernel_rfl) (by kernel_rfl) (by kernel_rfl) (fun _ _ _ h => h) (Or.inl ⟨by rfl, ?_⟩) (by assumption) ?_; rotate_left; (focus (intro w' hSw; (try dsimp only at hSw); first | (go_simp; done) | (go_simp; with_reducible rfl)))); ((try simp only [Act.put]); (try simp only [List.setIfInBounds_toArray]); (try simp only [List.set_cons_succ]); (try simp only [List.set_cons_zero]))
  (refine wpAnyH_take (i := 4) (oi := _) (v := ?_) rfl (by kernel_rfl) (by kernel_rfl) (by kernel_rfl) (fun _ _ _ h => h) (Or.inl ⟨by rfl, ?_⟩) (by assumption) ?_; rotate_left; (focus (intro w' hSw; (try dsimp only at hSw); first | (go_simp; done) | (go_simp; with_reducible rfl)))); ((try simp only [Act.put]); (try simp only [List.setIfInBounds_toArray]); (try simp only [List.set_cons_succ]); (try simp only [List.set_cons_zero]))
  (refine wpAnyH_take (i := 5) (oi := _) (v := ?_) rfl (by kernel_rfl) (by kernel_rfl) (by kernel_rfl) (fun _ _ _ h => h) (Or.inl ⟨by rfl, ?_⟩) (by assumption) ?_; rotate_left; (focus (intro w' hSw; (try dsimp only at hSw); first | (go_simp; done) | (go_simp; with_reducible rfl)))); ((try simp only [Act.put]); (try simp only [List.setIfInBounds_toArray]); (try simp only [List.set_cons_succ]); (try simp only [List.set_cons_zero]))
  (refine wpAnyH_take (i := 6) (oi := _) (v := ?_) rfl (by kernel_rfl) (by kernel_rfl) (by kernel_rfl) (fun _ _ _ h => h) (Or.inl ⟨by rfl, ?_⟩) (by assumption) ?_; rotate_left; (focus (intro w' hSw; (try dsimp only at hSw); first | (go_simp; done) | (go_simp; with_reducible rfl)))); ((try simp only [Act.put]); (try simp only [List.setIfInBounds_toArray]); (try simp only [List.set_cons_succ]); (try simp only [List.set_cons_zero]))
  (refine wpAnyH_take (i := 7) (oi := _) (v := ?_) rfl (by kernel_rfl) (by kernel_rfl) (by kernel_rfl) (fun _ _ _ h => h) (Or.inl ⟨by rfl, ?_⟩) (by assumption) ?_; rotate_left; (focus (intro w' hSw; (try dsimp only at hSw); first | (go_simp; done) | (go_simp; with_reducible rfl)))); ((try simp only [Act.put]); (try simp only [List.setIfInBounds_toArray]); (try simp only [List.set_cons_succ]); (try simp only [List.set_cons_zero]))
  (refine wpAnyH_take (i := 8) (oi := _) (v := ?_) rfl (by kernel_rfl) (by kernel_rfl) (by kernel_rfl) (fun _ _ _ h => h) (Or.inl ⟨by rfl, ?_⟩) (by assumption) ?_; rotate_left; (focus (intro w' hSw; (try dsimp only at hSw); first | (go_simp; done) | (go_simp; with_reducible rfl)))); ((try simp only [Act.put]); (try simp only [List.setIfInBounds_toArray]); (try simp only [List.set_cons_succ]); (try simp only [List.set_cons_zero]))
  refine wpAnyH_ready (rs := [9]) (by kernel_rfl) (by simp) ?_
  refine AllReadyH.cons (o := _) rfl (fun K hK => ?_) AllReadyH.nil
  go_simp; go_at_call 108; (with_reducible refine (product_any pS aS S cS loS tpS ax x cx lox tpx ax x cx lox tpx w1.drew (isSp_iff.1 HI.out).prime h6 (HS.out.below HBD.out tS) (Nat.le_trans tS (HBD.out).size) (sp_nums HI.out) (Hx.out.below HBD.out tx) (Nat.le_trans tx (HBD.out).size) (Mv.len HMx.out) (Mv.nums HMx.out) (Hx.out.below HBD.out tx) (Nat.le_trans tx (HBD.out).size) (Mv.len HMx.out) (Mv.nums HMx.out)).mono ?_); rintro e wa ⟨ba, rfl, l_, u_, o_, b_⟩; have SSa := Lib.hid ((hs1.out).below b_ hd0); have HBa := Lib.hid (below_step HBD.out (Nat.le_of_lt hd0) b_); have zz_ := b_.size; have hda := Nat.lt_of_lt_of_le hd0 zz_; have la := Nat.lt_of_lt_of_le hd0 l_; have ua_a := u_; have Na_a := Lib.hid o_; have Ra_a := Lib.hid ((o_.own (Nat.le_of_lt la) u_).row); have zz_a := Lib.hid (live4b b_ gd zz0_.out); have gd_a := Nat.lt_of_lt_of_le gd zz_; obtain ⟨z0_, z1_, y0_, y1_⟩ := zz_a.out; have c0_ := Na_a.out.cell 0 hb0; rw [Nat.zero_add] at c0_; clear b_ o_; (try go_wp2_with fail)
  refine hK.out _ _ (SSa.out) (fun hHeld => ?_)
  clear hK K
  ((try simp only [Act.put]); (try simp only [List.setIfInBounds_toArray]); (try simp only [List.set_cons_succ]); (try simp only [List.set_cons_zero]))
  (refine wpAnyH_take (i := 10) (oi := _) (v := ?_) rfl (by kernel_rfl) (by kernel_rfl) (by kernel_rfl) (fun _ _ _ h => h) (Or.inl ⟨by rfl, ?_⟩) (by assumption) ?_; rotate_left; (focus (intro w' hSw; (try dsimp only at hSw); first | (go_simp; done) | (go_simp; with_reducible rfl)))); ((try simp only [Act.put]); (try simp only [List.setIfInBounds_toArray]); (try simp only [List.set_cons_succ]); (try simp only [List.set_cons_zero]))
  refine wpAnyH_ready (rs := [11]) (by kernel_rfl) (by simp) ?_
  refine AllReadyH.cons (o := _) rfl (fun K hK => ?_) AllReadyH.nil
  go_simp
  refine hK.out _ _ (hHeld) (fun hHeld => ?_)
  clear hK K
  ((try simp only [Act.put]); (try simp only [List.setIfInBounds_toArray]); (try simp only [List.set_cons_succ]); (try simp only [List.set_cons_zero]))
  (refine wpAnyH_take (i := 12) (oi := _) (v := ?_) rfl (by kernel_rfl) (by kernel_rfl) (by kernel_rfl) (fun _ _ _ h => h) (Or.inl ⟨by rfl, ?_⟩) (by assumption) ?_; rotate_left; (focus (intro w' hSw; (try dsimp only at hSw); first | (go_simp; done) | (go_simp; with_reducible rfl)))); ((try simp only [Act.put]); (try simp only [List.setIfInBounds_toArray]); (try simp only [List.set_cons_succ]); (try simp only [List.set_cons_zero]))
  refine wpAnyH_ready (rs := [13]) (by kernel_rfl) (by simp) ?_
  refine AllReadyH.cons (o := _) rfl (fun K hK => ?_) AllReadyH.nil
  go_simp
  refine hK.out _ _ ((SSa.out.put (o := 0) (v := .int .i64 pS) hngw).put (o := 1) (v := .int .i64 (prodF pS S x x 0)) hngw) (fun hHeld => ?_)
  clear hK K
  ((try simp only [Act.put]); (try simp only [List.setIfInBounds_toArray]); (try simp only [List.set_cons_succ]); (try simp only [List.set_cons_zero]))
  refine wpAnyH_done (by kernel_rfl) ?_ _
  refine NoPanic.normal ?_
  go_wp2
  refine bodyPost_ret (v := .agg #[.int .i64 pS, .int .i64 (prodF pS S x x 0)]) (by simp [results, Tryz.results69, go_sem, z0_, z1_]) rfl ⟨rfl, ?_⟩
  exact (HBa.out.setCell (Nat.le_of_lt hwg) _).setCell (Nat.le_of_lt hwg) _

theorem wedge_lvP (pS : Int) (aS : Option Addr) (S : List Int) (cS loS tpS : Nat) (ax : Option Addr) (x : List Int) (cx lox tpx b lo tp : Nat) (v : List Int) (W : World) (hs : isSp pS S = true) (hS : RowIn loS tpS W aS S) (tS : tpS ≤ W.heap.size) (hx : RowIn lox tpx W ax x) (tx : tpx ≤ W.heap.size) (mx : isMv pS S x = true) (h : RowIn lo tp W (some ⟨b, 0, none⟩) (mkR (bl S) (vecF v v.length))) (th : tp ≤ W.heap.size) (hv : isVec pS S.length v = true) :
    Calls Tryz.prog 91 #[.agg #[.int .i64 pS, .slice aS S.length cS], .slice (some ⟨b, 0, none⟩) (bl S) (bl S), .slice ax x.length cx] W (OwnE (wgM pS S (vecM S v) x) W) := by
  have q := wedge_own pS aS S cS loS tpS (some ⟨b, 0, none⟩) (mkR (bl S) (vecF v v.length)) (bl S) lo tp ax x cx lox tpx W hs hS tS h th (vec_mv' hs hv) hx tx mx
  rw [mkR_len] at q
  exact q
theorem max_below (a : Option Addr) (z : List Int) (ca lo tp : Nat) (w : World) (hz : RowIn lo tp w a z) (h0 : 0 < z.length) (hl : z.length ≤ 1048576) :
    Calls Tryz.prog 90 #[.slice a z.length ca] w fun e w' => e = .returned (.int .i64 (mxF z (z.length - 1))) ∧ Below w.heap.size w w' :=
  (max_any a z ca lo tp w hz h0 hl).mono fun _ _ ⟨h, e⟩ => ⟨h, e ▸ Below.refl _ _⟩

set_option maxRecDepth 100000 in
set_option maxHeartbeats 3200000 in
theorem annihilates_any (pS : Int) (aS : Option Addr) (S : List Int) (cS loS tpS : Nat) (ax : Option Addr) (x : List Int) (cx lox tpx : Nat) (av : Option Addr) (v : List Int) (cv lov tpv : Nat) (w : World) (hs : isSp pS S = true) (hS : RowIn loS tpS w aS S) (tS : tpS ≤ w.heap.size) (hx : RowIn lox tpx w ax x) (tx : tpx ≤ w.heap.size) (mx : isMv pS S x = true) (hv : RowIn lov tpv w av v) (tv : tpv ≤ w.heap.size) (mv : isVec pS S.length v = true) :
    Calls Tryz.prog 58 #[.agg #[.int .i64 pS, .slice aS S.length cS, .slice ax x.length cx], .slice av v.length cv] w (fun e w' => e = .returned (.bool (allZ (wgM pS S (vecM S v) x))) ∧ Below w.heap.size w w') := by
  have HI := Lib.hid hs
  have HS := Lib.hid hS
  have Hx := Lib.hid hx
  have HMx := Lib.hid mx
  have Hv := Lib.hid hv
  have h6 := (isSp_iff.1 hs).hi
  have hpb := prm_bd (isSp_iff.1 hs).prime
  have hbl := bl_le h6
  have hb0 := bl_pos S
  have HB0 := Lib.hid (below_alloc w (.cells #[.int .i64 pS, .slice aS S.length cS, .slice ax x.length cx] 50))
  have k0 := BoxX.new w pS aS S.length cS ax x.length cx 50
  have HVV := Lib.hid mv
  have HLV := Lib.hid (isVec_iff.1 mv).len
  have hw0l : 0 < (wgM pS S (vecM S v) x).length := by rw [wgM_len]; exact hb0
  have hwl : (wgM pS S (vecM S v) x).length ≤ 1048576 := by rw [wgM_len]; omega
  have HZZ : Hid ((mxF (wgM pS S (vecM S v) x) ((wgM pS S (vecM S v) x).length - 1) == 0) = allZ (wgM pS S (vecM S v) x)) := mx_zero hw0l fun j hj => (Mv.nums (kM_mv hs (vecM S v) x) j hj).1
  clear mv
  clear hs hS hx mx hv
  go_enter Tryz.func58, Tryz.ntmps58
  go_upto_region 1 with fail
  obtain ⟨w1, hw1⟩ : ∃ z, z = w.alloc (.cells #[.int .i64 pS, .slice aS S.length cS, .slice ax x.length cx] 50) := ⟨_, rfl⟩
  rw [← hw1] at HB0 k0 ⊢
  have hw0 : w.heap.size < w1.heap.size := by rw [hw1]; simp
  clear hw1
  have hs1 : Hid (BoxX w.heap.size pS aS S.length cS ax x.length cx w1.drew) := k0
  have HBD : Hid (Below w.heap.size w w1.drew) := HB0.out.drew
  have hd0 : w.heap.size < w1.drew.heap.size := hw0
  go_region_held3 (fun w' => w'.cell? ⟨w.heap.size, 0, none⟩ = some (.int .i64 pS) ∧ w'.cell? ⟨w.heap.size, 1, none⟩ = some (.slice aS S.length cS) ∧ w'.cell? ⟨w.heap.size, 2, none⟩ = some (.slice ax x.length cx)) (first | exact hs1.out | exact SSa.out | exact SSab.out | exact SSabc.out | go_keep) (first | (go_at_call 92; (with_reducible refine (vector_any pS aS S cS av v cv lov tpv w1.drew h6 HLV.out (Hv.out.below HBD.out tv) (Nat.le_trans tv (HBD.out).size)).mono ?_); rintro e wa ⟨ba, rfl, l_, u_, o_, b_⟩; have SSa := Lib.hid ((hs1.out).below b_ hd0); have HBa := Lib.hid (below_step HBD.out (Nat.le_of_lt hd0) b_); have zz_ := b_.size; have hda := Nat.lt_of_lt_of_le hd0 zz_; have la := Nat.lt_of_lt_of_le hd0 l_; have ua_a := u_; have Na_a := Lib.hid o_; have Ra_a := Lib.hid ((o_.own (Nat.le_of_lt la) u_).row); clear b_ o_) | (go_at_call 91; (with_reducible refine (wedge_lvP pS aS S cS loS tpS ax x cx lox tpx ba w.heap.size wa.heap.size v wa HI.out (HS.out.below HBa.out tS) (Nat.le_trans tS (HBa.out).size) (Hx.out.below HBa.out tx) (Nat.le_trans tx (HBa.out).size) HMx.out Ra_a.out (Nat.le_refl _) HVV.out).mono ?_); rintro e wab ⟨rb, kb, rfl, o_, b_⟩; have SSab := Lib.hid ((SSa.out).below b_ hda); have HBab := Lib.hid (below_step HBa.out (Nat.le_of_lt hda) b_); have zz_ := b_.size; have hdab := Nat.lt_of_lt_of_le hda zz_; have Ra_ab := Lib.hid ((Ra_a.out.below b_ (Nat.le_refl _)).mono (Nat.le_refl _) zz_); have Na_ab := Lib.hid (Na_a.out.stay (b_.block ba ua_a)); have ua_ab := Nat.lt_of_lt_of_le ua_a zz_; have Ob_ab := Lib.hid (OwnR.mono' o_ (Nat.le_of_lt hda) (Nat.le_refl _)); have Rb_ab := Lib.hid (Ob_ab.out.row); clear b_ o_) | (go_at_call 90; (with_reducible refine (max_below rb (wgM pS S (vecM S v) x) kb w.heap.size wab.heap.size wab Rb_ab.out hw0l hwl).mono ?_); rintro e wabc ⟨rfl, b_⟩; have SSabc := Lib.hid ((SSab.out).below b_ hdab); have HBabc := Lib.hid (below_step HBab.out (Nat.le_of_lt hdab) b_); have zz_ := b_.size; have hdabc := Nat.lt_of_lt_of_le hdab zz_; have Ra_abc := Lib.hid ((Ra_ab.out.below b_ (Nat.le_refl _)).mono (Nat.le_refl _) zz_); have Na_abc := Lib.hid (Na_ab.out.stay (b_.block ba ua_ab)); have ua_abc := Nat.lt_of_lt_of_le ua_ab zz_; have Rb_abc := Lib.hid ((Rb_ab.out.below b_ (Nat.le_refl _)).mono (Nat.le_refl _) zz_); clear b_))
  all_goals
    go_wp2
    go_ret
    exact ⟨by rw [← HZZ.out]; rfl, HBabc.out⟩

theorem Vec.num' {p : Int} {n : Nat} {v : List Int} (h : Vec p n v) {j : Nat} (hj : j < n) : 0 ≤ v.getD j 0 ∧ v.getD j 0 < p := by
  have hj' : j < v.length := by rw [h.len]; exact hj
  have := List.all_eq_true.1 h.all (v[j]) (List.getElem_mem hj')
  rw [getD_at hj']
  exact inr_iff.1 this
theorem bas_list {p : Int} {S : List Int} {m : List (List Int)} (hs : isSp p S = true) (hl : listB p S m = true) : listB p S (bas p m) = true := by
  have h := listB_iff hl
  have len : ∀ i, i < m.length → (rw' m i).length = S.length := fun i hi => (isVec_iff.1 (h.2 i hi)).len
  have hb := bas_is (c := S.length) (isSp_iff.1 hs).prime m len (fun i hi j hj => (isVec_iff.1 (h.2 i hi)).num' hj)
  obtain ⟨P, hP⟩ := hb.red
  have hle : (bas p m).length ≤ S.length := hP.rows_le
  have h6 := (isSp_iff.1 hs).hi
  unfold listB
  rw [Bool.and_eq_true, decide_eq_true_eq]
  refine ⟨List.all_eq_true.2 fun z hz => ?_, by omega⟩
  obtain ⟨i, hi, rfl⟩ := List.getElem_of_mem hz
  have e : rw' (bas p m) i = (bas p m)[i] := by unfold rw'; simp [List.getD, hi]
  rw [← e]
  refine isVec_iff.2 ⟨hb.len i hi, ?_⟩
  rw [List.all_eq_true]
  intro y hy
  obtain ⟨j, hj, rfl⟩ := List.getElem_of_mem hy
  have h2 := hP.rng i hi j (by rw [← hb.len i hi]; exact hj)
  unfold at' at h2
  rw [getD_at hj] at h2
  exact inr_iff.2 h2

end Go.Proofs.YtbnegbpapjcmhaaGreat
