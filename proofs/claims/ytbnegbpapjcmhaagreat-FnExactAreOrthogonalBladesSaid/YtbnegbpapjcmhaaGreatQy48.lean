/-
  AreOrthogonalBlades: contracts of the program and of the model.
  Conditions: the lists are nil or rows of known cells, of at most 1048576 numbers.
-/
import Derived.Test.YtbnegbpapjcmhaaGreatQy39
import Derived.Test.YtbnegbpapjcmhaaGreatQy4
import Derived.Deep.RegionHeld3
import Derived.Deep.DeepCutAuto
namespace Go.Proofs.YtbnegbpapjcmhaaGreat
open Go.RowKit
set_option linter.unusedVariables false

/-- Whether a vector is orthogonal to some vector of a list, and all of a list to all of another one. -/
def aptB (p : Int) (S v : List Int) (m : List (List Int)) (k : Nat) : Bool := (List.range k).any fun j => pairN p S v (rw' m j) != 0
def ortAll (p : Int) (S : List Int) (a b : List (List Int)) (k : Nat) : Bool := (List.range k).all fun i => !aptB p S (rw' a i) b b.length
theorem aptB_yes {p : Int} {S v : List Int} {m : List (List Int)} {k j : Nat} (hj : j < k) (h : pairN p S v (rw' m j) ≠ 0) : aptB p S v m k = true := by
  unfold aptB
  exact List.any_eq_true.2 ⟨j, List.mem_range.2 hj, by simpa using h⟩
theorem aptB_no {p : Int} {S v : List Int} {m : List (List Int)} {k : Nat} (h : ∀ j, j < k → pairN p S v (rw' m j) = 0) : aptB p S v m k = false := by
  cases e : aptB p S v m k with
  | false => rfl
  | true =>
    obtain ⟨j, h1, h2⟩ := List.any_eq_true.1 e
    rw [h j (List.mem_range.1 h1)] at h2
    simp at h2
theorem ortAll_no {p : Int} {S : List Int} {a b : List (List Int)} {k i : Nat} (hi : i < k) (h : aptB p S (rw' a i) b b.length = true) : ortAll p S a b k = false := by
  cases e : ortAll p S a b k with
  | false => rfl
  | true =>
    have := List.all_eq_true.1 e i (List.mem_range.2 hi)
    rw [h] at this; cases this
theorem ortAll_yes {p : Int} {S : List Int} {a b : List (List Int)} {k : Nat} (h : ∀ i, i < k → aptB p S (rw' a i) b b.length = false) : ortAll p S a b k = true := by
  unfold ortAll
  exact List.all_eq_true.2 fun i hi => by rw [h i (List.mem_range.1 hi)]; rfl
/-- The box of a blade (its space) and that of a vector. -/
def BoxO (gx gv : Nat) (p : Int) (aS : Option Addr) (n cS : Nat) (av : Option Addr) (l cv : Nat) (W : World) : Prop :=
  W.cell? ⟨gx, 0, none⟩ = some (.int .i64 p) ∧ W.cell? ⟨gx, 1, none⟩ = some (.slice aS n cS) ∧ W.cell? ⟨gv, 0, none⟩ = some (.slice av l cv)
theorem BoxO.below {gx gv : Nat} {p : Int} {aS av : Option Addr} {n cS l cv B : Nat} {w w' : World} (h : BoxO gx gv p aS n cS av l cv w) (hb : Below B w w') (h1 : gx < B) (h2 : gv < B) : BoxO gx gv p aS n cS av l cv w' :=
  ⟨(hb.cell (p := ⟨gx, 0, none⟩) h1).trans h.1, (hb.cell (p := ⟨gx, 1, none⟩) h1).trans h.2.1, (hb.cell (p := ⟨gv, 0, none⟩) h2).trans h.2.2⟩
set_option maxRecDepth 100000 in
set_option maxHeartbeats 1600000 in
theorem orthClo_any (p : Int) (aS : Option Addr) (S : List Int) (cS loS tpS : Nat) (av : Option Addr) (v : List Int) (cv lov tpv : Nat) (au : Option Addr) (u : List Int) (cu lou tpu gx gv : Nat) (w : World) (hs : isSp p S = true) (hS : RowIn loS tpS w aS S) (tS : tpS ≤ w.heap.size) (hv : RowIn lov tpv w av v) (tv : tpv ≤ w.heap.size) (mv : isVec p S.length v = true) (hu : RowIn lou tpu w au u) (tu : tpu ≤ w.heap.size) (mu : isVec p S.length u = true) (hb : BoxO gx gv p aS S.length cS av v.length cv w) :
    Calls Tryz.prog 113 #[.slice au u.length cu, .pointer (some ⟨gx, 0, none⟩), .pointer (some ⟨gv, 0, none⟩)] w fun e w' => e = .returned (.bool (pairN p S v u != 0)) ∧ Below w.heap.size w w' := by
  have HI := Lib.hid hs
  have HS := Lib.hid hS
  have Hv := Lib.hid hv
  have HV := Lib.hid mv
  have Hu := Lib.hid hu
  have HU := Lib.hid mu
  obtain ⟨k0, k1, k2⟩ := hb
  clear hs hS hv mv hu mu
  go_enter Tryz.func113, Tryz.ntmps113
  go_wp2_with (go_at_call 114; ((with_reducible refine (pair_any p aS S cS loS tpS av v cv lov tpv au u cu lou tpu w HS.out tS Hv.out tv Hu.out tu HI.out HV.out HU.out).mono ?_); rintro e w' ⟨rfl, b_⟩; have B := Lib.hid b_; clear b_))
  go_ret
  exact ⟨rfl, B.out⟩

def IdxP (p : Int) (S v : List Int) (m : List (List Int)) (w : World) (e : Ending) (w' : World) : Prop := ∃ r : Int, e = .returned (.int .i64 r) ∧ (aptB p S v m m.length = true → 0 ≤ r) ∧ (aptB p S v m m.length = false → r = -1) ∧ Below w.heap.size w w'

set_option maxRecDepth 100000 in
set_option maxHeartbeats 3200000 in
theorem orthIdx_any (p : Int) (aS : Option Addr) (S : List Int) (cS loS tpS : Nat) (av : Option Addr) (v : List Int) (cv lov tpv : Nat) (am : Option Addr) (m : List (List Int)) (cm lom tpm gx gv : Nat) (w : World) (hs : isSp p S = true) (hS : RowIn loS tpS w aS S) (tS : tpS ≤ w.heap.size) (hv : RowIn lov tpv w av v) (tv : tpv ≤ w.heap.size) (mv : isVec p S.length v = true) (hm : MatIn lom tpm w am m) (tm : tpm ≤ w.heap.size) (hl : listB p S m = true) (hb : BoxO gx gv p aS S.length cS av v.length cv w) (lx : gx < w.heap.size) (lv : gv < w.heap.size) :
    Calls Tryz.prog 139 #[.slice am m.length cm, .func (.func 113) #[] #[.pointer (some ⟨gx, 0, none⟩), .pointer (some ⟨gv, 0, none⟩)]] w (IdxP p S v m w) := by
  have HI := Lib.hid hs
  have HS := Lib.hid hS
  have Hv := Lib.hid hv
  have HV := Lib.hid mv
  have Hm := Lib.hid hm
  have HL := Lib.hid (listB_iff hl)
  have HB := Lib.hid hb
  have hm16 := HL.out.1
  clear hs hS hv mv hm hl hb
  go_enter Tryz.func139, Tryz.ntmps139
  go_wp2
  go_loopw [8] (fun t wr => ∃ i : Nat, i ≤ m.length ∧ t = .int .i64 i ∧ (∀ j, j < i → pairN p S v (rw' m j) = 0) ∧ Below w.heap.size w wr) (fun t _ => m.length - (intOf t).toNat)
  case atStart => exact ⟨0, Nat.zero_le _, rfl, fun j hj => by omega, Below.refl _ _⟩
  case round =>
    obtain ⟨i, hi, rfl, hd, hbel⟩ := hrel
    have HD := Lib.hid hd
    have HBel := Lib.hid hbel
    have hz := hbel.size
    by_cases hlt : i < m.length
    · obtain ⟨b9, o9, rv, cv9, ha9, _, hb9, hr9, hrow⟩ := (Hm.out.below hbel tm).row hlt
      subst ha9
      have hi1 : (i : Int) < (m.length : Int) := Int.ofNat_lt.2 hlt
      have HROW := Lib.hid hrow
      have HVU := Lib.hid (HL.out.2 i hlt)
      have HBW := Lib.hid (HB.out.below hbel lx lv)
      clear hd hbel hrow
      by_cases hp0 : pairN p S v (rw' m i) = 0
      · have HP : Hid ((pairN p S v (rw' m i) != 0) = false) := by show _ = _; simpa using hp0
        have HPZ := Lib.hid hp0
        clear hp0
        go_wp2_with (go_at_call 113; ((with_reducible refine (orthClo_any p aS S cS loS tpS av v cv lov tpv rv (rw' m i) cv9 lom tpm gx gv wr HI.out (HS.out.below HBel.out tS) (Nat.le_trans tS hz) (Hv.out.below HBel.out tv) (Nat.le_trans tv hz) HV.out HROW.out (Nat.le_trans tm hz) HVU.out HBW.out).mono ?_); rintro e w5 ⟨rfl, b_⟩; rw [HP.out]; have B5 := Lib.hid b_; clear b_))
        go_roundw
        case rel => exact ⟨i + 1, by omega, by go_num, fun j hj => by
          by_cases e : j = i
          · subst e; exact HPZ.out
          · exact HD.out j (by omega), below_step HBel.out hz B5.out⟩
        case measure => simp [intOf]; omega
      · have HP : Hid ((pairN p S v (rw' m i) != 0) = true) := by show _ = _; simpa using hp0
        have HA := Lib.hid (aptB_yes hlt hp0)
        clear hp0
        go_wp2_with (go_at_call 113; ((with_reducible refine (orthClo_any p aS S cS loS tpS av v cv lov tpv rv (rw' m i) cv9 lom tpm gx gv wr HI.out (HS.out.below HBel.out tS) (Nat.le_trans tS hz) (Hv.out.below HBel.out tv) (Nat.le_trans tv hz) HV.out HROW.out (Nat.le_trans tm hz) HVU.out HBW.out).mono ?_); rintro e w5 ⟨rfl, b_⟩; rw [HP.out]; have B5 := Lib.hid b_; clear b_))
        go_ret
        exact ⟨i, rfl, fun _ => by omega, fun h => (by rw [HA.out] at h; cases h), below_step HBel.out hz B5.out⟩
    · have hin : i = m.length := by omega
      subst hin
      have HN := Lib.hid (aptB_no hd)
      clear hd hbel
      go_wp2
      go_ret
      exact ⟨-1, rfl, fun h => (by rw [HN.out] at h; cases h), fun _ => rfl, HBel.out⟩

set_option maxHeartbeats 1600000 in
theorem orthHas_any (p : Int) (aS : Option Addr) (S : List Int) (cS loS tpS : Nat) (av : Option Addr) (v : List Int) (cv lov tpv : Nat) (am : Option Addr) (m : List (List Int)) (cm lom tpm gx gv : Nat) (w : World) (hs : isSp p S = true) (hS : RowIn loS tpS w aS S) (tS : tpS ≤ w.heap.size) (hv : RowIn lov tpv w av v) (tv : tpv ≤ w.heap.size) (mv : isVec p S.length v = true) (hm : MatIn lom tpm w am m) (tm : tpm ≤ w.heap.size) (hl : listB p S m = true) (hb : BoxO gx gv p aS S.length cS av v.length cv w) (lx : gx < w.heap.size) (lv : gv < w.heap.size) :
    Calls Tryz.prog 115 #[.slice am m.length cm, .func (.func 113) #[] #[.pointer (some ⟨gx, 0, none⟩), .pointer (some ⟨gv, 0, none⟩)]] w fun e w' => e = .returned (.bool (aptB p S v m m.length)) ∧ Below w.heap.size w w' := by
  have HC := Lib.hid (orthIdx_any p aS S cS loS tpS av v cv lov tpv am m cm lom tpm gx gv w hs hS tS hv tv mv hm tm hl hb lx lv)
  clear hs hS hv mv hm hl hb
  go_enter Tryz.func115, Tryz.ntmps115
  by_cases ha : aptB p S v m m.length = true
  · have HA := Lib.hid ha
    clear ha
    go_wp2_with (go_at_call 139; ((with_reducible refine (HC.out).mono ?_); rintro e w5 ⟨r, rfl, h1, _, b_⟩; have h0 := h1 HA.out; have hge : (0 : Int) ≤ r := h0; have B5 := Lib.hid b_; clear b_ h1))
    go_ret
    exact ⟨by rw [HA.out]; simp, B5.out⟩
  · have HA : Hid (aptB p S v m m.length = false) := by show _ = _; simpa using ha
    clear ha
    go_wp2_with (go_at_call 139; ((with_reducible refine (HC.out).mono ?_); rintro e w5 ⟨r, rfl, _, h1, b_⟩; have h0 := h1 HA.out; subst h0; have B5 := Lib.hid b_; clear b_ h1))
    go_ret
    exact ⟨by rw [HA.out]; rfl, B5.out⟩

set_option maxRecDepth 100000 in
set_option maxHeartbeats 6400000 in
theorem isOrthogonalTo_any (pS : Int) (aS : Option Addr) (S : List Int) (cS loS tpS : Nat) (ax : Option Addr) (x : List Int) (cx : Nat) (ay : Option Addr) (y : List Int) (cy : Nat) (r0 : Option Addr) (k0_ : Nat) (F0 : Int) (r1 : Option Addr) (k1_ : Nat) (F1 : Int) (lox tpx loy tpy : Nat) (w : World) (hs : isSp pS S = true) (hS : RowIn loS tpS w aS S) (tS : tpS ≤ w.heap.size) (hx : MatIn lox tpx w r0 (subM pS S x)) (tx : tpx ≤ w.heap.size) (hy : MatIn loy tpy w r1 (subM pS S y)) (ty : tpy ≤ w.heap.size) :
    Calls Tryz.prog 79 #[.agg #[.int .i64 pS, .slice aS S.length cS, .slice ax x.length cx, .slice r0 (subM pS S x).length k0_, .int .i64 F0], .agg #[.int .i64 pS, .slice aS S.length cS, .slice ay y.length cy, .slice r1 (subM pS S y).length k1_, .int .i64 F1]] w fun e w' => e = .returned (.bool (ortAll pS S (subM pS S x) (subM pS S y) (subM pS S x).length)) ∧ Below w.heap.size w w' := by
  have HI := Lib.hid hs
  have HS := Lib.hid hS
  have Hx := Lib.hid hx
  have Hy := Lib.hid hy
  have HLX := Lib.hid (sub_list (x := x) hs)
  have HLY := Lib.hid (sub_list (x := y) hs)
  have hx6 := sub_le (x := x) hs
  clear hs hS hx hy
  go_enter Tryz.func79, Tryz.ntmps79
  go_upto_region 1 with fail
  obtain ⟨w0, hw0'⟩ : ∃ z, z = w.alloc (.cells #[.int .i64 pS, .slice aS S.length cS, .slice ax x.length cx, .slice r0 (subM pS S x).length k0_, .int .i64 F0] 52) := ⟨_, rfl⟩
  have hzx : Z5 w.heap.size (.int .i64 pS) (.slice aS S.length cS) (.slice ax x.length cx) (.slice r0 (subM pS S x).length k0_) (.int .i64 F0) w0 := by rw [hw0']; exact Z5.new _ _ _ _ _ _ _
  have HB0 : Hid (Below w.heap.size w w0) := by show Below _ _ _; rw [hw0']; exact balloc w _
  rw [← hw0']
  have hw0 : w.heap.size < w0.heap.size := by rw [hw0']; simp
  have hwz : w.heap.size + 1 = w0.heap.size := by rw [hw0']; simp
  try rw [hwz]
  clear hw0'
  obtain ⟨w1, hw1⟩ : ∃ z, z = w0.alloc (.cells #[.int .i64 pS, .slice aS S.length cS, .slice ay y.length cy, .slice r1 (subM pS S y).length k1_, .int .i64 F1] 52) := ⟨_, rfl⟩
  obtain ⟨gy, hgy⟩ : ∃ b, b = w0.heap.size := ⟨_, rfl⟩
  have hzy : Z5 gy (.int .i64 pS) (.slice aS S.length cS) (.slice ay y.length cy) (.slice r1 (subM pS S y).length k1_) (.int .i64 F1) w1 := by rw [hw1, hgy]; exact Z5.new _ _ _ _ _ _ _
  have hzx1 : Z5 w.heap.size (.int .i64 pS) (.slice aS S.length cS) (.slice ax x.length cx) (.slice r0 (subM pS S x).length k0_) (.int .i64 F0) w1 := by rw [hw1]; exact hzx.below (below_alloc w0 _) hw0
  have HB1 : Hid (Below w.heap.size w w1) := by show Below _ _ _; rw [hw1]; exact HB0.out.alloc HB0.out.size _
  have hy1 : gy < w1.heap.size := by rw [hw1, hgy]; simp
  have hd1 : w.heap.size < w1.heap.size := by omega
  rw [← hw1, ← hgy]
  clear hw1 hwz hgy hzx
  have ZX := Lib.hid hzx1
  have ZY := Lib.hid hzy
  obtain ⟨⟨z0, z1, z2, z3, z4⟩, _⟩ := hzx1
  clear hzy
  go_wp2
  go_loopw [11] (fun t wr => ∃ i : Nat, i ≤ (subM pS S x).length ∧ t = .int .i64 i ∧ (∀ j, j < i → aptB pS S (rw' (subM pS S x) j) (subM pS S y) (subM pS S y).length = false) ∧ Below w1.heap.size w1 wr) (fun t _ => (subM pS S x).length - (intOf t).toNat)
  case atStart => exact ⟨0, Nat.zero_le _, rfl, fun j hj => by omega, Below.refl _ _⟩
  case round =>
    obtain ⟨i, hi, rfl, hd, hbel⟩ := hrel
    have HD := Lib.hid hd
    have HB := Lib.hid hbel
    have HBW : Hid (Below w.heap.size w wr) := HB1.out.trans (hbel.mono (Nat.le_of_lt hd1))
    have hz := hbel.size
    have hwz := HBW.out.size
    by_cases hlt : i < (subM pS S x).length
    · obtain ⟨b9, o9, rv, cv, ha9, _, hb9, hr9, hrow⟩ := (Hx.out.below HBW.out tx).row hlt
      subst ha9
      have hi1 : (i : Int) < ((subM pS S x).length : Int) := Int.ofNat_lt.2 hlt
      have HROW := Lib.hid hrow
      have HVU := Lib.hid ((listB_iff HLX.out).2 i hlt)
      clear hd hbel hrow
      go_upto_region 5 with fail
      obtain ⟨w5, hw5⟩ : ∃ z, z = wr.alloc (.cells #[.slice rv (rw' (subM pS S x) i).length cv] 22) := ⟨_, rfl⟩
      obtain ⟨gv, hgv⟩ : ∃ b, b = wr.heap.size := ⟨_, rfl⟩
      have B5 : Hid (Below wr.heap.size wr w5) := by show Below _ _ _; rw [hw5]; exact balloc wr _
      have hv5 : gv < w5.heap.size := by rw [hw5, hgv]; simp
      have zx5 := (ZX.out.below HB.out hd1).below B5.out (Nat.lt_of_lt_of_le hd1 hz)
      have zy5 := (ZY.out.below HB.out hy1).below B5.out (Nat.lt_of_lt_of_le hy1 hz)
      have BO : Hid (BoxO w.heap.size gv pS aS S.length cS rv (rw' (subM pS S x) i).length cv w5) := ⟨zx5.1.1, zx5.1.2.1, by rw [hw5, hgv]; simp [go_sem]⟩
      have HW5 : Hid (Below w.heap.size w w5) := HBW.out.trans (B5.out.mono hwz)
      have lx5 : w.heap.size < w5.heap.size := Nat.lt_of_lt_of_le (Nat.lt_of_lt_of_le hd1 hz) B5.out.size
      rw [← hw5, ← hgv]
      clear hw5 hgv
      obtain ⟨⟨y0, y1, y2, y3, y4⟩, _⟩ := zy5
      clear zx5
      by_cases hap : aptB pS S (rw' (subM pS S x) i) (subM pS S y) (subM pS S y).length = true
      · have HAP := Lib.hid hap
        have HNO := Lib.hid (ortAll_no hlt hap)
        clear hap
        go_wp2_with (go_at_call 115; ((with_reducible refine (orthHas_any pS aS S cS loS tpS rv (rw' (subM pS S x) i) cv lox tpx r1 (subM pS S y) k1_ loy tpy w.heap.size gv w5 HI.out (HS.out.below HW5.out tS) (Nat.le_trans tS HW5.out.size) (HROW.out.below B5.out (Nat.le_trans tx hwz)) (Nat.le_trans tx HW5.out.size) HVU.out (Hy.out.below HW5.out ty) (Nat.le_trans ty HW5.out.size) HLY.out BO.out lx5 hv5).mono ?_); rintro e w6 ⟨rfl, b_⟩; rw [HAP.out]; have B6 := Lib.hid (below_step HW5.out HW5.out.size b_); clear b_))
        go_ret
        exact ⟨by rw [HNO.out]; rfl, B6.out⟩
      · have HAP : Hid (aptB pS S (rw' (subM pS S x) i) (subM pS S y) (subM pS S y).length = false) := by show _ = _; simpa using hap
        clear hap
        go_wp2_with (go_at_call 115; ((with_reducible refine (orthHas_any pS aS S cS loS tpS rv (rw' (subM pS S x) i) cv lox tpx r1 (subM pS S y) k1_ loy tpy w.heap.size gv w5 HI.out (HS.out.below HW5.out tS) (Nat.le_trans tS HW5.out.size) (HROW.out.below B5.out (Nat.le_trans tx hwz)) (Nat.le_trans tx HW5.out.size) HVU.out (Hy.out.below HW5.out ty) (Nat.le_trans ty HW5.out.size) HLY.out BO.out lx5 hv5).mono ?_); rintro e w6 ⟨rfl, b_⟩; rw [HAP.out]; have B6 := Lib.hid (B5.out.trans (b_.mono B5.out.size)); clear b_))
        go_roundw
        case rel => exact ⟨i + 1, by omega, by go_num, fun j hj => by
          by_cases e : j = i
          · subst e; exact HAP.out
          · exact HD.out j (by omega), HB.out.trans (B6.out.mono hz)⟩
        case measure => simp [intOf]; omega
    · have hin : i = (subM pS S x).length := by omega
      have HYES : Hid (ortAll pS S (subM pS S x) (subM pS S y) (subM pS S x).length = true) := ortAll_yes fun j hj => hd j (by omega)
      have hi2 : ¬ ((i : Int) < ((subM pS S x).length : Int)) := by omega
      clear hd hbel
      go_wp2
      go_ret
      exact ⟨by rw [HYES.out]; rfl, HBW.out⟩

theorem codeB_two {p : Int} {S x y : List Int} (h : codeB p S [x, y] = 0) : isSp p S = true ∧ (isMv p S x = true ∧ isMv p S y = true) ∧ isBl p S x = true ∧ isBl p S y = true := by
  rcases codeB_cases p S [x, y] with ⟨_, _, h2⟩ | ⟨_, _, h2⟩ | ⟨_, _, _, _, h2⟩ | ⟨h0, h1, _, h3, _⟩
  · rw [h] at h2; cases h2
  · rw [h] at h2; cases h2
  · rw [h] at h2; cases h2
  · rw [mv_all2, Bool.and_eq_true] at h1
    exact ⟨h0, h1, h3 0 (by show 0 < 2; omega), h3 1 (by show 1 < 2; omega)⟩
noncomputable def aobV (p : Int) (S x y : List Int) : Bool := if codeB p S [x, y] = 0 then ortAll p S (subM p S x) (subM p S y) (subM p S x).length else false

def C10 (g : Nat) (p : Int) (aS : Option Addr) (n cS : Nat) (ax : Option Addr) (lx cx : Nat) (r0 : Option Addr) (l0 k0 : Nat) (F0 : Int) (ay : Option Addr) (ly cy : Nat) (r1 : Option Addr) (l1 k1 : Nat) (F1 : Int) (W : World) : Prop :=
  W.cell? ⟨g, 0, none⟩ = some (.int .i64 p) ∧ W.cell? ⟨g, 1, none⟩ = some (.slice aS n cS) ∧ W.cell? ⟨g, 2, none⟩ = some (.slice ax lx cx) ∧ W.cell? ⟨g, 3, none⟩ = some (.slice r0 l0 k0) ∧ W.cell? ⟨g, 4, none⟩ = some (.int .i64 F0) ∧ W.cell? ⟨g, 5, none⟩ = some (.int .i64 p) ∧ W.cell? ⟨g, 6, none⟩ = some (.slice aS n cS) ∧ W.cell? ⟨g, 7, none⟩ = some (.slice ay ly cy) ∧ W.cell? ⟨g, 8, none⟩ = some (.slice r1 l1 k1) ∧ W.cell? ⟨g, 9, none⟩ = some (.int .i64 F1)
theorem C10.below {g : Nat} {p : Int} {aS : Option Addr} {n cS : Nat} {ax : Option Addr} {lx cx : Nat} {r0 : Option Addr} {l0 k0 : Nat} {F0 : Int} {ay : Option Addr} {ly cy : Nat} {r1 : Option Addr} {l1 k1 : Nat} {F1 : Int} {w w' : World} {B : Nat} (h : C10 g p aS n cS ax lx cx r0 l0 k0 F0 ay ly cy r1 l1 k1 F1 w) (b : Below B w w') (l : g < B) : C10 g p aS n cS ax lx cx r0 l0 k0 F0 ay ly cy r1 l1 k1 F1 w' :=
  ⟨(b.cell (p := ⟨g, 0, none⟩) l).trans h.1, (b.cell (p := ⟨g, 1, none⟩) l).trans h.2.1, (b.cell (p := ⟨g, 2, none⟩) l).trans h.2.2.1, (b.cell (p := ⟨g, 3, none⟩) l).trans h.2.2.2.1, (b.cell (p := ⟨g, 4, none⟩) l).trans h.2.2.2.2.1, (b.cell (p := ⟨g, 5, none⟩) l).trans h.2.2.2.2.2.1, (b.cell (p := ⟨g, 6, none⟩) l).trans h.2.2.2.2.2.2.1, (b.cell (p := ⟨g, 7, none⟩) l).trans h.2.2.2.2.2.2.2.1, (b.cell (p := ⟨g, 8, none⟩) l).trans h.2.2.2.2.2.2.2.2.1, (b.cell (p := ⟨g, 9, none⟩) l).trans h.2.2.2.2.2.2.2.2.2⟩

set_option maxRecDepth 100000 in
set_option maxHeartbeats 6400000 in
theorem impl_AreOrthogonalBlades (pS : Int) (aS : Option Addr) (S : List Int) (cS loS tpS : Nat) (ax : Option Addr) (x : List Int) (cx lox tpx : Nat) (ay : Option Addr) (y : List Int) (cy loy tpy : Nat) (w : World) (hS : RowIn loS tpS w aS S) (tS : tpS ≤ w.heap.size) (sS : S.length ≤ 1048576) (hx : RowIn lox tpx w ax x) (tx : tpx ≤ w.heap.size) (sx : x.length ≤ 1048576) (hy : RowIn loy tpy w ay y) (ty : tpy ≤ w.heap.size) (sy : y.length ≤ 1048576) :
    Calls Tryz.prog 46 #[.agg #[.int .i64 pS, .slice aS S.length cS], .slice ax x.length cx, .slice ay y.length cy] w (RetB (aobV pS S x y) (codeB pS S [x, y]) w) := by
  have HS := Lib.hid hS
  have Hx := Lib.hid hx
  have Hy := Lib.hid hy
  have HB0 := Lib.hid (below_alloc w (.cells #[.int .i64 pS, .slice aS S.length cS] 29))
  have k0 := nw0 w (.int .i64 pS) (.slice aS S.length cS) 29
  have k1 := nw1 w (.int .i64 pS) (.slice aS S.length cS) 29
  clear hS hx hy
  by_cases hc : codeB pS S [x, y] = 0
  · have HC := Lib.hid hc
    have hb := codeB_two hc
    have HI := Lib.hid hb.1
    have HMX := Lib.hid hb.2.1.1
    have HMY := Lib.hid hb.2.1.2
    have HV : Hid (aobV pS S x y = ortAll pS S (subM pS S x) (subM pS S y) (subM pS S x).length) := by show _ = _; unfold aobV; rw [if_pos hc]
    clear hc hb
    go_enter Tryz.func46, Tryz.ntmps46
    go_upto_region 1 with fail
    obtain ⟨w1, hw1⟩ : ∃ z, z = w.alloc (.cells #[.int .i64 pS, .slice aS S.length cS] 29) := ⟨_, rfl⟩
    rw [← hw1] at HB0 k0 k1 ⊢
    have hd1 : w.heap.size < w1.heap.size := by rw [hw1]; simp
    clear hw1
    go_upto_region 4 with (go_at_call 59; ((with_reducible refine (checkBlades_2y pS aS S cS loS tpS ax x cx lox tpx ay y cy loy tpy _ _ w1 _ rfl (HS.out.below HB0.out tS) (Nat.le_trans tS HB0.out.size) sS (Hx.out.below HB0.out tx) (Nat.le_trans tx HB0.out.size) sx (Hy.out.below HB0.out ty) (Nat.le_trans ty HB0.out.size) sy HC.out).mono ?_); rintro e w2 ⟨g, r0, k0_, r1, k1_, rfl, ⟨⟨q0, q1, q2, q3, q4⟩, oo0⟩, ⟨⟨q5, q6, q7, q8, q9⟩, oo1⟩, hg0, hg1, b_⟩; have O0 := Lib.hid oo0; have O1 := Lib.hid oo1; have HB2 := Lib.hid (below_step HB0.out HB0.out.size b_); have k0' := (b_.cell (p := ⟨w.heap.size, 0, none⟩) hd1).trans k0; have k1' := (b_.cell (p := ⟨w.heap.size, 1, none⟩) hd1).trans k1; have hd2 := Nat.lt_of_lt_of_le hd1 b_.size; clear oo0 oo1 b_ k0 k1))
    obtain ⟨F0, hF0⟩ : ∃ f, f = facM pS S x := ⟨_, rfl⟩
    obtain ⟨F1, hF1⟩ : ∃ f, f = facM pS S y := ⟨_, rfl⟩
    rw [← hF0] at q4
    rw [← hF1] at q9
    clear hF0 hF1
    have hs1 : Hid (w2.drew.cell? ⟨g, 0, none⟩ = some (.int .i64 pS) ∧ w2.drew.cell? ⟨g, 1, none⟩ = some (.slice aS S.length cS) ∧ w2.drew.cell? ⟨g, 2, none⟩ = some (.slice ax x.length cx) ∧ w2.drew.cell? ⟨g, 3, none⟩ = some (.slice r0 (subM pS S x).length k0_) ∧ w2.drew.cell? ⟨g, 4, none⟩ = some (.int .i64 F0) ∧ w2.drew.cell? ⟨g, 5, none⟩ = some (.int .i64 pS) ∧ w2.drew.cell? ⟨g, 6, none⟩ = some (.slice aS S.length cS) ∧ w2.drew.cell? ⟨g, 7, none⟩ = some (.slice ay y.length cy) ∧ w2.drew.cell? ⟨g, 8, none⟩ = some (.slice r1 (subM pS S y).length k1_) ∧ w2.drew.cell? ⟨g, 9, none⟩ = some (.int .i64 F1)) := ⟨q0, q1, q2, q3, q4, q5, q6, q7, q8, q9⟩
    have HBD : Hid (Below w.heap.size w w2.drew) := HB2.out.drew
    have M0 := Lib.hid (O0.out.mat.below (bdrew w2) (Nat.le_refl _))
    have M1 := Lib.hid (O1.out.mat.below (bdrew w2) (Nat.le_refl _))
    clear q0 q1 q2 q3 q4 q5 q6 q7 q8 q9
    go_region_held3 (fun w' => w'.cell? ⟨g, 0, none⟩ = some (.int .i64 pS) ∧ w'.cell? ⟨g, 1, none⟩ = some (.slice aS S.length cS) ∧ w'.cell? ⟨g, 2, none⟩ = some (.slice ax x.length cx) ∧ w'.cell? ⟨g, 3, none⟩ = some (.slice r0 (subM pS S x).length k0_) ∧ w'.cell? ⟨g, 4, none⟩ = some (.int .i64 F0) ∧ w'.cell? ⟨g, 5, none⟩ = some (.int .i64 pS) ∧ w'.cell? ⟨g, 6, none⟩ = some (.slice aS S.length cS) ∧ w'.cell? ⟨g, 7, none⟩ = some (.slice ay y.length cy) ∧ w'.cell? ⟨g, 8, none⟩ = some (.slice r1 (subM pS S y).length k1_) ∧ w'.cell? ⟨g, 9, none⟩ = some (.int .i64 F1)) (first | exact hs1.out | exact SSa.out | go_keep) ((go_at_call 79; ((with_reducible refine (isOrthogonalTo_any pS aS S cS loS tpS ax x cx ay y cy r0 k0_ F0 r1 k1_ F1 w1.heap.size w2.heap.size w1.heap.size w2.heap.size w2.drew HI.out (HS.out.below HBD.out tS) (Nat.le_trans tS HBD.out.size) M0.out (Nat.le_refl _) M1.out (Nat.le_refl _)).mono ?_); rintro e wa ⟨rfl, b_⟩; have SSa := Lib.hid (C10.below (show C10 g pS aS S.length cS ax x.length cx r0 (subM pS S x).length k0_ F0 ay y.length cy r1 (subM pS S y).length k1_ F1 w2.drew from hs1.out) b_ hg1); have HBa := Lib.hid (below_step HBD.out HBD.out.size b_); clear b_)))
    all_goals
      go_wp2
      go_ret2
      exact ⟨by rw [HV.out, HC.out]; rfl, HBa.out⟩
  · have HC := Lib.hid hc
    have HV : Hid (aobV pS S x y = false) := by show _ = _; unfold aobV; rw [if_neg hc]
    clear hc
    obtain ⟨C, hC⟩ : ∃ c, c = codeB pS S [x, y] := ⟨_, rfl⟩
    have hc1 : (C != 0) = true := by rw [hC]; simpa using HC.out
    have HCE := Lib.hid hC
    clear hC
    go_enter Tryz.func46, Tryz.ntmps46
    go_upto_region 1 with fail
    obtain ⟨w1, hw1⟩ : ∃ z, z = w.alloc (.cells #[.int .i64 pS, .slice aS S.length cS] 29) := ⟨_, rfl⟩
    rw [← hw1] at HB0 k0 k1 ⊢
    have hd1 : w.heap.size < w1.heap.size := by rw [hw1]; simp
    clear hw1
    go_wp2_with (go_at_call 59; ((with_reducible refine (checkBlades_2n pS aS S cS loS tpS ax x cx lox tpx ay y cy loy tpy _ _ w1 _ rfl (HS.out.below HB0.out tS) (Nat.le_trans tS HB0.out.size) sS (Hx.out.below HB0.out tx) (Nat.le_trans tx HB0.out.size) sx (Hy.out.below HB0.out ty) (Nat.le_trans ty HB0.out.size) sy HC.out).mono ?_); rintro e w2 ⟨rfl, b_⟩; rw [← HCE.out]; have HB2 := Lib.hid (below_step HB0.out HB0.out.size b_); clear b_ k0 k1))
    go_ret2
    exact ⟨by rw [HV.out, ← HCE.out]; rfl, HB2.out⟩

end Go.Proofs.YtbnegbpapjcmhaaGreat
