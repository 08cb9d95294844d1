/-
  Multivectors as versors (program): contracts of the program and of the model.
  Conditions: the lists are nil or rows of known cells, of at most 1048576 numbers.
  Reduced rows modulo a prime: what vanishes on them, and that this tells them wholly. No Go in sight.
  No conditions.
-/
import Derived.Test.YthbkfpkeofpocaaGreatQv18
import Derived.Deep.RegionHeld3
import Derived.Deep.DeepCutAuto
import Derived.StillTailTactics
import Derived.Test.YthbkfpkeofpocaaGreatQv2
namespace Go.Proofs.YthbkfpkeofpocaaGreat
open Go.RowKit
set_option linter.unusedVariables false

/-- Five cells that may be written. -/
def V5 (g : Nat) (v0 v1 v2 v3 v4 : Value) (W : World) : Prop :=
  (W.cell? ⟨g, 0, none⟩ = some v0 ∧ W.cell? ⟨g, 1, none⟩ = some v1 ∧ W.cell? ⟨g, 2, none⟩ = some v2 ∧ W.cell? ⟨g, 3, none⟩ = some v3 ∧ W.cell? ⟨g, 4, none⟩ = some v4) ∧ W.frozen? ⟨g, 0, none⟩ = false ∧ W.frozen? ⟨g, 1, none⟩ = false ∧ W.frozen? ⟨g, 2, none⟩ = false ∧ W.frozen? ⟨g, 3, none⟩ = false ∧ W.frozen? ⟨g, 4, none⟩ = false
theorem V5.below {g B : Nat} {v0 v1 v2 v3 v4 : Value} {w w' : World} (h : V5 g v0 v1 v2 v3 v4 w) (b : Below B w w') (l : g < B) : V5 g v0 v1 v2 v3 v4 w' :=
  ⟨⟨(b.cell (p := ⟨g, 0, none⟩) l).trans h.1.1, (b.cell (p := ⟨g, 1, none⟩) l).trans h.1.2.1, (b.cell (p := ⟨g, 2, none⟩) l).trans h.1.2.2.1, (b.cell (p := ⟨g, 3, none⟩) l).trans h.1.2.2.2.1, (b.cell (p := ⟨g, 4, none⟩) l).trans h.1.2.2.2.2⟩,
    (b.frozen (p := ⟨g, 0, none⟩) l).trans h.2.1, (b.frozen (p := ⟨g, 1, none⟩) l).trans h.2.2.1, (b.frozen (p := ⟨g, 2, none⟩) l).trans h.2.2.2.1, (b.frozen (p := ⟨g, 3, none⟩) l).trans h.2.2.2.2.1, (b.frozen (p := ⟨g, 4, none⟩) l).trans h.2.2.2.2.2⟩
theorem V5.new (w : World) (v0 v1 v2 v3 v4 : Value) (T : TypeId) : V5 w.heap.size v0 v1 v2 v3 v4 (w.alloc (.cells #[v0, v1, v2, v3, v4] T)) :=
  ⟨⟨by simp [go_sem], by simp [go_sem], by simp [go_sem], by simp [go_sem], by simp [go_sem]⟩, by simp [go_sem], by simp [go_sem], by simp [go_sem], by simp [go_sem], by simp [go_sem]⟩
def vput5 (g : Nat) (v0 v1 v2 v3 v4 : Value) (W : World) : World := ((((W.setCell ⟨g, 0, none⟩ v0).setCell ⟨g, 1, none⟩ v1).setCell ⟨g, 2, none⟩ v2).setCell ⟨g, 3, none⟩ v3).setCell ⟨g, 4, none⟩ v4
theorem below_vput5 {B g : Nat} {w w' : World} {v0 v1 v2 v3 v4 : Value} (h : Below B w w') (hg : B ≤ g) : Below B w (vput5 g v0 v1 v2 v3 v4 w') := ((((h.setCell hg _).setCell hg _).setCell hg _).setCell hg _).setCell hg _
/-- A multivector as a versor, or a zero one. -/
def AsV (p : Int) (aS : Option Addr) (S : List Int) (cS : Nat) (ax : Option Addr) (x : List Int) (cx : Nat) (w : World) (e : Ending) (w' : World) : Prop :=
  (isVr p S x = true ∧ e = .returned (.tuple #[.agg #[.int .i64 p, .slice aS S.length cS, .slice ax x.length cx, .int .i64 p, .int .i64 (nrF p S x)], .bool true]) ∧ Below w.heap.size w w')
  ∨ (isVr p S x = false ∧ e = .returned (.tuple #[.agg #[.int .i64 0, .slice none 0 0, .slice none 0 0, .int .i64 0, .int .i64 0], .bool false]) ∧ Below w.heap.size w w')
theorem hasParity_0 (pS : Int) (aS : Option Addr) (S : List Int) (cS loS tpS : Nat) (ax : Option Addr) (x : List Int) (cx lox tpx : Nat) (w : World) (hs : isSp pS S = true) (hS : RowIn loS tpS w aS S) (tS : tpS ≤ w.heap.size) (hx : RowIn lox tpx w ax x) (tx : tpx ≤ w.heap.size) (mx : isMv pS S x = true) :
    Calls Tryz.prog 72 #[.agg #[.int .i64 pS, .slice aS S.length cS, .slice ax x.length cx], .int .i64 0] w (fun e w' => e = .returned (.bool (parB x 0)) ∧ Below w.heap.size w w') := hasParity_any pS aS S cS loS tpS ax x cx lox tpx 0 w hs hS tS hx tx mx (by omega)
theorem hasParity_1 (pS : Int) (aS : Option Addr) (S : List Int) (cS loS tpS : Nat) (ax : Option Addr) (x : List Int) (cx lox tpx : Nat) (w : World) (hs : isSp pS S = true) (hS : RowIn loS tpS w aS S) (tS : tpS ≤ w.heap.size) (hx : RowIn lox tpx w ax x) (tx : tpx ≤ w.heap.size) (mx : isMv pS S x = true) :
    Calls Tryz.prog 72 #[.agg #[.int .i64 pS, .slice aS S.length cS, .slice ax x.length cx], .int .i64 1] w (fun e w' => e = .returned (.bool (parB x 1)) ∧ Below w.heap.size w w') := hasParity_any pS aS S cS loS tpS ax x cx lox tpx 1 w hs hS tS hx tx mx (by omega)

theorem max_tail (b n N : Nat) (z : List Int) (ca lo tp : Nat) (w : World) (hz : RowIn lo tp w (some ⟨b, 1, none⟩) (z.drop 1)) (hn : n = (z.drop 1).length) (h0 : 0 < n) (hl : n ≤ 1048576) (hnn : ∀ j, j < z.length → 0 ≤ z.getD j 0) :
    Calls Tryz.prog 71 #[.slice (some ⟨b, 1, none⟩) n ca] w fun e w' => e = .returned (.int .i64 (mxF (z.drop 1) (n - 1))) ∧ w = w' := by
  subst hn
  exact max_any (some ⟨b, 1, none⟩) (z.drop 1) ca lo tp w hz h0 hl
theorem max_sc {z : List Int} {n : Nat} (hn : n = (z.drop 1).length) (h0 : 0 < n) (hnn : ∀ j, j < z.length → 0 ≤ z.getD j 0) : (mxF (z.drop 1) (n - 1) != 0) = !scB z := by
  subst hn
  have h := mx_zero h0 (z := z.drop 1) fun j hj => by
    rw [drop_at]; rw [List.length_drop] at hj; exact hnn _ (by omega)
  rw [scB_drop] at h
  show (!(_ == 0)) = _
  rw [h]
theorem row_tail {w : World} {b n lo tp : Nat} {f : Nat → Int} (h : RowOwn w b 0 n f) (h0 : lo ≤ b) (h1 : b < tp) : RowIn lo tp w (some ⟨b, 1, none⟩) ((mkR n f).drop 1) := by
  right
  refine ⟨b, 1, rfl, h0, h1, fun j hj => ?_⟩
  rw [List.length_drop, mkR_len] at hj
  rw [drop_at, mkR_at _ (by omega)]
  have := h.cell (j + 1) (by omega)
  rw [show 0 + (j + 1) = 1 + j by omega] at this
  exact this

set_option maxRecDepth 100000 in
set_option maxHeartbeats 6400000 in
theorem asVersor_any (pS : Int) (aS : Option Addr) (S : List Int) (cS loS tpS : Nat) (ax : Option Addr) (x : List Int) (cx lox tpx : Nat) (w : World) (hs : isSp pS S = true) (hS : RowIn loS tpS w aS S) (tS : tpS ≤ w.heap.size) (hx : RowIn lox tpx w ax x) (tx : tpx ≤ w.heap.size) (mx : isMv pS S x = true) :
    Calls Tryz.prog 52 #[.agg #[.int .i64 pS, .slice aS S.length cS, .slice ax x.length cx]] w (AsV pS aS S cS ax x cx w) := by
  have HI := Lib.hid hs
  have HS := Lib.hid hS
  have Hx := Lib.hid hx
  have HMx := Lib.hid mx
  have h6 := (isSp_iff.1 hs).hi
  have hpb := prm_bd (isSp_iff.1 hs).prime
  have hbl := bl_le h6
  have hb0 := bl_pos S
  have HB0 := Lib.hid (below_alloc w (.cells #[.int .i64 pS, .slice aS S.length cS, .slice ax x.length cx] 46))
  have k0 := BoxM.new w pS aS S.length cS ax x.length cx 46
  have hx64 : x.length ≤ 64 := by rw [Mv.len mx]; exact bl_le (isSp_iff.1 hs).hi
  have hl1 := (isSp_iff.1 hs).lo
  clear hs hS hx mx
  go_enter Tryz.func52, Tryz.ntmps52
  go_upto_region 1 with fail
  obtain ⟨w0, hw0'⟩ : ∃ z, z = w.alloc (.cells #[.int .i64 pS, .slice aS S.length cS, .slice ax x.length cx] 46) := ⟨_, rfl⟩
  rw [← hw0'] at HB0 k0 ⊢
  have hw0 : w.heap.size < w0.heap.size := by rw [hw0']; simp
  have hwz : w.heap.size + 1 = w0.heap.size := by rw [hw0']; simp
  try rw [hwz]
  clear hw0'
  obtain ⟨w1, hw1⟩ : ∃ z, z = w0.alloc (.cells #[.int .i64 0, .slice none 0 0, .slice none 0 0, .int .i64 0, .int .i64 0] 50) := ⟨_, rfl⟩
  obtain ⟨g, hg⟩ : ∃ b, b = w0.heap.size := ⟨_, rfl⟩
  have hs0 : BoxM w.heap.size pS aS S.length cS ax x.length cx w1 := by rw [hw1]; exact k0.below (below_alloc w0 _) hw0
  have z0 : V5 g (.int .i64 0) (.slice none 0 0) (.slice none 0 0) (.int .i64 0) (.int .i64 0) w1 := by rw [hw1, hg]; exact V5.new _ _ _ _ _ _ _
  have HB1 : Hid (Below w.heap.size w w1) := by show Below _ _ _; rw [hw1]; exact HB0.out.alloc HB0.out.size _
  have hg1 : g < w1.heap.size := by rw [hw1, hg]; simp
  have hwg : w.heap.size < g := by omega
  have hngw : w.heap.size ≠ g := by omega
  rw [← hw1]
  rw [← hg]
  clear hw1 hwz hg
  have hd1 : w.heap.size < w1.heap.size := Nat.lt_trans hwg hg1
  have SS1 := Lib.hid hs0
  have ZZ1 := Lib.hid z0
  obtain ⟨q0, q1, q2⟩ := hs0
  clear z0 k0
  have hN2 : 2 ≤ bl S := Nat.le_trans (show 2 ^ 1 ≤ 2 ^ S.length from Nat.pow_le_pow_right (by decide) hl1) (Nat.le_refl _)
  go_upto_region 2 with (go_at_call 70; ((with_reducible refine (timesReverse_new pS aS S cS loS tpS ax x cx lox tpx w1 HI.out (HS.out.below HB1.out tS) (Nat.le_trans tS HB1.out.size) (Hx.out.below HB1.out tx) (Nat.le_trans tx HB1.out.size) HMx.out).mono ?_); rintro e w2 ⟨bt, rfl, l_, u_, o_, b_⟩; have SS2 := Lib.hid (SS1.out.below b_ hd1); have ZZ2 := Lib.hid (ZZ1.out.below b_ hg1); have HB2 := Lib.hid (below_step HB1.out HB1.out.size b_); have hg2 := Nat.lt_of_lt_of_le hg1 b_.size; have hd2 := Nat.lt_of_lt_of_le hd1 b_.size; have RR := Lib.hid o_; have ct0 := o_.cell 0 hb0; rw [Nat.zero_add] at ct0; have lt := Nat.le_trans (Nat.le_of_lt hd1) l_; have hbg : bt ≠ g := Nat.ne_of_gt (Nat.lt_of_lt_of_le hg1 l_); clear b_ o_ l_ q0 q1 q2))
  obtain ⟨q0, q1, q2⟩ := SS2.out
  obtain ⟨⟨z0, z1, z2, z3, z4⟩, y0, y1, y2, y3, y4⟩ := ZZ2.out
  have hF0 : prodF pS S x (revM pS x) 0 = nrF pS S x := rfl
  rw [hF0] at ct0
  obtain ⟨F, hFe⟩ : ∃ f, f = nrF pS S x := ⟨_, rfl⟩
  rw [← hFe] at ct0
  have HFE := Lib.hid hFe
  have hi0 : (0 : Int) < ((bl S : Nat) : Int) := by omega
  have hi1 : (1 : Int) ≤ ((bl S : Nat) : Int) := by omega
  have HT : Hid (RowIn w.heap.size w2.heap.size w2 (some ⟨bt, 1, none⟩) ((nrM pS S x).drop 1)) := by show RowIn _ _ _ _ _; unfold nrM prodM; exact row_tail RR.out lt u_
  have HTL : Hid (bl S - 1 = ((nrM pS S x).drop 1).length) := by show _ = _; rw [List.length_drop, show (nrM pS S x).length = bl S from prodM_len _ _ _ _]
  have HNN : Hid (∀ j, j < (nrM pS S x).length → 0 ≤ (nrM pS S x).getD j 0) := fun j hj => (Mv.num (nrM_mv HI.out x) j hj).1
  have HMS : Hid ((mxF ((nrM pS S x).drop 1) (bl S - 1 - 1) != 0) = !scB (nrM pS S x)) := max_sc HTL.out (by omega) HNN.out
  obtain ⟨M, hM⟩ : ∃ m, m = mxF ((nrM pS S x).drop 1) (bl S - 1 - 1) := ⟨_, rfl⟩
  rw [← hM] at HMS
  have HME := Lib.hid hM
  clear hF0 hFe hM
  rcases isVr_cases pS S x with ⟨h0, hv⟩ | ⟨h0, h1, hv⟩ | ⟨h0, h1, h2, hv⟩ | ⟨h0, h1, h2, hv⟩
  · have e0 : (F == 0) = true := by rw [HFE.out]; simpa using h0
    have HV := Lib.hid hv
    clear h0 hv
    go_wp2
    refine bodyPost_ret (v := .tuple #[.agg #[.int .i64 0, .slice none 0 0, .slice none 0 0, .int .i64 0, .int .i64 0], .bool false]) (by simp [results, Tryz.results52, go_sem, z0, z1, z2, z3, z4]) rfl (.inr ⟨HV.out, rfl, below_vput5 HB2.out (Nat.le_of_lt hwg)⟩)
  · have e0 : (F == 0) = false := by rw [HFE.out]; simpa using h0
    have e1 : (M != 0) = true := by rw [HMS.out, h1]; rfl
    have HV := Lib.hid hv
    clear h0 h1 hv
    go_wp2_with (go_at_call 71; ((with_reducible refine (max_tail bt (bl S - 1) (bl S) (nrM pS S x) _ w.heap.size w2.heap.size w2 HT.out HTL.out (by omega) (by omega) HNN.out).mono ?_); rintro e w' ⟨rfl, rfl⟩; rw [← HME.out]))
    refine bodyPost_ret (v := .tuple #[.agg #[.int .i64 0, .slice none 0 0, .slice none 0 0, .int .i64 0, .int .i64 0], .bool false]) (by simp [results, Tryz.results52, go_sem, z0, z1, z2, z3, z4]) rfl (.inr ⟨HV.out, rfl, below_vput5 HB2.out (Nat.le_of_lt hwg)⟩)
  · have e0 : (F == 0) = false := by rw [HFE.out]; simpa using h0
    have e1 : (M != 0) = false := by rw [HMS.out, h1]; rfl
    have HV := Lib.hid hv
    rw [Bool.or_eq_false_iff] at h2
    have HP0 := Lib.hid h2.1
    have HP1 := Lib.hid h2.2
    clear h0 h1 h2 hv
    go_wp2_with (first | (go_at_call 71; ((with_reducible refine (max_tail bt (bl S - 1) (bl S) (nrM pS S x) _ w.heap.size w2.heap.size w2 HT.out HTL.out (by omega) (by omega) HNN.out).mono ?_); rintro e w' ⟨rfl, rfl⟩; rw [← HME.out])) | (go_at_call 72; ((with_reducible refine (hasParity_0 pS aS S cS loS tpS ax x cx lox tpx w2 HI.out (HS.out.below HB2.out tS) (Nat.le_trans tS (HB2.out).size) (Hx.out.below HB2.out tx) (Nat.le_trans tx (HB2.out).size) HMx.out).mono ?_); rintro e w3 ⟨rfl, b_⟩; rw [HP0.out]; have hgw_ := Nat.lt_of_lt_of_le hg2 b_.size; have hdw_ := Nat.lt_of_lt_of_le hd2 b_.size; have HB3 := Lib.hid (below_step HB2.out (Nat.le_of_lt hd2) b_); have SS3 := Lib.hid (SS2.out.below b_ hd2); have ZZ3 := Lib.hid (ZZ2.out.below b_ hg2); have hg3 := hgw_; have hd3 := hdw_; clear hgw_ hdw_ b_; clear q0 q1 q2 z0 z1 z2 z3 z4 y0 y1 y2 y3 y4; obtain ⟨q0, q1, q2⟩ := SS3.out; obtain ⟨⟨z0, z1, z2, z3, z4⟩, y0, y1, y2, y3, y4⟩ := ZZ3.out)) | (go_at_call 72; ((with_reducible refine (hasParity_1 pS aS S cS loS tpS ax x cx lox tpx w3 HI.out (HS.out.below HB3.out tS) (Nat.le_trans tS (HB3.out).size) (Hx.out.below HB3.out tx) (Nat.le_trans tx (HB3.out).size) HMx.out).mono ?_); rintro e w4 ⟨rfl, b_⟩; rw [HP1.out]; have hgw_ := Nat.lt_of_lt_of_le hg3 b_.size; have hdw_ := Nat.lt_of_lt_of_le hd3 b_.size; have HB4 := Lib.hid (below_step HB3.out (Nat.le_of_lt hd3) b_); have SS4 := Lib.hid (SS3.out.below b_ hd3); have ZZ4 := Lib.hid (ZZ3.out.below b_ hg3); have hg4 := hgw_; have hd4 := hdw_; clear hgw_ hdw_ b_; clear q0 q1 q2 z0 z1 z2 z3 z4 y0 y1 y2 y3 y4; obtain ⟨q0, q1, q2⟩ := SS4.out; obtain ⟨⟨z0, z1, z2, z3, z4⟩, y0, y1, y2, y3, y4⟩ := ZZ4.out)))
    refine bodyPost_ret (v := .tuple #[.agg #[.int .i64 0, .slice none 0 0, .slice none 0 0, .int .i64 0, .int .i64 0], .bool false]) (by simp [results, Tryz.results52, go_sem, z0, z1, z2, z3, z4]) rfl (.inr ⟨HV.out, rfl, below_vput5 HB4.out (Nat.le_of_lt hwg)⟩)
  · have e0 : (F == 0) = false := by rw [HFE.out]; simpa using h0
    have e1 : (M != 0) = false := by rw [HMS.out, h1]; rfl
    clear h0 h1
    cases hp0 : parB x 0 with
    | true =>
      have HP0 := Lib.hid hp0
      clear h2 hp0
      cases hld : (List.range S.length).all (ldB pS S x) with
      | true =>
        have HLD : Hid ((List.range S.length).all (ldB pS S x) = true) := by show _ = _; exact hld
        have HV : Hid (isVr pS S x = true) := by show _ = _; rw [hv]; exact hld
        clear hld hv
        have ct2 := ct0
        go_wp2_with (first | (go_at_call 71; ((with_reducible refine (max_tail bt (bl S - 1) (bl S) (nrM pS S x) _ w.heap.size w2.heap.size w2 HT.out HTL.out (by omega) (by omega) HNN.out).mono ?_); rintro e w' ⟨rfl, rfl⟩; rw [← HME.out])) | (go_at_call 72; ((with_reducible refine (hasParity_0 pS aS S cS loS tpS ax x cx lox tpx w2 HI.out (HS.out.below HB2.out tS) (Nat.le_trans tS (HB2.out).size) (Hx.out.below HB2.out tx) (Nat.le_trans tx (HB2.out).size) HMx.out).mono ?_); rintro e w3 ⟨rfl, b_⟩; rw [HP0.out]; have hgw_ := Nat.lt_of_lt_of_le hg2 b_.size; have hdw_ := Nat.lt_of_lt_of_le hd2 b_.size; have HB3 := Lib.hid (below_step HB2.out (Nat.le_of_lt hd2) b_); have SS3 := Lib.hid (SS2.out.below b_ hd2); have ZZ3 := Lib.hid (ZZ2.out.below b_ hg2); have hg3 := hgw_; have hd3 := hdw_; have ct3 := (b_.cell (p := ⟨bt, 0, none⟩) u_).trans ct0; have le3 := b_.size; clear hgw_ hdw_ b_; clear q0 q1 q2 z0 z1 z2 z3 z4 y0 y1 y2 y3 y4; obtain ⟨q0, q1, q2⟩ := SS3.out; obtain ⟨⟨z0, z1, z2, z3, z4⟩, y0, y1, y2, y3, y4⟩ := ZZ3.out)) | (go_at_call 73; ((with_reducible refine (leadsToVectors_any pS aS S cS loS tpS ax x cx lox tpx w3 HI.out (HS.out.below HB3.out tS) (Nat.le_trans tS (HB3.out).size) (Hx.out.below HB3.out tx) (Nat.le_trans tx (HB3.out).size) HMx.out).mono ?_); rintro e w4 ⟨rfl, b_⟩; rw [HLD.out]; have hgw_ := Nat.lt_of_lt_of_le hg3 b_.size; have hdw_ := Nat.lt_of_lt_of_le hd3 b_.size; have HB4 := Lib.hid (below_step HB3.out (Nat.le_of_lt hd3) b_); have SS4 := Lib.hid (SS3.out.below b_ hd3); have ZZ4 := Lib.hid (ZZ3.out.below b_ hg3); have HCT := Lib.hid ((b_.cell (p := ⟨bt, 0, none⟩) (Nat.lt_of_lt_of_le u_ le3)).trans ct3); have hg4 := hgw_; have hd4 := hdw_; clear hgw_ hdw_ b_; clear q0 q1 q2 z0 z1 z2 z3 z4 y0 y1 y2 y3 y4; obtain ⟨q0, q1, q2⟩ := SS4.out; obtain ⟨⟨z0, z1, z2, z3, z4⟩, y0, y1, y2, y3, y4⟩ := ZZ4.out)))
        have ctl_ := HCT.out
        clear z0 z1 z2 z3 z4 y0 y1 y2 y3 y4
        go_still_tail 9, (by kernel_rfl)
        change wpList _ _ _ _ _ w4.drew
        obtain ⟨wd, hwd⟩ : ∃ y, y = w4.drew := ⟨_, rfl⟩
        have HBd : Hid (Below w.heap.size w wd) := by show Below _ _ _; rw [hwd]; exact HB4.out.drew
        obtain ⟨⟨z0, z1, z2, z3, z4⟩, y0, y1, y2, y3, y4⟩ := (show V5 g (.int .i64 0) (.slice none 0 0) (.slice none 0 0) (.int .i64 0) (.int .i64 0) wd by rw [hwd]; exact ZZ4.out)
        rw [← hwd]
        clear hwd
        go_wp2
        refine bodyPost_ret (v := .tuple #[.agg #[.int .i64 pS, .slice aS S.length cS, .slice ax x.length cx, .int .i64 pS, .int .i64 F], .bool true]) (by simp [results, Tryz.results52, go_sem, z0, z1, z2, z3, z4]) rfl (.inl ⟨HV.out, by rw [← HFE.out], below_vput5 HBd.out (Nat.le_of_lt hwg)⟩)
      | false =>
        have HLD : Hid ((List.range S.length).all (ldB pS S x) = false) := by show _ = _; exact hld
        have HV : Hid (isVr pS S x = false) := by show _ = _; rw [hv]; exact hld
        clear hld hv
        have ct2 := ct0
        go_wp2_with (first | (go_at_call 71; ((with_reducible refine (max_tail bt (bl S - 1) (bl S) (nrM pS S x) _ w.heap.size w2.heap.size w2 HT.out HTL.out (by omega) (by omega) HNN.out).mono ?_); rintro e w' ⟨rfl, rfl⟩; rw [← HME.out])) | (go_at_call 72; ((with_reducible refine (hasParity_0 pS aS S cS loS tpS ax x cx lox tpx w2 HI.out (HS.out.below HB2.out tS) (Nat.le_trans tS (HB2.out).size) (Hx.out.below HB2.out tx) (Nat.le_trans tx (HB2.out).size) HMx.out).mono ?_); rintro e w3 ⟨rfl, b_⟩; rw [HP0.out]; have hgw_ := Nat.lt_of_lt_of_le hg2 b_.size; have hdw_ := Nat.lt_of_lt_of_le hd2 b_.size; have HB3 := Lib.hid (below_step HB2.out (Nat.le_of_lt hd2) b_); have SS3 := Lib.hid (SS2.out.below b_ hd2); have ZZ3 := Lib.hid (ZZ2.out.below b_ hg2); have hg3 := hgw_; have hd3 := hdw_; have ct3 := (b_.cell (p := ⟨bt, 0, none⟩) u_).trans ct0; have le3 := b_.size; clear hgw_ hdw_ b_; clear q0 q1 q2 z0 z1 z2 z3 z4 y0 y1 y2 y3 y4; obtain ⟨q0, q1, q2⟩ := SS3.out; obtain ⟨⟨z0, z1, z2, z3, z4⟩, y0, y1, y2, y3, y4⟩ := ZZ3.out)) | (go_at_call 73; ((with_reducible refine (leadsToVectors_any pS aS S cS loS tpS ax x cx lox tpx w3 HI.out (HS.out.below HB3.out tS) (Nat.le_trans tS (HB3.out).size) (Hx.out.below HB3.out tx) (Nat.le_trans tx (HB3.out).size) HMx.out).mono ?_); rintro e w4 ⟨rfl, b_⟩; rw [HLD.out]; have hgw_ := Nat.lt_of_lt_of_le hg3 b_.size; have hdw_ := Nat.lt_of_lt_of_le hd3 b_.size; have HB4 := Lib.hid (below_step HB3.out (Nat.le_of_lt hd3) b_); have SS4 := Lib.hid (SS3.out.below b_ hd3); have ZZ4 := Lib.hid (ZZ3.out.below b_ hg3); have HCT := Lib.hid ((b_.cell (p := ⟨bt, 0, none⟩) (Nat.lt_of_lt_of_le u_ le3)).trans ct3); have hg4 := hgw_; have hd4 := hdw_; clear hgw_ hdw_ b_; clear q0 q1 q2 z0 z1 z2 z3 z4 y0 y1 y2 y3 y4; obtain ⟨q0, q1, q2⟩ := SS4.out; obtain ⟨⟨z0, z1, z2, z3, z4⟩, y0, y1, y2, y3, y4⟩ := ZZ4.out)))
        refine bodyPost_ret (v := .tuple #[.agg #[.int .i64 0, .slice none 0 0, .slice none 0 0, .int .i64 0, .int .i64 0], .bool false]) (by simp [results, Tryz.results52, go_sem, z0, z1, z2, z3, z4]) rfl (.inr ⟨HV.out, rfl, below_vput5 HB4.out (Nat.le_of_lt hwg)⟩)
    | false =>
      have HP0 := Lib.hid hp0
      rw [hp0, Bool.false_or] at h2
      have HP1 := Lib.hid h2
      clear h2 hp0
      cases hld : (List.range S.length).all (ldB pS S x) with
      | true =>
        have HLD : Hid ((List.range S.length).all (ldB pS S x) = true) := by show _ = _; exact hld
        have HV : Hid (isVr pS S x = true) := by show _ = _; rw [hv]; exact hld
        clear hld hv
        go_wp2_with (first | (go_at_call 71; ((with_reducible refine (max_tail bt (bl S - 1) (bl S) (nrM pS S x) _ w.heap.size w2.heap.size w2 HT.out HTL.out (by omega) (by omega) HNN.out).mono ?_); rintro e w' ⟨rfl, rfl⟩; rw [← HME.out])) | (go_at_call 72; ((with_reducible refine (hasParity_0 pS aS S cS loS tpS ax x cx lox tpx w2 HI.out (HS.out.below HB2.out tS) (Nat.le_trans tS (HB2.out).size) (Hx.out.below HB2.out tx) (Nat.le_trans tx (HB2.out).size) HMx.out).mono ?_); rintro e w3 ⟨rfl, b_⟩; rw [HP0.out]; have hgw_ := Nat.lt_of_lt_of_le hg2 b_.size; have hdw_ := Nat.lt_of_lt_of_le hd2 b_.size; have HB3 := Lib.hid (below_step HB2.out (Nat.le_of_lt hd2) b_); have SS3 := Lib.hid (SS2.out.below b_ hd2); have ZZ3 := Lib.hid (ZZ2.out.below b_ hg2); have hg3 := hgw_; have hd3 := hdw_; have ct3 := (b_.cell (p := ⟨bt, 0, none⟩) u_).trans ct0; have le3 := b_.size; clear hgw_ hdw_ b_; clear q0 q1 q2 z0 z1 z2 z3 z4 y0 y1 y2 y3 y4; obtain ⟨q0, q1, q2⟩ := SS3.out; obtain ⟨⟨z0, z1, z2, z3, z4⟩, y0, y1, y2, y3, y4⟩ := ZZ3.out)) | (go_at_call 72; ((with_reducible refine (hasParity_1 pS aS S cS loS tpS ax x cx lox tpx w3 HI.out (HS.out.below HB3.out tS) (Nat.le_trans tS (HB3.out).size) (Hx.out.below HB3.out tx) (Nat.le_trans tx (HB3.out).size) HMx.out).mono ?_); rintro e w4 ⟨rfl, b_⟩; rw [HP1.out]; have hgw_ := Nat.lt_of_lt_of_le hg3 b_.size; have hdw_ := Nat.lt_of_lt_of_le hd3 b_.size; have HB4 := Lib.hid (below_step HB3.out (Nat.le_of_lt hd3) b_); have SS4 := Lib.hid (SS3.out.below b_ hd3); have ZZ4 := Lib.hid (ZZ3.out.below b_ hg3); have hg4 := hgw_; have hd4 := hdw_; have ct4 := (b_.cell (p := ⟨bt, 0, none⟩) (Nat.lt_of_lt_of_le u_ le3)).trans ct3; have le4 := Nat.le_trans le3 b_.size; clear hgw_ hdw_ b_; clear q0 q1 q2 z0 z1 z2 z3 z4 y0 y1 y2 y3 y4; obtain ⟨q0, q1, q2⟩ := SS4.out; obtain ⟨⟨z0, z1, z2, z3, z4⟩, y0, y1, y2, y3, y4⟩ := ZZ4.out)) | (go_at_call 73; ((with_reducible refine (leadsToVectors_any pS aS S cS loS tpS ax x cx lox tpx w4 HI.out (HS.out.below HB4.out tS) (Nat.le_trans tS (HB4.out).size) (Hx.out.below HB4.out tx) (Nat.le_trans tx (HB4.out).size) HMx.out).mono ?_); rintro e w5 ⟨rfl, b_⟩; rw [HLD.out]; have hgw_ := Nat.lt_of_lt_of_le hg4 b_.size; have hdw_ := Nat.lt_of_lt_of_le hd4 b_.size; have HB5 := Lib.hid (below_step HB4.out (Nat.le_of_lt hd4) b_); have SS5 := Lib.hid (SS4.out.below b_ hd4); have ZZ5 := Lib.hid (ZZ4.out.below b_ hg4); have HCT := Lib.hid ((b_.cell (p := ⟨bt, 0, none⟩) (Nat.lt_of_lt_of_le u_ le4)).trans ct4); have hg5 := hgw_; have hd5 := hdw_; clear hgw_ hdw_ b_; clear q0 q1 q2 z0 z1 z2 z3 z4 y0 y1 y2 y3 y4; obtain ⟨q0, q1, q2⟩ := SS5.out; obtain ⟨⟨z0, z1, z2, z3, z4⟩, y0, y1, y2, y3, y4⟩ := ZZ5.out)))
        have ctl_ := HCT.out
        clear z0 z1 z2 z3 z4 y0 y1 y2 y3 y4
        go_still_tail 9, (by kernel_rfl)
        change wpList _ _ _ _ _ w5.drew
        obtain ⟨wd, hwd⟩ : ∃ y, y = w5.drew := ⟨_, rfl⟩
        have HBd : Hid (Below w.heap.size w wd) := by show Below _ _ _; rw [hwd]; exact HB5.out.drew
        obtain ⟨⟨z0, z1, z2, z3, z4⟩, y0, y1, y2, y3, y4⟩ := (show V5 g (.int .i64 0) (.slice none 0 0) (.slice none 0 0) (.int .i64 0) (.int .i64 0) wd by rw [hwd]; exact ZZ5.out)
        rw [← hwd]
        clear hwd
        go_wp2
        refine bodyPost_ret (v := .tuple #[.agg #[.int .i64 pS, .slice aS S.length cS, .slice ax x.length cx, .int .i64 pS, .int .i64 F], .bool true]) (by simp [results, Tryz.results52, go_sem, z0, z1, z2, z3, z4]) rfl (.inl ⟨HV.out, by rw [← HFE.out], below_vput5 HBd.out (Nat.le_of_lt hwg)⟩)
      | false =>
        have HLD : Hid ((List.range S.length).all (ldB pS S x) = false) := by show _ = _; exact hld
        have HV : Hid (isVr pS S x = false) := by show _ = _; rw [hv]; exact hld
        clear hld hv
        go_wp2_with (first | (go_at_call 71; ((with_reducible refine (max_tail bt (bl S - 1) (bl S) (nrM pS S x) _ w.heap.size w2.heap.size w2 HT.out HTL.out (by omega) (by omega) HNN.out).mono ?_); rintro e w' ⟨rfl, rfl⟩; rw [← HME.out])) | (go_at_call 72; ((with_reducible refine (hasParity_0 pS aS S cS loS tpS ax x cx lox tpx w2 HI.out (HS.out.below HB2.out tS) (Nat.le_trans tS (HB2.out).size) (Hx.out.below HB2.out tx) (Nat.le_trans tx (HB2.out).size) HMx.out).mono ?_); rintro e w3 ⟨rfl, b_⟩; rw [HP0.out]; have hgw_ := Nat.lt_of_lt_of_le hg2 b_.size; have hdw_ := Nat.lt_of_lt_of_le hd2 b_.size; have HB3 := Lib.hid (below_step HB2.out (Nat.le_of_lt hd2) b_); have SS3 := Lib.hid (SS2.out.below b_ hd2); have ZZ3 := Lib.hid (ZZ2.out.below b_ hg2); have hg3 := hgw_; have hd3 := hdw_; have ct3 := (b_.cell (p := ⟨bt, 0, none⟩) u_).trans ct0; have le3 := b_.size; clear hgw_ hdw_ b_; clear q0 q1 q2 z0 z1 z2 z3 z4 y0 y1 y2 y3 y4; obtain ⟨q0, q1, q2⟩ := SS3.out; obtain ⟨⟨z0, z1, z2, z3, z4⟩, y0, y1, y2, y3, y4⟩ := ZZ3.out)) | (go_at_call 72; ((with_reducible refine (hasParity_1 pS aS S cS loS tpS ax x cx lox tpx w3 HI.out (HS.out.below HB3.out tS) (Nat.le_trans tS (HB3.out).size) (Hx.out.below HB3.out tx) (Nat.le_trans tx (HB3.out).size) HMx.out).mono ?_); rintro e w4 ⟨rfl, b_⟩; rw [HP1.out]; have hgw_ := Nat.lt_of_lt_of_le hg3 b_.size; have hdw_ := Nat.lt_of_lt_of_le hd3 b_.size; have HB4 := Lib.hid (below_step HB3.out (Nat.le_of_lt hd3) b_); have SS4 := Lib.hid (SS3.out.below b_ hd3); have ZZ4 := Lib.hid (ZZ3.out.below b_ hg3); have hg4 := hgw_; have hd4 := hdw_; have ct4 := (b_.cell (p := ⟨bt, 0, none⟩) (Nat.lt_of_lt_of_le u_ le3)).trans ct3; have le4 := Nat.le_trans le3 b_.size; clear hgw_ hdw_ b_; clear q0 q1 q2 z0 z1 z2 z3 z4 y0 y1 y2 y3 y4; obtain ⟨q0, q1, q2⟩ := SS4.out; obtain ⟨⟨z0, z1, z2, z3, z4⟩, y0, y1, y2, y3, y4⟩ := ZZ4.out)) | (go_at_call 73; ((with_reducible refine (leadsToVectors_any pS aS S cS loS tpS ax x cx lox tpx w4 HI.out (HS.out.below HB4.out tS) (Nat.le_trans tS (HB4.out).size) (Hx.out.below HB4.out tx) (Nat.le_trans tx (HB4.out).size) HMx.out).mono ?_); rintro e w5 ⟨rfl, b_⟩; rw [HLD.out]; have hgw_ := Nat.lt_of_lt_of_le hg4 b_.size; have hdw_ := Nat.lt_of_lt_of_le hd4 b_.size; have HB5 := Lib.hid (below_step HB4.out (Nat.le_of_lt hd4) b_); have SS5 := Lib.hid (SS4.out.below b_ hd4); have ZZ5 := Lib.hid (ZZ4.out.below b_ hg4); have HCT := Lib.hid ((b_.cell (p := ⟨bt, 0, none⟩) (Nat.lt_of_lt_of_le u_ le4)).trans ct4); have hg5 := hgw_; have hd5 := hdw_; clear hgw_ hdw_ b_; clear q0 q1 q2 z0 z1 z2 z3 z4 y0 y1 y2 y3 y4; obtain ⟨q0, q1, q2⟩ := SS5.out; obtain ⟨⟨z0, z1, z2, z3, z4⟩, y0, y1, y2, y3, y4⟩ := ZZ5.out)))
        refine bodyPost_ret (v := .tuple #[.agg #[.int .i64 0, .slice none 0 0, .slice none 0 0, .int .i64 0, .int .i64 0], .bool false]) (by simp [results, Tryz.results52, go_sem, z0, z1, z2, z3, z4]) rfl (.inr ⟨HV.out, rfl, below_vput5 HB5.out (Nat.le_of_lt hwg)⟩)

end Go.Proofs.YthbkfpkeofpocaaGreat

namespace Go.Proofs.YthbkfpkeofpocaaGreat
set_option linter.unusedVariables false

/-- All n rows with c numbers vanish at x. -/
def nul (p : Int) (n c : Nat) (R : Nat → Nat → Int) (x : Nat → Int) : Prop := ∀ i, i < n → sm c (fun j => R i j * x j) % p = 0

/-- Reduced rows, with their pivots. -/
structure Rref (p : Int) (n c : Nat) (R : Nat → Nat → Int) (P : Nat → Nat) : Prop where
  pv : ∀ i, i < n → P i < c
  mono : ∀ i i', i < i' → i' < n → P i < P i'
  one : ∀ i, i < n → R i (P i) = 1
  zer : ∀ i, i < n → ∀ i', i' < n → i ≠ i' → R i' (P i) = 0
  fst : ∀ i, i < n → ∀ j, j < P i → R i j = 0
  rng : ∀ i, i < n → ∀ j, j < c → 0 ≤ R i j ∧ R i j < p

/-- The vector that belongs to column k. -/
def kv (n : Nat) (R : Nat → Nat → Int) (P : Nat → Nat) (k j : Nat) : Int := (if j = k then 1 else 0) + sm n (fun i => if j = P i then - R i k else 0)

theorem sm_neg (n : Nat) (f : Nat → Int) : sm n (fun j => - f j) = - sm n f := by
  induction n with
  | zero => rfl
  | succ n ih => simp only [sm]; rw [ih]; omega
theorem ite_mul' (q : Prop) [Decidable q] (a x : Int) : a * (if q then x else 0) = if q then a * x else 0 := by split <;> simp

/-- A row of any rows times that vector. -/
theorem kv_row {p : Int} {n c : Nat} {R : Nat → Nat → Int} {P : Nat → Nat} (h : Rref p n c R P) (S : Nat → Int) {k : Nat} (hk : k < c) :
    sm c (fun j => S j * kv n R P k j) = S k - sm n (fun i => R i k * S (P i)) := by
  have e1 : sm c (fun j => S j * kv n R P k j) = sm c (fun j => (if j = k then S k else 0) + sm n (fun i => if j = P i then - (R i k * S (P i)) else 0)) := by
    apply sm_congr
    intro j hj
    unfold kv
    rw [Int.mul_add, ite_mul', Int.mul_one, ← sm_mul]
    congr 1
    · by_cases e : j = k
      · subst e; simp
      · simp [e]
    · apply sm_congr
      intro i hi
      rw [ite_mul']
      by_cases e : j = P i
      · subst e; simp only [if_pos]; rw [Int.mul_neg, Int.mul_comm]
      · simp [e]
  rw [e1, sm_add, sm_single, if_pos hk, sm_swap]
  have e2 : sm n (fun i => sm c (fun j => if j = P i then - (R i k * S (P i)) else 0)) = sm n (fun i => - (R i k * S (P i))) := by
    apply sm_congr
    intro i hi
    rw [sm_single, if_pos (h.pv i hi)]
  rw [e2, sm_neg]
  omega

theorem Rref.pick {p : Int} {n c : Nat} {R : Nat → Nat → Int} {P : Nat → Nat} (h : Rref p n c R P) {i : Nat} (hi : i < n) (f : Nat → Int) : sm n (fun i' => f i' * R i (P i')) = f i := by
  have e : sm n (fun i' => f i' * R i (P i')) = sm n (fun i' => if i' = i then f i else 0) := by
    apply sm_congr
    intro i' hi'
    by_cases e : i' = i
    · subst e; rw [h.one i' hi', if_pos rfl, Int.mul_one]
    · rw [h.zer i' hi' i hi e, if_neg e, Int.mul_zero]
  rw [e, sm_single, if_pos hi]

theorem kv_nul {p : Int} {n c : Nat} {R : Nat → Nat → Int} {P : Nat → Nat} (h : Rref p n c R P) {k : Nat} (hk : k < c) : nul p n c R (kv n R P k) := by
  intro i hi
  rw [kv_row h (R i) hk, h.pick hi (fun i' => R i' k)]
  simp

theorem kv_top {p : Int} {n c : Nat} {R : Nat → Nat → Int} {P : Nat → Nat} (h : Rref p n c R P) {k : Nat} (hnp : ∀ i, i < n → P i ≠ k) : kv n R P k k = 1 := by
  unfold kv
  have e : sm n (fun i => if k = P i then - R i k else 0) = sm n (fun _ => 0) := by
    apply sm_congr; intro i hi; rw [if_neg (fun e => hnp i hi e.symm)]
  rw [e, sm_zero]; simp
theorem kv_over {p : Int} {n c : Nat} {R : Nat → Nat → Int} {P : Nat → Nat} (h : Rref p n c R P) {k j : Nat} (hkj : k < j) : kv n R P k j = 0 := by
  unfold kv
  have e : sm n (fun i => if j = P i then - R i k else 0) = sm n (fun _ => 0) := by
    apply sm_congr; intro i hi
    by_cases e : j = P i
    · rw [if_pos e, h.fst i hi k (by omega)]; rfl
    · rw [if_neg e]
  rw [e, sm_zero, if_neg (by omega)]; rfl

/-- A column is a pivot exactly if nothing that vanishes ends there with 1. -/
theorem Rref.pivot {p : Int} {n c : Nat} {R : Nat → Nat → Int} {P : Nat → Nat} (h : Rref p n c R P) (hp : 1 < p) {k : Nat} (hk : k < c) :
    (∃ i, i < n ∧ P i = k) ↔ ¬ ∃ x : Nat → Int, nul p n c R x ∧ x k = 1 ∧ ∀ j, k < j → x j = 0 := by
  constructor
  · rintro ⟨i, hi, rfl⟩ ⟨x, hx, h1, h2⟩
    have e : sm c (fun j => R i j * x j) = sm c (fun j => if j = P i then 1 else 0) := by
      apply sm_congr
      intro j hj
      rcases Nat.lt_trichotomy j (P i) with l | l | l
      · rw [h.fst i hi j l, if_neg (by omega)]; simp
      · subst l; rw [h.one i hi, h1, if_pos rfl]; rfl
      · rw [h2 j l, if_neg (by omega)]; simp
    have := hx i hi
    rw [e, sm_single, if_pos hk, Int.emod_eq_of_lt (by omega) hp] at this
    omega
  · intro hno
    rcases Classical.em (∃ i, i < n ∧ P i = k) with h1 | h1
    · exact h1
    · exact absurd ⟨kv n R P k, kv_nul h hk, kv_top h (fun i hi e => h1 ⟨i, hi, e⟩), fun j hj => kv_over h hj⟩ hno

theorem enum_eq {n n' : Nat} {P P' : Nat → Nat} (m : ∀ i i', i < i' → i' < n → P i < P i') (m' : ∀ i i', i < i' → i' < n' → P' i < P' i')
    (h : ∀ i, i < n → ∃ k, k < n' ∧ P' k = P i) (h' : ∀ i, i < n' → ∃ k, k < n ∧ P k = P' i) : ∀ i, i < n → i < n' ∧ P i = P' i := by
  intro i
  induction i using Nat.strongRecOn with
  | ind i ih =>
    intro hi
    obtain ⟨k, hk, e⟩ := h i hi
    rcases Nat.lt_trichotomy k i with l | l | l
    · have := ih k l (by omega)
      have := m k i l hi
      omega
    · subst l; exact ⟨hk, e.symm⟩
    · obtain ⟨q, hq, e2⟩ := h' i (by omega)
      have l1 := m' i k l hk
      have l2 : q < i := by
        rcases Nat.lt_trichotomy q i with r | r | r
        · exact r
        · subst r; omega
        · have := m i q r hq; omega
      have l3 := ih q l2 (by omega)
      have l4 := m' q i l2 (by omega)
      omega

/-- Reduced rows are told by what vanishes on them. -/
theorem Rref.unique {p : Int} {n n' c : Nat} {R R' : Nat → Nat → Int} {P P' : Nat → Nat} (hp : 1 < p) (h : Rref p n c R P) (h' : Rref p n' c R' P') (hn : ∀ x, nul p n c R x ↔ nul p n' c R' x) :
    n = n' ∧ (∀ i, i < n → P i = P' i) ∧ ∀ i, i < n → ∀ j, j < c → R i j = R' i j := by
  have piv : ∀ k, k < c → ((∃ i, i < n ∧ P i = k) ↔ ∃ i, i < n' ∧ P' i = k) := by
    intro k hk
    rw [h.pivot hp hk, h'.pivot hp hk]
    constructor
    · intro g ⟨x, hx, r⟩; exact g ⟨x, (hn x).2 hx, r⟩
    · intro g ⟨x, hx, r⟩; exact g ⟨x, (hn x).1 hx, r⟩
  have a := enum_eq h.mono h'.mono (fun i hi => by obtain ⟨k, hk, e⟩ := (piv (P i) (h.pv i hi)).1 ⟨i, hi, rfl⟩; exact ⟨k, hk, e⟩) (fun i hi => by obtain ⟨k, hk, e⟩ := (piv (P' i) (h'.pv i hi)).2 ⟨i, hi, rfl⟩; exact ⟨k, hk, e⟩)
  have b := enum_eq h'.mono h.mono (fun i hi => by obtain ⟨k, hk, e⟩ := (piv (P' i) (h'.pv i hi)).2 ⟨i, hi, rfl⟩; exact ⟨k, hk, e⟩) (fun i hi => by obtain ⟨k, hk, e⟩ := (piv (P i) (h.pv i hi)).1 ⟨i, hi, rfl⟩; exact ⟨k, hk, e⟩)
  have hnn : n = n' := by
    rcases Nat.lt_trichotomy n n' with l | l | l
    · have := (b n l).1; omega
    · exact l
    · have := (a n' l).1; omega
  subst hnn
  refine ⟨rfl, fun i hi => (a i hi).2, fun i hi k hk => ?_⟩
  have hz := (hn _).1 (kv_nul h hk) i hi
  rw [kv_row h (R' i) hk] at hz
  have e : sm n (fun i' => R i' k * R' i (P i')) = sm n (fun i' => R i' k * R' i (P' i')) := by
    apply sm_congr; intro i' hi'; rw [(a i' hi').2]
  rw [e, h'.pick hi (fun i' => R i' k)] at hz
  have r1 := h.rng i hi k hk
  have r2 := h'.rng i hi k hk
  have := Int.emod_emod_of_dvd (R' i k) (Int.dvd_refl p)
  have h3 : R' i k % p = R i k % p := Int.emod_eq_emod_iff_emod_sub_eq_zero.2 hz
  rw [Int.emod_eq_of_lt r1.1 r1.2, Int.emod_eq_of_lt r2.1 r2.2] at h3
  exact h3.symm

end Go.Proofs.YthbkfpkeofpocaaGreat
