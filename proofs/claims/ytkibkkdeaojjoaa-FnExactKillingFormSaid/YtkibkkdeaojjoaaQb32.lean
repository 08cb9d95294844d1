/-
  The form of Killing: contracts of the program and of the model.
  Conditions: the lists are nil or rows of known cells, of at most 1048576 numbers.
-/
import Derived.Test.YtkibkkdeaojjoaaQb31
import Derived.Deep.RegionHeld3
import Derived.Deep.DeepCutAuto
namespace Go.Proofs.Ytkibkkdeaojjoaa
open Go.RowKit
set_option linter.unusedVariables false

theorem mk_lstB {p : Int} {n c : Nat} {f : Nat → Nat → Int} (hp : prm p = true) (n0 : 0 < n) (n1 : n ≤ 16) (c0 : 0 < c) (c1 : c ≤ 16) (h : ∀ i j, i < n → j < c → 0 ≤ f i j ∧ f i j < p) (k : Nat) (hk : k ≤ n) : Lst k p (mk n c f) where
  prime := hp
  lo := by rw [mk_len]; exact hk
  hi := by rw [mk_len]; exact n1
  len i hi := by rw [mk_len] at hi; rw [mk_rowLen _ hi, mk_rowLen _ n0]
  c0 i hi := by rw [mk_len] at hi; rw [mk_rowLen _ hi]; exact c0
  c1 i hi := by rw [mk_len] at hi; rw [mk_rowLen _ hi]; exact c1
  all i hi := by
    rw [mk_len] at hi
    rw [List.all_eq_true]
    intro y hy
    obtain ⟨j, hj, rfl⟩ := List.getElem_of_mem hy
    have hj2 := hj
    rw [mk_rowLen _ hi] at hj2
    have e : (rw' (mk n c f) i)[j] = f i j := by
      rw [← getD_at hj]; exact mk_at _ hi hj2
    rw [e]
    exact inr_iff.2 (h i j hi hj2)
theorem kf_len (p : Int) (S x y : List Int) : (kfM p S x y).length = S.length := by unfold kfM mulM; rw [mk_len, bm_len]
theorem kf_cols {p : Int} {S x y : List Int} (h1 : 1 ≤ S.length) : (rw' (bmM p S y) 0).length = S.length := bm_rl h1
theorem kf_rl {p : Int} {S x y : List Int} {i : Nat} (h : i < S.length) : (rw' (kfM p S x y) i).length = S.length := by
  unfold kfM mulM
  rw [mk_rowLen _ (by rw [bm_len]; exact h)]
  exact bm_rl (by omega)
theorem kf_lst {p : Int} {S : List Int} (hs : isSp p S = true) (x y : List Int) : Lst 1 p (kfM p S x y) := by
  have hp := (isSp_iff.1 hs).prime
  have hpb := prm_bd hp
  have h6 := (isSp_iff.1 hs).hi
  have h1 := (isSp_iff.1 hs).lo
  unfold kfM mulM
  rw [bm_len, kf_cols (x := x) h1]
  exact mk_lstB hp (by omega) (by omega) (by omega) (by omega) (fun i j _ _ => ⟨Int.emod_nonneg _ (by omega), Int.emod_lt_of_pos _ (by omega)⟩) 1 (by omega)
theorem kf_sq {p : Int} {S : List Int} (hs : isSp p S = true) (x y : List Int) : sqC p (kfM p S x y) = 0 := by
  unfold sqC
  rw [if_pos (show isM p (kfM p S x y) = true from isL_iff.2 (kf_lst hs x y)), if_pos]
  rw [kf_len, kf_rl (by have := (isSp_iff.1 hs).lo; omega)]
theorem kf_sizes {p : Int} {S : List Int} (hs : isSp p S = true) (x y : List Int) : (kfM p S x y).length + tot (kfM p S x y) (kfM p S x y).length ≤ 1048576 := by
  have h6 := (isSp_iff.1 hs).hi
  rw [tot_const (c := S.length) (fun i hi => by rw [kf_len] at hi; exact kf_rl hi) (Nat.le_refl _), kf_len]
  have : S.length * S.length ≤ 6 * 6 := Nat.mul_le_mul h6 h6
  omega
theorem timesM_k (p : Int) (S x y : List Int) (a b : Option Addr) (ca cb lo tp lo' tp' : Nat) (w : World) (hs : isSp p S = true) (hm : MatIn lo tp w a (bmM p S x)) (ht : tp ≤ w.heap.size) (hm' : MatIn lo' tp' w b (bmM p S y)) (ht' : tp' ≤ w.heap.size) :
    Calls Try.prog 66 #[.int .i64 p, .slice a S.length ca, .slice b S.length cb] w (OwnNew (kfM p S x y) w) := by
  have hp := (isSp_iff.1 hs).prime
  have hpb := prm_bd hp
  have h6 := (isSp_iff.1 hs).hi
  have h1 := (isSp_iff.1 hs).lo
  have h := timesMatrix_any p a b (bmM p S x) (bmM p S y) ca cb lo tp lo' tp' w hp hm hm' ht ht' (by rw [bm_len]; exact bm_rect (by omega) S x h6) (by rw [kf_cols (x := x) h1]; exact bm_rect (by omega) S y h6) (by rw [bm_len]; omega)
  rw [bm_len, bm_len] at h
  exact h
theorem times_k (p : Int) (S x y : List Int) (a b : Option Addr) (ca cb lo tp lo' tp' : Nat) (w : World) (hs : isSp p S = true) (hm : MatIn lo tp w a (bmM p S x)) (ht : tp ≤ w.heap.size) (hm' : MatIn lo' tp' w b (bmM p S y)) (ht' : tp' ≤ w.heap.size) :
    Calls Try.prog 64 #[.int .i64 p, .slice a S.length ca, .slice b S.length cb] w (NewM (kfM p S x y) w) := by
  have hp := (isSp_iff.1 hs).prime
  have hpb := prm_bd hp
  have h6 := (isSp_iff.1 hs).hi
  have h1 := (isSp_iff.1 hs).lo
  have h := l02Times_any p a b (bmM p S x) (bmM p S y) ca cb lo tp lo' tp' w hp hm hm' ht ht' (by rw [bm_len]; exact bm_rect (by omega) S x h6) (by rw [kf_cols (x := x) h1]; exact bm_rect (by omega) S y h6) (by rw [bm_len]; omega)
  rw [bm_len, bm_len] at h
  exact h
theorem trace_k (p : Int) (S x y : List Int) (am : Option Addr) (cm lom tpm : Nat) (w : World) (hs : isSp p S = true) (hm : MatIn lom tpm w am (kfM p S x y)) (tm : tpm ≤ w.heap.size) :
    Calls Try.prog 65 #[.int .i64 p, .slice am S.length cm] w (RetI (trcM p (kfM p S x y)) 0 w) := by
  have h := impl_TraceOf p am (kfM p S x y) cm lom tpm w hm tm (kf_sizes hs x y)
  rw [kf_len, show trcV p (kfM p S x y) = trcM p (kfM p S x y) from if_pos (kf_sq hs x y), kf_sq hs x y] at h
  exact h
theorem kf_bd {p : Int} {S : List Int} (hs : isSp p S = true) (x y : List Int) : ∀ i, i ≤ S.length → 0 ≤ sm i (fun i => at' (kfM p S x y) i i) ∧ sm i (fun i => at' (kfM p S x y) i i) ≤ i * 13 := fun i hi =>
  sm_bd fun j hj => by have := (kf_lst hs x y).at (i := j) (j := j) (by rw [kf_len]; omega) (by rw [kf_rl (by omega)]; omega); have := (prm_bd (isSp_iff.1 hs).prime).2; omega
/-- The cells that the form of Killing reads. -/
def KB (z g : Nat) (p : Int) (aS : Option Addr) (n cS : Nat) (ax : Option Addr) (lx cx : Nat) (ay : Option Addr) (ly cy : Nat) (W : World) : Prop :=
  W.cell? ⟨z, 0, none⟩ = some (.int .i64 p) ∧ W.cell? ⟨g, 0, none⟩ = some (.int .i64 p) ∧ W.cell? ⟨g, 1, none⟩ = some (.slice aS n cS) ∧ W.cell? ⟨g, 2, none⟩ = some (.slice ax lx cx) ∧ W.cell? ⟨g, 3, none⟩ = some (.int .i64 p) ∧ W.cell? ⟨g, 4, none⟩ = some (.slice aS n cS) ∧ W.cell? ⟨g, 5, none⟩ = some (.slice ay ly cy)
theorem KB.below {z g B : Nat} {p : Int} {aS ax ay : Option Addr} {n cS lx cx ly cy : Nat} {w w' : World} (h : KB z g p aS n cS ax lx cx ay ly cy w) (b : Below B w w') (lz : z < B) (lg : g < B) : KB z g p aS n cS ax lx cx ay ly cy w' :=
  ⟨(b.cell (p := ⟨z, 0, none⟩) lz).trans h.1, (b.cell (p := ⟨g, 0, none⟩) lg).trans h.2.1, (b.cell (p := ⟨g, 1, none⟩) lg).trans h.2.2.1, (b.cell (p := ⟨g, 2, none⟩) lg).trans h.2.2.2.1, (b.cell (p := ⟨g, 3, none⟩) lg).trans h.2.2.2.2.1, (b.cell (p := ⟨g, 4, none⟩) lg).trans h.2.2.2.2.2.1, (b.cell (p := ⟨g, 5, none⟩) lg).trans h.2.2.2.2.2.2⟩

set_option maxRecDepth 100000 in
set_option maxHeartbeats 12800000 in
theorem impl_KillingForm (pS : Int) (aS : Option Addr) (S : List Int) (cS loS tpS : Nat) (ax : Option Addr) (x : List Int) (cx lox tpx : Nat) (ay : Option Addr) (y : List Int) (cy loy tpy : Nat) (w : World) (hS : RowIn loS tpS w aS S) (tS : tpS ≤ w.heap.size) (sS : S.length ≤ 1048576) (hx : RowIn lox tpx w ax x) (tx : tpx ≤ w.heap.size) (sx : x.length ≤ 1048576) (hy : RowIn loy tpy w ay y) (ty : tpy ≤ w.heap.size) (sy : y.length ≤ 1048576) :
    Calls Try.prog 36 #[.agg #[.int .i64 pS, .slice aS S.length cS], .slice ax x.length cx, .slice ay y.length cy] w (RetI (kfV pS S x y) (bvC pS S [x, y]) w) := by
  have HS := Lib.hid hS
  have Hx := Lib.hid hx
  have Hy := Lib.hid hy
  have k0 := nw0 w (.int .i64 pS) (.slice aS S.length cS) 28
  have k1 := nw1 w (.int .i64 pS) (.slice aS S.length cS) 28
  have HB0 := Lib.hid (below_alloc w (.cells #[.int .i64 pS, .slice aS S.length cS] 28))
  clear hS hx hy
  by_cases h0 : bvC pS S [x, y] = 0
  · have HC := Lib.hid h0
    have hz := bvC_two h0
    have HI := Lib.hid hz.1
    have HMX := Lib.hid hz.2.1.1
    have HMY := Lib.hid hz.2.1.2
    have h6 := (isSp_iff.1 hz.1).hi
    have h1 := (isSp_iff.1 hz.1).lo
    have HV : Hid (kfV pS S x y = trcM pS (kfM pS S x y)) := if_pos h0
    clear h0 hz
    go_enter Try.func36, Try.ntmps36
    go_upto_region 1 with fail
    obtain ⟨w1, hw1⟩ : ∃ z, z = w.alloc (.cells #[.int .i64 pS, .slice aS S.length cS] 28) := ⟨_, rfl⟩
    rw [← hw1] at HB0 k0 k1 ⊢
    have hd1 : w.heap.size < w1.heap.size := by rw [hw1]; simp
    have HB1 := HB0
    clear hw1
    have SS1 := Lib.hid (And.intro k0 k1)
    go_upto_region 4 with (go_at_call 63; ((with_reducible refine (checkBivectors_2y pS aS S cS loS tpS ax x cx lox tpx ay y cy loy tpy _ _ w1 _ rfl (HS.out.below HB1.out tS) (Nat.le_trans tS HB1.out.size) sS (Hx.out.below HB1.out tx) (Nat.le_trans tx HB1.out.size) sx (Hy.out.below HB1.out ty) (Nat.le_trans ty HB1.out.size) sy HC.out).mono ?_); rintro e w2 ⟨g, rfl, ⟨⟨q0, q1, q2⟩, q3, q4, q5⟩, lg, ug, b_⟩; have SS2 := Lib.hid (ss2 b_ hd1 SS1.out); have HB2 := Lib.hid (below_step HB1.out HB1.out.size b_); have hd2 := Nat.lt_of_lt_of_le hd1 b_.size; clear k0 k1; obtain ⟨k0, k1⟩ := SS2.out; clear b_))
    have hs2 : Hid (KB w.heap.size g pS aS S.length cS ax x.length cx ay y.length cy w2.drew) := ⟨k0, q0, q1, q2, q3, q4, q5⟩
    have HBD : Hid (Below w.heap.size w w2.drew) := HB2.out.drew
    have hdd : w.heap.size < w2.drew.heap.size := hd2
    have ggd : g < w2.drew.heap.size := ug
    clear k0 k1 q0 q1 q2 q3 q4 q5
    go_region_held3 (fun w' => w'.cell? ⟨w.heap.size, 0, none⟩ = some (.int .i64 pS) ∧ w'.cell? ⟨g, 0, none⟩ = some (.int .i64 pS) ∧ w'.cell? ⟨g, 1, none⟩ = some (.slice aS S.length cS) ∧ w'.cell? ⟨g, 2, none⟩ = some (.slice ax x.length cx) ∧ w'.cell? ⟨g, 3, none⟩ = some (.int .i64 pS) ∧ w'.cell? ⟨g, 4, none⟩ = some (.slice aS S.length cS) ∧ w'.cell? ⟨g, 5, none⟩ = some (.slice ay y.length cy)) (first | exact hs2.out | exact SSa.out | exact SSb.out | exact SSc.out | exact SSd.out | exact SSe.out | exact SSf.out | go_keep) (first | (go_at_call 53; ((with_reducible refine (matrix_any pS aS S cS loS tpS ax x cx lox tpx w2.drew HI.out (HS.out.below HBD.out tS) (Nat.le_trans tS HBD.out.size) (Hx.out.below HBD.out tx) (Nat.le_trans tx HBD.out.size) HMX.out).mono ?_); rintro e wa ⟨rfl, b_⟩; have SSa : Hid (KB w.heap.size g pS aS S.length cS ax x.length cx ay y.length cy wa) := Lib.hid (KB.below hs2.out b_ hdd ggd); have HBa := Lib.hid (below_step HBD.out HBD.out.size b_); have za := b_.size; have hda := Nat.lt_of_lt_of_le hdd za; have gga := Nat.lt_of_lt_of_le ggd za; clear b_)) | (go_at_call 54; ((with_reducible refine (rows_bm pS S x wa h6 h1).mono ?_); rintro e wb ⟨rb, cb, rfl, o_, b_⟩; have SSb : Hid (KB w.heap.size g pS aS S.length cS ax x.length cx ay y.length cy wb) := Lib.hid (KB.below SSa.out b_ hda gga); have HBb := Lib.hid (below_step HBa.out HBa.out.size b_); have zb := b_.size; have hdb := Nat.lt_of_lt_of_le hda zb; have ggb := Nat.lt_of_lt_of_le gga zb; rw [bm_len]; have Mb := Lib.hid o_.mat; clear b_ o_)) | (go_at_call 53; ((with_reducible refine (matrix_any pS aS S cS loS tpS ay y cy loy tpy wb HI.out (HS.out.below HBb.out tS) (Nat.le_trans tS HBb.out.size) (Hy.out.below HBb.out ty) (Nat.le_trans ty HBb.out.size) HMY.out).mono ?_); rintro e wc ⟨rfl, b_⟩; have SSc : Hid (KB w.heap.size g pS aS S.length cS ax x.length cx ay y.length cy wc) := Lib.hid (KB.below SSb.out b_ hdb ggb); have HBc := Lib.hid (below_step HBb.out HBb.out.size b_); have zc := b_.size; have hdc := Nat.lt_of_lt_of_le hdb zc; have ggc := Nat.lt_of_lt_of_le ggb zc; have Mb2 := Lib.hid (Mb.out.below b_ (Nat.le_refl _)); clear b_)) | (go_at_call 54; ((with_reducible refine (rows_bm pS S y wc h6 h1).mono ?_); rintro e wd ⟨rd, cd, rfl, o_, b_⟩; have SSd : Hid (KB w.heap.size g pS aS S.length cS ax x.length cx ay y.length cy wd) := Lib.hid (KB.below SSc.out b_ hdc ggc); have HBd := Lib.hid (below_step HBc.out HBc.out.size b_); have zd := b_.size; have hdd := Nat.lt_of_lt_of_le hdc zd; have ggd := Nat.lt_of_lt_of_le ggc zd; rw [bm_len]; have Md := Lib.hid o_.mat; have Mb3 := Lib.hid (Mb2.out.below b_ zc); clear b_ o_)) | (go_at_call 66; ((with_reducible refine (timesM_k pS S x y rb rd cb cd wa.heap.size wb.heap.size wc.heap.size wd.heap.size wd HI.out Mb3.out (Nat.le_trans zc zd) Md.out (Nat.le_refl _)).mono ?_); rintro e we ⟨re, ce, rfl, o_, b_⟩; have SSe : Hid (KB w.heap.size g pS aS S.length cS ax x.length cx ay y.length cy we) := Lib.hid (KB.below SSd.out b_ hdd ggd); have HBe := Lib.hid (below_step HBd.out HBd.out.size b_); have ze := b_.size; have hde := Nat.lt_of_lt_of_le hdd ze; have gge := Nat.lt_of_lt_of_le ggd ze; rw [kf_len]; have Me := Lib.hid o_.mat; clear b_ o_)) | (go_at_call 65; ((with_reducible refine (trace_k pS S x y re ce wd.heap.size we.heap.size we HI.out Me.out (Nat.le_refl _)).mono ?_); rintro e wf ⟨rfl, b_⟩; have SSf : Hid (KB w.heap.size g pS aS S.length cS ax x.length cx ay y.length cy wf) := Lib.hid (KB.below SSe.out b_ hde gge); have HBf := Lib.hid (below_step HBe.out HBe.out.size b_); have zf := b_.size; have hdf := Nat.lt_of_lt_of_le hde zf; have ggf := Nat.lt_of_lt_of_le gge zf; clear b_)))
    all_goals
      go_wp2
      go_ret2
      exact ⟨by rw [HV.out, HC.out]; rfl, HBf.out⟩
  · have HC := Lib.hid h0
    have HV : Hid (kfV pS S x y = 0) := if_neg h0
    obtain ⟨C, hC⟩ : ∃ c, c = bvC pS S [x, y] := ⟨_, rfl⟩
    have hc1 : (C != 0) = true := by rw [hC]; simpa using h0
    have hc2 : (C == 0) = false := by rw [hC]; simpa using h0
    have HCE := Lib.hid hC
    clear hC
    clear h0
    go_enter Try.func36, Try.ntmps36
    go_upto_region 1 with fail
    obtain ⟨w1, hw1⟩ : ∃ z, z = w.alloc (.cells #[.int .i64 pS, .slice aS S.length cS] 28) := ⟨_, rfl⟩
    rw [← hw1] at HB0 k0 k1 ⊢
    have hd1 : w.heap.size < w1.heap.size := by rw [hw1]; simp
    have HB1 := HB0
    clear hw1
    have SS1 := Lib.hid (And.intro k0 k1)
    go_wp2_with (go_at_call 63; ((with_reducible refine (checkBivectors_2n pS aS S cS loS tpS ax x cx lox tpx ay y cy loy tpy _ _ w1 _ rfl (HS.out.below HB1.out tS) (Nat.le_trans tS HB1.out.size) sS (Hx.out.below HB1.out tx) (Nat.le_trans tx HB1.out.size) sx (Hy.out.below HB1.out ty) (Nat.le_trans ty HB1.out.size) sy HC.out).mono ?_); rintro e w2 ⟨rfl, b_⟩; rw [← HCE.out]; have SS2 := Lib.hid (ss2 b_ hd1 SS1.out); have HB2 := Lib.hid (below_step HB1.out HB1.out.size b_); have hd2 := Nat.lt_of_lt_of_le hd1 b_.size; clear k0 k1; obtain ⟨k0, k1⟩ := SS2.out; clear b_))
    go_ret2
    exact ⟨by rw [HV.out, ← HCE.out]; rfl, HB2.out⟩

set_option maxRecDepth 100000 in
set_option maxHeartbeats 12800000 in
theorem spec_KillingForm (pS : Int) (aS : Option Addr) (S : List Int) (cS loS tpS : Nat) (ax : Option Addr) (x : List Int) (cx lox tpx : Nat) (ay : Option Addr) (y : List Int) (cy loy tpy : Nat) (w : World) (hS : RowIn loS tpS w aS S) (tS : tpS ≤ w.heap.size) (sS : S.length ≤ 1048576) (hx : RowIn lox tpx w ax x) (tx : tpx ≤ w.heap.size) (sx : x.length ≤ 1048576) (hy : RowIn loy tpy w ay y) (ty : tpy ≤ w.heap.size) (sy : y.length ≤ 1048576) :
    Calls Try.prog 35 #[.agg #[.int .i64 pS, .slice aS S.length cS], .slice ax x.length cx, .slice ay y.length cy] w (RetI (kfV pS S x y) (bvC pS S [x, y]) w) := by
  have HS := Lib.hid hS
  have Hx := Lib.hid hx
  have Hy := Lib.hid hy
  have k0 := nw0 w (.int .i64 pS) (.slice aS S.length cS) 28
  have k1 := nw1 w (.int .i64 pS) (.slice aS S.length cS) 28
  have HB0 := Lib.hid (below_alloc w (.cells #[.int .i64 pS, .slice aS S.length cS] 28))
  clear hS hx hy
  by_cases h0 : bvC pS S [x, y] = 0
  · have HC := Lib.hid h0
    have hz := bvC_two h0
    have HI := Lib.hid hz.1
    have HMX := Lib.hid hz.2.1.1
    have HMY := Lib.hid hz.2.1.2
    have h6 := (isSp_iff.1 hz.1).hi
    have h1 := (isSp_iff.1 hz.1).lo
    have HV : Hid (kfV pS S x y = trcM pS (kfM pS S x y)) := if_pos h0
    clear h0 hz
    go_enter Try.func35, Try.ntmps35
    go_upto_region 1 with fail
    obtain ⟨w1, hw1⟩ : ∃ z, z = w.alloc (.cells #[.int .i64 pS, .slice aS S.length cS] 28) := ⟨_, rfl⟩
    rw [← hw1] at HB0 k0 k1 ⊢
    have hd1 : w.heap.size < w1.heap.size := by rw [hw1]; simp
    have HB1 := HB0
    clear hw1
    have SS1 := Lib.hid (And.intro k0 k1)
    go_upto_region 4 with (go_at_call 50; ((with_reducible refine (codeB2 pS aS S cS loS tpS ax x cx lox tpx ay y cy loy tpy _ _ w1 _ rfl (HS.out.below HB1.out tS) (Nat.le_trans tS HB1.out.size) sS (Hx.out.below HB1.out tx) (Nat.le_trans tx HB1.out.size) sx (Hy.out.below HB1.out ty) (Nat.le_trans ty HB1.out.size) sy).mono ?_); rintro e w2 ⟨rfl, b_⟩; rw [HC.out]; have b2_ := below_step (below_alloc w1 (.cells #[.slice ax x.length cx, .slice ay y.length cy] 22)) (size_alloc w1 (.cells #[.slice ax x.length cx, .slice ay y.length cy] 22)) b_; have SS2 := Lib.hid (ss2 b2_ hd1 SS1.out); have HB2 := Lib.hid (below_step HB1.out HB1.out.size b2_); have hd2 := Nat.lt_of_lt_of_le hd1 b2_.size; clear k0 k1; obtain ⟨k0, k1⟩ := SS2.out; clear b_ b2_))
    have hs1 : Hid (w2.drew.cell? ⟨w.heap.size, 0, none⟩ = some (.int .i64 pS) ∧ w2.drew.cell? ⟨w.heap.size, 1, none⟩ = some (.slice aS S.length cS)) := SS2.out
    have HBD : Hid (Below w.heap.size w w2.drew) := HB2.out.drew
    have hdd : w.heap.size < w2.drew.heap.size := hd2
    go_region_held3 (fun w' => w'.cell? ⟨w.heap.size, 0, none⟩ = some (.int .i64 pS) ∧ w'.cell? ⟨w.heap.size, 1, none⟩ = some (.slice aS S.length cS)) (first | exact hs1.out | exact SSa.out | exact SSab.out | exact SSabc.out | go_keep) (first | (go_at_call 51; (with_reducible refine (l10Matrix_any pS aS S cS loS tpS ax x cx lox tpx w2.drew HI.out (HS.out.below HBD.out tS) (Nat.le_trans tS (HBD.out).size) (Hx.out.below HBD.out tx) (Nat.le_trans tx (HBD.out).size) HMX.out).mono ?_); rintro e wa ⟨ra, ka, rfl, o_, b_⟩; rw [bm_len]; have SSa := Lib.hid (ss2 b_ hdd hs1.out); have HBa := Lib.hid (below_step HBD.out (Nat.le_of_lt hdd) b_); have zz_ := b_.size; have hda := Nat.lt_of_lt_of_le hdd zz_; have Ma_a := Lib.hid (o_.mono (Nat.le_of_lt hdd) (Nat.le_refl _)); clear b_ o_) | (go_at_call 51; (with_reducible refine (l10Matrix_any pS aS S cS loS tpS ay y cy loy tpy wa HI.out (HS.out.below HBa.out tS) (Nat.le_trans tS (HBa.out).size) (Hy.out.below HBa.out ty) (Nat.le_trans ty (HBa.out).size) HMY.out).mono ?_); rintro e wab ⟨rb, kb, rfl, o_, b_⟩; rw [bm_len]; have SSab := Lib.hid (ss2 b_ hda SSa.out); have HBab := Lib.hid (below_step HBa.out (Nat.le_of_lt hda) b_); have zz_ := b_.size; have hdab := Nat.lt_of_lt_of_le hda zz_; have Ma_ab := Lib.hid ((Ma_a.out.below b_ (Nat.le_refl _)).mono (Nat.le_refl _) zz_); have Mb_ab := Lib.hid (o_.mono (Nat.le_of_lt hda) (Nat.le_refl _)); clear b_ o_) | (go_at_call 64; (with_reducible refine (times_k pS S x y ra rb ka kb w.heap.size wab.heap.size w.heap.size wab.heap.size wab HI.out Ma_ab.out (Nat.le_refl _) Mb_ab.out (Nat.le_refl _)).mono ?_); rintro e wabc ⟨rc, kc, rfl, o_, b_⟩; rw [kf_len]; have SSabc := Lib.hid (ss2 b_ hdab SSab.out); have HBabc := Lib.hid (below_step HBab.out (Nat.le_of_lt hdab) b_); have zz_ := b_.size; have hdabc := Nat.lt_of_lt_of_le hdab zz_; have Ma_abc := Lib.hid ((Ma_ab.out.below b_ (Nat.le_refl _)).mono (Nat.le_refl _) zz_); have Mb_abc := Lib.hid ((Mb_ab.out.below b_ (Nat.le_refl _)).mono (Nat.le_refl _) zz_); have Mc_abc := Lib.hid (o_.mono (Nat.le_of_lt hdab) (Nat.le_refl _)); clear b_ o_))
    all_goals
      have HPB := prm_bd (isSp_iff.1 HI.out).prime
      have HBD9 := Lib.hid (kf_bd HI.out x y)
      go_wp2
      go_loopw [10, 11] (fun s t wr => ∃ i : Nat, i ≤ S.length ∧ s = .int .i64 (sm i (fun i => at' (kfM pS S x y) i i) % pS) ∧ t = .int .i64 i ∧ Quiet wabc wr) (fun _ t _ => S.length - (intOf t).toNat)
      case atStart => exact ⟨0, Nat.zero_le _, by simp [sm], rfl, Quiet.refl _⟩
      case round =>
        obtain ⟨i, hi, rfl, rfl, hq⟩ := hrel
        have HQ2 := Lib.hid hq
        clear k0 k1
        by_cases hlt : i < S.length
        · have hi1 : (i : Int) < (S.length : Int) := Int.ofNat_lt.2 hlt
          obtain ⟨b1, o1, r1, c1, ha1, _, _, hr1, hrow1⟩ := (Mc_abc.out.same (hq.same _ _)).row (show i < (kfM pS S x y).length by rw [kf_len]; exact hlt)
          subst ha1
          obtain ⟨b2, o2, ha2, _, _, hc1o⟩ := hrow1.num (j := i) (by rw [kf_rl hlt]; exact hlt)
          subst ha2
          have hc1 : wr.cell? ⟨b2, o2 + i, none⟩ = some (.int .i64 (at' (kfM pS S x y) i i)) := hc1o
          rw [kf_rl hlt] at hr1
          have hz0 := ((hq.below wabc.heap.size).cell (p := ⟨w.heap.size, 0, none⟩) hdabc).trans SSabc.out.1
          obtain ⟨x0, x1⟩ := (kf_lst HI.out x y).at (i := i) (j := i) (by rw [kf_len]; exact hlt) (by rw [kf_rl (by omega)]; exact hlt)
          have hst : (sm i (fun i => at' (kfM pS S x y) i i) % pS + at' (kfM pS S x y) i i) % pS = sm (i + 1) (fun i => at' (kfM pS S x y) i i) % pS := by rw [add_mod']; rfl
          have d0 := Int.emod_nonneg (sm i (fun i => at' (kfM pS S x y) i i)) (by omega : pS ≠ 0)
          have d1 := Int.emod_lt_of_pos (sm i (fun i => at' (kfM pS S x y) i i)) (by omega : 0 < pS)
          obtain ⟨v, hv⟩ : ∃ v, v = at' (kfM pS S x y) i i := ⟨_, rfl⟩
          obtain ⟨d, hd⟩ : ∃ d, d = sm i (fun i => at' (kfM pS S x y) i i) % pS := ⟨_, rfl⟩
          rw [← hv] at hc1 x0 x1 hst
          rw [← hd] at d0 d1 hst
          rw [← hd]
          have HST := Lib.hid hst
          have e1 : IntKind.i64.wrap (d + v) = d + v := IntWalk.i64_in _ (by omega)
          have e2 : (d + v).tmod pS = (d + v) % pS := Int.tmod_eq_emod_of_nonneg (by omega)
          have e3 : (pS == 0) = false := by simp; omega
          have e5 : ¬ pS = 0 := by omega
          have e4 : IntKind.i64.wrap ((d + v) % pS) = (d + v) % pS := IntWalk.i64_in _ (by have := Int.emod_nonneg (d + v) (by omega : pS ≠ 0); have := Int.emod_lt_of_pos (d + v) (by omega : 0 < pS); omega)
          have hs9 : Hid (wr.drew.cell? ⟨b1, o1 + i, none⟩ = some (.slice (some ⟨b2, o2, none⟩) S.length c1) ∧ wr.drew.cell? ⟨b2, o2 + i, none⟩ = some (.int .i64 v) ∧ wr.drew.cell? ⟨w.heap.size, 0, none⟩ = some (.int .i64 pS)) := ⟨hr1, hc1, hz0⟩
          clear hd hv hst hq hrow1 hc1o
          go_wp2
          go_region_held3 (fun w' => w'.cell? ⟨b1, o1 + i, none⟩ = some (.slice (some ⟨b2, o2, none⟩) S.length c1) ∧ w'.cell? ⟨b2, o2 + i, none⟩ = some (.int .i64 v) ∧ w'.cell? ⟨w.heap.size, 0, none⟩ = some (.int .i64 pS)) (first | exact hs9.out | go_keep) (fail)
          go_wp2
          go_roundw
          case rel => exact ⟨i + 1, by omega, by rw [← HST.out], by go_num, HQ2.out.trans ⟨1, rfl⟩⟩
          case measure => simp [intOf]; omega
        · have hn : i = S.length := by omega
          subst hn
          have hi1 : ¬ (S.length : Int) < (S.length : Int) := Int.lt_irrefl _
          clear hq
          go_wp2
          go_ret2
          refine ⟨?_, HBabc.out.trans ((HQ2.out.below wabc.heap.size).mono HBabc.out.size)⟩
          rw [HV.out, HC.out]
          unfold trcM
          rw [kf_len]
          rfl
  · have HC := Lib.hid h0
    have HV : Hid (kfV pS S x y = 0) := if_neg h0
    obtain ⟨C, hC⟩ : ∃ c, c = bvC pS S [x, y] := ⟨_, rfl⟩
    have hc1 : (C != 0) = true := by rw [hC]; simpa using h0
    have hc2 : (C == 0) = false := by rw [hC]; simpa using h0
    have HCE := Lib.hid hC
    clear hC
    clear h0
    go_enter Try.func35, Try.ntmps35
    go_upto_region 1 with fail
    obtain ⟨w1, hw1⟩ : ∃ z, z = w.alloc (.cells #[.int .i64 pS, .slice aS S.length cS] 28) := ⟨_, rfl⟩
    rw [← hw1] at HB0 k0 k1 ⊢
    have hd1 : w.heap.size < w1.heap.size := by rw [hw1]; simp
    have HB1 := HB0
    clear hw1
    have SS1 := Lib.hid (And.intro k0 k1)
    go_wp2_with (go_at_call 50; ((with_reducible refine (codeB2 pS aS S cS loS tpS ax x cx lox tpx ay y cy loy tpy _ _ w1 _ rfl (HS.out.below HB1.out tS) (Nat.le_trans tS HB1.out.size) sS (Hx.out.below HB1.out tx) (Nat.le_trans tx HB1.out.size) sx (Hy.out.below HB1.out ty) (Nat.le_trans ty HB1.out.size) sy).mono ?_); rintro e w2 ⟨rfl, b_⟩; rw [← HCE.out]; have b2_ := below_step (below_alloc w1 (.cells #[.slice ax x.length cx, .slice ay y.length cy] 22)) (size_alloc w1 (.cells #[.slice ax x.length cx, .slice ay y.length cy] 22)) b_; have SS2 := Lib.hid (ss2 b2_ hd1 SS1.out); have HB2 := Lib.hid (below_step HB1.out HB1.out.size b2_); have hd2 := Nat.lt_of_lt_of_le hd1 b2_.size; clear k0 k1; obtain ⟨k0, k1⟩ := SS2.out; clear b_ b2_))
    go_ret2
    exact ⟨by rw [HV.out, ← HCE.out]; rfl, HB2.out⟩

end Go.Proofs.Ytkibkkdeaojjoaa
