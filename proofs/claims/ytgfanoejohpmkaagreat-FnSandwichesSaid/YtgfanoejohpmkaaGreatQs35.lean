/-
  Laws of versors, the program's side: contracts of the program and of the model.
  Conditions: the lists are nil or rows of known cells, of at most 1048576 numbers.
-/
import Derived.Test.YtgfanoejohpmkaaGreatQs34
import Derived.Test.YtgfanoejohpmkaaGreatQs21
import Derived.Test.YtgfanoejohpmkaaGreatQs31
import Derived.Deep.RegionHeld3
import Derived.Deep.DeepCutAuto
namespace Go.Proofs.YtgfanoejohpmkaaGreat
open Go.RowKit
set_option linter.unusedVariables false

/-- Five cells. -/
def Box5 (g : Nat) (v0 v1 v2 v3 v4 : Value) (W : World) : Prop :=
  W.cell? ⟨g, 0, none⟩ = some v0 ∧ W.cell? ⟨g, 1, none⟩ = some v1 ∧ W.cell? ⟨g, 2, none⟩ = some v2 ∧ W.cell? ⟨g, 3, none⟩ = some v3 ∧ W.cell? ⟨g, 4, none⟩ = some v4
theorem Box5.below {g B : Nat} {v0 v1 v2 v3 v4 : Value} {w w' : World} (h : Box5 g v0 v1 v2 v3 v4 w) (b : Below B w w') (l : g < B) : Box5 g v0 v1 v2 v3 v4 w' :=
  ⟨(b.cell (p := ⟨g, 0, none⟩) l).trans h.1, (b.cell (p := ⟨g, 1, none⟩) l).trans h.2.1, (b.cell (p := ⟨g, 2, none⟩) l).trans h.2.2.1, (b.cell (p := ⟨g, 3, none⟩) l).trans h.2.2.2.1, (b.cell (p := ⟨g, 4, none⟩) l).trans h.2.2.2.2⟩
def isvB (p : Int) (S x : List Int) : Bool := if regC p S [x] = 0 then isVr p S x else false
def rotB (p : Int) (S x : List Int) : Bool := if regC p S [x] = 0 then isVr p S x && parB x 0 else false
def nrV (p : Int) (S x : List Int) : Int := if regC p S [x] = 0 then nrF p S x else 0
def viV (p : Int) (S x : List Int) : List Int := if vrC p S x = 0 then viM p S x else []
def uvC (p : Int) (S x : List Int) : Int := if vrC p S x = 0 then (if rt p (nrF p S x) < 0 then 5 else 0) else vrC p S x
def uvV (p : Int) (S x : List Int) : List Int := if uvC p S x = 0 then sclV p x (inv p (rt p (nrF p S x))) else []
def smC (p : Int) (S x y : List Int) : Int := if codeMv p S [y] = 0 then vrC p S x else codeMv p S [y]
def smV (p : Int) (S x y : List Int) : List Int := if smC p S x y = 0 then swM p S x y else []
def sdC (p : Int) (S x v : List Int) : Int := if codeVs p S [v] = 0 then vrC p S x else codeVs p S [v]
def sdV (p : Int) (S x v : List Int) : List Int := if sdC p S x v = 0 then sdM p S x v else []
theorem smC_zero {p : Int} {S x y : List Int} (h : smC p S x y = 0) : codeMv p S [y] = 0 ∧ vrC p S x = 0 := by
  unfold smC at h
  split at h
  · rename_i h0; exact ⟨h0, h⟩
  · rename_i h0; exact absurd h h0
theorem smV_size (p : Int) (S x y : List Int) : (smV p S x y).length ≤ 1048576 := by
  unfold smV; split
  · rename_i h; have := bl_le (isSp_iff.1 (vrC_zero (smC_zero h).2).1).hi; unfold swM; rw [prodM_len]; omega
  · simp
theorem codeVs_v1 {p : Int} {S v : List Int} (h : codeVs p S [v] = 0) : isVec p S.length v = true := by
  rcases codeVs_cases p S [v] with ⟨_, hc⟩ | ⟨_, ha, _⟩ | ⟨_, _, hc⟩
  · rw [hc] at h; cases h
  · rw [mv_all1] at ha; exact ha
  · rw [hc] at h; cases h
theorem codeMv_one {p : Int} {S y : List Int} (h : codeMv p S [y] = 0) : isMv p S y = true := by
  have := (codeMv_zero.1 h).2
  rw [mv_all1] at this; exact this
/-- The boxes of a space and of a number. -/
def BoxU (g m : Nat) (p : Int) (aS : Option Addr) (n cS : Nat) (R : Int) (W : World) : Prop :=
  W.cell? ⟨g, 0, none⟩ = some (.int .i64 p) ∧ W.cell? ⟨g, 1, none⟩ = some (.slice aS n cS) ∧ W.cell? ⟨m, 0, none⟩ = some (.int .i64 p) ∧ W.cell? ⟨m, 1, none⟩ = some (.int .i64 R)
theorem BoxU.below {g m : Nat} {p R : Int} {aS : Option Addr} {n cS B : Nat} {w w' : World} (h : BoxU g m p aS n cS R w) (hb : Below B w w') (hg : g < B ∧ m < B) : BoxU g m p aS n cS R w' :=
  ⟨(hb.cell (p := ⟨g, 0, none⟩) hg.1).trans h.1, (hb.cell (p := ⟨g, 1, none⟩) hg.1).trans h.2.1, (hb.cell (p := ⟨m, 0, none⟩) hg.2).trans h.2.2.1, (hb.cell (p := ⟨m, 1, none⟩) hg.2).trans h.2.2.2⟩
theorem BoxU.wrote {g m b o k : Nat} {p R : Int} {aS : Option Addr} {n cS : Nat} {w w' : World} (h : BoxU g m p aS n cS R w) (hb : Wrote b o k w w') (hg : g ≠ b ∧ m ≠ b) : BoxU g m p aS n cS R w' :=
  ⟨(World.cell?_of_block (w := w) (a := ⟨g, 0, none⟩) (hb.block g hg.1)).trans h.1, (World.cell?_of_block (w := w) (a := ⟨g, 1, none⟩) (hb.block g hg.1)).trans h.2.1, (World.cell?_of_block (w := w) (a := ⟨m, 0, none⟩) (hb.block m hg.2)).trans h.2.2.1, (World.cell?_of_block (w := w) (a := ⟨m, 1, none⟩) (hb.block m hg.2)).trans h.2.2.2⟩
theorem root_yes (p a R : Int) (w : World) (hp : prm p = true) (a0 : 0 ≤ a) (a1 : a < p) (hR : R = rt p a) (h0 : 0 ≤ rt p a) :
    Calls Tryz.prog 122 #[.agg #[.int .i64 p, .int .i64 a]] w fun e w' => e = .returned (.tuple #[.agg #[.int .i64 p, .int .i64 R], .bool true]) ∧ Below w.heap.size w w' :=
  (root_any p a w hp a0 a1).mono fun _ _ h => by
    obtain ⟨e1, e2, e3⟩ := rt_yes h0
    rw [e1, e2, e3, ← hR] at h; exact h
theorem root_no (p a : Int) (w : World) (hp : prm p = true) (a0 : 0 ≤ a) (a1 : a < p) (h0 : rt p a < 0) :
    Calls Tryz.prog 122 #[.agg #[.int .i64 p, .int .i64 a]] w fun e w' => e = .returned (.tuple #[.agg #[.int .i64 0, .int .i64 0], .bool false]) ∧ Below w.heap.size w w' :=
  (root_any p a w hp a0 a1).mono fun _ _ h => by
    obtain ⟨e1, e2, e3⟩ := rt_no h0
    rw [e1, e2, e3] at h; exact h

set_option maxRecDepth 100000 in
set_option maxHeartbeats 6400000 in
theorem impl_SpinorNormOf (pS : Int) (aS : Option Addr) (S : List Int) (cS loS tpS : Nat) (ax : Option Addr) (x : List Int) (cx lox tpx : Nat) (w : World) (hS : RowIn loS tpS w aS S) (tS : tpS ≤ w.heap.size) (sS : S.length ≤ 1048576) (hx : RowIn lox tpx w ax x) (tx : tpx ≤ w.heap.size) (sx : x.length ≤ 1048576) :
    Calls Tryz.prog 17 #[.agg #[.int .i64 pS, .slice aS S.length cS], .slice ax x.length cx] w (RetI (nrV pS S x) (regC pS S [x]) w) := by
  have HS := Lib.hid hS
  have Hx := Lib.hid hx
  have k0 := nw0 w (.int .i64 pS) (.slice aS S.length cS) 26
  have k1 := nw1 w (.int .i64 pS) (.slice aS S.length cS) 26
  have HB0 := Lib.hid (below_alloc w (.cells #[.int .i64 pS, .slice aS S.length cS] 26))
  clear hS hx
  by_cases hc : regC pS S [x] = 0
  · have HC := Lib.hid hc
    have h3 := regC_zero hc
    rw [mv_all1] at h3
    have HI := Lib.hid h3.1
    have HMX := Lib.hid h3.2
    have hb0 := bl_pos S
    have hi0 : (0 : Int) < ((bl S : Nat) : Int) := by omega
    clear hc h3
    go_enter Tryz.func17, Tryz.ntmps17
    go_upto_region 1 with fail
    obtain ⟨w1, hw1⟩ : ∃ z, z = w.alloc (.cells #[.int .i64 pS, .slice aS S.length cS] 26) := ⟨_, rfl⟩
    rw [← hw1] at HB0 k0 k1 ⊢
    have hd1 : w.heap.size < w1.heap.size := by rw [hw1]; simp
    have HB1 := HB0
    clear hw1
    have SS1 := Lib.hid (And.intro k0 k1)
    go_wp2_with (first | (go_at_call 97; ((with_reducible refine (checkR1 pS aS S cS loS tpS ax x cx lox tpx _ _ w1 _ rfl (HS.out.below HB1.out tS) (Nat.le_trans tS HB1.out.size) sS (Hx.out.below HB1.out tx) (Nat.le_trans tx HB1.out.size) sx).mono ?_); rintro e w2 ⟨rfl, b_⟩; rw [HC.out]; have b2_ := below_step (below_alloc w1 (.cells #[.slice ax x.length cx] 24)) (size_alloc w1 (.cells #[.slice ax x.length cx] 24)) b_; have SS2 := Lib.hid (ss2 b2_ hd1 SS1.out); have HB2 := Lib.hid (below_step HB1.out HB1.out.size b2_); have hd2 := Nat.lt_of_lt_of_le hd1 b2_.size; clear k0 k1; obtain ⟨k0, k1⟩ := SS2.out; clear b_ b2_)) | (go_at_call 99; ((with_reducible refine (timesReverse_new pS aS S cS loS tpS ax x cx lox tpx w2 HI.out (HS.out.below HB2.out tS) (Nat.le_trans tS HB2.out.size) (Hx.out.below HB2.out tx) (Nat.le_trans tx HB2.out.size) HMX.out).mono ?_); rintro e w3 ⟨bt, rfl, l_, u_, o_, b_⟩; have SS3 := Lib.hid (ss2 b_ hd2 SS2.out); have HB3 := Lib.hid (below_step HB2.out HB2.out.size b_); have hd3 := Nat.lt_of_lt_of_le hd2 b_.size; have ct_ := o_.cell 0 hb0; rw [Nat.zero_add] at ct_; clear l_ u_ o_; clear k0 k1; obtain ⟨k0, k1⟩ := SS3.out; clear b_)))
    go_ret2
    exact ⟨by rw [show nrV pS S x = nrF pS S x from if_pos HC.out, HC.out]; rfl, HB3.out⟩
  · obtain ⟨C, hC⟩ : ∃ c, c = regC pS S [x] := ⟨_, rfl⟩
    have hc1 : (C != 0) = true := by rw [hC]; simpa using hc
    have HCE := Lib.hid hC
    have HN : Hid (regC pS S [x] ≠ 0) := hc
    clear hc hC
    go_enter Tryz.func17, Tryz.ntmps17
    go_upto_region 1 with fail
    obtain ⟨w1, hw1⟩ : ∃ z, z = w.alloc (.cells #[.int .i64 pS, .slice aS S.length cS] 26) := ⟨_, rfl⟩
    rw [← hw1] at HB0 k0 k1 ⊢
    have hd1 : w.heap.size < w1.heap.size := by rw [hw1]; simp
    have HB1 := HB0
    clear hw1
    have SS1 := Lib.hid (And.intro k0 k1)
    go_wp2_with (go_at_call 97; ((with_reducible refine (checkR1 pS aS S cS loS tpS ax x cx lox tpx _ _ w1 _ rfl (HS.out.below HB1.out tS) (Nat.le_trans tS HB1.out.size) sS (Hx.out.below HB1.out tx) (Nat.le_trans tx HB1.out.size) sx).mono ?_); rintro e w2 ⟨rfl, b_⟩; rw [← HCE.out]; have b2_ := below_step (below_alloc w1 (.cells #[.slice ax x.length cx] 24)) (size_alloc w1 (.cells #[.slice ax x.length cx] 24)) b_; have SS2 := Lib.hid (ss2 b2_ hd1 SS1.out); have HB2 := Lib.hid (below_step HB1.out HB1.out.size b2_); have hd2 := Nat.lt_of_lt_of_le hd1 b2_.size; clear k0 k1; obtain ⟨k0, k1⟩ := SS2.out; clear b_ b2_))
    go_ret2
    exact ⟨by rw [show nrV pS S x = 0 from if_neg HN.out, ← HCE.out]; rfl, HB2.out⟩

set_option maxRecDepth 100000 in
set_option maxHeartbeats 6400000 in
theorem impl_IsVersor (pS : Int) (aS : Option Addr) (S : List Int) (cS loS tpS : Nat) (ax : Option Addr) (x : List Int) (cx lox tpx : Nat) (w : World) (hS : RowIn loS tpS w aS S) (tS : tpS ≤ w.heap.size) (sS : S.length ≤ 1048576) (hx : RowIn lox tpx w ax x) (tx : tpx ≤ w.heap.size) (sx : x.length ≤ 1048576) :
    Calls Tryz.prog 16 #[.agg #[.int .i64 pS, .slice aS S.length cS], .slice ax x.length cx] w (RetB (isvB pS S x) (regC pS S [x]) w) := by
  have HS := Lib.hid hS
  have Hx := Lib.hid hx
  have k0 := nw0 w (.int .i64 pS) (.slice aS S.length cS) 26
  have k1 := nw1 w (.int .i64 pS) (.slice aS S.length cS) 26
  have HB0 := Lib.hid (below_alloc w (.cells #[.int .i64 pS, .slice aS S.length cS] 26))
  clear hS hx
  by_cases hc : regC pS S [x] = 0
  · have HC := Lib.hid hc
    have h3 := regC_zero hc
    rw [mv_all1] at h3
    have HI := Lib.hid h3.1
    have HMX := Lib.hid h3.2
    have hb0 := bl_pos S
    have hi0 : (0 : Int) < ((bl S : Nat) : Int) := by omega
    clear hc h3
    cases hv : isVr pS S x with
    | true =>
      have HVR := Lib.hid hv
      obtain ⟨F, hF⟩ : ∃ f, f = nrF pS S x := ⟨_, rfl⟩
      have HFE := Lib.hid hF
      clear hv hF
      go_enter Tryz.func16, Tryz.ntmps16
      go_upto_region 1 with fail
      obtain ⟨w1, hw1⟩ : ∃ z, z = w.alloc (.cells #[.int .i64 pS, .slice aS S.length cS] 26) := ⟨_, rfl⟩
      rw [← hw1] at HB0 k0 k1 ⊢
      have hd1 : w.heap.size < w1.heap.size := by rw [hw1]; simp
      have HB1 := HB0
      clear hw1
      have SS1 := Lib.hid (And.intro k0 k1)
      go_upto_region 5 with (first | (go_at_call 97; ((with_reducible refine (checkR1 pS aS S cS loS tpS ax x cx lox tpx _ _ w1 _ rfl (HS.out.below HB1.out tS) (Nat.le_trans tS HB1.out.size) sS (Hx.out.below HB1.out tx) (Nat.le_trans tx HB1.out.size) sx).mono ?_); rintro e w2 ⟨rfl, b_⟩; rw [HC.out]; have b2_ := below_step (below_alloc w1 (.cells #[.slice ax x.length cx] 24)) (size_alloc w1 (.cells #[.slice ax x.length cx] 24)) b_; have SS2 := Lib.hid (ss2 b2_ hd1 SS1.out); have HB2 := Lib.hid (below_step HB1.out HB1.out.size b2_); have hd2 := Nat.lt_of_lt_of_le hd1 b2_.size; clear k0 k1; obtain ⟨k0, k1⟩ := SS2.out; clear b_ b2_)) | (go_at_call 98; ((with_reducible refine (asVersor_yes pS aS S cS loS tpS ax x cx lox tpx w2 HI.out (HS.out.below HB2.out tS) (Nat.le_trans tS HB2.out.size) (Hx.out.below HB2.out tx) (Nat.le_trans tx HB2.out.size) HMX.out HVR.out).mono ?_); rintro e w3 ⟨rfl, b_⟩; rw [← HFE.out]; have SS3 := Lib.hid (ss2 b_ hd2 SS2.out); have HB3 := Lib.hid (below_step HB2.out HB2.out.size b_); have hd3 := Nat.lt_of_lt_of_le hd2 b_.size; clear k0 k1; obtain ⟨k0, k1⟩ := SS3.out; clear b_)))
      obtain ⟨w4, hwn⟩ : ∃ z, z = w3.alloc (.cells #[.int .i64 pS, .slice aS S.length cS, .slice ax x.length cx, .int .i64 pS, .int .i64 F] 86) := ⟨_, rfl⟩
      obtain ⟨f, hf⟩ : ∃ b, b = w3.heap.size := ⟨_, rfl⟩
      have FN := V5.new w3 (.int .i64 pS) (.slice aS S.length cS) (.slice ax x.length cx) (.int .i64 pS) (.int .i64 F) 86
      rw [← hwn, ← hf] at FN
      have bn_ : Below w3.heap.size w3 w4 := by rw [hwn]; exact below_alloc _ _
      have ff4 : f < w4.heap.size := by rw [hwn, hf]; simp
      have lf : w.heap.size < f := by rw [hf]; exact hd3
      have SS4 := Lib.hid (ss2 bn_ hd3 SS3.out)
      have HB4 := Lib.hid (below_step HB3.out HB3.out.size bn_)
      have hd4 := Nat.lt_of_lt_of_le hd3 bn_.size
      rw [← hwn, ← hf]
      clear hwn hf bn_ k0 k1
      have FF4 : Hid (Box5 f (.int .i64 pS) (.slice aS S.length cS) (.slice ax x.length cx) (.int .i64 pS) (.int .i64 F) w4) := FN.1
      clear FN
      obtain ⟨f0, f1, f2, f3, f4⟩ := FF4.out
      obtain ⟨k0, k1⟩ := SS4.out
      go_wp2
      go_ret2
      exact ⟨by rw [show isvB pS S x = isVr pS S x from if_pos HC.out, HC.out, HVR.out]; rfl, HB4.out⟩
    | false =>
      have HVR := Lib.hid hv
      clear hv
      go_enter Tryz.func16, Tryz.ntmps16
      go_upto_region 1 with fail
      obtain ⟨w1, hw1⟩ : ∃ z, z = w.alloc (.cells #[.int .i64 pS, .slice aS S.length cS] 26) := ⟨_, rfl⟩
      rw [← hw1] at HB0 k0 k1 ⊢
      have hd1 : w.heap.size < w1.heap.size := by rw [hw1]; simp
      have HB1 := HB0
      clear hw1
      have SS1 := Lib.hid (And.intro k0 k1)
      go_upto_region 5 with (first | (go_at_call 97; ((with_reducible refine (checkR1 pS aS S cS loS tpS ax x cx lox tpx _ _ w1 _ rfl (HS.out.below HB1.out tS) (Nat.le_trans tS HB1.out.size) sS (Hx.out.below HB1.out tx) (Nat.le_trans tx HB1.out.size) sx).mono ?_); rintro e w2 ⟨rfl, b_⟩; rw [HC.out]; have b2_ := below_step (below_alloc w1 (.cells #[.slice ax x.length cx] 24)) (size_alloc w1 (.cells #[.slice ax x.length cx] 24)) b_; have SS2 := Lib.hid (ss2 b2_ hd1 SS1.out); have HB2 := Lib.hid (below_step HB1.out HB1.out.size b2_); have hd2 := Nat.lt_of_lt_of_le hd1 b2_.size; clear k0 k1; obtain ⟨k0, k1⟩ := SS2.out; clear b_ b2_)) | (go_at_call 98; ((with_reducible refine (asVersor_no pS aS S cS loS tpS ax x cx lox tpx w2 HI.out (HS.out.below HB2.out tS) (Nat.le_trans tS HB2.out.size) (Hx.out.below HB2.out tx) (Nat.le_trans tx HB2.out.size) HMX.out HVR.out).mono ?_); rintro e w3 ⟨rfl, b_⟩; have SS3 := Lib.hid (ss2 b_ hd2 SS2.out); have HB3 := Lib.hid (below_step HB2.out HB2.out.size b_); have hd3 := Nat.lt_of_lt_of_le hd2 b_.size; clear k0 k1; obtain ⟨k0, k1⟩ := SS3.out; clear b_)))
      obtain ⟨w4, hwn⟩ : ∃ z, z = w3.alloc (.cells #[.int .i64 0, .slice none 0 0, .slice none 0 0, .int .i64 0, .int .i64 0] 86) := ⟨_, rfl⟩
      obtain ⟨f, hf⟩ : ∃ b, b = w3.heap.size := ⟨_, rfl⟩
      have FN := V5.new w3 (.int .i64 0) (.slice none 0 0) (.slice none 0 0) (.int .i64 0) (.int .i64 0) 86
      rw [← hwn, ← hf] at FN
      have bn_ : Below w3.heap.size w3 w4 := by rw [hwn]; exact below_alloc _ _
      have ff4 : f < w4.heap.size := by rw [hwn, hf]; simp
      have lf : w.heap.size < f := by rw [hf]; exact hd3
      have SS4 := Lib.hid (ss2 bn_ hd3 SS3.out)
      have HB4 := Lib.hid (below_step HB3.out HB3.out.size bn_)
      have hd4 := Nat.lt_of_lt_of_le hd3 bn_.size
      rw [← hwn, ← hf]
      clear hwn hf bn_ k0 k1
      have FF4 : Hid (Box5 f (.int .i64 0) (.slice none 0 0) (.slice none 0 0) (.int .i64 0) (.int .i64 0) w4) := FN.1
      clear FN
      obtain ⟨f0, f1, f2, f3, f4⟩ := FF4.out
      obtain ⟨k0, k1⟩ := SS4.out
      go_wp2
      go_ret2
      exact ⟨by rw [show isvB pS S x = isVr pS S x from if_pos HC.out, HC.out, HVR.out]; rfl, HB4.out⟩
  · obtain ⟨C, hC⟩ : ∃ c, c = regC pS S [x] := ⟨_, rfl⟩
    have hc1 : (C != 0) = true := by rw [hC]; simpa using hc
    have HCE := Lib.hid hC
    have HN : Hid (regC pS S [x] ≠ 0) := hc
    clear hc hC
    go_enter Tryz.func16, Tryz.ntmps16
    go_upto_region 1 with fail
    obtain ⟨w1, hw1⟩ : ∃ z, z = w.alloc (.cells #[.int .i64 pS, .slice aS S.length cS] 26) := ⟨_, rfl⟩
    rw [← hw1] at HB0 k0 k1 ⊢
    have hd1 : w.heap.size < w1.heap.size := by rw [hw1]; simp
    have HB1 := HB0
    clear hw1
    have SS1 := Lib.hid (And.intro k0 k1)
    go_wp2_with (go_at_call 97; ((with_reducible refine (checkR1 pS aS S cS loS tpS ax x cx lox tpx _ _ w1 _ rfl (HS.out.below HB1.out tS) (Nat.le_trans tS HB1.out.size) sS (Hx.out.below HB1.out tx) (Nat.le_trans tx HB1.out.size) sx).mono ?_); rintro e w2 ⟨rfl, b_⟩; rw [← HCE.out]; have b2_ := below_step (below_alloc w1 (.cells #[.slice ax x.length cx] 24)) (size_alloc w1 (.cells #[.slice ax x.length cx] 24)) b_; have SS2 := Lib.hid (ss2 b2_ hd1 SS1.out); have HB2 := Lib.hid (below_step HB1.out HB1.out.size b2_); have hd2 := Nat.lt_of_lt_of_le hd1 b2_.size; clear k0 k1; obtain ⟨k0, k1⟩ := SS2.out; clear b_ b2_))
    go_ret2
    exact ⟨by rw [show isvB pS S x = false from if_neg HN.out, ← HCE.out]; rfl, HB2.out⟩

set_option maxRecDepth 100000 in
set_option maxHeartbeats 6400000 in
theorem impl_IsRotor (pS : Int) (aS : Option Addr) (S : List Int) (cS loS tpS : Nat) (ax : Option Addr) (x : List Int) (cx lox tpx : Nat) (w : World) (hS : RowIn loS tpS w aS S) (tS : tpS ≤ w.heap.size) (sS : S.length ≤ 1048576) (hx : RowIn lox tpx w ax x) (tx : tpx ≤ w.heap.size) (sx : x.length ≤ 1048576) :
    Calls Tryz.prog 19 #[.agg #[.int .i64 pS, .slice aS S.length cS], .slice ax x.length cx] w (RetB (rotB pS S x) (regC pS S [x]) w) := by
  have HS := Lib.hid hS
  have Hx := Lib.hid hx
  have k0 := nw0 w (.int .i64 pS) (.slice aS S.length cS) 26
  have k1 := nw1 w (.int .i64 pS) (.slice aS S.length cS) 26
  have HB0 := Lib.hid (below_alloc w (.cells #[.int .i64 pS, .slice aS S.length cS] 26))
  clear hS hx
  by_cases hc : regC pS S [x] = 0
  · have HC := Lib.hid hc
    have h3 := regC_zero hc
    rw [mv_all1] at h3
    have HI := Lib.hid h3.1
    have HMX := Lib.hid h3.2
    have hb0 := bl_pos S
    have hi0 : (0 : Int) < ((bl S : Nat) : Int) := by omega
    clear hc h3
    cases hv : isVr pS S x with
    | true =>
      have HVR := Lib.hid hv
      obtain ⟨F, hF⟩ : ∃ f, f = nrF pS S x := ⟨_, rfl⟩
      have HFE := Lib.hid hF
      clear hv hF
      go_enter Tryz.func19, Tryz.ntmps19
      go_upto_region 1 with fail
      obtain ⟨w1, hw1⟩ : ∃ z, z = w.alloc (.cells #[.int .i64 pS, .slice aS S.length cS] 26) := ⟨_, rfl⟩
      rw [← hw1] at HB0 k0 k1 ⊢
      have hd1 : w.heap.size < w1.heap.size := by rw [hw1]; simp
      have HB1 := HB0
      clear hw1
      have SS1 := Lib.hid (And.intro k0 k1)
      go_upto_region 5 with (first | (go_at_call 97; ((with_reducible refine (checkR1 pS aS S cS loS tpS ax x cx lox tpx _ _ w1 _ rfl (HS.out.below HB1.out tS) (Nat.le_trans tS HB1.out.size) sS (Hx.out.below HB1.out tx) (Nat.le_trans tx HB1.out.size) sx).mono ?_); rintro e w2 ⟨rfl, b_⟩; rw [HC.out]; have b2_ := below_step (below_alloc w1 (.cells #[.slice ax x.length cx] 24)) (size_alloc w1 (.cells #[.slice ax x.length cx] 24)) b_; have SS2 := Lib.hid (ss2 b2_ hd1 SS1.out); have HB2 := Lib.hid (below_step HB1.out HB1.out.size b2_); have hd2 := Nat.lt_of_lt_of_le hd1 b2_.size; clear k0 k1; obtain ⟨k0, k1⟩ := SS2.out; clear b_ b2_)) | (go_at_call 98; ((with_reducible refine (asVersor_yes pS aS S cS loS tpS ax x cx lox tpx w2 HI.out (HS.out.below HB2.out tS) (Nat.le_trans tS HB2.out.size) (Hx.out.below HB2.out tx) (Nat.le_trans tx HB2.out.size) HMX.out HVR.out).mono ?_); rintro e w3 ⟨rfl, b_⟩; rw [← HFE.out]; have SS3 := Lib.hid (ss2 b_ hd2 SS2.out); have HB3 := Lib.hid (below_step HB2.out HB2.out.size b_); have hd3 := Nat.lt_of_lt_of_le hd2 b_.size; clear k0 k1; obtain ⟨k0, k1⟩ := SS3.out; clear b_)))
      obtain ⟨w4, hwn⟩ : ∃ z, z = w3.alloc (.cells #[.int .i64 pS, .slice aS S.length cS, .slice ax x.length cx, .int .i64 pS, .int .i64 F] 86) := ⟨_, rfl⟩
      obtain ⟨f, hf⟩ : ∃ b, b = w3.heap.size := ⟨_, rfl⟩
      have FN := V5.new w3 (.int .i64 pS) (.slice aS S.length cS) (.slice ax x.length cx) (.int .i64 pS) (.int .i64 F) 86
      rw [← hwn, ← hf] at FN
      have bn_ : Below w3.heap.size w3 w4 := by rw [hwn]; exact below_alloc _ _
      have ff4 : f < w4.heap.size := by rw [hwn, hf]; simp
      have lf : w.heap.size < f := by rw [hf]; exact hd3
      have SS4 := Lib.hid (ss2 bn_ hd3 SS3.out)
      have HB4 := Lib.hid (below_step HB3.out HB3.out.size bn_)
      have hd4 := Nat.lt_of_lt_of_le hd3 bn_.size
      rw [← hwn, ← hf]
      clear hwn hf bn_ k0 k1
      have FF4 : Hid (Box5 f (.int .i64 pS) (.slice aS S.length cS) (.slice ax x.length cx) (.int .i64 pS) (.int .i64 F) w4) := FN.1
      clear FN
      obtain ⟨f0, f1, f2, f3, f4⟩ := FF4.out
      obtain ⟨k0, k1⟩ := SS4.out
      go_wp2_with (go_at_call 102; ((with_reducible refine (hasParity_0 pS aS S cS loS tpS ax x cx lox tpx w4 HI.out (HS.out.below HB4.out tS) (Nat.le_trans tS HB4.out.size) (Hx.out.below HB4.out tx) (Nat.le_trans tx HB4.out.size) HMX.out).mono ?_); rintro e w5 ⟨rfl, b_⟩; have SS5 := Lib.hid (ss2 b_ hd4 SS4.out); have HB5 := Lib.hid (below_step HB4.out HB4.out.size b_); have hd5 := Nat.lt_of_lt_of_le hd4 b_.size; have FF5 := Lib.hid (FF4.out.below b_ ff4); have ff5 := Nat.lt_of_lt_of_le ff4 b_.size; clear k0 k1; obtain ⟨k0, k1⟩ := SS5.out; clear f0 f1 f2 f3 f4; obtain ⟨f0, f1, f2, f3, f4⟩ := FF5.out; clear b_))
      go_ret2
      exact ⟨by rw [show rotB pS S x = (isVr pS S x && parB x 0) from if_pos HC.out, HC.out, HVR.out]; rfl, HB5.out⟩
    | false =>
      have HVR := Lib.hid hv
      clear hv
      go_enter Tryz.func19, Tryz.ntmps19
      go_upto_region 1 with fail
      obtain ⟨w1, hw1⟩ : ∃ z, z = w.alloc (.cells #[.int .i64 pS, .slice aS S.length cS] 26) := ⟨_, rfl⟩
      rw [← hw1] at HB0 k0 k1 ⊢
      have hd1 : w.heap.size < w1.heap.size := by rw [hw1]; simp
      have HB1 := HB0
      clear hw1
      have SS1 := Lib.hid (And.intro k0 k1)
      go_upto_region 5 with (first | (go_at_call 97; ((with_reducible refine (checkR1 pS aS S cS loS tpS ax x cx lox tpx _ _ w1 _ rfl (HS.out.below HB1.out tS) (Nat.le_trans tS HB1.out.size) sS (Hx.out.below HB1.out tx) (Nat.le_trans tx HB1.out.size) sx).mono ?_); rintro e w2 ⟨rfl, b_⟩; rw [HC.out]; have b2_ := below_step (below_alloc w1 (.cells #[.slice ax x.length cx] 24)) (size_alloc w1 (.cells #[.slice ax x.length cx] 24)) b_; have SS2 := Lib.hid (ss2 b2_ hd1 SS1.out); have HB2 := Lib.hid (below_step HB1.out HB1.out.size b2_); have hd2 := Nat.lt_of_lt_of_le hd1 b2_.size; clear k0 k1; obtain ⟨k0, k1⟩ := SS2.out; clear b_ b2_)) | (go_at_call 98; ((with_reducible refine (asVersor_no pS aS S cS loS tpS ax x cx lox tpx w2 HI.out (HS.out.below HB2.out tS) (Nat.le_trans tS HB2.out.size) (Hx.out.below HB2.out tx) (Nat.le_trans tx HB2.out.size) HMX.out HVR.out).mono ?_); rintro e w3 ⟨rfl, b_⟩; have SS3 := Lib.hid (ss2 b_ hd2 SS2.out); have HB3 := Lib.hid (below_step HB2.out HB2.out.size b_); have hd3 := Nat.lt_of_lt_of_le hd2 b_.size; clear k0 k1; obtain ⟨k0, k1⟩ := SS3.out; clear b_)))
      obtain ⟨w4, hwn⟩ : ∃ z, z = w3.alloc (.cells #[.int .i64 0, .slice none 0 0, .slice none 0 0, .int .i64 0, .int .i64 0] 86) := ⟨_, rfl⟩
      obtain ⟨f, hf⟩ : ∃ b, b = w3.heap.size := ⟨_, rfl⟩
      have FN := V5.new w3 (.int .i64 0) (.slice none 0 0) (.slice none 0 0) (.int .i64 0) (.int .i64 0) 86
      rw [← hwn, ← hf] at FN
      have bn_ : Below w3.heap.size w3 w4 := by rw [hwn]; exact below_alloc _ _
      have ff4 : f < w4.heap.size := by rw [hwn, hf]; simp
      have lf : w.heap.size < f := by rw [hf]; exact hd3
      have SS4 := Lib.hid (ss2 bn_ hd3 SS3.out)
      have HB4 := Lib.hid (below_step HB3.out HB3.out.size bn_)
      have hd4 := Nat.lt_of_lt_of_le hd3 bn_.size
      rw [← hwn, ← hf]
      clear hwn hf bn_ k0 k1
      have FF4 : Hid (Box5 f (.int .i64 0) (.slice none 0 0) (.slice none 0 0) (.int .i64 0) (.int .i64 0) w4) := FN.1
      clear FN
      obtain ⟨f0, f1, f2, f3, f4⟩ := FF4.out
      obtain ⟨k0, k1⟩ := SS4.out
      go_wp2
      go_ret2
      exact ⟨by rw [show rotB pS S x = (isVr pS S x && parB x 0) from if_pos HC.out, HC.out, HVR.out]; rfl, HB4.out⟩
  · obtain ⟨C, hC⟩ : ∃ c, c = regC pS S [x] := ⟨_, rfl⟩
    have hc1 : (C != 0) = true := by rw [hC]; simpa using hc
    have HCE := Lib.hid hC
    have HN : Hid (regC pS S [x] ≠ 0) := hc
    clear hc hC
    go_enter Tryz.func19, Tryz.ntmps19
    go_upto_region 1 with fail
    obtain ⟨w1, hw1⟩ : ∃ z, z = w.alloc (.cells #[.int .i64 pS, .slice aS S.length cS] 26) := ⟨_, rfl⟩
    rw [← hw1] at HB0 k0 k1 ⊢
    have hd1 : w.heap.size < w1.heap.size := by rw [hw1]; simp
    have HB1 := HB0
    clear hw1
    have SS1 := Lib.hid (And.intro k0 k1)
    go_wp2_with (go_at_call 97; ((with_reducible refine (checkR1 pS aS S cS loS tpS ax x cx lox tpx _ _ w1 _ rfl (HS.out.below HB1.out tS) (Nat.le_trans tS HB1.out.size) sS (Hx.out.below HB1.out tx) (Nat.le_trans tx HB1.out.size) sx).mono ?_); rintro e w2 ⟨rfl, b_⟩; rw [← HCE.out]; have b2_ := below_step (below_alloc w1 (.cells #[.slice ax x.length cx] 24)) (size_alloc w1 (.cells #[.slice ax x.length cx] 24)) b_; have SS2 := Lib.hid (ss2 b2_ hd1 SS1.out); have HB2 := Lib.hid (below_step HB1.out HB1.out.size b2_); have hd2 := Nat.lt_of_lt_of_le hd1 b2_.size; clear k0 k1; obtain ⟨k0, k1⟩ := SS2.out; clear b_ b2_))
    go_ret2
    exact ⟨by rw [show rotB pS S x = false from if_neg HN.out, ← HCE.out]; rfl, HB2.out⟩

set_option maxRecDepth 100000 in
set_option maxHeartbeats 6400000 in
theorem impl_VersorInverse (pS : Int) (aS : Option Addr) (S : List Int) (cS loS tpS : Nat) (ax : Option Addr) (x : List Int) (cx lox tpx : Nat) (w : World) (hS : RowIn loS tpS w aS S) (tS : tpS ≤ w.heap.size) (sS : S.length ≤ 1048576) (hx : RowIn lox tpx w ax x) (tx : tpx ≤ w.heap.size) (sx : x.length ≤ 1048576) :
    Calls Tryz.prog 18 #[.agg #[.int .i64 pS, .slice aS S.length cS], .slice ax x.length cx] w (ImplR (viV pS S x) (vrC pS S x) w) := by
  have HS := Lib.hid hS
  have Hx := Lib.hid hx
  have k0 := nw0 w (.int .i64 pS) (.slice aS S.length cS) 26
  have k1 := nw1 w (.int .i64 pS) (.slice aS S.length cS) 26
  have HB0 := Lib.hid (below_alloc w (.cells #[.int .i64 pS, .slice aS S.length cS] 26))
  clear hS hx
  by_cases hc : vrC pS S x = 0
  · have HV : Hid (viV pS S x = viM pS S x) := by show _ = _; unfold viV; rw [if_pos hc]
    have HC := Lib.hid hc
    have hz := vrC_zero hc
    have HI := Lib.hid hz.1
    have HMX := Lib.hid hz.2.1
    obtain ⟨F, hF⟩ : ∃ f, f = nrF pS S x := ⟨_, rfl⟩
    have HFE := Lib.hid hF
    clear hc hz hF
    go_enter Tryz.func18, Tryz.ntmps18
    go_upto_region 1 with fail
    obtain ⟨w1, hw1⟩ : ∃ z, z = w.alloc (.cells #[.int .i64 pS, .slice aS S.length cS] 26) := ⟨_, rfl⟩
    rw [← hw1] at HB0 k0 k1 ⊢
    have hd1 : w.heap.size < w1.heap.size := by rw [hw1]; simp
    have HB1 := HB0
    clear hw1
    have SS1 := Lib.hid (And.intro k0 k1)
    go_upto_region 2 with (go_at_call 100; ((with_reducible refine (checkVersor_y pS aS S cS loS tpS ax x cx lox tpx w1 (HS.out.below HB1.out tS) (Nat.le_trans tS HB1.out.size) sS (Hx.out.below HB1.out tx) (Nat.le_trans tx HB1.out.size) sx HC.out).mono ?_); rintro e w2 ⟨rfl, b_⟩; rw [← HFE.out]; have SS2 := Lib.hid (ss2 b_ hd1 SS1.out); have HB2 := Lib.hid (below_step HB1.out HB1.out.size b_); have hd2 := Nat.lt_of_lt_of_le hd1 b_.size; clear k0 k1; obtain ⟨k0, k1⟩ := SS2.out; clear b_))
    obtain ⟨w3, hwn⟩ : ∃ z, z = w2.alloc (.cells #[.int .i64 pS, .slice aS S.length cS, .slice ax x.length cx, .int .i64 pS, .int .i64 F] 86) := ⟨_, rfl⟩
    obtain ⟨f, hf⟩ : ∃ b, b = w2.heap.size := ⟨_, rfl⟩
    have FN := V5.new w2 (.int .i64 pS) (.slice aS S.length cS) (.slice ax x.length cx) (.int .i64 pS) (.int .i64 F) 86
    rw [← hwn, ← hf] at FN
    have bn_ : Below w2.heap.size w2 w3 := by rw [hwn]; exact below_alloc _ _
    have ff3 : f < w3.heap.size := by rw [hwn, hf]; simp
    have lf : w.heap.size < f := by rw [hf]; exact hd2
    have SS3 := Lib.hid (ss2 bn_ hd2 SS2.out)
    have HB3 := Lib.hid (below_step HB2.out HB2.out.size bn_)
    have hd3 := Nat.lt_of_lt_of_le hd2 bn_.size
    rw [← hwn, ← hf]
    clear hwn hf bn_ k0 k1
    have FF3 : Hid (Box5 f (.int .i64 pS) (.slice aS S.length cS) (.slice ax x.length cx) (.int .i64 pS) (.int .i64 F) w3) := FN.1
    clear FN
    obtain ⟨f0, f1, f2, f3, f4⟩ := FF3.out
    obtain ⟨k0, k1⟩ := SS3.out
    go_wp2_with (go_at_call 101; ((with_reducible refine (inverse_own pS aS S cS loS tpS ax x cx lox tpx F w3 HI.out (HS.out.below HB3.out tS) (Nat.le_trans tS HB3.out.size) (Hx.out.below HB3.out tx) (Nat.le_trans tx HB3.out.size) HMX.out HFE.out).mono ?_); rintro e w4 ⟨r, c, rfl, o_, b_⟩; have SS4 := Lib.hid (ss2 b_ hd3 SS3.out); have HB4 := Lib.hid (below_step HB3.out HB3.out.size b_); have hd4 := Nat.lt_of_lt_of_le hd3 b_.size; have FF4 := Lib.hid (FF3.out.below b_ ff3); have ff4 := Nat.lt_of_lt_of_le ff3 b_.size; have OO := Lib.hid (OwnR.mono' o_ (Nat.le_of_lt hd3) (Nat.le_refl _)); clear o_; clear k0 k1; obtain ⟨k0, k1⟩ := SS4.out; clear f0 f1 f2 f3 f4; obtain ⟨f0, f1, f2, f3, f4⟩ := FF4.out; clear b_))
    go_ret2
    rw [HV.out, HC.out]
    exact ⟨r, c, rfl, OO.out, HB4.out⟩
  · have HV : Hid (viV pS S x = []) := by show _ = _; unfold viV; rw [if_neg hc]
    have HC : Hid (vrC pS S x ≠ 0) := hc
    obtain ⟨C, hC⟩ : ∃ c, c = vrC pS S x := ⟨_, rfl⟩
    have hc1 : (C != 0) = true := by rw [hC]; simpa using hc
    have HCE := Lib.hid hC
    clear hc hC
    go_enter Tryz.func18, Tryz.ntmps18
    go_upto_region 1 with fail
    obtain ⟨w1, hw1⟩ : ∃ z, z = w.alloc (.cells #[.int .i64 pS, .slice aS S.length cS] 26) := ⟨_, rfl⟩
    rw [← hw1] at HB0 k0 k1 ⊢
    have hd1 : w.heap.size < w1.heap.size := by rw [hw1]; simp
    have HB1 := HB0
    clear hw1
    have SS1 := Lib.hid (And.intro k0 k1)
    go_upto_region 2 with (go_at_call 100; ((with_reducible refine (checkVersor_n pS aS S cS loS tpS ax x cx lox tpx w1 (HS.out.below HB1.out tS) (Nat.le_trans tS HB1.out.size) sS (Hx.out.below HB1.out tx) (Nat.le_trans tx HB1.out.size) sx HC.out).mono ?_); rintro e w2 ⟨rfl, b_⟩; rw [← HCE.out]; have SS2 := Lib.hid (ss2 b_ hd1 SS1.out); have HB2 := Lib.hid (below_step HB1.out HB1.out.size b_); have hd2 := Nat.lt_of_lt_of_le hd1 b_.size; clear k0 k1; obtain ⟨k0, k1⟩ := SS2.out; clear b_))
    obtain ⟨w3, hwn⟩ : ∃ z, z = w2.alloc (.cells #[.int .i64 0, .slice none 0 0, .slice none 0 0, .int .i64 0, .int .i64 0] 86) := ⟨_, rfl⟩
    obtain ⟨f, hf⟩ : ∃ b, b = w2.heap.size := ⟨_, rfl⟩
    have FN := V5.new w2 (.int .i64 0) (.slice none 0 0) (.slice none 0 0) (.int .i64 0) (.int .i64 0) 86
    rw [← hwn, ← hf] at FN
    have bn_ : Below w2.heap.size w2 w3 := by rw [hwn]; exact below_alloc _ _
    have ff3 : f < w3.heap.size := by rw [hwn, hf]; simp
    have lf : w.heap.size < f := by rw [hf]; exact hd2
    have SS3 := Lib.hid (ss2 bn_ hd2 SS2.out)
    have HB3 := Lib.hid (below_step HB2.out HB2.out.size bn_)
    have hd3 := Nat.lt_of_lt_of_le hd2 bn_.size
    rw [← hwn, ← hf]
    clear hwn hf bn_ k0 k1
    have FF3 : Hid (Box5 f (.int .i64 0) (.slice none 0 0) (.slice none 0 0) (.int .i64 0) (.int .i64 0) w3) := FN.1
    clear FN
    obtain ⟨f0, f1, f2, f3, f4⟩ := FF3.out
    obtain ⟨k0, k1⟩ := SS3.out
    go_wp2
    go_ret2
    rw [HV.out, ← HCE.out]
    exact ⟨none, 0, rfl, .inl rfl, HB3.out⟩

set_option maxRecDepth 100000 in
set_option maxHeartbeats 6400000 in
theorem impl_SandwichOfMultivector (pS : Int) (aS : Option Addr) (S : List Int) (cS loS tpS : Nat) (ax : Option Addr) (x : List Int) (cx lox tpx : Nat) (ay : Option Addr) (y : List Int) (cy loy tpy : Nat) (w : World) (hS : RowIn loS tpS w aS S) (tS : tpS ≤ w.heap.size) (sS : S.length ≤ 1048576) (hx : RowIn lox tpx w ax x) (tx : tpx ≤ w.heap.size) (sx : x.length ≤ 1048576) (hy : RowIn loy tpy w ay y) (ty : tpy ≤ w.heap.size) (sy : y.length ≤ 1048576) :
    Calls Tryz.prog 29 #[.agg #[.int .i64 pS, .slice aS S.length cS], .slice ax x.length cx, .slice ay y.length cy] w (ImplR (smV pS S x y) (smC pS S x y) w) := by
  have HS := Lib.hid hS
  have Hx := Lib.hid hx
  have Hy := Lib.hid hy
  have k0 := nw0 w (.int .i64 pS) (.slice aS S.length cS) 26
  have k1 := nw1 w (.int .i64 pS) (.slice aS S.length cS) 26
  have HB0 := Lib.hid (below_alloc w (.cells #[.int .i64 pS, .slice aS S.length cS] 26))
  clear hS hx hy
  by_cases hy0 : codeMv pS S [y] = 0
  · have HY0 := Lib.hid hy0
    have HMY := Lib.hid (codeMv_one hy0)
    by_cases hc : vrC pS S x = 0
    · have HVC : Hid (smV pS S x y = swM pS S x y ∧ smC pS S x y = 0) := by
        have e : smC pS S x y = 0 := by unfold smC; rw [if_pos hy0]; exact hc
        exact ⟨by unfold smV; rw [if_pos e], e⟩
      clear hy0
      have HC := Lib.hid hc
      have hz := vrC_zero hc
      have HI := Lib.hid hz.1
      have HMX := Lib.hid hz.2.1
      obtain ⟨F, hF⟩ : ∃ f, f = nrF pS S x := ⟨_, rfl⟩
      have HFE := Lib.hid hF
      clear hc hz hF
      go_enter Tryz.func29, Tryz.ntmps29
      go_upto_region 1 with fail
      obtain ⟨w1, hw1⟩ : ∃ z, z = w.alloc (.cells #[.int .i64 pS, .slice aS S.length cS] 26) := ⟨_, rfl⟩
      rw [← hw1] at HB0 k0 k1 ⊢
      have hd1 : w.heap.size < w1.heap.size := by rw [hw1]; simp
      have HB1 := HB0
      clear hw1
      have SS1 := Lib.hid (And.intro k0 k1)
      go_upto_region 5 with (first | (go_at_call 110; ((with_reducible refine (checkM1 pS aS S cS loS tpS ay y cy loy tpy _ _ w1 _ rfl (HS.out.below HB1.out tS) (Nat.le_trans tS HB1.out.size) sS (Hy.out.below HB1.out ty) (Nat.le_trans ty HB1.out.size) sy).mono ?_); rintro e w2 ⟨rfl, b_⟩; rw [HY0.out]; have b2_ := below_step (below_alloc w1 (.cells #[.slice ay y.length cy] 24)) (size_alloc w1 (.cells #[.slice ay y.length cy] 24)) b_; have SS2 := Lib.hid (ss2 b2_ hd1 SS1.out); have HB2 := Lib.hid (below_step HB1.out HB1.out.size b2_); have hd2 := Nat.lt_of_lt_of_le hd1 b2_.size; clear k0 k1; obtain ⟨k0, k1⟩ := SS2.out; clear b_ b2_)) | (go_at_call 100; ((with_reducible refine (checkVersor_y pS aS S cS loS tpS ax x cx lox tpx w2 (HS.out.below HB2.out tS) (Nat.le_trans tS HB2.out.size) sS (Hx.out.below HB2.out tx) (Nat.le_trans tx HB2.out.size) sx HC.out).mono ?_); rintro e w3 ⟨rfl, b_⟩; rw [← HFE.out]; have SS3 := Lib.hid (ss2 b_ hd2 SS2.out); have HB3 := Lib.hid (below_step HB2.out HB2.out.size b_); have hd3 := Nat.lt_of_lt_of_le hd2 b_.size; clear k0 k1; obtain ⟨k0, k1⟩ := SS3.out; clear b_)))
      obtain ⟨w4, hwn⟩ : ∃ z, z = w3.alloc (.cells #[.int .i64 pS, .slice aS S.length cS, .slice ax x.length cx, .int .i64 pS, .int .i64 F] 86) := ⟨_, rfl⟩
      obtain ⟨f, hf⟩ : ∃ b, b = w3.heap.size := ⟨_, rfl⟩
      have FN := V5.new w3 (.int .i64 pS) (.slice aS S.length cS) (.slice ax x.length cx) (.int .i64 pS) (.int .i64 F) 86
      rw [← hwn, ← hf] at FN
      have bn_ : Below w3.heap.size w3 w4 := by rw [hwn]; exact below_alloc _ _
      have ff4 : f < w4.heap.size := by rw [hwn, hf]; simp
      have lf : w.heap.size < f := by rw [hf]; exact hd3
      have SS4 := Lib.hid (ss2 bn_ hd3 SS3.out)
      have HB4 := Lib.hid (below_step HB3.out HB3.out.size bn_)
      have hd4 := Nat.lt_of_lt_of_le hd3 bn_.size
      rw [← hwn, ← hf]
      clear hwn hf bn_ k0 k1
      have FF4 : Hid (Box5 f (.int .i64 pS) (.slice aS S.length cS) (.slice ax x.length cx) (.int .i64 pS) (.int .i64 F) w4) := FN.1
      clear FN
      obtain ⟨f0, f1, f2, f3, f4⟩ := FF4.out
      obtain ⟨k0, k1⟩ := SS4.out
      go_wp2_with (go_at_call 111; ((with_reducible refine (sandwich_own pS aS S cS loS tpS ax x cx lox tpx F ay y cy loy tpy w4 HI.out (HS.out.below HB4.out tS) (Nat.le_trans tS HB4.out.size) (Hx.out.below HB4.out tx) (Nat.le_trans tx HB4.out.size) HMX.out HFE.out (Hy.out.below HB4.out ty) (Nat.le_trans ty HB4.out.size) HMY.out).mono ?_); rintro e w5 ⟨r, c, rfl, o_, b_⟩; have SS5 := Lib.hid (ss2 b_ hd4 SS4.out); have HB5 := Lib.hid (below_step HB4.out HB4.out.size b_); have hd5 := Nat.lt_of_lt_of_le hd4 b_.size; have FF5 := Lib.hid (FF4.out.below b_ ff4); have ff5 := Nat.lt_of_lt_of_le ff4 b_.size; have OO := Lib.hid (OwnR.mono' o_ (Nat.le_of_lt hd4) (Nat.le_refl _)); clear o_; clear k0 k1; obtain ⟨k0, k1⟩ := SS5.out; clear f0 f1 f2 f3 f4; obtain ⟨f0, f1, f2, f3, f4⟩ := FF5.out; clear b_))
      go_ret2
      rw [HVC.out.1, HVC.out.2]
      exact ⟨r, c, rfl, OO.out, HB5.out⟩
    · have HVC : Hid (smV pS S x y = [] ∧ smC pS S x y = vrC pS S x) := by
        have e : smC pS S x y = vrC pS S x := by unfold smC; rw [if_pos hy0]
        exact ⟨by unfold smV; rw [if_neg (by rw [e]; exact hc)], e⟩
      clear hy0
      have HC : Hid (vrC pS S x ≠ 0) := hc
      obtain ⟨C, hC⟩ : ∃ c, c = vrC pS S x := ⟨_, rfl⟩
      have hc1 : (C != 0) = true := by rw [hC]; simpa using hc
      have HCE := Lib.hid hC
      clear hc hC
      go_enter Tryz.func29, Tryz.ntmps29
      go_upto_region 1 with fail
      obtain ⟨w1, hw1⟩ : ∃ z, z = w.alloc (.cells #[.int .i64 pS, .slice aS S.length cS] 26) := ⟨_, rfl⟩
      rw [← hw1] at HB0 k0 k1 ⊢
      have hd1 : w.heap.size < w1.heap.size := by rw [hw1]; simp
      have HB1 := HB0
      clear hw1
      have SS1 := Lib.hid (And.intro k0 k1)
      go_upto_region 5 with (first | (go_at_call 110; ((with_reducible refine (checkM1 pS aS S cS loS tpS ay y cy loy tpy _ _ w1 _ rfl (HS.out.below HB1.out tS) (Nat.le_trans tS HB1.out.size) sS (Hy.out.below HB1.out ty) (Nat.le_trans ty HB1.out.size) sy).mono ?_); rintro e w2 ⟨rfl, b_⟩; rw [HY0.out]; have b2_ := below_step (below_alloc w1 (.cells #[.slice ay y.length cy] 24)) (size_alloc w1 (.cells #[.slice ay y.length cy] 24)) b_; have SS2 := Lib.hid (ss2 b2_ hd1 SS1.out); have HB2 := Lib.hid (below_step HB1.out HB1.out.size b2_); have hd2 := Nat.lt_of_lt_of_le hd1 b2_.size; clear k0 k1; obtain ⟨k0, k1⟩ := SS2.out; clear b_ b2_)) | (go_at_call 100; ((with_reducible refine (checkVersor_n pS aS S cS loS tpS ax x cx lox tpx w2 (HS.out.below HB2.out tS) (Nat.le_trans tS HB2.out.size) sS (Hx.out.below HB2.out tx) (Nat.le_trans tx HB2.out.size) sx HC.out).mono ?_); rintro e w3 ⟨rfl, b_⟩; rw [← HCE.out]; have SS3 := Lib.hid (ss2 b_ hd2 SS2.out); have HB3 := Lib.hid (below_step HB2.out HB2.out.size b_); have hd3 := Nat.lt_of_lt_of_le hd2 b_.size; clear k0 k1; obtain ⟨k0, k1⟩ := SS3.out; clear b_)))
      obtain ⟨w4, hwn⟩ : ∃ z, z = w3.alloc (.cells #[.int .i64 0, .slice none 0 0, .slice none 0 0, .int .i64 0, .int .i64 0] 86) := ⟨_, rfl⟩
      obtain ⟨f, hf⟩ : ∃ b, b = w3.heap.size := ⟨_, rfl⟩
      have FN := V5.new w3 (.int .i64 0) (.slice none 0 0) (.slice none 0 0) (.int .i64 0) (.int .i64 0) 86
      rw [← hwn, ← hf] at FN
      have bn_ : Below w3.heap.size w3 w4 := by rw [hwn]; exact below_alloc _ _
      have ff4 : f < w4.heap.size := by rw [hwn, hf]; simp
      have lf : w.heap.size < f := by rw [hf]; exact hd3
      have SS4 := Lib.hid (ss2 bn_ hd3 SS3.out)
      have HB4 := Lib.hid (below_step HB3.out HB3.out.size bn_)
      have hd4 := Nat.lt_of_lt_of_le hd3 bn_.size
      rw [← hwn, ← hf]
      clear hwn hf bn_ k0 k1
      have FF4 : Hid (Box5 f (.int .i64 0) (.slice none 0 0) (.slice none 0 0) (.int .i64 0) (.int .i64 0) w4) := FN.1
      clear FN
      obtain ⟨f0, f1, f2, f3, f4⟩ := FF4.out
      obtain ⟨k0, k1⟩ := SS4.out
      go_wp2
      go_ret2
      rw [HVC.out.1, HVC.out.2, ← HCE.out]
      exact ⟨none, 0, rfl, .inl rfl, HB4.out⟩
  · obtain ⟨C, hC⟩ : ∃ c, c = codeMv pS S [y] := ⟨_, rfl⟩
    have hc1 : (C != 0) = true := by rw [hC]; simpa using hy0
    have HCE := Lib.hid hC
    have HVC : Hid (smV pS S x y = [] ∧ smC pS S x y = codeMv pS S [y]) := by
      have e : smC pS S x y = codeMv pS S [y] := by unfold smC; rw [if_neg hy0]
      exact ⟨by unfold smV; rw [if_neg (by rw [e]; exact hy0)], e⟩
    clear hy0 hC
    go_enter Tryz.func29, Tryz.ntmps29
    go_upto_region 1 with fail
    obtain ⟨w1, hw1⟩ : ∃ z, z = w.alloc (.cells #[.int .i64 pS, .slice aS S.length cS] 26) := ⟨_, rfl⟩
    rw [← hw1] at HB0 k0 k1 ⊢
    have hd1 : w.heap.size < w1.heap.size := by rw [hw1]; simp
    have HB1 := HB0
    clear hw1
    have SS1 := Lib.hid (And.intro k0 k1)
    go_wp2_with (go_at_call 110; ((with_reducible refine (checkM1 pS aS S cS loS tpS ay y cy loy tpy _ _ w1 _ rfl (HS.out.below HB1.out tS) (Nat.le_trans tS HB1.out.size) sS (Hy.out.below HB1.out ty) (Nat.le_trans ty HB1.out.size) sy).mono ?_); rintro e w2 ⟨rfl, b_⟩; rw [← HCE.out]; have b2_ := below_step (below_alloc w1 (.cells #[.slice ay y.length cy] 24)) (size_alloc w1 (.cells #[.slice ay y.length cy] 24)) b_; have SS2 := Lib.hid (ss2 b2_ hd1 SS1.out); have HB2 := Lib.hid (below_step HB1.out HB1.out.size b2_); have hd2 := Nat.lt_of_lt_of_le hd1 b2_.size; clear k0 k1; obtain ⟨k0, k1⟩ := SS2.out; clear b_ b2_))
    go_ret2
    rw [HVC.out.1, HVC.out.2, ← HCE.out]
    exact ⟨none, 0, rfl, .inl rfl, HB2.out⟩

set_option maxRecDepth 100000 in
set_option maxHeartbeats 6400000 in
theorem impl_SandwichOf (pS : Int) (aS : Option Addr) (S : List Int) (cS loS tpS : Nat) (ax : Option Addr) (x : List Int) (cx lox tpx : Nat) (av : Option Addr) (v : List Int) (cv lov tpv : Nat) (w : World) (hS : RowIn loS tpS w aS S) (tS : tpS ≤ w.heap.size) (sS : S.length ≤ 1048576) (hx : RowIn lox tpx w ax x) (tx : tpx ≤ w.heap.size) (sx : x.length ≤ 1048576) (hv : RowIn lov tpv w av v) (tv : tpv ≤ w.heap.size) (sv : v.length ≤ 1048576) :
    Calls Tryz.prog 22 #[.agg #[.int .i64 pS, .slice aS S.length cS], .slice ax x.length cx, .slice av v.length cv] w (ImplR (sdV pS S x v) (sdC pS S x v) w) := by
  have HS := Lib.hid hS
  have Hx := Lib.hid hx
  have Hv := Lib.hid hv
  have k0 := nw0 w (.int .i64 pS) (.slice aS S.length cS) 26
  have k1 := nw1 w (.int .i64 pS) (.slice aS S.length cS) 26
  have HB0 := Lib.hid (below_alloc w (.cells #[.int .i64 pS, .slice aS S.length cS] 26))
  clear hS hx hv
  by_cases hy0 : codeVs pS S [v] = 0
  · have HY0 := Lib.hid hy0
    have HMY := Lib.hid (codeVs_v1 hy0)
    by_cases hc : vrC pS S x = 0
    · have HVC : Hid (sdV pS S x v = sdM pS S x v ∧ sdC pS S x v = 0) := by
        have e : sdC pS S x v = 0 := by unfold sdC; rw [if_pos hy0]; exact hc
        exact ⟨by unfold sdV; rw [if_pos e], e⟩
      clear hy0
      have HC := Lib.hid hc
      have hz := vrC_zero hc
      have HI := Lib.hid hz.1
      have HMX := Lib.hid hz.2.1
      obtain ⟨F, hF⟩ : ∃ f, f = nrF pS S x := ⟨_, rfl⟩
      have HFE := Lib.hid hF
      clear hc hz hF
      go_enter Tryz.func22, Tryz.ntmps22
      go_upto_region 1 with fail
      obtain ⟨w1, hw1⟩ : ∃ z, z = w.alloc (.cells #[.int .i64 pS, .slice aS S.length cS] 26) := ⟨_, rfl⟩
      rw [← hw1] at HB0 k0 k1 ⊢
      have hd1 : w.heap.size < w1.heap.size := by rw [hw1]; simp
      have HB1 := HB0
      clear hw1
      have SS1 := Lib.hid (And.intro k0 k1)
      go_upto_region 5 with (first | (go_at_call 104; ((with_reducible refine (checkW1 pS aS S cS loS tpS av v cv lov tpv _ _ w1 _ rfl (HS.out.below HB1.out tS) (Nat.le_trans tS HB1.out.size) sS (Hv.out.below HB1.out tv) (Nat.le_trans tv HB1.out.size) sv).mono ?_); rintro e w2 ⟨rfl, b_⟩; rw [HY0.out]; have b2_ := below_step (below_alloc w1 (.cells #[.slice av v.length cv] 24)) (size_alloc w1 (.cells #[.slice av v.length cv] 24)) b_; have SS2 := Lib.hid (ss2 b2_ hd1 SS1.out); have HB2 := Lib.hid (below_step HB1.out HB1.out.size b2_); have hd2 := Nat.lt_of_lt_of_le hd1 b2_.size; clear k0 k1; obtain ⟨k0, k1⟩ := SS2.out; clear b_ b2_)) | (go_at_call 100; ((with_reducible refine (checkVersor_y pS aS S cS loS tpS ax x cx lox tpx w2 (HS.out.below HB2.out tS) (Nat.le_trans tS HB2.out.size) sS (Hx.out.below HB2.out tx) (Nat.le_trans tx HB2.out.size) sx HC.out).mono ?_); rintro e w3 ⟨rfl, b_⟩; rw [← HFE.out]; have SS3 := Lib.hid (ss2 b_ hd2 SS2.out); have HB3 := Lib.hid (below_step HB2.out HB2.out.size b_); have hd3 := Nat.lt_of_lt_of_le hd2 b_.size; clear k0 k1; obtain ⟨k0, k1⟩ := SS3.out; clear b_)))
      obtain ⟨w4, hwn⟩ : ∃ z, z = w3.alloc (.cells #[.int .i64 pS, .slice aS S.length cS, .slice ax x.length cx, .int .i64 pS, .int .i64 F] 86) := ⟨_, rfl⟩
      obtain ⟨f, hf⟩ : ∃ b, b = w3.heap.size := ⟨_, rfl⟩
      have FN := V5.new w3 (.int .i64 pS) (.slice aS S.length cS) (.slice ax x.length cx) (.int .i64 pS) (.int .i64 F) 86
      rw [← hwn, ← hf] at FN
      have bn_ : Below w3.heap.size w3 w4 := by rw [hwn]; exact below_alloc _ _
      have ff4 : f < w4.heap.size := by rw [hwn, hf]; simp
      have lf : w.heap.size < f := by rw [hf]; exact hd3
      have SS4 := Lib.hid (ss2 bn_ hd3 SS3.out)
      have HB4 := Lib.hid (below_step HB3.out HB3.out.size bn_)
      have hd4 := Nat.lt_of_lt_of_le hd3 bn_.size
      rw [← hwn, ← hf]
      clear hwn hf bn_ k0 k1
      have FF4 : Hid (Box5 f (.int .i64 pS) (.slice aS S.length cS) (.slice ax x.length cx) (.int .i64 pS) (.int .i64 F) w4) := FN.1
      clear FN
      obtain ⟨f0, f1, f2, f3, f4⟩ := FF4.out
      obtain ⟨k0, k1⟩ := SS4.out
      go_wp2_with (go_at_call 105; ((with_reducible refine (leadVector_v pS aS S cS loS tpS ax x cx lox tpx F av v cv lov tpv w4 HI.out (HS.out.below HB4.out tS) (Nat.le_trans tS HB4.out.size) (Hx.out.below HB4.out tx) (Nat.le_trans tx HB4.out.size) HMX.out HFE.out (Hv.out.below HB4.out tv) (Nat.le_trans tv HB4.out.size) HMY.out).mono ?_); rintro e w5 ⟨r, c, rfl, o_, b_⟩; have SS5 := Lib.hid (ss2 b_ hd4 SS4.out); have HB5 := Lib.hid (below_step HB4.out HB4.out.size b_); have hd5 := Nat.lt_of_lt_of_le hd4 b_.size; have FF5 := Lib.hid (FF4.out.below b_ ff4); have ff5 := Nat.lt_of_lt_of_le ff4 b_.size; have OO := Lib.hid (OwnR.mono' o_ (Nat.le_of_lt hd4) (Nat.le_refl _)); clear o_; clear k0 k1; obtain ⟨k0, k1⟩ := SS5.out; clear f0 f1 f2 f3 f4; obtain ⟨f0, f1, f2, f3, f4⟩ := FF5.out; clear b_))
      go_ret2
      rw [HVC.out.1, HVC.out.2]
      exact ⟨r, c, rfl, OO.out, HB5.out⟩
    · have HVC : Hid (sdV pS S x v = [] ∧ sdC pS S x v = vrC pS S x) := by
        have e : sdC pS S x v = vrC pS S x := by unfold sdC; rw [if_pos hy0]
        exact ⟨by unfold sdV; rw [if_neg (by rw [e]; exact hc)], e⟩
      clear hy0
      have HC : Hid (vrC pS S x ≠ 0) := hc
      obtain ⟨C, hC⟩ : ∃ c, c = vrC pS S x := ⟨_, rfl⟩
      have hc1 : (C != 0) = true := by rw [hC]; simpa using hc
      have HCE := Lib.hid hC
      clear hc hC
      go_enter Tryz.func22, Tryz.ntmps22
      go_upto_region 1 with fail
      obtain ⟨w1, hw1⟩ : ∃ z, z = w.alloc (.cells #[.int .i64 pS, .slice aS S.length cS] 26) := ⟨_, rfl⟩
      rw [← hw1] at HB0 k0 k1 ⊢
      have hd1 : w.heap.size < w1.heap.size := by rw [hw1]; simp
      have HB1 := HB0
      clear hw1
      have SS1 := Lib.hid (And.intro k0 k1)
      go_upto_region 5 with (first | (go_at_call 104; ((with_reducible refine (checkW1 pS aS S cS loS tpS av v cv lov tpv _ _ w1 _ rfl (HS.out.below HB1.out tS) (Nat.le_trans tS HB1.out.size) sS (Hv.out.below HB1.out tv) (Nat.le_trans tv HB1.out.size) sv).mono ?_); rintro e w2 ⟨rfl, b_⟩; rw [HY0.out]; have b2_ := below_step (below_alloc w1 (.cells #[.slice av v.length cv] 24)) (size_alloc w1 (.cells #[.slice av v.length cv] 24)) b_; have SS2 := Lib.hid (ss2 b2_ hd1 SS1.out); have HB2 := Lib.hid (below_step HB1.out HB1.out.size b2_); have hd2 := Nat.lt_of_lt_of_le hd1 b2_.size; clear k0 k1; obtain ⟨k0, k1⟩ := SS2.out; clear b_ b2_)) | (go_at_call 100; ((with_reducible refine (checkVersor_n pS aS S cS loS tpS ax x cx lox tpx w2 (HS.out.below HB2.out tS) (Nat.le_trans tS HB2.out.size) sS (Hx.out.below HB2.out tx) (Nat.le_trans tx HB2.out.size) sx HC.out).mono ?_); rintro e w3 ⟨rfl, b_⟩; rw [← HCE.out]; have SS3 := Lib.hid (ss2 b_ hd2 SS2.out); have HB3 := Lib.hid (below_step HB2.out HB2.out.size b_); have hd3 := Nat.lt_of_lt_of_le hd2 b_.size; clear k0 k1; obtain ⟨k0, k1⟩ := SS3.out; clear b_)))
      obtain ⟨w4, hwn⟩ : ∃ z, z = w3.alloc (.cells #[.int .i64 0, .slice none 0 0, .slice none 0 0, .int .i64 0, .int .i64 0] 86) := ⟨_, rfl⟩
      obtain ⟨f, hf⟩ : ∃ b, b = w3.heap.size := ⟨_, rfl⟩
      have FN := V5.new w3 (.int .i64 0) (.slice none 0 0) (.slice none 0 0) (.int .i64 0) (.int .i64 0) 86
      rw [← hwn, ← hf] at FN
      have bn_ : Below w3.heap.size w3 w4 := by rw [hwn]; exact below_alloc _ _
      have ff4 : f < w4.heap.size := by rw [hwn, hf]; simp
      have lf : w.heap.size < f := by rw [hf]; exact hd3
      have SS4 := Lib.hid (ss2 bn_ hd3 SS3.out)
      have HB4 := Lib.hid (below_step HB3.out HB3.out.size bn_)
      have hd4 := Nat.lt_of_lt_of_le hd3 bn_.size
      rw [← hwn, ← hf]
      clear hwn hf bn_ k0 k1
      have FF4 : Hid (Box5 f (.int .i64 0) (.slice none 0 0) (.slice none 0 0) (.int .i64 0) (.int .i64 0) w4) := FN.1
      clear FN
      obtain ⟨f0, f1, f2, f3, f4⟩ := FF4.out
      obtain ⟨k0, k1⟩ := SS4.out
      go_wp2_with (go_at_call 105; ((with_reducible refine (leadVector_c _ av v.length cv C w4 hc1).mono ?_); rintro e w' ⟨rfl, rfl⟩))
      go_ret2
      rw [HVC.out.1, HVC.out.2, ← HCE.out]
      exact ⟨none, 0, rfl, .inl rfl, HB4.out⟩
  · obtain ⟨C, hC⟩ : ∃ c, c = codeVs pS S [v] := ⟨_, rfl⟩
    have hc1 : (C != 0) = true := by rw [hC]; simpa using hy0
    have HCE := Lib.hid hC
    have HVC : Hid (sdV pS S x v = [] ∧ sdC pS S x v = codeVs pS S [v]) := by
      have e : sdC pS S x v = codeVs pS S [v] := by unfold sdC; rw [if_neg hy0]
      exact ⟨by unfold sdV; rw [if_neg (by rw [e]; exact hy0)], e⟩
    clear hy0 hC
    go_enter Tryz.func22, Tryz.ntmps22
    go_upto_region 1 with fail
    obtain ⟨w1, hw1⟩ : ∃ z, z = w.alloc (.cells #[.int .i64 pS, .slice aS S.length cS] 26) := ⟨_, rfl⟩
    rw [← hw1] at HB0 k0 k1 ⊢
    have hd1 : w.heap.size < w1.heap.size := by rw [hw1]; simp
    have HB1 := HB0
    clear hw1
    have SS1 := Lib.hid (And.intro k0 k1)
    go_wp2_with (go_at_call 104; ((with_reducible refine (checkW1 pS aS S cS loS tpS av v cv lov tpv _ _ w1 _ rfl (HS.out.below HB1.out tS) (Nat.le_trans tS HB1.out.size) sS (Hv.out.below HB1.out tv) (Nat.le_trans tv HB1.out.size) sv).mono ?_); rintro e w2 ⟨rfl, b_⟩; rw [← HCE.out]; have b2_ := below_step (below_alloc w1 (.cells #[.slice av v.length cv] 24)) (size_alloc w1 (.cells #[.slice av v.length cv] 24)) b_; have SS2 := Lib.hid (ss2 b2_ hd1 SS1.out); have HB2 := Lib.hid (below_step HB1.out HB1.out.size b2_); have hd2 := Nat.lt_of_lt_of_le hd1 b2_.size; clear k0 k1; obtain ⟨k0, k1⟩ := SS2.out; clear b_ b2_))
    go_ret2
    rw [HVC.out.1, HVC.out.2, ← HCE.out]
    exact ⟨none, 0, rfl, .inl rfl, HB2.out⟩

set_option maxRecDepth 100000 in
set_option maxHeartbeats 6400000 in
theorem impl_UnitVersor (pS : Int) (aS : Option Addr) (S : List Int) (cS loS tpS : Nat) (ax : Option Addr) (x : List Int) (cx lox tpx : Nat) (w : World) (hS : RowIn loS tpS w aS S) (tS : tpS ≤ w.heap.size) (sS : S.length ≤ 1048576) (hx : RowIn lox tpx w ax x) (tx : tpx ≤ w.heap.size) (sx : x.length ≤ 1048576) :
    Calls Tryz.prog 34 #[.agg #[.int .i64 pS, .slice aS S.length cS], .slice ax x.length cx] w (ImplR (uvV pS S x) (uvC pS S x) w) := by
  have HS := Lib.hid hS
  have Hx := Lib.hid hx
  have k0 := nw0 w (.int .i64 pS) (.slice aS S.length cS) 26
  have k1 := nw1 w (.int .i64 pS) (.slice aS S.length cS) 26
  have HB0 := Lib.hid (below_alloc w (.cells #[.int .i64 pS, .slice aS S.length cS] 26))
  clear hS hx
  by_cases hc : vrC pS S x = 0
  · by_cases hr : 0 ≤ rt pS (nrF pS S x)
    · have HVC : Hid (uvV pS S x = sclV pS x (inv pS (rt pS (nrF pS S x))) ∧ uvC pS S x = 0) := by
        have e : uvC pS S x = 0 := by unfold uvC; rw [if_pos hc, if_neg (by omega)]
        exact ⟨by unfold uvV; rw [if_pos e], e⟩
      have HC := Lib.hid hc
      have hz := vrC_zero hc
      have HI := Lib.hid hz.1
      have HMX := Lib.hid hz.2.1
      obtain ⟨F, hF⟩ : ∃ f, f = nrF pS S x := ⟨_, rfl⟩
      have HFE := Lib.hid hF
      clear hc hz hF
      have HR0 : Hid (0 ≤ rt pS F) := by show _ ≤ _; rw [HFE.out]; exact hr
      obtain ⟨R, hR⟩ : ∃ r, r = rt pS F := ⟨_, rfl⟩
      have HRE := Lib.hid hR
      have HFB : Hid (0 ≤ F ∧ F < pS) := by show _ ∧ _; rw [HFE.out]; exact nrF_bd HI.out x
      have HRB : Hid (0 ≤ R ∧ R < pS) := by show _ ∧ _; rw [hR]; exact ⟨HR0.out, (rt_bd (isSp_iff.1 HI.out).prime HFB.out.1 HFB.out.2).2⟩
      have hx64 : x.length ≤ 64 := mv_small HI.out HMX.out
      have hx0 : 0 < x.length := by rw [Mv.len HMX.out]; exact bl_pos S
      clear hr hR
      go_enter Tryz.func34, Tryz.ntmps34
      go_upto_region 1 with fail
      obtain ⟨w1, hw1⟩ : ∃ z, z = w.alloc (.cells #[.int .i64 pS, .slice aS S.length cS] 26) := ⟨_, rfl⟩
      rw [← hw1] at HB0 k0 k1 ⊢
      have hd1 : w.heap.size < w1.heap.size := by rw [hw1]; simp
      have HB1 := HB0
      clear hw1
      have SS1 := Lib.hid (And.intro k0 k1)
      go_upto_region 2 with (go_at_call 100; ((with_reducible refine (checkVersor_y pS aS S cS loS tpS ax x cx lox tpx w1 (HS.out.below HB1.out tS) (Nat.le_trans tS HB1.out.size) sS (Hx.out.below HB1.out tx) (Nat.le_trans tx HB1.out.size) sx HC.out).mono ?_); rintro e w2 ⟨rfl, b_⟩; rw [← HFE.out]; have SS2 := Lib.hid (ss2 b_ hd1 SS1.out); have HB2 := Lib.hid (below_step HB1.out HB1.out.size b_); have hd2 := Nat.lt_of_lt_of_le hd1 b_.size; clear k0 k1; obtain ⟨k0, k1⟩ := SS2.out; clear b_))
      obtain ⟨w3, hwn⟩ : ∃ z, z = w2.alloc (.cells #[.int .i64 pS, .slice aS S.length cS, .slice ax x.length cx, .int .i64 pS, .int .i64 F] 86) := ⟨_, rfl⟩
      obtain ⟨f, hf⟩ : ∃ b, b = w2.heap.size := ⟨_, rfl⟩
      have FN := V5.new w2 (.int .i64 pS) (.slice aS S.length cS) (.slice ax x.length cx) (.int .i64 pS) (.int .i64 F) 86
      rw [← hwn, ← hf] at FN
      have bn_ : Below w2.heap.size w2 w3 := by rw [hwn]; exact below_alloc _ _
      have ff3 : f < w3.heap.size := by rw [hwn, hf]; simp
      have lf : w.heap.size < f := by rw [hf]; exact hd2
      have SS3 := Lib.hid (ss2 bn_ hd2 SS2.out)
      have HB3 := Lib.hid (below_step HB2.out HB2.out.size bn_)
      have hd3 := Nat.lt_of_lt_of_le hd2 bn_.size
      rw [← hwn, ← hf]
      clear hwn hf bn_ k0 k1
      have FF3 : Hid (Box5 f (.int .i64 pS) (.slice aS S.length cS) (.slice ax x.length cx) (.int .i64 pS) (.int .i64 F) w3) := FN.1
      clear FN
      obtain ⟨f0, f1, f2, f3, f4⟩ := FF3.out
      obtain ⟨k0, k1⟩ := SS3.out
      go_upto_region 5 with (go_at_call 122; ((with_reducible refine (root_yes pS F R w3 (isSp_iff.1 HI.out).prime HFB.out.1 HFB.out.2 HRE.out HR0.out).mono ?_); rintro e w4 ⟨rfl, b_⟩; have SS4 := Lib.hid (ss2 b_ hd3 SS3.out); have HB4 := Lib.hid (below_step HB3.out HB3.out.size b_); have hd4 := Nat.lt_of_lt_of_le hd3 b_.size; have FF4 := Lib.hid (FF3.out.below b_ ff3); have ff4 := Nat.lt_of_lt_of_le ff3 b_.size; clear k0 k1; obtain ⟨k0, k1⟩ := SS4.out; clear f0 f1 f2 f3 f4; obtain ⟨f0, f1, f2, f3, f4⟩ := FF4.out; clear b_))
      obtain ⟨w5, hwn⟩ : ∃ z, z = w4.alloc (.cells #[.int .i64 pS, .int .i64 R] 84) := ⟨_, rfl⟩
      obtain ⟨m, hm⟩ : ∃ b, b = w4.heap.size := ⟨_, rfl⟩
      have MN : w5.cell? ⟨m, 0, none⟩ = some (.int .i64 pS) ∧ w5.cell? ⟨m, 1, none⟩ = some (.int .i64 R) := by rw [hwn, hm]; exact ⟨by simp [go_sem], by simp [go_sem]⟩
      have bn_ : Below w4.heap.size w4 w5 := by rw [hwn]; exact below_alloc _ _
      have mm5 : m < w5.heap.size := by rw [hwn, hm]; simp
      have lm : w.heap.size < m := by rw [hm]; exact hd4
      have SS5 := Lib.hid (ss2 bn_ hd4 SS4.out)
      have HB5 := Lib.hid (below_step HB4.out HB4.out.size bn_)
      have hd5 := Nat.lt_of_lt_of_le hd4 bn_.size
      have FF5 := Lib.hid (FF4.out.below bn_ ff4)
      have ff5 := Nat.lt_of_lt_of_le ff4 bn_.size
      rw [← hwn, ← hm]
      clear hwn hm bn_ k0 k1 f0 f1 f2 f3 f4
      have MM5 := Lib.hid MN
      clear MN
      obtain ⟨m0, m1⟩ := MM5.out
      obtain ⟨f0, f1, f2, f3, f4⟩ := FF5.out
      obtain ⟨k0, k1⟩ := SS5.out
      go_upto_region 8 with (go_at_call 123; ((with_reducible refine (cloneR ax x cx lox tpx w5 (Hx.out.below HB5.out tx) (Nat.le_trans tx HB5.out.size) hx0 (by omega)).mono ?_); rintro e w6 ⟨r, kc, rfl, o_, b_⟩; have SS6 := Lib.hid (ss2 b_ hd5 SS5.out); have HB6 := Lib.hid (below_step HB5.out HB5.out.size b_); have hd6 := Nat.lt_of_lt_of_le hd5 b_.size; have FF6 := Lib.hid (FF5.out.below b_ ff5); have ff6 := Nat.lt_of_lt_of_le ff5 b_.size; have MM6 := Lib.hid (ss2 b_ mm5 MM5.out); have mm6 := Nat.lt_of_lt_of_le mm5 b_.size; obtain ⟨g, og, rfl, hq0, hq1, hro⟩ := RowOwn.of o_.own hx0; have HRO := Lib.hid hro; clear o_ hro; clear k0 k1; obtain ⟨k0, k1⟩ := SS6.out; clear f0 f1 f2 f3 f4; obtain ⟨f0, f1, f2, f3, f4⟩ := FF6.out; clear m0 m1; obtain ⟨m0, m1⟩ := MM6.out; clear b_))
      have hs2 : Hid (BoxU w.heap.size m pS aS S.length cS R w6.drew) := ⟨SS6.out.1, SS6.out.2, MM6.out.1, MM6.out.2⟩
      have HBE : Hid (Below w.heap.size w w6.drew) := HB6.out.drew
      have hd_ : w.heap.size < w6.drew.heap.size ∧ m < w6.drew.heap.size := ⟨hd6, mm6⟩
      have NN : Hid (RowOwn w6.drew g og x.length (fun j => x.getD j 0)) := ⟨HRO.out.cell, HRO.out.free⟩
      have ug : g < w6.drew.heap.size := hq1
      have hgle : w.heap.size ≤ g := Nat.le_trans (Nat.le_of_lt hd5) hq0
      have hne : w.heap.size ≠ g ∧ m ≠ g := ⟨Nat.ne_of_lt (Nat.lt_of_lt_of_le hd5 hq0), Nat.ne_of_lt (Nat.lt_of_lt_of_le mm5 hq0)⟩
      have hbn : x.length ≤ 100000 := by omega
      have HTB : Hid (∀ j, j < x.length → 0 ≤ (fun j => x.getD j 0) j ∧ (fun j => x.getD j 0) j < pS) := Mv.num HMX.out
      have HIV : Hid (0 ≤ inv pS R ∧ inv pS R < pS) := inv_bd (isSp_iff.1 HI.out).prime R
      have hinv : inv pS R ≤ pS := Int.le_of_lt HIV.out.2
      have hfv := field_value
      clear k0 k1 f0 f1 f2 f3 f4 m0 m1
      go_region_held3 (fun w' => w'.cell? ⟨w.heap.size, 0, none⟩ = some (.int .i64 pS) ∧ w'.cell? ⟨w.heap.size, 1, none⟩ = some (.slice aS S.length cS) ∧ w'.cell? ⟨m, 0, none⟩ = some (.int .i64 pS) ∧ w'.cell? ⟨m, 1, none⟩ = some (.int .i64 R)) (first | exact hs2.out | exact SSp.out | exact SSpq.out | go_keep) (first | (go_at_call 125; (with_reducible refine (inverse_any pS R w6.drew (isSp_iff.1 HI.out).prime HRB.out.1 HRB.out.2).mono ?_); rintro e wp ⟨rfl, b_⟩; have SSp := Lib.hid ((hs2.out).below b_ hd_); have HBp := Lib.hid (below_step HBE.out (Nat.le_of_lt hd_.1) b_); have zz_ := b_.size; have HCp := Lib.hid b_; have hdp := And.intro (Nat.lt_of_lt_of_le hd_.1 zz_) (Nat.lt_of_lt_of_le hd_.2 zz_); clear b_) | (go_at_call 124; (with_reducible refine (scale_any pS (inv pS R) g og x.length kc (fun j => x.getD j 0) wp (isSp_iff.1 HI.out).prime (NN.out.stay (HCp.out.block g ug)) hbn HTB.out HIV.out.1 hinv).mono ?_); rintro e wpq ⟨rfl, o_, q_⟩; have b_ := q_.belowB (hgle); have zz_ : wp.heap.size ≤ wpq.heap.size := Nat.le_of_eq q_.size.symm; have SSpq := Lib.hid ((SSp.out).wrote q_ (hne)); have HBpq := Lib.hid ((HBp.out).trans b_); have hdpq := And.intro (Nat.lt_of_lt_of_le hdp.1 zz_) (Nat.lt_of_lt_of_le hdp.2 zz_); have Ng_pq := Lib.hid o_; clear b_ o_ q_))
      go_wp2
      go_ret2
      have hz := HCp.out.size
      rw [HVC.out.1, HVC.out.2]
      exact ⟨some ⟨g, og, none⟩, kc, by unfold sclV; rw [mkR_len]; rfl, by unfold sclV; rw [← HFE.out, ← HRE.out]; exact Ng_pq.out.own hgle (Nat.lt_of_lt_of_le ug (Nat.le_trans hz zz_)), HBpq.out⟩
    · have HVC : Hid (uvV pS S x = [] ∧ uvC pS S x = 5) := by
        have e : uvC pS S x = 5 := by unfold uvC; rw [if_pos hc, if_pos (by omega)]
        exact ⟨by unfold uvV; rw [if_neg (by rw [e]; decide)], e⟩
      have HC := Lib.hid hc
      have hz := vrC_zero hc
      have HI := Lib.hid hz.1
      have HMX := Lib.hid hz.2.1
      obtain ⟨F, hF⟩ : ∃ f, f = nrF pS S x := ⟨_, rfl⟩
      have HFE := Lib.hid hF
      clear hc hz hF
      have HR0 : Hid (rt pS F < 0) := by show _ < _; rw [HFE.out]; omega
      have HFB : Hid (0 ≤ F ∧ F < pS) := by show _ ∧ _; rw [HFE.out]; exact nrF_bd HI.out x
      clear hr
      go_enter Tryz.func34, Tryz.ntmps34
      go_upto_region 1 with fail
      obtain ⟨w1, hw1⟩ : ∃ z, z = w.alloc (.cells #[.int .i64 pS, .slice aS S.length cS] 26) := ⟨_, rfl⟩
      rw [← hw1] at HB0 k0 k1 ⊢
      have hd1 : w.heap.size < w1.heap.size := by rw [hw1]; simp
      have HB1 := HB0
      clear hw1
      have SS1 := Lib.hid (And.intro k0 k1)
      go_upto_region 2 with (go_at_call 100; ((with_reducible refine (checkVersor_y pS aS S cS loS tpS ax x cx lox tpx w1 (HS.out.below HB1.out tS) (Nat.le_trans tS HB1.out.size) sS (Hx.out.below HB1.out tx) (Nat.le_trans tx HB1.out.size) sx HC.out).mono ?_); rintro e w2 ⟨rfl, b_⟩; rw [← HFE.out]; have SS2 := Lib.hid (ss2 b_ hd1 SS1.out); have HB2 := Lib.hid (below_step HB1.out HB1.out.size b_); have hd2 := Nat.lt_of_lt_of_le hd1 b_.size; clear k0 k1; obtain ⟨k0, k1⟩ := SS2.out; clear b_))
      obtain ⟨w3, hwn⟩ : ∃ z, z = w2.alloc (.cells #[.int .i64 pS, .slice aS S.length cS, .slice ax x.length cx, .int .i64 pS, .int .i64 F] 86) := ⟨_, rfl⟩
      obtain ⟨f, hf⟩ : ∃ b, b = w2.heap.size := ⟨_, rfl⟩
      have FN := V5.new w2 (.int .i64 pS) (.slice aS S.length cS) (.slice ax x.length cx) (.int .i64 pS) (.int .i64 F) 86
      rw [← hwn, ← hf] at FN
      have bn_ : Below w2.heap.size w2 w3 := by rw [hwn]; exact below_alloc _ _
      have ff3 : f < w3.heap.size := by rw [hwn, hf]; simp
      have lf : w.heap.size < f := by rw [hf]; exact hd2
      have SS3 := Lib.hid (ss2 bn_ hd2 SS2.out)
      have HB3 := Lib.hid (below_step HB2.out HB2.out.size bn_)
      have hd3 := Nat.lt_of_lt_of_le hd2 bn_.size
      rw [← hwn, ← hf]
      clear hwn hf bn_ k0 k1
      have FF3 : Hid (Box5 f (.int .i64 pS) (.slice aS S.length cS) (.slice ax x.length cx) (.int .i64 pS) (.int .i64 F) w3) := FN.1
      clear FN
      obtain ⟨f0, f1, f2, f3, f4⟩ := FF3.out
      obtain ⟨k0, k1⟩ := SS3.out
      go_upto_region 5 with (go_at_call 122; ((with_reducible refine (root_no pS F w3 (isSp_iff.1 HI.out).prime HFB.out.1 HFB.out.2 HR0.out).mono ?_); rintro e w4 ⟨rfl, b_⟩; have SS4 := Lib.hid (ss2 b_ hd3 SS3.out); have HB4 := Lib.hid (below_step HB3.out HB3.out.size b_); have hd4 := Nat.lt_of_lt_of_le hd3 b_.size; have FF4 := Lib.hid (FF3.out.below b_ ff3); have ff4 := Nat.lt_of_lt_of_le ff3 b_.size; clear k0 k1; obtain ⟨k0, k1⟩ := SS4.out; clear f0 f1 f2 f3 f4; obtain ⟨f0, f1, f2, f3, f4⟩ := FF4.out; clear b_))
      obtain ⟨w5, hwn⟩ : ∃ z, z = w4.alloc (.cells #[.int .i64 0, .int .i64 0] 84) := ⟨_, rfl⟩
      obtain ⟨m, hm⟩ : ∃ b, b = w4.heap.size := ⟨_, rfl⟩
      have MN : w5.cell? ⟨m, 0, none⟩ = some (.int .i64 0) ∧ w5.cell? ⟨m, 1, none⟩ = some (.int .i64 0) := by rw [hwn, hm]; exact ⟨by simp [go_sem], by simp [go_sem]⟩
      have bn_ : Below w4.heap.size w4 w5 := by rw [hwn]; exact below_alloc _ _
      have mm5 : m < w5.heap.size := by rw [hwn, hm]; simp
      have lm : w.heap.size < m := by rw [hm]; exact hd4
      have SS5 := Lib.hid (ss2 bn_ hd4 SS4.out)
      have HB5 := Lib.hid (below_step HB4.out HB4.out.size bn_)
      have hd5 := Nat.lt_of_lt_of_le hd4 bn_.size
      have FF5 := Lib.hid (FF4.out.below bn_ ff4)
      have ff5 := Nat.lt_of_lt_of_le ff4 bn_.size
      rw [← hwn, ← hm]
      clear hwn hm bn_ k0 k1 f0 f1 f2 f3 f4
      have MM5 := Lib.hid MN
      clear MN
      obtain ⟨m0, m1⟩ := MM5.out
      obtain ⟨f0, f1, f2, f3, f4⟩ := FF5.out
      obtain ⟨k0, k1⟩ := SS5.out
      go_wp2
      go_ret2
      rw [HVC.out.1, HVC.out.2]
      exact ⟨none, 0, rfl, .inl rfl, HB5.out⟩
  · have HVC : Hid (uvV pS S x = [] ∧ uvC pS S x = vrC pS S x) := by
      have e : uvC pS S x = vrC pS S x := by unfold uvC; rw [if_neg hc]
      exact ⟨by unfold uvV; rw [if_neg (by rw [e]; exact hc)], e⟩
    have HC : Hid (vrC pS S x ≠ 0) := hc
    obtain ⟨C, hC⟩ : ∃ c, c = vrC pS S x := ⟨_, rfl⟩
    have hc1 : (C != 0) = true := by rw [hC]; simpa using hc
    have HCE := Lib.hid hC
    clear hc hC
    go_enter Tryz.func34, Tryz.ntmps34
    go_upto_region 1 with fail
    obtain ⟨w1, hw1⟩ : ∃ z, z = w.alloc (.cells #[.int .i64 pS, .slice aS S.length cS] 26) := ⟨_, rfl⟩
    rw [← hw1] at HB0 k0 k1 ⊢
    have hd1 : w.heap.size < w1.heap.size := by rw [hw1]; simp
    have HB1 := HB0
    clear hw1
    have SS1 := Lib.hid (And.intro k0 k1)
    go_upto_region 2 with (go_at_call 100; ((with_reducible refine (checkVersor_n pS aS S cS loS tpS ax x cx lox tpx w1 (HS.out.below HB1.out tS) (Nat.le_trans tS HB1.out.size) sS (Hx.out.below HB1.out tx) (Nat.le_trans tx HB1.out.size) sx HC.out).mono ?_); rintro e w2 ⟨rfl, b_⟩; rw [← HCE.out]; have SS2 := Lib.hid (ss2 b_ hd1 SS1.out); have HB2 := Lib.hid (below_step HB1.out HB1.out.size b_); have hd2 := Nat.lt_of_lt_of_le hd1 b_.size; clear k0 k1; obtain ⟨k0, k1⟩ := SS2.out; clear b_))
    obtain ⟨w3, hwn⟩ : ∃ z, z = w2.alloc (.cells #[.int .i64 0, .slice none 0 0, .slice none 0 0, .int .i64 0, .int .i64 0] 86) := ⟨_, rfl⟩
    obtain ⟨f, hf⟩ : ∃ b, b = w2.heap.size := ⟨_, rfl⟩
    have FN := V5.new w2 (.int .i64 0) (.slice none 0 0) (.slice none 0 0) (.int .i64 0) (.int .i64 0) 86
    rw [← hwn, ← hf] at FN
    have bn_ : Below w2.heap.size w2 w3 := by rw [hwn]; exact below_alloc _ _
    have ff3 : f < w3.heap.size := by rw [hwn, hf]; simp
    have lf : w.heap.size < f := by rw [hf]; exact hd2
    have SS3 := Lib.hid (ss2 bn_ hd2 SS2.out)
    have HB3 := Lib.hid (below_step HB2.out HB2.out.size bn_)
    have hd3 := Nat.lt_of_lt_of_le hd2 bn_.size
    rw [← hwn, ← hf]
    clear hwn hf bn_ k0 k1
    have FF3 : Hid (Box5 f (.int .i64 0) (.slice none 0 0) (.slice none 0 0) (.int .i64 0) (.int .i64 0) w3) := FN.1
    clear FN
    obtain ⟨f0, f1, f2, f3, f4⟩ := FF3.out
    obtain ⟨k0, k1⟩ := SS3.out
    go_wp2
    go_ret2
    rw [HVC.out.1, HVC.out.2, ← HCE.out]
    exact ⟨none, 0, rfl, .inl rfl, HB3.out⟩

end Go.Proofs.YtgfanoejohpmkaaGreat
