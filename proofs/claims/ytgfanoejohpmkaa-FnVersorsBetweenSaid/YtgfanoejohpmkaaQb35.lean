/-
  Laws of versors, the program's side: contracts of the program and of the model.
  Conditions: the lists are nil or rows of known cells, of at most 1048576 numbers.
-/
import Derived.Test.YtgfanoejohpmkaaQb31
import Derived.Test.YtgfanoejohpmkaaQb34
import Derived.Test.YtgfanoejohpmkaaQb29
import Derived.Deep.RegionHeld3
import Derived.Deep.DeepCutAuto
namespace Go.Proofs.Ytgfanoejohpmkaa
open Go.RowKit
set_option linter.unusedVariables false

/-- Five cells. -/
def Box5 (g : Nat) (v0 v1 v2 v3 v4 : Value) (W : World) : Prop :=
  W.cell? ⟨g, 0, none⟩ = some v0 ∧ W.cell? ⟨g, 1, none⟩ = some v1 ∧ W.cell? ⟨g, 2, none⟩ = some v2 ∧ W.cell? ⟨g, 3, none⟩ = some v3 ∧ W.cell? ⟨g, 4, none⟩ = some v4
theorem Box5.below {g B : Nat} {v0 v1 v2 v3 v4 : Value} {w w' : World} (h : Box5 g v0 v1 v2 v3 v4 w) (b : Below B w w') (l : g < B) : Box5 g v0 v1 v2 v3 v4 w' :=
  ⟨(b.cell (p := ⟨g, 0, none⟩) l).trans h.1, (b.cell (p := ⟨g, 1, none⟩) l).trans h.2.1, (b.cell (p := ⟨g, 2, none⟩) l).trans h.2.2.1, (b.cell (p := ⟨g, 3, none⟩) l).trans h.2.2.2.1, (b.cell (p := ⟨g, 4, none⟩) l).trans h.2.2.2.2⟩
def isvB (p : Int) (S x : List Int) : Bool := if regC p S [x] = 0 then isVr p S x else false
def sdC (p : Int) (S x v : List Int) : Int := if codeVs p S [v] = 0 then vrC p S x else codeVs p S [v]
def sdV (p : Int) (S x v : List Int) : List Int := if sdC p S x v = 0 then sdM p S x v else []
theorem codeVs_v1 {p : Int} {S v : List Int} (h : codeVs p S [v] = 0) : isVec p S.length v = true := by
  rcases codeVs_cases p S [v] with ⟨_, hc⟩ | ⟨_, ha, _⟩ | ⟨_, _, hc⟩
  · rw [hc] at h; cases h
  · rw [mv_all1] at ha; exact ha
  · rw [hc] at h; cases h
/-- The boxes of a space and of a number. -/
def BoxU (g m : Nat) (p : Int) (aS : Option Addr) (n cS : Nat) (R : Int) (W : World) : Prop :=
  W.cell? ⟨g, 0, none⟩ = some (.int .i64 p) ∧ W.cell? ⟨g, 1, none⟩ = some (.slice aS n cS) ∧ W.cell? ⟨m, 0, none⟩ = some (.int .i64 p) ∧ W.cell? ⟨m, 1, none⟩ = some (.int .i64 R)
theorem BoxU.below {g m : Nat} {p R : Int} {aS : Option Addr} {n cS B : Nat} {w w' : World} (h : BoxU g m p aS n cS R w) (hb : Below B w w') (hg : g < B ∧ m < B) : BoxU g m p aS n cS R w' :=
  ⟨(hb.cell (p := ⟨g, 0, none⟩) hg.1).trans h.1, (hb.cell (p := ⟨g, 1, none⟩) hg.1).trans h.2.1, (hb.cell (p := ⟨m, 0, none⟩) hg.2).trans h.2.2.1, (hb.cell (p := ⟨m, 1, none⟩) hg.2).trans h.2.2.2⟩
theorem BoxU.wrote {g m b o k : Nat} {p R : Int} {aS : Option Addr} {n cS : Nat} {w w' : World} (h : BoxU g m p aS n cS R w) (hb : Wrote b o k w w') (hg : g ≠ b ∧ m ≠ b) : BoxU g m p aS n cS R w' :=
  ⟨(World.cell?_of_block (w := w) (a := ⟨g, 0, none⟩) (hb.block g hg.1)).trans h.1, (World.cell?_of_block (w := w) (a := ⟨g, 1, none⟩) (hb.block g hg.1)).trans h.2.1, (World.cell?_of_block (w := w) (a := ⟨m, 0, none⟩) (hb.block m hg.2)).trans h.2.2.1, (World.cell?_of_block (w := w) (a := ⟨m, 1, none⟩) (hb.block m hg.2)).trans h.2.2.2⟩
set_option maxRecDepth 100000 in
set_option maxHeartbeats 6400000 in
theorem impl_IsVersor (pS : Int) (aS : Option Addr) (S : List Int) (cS loS tpS : Nat) (ax : Option Addr) (x : List Int) (cx lox tpx : Nat) (w : World) (hS : RowIn loS tpS w aS S) (tS : tpS ≤ w.heap.size) (sS : S.length ≤ 1048576) (hx : RowIn lox tpx w ax x) (tx : tpx ≤ w.heap.size) (sx : x.length ≤ 1048576) :
    Calls Try.prog 12 #[.agg #[.int .i64 pS, .slice aS S.length cS], .slice ax x.length cx] w (RetB (isvB pS S x) (regC pS S [x]) w) := by
  have HS := Lib.hid hS
  have Hx := Lib.hid hx
  have k0 := nw0 w (.int .i64 pS) (.slice aS S.length cS) 26
  have k1 := nw1 w (.int .i64 pS) (.slice aS S.length cS) 26
  have HB0 := Lib.hid (below_alloc w (.cells #[.int .i64 pS, .slice aS S.length cS] 26))
  clear hS hx
  by_cases hc : regC pS S [x] = 0
  · have HC := Lib.hid hc
    have h3 := regC_zero hc
    rw [mv_all1] at h3
    have HI := Lib.hid h3.1
    have HMX := Lib.hid h3.2
    have hb0 := bl_pos S
    have hi0 : (0 : Int) < ((bl S : Nat) : Int) := by omega
    clear hc h3
    cases hv : isVr pS S x with
    | true =>
      have HVR := Lib.hid hv
      obtain ⟨F, hF⟩ : ∃ f, f = nrF pS S x := ⟨_, rfl⟩
      have HFE := Lib.hid hF
      clear hv hF
      go_enter Try.func12, Try.ntmps12
      go_upto_region 1 with fail
      obtain ⟨w1, hw1⟩ : ∃ z, z = w.alloc (.cells #[.int .i64 pS, .slice aS S.length cS] 26) := ⟨_, rfl⟩
      rw [← hw1] at HB0 k0 k1 ⊢
      have hd1 : w.heap.size < w1.heap.size := by rw [hw1]; simp
      have HB1 := HB0
      clear hw1
      have SS1 := Lib.hid (And.intro k0 k1)
      go_upto_region 5 with (first | (go_at_call 36; ((with_reducible refine (checkR1 pS aS S cS loS tpS ax x cx lox tpx _ _ w1 _ rfl (HS.out.below HB1.out tS) (Nat.le_trans tS HB1.out.size) sS (Hx.out.below HB1.out tx) (Nat.le_trans tx HB1.out.size) sx).mono ?_); rintro e w2 ⟨rfl, b_⟩; rw [HC.out]; have b2_ := below_step (below_alloc w1 (.cells #[.slice ax x.length cx] 24)) (size_alloc w1 (.cells #[.slice ax x.length cx] 24)) b_; have SS2 := Lib.hid (ss2 b2_ hd1 SS1.out); have HB2 := Lib.hid (below_step HB1.out HB1.out.size b2_); have hd2 := Nat.lt_of_lt_of_le hd1 b2_.size; clear k0 k1; obtain ⟨k0, k1⟩ := SS2.out; clear b_ b2_)) | (go_at_call 37; ((with_reducible refine (asVersor_yes pS aS S cS loS tpS ax x cx lox tpx w2 HI.out (HS.out.below HB2.out tS) (Nat.le_trans tS HB2.out.size) (Hx.out.below HB2.out tx) (Nat.le_trans tx HB2.out.size) HMX.out HVR.out).mono ?_); rintro e w3 ⟨rfl, b_⟩; rw [← HFE.out]; have SS3 := Lib.hid (ss2 b_ hd2 SS2.out); have HB3 := Lib.hid (below_step HB2.out HB2.out.size b_); have hd3 := Nat.lt_of_lt_of_le hd2 b_.size; clear k0 k1; obtain ⟨k0, k1⟩ := SS3.out; clear b_)))
      obtain ⟨w4, hwn⟩ : ∃ z, z = w3.alloc (.cells #[.int .i64 pS, .slice aS S.length cS, .slice ax x.length cx, .int .i64 pS, .int .i64 F] 65) := ⟨_, rfl⟩
      obtain ⟨f, hf⟩ : ∃ b, b = w3.heap.size := ⟨_, rfl⟩
      have FN := V5.new w3 (.int .i64 pS) (.slice aS S.length cS) (.slice ax x.length cx) (.int .i64 pS) (.int .i64 F) 65
      rw [← hwn, ← hf] at FN
      have bn_ : Below w3.heap.size w3 w4 := by rw [hwn]; exact below_alloc _ _
      have ff4 : f < w4.heap.size := by rw [hwn, hf]; simp
      have lf : w.heap.size < f := by rw [hf]; exact hd3
      have SS4 := Lib.hid (ss2 bn_ hd3 SS3.out)
      have HB4 := Lib.hid (below_step HB3.out HB3.out.size bn_)
      have hd4 := Nat.lt_of_lt_of_le hd3 bn_.size
      rw [← hwn, ← hf]
      clear hwn hf bn_ k0 k1
      have FF4 : Hid (Box5 f (.int .i64 pS) (.slice aS S.length cS) (.slice ax x.length cx) (.int .i64 pS) (.int .i64 F) w4) := FN.1
      clear FN
      obtain ⟨f0, f1, f2, f3, f4⟩ := FF4.out
      obtain ⟨k0, k1⟩ := SS4.out
      go_wp2
      go_ret2
      exact ⟨by rw [show isvB pS S x = isVr pS S x from if_pos HC.out, HC.out, HVR.out]; rfl, HB4.out⟩
    | false =>
      have HVR := Lib.hid hv
      clear hv
      go_enter Try.func12, Try.ntmps12
      go_upto_region 1 with fail
      obtain ⟨w1, hw1⟩ : ∃ z, z = w.alloc (.cells #[.int .i64 pS, .slice aS S.length cS] 26) := ⟨_, rfl⟩
      rw [← hw1] at HB0 k0 k1 ⊢
      have hd1 : w.heap.size < w1.heap.size := by rw [hw1]; simp
      have HB1 := HB0
      clear hw1
      have SS1 := Lib.hid (And.intro k0 k1)
      go_upto_region 5 with (first | (go_at_call 36; ((with_reducible refine (checkR1 pS aS S cS loS tpS ax x cx lox tpx _ _ w1 _ rfl (HS.out.below HB1.out tS) (Nat.le_trans tS HB1.out.size) sS (Hx.out.below HB1.out tx) (Nat.le_trans tx HB1.out.size) sx).mono ?_); rintro e w2 ⟨rfl, b_⟩; rw [HC.out]; have b2_ := below_step (below_alloc w1 (.cells #[.slice ax x.length cx] 24)) (size_alloc w1 (.cells #[.slice ax x.length cx] 24)) b_; have SS2 := Lib.hid (ss2 b2_ hd1 SS1.out); have HB2 := Lib.hid (below_step HB1.out HB1.out.size b2_); have hd2 := Nat.lt_of_lt_of_le hd1 b2_.size; clear k0 k1; obtain ⟨k0, k1⟩ := SS2.out; clear b_ b2_)) | (go_at_call 37; ((with_reducible refine (asVersor_no pS aS S cS loS tpS ax x cx lox tpx w2 HI.out (HS.out.below HB2.out tS) (Nat.le_trans tS HB2.out.size) (Hx.out.below HB2.out tx) (Nat.le_trans tx HB2.out.size) HMX.out HVR.out).mono ?_); rintro e w3 ⟨rfl, b_⟩; have SS3 := Lib.hid (ss2 b_ hd2 SS2.out); have HB3 := Lib.hid (below_step HB2.out HB2.out.size b_); have hd3 := Nat.lt_of_lt_of_le hd2 b_.size; clear k0 k1; obtain ⟨k0, k1⟩ := SS3.out; clear b_)))
      obtain ⟨w4, hwn⟩ : ∃ z, z = w3.alloc (.cells #[.int .i64 0, .slice none 0 0, .slice none 0 0, .int .i64 0, .int .i64 0] 65) := ⟨_, rfl⟩
      obtain ⟨f, hf⟩ : ∃ b, b = w3.heap.size := ⟨_, rfl⟩
      have FN := V5.new w3 (.int .i64 0) (.slice none 0 0) (.slice none 0 0) (.int .i64 0) (.int .i64 0) 65
      rw [← hwn, ← hf] at FN
      have bn_ : Below w3.heap.size w3 w4 := by rw [hwn]; exact below_alloc _ _
      have ff4 : f < w4.heap.size := by rw [hwn, hf]; simp
      have lf : w.heap.size < f := by rw [hf]; exact hd3
      have SS4 := Lib.hid (ss2 bn_ hd3 SS3.out)
      have HB4 := Lib.hid (below_step HB3.out HB3.out.size bn_)
      have hd4 := Nat.lt_of_lt_of_le hd3 bn_.size
      rw [← hwn, ← hf]
      clear hwn hf bn_ k0 k1
      have FF4 : Hid (Box5 f (.int .i64 0) (.slice none 0 0) (.slice none 0 0) (.int .i64 0) (.int .i64 0) w4) := FN.1
      clear FN
      obtain ⟨f0, f1, f2, f3, f4⟩ := FF4.out
      obtain ⟨k0, k1⟩ := SS4.out
      go_wp2
      go_ret2
      exact ⟨by rw [show isvB pS S x = isVr pS S x from if_pos HC.out, HC.out, HVR.out]; rfl, HB4.out⟩
  · obtain ⟨C, hC⟩ : ∃ c, c = regC pS S [x] := ⟨_, rfl⟩
    have hc1 : (C != 0) = true := by rw [hC]; simpa using hc
    have HCE := Lib.hid hC
    have HN : Hid (regC pS S [x] ≠ 0) := hc
    clear hc hC
    go_enter Try.func12, Try.ntmps12
    go_upto_region 1 with fail
    obtain ⟨w1, hw1⟩ : ∃ z, z = w.alloc (.cells #[.int .i64 pS, .slice aS S.length cS] 26) := ⟨_, rfl⟩
    rw [← hw1] at HB0 k0 k1 ⊢
    have hd1 : w.heap.size < w1.heap.size := by rw [hw1]; simp
    have HB1 := HB0
    clear hw1
    have SS1 := Lib.hid (And.intro k0 k1)
    go_wp2_with (go_at_call 36; ((with_reducible refine (checkR1 pS aS S cS loS tpS ax x cx lox tpx _ _ w1 _ rfl (HS.out.below HB1.out tS) (Nat.le_trans tS HB1.out.size) sS (Hx.out.below HB1.out tx) (Nat.le_trans tx HB1.out.size) sx).mono ?_); rintro e w2 ⟨rfl, b_⟩; rw [← HCE.out]; have b2_ := below_step (below_alloc w1 (.cells #[.slice ax x.length cx] 24)) (size_alloc w1 (.cells #[.slice ax x.length cx] 24)) b_; have SS2 := Lib.hid (ss2 b2_ hd1 SS1.out); have HB2 := Lib.hid (below_step HB1.out HB1.out.size b2_); have hd2 := Nat.lt_of_lt_of_le hd1 b2_.size; clear k0 k1; obtain ⟨k0, k1⟩ := SS2.out; clear b_ b2_))
    go_ret2
    exact ⟨by rw [show isvB pS S x = false from if_neg HN.out, ← HCE.out]; rfl, HB2.out⟩

set_option maxRecDepth 100000 in
set_option maxHeartbeats 6400000 in
theorem impl_SandwichOf (pS : Int) (aS : Option Addr) (S : List Int) (cS loS tpS : Nat) (ax : Option Addr) (x : List Int) (cx lox tpx : Nat) (av : Option Addr) (v : List Int) (cv lov tpv : Nat) (w : World) (hS : RowIn loS tpS w aS S) (tS : tpS ≤ w.heap.size) (sS : S.length ≤ 1048576) (hx : RowIn lox tpx w ax x) (tx : tpx ≤ w.heap.size) (sx : x.length ≤ 1048576) (hv : RowIn lov tpv w av v) (tv : tpv ≤ w.heap.size) (sv : v.length ≤ 1048576) :
    Calls Try.prog 11 #[.agg #[.int .i64 pS, .slice aS S.length cS], .slice ax x.length cx, .slice av v.length cv] w (ImplR (sdV pS S x v) (sdC pS S x v) w) := by
  have HS := Lib.hid hS
  have Hx := Lib.hid hx
  have Hv := Lib.hid hv
  have k0 := nw0 w (.int .i64 pS) (.slice aS S.length cS) 26
  have k1 := nw1 w (.int .i64 pS) (.slice aS S.length cS) 26
  have HB0 := Lib.hid (below_alloc w (.cells #[.int .i64 pS, .slice aS S.length cS] 26))
  clear hS hx hv
  by_cases hy0 : codeVs pS S [v] = 0
  · have HY0 := Lib.hid hy0
    have HMY := Lib.hid (codeVs_v1 hy0)
    by_cases hc : vrC pS S x = 0
    · have HVC : Hid (sdV pS S x v = sdM pS S x v ∧ sdC pS S x v = 0) := by
        have e : sdC pS S x v = 0 := by unfold sdC; rw [if_pos hy0]; exact hc
        exact ⟨by unfold sdV; rw [if_pos e], e⟩
      clear hy0
      have HC := Lib.hid hc
      have hz := vrC_zero hc
      have HI := Lib.hid hz.1
      have HMX := Lib.hid hz.2.1
      obtain ⟨F, hF⟩ : ∃ f, f = nrF pS S x := ⟨_, rfl⟩
      have HFE := Lib.hid hF
      clear hc hz hF
      go_enter Try.func11, Try.ntmps11
      go_upto_region 1 with fail
      obtain ⟨w1, hw1⟩ : ∃ z, z = w.alloc (.cells #[.int .i64 pS, .slice aS S.length cS] 26) := ⟨_, rfl⟩
      rw [← hw1] at HB0 k0 k1 ⊢
      have hd1 : w.heap.size < w1.heap.size := by rw [hw1]; simp
      have HB1 := HB0
      clear hw1
      have SS1 := Lib.hid (And.intro k0 k1)
      go_upto_region 5 with (first | (go_at_call 33; ((with_reducible refine (checkW1 pS aS S cS loS tpS av v cv lov tpv _ _ w1 _ rfl (HS.out.below HB1.out tS) (Nat.le_trans tS HB1.out.size) sS (Hv.out.below HB1.out tv) (Nat.le_trans tv HB1.out.size) sv).mono ?_); rintro e w2 ⟨rfl, b_⟩; rw [HY0.out]; have b2_ := below_step (below_alloc w1 (.cells #[.slice av v.length cv] 24)) (size_alloc w1 (.cells #[.slice av v.length cv] 24)) b_; have SS2 := Lib.hid (ss2 b2_ hd1 SS1.out); have HB2 := Lib.hid (below_step HB1.out HB1.out.size b2_); have hd2 := Nat.lt_of_lt_of_le hd1 b2_.size; clear k0 k1; obtain ⟨k0, k1⟩ := SS2.out; clear b_ b2_)) | (go_at_call 34; ((with_reducible refine (checkVersor_y pS aS S cS loS tpS ax x cx lox tpx w2 (HS.out.below HB2.out tS) (Nat.le_trans tS HB2.out.size) sS (Hx.out.below HB2.out tx) (Nat.le_trans tx HB2.out.size) sx HC.out).mono ?_); rintro e w3 ⟨rfl, b_⟩; rw [← HFE.out]; have SS3 := Lib.hid (ss2 b_ hd2 SS2.out); have HB3 := Lib.hid (below_step HB2.out HB2.out.size b_); have hd3 := Nat.lt_of_lt_of_le hd2 b_.size; clear k0 k1; obtain ⟨k0, k1⟩ := SS3.out; clear b_)))
      obtain ⟨w4, hwn⟩ : ∃ z, z = w3.alloc (.cells #[.int .i64 pS, .slice aS S.length cS, .slice ax x.length cx, .int .i64 pS, .int .i64 F] 65) := ⟨_, rfl⟩
      obtain ⟨f, hf⟩ : ∃ b, b = w3.heap.size := ⟨_, rfl⟩
      have FN := V5.new w3 (.int .i64 pS) (.slice aS S.length cS) (.slice ax x.length cx) (.int .i64 pS) (.int .i64 F) 65
      rw [← hwn, ← hf] at FN
      have bn_ : Below w3.heap.size w3 w4 := by rw [hwn]; exact below_alloc _ _
      have ff4 : f < w4.heap.size := by rw [hwn, hf]; simp
      have lf : w.heap.size < f := by rw [hf]; exact hd3
      have SS4 := Lib.hid (ss2 bn_ hd3 SS3.out)
      have HB4 := Lib.hid (below_step HB3.out HB3.out.size bn_)
      have hd4 := Nat.lt_of_lt_of_le hd3 bn_.size
      rw [← hwn, ← hf]
      clear hwn hf bn_ k0 k1
      have FF4 : Hid (Box5 f (.int .i64 pS) (.slice aS S.length cS) (.slice ax x.length cx) (.int .i64 pS) (.int .i64 F) w4) := FN.1
      clear FN
      obtain ⟨f0, f1, f2, f3, f4⟩ := FF4.out
      obtain ⟨k0, k1⟩ := SS4.out
      go_wp2_with (go_at_call 35; ((with_reducible refine (leadVector_v pS aS S cS loS tpS ax x cx lox tpx F av v cv lov tpv w4 HI.out (HS.out.below HB4.out tS) (Nat.le_trans tS HB4.out.size) (Hx.out.below HB4.out tx) (Nat.le_trans tx HB4.out.size) HMX.out HFE.out (Hv.out.below HB4.out tv) (Nat.le_trans tv HB4.out.size) HMY.out).mono ?_); rintro e w5 ⟨r, c, rfl, o_, b_⟩; have SS5 := Lib.hid (ss2 b_ hd4 SS4.out); have HB5 := Lib.hid (below_step HB4.out HB4.out.size b_); have hd5 := Nat.lt_of_lt_of_le hd4 b_.size; have FF5 := Lib.hid (FF4.out.below b_ ff4); have ff5 := Nat.lt_of_lt_of_le ff4 b_.size; have OO := Lib.hid (OwnR.mono' o_ (Nat.le_of_lt hd4) (Nat.le_refl _)); clear o_; clear k0 k1; obtain ⟨k0, k1⟩ := SS5.out; clear f0 f1 f2 f3 f4; obtain ⟨f0, f1, f2, f3, f4⟩ := FF5.out; clear b_))
      go_ret2
      rw [HVC.out.1, HVC.out.2]
      exact ⟨r, c, rfl, OO.out, HB5.out⟩
    · have HVC : Hid (sdV pS S x v = [] ∧ sdC pS S x v = vrC pS S x) := by
        have e : sdC pS S x v = vrC pS S x := by unfold sdC; rw [if_pos hy0]
        exact ⟨by unfold sdV; rw [if_neg (by rw [e]; exact hc)], e⟩
      clear hy0
      have HC : Hid (vrC pS S x ≠ 0) := hc
      obtain ⟨C, hC⟩ : ∃ c, c = vrC pS S x := ⟨_, rfl⟩
      have hc1 : (C != 0) = true := by rw [hC]; simpa using hc
      have HCE := Lib.hid hC
      clear hc hC
      go_enter Try.func11, Try.ntmps11
      go_upto_region 1 with fail
      obtain ⟨w1, hw1⟩ : ∃ z, z = w.alloc (.cells #[.int .i64 pS, .slice aS S.length cS] 26) := ⟨_, rfl⟩
      rw [← hw1] at HB0 k0 k1 ⊢
      have hd1 : w.heap.size < w1.heap.size := by rw [hw1]; simp
      have HB1 := HB0
      clear hw1
      have SS1 := Lib.hid (And.intro k0 k1)
      go_upto_region 5 with (first | (go_at_call 33; ((with_reducible refine (checkW1 pS aS S cS loS tpS av v cv lov tpv _ _ w1 _ rfl (HS.out.below HB1.out tS) (Nat.le_trans tS HB1.out.size) sS (Hv.out.below HB1.out tv) (Nat.le_trans tv HB1.out.size) sv).mono ?_); rintro e w2 ⟨rfl, b_⟩; rw [HY0.out]; have b2_ := below_step (below_alloc w1 (.cells #[.slice av v.length cv] 24)) (size_alloc w1 (.cells #[.slice av v.length cv] 24)) b_; have SS2 := Lib.hid (ss2 b2_ hd1 SS1.out); have HB2 := Lib.hid (below_step HB1.out HB1.out.size b2_); have hd2 := Nat.lt_of_lt_of_le hd1 b2_.size; clear k0 k1; obtain ⟨k0, k1⟩ := SS2.out; clear b_ b2_)) | (go_at_call 34; ((with_reducible refine (checkVersor_n pS aS S cS loS tpS ax x cx lox tpx w2 (HS.out.below HB2.out tS) (Nat.le_trans tS HB2.out.size) sS (Hx.out.below HB2.out tx) (Nat.le_trans tx HB2.out.size) sx HC.out).mono ?_); rintro e w3 ⟨rfl, b_⟩; rw [← HCE.out]; have SS3 := Lib.hid (ss2 b_ hd2 SS2.out); have HB3 := Lib.hid (below_step HB2.out HB2.out.size b_); have hd3 := Nat.lt_of_lt_of_le hd2 b_.size; clear k0 k1; obtain ⟨k0, k1⟩ := SS3.out; clear b_)))
      obtain ⟨w4, hwn⟩ : ∃ z, z = w3.alloc (.cells #[.int .i64 0, .slice none 0 0, .slice none 0 0, .int .i64 0, .int .i64 0] 65) := ⟨_, rfl⟩
      obtain ⟨f, hf⟩ : ∃ b, b = w3.heap.size := ⟨_, rfl⟩
      have FN := V5.new w3 (.int .i64 0) (.slice none 0 0) (.slice none 0 0) (.int .i64 0) (.int .i64 0) 65
      rw [← hwn, ← hf] at FN
      have bn_ : Below w3.heap.size w3 w4 := by rw [hwn]; exact below_alloc _ _
      have ff4 : f < w4.heap.size := by rw [hwn, hf]; simp
      have lf : w.heap.size < f := by rw [hf]; exact hd3
      have SS4 := Lib.hid (ss2 bn_ hd3 SS3.out)
      have HB4 := Lib.hid (below_step HB3.out HB3.out.size bn_)
      have hd4 := Nat.lt_of_lt_of_le hd3 bn_.size
      rw [← hwn, ← hf]
      clear hwn hf bn_ k0 k1
      have FF4 : Hid (Box5 f (.int .i64 0) (.slice none 0 0) (.slice none 0 0) (.int .i64 0) (.int .i64 0) w4) := FN.1
      clear FN
      obtain ⟨f0, f1, f2, f3, f4⟩ := FF4.out
      obtain ⟨k0, k1⟩ := SS4.out
      go_wp2_with (go_at_call 35; ((with_reducible refine (leadVector_c _ av v.length cv C w4 hc1).mono ?_); rintro e w' ⟨rfl, rfl⟩))
      go_ret2
      rw [HVC.out.1, HVC.out.2, ← HCE.out]
      exact ⟨none, 0, rfl, .inl rfl, HB4.out⟩
  · obtain ⟨C, hC⟩ : ∃ c, c = codeVs pS S [v] := ⟨_, rfl⟩
    have hc1 : (C != 0) = true := by rw [hC]; simpa using hy0
    have HCE := Lib.hid hC
    have HVC : Hid (sdV pS S x v = [] ∧ sdC pS S x v = codeVs pS S [v]) := by
      have e : sdC pS S x v = codeVs pS S [v] := by unfold sdC; rw [if_neg hy0]
      exact ⟨by unfold sdV; rw [if_neg (by rw [e]; exact hy0)], e⟩
    clear hy0 hC
    go_enter Try.func11, Try.ntmps11
    go_upto_region 1 with fail
    obtain ⟨w1, hw1⟩ : ∃ z, z = w.alloc (.cells #[.int .i64 pS, .slice aS S.length cS] 26) := ⟨_, rfl⟩
    rw [← hw1] at HB0 k0 k1 ⊢
    have hd1 : w.heap.size < w1.heap.size := by rw [hw1]; simp
    have HB1 := HB0
    clear hw1
    have SS1 := Lib.hid (And.intro k0 k1)
    go_wp2_with (go_at_call 33; ((with_reducible refine (checkW1 pS aS S cS loS tpS av v cv lov tpv _ _ w1 _ rfl (HS.out.below HB1.out tS) (Nat.le_trans tS HB1.out.size) sS (Hv.out.below HB1.out tv) (Nat.le_trans tv HB1.out.size) sv).mono ?_); rintro e w2 ⟨rfl, b_⟩; rw [← HCE.out]; have b2_ := below_step (below_alloc w1 (.cells #[.slice av v.length cv] 24)) (size_alloc w1 (.cells #[.slice av v.length cv] 24)) b_; have SS2 := Lib.hid (ss2 b2_ hd1 SS1.out); have HB2 := Lib.hid (below_step HB1.out HB1.out.size b2_); have hd2 := Nat.lt_of_lt_of_le hd1 b2_.size; clear k0 k1; obtain ⟨k0, k1⟩ := SS2.out; clear b_ b2_))
    go_ret2
    rw [HVC.out.1, HVC.out.2, ← HCE.out]
    exact ⟨none, 0, rfl, .inl rfl, HB2.out⟩

end Go.Proofs.Ytgfanoejohpmkaa
