/-
  The structure of an algebra: contracts of the program and of the model.
  Conditions: the lists are nil or rows of known cells, of at most 1048576 numbers.
-/
import Derived.Test.YtijklpcelbnnjaaGreatQk20
import Derived.Test.YtijklpcelbnnjaaGreatQk39
import Derived.Test.YtijklpcelbnnjaaGreatQk17
import Derived.Deep.RegionHeld3
import Derived.Deep.DeepCutAuto
namespace Go.Proofs.YtijklpcelbnnjaaGreat
open Go.RowKit
set_option linter.unusedVariables false

def stB (p : Int) (S : List Int) : Int := if S.length % 2 = 0 then 1 else if rt p (sqT p S) < 0 then 1 else 2
def stR (S : List Int) : Int := if S.length < 2 then 1 else if S.length < 4 then 2 else 4
def stD (p : Int) (S : List Int) : Int := if S.length % 2 = 0 then 1 else if rt p (sqT p S) < 0 then 2 else 1
/-- The code of a regular space with few squares. -/
def srC (p : Int) (S : List Int) : Int := if stC p S [] = 0 then (if discN p S = 0 then 5 else 0) else stC p S []
def sbV (p : Int) (S : List Int) : Int := if srC p S = 0 then stB p S else 0
def srV (p : Int) (S : List Int) : Int := if srC p S = 0 then stR S else 0
def sdV (p : Int) (S : List Int) : Int := if srC p S = 0 then stD p S else 0
theorem st_cases {S : List Int} (h0 : 1 ≤ S.length) (h4 : S.length ≤ 4) : S.length = 1 ∨ S.length = 2 ∨ S.length = 3 ∨ S.length = 4 := by omega
theorem srC_cases (p : Int) (S : List Int) : (stC p S [] ≠ 0 ∧ srC p S = stC p S []) ∨ (stC p S [] = 0 ∧ discN p S = 0 ∧ srC p S = 5) ∨ (stC p S [] = 0 ∧ discN p S ≠ 0 ∧ srC p S = 0) := by
  unfold srC
  by_cases h : stC p S [] = 0
  · by_cases hd : discN p S = 0
    · exact .inr (.inl ⟨h, hd, by rw [if_pos h, if_pos hd]⟩)
    · exact .inr (.inr ⟨h, hd, by rw [if_pos h, if_neg hd]⟩)
  · exact .inl ⟨h, if_neg h⟩
/-- Three live cells of a struct. -/
def V3 (g : Nat) (v0 v1 v2 : Value) (W : World) : Prop :=
  (W.cell? ⟨g, 0, none⟩ = some v0 ∧ W.cell? ⟨g, 1, none⟩ = some v1 ∧ W.cell? ⟨g, 2, none⟩ = some v2) ∧ W.frozen? ⟨g, 0, none⟩ = false ∧ W.frozen? ⟨g, 1, none⟩ = false ∧ W.frozen? ⟨g, 2, none⟩ = false
theorem V3.below {g B : Nat} {v0 v1 v2 : Value} {w w' : World} (h : V3 g v0 v1 v2 w) (b : Below B w w') (l : g < B) : V3 g v0 v1 v2 w' :=
  ⟨⟨(b.cell (p := ⟨g, 0, none⟩) l).trans h.1.1, (b.cell (p := ⟨g, 1, none⟩) l).trans h.1.2.1, (b.cell (p := ⟨g, 2, none⟩) l).trans h.1.2.2⟩, (b.frozen (p := ⟨g, 0, none⟩) l).trans h.2.1, (b.frozen (p := ⟨g, 1, none⟩) l).trans h.2.2.1, (b.frozen (p := ⟨g, 2, none⟩) l).trans h.2.2.2⟩
theorem V3.new (w : World) (v0 v1 v2 : Value) (T : TypeId) : V3 w.heap.size v0 v1 v2 (w.alloc (.cells #[v0, v1, v2] T)) :=
  ⟨⟨by simp [go_sem], by simp [go_sem], by simp [go_sem]⟩, by simp [go_sem], by simp [go_sem], by simp [go_sem]⟩
theorem V3.put0 {f : Nat} {v0 v1 v2 : Value} {w : World} (h : V3 f v0 v1 v2 w) (v : Value) : V3 f v v1 v2 (w.setCell ⟨f, 0, none⟩ v) :=
  ⟨⟨World.cell?_setCell_same w _ _ h.1.1, (World.cell?_setCell_other w ⟨f, 0, none⟩ ⟨f, 1, none⟩ _ (by simp)).trans h.1.2.1, (World.cell?_setCell_other w ⟨f, 0, none⟩ ⟨f, 2, none⟩ _ (by simp)).trans h.1.2.2⟩, by have := h.2.1; simp [go_sem, this], by have := h.2.2.1; simp [go_sem, this], by have := h.2.2.2; simp [go_sem, this]⟩
theorem V3.put2 {f : Nat} {v0 v1 v2 : Value} {w : World} (h : V3 f v0 v1 v2 w) (v : Value) : V3 f v0 v1 v (w.setCell ⟨f, 2, none⟩ v) :=
  ⟨⟨(World.cell?_setCell_other w ⟨f, 2, none⟩ ⟨f, 0, none⟩ _ (by simp)).trans h.1.1, (World.cell?_setCell_other w ⟨f, 2, none⟩ ⟨f, 1, none⟩ _ (by simp)).trans h.1.2.1, World.cell?_setCell_same w _ _ h.1.2.2⟩, by have := h.2.1; simp [go_sem, this], by have := h.2.2.1; simp [go_sem, this], by have := h.2.2.2; simp [go_sem, this]⟩
theorem V3.far {g f : Nat} {v0 v1 v2 : Value} {w : World} (h : V3 g v0 v1 v2 w) (hne : g ≠ f) (k : Nat) (v : Value) : V3 g v0 v1 v2 (w.setCell ⟨f, k, none⟩ v) :=
  ⟨⟨(World.cell?_setCell_other w ⟨f, k, none⟩ ⟨g, 0, none⟩ _ (fun e => hne (by injection e with e1; exact e1.symm))).trans h.1.1, (World.cell?_setCell_other w ⟨f, k, none⟩ ⟨g, 1, none⟩ _ (fun e => hne (by injection e with e1; exact e1.symm))).trans h.1.2.1, (World.cell?_setCell_other w ⟨f, k, none⟩ ⟨g, 2, none⟩ _ (fun e => hne (by injection e with e1; exact e1.symm))).trans h.1.2.2⟩, by have := h.2.1; simp [go_sem, this], by have := h.2.2.1; simp [go_sem, this], by have := h.2.2.2; simp [go_sem, this]⟩
def vput3 (g : Nat) (v0 v1 v2 : Value) (W : World) : World := ((W.setCell ⟨g, 0, none⟩ v0).setCell ⟨g, 1, none⟩ v1).setCell ⟨g, 2, none⟩ v2
theorem below_vput3 {B g : Nat} {w w' : World} {v0 v1 v2 : Value} (h : Below B w w') (hg : B ≤ g) : Below B w (vput3 g v0 v1 v2 w') := ((h.setCell hg _).setCell hg _).setCell hg _

set_option maxHeartbeats 1600000 in
theorem wholePower_2 (n : Nat) (w : World) (hn : n ≤ 2) :
    Calls Tryz.prog 90 #[.int .i64 2, .int .i64 n] w (fun e w' => e = .returned (.int .i64 (2 ^ n)) ∧ Below w.heap.size w w') := by
  go_enter Tryz.func90, Tryz.ntmps90
  go_wp2
  go_loopw [5, 7] (fun u t wr => ∃ j : Nat, j ≤ n ∧ t = .int .i64 j ∧ u = .int .i64 (2 ^ j) ∧ wr = w) (fun _ t _ => n - (intOf t).toNat)
  case atStart => exact ⟨0, Nat.zero_le _, rfl, by simp, by trivial⟩
  case round =>
    obtain ⟨j, hj, rfl, rfl, rfl⟩ := hrel
    by_cases h0 : j < n
    · have h1 : (j : Int) < (n : Int) := by omega
      have hj2 : j = 0 ∨ j = 1 := by omega
      rcases hj2 with rfl | rfl
      all_goals
        go_wp2
        go_roundw
        case rel => exact ⟨_ + 1, h0, by go_num, by first | rfl | simp, by trivial⟩
        case measure => simp [intOf]; omega
    · have h1 : ¬ (j : Int) < (n : Int) := by omega
      have hj : j = n := by omega
      subst hj
      go_wp2
      go_ret
      exact ⟨rfl, Below.refl _ _⟩

theorem wholePower_L (n : Nat) (k r : Int) (w : World) (hn : n ≤ 2) (hk : (n : Int) = k) (hr : (2 : Int) ^ n = r) :
    Calls Tryz.prog 90 #[.int .i64 2, .int .i64 k] w (fun e w' => e = .returned (.int .i64 r) ∧ Below w.heap.size w w') := by
  subst hk hr; exact wholePower_2 n w hn
theorem l05Square_n (pS : Int) (aS : Option Addr) (S : List Int) (n cS loS tpS : Nat) (w : World) (hn : S.length = n) (hs : isSp pS S = true) (hS : RowIn loS tpS w aS S) (tS : tpS ≤ w.heap.size) :
    Calls Tryz.prog 62 #[.agg #[.int .i64 pS, .slice aS n cS]] w (fun e w' => e = .returned (.int .i64 (sqT pS S)) ∧ Below w.heap.size w w') := by
  subst hn; exact l05Square_any pS aS S cS loS tpS w hs hS tS
theorem pseudoscalarSquare_n (pS : Int) (aS : Option Addr) (S : List Int) (n cS loS tpS : Nat) (w : World) (hn : S.length = n) (hs : isSp pS S = true) (hS : RowIn loS tpS w aS S) (tS : tpS ≤ w.heap.size) :
    Calls Tryz.prog 91 #[.agg #[.int .i64 pS, .slice aS n cS]] w (fun e w' => e = .returned (.agg #[.int .i64 pS, .int .i64 (sqT pS S)]) ∧ Below w.heap.size w w') := by
  subst hn; exact pseudoscalarSquare_any pS aS S cS loS tpS w hs hS tS
theorem l01Root_bb (p a : Int) (w : World) (hp : prm p = true) (a0 : 0 ≤ a) (a1 : a < p) :
    Calls Tryz.prog 61 #[.int .i64 p, .int .i64 a] w fun e w' => e = .returned (.int .i64 (rt p a)) ∧ Below w.heap.size w w' :=
  (l01Root_any p a w hp a0 a1).mono fun _ _ ⟨h, e⟩ => ⟨h, e ▸ Below.refl _ _⟩
set_option maxRecDepth 100000 in
set_option maxHeartbeats 6400000 in
theorem structure_st (pS : Int) (aS : Option Addr) (S : List Int) (cS loS tpS : Nat) (w : World) (hs : isSp pS S = true) (h4 : S.length ≤ 4) (hS : RowIn loS tpS w aS S) (tS : tpS ≤ w.heap.size) :
    Calls Tryz.prog 60 #[.agg #[.int .i64 pS, .slice aS S.length cS]] w (fun e w' => e = .returned (.agg #[.int .i64 (stB pS S), .int .i64 (stR S), .int .i64 (stD pS S)]) ∧ Below w.heap.size w w') := by
  have HS := Lib.hid hS
  have HI := Lib.hid hs
  have hfv := field_value
  have HP := Lib.hid (isSp_iff.1 hs).prime
  have hlo := (isSp_iff.1 hs).lo
  obtain ⟨Q, hQ⟩ : ∃ q, q = sqT pS S := ⟨_, rfl⟩
  have HQ := Lib.hid hQ
  have HQB : Hid (0 ≤ Q ∧ Q < pS) := by show _ ∧ _; rw [hQ]; exact sqT_bd hs
  obtain ⟨R, hR⟩ : ∃ r, r = rt pS Q := ⟨_, rfl⟩
  have HRE := Lib.hid hR
  clear hS hs
  rcases st_cases hlo h4 with hn | hn | hn | hn
  · by_cases hr : rt pS (sqT pS S) < 0
    · have HV : Hid (stB pS S = 1 ∧ stR S = 1 ∧ stD pS S = 2) := by
        show _ ∧ _ ∧ _
        unfold stB stR stD
        rw [hn]
        simp [hr]
      have HRT : Hid (rtP pS Q = 0 ∧ rtV pS Q = 0 ∧ rtB pS Q = false) := by show _ ∧ _ ∧ _; rw [hQ]; exact rt_no hr
      have hr1 : R < 0 := by rw [hR, hQ]; exact hr
      have hr2 : ¬ 0 ≤ R := by omega
      clear hr hR hQ
      rw [hn]
      have k0 := nw0 w (.int .i64 pS) (.slice aS 1 cS) 26
      have k1 := nw1 w (.int .i64 pS) (.slice aS 1 cS) 26
      have HB0 := Lib.hid (below_alloc w (.cells #[.int .i64 pS, .slice aS 1 cS] 26))
      go_enter Tryz.func60, Tryz.ntmps60
      go_upto_region 1 with fail
      obtain ⟨w0, hw0'⟩ : ∃ z, z = w.alloc (.cells #[.int .i64 pS, .slice aS 1 cS] 26) := ⟨_, rfl⟩
      rw [← hw0'] at HB0 k0 k1 ⊢
      have hw0 : w.heap.size < w0.heap.size := by rw [hw0']; simp
      have hwz : w.heap.size + 1 = w0.heap.size := by rw [hw0']; simp
      try rw [hwz]
      clear hw0'
      obtain ⟨w1, hw1⟩ : ∃ z, z = w0.alloc (.cells #[.int .i64 0, .int .i64 0, .int .i64 0] 58) := ⟨_, rfl⟩
      obtain ⟨g, hg⟩ : ∃ b, b = w0.heap.size := ⟨_, rfl⟩
      have hs0 := ss2 (below_alloc w0 (.cells #[.int .i64 0, .int .i64 0, .int .i64 0] 58)) hw0 ⟨k0, k1⟩
      have z0 : V3 g (.int .i64 0) (.int .i64 0) (.int .i64 0) w1 := by rw [hw1, hg]; exact V3.new _ _ _ _ _
      have HB1 : Hid (Below w.heap.size w w1) := by show Below _ _ _; rw [hw1]; exact HB0.out.alloc HB0.out.size _
      have hg1 : g < w1.heap.size := by rw [hw1, hg]; simp
      have hwg : w.heap.size < g := by omega
      rw [← hw1] at hs0
      rw [← hw1]
      rw [← hg]
      clear hw1 hwz hg k0 k1
      have hd1 : w.heap.size < w1.heap.size := Nat.lt_trans hwg hg1
      have SS1 := Lib.hid hs0
      have ZZ1 := Lib.hid z0
      obtain ⟨k0, k1⟩ := hs0
      clear z0
      go_upto_region 3 with (go_at_call 90; ((with_reducible refine (wholePower_L 0 0 1 w1 (by omega) rfl rfl).mono ?_); rintro e w2 ⟨rfl, b_⟩; have SS2 := Lib.hid (ss2 b_ hd1 SS1.out); have ZZ2 := Lib.hid (ZZ1.out.below b_ hg1); have HB2 := Lib.hid (below_step HB1.out HB1.out.size b_); have hg2 := Nat.lt_of_lt_of_le hg1 b_.size; have hd2 := Nat.lt_of_lt_of_le hd1 b_.size; clear b_ k0 k1))
      obtain ⟨w3, hw3⟩ : ∃ z, z = w2.alloc (.cells #[.int .i64 1, .int .i64 1, .int .i64 1] 58) := ⟨_, rfl⟩
      obtain ⟨f, hf⟩ : ∃ b, b = w2.heap.size := ⟨_, rfl⟩
      have FF3 : Hid (V3 f (.int .i64 1) (.int .i64 1) (.int .i64 1) w3) := by show V3 _ _ _ _ _; rw [hw3, hf]; exact V3.new _ _ _ _ _
      have ZZ3 : Hid (V3 g (.int .i64 0) (.int .i64 0) (.int .i64 0) w3) := by show V3 _ _ _ _ _; rw [hw3]; exact ZZ2.out.below (below_alloc w2 _) hg2
      have SS3 : Hid (w3.cell? ⟨w.heap.size, 0, none⟩ = some (.int .i64 pS) ∧ w3.cell? ⟨w.heap.size, 1, none⟩ = some (.slice aS 1 cS)) := by show _ ∧ _; rw [hw3]; exact ss2 (below_alloc w2 _) hd2 SS2.out
      have HB3 : Hid (Below w.heap.size w w3) := by show Below _ _ _; rw [hw3]; exact HB2.out.alloc HB2.out.size _
      have hgf : g ≠ f := by rw [hf]; exact Nat.ne_of_lt hg2
      have hf3 : f < w3.heap.size := by rw [hw3, hf]; simp
      have hg3 : g < w3.heap.size := by rw [hw3]; exact Nat.lt_of_lt_of_le hg2 (size_alloc w2 _)
      have hd3 : w.heap.size < w3.heap.size := by rw [hw3]; exact Nat.lt_of_lt_of_le hd2 (size_alloc w2 _)
      have hlf : w.heap.size ≤ f := by rw [hf]; exact Nat.le_of_lt hd2
      rw [← hw3, ← hf]
      clear hw3 hf
      obtain ⟨k0, k1⟩ := SS3.out
      go_upto_region 6 with (first | (go_at_call 91; ((with_reducible refine (pseudoscalarSquare_n pS aS S 1 cS loS tpS w3 hn HI.out (HS.out.below HB3.out tS) (Nat.le_trans tS HB3.out.size)).mono ?_); rintro e w4 ⟨rfl, b_⟩; rw [← HQ.out]; have FF4 := Lib.hid (FF3.out.below b_ hf3); have ZZ4 := Lib.hid (ZZ3.out.below b_ hg3); have HB4 := Lib.hid (below_step HB3.out HB3.out.size b_); have hg4 := Nat.lt_of_lt_of_le hg3 b_.size; have hf4 := Nat.lt_of_lt_of_le hf3 b_.size; clear b_ k0 k1)) | (go_at_call 92; ((with_reducible refine (root_any pS Q w4 HP.out HQB.out.1 HQB.out.2).mono ?_); rintro e w5 ⟨rfl, b_⟩; rw [HRT.out.1, HRT.out.2.1, HRT.out.2.2]; have FF5 := Lib.hid (FF4.out.below b_ hf4); have ZZ5 := Lib.hid (ZZ4.out.below b_ hg4); have HB5 := Lib.hid (below_step HB4.out HB4.out.size b_); have hg5 := Nat.lt_of_lt_of_le hg4 b_.size; have hf5 := Nat.lt_of_lt_of_le hf4 b_.size; clear b_)))
      obtain ⟨w6, hw6⟩ : ∃ z, z = w5.alloc (.cells #[.int .i64 0, .int .i64 0] 108) := ⟨_, rfl⟩
      have FF6 : Hid (V3 f (.int .i64 1) (.int .i64 1) (.int .i64 1) w6) := by show V3 _ _ _ _ _; rw [hw6]; exact FF5.out.below (below_alloc w5 _) hf5
      have ZZ6 : Hid (V3 g (.int .i64 0) (.int .i64 0) (.int .i64 0) w6) := by show V3 _ _ _ _ _; rw [hw6]; exact ZZ5.out.below (below_alloc w5 _) hg5
      have HB6 : Hid (Below w.heap.size w w6) := by show Below _ _ _; rw [hw6]; exact HB5.out.alloc HB5.out.size _
      rw [← hw6]
      clear hw6
      obtain ⟨⟨f0, f1, f2⟩, e0, e1, e2⟩ := FF6.out
      obtain ⟨⟨z0, z1, z2⟩, y0, y1, y2⟩ := ZZ6.out
      go_upto_region 9 with fail
      clear f0 f1 f2 e0 e1 e2 z0 z1 z2 y0 y1 y2
      obtain ⟨w7, hw7⟩ : ∃ z, z = w6.setCell ⟨f, 2, none⟩ (.int .i64 2) := ⟨_, rfl⟩
      have FF7 : V3 f (.int .i64 1) (.int .i64 1) (.int .i64 2) w7 := by rw [hw7]; exact FF6.out.put2 _
      have ZZ7 : V3 g (.int .i64 0) (.int .i64 0) (.int .i64 0) w7 := by rw [hw7]; exact ZZ6.out.far hgf _ _
      have HB7 : Hid (Below w.heap.size w w7) := by show Below _ _ _; rw [hw7]; exact HB6.out.setCell hlf _
      rw [← hw7]
      clear hw7
      obtain ⟨⟨f0, f1, f2⟩, _⟩ := FF7
      obtain ⟨⟨z0, z1, z2⟩, y0, y1, y2⟩ := ZZ7
      go_wp2
      refine bodyPost_ret (v := .agg #[.int .i64 1, .int .i64 1, .int .i64 2]) (by simp [results, Tryz.results60, go_sem, z0, z1, z2]) rfl ⟨by rw [HV.out.1, HV.out.2.1, HV.out.2.2], below_vput3 HB7.out (Nat.le_of_lt hwg)⟩
    · have HV : Hid (stB pS S = 2 ∧ stR S = 1 ∧ stD pS S = 1) := by
        show _ ∧ _ ∧ _
        unfold stB stR stD
        rw [hn]
        simp [hr]
      have HRT : Hid (rtP pS Q = pS ∧ rtV pS Q = R ∧ rtB pS Q = true) := by show _ ∧ _ ∧ _; rw [hR, hQ]; exact rt_yes (by omega)
      have hr1 : ¬ R < 0 := by rw [hR, hQ]; exact hr
      have hr2 : 0 ≤ R := by omega
      clear hr hR hQ
      rw [hn]
      have k0 := nw0 w (.int .i64 pS) (.slice aS 1 cS) 26
      have k1 := nw1 w (.int .i64 pS) (.slice aS 1 cS) 26
      have HB0 := Lib.hid (below_alloc w (.cells #[.int .i64 pS, .slice aS 1 cS] 26))
      go_enter Tryz.func60, Tryz.ntmps60
      go_upto_region 1 with fail
      obtain ⟨w0, hw0'⟩ : ∃ z, z = w.alloc (.cells #[.int .i64 pS, .slice aS 1 cS] 26) := ⟨_, rfl⟩
      rw [← hw0'] at HB0 k0 k1 ⊢
      have hw0 : w.heap.size < w0.heap.size := by rw [hw0']; simp
      have hwz : w.heap.size + 1 = w0.heap.size := by rw [hw0']; simp
      try rw [hwz]
      clear hw0'
      obtain ⟨w1, hw1⟩ : ∃ z, z = w0.alloc (.cells #[.int .i64 0, .int .i64 0, .int .i64 0] 58) := ⟨_, rfl⟩
      obtain ⟨g, hg⟩ : ∃ b, b = w0.heap.size := ⟨_, rfl⟩
      have hs0 := ss2 (below_alloc w0 (.cells #[.int .i64 0, .int .i64 0, .int .i64 0] 58)) hw0 ⟨k0, k1⟩
      have z0 : V3 g (.int .i64 0) (.int .i64 0) (.int .i64 0) w1 := by rw [hw1, hg]; exact V3.new _ _ _ _ _
      have HB1 : Hid (Below w.heap.size w w1) := by show Below _ _ _; rw [hw1]; exact HB0.out.alloc HB0.out.size _
      have hg1 : g < w1.heap.size := by rw [hw1, hg]; simp
      have hwg : w.heap.size < g := by omega
      rw [← hw1] at hs0
      rw [← hw1]
      rw [← hg]
      clear hw1 hwz hg k0 k1
      have hd1 : w.heap.size < w1.heap.size := Nat.lt_trans hwg hg1
      have SS1 := Lib.hid hs0
      have ZZ1 := Lib.hid z0
      obtain ⟨k0, k1⟩ := hs0
      clear z0
      go_upto_region 3 with (go_at_call 90; ((with_reducible refine (wholePower_L 0 0 1 w1 (by omega) rfl rfl).mono ?_); rintro e w2 ⟨rfl, b_⟩; have SS2 := Lib.hid (ss2 b_ hd1 SS1.out); have ZZ2 := Lib.hid (ZZ1.out.below b_ hg1); have HB2 := Lib.hid (below_step HB1.out HB1.out.size b_); have hg2 := Nat.lt_of_lt_of_le hg1 b_.size; have hd2 := Nat.lt_of_lt_of_le hd1 b_.size; clear b_ k0 k1))
      obtain ⟨w3, hw3⟩ : ∃ z, z = w2.alloc (.cells #[.int .i64 1, .int .i64 1, .int .i64 1] 58) := ⟨_, rfl⟩
      obtain ⟨f, hf⟩ : ∃ b, b = w2.heap.size := ⟨_, rfl⟩
      have FF3 : Hid (V3 f (.int .i64 1) (.int .i64 1) (.int .i64 1) w3) := by show V3 _ _ _ _ _; rw [hw3, hf]; exact V3.new _ _ _ _ _
      have ZZ3 : Hid (V3 g (.int .i64 0) (.int .i64 0) (.int .i64 0) w3) := by show V3 _ _ _ _ _; rw [hw3]; exact ZZ2.out.below (below_alloc w2 _) hg2
      have SS3 : Hid (w3.cell? ⟨w.heap.size, 0, none⟩ = some (.int .i64 pS) ∧ w3.cell? ⟨w.heap.size, 1, none⟩ = some (.slice aS 1 cS)) := by show _ ∧ _; rw [hw3]; exact ss2 (below_alloc w2 _) hd2 SS2.out
      have HB3 : Hid (Below w.heap.size w w3) := by show Below _ _ _; rw [hw3]; exact HB2.out.alloc HB2.out.size _
      have hgf : g ≠ f := by rw [hf]; exact Nat.ne_of_lt hg2
      have hf3 : f < w3.heap.size := by rw [hw3, hf]; simp
      have hg3 : g < w3.heap.size := by rw [hw3]; exact Nat.lt_of_lt_of_le hg2 (size_alloc w2 _)
      have hd3 : w.heap.size < w3.heap.size := by rw [hw3]; exact Nat.lt_of_lt_of_le hd2 (size_alloc w2 _)
      have hlf : w.heap.size ≤ f := by rw [hf]; exact Nat.le_of_lt hd2
      rw [← hw3, ← hf]
      clear hw3 hf
      obtain ⟨k0, k1⟩ := SS3.out
      go_upto_region 6 with (first | (go_at_call 91; ((with_reducible refine (pseudoscalarSquare_n pS aS S 1 cS loS tpS w3 hn HI.out (HS.out.below HB3.out tS) (Nat.le_trans tS HB3.out.size)).mono ?_); rintro e w4 ⟨rfl, b_⟩; rw [← HQ.out]; have FF4 := Lib.hid (FF3.out.below b_ hf3); have ZZ4 := Lib.hid (ZZ3.out.below b_ hg3); have HB4 := Lib.hid (below_step HB3.out HB3.out.size b_); have hg4 := Nat.lt_of_lt_of_le hg3 b_.size; have hf4 := Nat.lt_of_lt_of_le hf3 b_.size; clear b_ k0 k1)) | (go_at_call 92; ((with_reducible refine (root_any pS Q w4 HP.out HQB.out.1 HQB.out.2).mono ?_); rintro e w5 ⟨rfl, b_⟩; rw [HRT.out.1, HRT.out.2.1, HRT.out.2.2]; have FF5 := Lib.hid (FF4.out.below b_ hf4); have ZZ5 := Lib.hid (ZZ4.out.below b_ hg4); have HB5 := Lib.hid (below_step HB4.out HB4.out.size b_); have hg5 := Nat.lt_of_lt_of_le hg4 b_.size; have hf5 := Nat.lt_of_lt_of_le hf4 b_.size; clear b_)))
      obtain ⟨w6, hw6⟩ : ∃ z, z = w5.alloc (.cells #[.int .i64 pS, .int .i64 R] 108) := ⟨_, rfl⟩
      have FF6 : Hid (V3 f (.int .i64 1) (.int .i64 1) (.int .i64 1) w6) := by show V3 _ _ _ _ _; rw [hw6]; exact FF5.out.below (below_alloc w5 _) hf5
      have ZZ6 : Hid (V3 g (.int .i64 0) (.int .i64 0) (.int .i64 0) w6) := by show V3 _ _ _ _ _; rw [hw6]; exact ZZ5.out.below (below_alloc w5 _) hg5
      have HB6 : Hid (Below w.heap.size w w6) := by show Below _ _ _; rw [hw6]; exact HB5.out.alloc HB5.out.size _
      rw [← hw6]
      clear hw6
      obtain ⟨⟨f0, f1, f2⟩, e0, e1, e2⟩ := FF6.out
      obtain ⟨⟨z0, z1, z2⟩, y0, y1, y2⟩ := ZZ6.out
      go_upto_region 9 with fail
      clear f0 f1 f2 e0 e1 e2 z0 z1 z2 y0 y1 y2
      obtain ⟨w7, hw7⟩ : ∃ z, z = w6.setCell ⟨f, 0, none⟩ (.int .i64 2) := ⟨_, rfl⟩
      have FF7 : V3 f (.int .i64 2) (.int .i64 1) (.int .i64 1) w7 := by rw [hw7]; exact FF6.out.put0 _
      have ZZ7 : V3 g (.int .i64 0) (.int .i64 0) (.int .i64 0) w7 := by rw [hw7]; exact ZZ6.out.far hgf _ _
      have HB7 : Hid (Below w.heap.size w w7) := by show Below _ _ _; rw [hw7]; exact HB6.out.setCell hlf _
      rw [← hw7]
      clear hw7
      obtain ⟨⟨f0, f1, f2⟩, _⟩ := FF7
      obtain ⟨⟨z0, z1, z2⟩, y0, y1, y2⟩ := ZZ7
      go_wp2
      refine bodyPost_ret (v := .agg #[.int .i64 2, .int .i64 1, .int .i64 1]) (by simp [results, Tryz.results60, go_sem, z0, z1, z2]) rfl ⟨by rw [HV.out.1, HV.out.2.1, HV.out.2.2], below_vput3 HB7.out (Nat.le_of_lt hwg)⟩
  · have HV : Hid (stB pS S = 1 ∧ stR S = 2 ∧ stD pS S = 1) := by
      show _ ∧ _ ∧ _
      unfold stB stR stD
      rw [hn]
      simp
    rw [hn]
    have k0 := nw0 w (.int .i64 pS) (.slice aS 2 cS) 26
    have k1 := nw1 w (.int .i64 pS) (.slice aS 2 cS) 26
    have HB0 := Lib.hid (below_alloc w (.cells #[.int .i64 pS, .slice aS 2 cS] 26))
    go_enter Tryz.func60, Tryz.ntmps60
    go_upto_region 1 with fail
    obtain ⟨w0, hw0'⟩ : ∃ z, z = w.alloc (.cells #[.int .i64 pS, .slice aS 2 cS] 26) := ⟨_, rfl⟩
    rw [← hw0'] at HB0 k0 k1 ⊢
    have hw0 : w.heap.size < w0.heap.size := by rw [hw0']; simp
    have hwz : w.heap.size + 1 = w0.heap.size := by rw [hw0']; simp
    try rw [hwz]
    clear hw0'
    obtain ⟨w1, hw1⟩ : ∃ z, z = w0.alloc (.cells #[.int .i64 0, .int .i64 0, .int .i64 0] 58) := ⟨_, rfl⟩
    obtain ⟨g, hg⟩ : ∃ b, b = w0.heap.size := ⟨_, rfl⟩
    have hs0 := ss2 (below_alloc w0 (.cells #[.int .i64 0, .int .i64 0, .int .i64 0] 58)) hw0 ⟨k0, k1⟩
    have z0 : V3 g (.int .i64 0) (.int .i64 0) (.int .i64 0) w1 := by rw [hw1, hg]; exact V3.new _ _ _ _ _
    have HB1 : Hid (Below w.heap.size w w1) := by show Below _ _ _; rw [hw1]; exact HB0.out.alloc HB0.out.size _
    have hg1 : g < w1.heap.size := by rw [hw1, hg]; simp
    have hwg : w.heap.size < g := by omega
    rw [← hw1] at hs0
    rw [← hw1]
    rw [← hg]
    clear hw1 hwz hg k0 k1
    have hd1 : w.heap.size < w1.heap.size := Nat.lt_trans hwg hg1
    have SS1 := Lib.hid hs0
    have ZZ1 := Lib.hid z0
    obtain ⟨k0, k1⟩ := hs0
    clear z0
    go_upto_region 3 with (go_at_call 90; ((with_reducible refine (wholePower_L 1 1 2 w1 (by omega) rfl rfl).mono ?_); rintro e w2 ⟨rfl, b_⟩; have SS2 := Lib.hid (ss2 b_ hd1 SS1.out); have ZZ2 := Lib.hid (ZZ1.out.below b_ hg1); have HB2 := Lib.hid (below_step HB1.out HB1.out.size b_); have hg2 := Nat.lt_of_lt_of_le hg1 b_.size; have hd2 := Nat.lt_of_lt_of_le hd1 b_.size; clear b_ k0 k1))
    obtain ⟨w3, hw3⟩ : ∃ z, z = w2.alloc (.cells #[.int .i64 1, .int .i64 2, .int .i64 1] 58) := ⟨_, rfl⟩
    obtain ⟨f, hf⟩ : ∃ b, b = w2.heap.size := ⟨_, rfl⟩
    have FF3 : Hid (V3 f (.int .i64 1) (.int .i64 2) (.int .i64 1) w3) := by show V3 _ _ _ _ _; rw [hw3, hf]; exact V3.new _ _ _ _ _
    have ZZ3 : Hid (V3 g (.int .i64 0) (.int .i64 0) (.int .i64 0) w3) := by show V3 _ _ _ _ _; rw [hw3]; exact ZZ2.out.below (below_alloc w2 _) hg2
    have SS3 : Hid (w3.cell? ⟨w.heap.size, 0, none⟩ = some (.int .i64 pS) ∧ w3.cell? ⟨w.heap.size, 1, none⟩ = some (.slice aS 2 cS)) := by show _ ∧ _; rw [hw3]; exact ss2 (below_alloc w2 _) hd2 SS2.out
    have HB3 : Hid (Below w.heap.size w w3) := by show Below _ _ _; rw [hw3]; exact HB2.out.alloc HB2.out.size _
    have hgf : g ≠ f := by rw [hf]; exact Nat.ne_of_lt hg2
    have hf3 : f < w3.heap.size := by rw [hw3, hf]; simp
    have hg3 : g < w3.heap.size := by rw [hw3]; exact Nat.lt_of_lt_of_le hg2 (size_alloc w2 _)
    have hd3 : w.heap.size < w3.heap.size := by rw [hw3]; exact Nat.lt_of_lt_of_le hd2 (size_alloc w2 _)
    have hlf : w.heap.size ≤ f := by rw [hf]; exact Nat.le_of_lt hd2
    rw [← hw3, ← hf]
    clear hw3 hf
    obtain ⟨⟨f0, f1, f2⟩, _⟩ := FF3.out
    obtain ⟨⟨z0, z1, z2⟩, y0, y1, y2⟩ := ZZ3.out
    go_wp2
    refine bodyPost_ret (v := .agg #[.int .i64 1, .int .i64 2, .int .i64 1]) (by simp [results, Tryz.results60, go_sem, z0, z1, z2]) rfl ⟨by rw [HV.out.1, HV.out.2.1, HV.out.2.2], below_vput3 HB3.out (Nat.le_of_lt hwg)⟩
  · by_cases hr : rt pS (sqT pS S) < 0
    · have HV : Hid (stB pS S = 1 ∧ stR S = 2 ∧ stD pS S = 2) := by
        show _ ∧ _ ∧ _
        unfold stB stR stD
        rw [hn]
        simp [hr]
      have HRT : Hid (rtP pS Q = 0 ∧ rtV pS Q = 0 ∧ rtB pS Q = false) := by show _ ∧ _ ∧ _; rw [hQ]; exact rt_no hr
      have hr1 : R < 0 := by rw [hR, hQ]; exact hr
      have hr2 : ¬ 0 ≤ R := by omega
      clear hr hR hQ
      rw [hn]
      have k0 := nw0 w (.int .i64 pS) (.slice aS 3 cS) 26
      have k1 := nw1 w (.int .i64 pS) (.slice aS 3 cS) 26
      have HB0 := Lib.hid (below_alloc w (.cells #[.int .i64 pS, .slice aS 3 cS] 26))
      go_enter Tryz.func60, Tryz.ntmps60
      go_upto_region 1 with fail
      obtain ⟨w0, hw0'⟩ : ∃ z, z = w.alloc (.cells #[.int .i64 pS, .slice aS 3 cS] 26) := ⟨_, rfl⟩
      rw [← hw0'] at HB0 k0 k1 ⊢
      have hw0 : w.heap.size < w0.heap.size := by rw [hw0']; simp
      have hwz : w.heap.size + 1 = w0.heap.size := by rw [hw0']; simp
      try rw [hwz]
      clear hw0'
      obtain ⟨w1, hw1⟩ : ∃ z, z = w0.alloc (.cells #[.int .i64 0, .int .i64 0, .int .i64 0] 58) := ⟨_, rfl⟩
      obtain ⟨g, hg⟩ : ∃ b, b = w0.heap.size := ⟨_, rfl⟩
      have hs0 := ss2 (below_alloc w0 (.cells #[.int .i64 0, .int .i64 0, .int .i64 0] 58)) hw0 ⟨k0, k1⟩
      have z0 : V3 g (.int .i64 0) (.int .i64 0) (.int .i64 0) w1 := by rw [hw1, hg]; exact V3.new _ _ _ _ _
      have HB1 : Hid (Below w.heap.size w w1) := by show Below _ _ _; rw [hw1]; exact HB0.out.alloc HB0.out.size _
      have hg1 : g < w1.heap.size := by rw [hw1, hg]; simp
      have hwg : w.heap.size < g := by omega
      rw [← hw1] at hs0
      rw [← hw1]
      rw [← hg]
      clear hw1 hwz hg k0 k1
      have hd1 : w.heap.size < w1.heap.size := Nat.lt_trans hwg hg1
      have SS1 := Lib.hid hs0
      have ZZ1 := Lib.hid z0
      obtain ⟨k0, k1⟩ := hs0
      clear z0
      go_upto_region 3 with (go_at_call 90; ((with_reducible refine (wholePower_L 1 1 2 w1 (by omega) rfl rfl).mono ?_); rintro e w2 ⟨rfl, b_⟩; have SS2 := Lib.hid (ss2 b_ hd1 SS1.out); have ZZ2 := Lib.hid (ZZ1.out.below b_ hg1); have HB2 := Lib.hid (below_step HB1.out HB1.out.size b_); have hg2 := Nat.lt_of_lt_of_le hg1 b_.size; have hd2 := Nat.lt_of_lt_of_le hd1 b_.size; clear b_ k0 k1))
      obtain ⟨w3, hw3⟩ : ∃ z, z = w2.alloc (.cells #[.int .i64 1, .int .i64 2, .int .i64 1] 58) := ⟨_, rfl⟩
      obtain ⟨f, hf⟩ : ∃ b, b = w2.heap.size := ⟨_, rfl⟩
      have FF3 : Hid (V3 f (.int .i64 1) (.int .i64 2) (.int .i64 1) w3) := by show V3 _ _ _ _ _; rw [hw3, hf]; exact V3.new _ _ _ _ _
      have ZZ3 : Hid (V3 g (.int .i64 0) (.int .i64 0) (.int .i64 0) w3) := by show V3 _ _ _ _ _; rw [hw3]; exact ZZ2.out.below (below_alloc w2 _) hg2
      have SS3 : Hid (w3.cell? ⟨w.heap.size, 0, none⟩ = some (.int .i64 pS) ∧ w3.cell? ⟨w.heap.size, 1, none⟩ = some (.slice aS 3 cS)) := by show _ ∧ _; rw [hw3]; exact ss2 (below_alloc w2 _) hd2 SS2.out
      have HB3 : Hid (Below w.heap.size w w3) := by show Below _ _ _; rw [hw3]; exact HB2.out.alloc HB2.out.size _
      have hgf : g ≠ f := by rw [hf]; exact Nat.ne_of_lt hg2
      have hf3 : f < w3.heap.size := by rw [hw3, hf]; simp
      have hg3 : g < w3.heap.size := by rw [hw3]; exact Nat.lt_of_lt_of_le hg2 (size_alloc w2 _)
      have hd3 : w.heap.size < w3.heap.size := by rw [hw3]; exact Nat.lt_of_lt_of_le hd2 (size_alloc w2 _)
      have hlf : w.heap.size ≤ f := by rw [hf]; exact Nat.le_of_lt hd2
      rw [← hw3, ← hf]
      clear hw3 hf
      obtain ⟨k0, k1⟩ := SS3.out
      go_upto_region 6 with (first | (go_at_call 91; ((with_reducible refine (pseudoscalarSquare_n pS aS S 3 cS loS tpS w3 hn HI.out (HS.out.below HB3.out tS) (Nat.le_trans tS HB3.out.size)).mono ?_); rintro e w4 ⟨rfl, b_⟩; rw [← HQ.out]; have FF4 := Lib.hid (FF3.out.below b_ hf3); have ZZ4 := Lib.hid (ZZ3.out.below b_ hg3); have HB4 := Lib.hid (below_step HB3.out HB3.out.size b_); have hg4 := Nat.lt_of_lt_of_le hg3 b_.size; have hf4 := Nat.lt_of_lt_of_le hf3 b_.size; clear b_ k0 k1)) | (go_at_call 92; ((with_reducible refine (root_any pS Q w4 HP.out HQB.out.1 HQB.out.2).mono ?_); rintro e w5 ⟨rfl, b_⟩; rw [HRT.out.1, HRT.out.2.1, HRT.out.2.2]; have FF5 := Lib.hid (FF4.out.below b_ hf4); have ZZ5 := Lib.hid (ZZ4.out.below b_ hg4); have HB5 := Lib.hid (below_step HB4.out HB4.out.size b_); have hg5 := Nat.lt_of_lt_of_le hg4 b_.size; have hf5 := Nat.lt_of_lt_of_le hf4 b_.size; clear b_)))
      obtain ⟨w6, hw6⟩ : ∃ z, z = w5.alloc (.cells #[.int .i64 0, .int .i64 0] 108) := ⟨_, rfl⟩
      have FF6 : Hid (V3 f (.int .i64 1) (.int .i64 2) (.int .i64 1) w6) := by show V3 _ _ _ _ _; rw [hw6]; exact FF5.out.below (below_alloc w5 _) hf5
      have ZZ6 : Hid (V3 g (.int .i64 0) (.int .i64 0) (.int .i64 0) w6) := by show V3 _ _ _ _ _; rw [hw6]; exact ZZ5.out.below (below_alloc w5 _) hg5
      have HB6 : Hid (Below w.heap.size w w6) := by show Below _ _ _; rw [hw6]; exact HB5.out.alloc HB5.out.size _
      rw [← hw6]
      clear hw6
      obtain ⟨⟨f0, f1, f2⟩, e0, e1, e2⟩ := FF6.out
      obtain ⟨⟨z0, z1, z2⟩, y0, y1, y2⟩ := ZZ6.out
      go_upto_region 9 with fail
      clear f0 f1 f2 e0 e1 e2 z0 z1 z2 y0 y1 y2
      obtain ⟨w7, hw7⟩ : ∃ z, z = w6.setCell ⟨f, 2, none⟩ (.int .i64 2) := ⟨_, rfl⟩
      have FF7 : V3 f (.int .i64 1) (.int .i64 2) (.int .i64 2) w7 := by rw [hw7]; exact FF6.out.put2 _
      have ZZ7 : V3 g (.int .i64 0) (.int .i64 0) (.int .i64 0) w7 := by rw [hw7]; exact ZZ6.out.far hgf _ _
      have HB7 : Hid (Below w.heap.size w w7) := by show Below _ _ _; rw [hw7]; exact HB6.out.setCell hlf _
      rw [← hw7]
      clear hw7
      obtain ⟨⟨f0, f1, f2⟩, _⟩ := FF7
      obtain ⟨⟨z0, z1, z2⟩, y0, y1, y2⟩ := ZZ7
      go_wp2
      refine bodyPost_ret (v := .agg #[.int .i64 1, .int .i64 2, .int .i64 2]) (by simp [results, Tryz.results60, go_sem, z0, z1, z2]) rfl ⟨by rw [HV.out.1, HV.out.2.1, HV.out.2.2], below_vput3 HB7.out (Nat.le_of_lt hwg)⟩
    · have HV : Hid (stB pS S = 2 ∧ stR S = 2 ∧ stD pS S = 1) := by
        show _ ∧ _ ∧ _
        unfold stB stR stD
        rw [hn]
        simp [hr]
      have HRT : Hid (rtP pS Q = pS ∧ rtV pS Q = R ∧ rtB pS Q = true) := by show _ ∧ _ ∧ _; rw [hR, hQ]; exact rt_yes (by omega)
      have hr1 : ¬ R < 0 := by rw [hR, hQ]; exact hr
      have hr2 : 0 ≤ R := by omega
      clear hr hR hQ
      rw [hn]
      have k0 := nw0 w (.int .i64 pS) (.slice aS 3 cS) 26
      have k1 := nw1 w (.int .i64 pS) (.slice aS 3 cS) 26
      have HB0 := Lib.hid (below_alloc w (.cells #[.int .i64 pS, .slice aS 3 cS] 26))
      go_enter Tryz.func60, Tryz.ntmps60
      go_upto_region 1 with fail
      obtain ⟨w0, hw0'⟩ : ∃ z, z = w.alloc (.cells #[.int .i64 pS, .slice aS 3 cS] 26) := ⟨_, rfl⟩
      rw [← hw0'] at HB0 k0 k1 ⊢
      have hw0 : w.heap.size < w0.heap.size := by rw [hw0']; simp
      have hwz : w.heap.size + 1 = w0.heap.size := by rw [hw0']; simp
      try rw [hwz]
      clear hw0'
      obtain ⟨w1, hw1⟩ : ∃ z, z = w0.alloc (.cells #[.int .i64 0, .int .i64 0, .int .i64 0] 58) := ⟨_, rfl⟩
      obtain ⟨g, hg⟩ : ∃ b, b = w0.heap.size := ⟨_, rfl⟩
      have hs0 := ss2 (below_alloc w0 (.cells #[.int .i64 0, .int .i64 0, .int .i64 0] 58)) hw0 ⟨k0, k1⟩
      have z0 : V3 g (.int .i64 0) (.int .i64 0) (.int .i64 0) w1 := by rw [hw1, hg]; exact V3.new _ _ _ _ _
      have HB1 : Hid (Below w.heap.size w w1) := by show Below _ _ _; rw [hw1]; exact HB0.out.alloc HB0.out.size _
      have hg1 : g < w1.heap.size := by rw [hw1, hg]; simp
      have hwg : w.heap.size < g := by omega
      rw [← hw1] at hs0
      rw [← hw1]
      rw [← hg]
      clear hw1 hwz hg k0 k1
      have hd1 : w.heap.size < w1.heap.size := Nat.lt_trans hwg hg1
      have SS1 := Lib.hid hs0
      have ZZ1 := Lib.hid z0
      obtain ⟨k0, k1⟩ := hs0
      clear z0
      go_upto_region 3 with (go_at_call 90; ((with_reducible refine (wholePower_L 1 1 2 w1 (by omega) rfl rfl).mono ?_); rintro e w2 ⟨rfl, b_⟩; have SS2 := Lib.hid (ss2 b_ hd1 SS1.out); have ZZ2 := Lib.hid (ZZ1.out.below b_ hg1); have HB2 := Lib.hid (below_step HB1.out HB1.out.size b_); have hg2 := Nat.lt_of_lt_of_le hg1 b_.size; have hd2 := Nat.lt_of_lt_of_le hd1 b_.size; clear b_ k0 k1))
      obtain ⟨w3, hw3⟩ : ∃ z, z = w2.alloc (.cells #[.int .i64 1, .int .i64 2, .int .i64 1] 58) := ⟨_, rfl⟩
      obtain ⟨f, hf⟩ : ∃ b, b = w2.heap.size := ⟨_, rfl⟩
      have FF3 : Hid (V3 f (.int .i64 1) (.int .i64 2) (.int .i64 1) w3) := by show V3 _ _ _ _ _; rw [hw3, hf]; exact V3.new _ _ _ _ _
      have ZZ3 : Hid (V3 g (.int .i64 0) (.int .i64 0) (.int .i64 0) w3) := by show V3 _ _ _ _ _; rw [hw3]; exact ZZ2.out.below (below_alloc w2 _) hg2
      have SS3 : Hid (w3.cell? ⟨w.heap.size, 0, none⟩ = some (.int .i64 pS) ∧ w3.cell? ⟨w.heap.size, 1, none⟩ = some (.slice aS 3 cS)) := by show _ ∧ _; rw [hw3]; exact ss2 (below_alloc w2 _) hd2 SS2.out
      have HB3 : Hid (Below w.heap.size w w3) := by show Below _ _ _; rw [hw3]; exact HB2.out.alloc HB2.out.size _
      have hgf : g ≠ f := by rw [hf]; exact Nat.ne_of_lt hg2
      have hf3 : f < w3.heap.size := by rw [hw3, hf]; simp
      have hg3 : g < w3.heap.size := by rw [hw3]; exact Nat.lt_of_lt_of_le hg2 (size_alloc w2 _)
      have hd3 : w.heap.size < w3.heap.size := by rw [hw3]; exact Nat.lt_of_lt_of_le hd2 (size_alloc w2 _)
      have hlf : w.heap.size ≤ f := by rw [hf]; exact Nat.le_of_lt hd2
      rw [← hw3, ← hf]
      clear hw3 hf
      obtain ⟨k0, k1⟩ := SS3.out
      go_upto_region 6 with (first | (go_at_call 91; ((with_reducible refine (pseudoscalarSquare_n pS aS S 3 cS loS tpS w3 hn HI.out (HS.out.below HB3.out tS) (Nat.le_trans tS HB3.out.size)).mono ?_); rintro e w4 ⟨rfl, b_⟩; rw [← HQ.out]; have FF4 := Lib.hid (FF3.out.below b_ hf3); have ZZ4 := Lib.hid (ZZ3.out.below b_ hg3); have HB4 := Lib.hid (below_step HB3.out HB3.out.size b_); have hg4 := Nat.lt_of_lt_of_le hg3 b_.size; have hf4 := Nat.lt_of_lt_of_le hf3 b_.size; clear b_ k0 k1)) | (go_at_call 92; ((with_reducible refine (root_any pS Q w4 HP.out HQB.out.1 HQB.out.2).mono ?_); rintro e w5 ⟨rfl, b_⟩; rw [HRT.out.1, HRT.out.2.1, HRT.out.2.2]; have FF5 := Lib.hid (FF4.out.below b_ hf4); have ZZ5 := Lib.hid (ZZ4.out.below b_ hg4); have HB5 := Lib.hid (below_step HB4.out HB4.out.size b_); have hg5 := Nat.lt_of_lt_of_le hg4 b_.size; have hf5 := Nat.lt_of_lt_of_le hf4 b_.size; clear b_)))
      obtain ⟨w6, hw6⟩ : ∃ z, z = w5.alloc (.cells #[.int .i64 pS, .int .i64 R] 108) := ⟨_, rfl⟩
      have FF6 : Hid (V3 f (.int .i64 1) (.int .i64 2) (.int .i64 1) w6) := by show V3 _ _ _ _ _; rw [hw6]; exact FF5.out.below (below_alloc w5 _) hf5
      have ZZ6 : Hid (V3 g (.int .i64 0) (.int .i64 0) (.int .i64 0) w6) := by show V3 _ _ _ _ _; rw [hw6]; exact ZZ5.out.below (below_alloc w5 _) hg5
      have HB6 : Hid (Below w.heap.size w w6) := by show Below _ _ _; rw [hw6]; exact HB5.out.alloc HB5.out.size _
      rw [← hw6]
      clear hw6
      obtain ⟨⟨f0, f1, f2⟩, e0, e1, e2⟩ := FF6.out
      obtain ⟨⟨z0, z1, z2⟩, y0, y1, y2⟩ := ZZ6.out
      go_upto_region 9 with fail
      clear f0 f1 f2 e0 e1 e2 z0 z1 z2 y0 y1 y2
      obtain ⟨w7, hw7⟩ : ∃ z, z = w6.setCell ⟨f, 0, none⟩ (.int .i64 2) := ⟨_, rfl⟩
      have FF7 : V3 f (.int .i64 2) (.int .i64 2) (.int .i64 1) w7 := by rw [hw7]; exact FF6.out.put0 _
      have ZZ7 : V3 g (.int .i64 0) (.int .i64 0) (.int .i64 0) w7 := by rw [hw7]; exact ZZ6.out.far hgf _ _
      have HB7 : Hid (Below w.heap.size w w7) := by show Below _ _ _; rw [hw7]; exact HB6.out.setCell hlf _
      rw [← hw7]
      clear hw7
      obtain ⟨⟨f0, f1, f2⟩, _⟩ := FF7
      obtain ⟨⟨z0, z1, z2⟩, y0, y1, y2⟩ := ZZ7
      go_wp2
      refine bodyPost_ret (v := .agg #[.int .i64 2, .int .i64 2, .int .i64 1]) (by simp [results, Tryz.results60, go_sem, z0, z1, z2]) rfl ⟨by rw [HV.out.1, HV.out.2.1, HV.out.2.2], below_vput3 HB7.out (Nat.le_of_lt hwg)⟩
  · have HV : Hid (stB pS S = 1 ∧ stR S = 4 ∧ stD pS S = 1) := by
      show _ ∧ _ ∧ _
      unfold stB stR stD
      rw [hn]
      simp
    rw [hn]
    have k0 := nw0 w (.int .i64 pS) (.slice aS 4 cS) 26
    have k1 := nw1 w (.int .i64 pS) (.slice aS 4 cS) 26
    have HB0 := Lib.hid (below_alloc w (.cells #[.int .i64 pS, .slice aS 4 cS] 26))
    go_enter Tryz.func60, Tryz.ntmps60
    go_upto_region 1 with fail
    obtain ⟨w0, hw0'⟩ : ∃ z, z = w.alloc (.cells #[.int .i64 pS, .slice aS 4 cS] 26) := ⟨_, rfl⟩
    rw [← hw0'] at HB0 k0 k1 ⊢
    have hw0 : w.heap.size < w0.heap.size := by rw [hw0']; simp
    have hwz : w.heap.size + 1 = w0.heap.size := by rw [hw0']; simp
    try rw [hwz]
    clear hw0'
    obtain ⟨w1, hw1⟩ : ∃ z, z = w0.alloc (.cells #[.int .i64 0, .int .i64 0, .int .i64 0] 58) := ⟨_, rfl⟩
    obtain ⟨g, hg⟩ : ∃ b, b = w0.heap.size := ⟨_, rfl⟩
    have hs0 := ss2 (below_alloc w0 (.cells #[.int .i64 0, .int .i64 0, .int .i64 0] 58)) hw0 ⟨k0, k1⟩
    have z0 : V3 g (.int .i64 0) (.int .i64 0) (.int .i64 0) w1 := by rw [hw1, hg]; exact V3.new _ _ _ _ _
    have HB1 : Hid (Below w.heap.size w w1) := by show Below _ _ _; rw [hw1]; exact HB0.out.alloc HB0.out.size _
    have hg1 : g < w1.heap.size := by rw [hw1, hg]; simp
    have hwg : w.heap.size < g := by omega
    rw [← hw1] at hs0
    rw [← hw1]
    rw [← hg]
    clear hw1 hwz hg k0 k1
    have hd1 : w.heap.size < w1.heap.size := Nat.lt_trans hwg hg1
    have SS1 := Lib.hid hs0
    have ZZ1 := Lib.hid z0
    obtain ⟨k0, k1⟩ := hs0
    clear z0
    go_upto_region 3 with (go_at_call 90; ((with_reducible refine (wholePower_L 2 2 4 w1 (by omega) rfl rfl).mono ?_); rintro e w2 ⟨rfl, b_⟩; have SS2 := Lib.hid (ss2 b_ hd1 SS1.out); have ZZ2 := Lib.hid (ZZ1.out.below b_ hg1); have HB2 := Lib.hid (below_step HB1.out HB1.out.size b_); have hg2 := Nat.lt_of_lt_of_le hg1 b_.size; have hd2 := Nat.lt_of_lt_of_le hd1 b_.size; clear b_ k0 k1))
    obtain ⟨w3, hw3⟩ : ∃ z, z = w2.alloc (.cells #[.int .i64 1, .int .i64 4, .int .i64 1] 58) := ⟨_, rfl⟩
    obtain ⟨f, hf⟩ : ∃ b, b = w2.heap.size := ⟨_, rfl⟩
    have FF3 : Hid (V3 f (.int .i64 1) (.int .i64 4) (.int .i64 1) w3) := by show V3 _ _ _ _ _; rw [hw3, hf]; exact V3.new _ _ _ _ _
    have ZZ3 : Hid (V3 g (.int .i64 0) (.int .i64 0) (.int .i64 0) w3) := by show V3 _ _ _ _ _; rw [hw3]; exact ZZ2.out.below (below_alloc w2 _) hg2
    have SS3 : Hid (w3.cell? ⟨w.heap.size, 0, none⟩ = some (.int .i64 pS) ∧ w3.cell? ⟨w.heap.size, 1, none⟩ = some (.slice aS 4 cS)) := by show _ ∧ _; rw [hw3]; exact ss2 (below_alloc w2 _) hd2 SS2.out
    have HB3 : Hid (Below w.heap.size w w3) := by show Below _ _ _; rw [hw3]; exact HB2.out.alloc HB2.out.size _
    have hgf : g ≠ f := by rw [hf]; exact Nat.ne_of_lt hg2
    have hf3 : f < w3.heap.size := by rw [hw3, hf]; simp
    have hg3 : g < w3.heap.size := by rw [hw3]; exact Nat.lt_of_lt_of_le hg2 (size_alloc w2 _)
    have hd3 : w.heap.size < w3.heap.size := by rw [hw3]; exact Nat.lt_of_lt_of_le hd2 (size_alloc w2 _)
    have hlf : w.heap.size ≤ f := by rw [hf]; exact Nat.le_of_lt hd2
    rw [← hw3, ← hf]
    clear hw3 hf
    obtain ⟨⟨f0, f1, f2⟩, _⟩ := FF3.out
    obtain ⟨⟨z0, z1, z2⟩, y0, y1, y2⟩ := ZZ3.out
    go_wp2
    refine bodyPost_ret (v := .agg #[.int .i64 1, .int .i64 4, .int .i64 1]) (by simp [results, Tryz.results60, go_sem, z0, z1, z2]) rfl ⟨by rw [HV.out.1, HV.out.2.1, HV.out.2.2], below_vput3 HB3.out (Nat.le_of_lt hwg)⟩

set_option maxRecDepth 100000 in
set_option maxHeartbeats 6400000 in
theorem l09Structure_st (pS : Int) (aS : Option Addr) (S : List Int) (cS loS tpS : Nat) (w : World) (hs : isSp pS S = true) (h4 : S.length ≤ 4) (hS : RowIn loS tpS w aS S) (tS : tpS ≤ w.heap.size) :
    Calls Tryz.prog 33 #[.agg #[.int .i64 pS, .slice aS S.length cS]] w (fun e w' => e = .returned (.tuple #[.int .i64 (stB pS S), .int .i64 (stR S), .int .i64 (stD pS S)]) ∧ Below w.heap.size w w') := by
  have HS := Lib.hid hS
  have HI := Lib.hid hs
  have hfv := field_value
  have HP := Lib.hid (isSp_iff.1 hs).prime
  have hlo := (isSp_iff.1 hs).lo
  obtain ⟨Q, hQ⟩ : ∃ q, q = sqT pS S := ⟨_, rfl⟩
  have HQ := Lib.hid hQ
  have HQB : Hid (0 ≤ Q ∧ Q < pS) := by show _ ∧ _; rw [hQ]; exact sqT_bd hs
  obtain ⟨R, hR⟩ : ∃ r, r = rt pS Q := ⟨_, rfl⟩
  have HRE := Lib.hid hR
  clear hS hs
  rcases st_cases hlo h4 with hn | hn | hn | hn
  · by_cases hr : rt pS (sqT pS S) < 0
    · have HV : Hid (stB pS S = 1 ∧ stR S = 1 ∧ stD pS S = 2) := by
        show _ ∧ _ ∧ _
        unfold stB stR stD
        rw [hn]
        simp [hr]
      have HRT : Hid (rtP pS Q = 0 ∧ rtV pS Q = 0 ∧ rtB pS Q = false) := by show _ ∧ _ ∧ _; rw [hQ]; exact rt_no hr
      have hr1 : R < 0 := by rw [hR, hQ]; exact hr
      have hr2 : ¬ 0 ≤ R := by omega
      clear hr hR hQ
      rw [hn]
      have k0 := nw0 w (.int .i64 pS) (.slice aS 1 cS) 26
      have k1 := nw1 w (.int .i64 pS) (.slice aS 1 cS) 26
      have HB0 := Lib.hid (below_alloc w (.cells #[.int .i64 pS, .slice aS 1 cS] 26))
      go_enter Tryz.func33, Tryz.ntmps33
      go_upto_region 1 with fail
      obtain ⟨w1, hw1⟩ : ∃ z, z = w.alloc (.cells #[.int .i64 pS, .slice aS 1 cS] 26) := ⟨_, rfl⟩
      rw [← hw1] at HB0 k0 k1 ⊢
      have hd1 : w.heap.size < w1.heap.size := by rw [hw1]; simp
      clear hw1
      have SS1 := Lib.hid (And.intro k0 k1)
      go_wp2
      have hs1 : Hid (w1.drew.cell? ⟨w.heap.size, 0, none⟩ = some (.int .i64 pS) ∧ w1.drew.cell? ⟨w.heap.size, 1, none⟩ = some (.slice aS 1 cS)) := SS1.out
      have HBD : Hid (Below w.heap.size w w1.drew) := HB0.out.drew
      have hdd : w.heap.size < w1.drew.heap.size := hd1
      clear k0 k1
      go_region_held3 (fun w' => w'.cell? ⟨w.heap.size, 0, none⟩ = some (.int .i64 pS) ∧ w'.cell? ⟨w.heap.size, 1, none⟩ = some (.slice aS 1 cS)) (first | exact hs1.out | exact SSa.out | exact SSab.out | go_keep) (first | (go_at_call 62; (with_reducible refine (l05Square_n pS aS S 1 cS loS tpS w1.drew hn HI.out (HS.out.below HBD.out tS) (Nat.le_trans tS (HBD.out).size)).mono ?_); rintro e wa ⟨rfl, b_⟩; rw [← HQ.out]; have SSa := Lib.hid (ss2 b_ hdd hs1.out); have HBa := Lib.hid (below_step HBD.out (Nat.le_of_lt hdd) b_); have zz_ := b_.size; have hda := Nat.lt_of_lt_of_le hdd zz_; clear b_) | (go_at_call 61; (with_reducible refine (l01Root_bb pS Q wa HP.out HQB.out.1 HQB.out.2).mono ?_); rintro e wab ⟨rfl, b_⟩; rw [← HRE.out]; have SSab := Lib.hid (ss2 b_ hda SSa.out); have HBab := Lib.hid (below_step HBa.out (Nat.le_of_lt hda) b_); have zz_ := b_.size; have hdab := Nat.lt_of_lt_of_le hda zz_; clear b_))
      all_goals
        go_wp2
        refine bodyPost_ret (v := .tuple #[.int .i64 1, .int .i64 1, .int .i64 2]) (by simp [results, Tryz.results33, go_sem]) rfl ⟨by rw [HV.out.1, HV.out.2.1, HV.out.2.2], HBab.out⟩
    · have HV : Hid (stB pS S = 2 ∧ stR S = 1 ∧ stD pS S = 1) := by
        show _ ∧ _ ∧ _
        unfold stB stR stD
        rw [hn]
        simp [hr]
      have HRT : Hid (rtP pS Q = pS ∧ rtV pS Q = R ∧ rtB pS Q = true) := by show _ ∧ _ ∧ _; rw [hR, hQ]; exact rt_yes (by omega)
      have hr1 : ¬ R < 0 := by rw [hR, hQ]; exact hr
      have hr2 : 0 ≤ R := by omega
      clear hr hR hQ
      rw [hn]
      have k0 := nw0 w (.int .i64 pS) (.slice aS 1 cS) 26
      have k1 := nw1 w (.int .i64 pS) (.slice aS 1 cS) 26
      have HB0 := Lib.hid (below_alloc w (.cells #[.int .i64 pS, .slice aS 1 cS] 26))
      go_enter Tryz.func33, Tryz.ntmps33
      go_upto_region 1 with fail
      obtain ⟨w1, hw1⟩ : ∃ z, z = w.alloc (.cells #[.int .i64 pS, .slice aS 1 cS] 26) := ⟨_, rfl⟩
      rw [← hw1] at HB0 k0 k1 ⊢
      have hd1 : w.heap.size < w1.heap.size := by rw [hw1]; simp
      clear hw1
      have SS1 := Lib.hid (And.intro k0 k1)
      go_wp2
      have hs1 : Hid (w1.drew.cell? ⟨w.heap.size, 0, none⟩ = some (.int .i64 pS) ∧ w1.drew.cell? ⟨w.heap.size, 1, none⟩ = some (.slice aS 1 cS)) := SS1.out
      have HBD : Hid (Below w.heap.size w w1.drew) := HB0.out.drew
      have hdd : w.heap.size < w1.drew.heap.size := hd1
      clear k0 k1
      go_region_held3 (fun w' => w'.cell? ⟨w.heap.size, 0, none⟩ = some (.int .i64 pS) ∧ w'.cell? ⟨w.heap.size, 1, none⟩ = some (.slice aS 1 cS)) (first | exact hs1.out | exact SSa.out | exact SSab.out | go_keep) (first | (go_at_call 62; (with_reducible refine (l05Square_n pS aS S 1 cS loS tpS w1.drew hn HI.out (HS.out.below HBD.out tS) (Nat.le_trans tS (HBD.out).size)).mono ?_); rintro e wa ⟨rfl, b_⟩; rw [← HQ.out]; have SSa := Lib.hid (ss2 b_ hdd hs1.out); have HBa := Lib.hid (below_step HBD.out (Nat.le_of_lt hdd) b_); have zz_ := b_.size; have hda := Nat.lt_of_lt_of_le hdd zz_; clear b_) | (go_at_call 61; (with_reducible refine (l01Root_bb pS Q wa HP.out HQB.out.1 HQB.out.2).mono ?_); rintro e wab ⟨rfl, b_⟩; rw [← HRE.out]; have SSab := Lib.hid (ss2 b_ hda SSa.out); have HBab := Lib.hid (below_step HBa.out (Nat.le_of_lt hda) b_); have zz_ := b_.size; have hdab := Nat.lt_of_lt_of_le hda zz_; clear b_))
      all_goals
        go_wp2
        refine bodyPost_ret (v := .tuple #[.int .i64 2, .int .i64 1, .int .i64 1]) (by simp [results, Tryz.results33, go_sem]) rfl ⟨by rw [HV.out.1, HV.out.2.1, HV.out.2.2], HBab.out⟩
  · have HV : Hid (stB pS S = 1 ∧ stR S = 2 ∧ stD pS S = 1) := by
      show _ ∧ _ ∧ _
      unfold stB stR stD
      rw [hn]
      simp
    rw [hn]
    have k0 := nw0 w (.int .i64 pS) (.slice aS 2 cS) 26
    have k1 := nw1 w (.int .i64 pS) (.slice aS 2 cS) 26
    have HB0 := Lib.hid (below_alloc w (.cells #[.int .i64 pS, .slice aS 2 cS] 26))
    go_enter Tryz.func33, Tryz.ntmps33
    go_upto_region 1 with fail
    obtain ⟨w1, hw1⟩ : ∃ z, z = w.alloc (.cells #[.int .i64 pS, .slice aS 2 cS] 26) := ⟨_, rfl⟩
    rw [← hw1] at HB0 k0 k1 ⊢
    have hd1 : w.heap.size < w1.heap.size := by rw [hw1]; simp
    clear hw1
    have SS1 := Lib.hid (And.intro k0 k1)
    go_wp2
    refine bodyPost_ret (v := .tuple #[.int .i64 1, .int .i64 2, .int .i64 1]) (by simp [results, Tryz.results33, go_sem]) rfl ⟨by rw [HV.out.1, HV.out.2.1, HV.out.2.2], HB0.out⟩
  · by_cases hr : rt pS (sqT pS S) < 0
    · have HV : Hid (stB pS S = 1 ∧ stR S = 2 ∧ stD pS S = 2) := by
        show _ ∧ _ ∧ _
        unfold stB stR stD
        rw [hn]
        simp [hr]
      have HRT : Hid (rtP pS Q = 0 ∧ rtV pS Q = 0 ∧ rtB pS Q = false) := by show _ ∧ _ ∧ _; rw [hQ]; exact rt_no hr
      have hr1 : R < 0 := by rw [hR, hQ]; exact hr
      have hr2 : ¬ 0 ≤ R := by omega
      clear hr hR hQ
      rw [hn]
      have k0 := nw0 w (.int .i64 pS) (.slice aS 3 cS) 26
      have k1 := nw1 w (.int .i64 pS) (.slice aS 3 cS) 26
      have HB0 := Lib.hid (below_alloc w (.cells #[.int .i64 pS, .slice aS 3 cS] 26))
      go_enter Tryz.func33, Tryz.ntmps33
      go_upto_region 1 with fail
      obtain ⟨w1, hw1⟩ : ∃ z, z = w.alloc (.cells #[.int .i64 pS, .slice aS 3 cS] 26) := ⟨_, rfl⟩
      rw [← hw1] at HB0 k0 k1 ⊢
      have hd1 : w.heap.size < w1.heap.size := by rw [hw1]; simp
      clear hw1
      have SS1 := Lib.hid (And.intro k0 k1)
      go_wp2
      have hs1 : Hid (w1.drew.cell? ⟨w.heap.size, 0, none⟩ = some (.int .i64 pS) ∧ w1.drew.cell? ⟨w.heap.size, 1, none⟩ = some (.slice aS 3 cS)) := SS1.out
      have HBD : Hid (Below w.heap.size w w1.drew) := HB0.out.drew
      have hdd : w.heap.size < w1.drew.heap.size := hd1
      clear k0 k1
      go_region_held3 (fun w' => w'.cell? ⟨w.heap.size, 0, none⟩ = some (.int .i64 pS) ∧ w'.cell? ⟨w.heap.size, 1, none⟩ = some (.slice aS 3 cS)) (first | exact hs1.out | exact SSa.out | exact SSab.out | go_keep) (first | (go_at_call 62; (with_reducible refine (l05Square_n pS aS S 3 cS loS tpS w1.drew hn HI.out (HS.out.below HBD.out tS) (Nat.le_trans tS (HBD.out).size)).mono ?_); rintro e wa ⟨rfl, b_⟩; rw [← HQ.out]; have SSa := Lib.hid (ss2 b_ hdd hs1.out); have HBa := Lib.hid (below_step HBD.out (Nat.le_of_lt hdd) b_); have zz_ := b_.size; have hda := Nat.lt_of_lt_of_le hdd zz_; clear b_) | (go_at_call 61; (with_reducible refine (l01Root_bb pS Q wa HP.out HQB.out.1 HQB.out.2).mono ?_); rintro e wab ⟨rfl, b_⟩; rw [← HRE.out]; have SSab := Lib.hid (ss2 b_ hda SSa.out); have HBab := Lib.hid (below_step HBa.out (Nat.le_of_lt hda) b_); have zz_ := b_.size; have hdab := Nat.lt_of_lt_of_le hda zz_; clear b_))
      all_goals
        go_wp2
        refine bodyPost_ret (v := .tuple #[.int .i64 1, .int .i64 2, .int .i64 2]) (by simp [results, Tryz.results33, go_sem]) rfl ⟨by rw [HV.out.1, HV.out.2.1, HV.out.2.2], HBab.out⟩
    · have HV : Hid (stB pS S = 2 ∧ stR S = 2 ∧ stD pS S = 1) := by
        show _ ∧ _ ∧ _
        unfold stB stR stD
        rw [hn]
        simp [hr]
      have HRT : Hid (rtP pS Q = pS ∧ rtV pS Q = R ∧ rtB pS Q = true) := by show _ ∧ _ ∧ _; rw [hR, hQ]; exact rt_yes (by omega)
      have hr1 : ¬ R < 0 := by rw [hR, hQ]; exact hr
      have hr2 : 0 ≤ R := by omega
      clear hr hR hQ
      rw [hn]
      have k0 := nw0 w (.int .i64 pS) (.slice aS 3 cS) 26
      have k1 := nw1 w (.int .i64 pS) (.slice aS 3 cS) 26
      have HB0 := Lib.hid (below_alloc w (.cells #[.int .i64 pS, .slice aS 3 cS] 26))
      go_enter Tryz.func33, Tryz.ntmps33
      go_upto_region 1 with fail
      obtain ⟨w1, hw1⟩ : ∃ z, z = w.alloc (.cells #[.int .i64 pS, .slice aS 3 cS] 26) := ⟨_, rfl⟩
      rw [← hw1] at HB0 k0 k1 ⊢
      have hd1 : w.heap.size < w1.heap.size := by rw [hw1]; simp
      clear hw1
      have SS1 := Lib.hid (And.intro k0 k1)
      go_wp2
      have hs1 : Hid (w1.drew.cell? ⟨w.heap.size, 0, none⟩ = some (.int .i64 pS) ∧ w1.drew.cell? ⟨w.heap.size, 1, none⟩ = some (.slice aS 3 cS)) := SS1.out
      have HBD : Hid (Below w.heap.size w w1.drew) := HB0.out.drew
      have hdd : w.heap.size < w1.drew.heap.size := hd1
      clear k0 k1
      go_region_held3 (fun w' => w'.cell? ⟨w.heap.size, 0, none⟩ = some (.int .i64 pS) ∧ w'.cell? ⟨w.heap.size, 1, none⟩ = some (.slice aS 3 cS)) (first | exact hs1.out | exact SSa.out | exact SSab.out | go_keep) (first | (go_at_call 62; (with_reducible refine (l05Square_n pS aS S 3 cS loS tpS w1.drew hn HI.out (HS.out.below HBD.out tS) (Nat.le_trans tS (HBD.out).size)).mono ?_); rintro e wa ⟨rfl, b_⟩; rw [← HQ.out]; have SSa := Lib.hid (ss2 b_ hdd hs1.out); have HBa := Lib.hid (below_step HBD.out (Nat.le_of_lt hdd) b_); have zz_ := b_.size; have hda := Nat.lt_of_lt_of_le hdd zz_; clear b_) | (go_at_call 61; (with_reducible refine (l01Root_bb pS Q wa HP.out HQB.out.1 HQB.out.2).mono ?_); rintro e wab ⟨rfl, b_⟩; rw [← HRE.out]; have SSab := Lib.hid (ss2 b_ hda SSa.out); have HBab := Lib.hid (below_step HBa.out (Nat.le_of_lt hda) b_); have zz_ := b_.size; have hdab := Nat.lt_of_lt_of_le hda zz_; clear b_))
      all_goals
        go_wp2
        refine bodyPost_ret (v := .tuple #[.int .i64 2, .int .i64 2, .int .i64 1]) (by simp [results, Tryz.results33, go_sem]) rfl ⟨by rw [HV.out.1, HV.out.2.1, HV.out.2.2], HBab.out⟩
  · have HV : Hid (stB pS S = 1 ∧ stR S = 4 ∧ stD pS S = 1) := by
      show _ ∧ _ ∧ _
      unfold stB stR stD
      rw [hn]
      simp
    rw [hn]
    have k0 := nw0 w (.int .i64 pS) (.slice aS 4 cS) 26
    have k1 := nw1 w (.int .i64 pS) (.slice aS 4 cS) 26
    have HB0 := Lib.hid (below_alloc w (.cells #[.int .i64 pS, .slice aS 4 cS] 26))
    go_enter Tryz.func33, Tryz.ntmps33
    go_upto_region 1 with fail
    obtain ⟨w1, hw1⟩ : ∃ z, z = w.alloc (.cells #[.int .i64 pS, .slice aS 4 cS] 26) := ⟨_, rfl⟩
    rw [← hw1] at HB0 k0 k1 ⊢
    have hd1 : w.heap.size < w1.heap.size := by rw [hw1]; simp
    clear hw1
    have SS1 := Lib.hid (And.intro k0 k1)
    go_wp2
    refine bodyPost_ret (v := .tuple #[.int .i64 1, .int .i64 4, .int .i64 1]) (by simp [results, Tryz.results33, go_sem]) rfl ⟨by rw [HV.out.1, HV.out.2.1, HV.out.2.2], HB0.out⟩

end Go.Proofs.YtijklpcelbnnjaaGreat
