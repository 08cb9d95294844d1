/-
  Orthogonal matrices (program): contracts of the program and of the model.
  Conditions: the lists are nil or rows of known cells, of at most 1048576 numbers.
  Lists of rows whose headers may be written to: new matrices, unit matrices, turned ones.
  Conditions: at least one column, at most 1024 rows and columns.
-/
import Derived.Test.YthbkfpkeofpocaaGreatQv37
import Derived.Test.YthbkfpkeofpocaaGreatQv36
import Derived.Test.YthbkfpkeofpocaaGreatQv30
import Derived.Deep.RegionHeld3
import Derived.Deep.DeepCutAuto
import Derived.Test.YthbkfpkeofpocaaGreatQv5
import Derived.Test.YthbkfpkeofpocaaGreatQv18
import Derived.Test.YthbkfpkeofpocaaGreatQv6
namespace Go.Proofs.YthbkfpkeofpocaaGreat
open Go.RowKit
set_option linter.unusedVariables false

set_option maxRecDepth 100000 in
set_option maxHeartbeats 6400000 in
theorem isOrthogonal_any (pS : Int) (aS : Option Addr) (S : List Int) (cS loS tpS : Nat) (am : Option Addr) (m : List (List Int)) (cm lom tpm : Nat) (w : World) (hS : RowIn loS tpS w aS S) (tS : tpS ≤ w.heap.size) (sS : S.length ≤ 1048576) (hm : MatIn lom tpm w am m) (tm : tpm ≤ w.heap.size) (sm' : m.length + tot m m.length ≤ 1048576) (hs : isSp pS S = true) :
    Calls Tryz.prog 29 #[.agg #[.int .i64 pS, .slice aS S.length cS], .slice am m.length cm] w (fun e w' => e = .returned (.bool (orB pS S m)) ∧ Below w.heap.size w w') := by
  have HS := Lib.hid hS
  have Hm := Lib.hid hm
  have HSM := Lib.hid sm'
  have k0 := nw0 w (.int .i64 pS) (.slice aS S.length cS) 24
  have k1 := nw1 w (.int .i64 pS) (.slice aS S.length cS) 24
  have HB0 := Lib.hid (below_alloc w (.cells #[.int .i64 pS, .slice aS S.length cS] 24))
  clear hS hm sm'
  have HX := Lib.hid (ism_same (m := m) hs)
  clear hs
  go_enter Tryz.func29, Tryz.ntmps29
  go_upto_region 1 with fail
  obtain ⟨w1, hw1⟩ : ∃ z, z = w.alloc (.cells #[.int .i64 pS, .slice aS S.length cS] 24) := ⟨_, rfl⟩
  rw [← hw1] at HB0 k0 k1 ⊢
  have hd1 : w.heap.size < w1.heap.size := by rw [hw1]; simp
  have HB1 := HB0
  clear hw1
  have SS1 := Lib.hid (And.intro k0 k1)
  go_wp2_with (go_at_call 55; ((with_reducible refine (impl_IsIsometry pS aS S cS loS tpS pS aS S cS loS tpS am m cm lom tpm w1 (HS.out.below HB1.out tS) (Nat.le_trans tS HB1.out.size) sS (HS.out.below HB1.out tS) (Nat.le_trans tS HB1.out.size) sS (Hm.out.below HB1.out tm) (Nat.le_trans tm HB1.out.size) HSM.out).mono ?_); rintro e w2 ⟨rfl, b_⟩; rw [HX.out.1, HX.out.2]; have SS2 := Lib.hid (ss2 b_ hd1 SS1.out); have HB2 := Lib.hid (below_step HB1.out HB1.out.size b_); have hd2 := Nat.lt_of_lt_of_le hd1 b_.size; clear k0 k1; obtain ⟨k0, k1⟩ := SS2.out; clear b_))
  go_ret
  exact ⟨rfl, HB2.out⟩

set_option maxRecDepth 100000 in
set_option maxHeartbeats 6400000 in
theorem checkOrthogonal_any (pS : Int) (aS : Option Addr) (S : List Int) (cS loS tpS : Nat) (am : Option Addr) (m : List (List Int)) (cm lom tpm : Nat) (w : World) (hS : RowIn loS tpS w aS S) (tS : tpS ≤ w.heap.size) (sS : S.length ≤ 1048576) (hm : MatIn lom tpm w am m) (tm : tpm ≤ w.heap.size) (sm' : m.length + tot m m.length ≤ 1048576) :
    Calls Tryz.prog 30 #[.agg #[.int .i64 pS, .slice aS S.length cS], .slice am m.length cm] w (fun e w' => e = .returned (.int .i64 (coC pS S m)) ∧ Below w.heap.size w w') := by
  have HS := Lib.hid hS
  have Hm := Lib.hid hm
  have HSM := Lib.hid sm'
  have k0 := nw0 w (.int .i64 pS) (.slice aS S.length cS) 24
  have k1 := nw1 w (.int .i64 pS) (.slice aS S.length cS) 24
  have HB0 := Lib.hid (below_alloc w (.cells #[.int .i64 pS, .slice aS S.length cS] 24))
  clear hS hm sm'
  by_cases h0 : regC pS S [] = 0
  · have HZ := Lib.hid h0
    have HI := Lib.hid (reg0 h0).1
    cases ho : orB pS S m with
    | true =>
      have HV : Hid (coC pS S m = 0) := coC_yes h0 ho
      have HO := Lib.hid ho
      clear ho h0
      go_enter Tryz.func30, Tryz.ntmps30
      go_upto_region 1 with fail
      obtain ⟨w1, hw1⟩ : ∃ z, z = w.alloc (.cells #[.int .i64 pS, .slice aS S.length cS] 24) := ⟨_, rfl⟩
      rw [← hw1] at HB0 k0 k1 ⊢
      have hd1 : w.heap.size < w1.heap.size := by rw [hw1]; simp
      have HB1 := HB0
      clear hw1
      have SS1 := Lib.hid (And.intro k0 k1)
      go_wp2_with (first | (go_at_call 28; ((with_reducible refine (checkR0 pS aS S cS loS tpS w1 (HS.out.below HB1.out tS) (Nat.le_trans tS HB1.out.size) sS).mono ?_); rintro e w2 ⟨rfl, b_⟩; rw [HZ.out]; have SS2 := Lib.hid (ss2 b_ hd1 SS1.out); have HB2 := Lib.hid (below_step HB1.out HB1.out.size b_); have hd2 := Nat.lt_of_lt_of_le hd1 b_.size; clear k0 k1; obtain ⟨k0, k1⟩ := SS2.out; clear b_)) | (go_at_call 29; ((with_reducible refine (isOrthogonal_any pS aS S cS loS tpS am m cm lom tpm w2 (HS.out.below HB2.out tS) (Nat.le_trans tS HB2.out.size) sS (Hm.out.below HB2.out tm) (Nat.le_trans tm HB2.out.size) HSM.out HI.out).mono ?_); rintro e w3 ⟨rfl, b_⟩; rw [HO.out]; have SS3 := Lib.hid (ss2 b_ hd2 SS2.out); have HB3 := Lib.hid (below_step HB2.out HB2.out.size b_); have hd3 := Nat.lt_of_lt_of_le hd2 b_.size; clear k0 k1; obtain ⟨k0, k1⟩ := SS3.out; clear b_)))
      go_ret
      exact ⟨by rw [HV.out]; rfl, HB3.out⟩
    | false =>
      have HV : Hid (coC pS S m = 2) := coC_out h0 ho
      have HO := Lib.hid ho
      clear ho h0
      go_enter Tryz.func30, Tryz.ntmps30
      go_upto_region 1 with fail
      obtain ⟨w1, hw1⟩ : ∃ z, z = w.alloc (.cells #[.int .i64 pS, .slice aS S.length cS] 24) := ⟨_, rfl⟩
      rw [← hw1] at HB0 k0 k1 ⊢
      have hd1 : w.heap.size < w1.heap.size := by rw [hw1]; simp
      have HB1 := HB0
      clear hw1
      have SS1 := Lib.hid (And.intro k0 k1)
      go_wp2_with (first | (go_at_call 28; ((with_reducible refine (checkR0 pS aS S cS loS tpS w1 (HS.out.below HB1.out tS) (Nat.le_trans tS HB1.out.size) sS).mono ?_); rintro e w2 ⟨rfl, b_⟩; rw [HZ.out]; have SS2 := Lib.hid (ss2 b_ hd1 SS1.out); have HB2 := Lib.hid (below_step HB1.out HB1.out.size b_); have hd2 := Nat.lt_of_lt_of_le hd1 b_.size; clear k0 k1; obtain ⟨k0, k1⟩ := SS2.out; clear b_)) | (go_at_call 29; ((with_reducible refine (isOrthogonal_any pS aS S cS loS tpS am m cm lom tpm w2 (HS.out.below HB2.out tS) (Nat.le_trans tS HB2.out.size) sS (Hm.out.below HB2.out tm) (Nat.le_trans tm HB2.out.size) HSM.out HI.out).mono ?_); rintro e w3 ⟨rfl, b_⟩; rw [HO.out]; have SS3 := Lib.hid (ss2 b_ hd2 SS2.out); have HB3 := Lib.hid (below_step HB2.out HB2.out.size b_); have hd3 := Nat.lt_of_lt_of_le hd2 b_.size; clear k0 k1; obtain ⟨k0, k1⟩ := SS3.out; clear b_)))
      go_ret
      exact ⟨by rw [HV.out]; rfl, HB3.out⟩
  · have HV : Hid (coC pS S m = regC pS S []) := coC_no h0
    obtain ⟨C, hC⟩ : ∃ c, c = regC pS S [] := ⟨_, rfl⟩
    have hc1 : (C != 0) = true := by rw [hC]; simpa using h0
    have hc2 : (C == 0) = false := by rw [hC]; simpa using h0
    have HCE := Lib.hid hC
    clear h0 hC
    go_enter Tryz.func30, Tryz.ntmps30
    go_upto_region 1 with fail
    obtain ⟨w1, hw1⟩ : ∃ z, z = w.alloc (.cells #[.int .i64 pS, .slice aS S.length cS] 24) := ⟨_, rfl⟩
    rw [← hw1] at HB0 k0 k1 ⊢
    have hd1 : w.heap.size < w1.heap.size := by rw [hw1]; simp
    have HB1 := HB0
    clear hw1
    have SS1 := Lib.hid (And.intro k0 k1)
    go_wp2_with (go_at_call 28; ((with_reducible refine (checkR0 pS aS S cS loS tpS w1 (HS.out.below HB1.out tS) (Nat.le_trans tS HB1.out.size) sS).mono ?_); rintro e w2 ⟨rfl, b_⟩; rw [← HCE.out]; have SS2 := Lib.hid (ss2 b_ hd1 SS1.out); have HB2 := Lib.hid (below_step HB1.out HB1.out.size b_); have hd2 := Nat.lt_of_lt_of_le hd1 b_.size; clear k0 k1; obtain ⟨k0, k1⟩ := SS2.out; clear b_))
    go_ret
    exact ⟨by rw [HV.out, ← HCE.out]; rfl, HB2.out⟩

set_option maxRecDepth 100000 in
set_option maxHeartbeats 6400000 in
theorem impl_IsOrthogonal (pS : Int) (aS : Option Addr) (S : List Int) (cS loS tpS : Nat) (am : Option Addr) (m : List (List Int)) (cm lom tpm : Nat) (w : World) (hS : RowIn loS tpS w aS S) (tS : tpS ≤ w.heap.size) (sS : S.length ≤ 1048576) (hm : MatIn lom tpm w am m) (tm : tpm ≤ w.heap.size) (sm' : m.length + tot m m.length ≤ 1048576) :
    Calls Tryz.prog 10 #[.agg #[.int .i64 pS, .slice aS S.length cS], .slice am m.length cm] w (RetB (orV pS S m) (regC pS S []) w) := by
  have HS := Lib.hid hS
  have Hm := Lib.hid hm
  have HSM := Lib.hid sm'
  have k0 := nw0 w (.int .i64 pS) (.slice aS S.length cS) 24
  have k1 := nw1 w (.int .i64 pS) (.slice aS S.length cS) 24
  have HB0 := Lib.hid (below_alloc w (.cells #[.int .i64 pS, .slice aS S.length cS] 24))
  clear hS hm sm'
  by_cases h0 : regC pS S [] = 0
  · have HZ := Lib.hid h0
    have HI := Lib.hid (reg0 h0).1
    have HV : Hid (orV pS S m = orB pS S m) := orV_reg h0
    clear h0
    go_enter Tryz.func10, Tryz.ntmps10
    go_upto_region 1 with fail
    obtain ⟨w1, hw1⟩ : ∃ z, z = w.alloc (.cells #[.int .i64 pS, .slice aS S.length cS] 24) := ⟨_, rfl⟩
    rw [← hw1] at HB0 k0 k1 ⊢
    have hd1 : w.heap.size < w1.heap.size := by rw [hw1]; simp
    have HB1 := HB0
    clear hw1
    have SS1 := Lib.hid (And.intro k0 k1)
    go_wp2_with (first | (go_at_call 28; ((with_reducible refine (checkR0 pS aS S cS loS tpS w1 (HS.out.below HB1.out tS) (Nat.le_trans tS HB1.out.size) sS).mono ?_); rintro e w2 ⟨rfl, b_⟩; rw [HZ.out]; have SS2 := Lib.hid (ss2 b_ hd1 SS1.out); have HB2 := Lib.hid (below_step HB1.out HB1.out.size b_); have hd2 := Nat.lt_of_lt_of_le hd1 b_.size; clear k0 k1; obtain ⟨k0, k1⟩ := SS2.out; clear b_)) | (go_at_call 29; ((with_reducible refine (isOrthogonal_any pS aS S cS loS tpS am m cm lom tpm w2 (HS.out.below HB2.out tS) (Nat.le_trans tS HB2.out.size) sS (Hm.out.below HB2.out tm) (Nat.le_trans tm HB2.out.size) HSM.out HI.out).mono ?_); rintro e w3 ⟨rfl, b_⟩; have SS3 := Lib.hid (ss2 b_ hd2 SS2.out); have HB3 := Lib.hid (below_step HB2.out HB2.out.size b_); have hd3 := Nat.lt_of_lt_of_le hd2 b_.size; clear k0 k1; obtain ⟨k0, k1⟩ := SS3.out; clear b_)))
    go_ret2
    exact ⟨by rw [HV.out, HZ.out]; rfl, HB3.out⟩
  · have HV : Hid (orV pS S m = false) := orV_no h0
    obtain ⟨C, hC⟩ : ∃ c, c = regC pS S [] := ⟨_, rfl⟩
    have hc1 : (C != 0) = true := by rw [hC]; simpa using h0
    have hc2 : (C == 0) = false := by rw [hC]; simpa using h0
    have HCE := Lib.hid hC
    clear h0 hC
    go_enter Tryz.func10, Tryz.ntmps10
    go_upto_region 1 with fail
    obtain ⟨w1, hw1⟩ : ∃ z, z = w.alloc (.cells #[.int .i64 pS, .slice aS S.length cS] 24) := ⟨_, rfl⟩
    rw [← hw1] at HB0 k0 k1 ⊢
    have hd1 : w.heap.size < w1.heap.size := by rw [hw1]; simp
    have HB1 := HB0
    clear hw1
    have SS1 := Lib.hid (And.intro k0 k1)
    go_wp2_with (go_at_call 28; ((with_reducible refine (checkR0 pS aS S cS loS tpS w1 (HS.out.below HB1.out tS) (Nat.le_trans tS HB1.out.size) sS).mono ?_); rintro e w2 ⟨rfl, b_⟩; rw [← HCE.out]; have SS2 := Lib.hid (ss2 b_ hd1 SS1.out); have HB2 := Lib.hid (below_step HB1.out HB1.out.size b_); have hd2 := Nat.lt_of_lt_of_le hd1 b_.size; clear k0 k1; obtain ⟨k0, k1⟩ := SS2.out; clear b_))
    go_ret2
    exact ⟨by rw [HV.out, ← HCE.out]; rfl, HB2.out⟩

end Go.Proofs.YthbkfpkeofpocaaGreat

namespace Go.Proofs.YthbkfpkeofpocaaGreat
open Go.RowKit
set_option linter.unusedVariables false

/-- A row that lies in another block than b. -/
def RowX (lo tp b : Nat) (w : World) (a : Option Addr) (zs : List Int) : Prop :=
  zs = [] ∨ ∃ b' o : Nat, a = some ⟨b', o, none⟩ ∧ lo ≤ b' ∧ b' < tp ∧ b' ≠ b ∧ ∀ j, j < zs.length → w.cell? ⟨b', o + j, none⟩ = some (.int .i64 (zs.getD j 0))
theorem RowX.row {lo tp b : Nat} {w : World} {a : Option Addr} {zs : List Int} (h : RowX lo tp b w a zs) : RowIn lo tp w a zs := by
  rcases h with h | ⟨b', o, e, h0, h1, _, h3⟩
  · exact .inl h
  · exact .inr ⟨b', o, e, h0, h1, h3⟩
theorem RowX.of {lo lo' tp b : Nat} {w : World} {a : Option Addr} {zs : List Int} (h : RowIn lo tp w a zs) (hb : b < lo) (hl : lo' ≤ lo) : RowX lo' tp b w a zs := by
  rcases h with h | ⟨b', o, e, h0, h1, h3⟩
  · exact .inl h
  · exact .inr ⟨b', o, e, Nat.le_trans hl h0, h1, by omega, h3⟩
theorem RowX.below {lo tp b B : Nat} {w w' : World} {a : Option Addr} {zs : List Int} (h : RowX lo tp b w a zs) (hb : Below B w w') (ht : tp ≤ B) : RowX lo tp b w' a zs := by
  rcases h with h | ⟨b', o, e, h0, h1, h2, h3⟩
  · exact .inl h
  · exact .inr ⟨b', o, e, h0, h1, h2, fun j hj => (hb.cell (p := ⟨b', o + j, none⟩) (Nat.lt_of_lt_of_le h1 ht)).trans (h3 j hj)⟩
theorem RowX.mono {lo lo' tp tp' b : Nat} {w : World} {a : Option Addr} {zs : List Int} (h : RowX lo tp b w a zs) (hl : lo' ≤ lo) (ht : tp ≤ tp') : RowX lo' tp' b w a zs := by
  rcases h with h | ⟨b', o, e, h0, h1, h2, h3⟩
  · exact .inl h
  · exact .inr ⟨b', o, e, Nat.le_trans hl h0, Nat.lt_of_lt_of_le h1 ht, h2, h3⟩
theorem RowX.put {lo tp b i : Nat} {w : World} {a : Option Addr} {zs : List Int} {v : Value} (h : RowX lo tp b w a zs) : RowX lo tp b (w.setCell ⟨b, i, none⟩ v) a zs := by
  rcases h with h | ⟨b', o, e, h0, h1, h2, h3⟩
  · exact .inl h
  · exact .inr ⟨b', o, e, h0, h1, h2, fun j hj => (World.cell?_setCell_other _ _ _ _ (fun e => h2 (by injection e with e1; exact e1.symm))).trans (h3 j hj)⟩
/-- The headers lie in block b from o on and may be written to; the rows lie in other blocks from lo on. -/
structure TopX (lo : Nat) (w : World) (b o : Nat) (m : List (List Int)) : Prop where
  lob : lo ≤ b
  hib : b < w.heap.size
  free : ∀ j, w.frozen? ⟨b, j, none⟩ = false
  row : ∀ i, i < m.length → ∃ r c, w.cell? ⟨b, o + i, none⟩ = some (.slice r (rw' m i).length c) ∧ RowX lo w.heap.size b w r (rw' m i)
theorem TopX.below {lo b o : Nat} {w w' : World} {m : List (List Int)} (h : TopX lo w b o m) (hb : Below w.heap.size w w') : TopX lo w' b o m where
  lob := h.lob
  hib := Nat.lt_of_lt_of_le h.hib hb.size
  free j := (hb.frozen (p := ⟨b, j, none⟩) h.hib).trans (h.free j)
  row i hi := by
    obtain ⟨r, c, h1, h2⟩ := h.row i hi
    exact ⟨r, c, (hb.cell (p := ⟨b, o + i, none⟩) h.hib).trans h1, (h2.below hb (Nat.le_refl _)).mono (Nat.le_refl _) hb.size⟩
theorem TopX.mono {lo lo' b o : Nat} {w : World} {m : List (List Int)} (h : TopX lo w b o m) (hl : lo' ≤ lo) : TopX lo' w b o m where
  lob := Nat.le_trans hl h.lob
  hib := h.hib
  free := h.free
  row i hi := by
    obtain ⟨r, c, h1, h2⟩ := h.row i hi
    exact ⟨r, c, h1, h2.mono hl (Nat.le_refl _)⟩
theorem TopX.mat {lo b o : Nat} {w : World} {m : List (List Int)} (h : TopX lo w b o m) : MatIn lo w.heap.size w (some ⟨b, o, none⟩) m :=
  .inr ⟨b, o, rfl, h.lob, h.hib, fun i hi => by
    obtain ⟨r, c, h1, h2⟩ := h.row i hi
    exact ⟨r, c, h1, h2.row⟩⟩
theorem rw_setX {m : List (List Int)} {i j : Nat} (z : List Int) (hi : i < m.length) : rw' (m.set i z) j = if j = i then z else rw' m j := by
  simp only [rw', List.getD_eq_getElem?_getD, List.getElem?_set]
  by_cases e : j = i
  · subst e; simp [hi]
  · rw [if_neg (fun h => e h.symm), if_neg e]
/-- Another row is put in the place of row i. -/
theorem TopX.set {lo b o i : Nat} {w : World} {m : List (List Int)} {r : Option Addr} {z : List Int} {c : Nat} (h : TopX lo w b o m) (hi : i < m.length) (hz : RowX lo w.heap.size b w r z) :
    TopX lo (w.setCell ⟨b, o + i, none⟩ (.slice r z.length c)) b o (m.set i z) := by
  have hsz : (w.setCell ⟨b, o + i, none⟩ (.slice r z.length c)).heap.size = w.heap.size := by simp [World.setCell]
  obtain ⟨r0, c0, g0, _⟩ := h.row i hi
  refine ⟨h.lob, by rw [hsz]; exact h.hib, fun j => by simp [go_sem, h.free], fun j hj => ?_⟩
  rw [List.length_set] at hj
  rw [rw_setX z hi, hsz]
  by_cases e : j = i
  · subst e
    rw [if_pos rfl]
    exact ⟨r, c, World.cell?_setCell_same w _ _ g0, hz.put⟩
  · rw [if_neg e]
    obtain ⟨r1, c1, g1, g2⟩ := h.row j hj
    exact ⟨r1, c1, (World.cell?_setCell_other _ _ _ _ (fun e2 => e (by injection e2 with _ e3; omega))).trans g1, g2.put⟩
theorem TopX.ofOwn {lo n c : Nat} {w : World} {q : Place} {Z : Nat → Nat → Int} (h : OwnAt lo w.heap.size w q n (fun _ => c) Z) (h0 : 0 < n) (hc : 0 < c) (hf : ∀ j, w.frozen? ⟨q.b, j, none⟩ = false) (hn : ∀ i, i < n → q.B i ≠ q.b) : TopX lo w q.b q.o (Go.Proofs.YthbkfpkeofpocaaGreat.mk n c Z) where
  lob := (h.rng h0).1
  hib := (h.rng h0).2
  free := hf
  row i hi := by
    rw [mk_len] at hi
    refine ⟨q.R i, q.C i, by rw [mk_rowLen _ hi]; exact h.top i hi, .inr ⟨q.B i, q.O i, (h.row i hi).resolve_left (by omega), (h.rrng i hi hc).1, (h.rrng i hi hc).2, hn i hi, fun j hj => ?_⟩⟩
    rw [mk_rowLen _ hi] at hj
    rw [mk_row _ hi, mkR_at _ hj]
    exact h.cell i hi j hj
/-- A list of rows whose headers may be written to is handed back. -/
def NewX (m : List (List Int)) (w : World) (e : Ending) (w' : World) : Prop :=
  ∃ b o c, e = .returned (.slice (some ⟨b, o, none⟩) m.length c) ∧ TopX w.heap.size w' b o m ∧ Below w.heap.size w w'
/-- A new matrix of zeros, its headers free. -/
def NewZX (n c : Nat) (w : World) (e : Ending) (w' : World) : Prop :=
  ∃ q : Place, e = .returned (.slice (some ⟨q.b, q.o, none⟩) n n) ∧ OwnAt w.heap.size w'.heap.size w' q n (fun _ => c) (fun _ _ => 0) ∧ Below w.heap.size w w' ∧ (∀ j, w'.frozen? ⟨q.b, j, none⟩ = false) ∧ ∀ i, i < n → q.B i ≠ q.b

set_option maxRecDepth 100000 in
set_option maxHeartbeats 3200000 in
theorem newMatrix_top (n c : Nat) (w : World) (hn : n ≤ 1024) (hc : c ≤ 1024) (hc0 : 1 ≤ c) :
    Calls Tryz.prog 74 #[.int .i64 n, .int .i64 c] w (NewZX n c w) := by
  obtain ⟨t, htt⟩ : ∃ t, t = n * c := ⟨_, rfl⟩
  have htb : t ≤ 1048576 := by rw [htt]; exact Nat.mul_le_mul hn hc
  have hmul : IntKind.i64.wrap ((n : Int) * (c : Int)) = (t : Int) := by
    have : (n : Int) * (c : Int) = (t : Int) := by rw [htt]; simp
    rw [this]; exact IntWalk.i64_in _ (by omega)
  have HT := Lib.hid htt
  clear htt
  have hmk := fun W => run_make_row' (P := Tryz.prog) 25 22 (.slice none 0 0) 24 Tryz.underlying25 info_slice rfl .i64 .i64 n (by omega) (by omega) W
  have hmk2 := fun W => run_make_row' (P := Tryz.prog) 22 2 (.int .i64 0) 8 Tryz.underlying22 info64 rfl .i64 .i64 t (by omega) (by omega) W
  go_enter Tryz.func74, Tryz.ntmps74
  go_wp2
  go_region
  · go_wp2
    go_loopw [6, 16] (fun v t wr => ∃ i o L : Nat, i ≤ n ∧ t = .int .i64 i ∧ v = .slice (some ⟨(w.heap.size + 1), o, none⟩) L L ∧ L = (n - i) * c ∧ (i < n → o = i * c) ∧ CutAt w wr w.heap.size (w.heap.size + 1) n c i) (fun _ t _ => n - (intOf t).toNat)
    case atStart => exact ⟨0, 0, t, Nat.zero_le _, rfl, rfl, by rw [HT.out]; rfl, fun _ => by simp, (CutAt.start1 w n c t _ _ HT.out).drew⟩
    case round =>
      obtain ⟨i, o, L, hi, rfl, rfl, hL, ho, hcut⟩ := hrel
      have HCut := Lib.hid hcut
      have HL := Lib.hid hL
      have HOo := Lib.hid ho
      by_cases hlt : i < n
      · have g0 := hcut.rest i (Nat.le_refl _) hlt
        have f0 := hcut.fm i
        have hLc : c ≤ L := by rw [hL]; exact Nat.le_mul_of_pos_left _ (by omega)
        have hLe : L - c = (n - (i + 1)) * c := by
          rw [hL]
          have : n - i = (n - (i + 1)) + 1 := by omega
          rw [this, Nat.succ_mul]; omega
        have HLe := Lib.hid hLe
        have hLt : L ≤ t := by rw [hL, HT.out]; exact Nat.mul_le_mul_right _ (by omega)
        have hi1 : (i : Int) < (n : Int) := by omega
        have hc1 : (c : Int) ≤ (L : Int) := by omega
        by_cases hend : c = L
        · have hin : i + 1 = n := by
            have h2 : (n - (i + 1)) * c = 0 := by omega
            rcases Nat.mul_eq_zero.1 h2 with h3 | h3 <;> omega
          have HIn := Lib.hid hin
          subst hend
          clear hL ho hcut hLe hin
          go_wp2
          go_region
          go_wp2
          go_roundw
          case rel => exact ⟨i + 1, o, 0, by omega, by go_num, by first | rfl | simp, by rw [HIn.out]; simp, fun h => absurd HIn.out (by omega), (HCut.out.next hlt (HOo.out hlt)).drew⟩
          case measure => simp [intOf]; omega
        · have hlt2 : c < L := by omega
          clear hL ho hcut hLe hend
          go_wp2
          go_region
          go_wp2
          go_roundw
          case rel => exact ⟨i + 1, o + c, L - c, by omega, by go_num, by first | rfl | simp, HLe.out, fun h => by rw [HOo.out hlt, Nat.succ_mul], (HCut.out.next hlt (HOo.out hlt)).drew⟩
          case measure => simp [intOf]; omega
      · have hn : i = n := by omega
        subst hn
        clear hL ho hcut
        go_wp2
        go_ret
        exact ⟨_, rfl, HCut.out.own hc0, HCut.out.bel, HCut.out.fm, fun _ _ e => HCut.out.ne e.symm⟩
  · go_wp2
    go_loopw [6, 16] (fun v t wr => ∃ i o L : Nat, i ≤ n ∧ t = .int .i64 i ∧ v = .slice (some ⟨w.heap.size, o, none⟩) L L ∧ L = (n - i) * c ∧ (i < n → o = i * c) ∧ CutAt w wr (w.heap.size + 1) w.heap.size n c i) (fun _ t _ => n - (intOf t).toNat)
    case atStart => exact ⟨0, 0, t, Nat.zero_le _, rfl, rfl, by rw [HT.out]; rfl, fun _ => by simp, (CutAt.start2 w n c t _ _ HT.out).drew⟩
    case round =>
      obtain ⟨i, o, L, hi, rfl, rfl, hL, ho, hcut⟩ := hrel
      have HCut := Lib.hid hcut
      have HL := Lib.hid hL
      have HOo := Lib.hid ho
      by_cases hlt : i < n
      · have g0 := hcut.rest i (Nat.le_refl _) hlt
        have f0 := hcut.fm i
        have hLc : c ≤ L := by rw [hL]; exact Nat.le_mul_of_pos_left _ (by omega)
        have hLe : L - c = (n - (i + 1)) * c := by
          rw [hL]
          have : n - i = (n - (i + 1)) + 1 := by omega
          rw [this, Nat.succ_mul]; omega
        have HLe := Lib.hid hLe
        have hLt : L ≤ t := by rw [hL, HT.out]; exact Nat.mul_le_mul_right _ (by omega)
        have hi1 : (i : Int) < (n : Int) := by omega
        have hc1 : (c : Int) ≤ (L : Int) := by omega
        by_cases hend : c = L
        · have hin : i + 1 = n := by
            have h2 : (n - (i + 1)) * c = 0 := by omega
            rcases Nat.mul_eq_zero.1 h2 with h3 | h3 <;> omega
          have HIn := Lib.hid hin
          subst hend
          clear hL ho hcut hLe hin
          go_wp2
          go_region
          go_wp2
          go_roundw
          case rel => exact ⟨i + 1, o, 0, by omega, by go_num, by first | rfl | simp, by rw [HIn.out]; simp, fun h => absurd HIn.out (by omega), (HCut.out.next hlt (HOo.out hlt)).drew⟩
          case measure => simp [intOf]; omega
        · have hlt2 : c < L := by omega
          clear hL ho hcut hLe hend
          go_wp2
          go_region
          go_wp2
          go_roundw
          case rel => exact ⟨i + 1, o + c, L - c, by omega, by go_num, by first | rfl | simp, HLe.out, fun h => by rw [HOo.out hlt, Nat.succ_mul], (HCut.out.next hlt (HOo.out hlt)).drew⟩
          case measure => simp [intOf]; omega
      · have hn : i = n := by omega
        subst hn
        clear hL ho hcut
        go_wp2
        go_ret
        exact ⟨_, rfl, HCut.out.own hc0, HCut.out.bel, HCut.out.fm, fun _ _ e => HCut.out.ne e.symm⟩

set_option maxHeartbeats 1600000 in
theorem unitMatrix_top (n : Nat) (w : World) (hn : n ≤ 1024) (h0 : 1 ≤ n) :
    Calls Tryz.prog 53 #[.int .i64 n] w (NewX (oneM n) w) := by
  go_enter Tryz.func53, Tryz.ntmps53
  go_wp2_with (go_at_call 74; (with_reducible refine (newMatrix_top n n _ (by omega) (by omega) (by omega)).mono ?_); rintro e w1 ⟨q, rfl, ho1, hb1, hf1, hn1⟩; have HO1 := Lib.hid ho1; have HB1 := Lib.hid hb1; have HF1 := Lib.hid hf1; have HN1 := Lib.hid hn1; clear ho1 hb1 hf1 hn1)
  go_loopw [10] (fun t wr => ∃ i : Nat, i ≤ n ∧ t = .int .i64 i ∧ OwnAt w.heap.size w1.heap.size wr q n (fun _ => n) (fun k j => if k < i ∧ k = j then 1 else 0) ∧ Below w.heap.size w wr ∧ wr.heap.size = w1.heap.size ∧ ∀ j, wr.frozen? ⟨q.b, j, none⟩ = false) (fun t _ => n - (intOf t).toNat)
  case atStart => exact ⟨0, Nat.zero_le _, rfl, HO1.out.congr (fun i _ j _ => by simp), HB1.out, rfl, HF1.out⟩
  case round =>
    obtain ⟨i, hi, rfl, ho, hbel, hsz, hfz⟩ := hrel
    have HFZ := Lib.hid hfz
    clear hfz
    have HO := Lib.hid ho
    have HBEL := Lib.hid hbel
    have HSZ := Lib.hid hsz
    clear hsz hbel
    by_cases hlt : i < n
    · have ht3 := ho.top i hlt
      have hR := (ho.row i hlt).resolve_left (by omega)
      rw [hR] at ht3
      have hf3 := ho.free i hlt i hlt
      have hrg := ho.rrng i hlt (by omega)
      obtain ⟨y, hy⟩ : ∃ y, wr.cell? ⟨q.B i, q.O i + i, none⟩ = some (.int .i64 y) := ⟨_, ho.cell i hlt i hlt⟩
      have hi1 : (i : Int) < (n : Int) := by omega
      clear ho hR
      go_wp2
      go_roundw
      case rel => exact ⟨i + 1, by omega, by go_num, (HO.out.set hlt hlt 1).congr (fun k hk j _ => by
        by_cases e1 : k = i ∧ j = i
        · obtain ⟨rfl, rfl⟩ := e1
          rw [if_pos ⟨rfl, rfl⟩, if_pos ⟨by omega, rfl⟩]
        · rw [if_neg e1]
          by_cases e2 : k < i ∧ k = j
          · rw [if_pos e2, if_pos ⟨by omega, e2.2⟩]
          · rw [if_neg e2, if_neg (by omega)]), HBEL.out.setCell hrg.1 _, by simpa [World.setCell] using HSZ.out, fun j => by simp [go_sem, HFZ.out]⟩
      case measure => simp [intOf]; omega
    · have hn : i = n := by omega
      subst hn
      have HF := Lib.hid (HO.out.congr (Z' := fun k j => if k = j then 1 else 0) (fun k hk j _ => by
        by_cases e : k = j
        · rw [if_pos ⟨hk, e⟩, if_pos e]
        · rw [if_neg (fun h => e h.2), if_neg e]))
      clear ho
      go_wp2
      go_ret
      exact ⟨q.b, q.o, i, by unfold oneM; rw [mk_len]; rfl, TopX.ofOwn (HF.out.mono (Nat.le_refl _) (by rw [HSZ.out]; exact Nat.le_refl _)) h0 h0 HFZ.out HN1.out, HBEL.out⟩

set_option maxRecDepth 100000 in
set_option maxHeartbeats 3200000 in
theorem transposed_top (a : Option Addr) (m : List (List Int)) (ca lo tp : Nat) (w : World) (hm : MatIn lo tp w a m) (ht : tp ≤ w.heap.size) (h0 : 0 < m.length) (hc : ∀ i, i < m.length → (rw' m i).length = (rw' m 0).length) (hn : m.length ≤ 1024) (hn2 : (rw' m 0).length ≤ 1024) (hn0 : 0 < (rw' m 0).length) :
    Calls Tryz.prog 54 #[.slice a m.length ca] w (NewX (trM m) w) := by
  have HM := Lib.hid hm
  have HC := Lib.hid hc
  obtain ⟨b, o, r0, c0, ha, _, hb, hr0, _⟩ := HM.out.row h0
  subst ha
  rw [Nat.add_zero] at hr0
  obtain ⟨c, hcc⟩ : ∃ c, c = (rw' m 0).length := ⟨_, rfl⟩
  rw [← hcc] at hn2 hr0 hn0
  have HCC := Lib.hid hcc
  have hb' : b < w.heap.size := Nat.lt_of_lt_of_le hb ht
  clear hm hc hcc
  go_enter Tryz.func54, Tryz.ntmps54
  go_wp2_with (go_at_call 74; (with_reducible refine (newMatrix_top c m.length _ (by omega) (by omega) (by omega)).mono ?_); rintro e w1 ⟨q, rfl, ho1, hb1, hf1, hn1⟩; have HO1 := Lib.hid ho1; have HB1 := Lib.hid hb1; have HF1 := Lib.hid hf1; have HN1 := Lib.hid hn1; clear ho1 hb1 hf1 hn1)
  go_loopw [17] (fun t wr => ∃ i : Nat, i ≤ m.length ∧ t = .int .i64 i ∧ OwnAt w.heap.size w1.heap.size wr q c (fun _ => m.length) (fun k i' => if i' < i then at' m i' k else 0) ∧ Below w.heap.size w wr ∧ wr.heap.size = w1.heap.size ∧ ∀ j, wr.frozen? ⟨q.b, j, none⟩ = false) (fun t _ => m.length - (intOf t).toNat)
  case atStart => exact ⟨0, Nat.zero_le _, rfl, HO1.out.congr (fun i _ j _ => by simp), HB1.out, rfl, HF1.out⟩
  case round =>
    obtain ⟨i, hi, rfl, ho, hbel, hsz, hfz⟩ := hrel
    have HFZ := Lib.hid hfz
    clear hfz
    have HO := Lib.hid ho
    have HBEL := Lib.hid hbel
    have HSZ := Lib.hid hsz
    rename World => wo
    clear ho hsz
    by_cases hlt : i < m.length
    · obtain ⟨b1, o1, r, c1, ha1, _, hb1, hr1, hrow⟩ := HM.out.row hlt
      cases ha1
      have hr1 := (hbel.cell (p := ⟨b, o + i, none⟩) hb').trans hr1
      have hcl := (HC.out i hlt).trans HCC.out.symm
      rw [hcl] at hr1
      have HCL := Lib.hid hcl
      have HROW := Lib.hid hrow
      have hi1 : (i : Int) < (m.length : Int) := by omega
      clear hcl hrow hbel
      go_wp2
      go_loopw [24] (fun t wr => ∃ j : Nat, j ≤ c ∧ t = .int .i64 j ∧ OwnAt w.heap.size w1.heap.size wr q c (fun _ => m.length) (fun k i' => if i' < i ∨ (i' = i ∧ k < j) then at' m i' k else 0) ∧ Below w.heap.size w wr ∧ wr.heap.size = w1.heap.size ∧ ∀ j, wr.frozen? ⟨q.b, j, none⟩ = false) (fun t _ => c - (intOf t).toNat)
      case atStart => exact ⟨0, Nat.zero_le _, rfl, HO.out.congr (fun k _ i' _ => by simp), HBEL.out, HSZ.out, HFZ.out⟩
      case round =>
        obtain ⟨j, hj, rfl, hoj, hbj, hsj, hfj⟩ := hrel
        have HFJ := Lib.hid hfj
        clear hfj
        have HOJ := Lib.hid hoj
        have HBJ := Lib.hid hbj
        have HSJ := Lib.hid hsj
        clear hr1 hsj
        by_cases hltj : j < c
        · obtain ⟨b2, o2, ha2, _, hb2, hx2⟩ := (HROW.out.below hbj ht).num (j := j) (by rw [HCL.out]; exact hltj)
          subst ha2
          have ht3 := hoj.top j hltj
          have hR := (hoj.row j hltj).resolve_left (by omega)
          rw [hR] at ht3
          have hc3 := hoj.cell j hltj i hlt
          have hf3 := hoj.free j hltj i hlt
          have hrg := hoj.rrng j hltj (by omega)
          obtain ⟨x, hx⟩ : ∃ x, x = (rw' m i).getD j 0 := ⟨_, rfl⟩
          rw [← hx] at hx2
          have HX := Lib.hid hx
          have hj1 : (j : Int) < (c : Int) := by omega
          have HC3 := Lib.hid hc3
          obtain ⟨y, hy⟩ : ∃ y, wr.cell? ⟨q.B j, q.O j + i, none⟩ = some (.int .i64 y) := ⟨_, hc3⟩
          clear hoj hbj hR hc3 hx
          go_wp2
          go_roundw
          case rel => exact ⟨j + 1, by omega, by go_num, (HOJ.out.set hltj hlt x).congr (fun k hk i' _ => by
            rw [HX.out]
            by_cases e1 : k = j ∧ i' = i
            · obtain ⟨rfl, rfl⟩ := e1
              rw [if_pos ⟨rfl, rfl⟩, if_pos (.inr ⟨rfl, by omega⟩)]; rfl
            · rw [if_neg e1]
              by_cases e2 : i' < i ∨ (i' = i ∧ k < j)
              · rw [if_pos e2, if_pos (by omega)]
              · rw [if_neg e2, if_neg (by omega)]), HBJ.out.setCell hrg.1 _, by simpa [World.setCell] using HSJ.out, fun j => by simp [go_sem, HFJ.out]⟩
          case measure => simp [intOf]; omega
        · have hn : j = c := by omega
          subst hn
          clear hoj hbj
          go_wp2
          go_roundw
          case rel => exact ⟨i + 1, by omega, by go_num, HOJ.out.congr (fun k hk i' _ => by
            by_cases e : i' < i + 1
            · rw [if_pos e, if_pos (by omega)]
            · rw [if_neg e, if_neg (by omega)]), HBJ.out, HSJ.out, HFJ.out⟩
          case measure => simp [intOf]; omega
    · have hn : i = m.length := by omega
      subst hn
      have HF := Lib.hid (HO.out.congr (Z' := fun k i' => at' m i' k) (fun k _ i' h => by rw [if_pos h]))
      have HE : Hid (trM m = mk c m.length fun k i => at' m i k) := by show trM m = _; unfold trM; rw [← HCC.out]
      clear hbel
      go_wp2
      go_ret
      rw [HE.out]
      exact ⟨q.b, q.o, c, by rw [mk_len]; rfl, TopX.ofOwn (HF.out.mono (Nat.le_refl _) (by rw [HSZ.out]; exact Nat.le_refl _)) hn0 h0 HFZ.out HN1.out, HBEL.out⟩

end Go.Proofs.YthbkfpkeofpocaaGreat
