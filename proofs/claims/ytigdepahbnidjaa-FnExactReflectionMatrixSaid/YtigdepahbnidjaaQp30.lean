/-
  Products of vectors (program): contracts of the program and of the model.
  Conditions: the lists are nil or rows of known cells, of at most 1048576 numbers.
  VersorOf, ReflectIn (program): contracts of the program and of the model.
  Conditions: the lists are nil or rows of known cells, of at most 1048576 numbers.
  The model's list of the numbers of the basis vectors.
  Conditions: rows of known cells.
-/
import Derived.Test.YtigdepahbnidjaaQp27
import Derived.Test.YtigdepahbnidjaaQp29
import Derived.Test.YtigdepahbnidjaaQp18
import Derived.Deep.RegionHeld3
import Derived.Deep.DeepCutAuto
import Derived.Test.YtigdepahbnidjaaQp28
import Derived.Test.YtigdepahbnidjaaQp26
import Derived.Test.YtigdepahbnidjaaQp19
import Derived.Test.YtigdepahbnidjaaQp17
namespace Go.Proofs.Ytigdepahbnidjaa
open Go.RowKit
set_option linter.unusedVariables false

/-- What holds behind the box of a space and that of a zero versor. -/
structure DS7 (w : World) (g : Nat) (p : Int) (aS : Option Addr) (n cS : Nat) (W : World) : Prop where
  ss : W.cell? ⟨w.heap.size, 0, none⟩ = some (.int .i64 p) ∧ W.cell? ⟨w.heap.size, 1, none⟩ = some (.slice aS n cS)
  vv : V5 g (.int .i64 0) (.slice none 0 0) (.slice none 0 0) (.int .i64 0) (.int .i64 0) W
  bel : Below w.heap.size w W
  hd : w.heap.size < W.heap.size ∧ g < W.heap.size
theorem DS7.call {w W W' : World} {g : Nat} {p : Int} {aS : Option Addr} {n cS : Nat} (h : DS7 w g p aS n cS W) (b : Below W.heap.size W W') : DS7 w g p aS n cS W' :=
  ⟨ss2 b h.hd.1 h.ss, h.vv.below b h.hd.2, below_step h.bel (Nat.le_of_lt h.hd.1) b, Nat.lt_of_lt_of_le h.hd.1 b.size, Nat.lt_of_lt_of_le h.hd.2 b.size⟩
/-- With the block of the norm. -/
structure DSE (w : World) (g : Nat) (p : Int) (aS : Option Addr) (n cS : Nat) (bf : Nat) (q K : Int) (W : World) : Prop extends DS7 w g p aS n cS W where
  c0 : W.cell? ⟨bf, 0, none⟩ = some (.int .i64 q)
  c1 : W.cell? ⟨bf, 1, none⟩ = some (.int .i64 K)
  y0 : W.frozen? ⟨bf, 0, none⟩ = false
  y1 : W.frozen? ⟨bf, 1, none⟩ = false
  lb : bf < W.heap.size
  lw : w.heap.size < bf ∧ g < bf
theorem DS7.allocn {w W : World} {g : Nat} {p q K : Int} {aS : Option Addr} {n cS : Nat} (h : DS7 w g p aS n cS W) (T : TypeId) : DSE w g p aS n cS W.heap.size q K (W.alloc (.cells #[.int .i64 q, .int .i64 K] T)) :=
  { h.call (below_alloc W (.cells #[.int .i64 q, .int .i64 K] T)) with c0 := by simp [go_sem], c1 := by simp [go_sem], y0 := by simp [go_sem], y1 := by simp [go_sem], lb := lt_alloc W _, lw := h.hd }
theorem DSE.call {w W W' : World} {g bf : Nat} {p q K : Int} {aS : Option Addr} {n cS : Nat} (h : DSE w g p aS n cS bf q K W) (b : Below W.heap.size W W') : DSE w g p aS n cS bf q K W' :=
  { h.toDS7.call b with c0 := (b.cell (p := ⟨bf, 0, none⟩) h.lb).trans h.c0, c1 := (b.cell (p := ⟨bf, 1, none⟩) h.lb).trans h.c1, y0 := (b.frozen (p := ⟨bf, 0, none⟩) h.lb).trans h.y0, y1 := (b.frozen (p := ⟨bf, 1, none⟩) h.lb).trans h.y1, lb := Nat.lt_of_lt_of_le h.lb b.size, lw := h.lw }
theorem V5.put {g b o : Nat} {v0 v1 v2 v3 v4 v : Value} {w : World} (h : V5 g v0 v1 v2 v3 v4 w) (hg : g ≠ b) : V5 g v0 v1 v2 v3 v4 (w.setCell ⟨b, o, none⟩ v) := by
  have e : ∀ j, (w.setCell ⟨b, o, none⟩ v).cell? ⟨g, j, none⟩ = w.cell? ⟨g, j, none⟩ := fun j => World.cell?_setCell_other w ⟨b, o, none⟩ ⟨g, j, none⟩ v (fun e => hg (by injection e with e1; exact e1.symm))
  have f : ∀ j, (w.setCell ⟨b, o, none⟩ v).frozen? ⟨g, j, none⟩ = w.frozen? ⟨g, j, none⟩ := fun j => by simp [go_sem]
  exact ⟨⟨(e 0).trans h.1.1, (e 1).trans h.1.2.1, (e 2).trans h.1.2.2.1, (e 3).trans h.1.2.2.2.1, (e 4).trans h.1.2.2.2.2⟩, (f 0).trans h.2.1, (f 1).trans h.2.2.1, (f 2).trans h.2.2.2.1, (f 3).trans h.2.2.2.2.1, (f 4).trans h.2.2.2.2.2⟩
theorem DSE.put {w W : World} {g bf : Nat} {p q K : Int} {aS : Option Addr} {n cS : Nat} (h : DSE w g p aS n cS bf q K W) (q' K' : Int) : DSE w g p aS n cS bf q' K' ((W.setCell ⟨bf, 0, none⟩ (.int .i64 q')).setCell ⟨bf, 1, none⟩ (.int .i64 K')) :=
  { ss := ss2s (Nat.ne_of_lt h.lw.1) h.ss
    vv := (h.vv.put (Nat.ne_of_lt h.lw.2)).put (Nat.ne_of_lt h.lw.2)
    bel := (h.bel.setCell (Nat.le_of_lt h.lw.1) _).setCell (Nat.le_of_lt h.lw.1) _
    hd := by simpa [World.setCell] using h.hd
    c0 := (World.cell?_setCell_other _ _ _ _ (by simp)).trans (World.cell?_setCell_same W _ _ h.c0)
    c1 := World.cell?_setCell_same _ _ _ ((World.cell?_setCell_other _ _ _ _ (by simp)).trans h.c1)
    y0 := by simp [go_sem, h.y0]
    y1 := by simp [go_sem, h.y1]
    lb := by simpa [World.setCell] using h.lb
    lw := h.lw }
theorem OwnR.vput5 {lo hi k : Nat} {w : World} {r : Option Addr} {zs : List Int} (h : OwnR lo hi w r zs) (hk : k < lo) (v0 v1 v2 v3 v4 : Value) : OwnR lo hi (vput5 k v0 v1 v2 v3 v4 w) r zs :=
  ((((h.same fun j j0 j1 => Below.heap_setCell _ _ _ _ (show j ≠ k by omega)).same fun j j0 j1 => Below.heap_setCell _ _ _ _ (show j ≠ k by omega)).same fun j j0 j1 => Below.heap_setCell _ _ _ _ (show j ≠ k by omega)).same fun j j0 j1 => Below.heap_setCell _ _ _ _ (show j ≠ k by omega)).same fun j j0 j1 => Below.heap_setCell _ _ _ _ (show j ≠ k by omega)
end Go.Proofs.Ytigdepahbnidjaa

namespace Go.Proofs.Ytigdepahbnidjaa
open Go.RowKit
set_option linter.unusedVariables false

/-- The code of a regular space and vectors. -/
def rvC (p : Int) (S : List Int) (m : List (List Int)) : Int := if codeVs p S m = 0 then (if discN p S = 0 then 5 else 0) else codeVs p S m
theorem codeVs_all {p : Int} {S : List Int} {m : List (List Int)} (h : codeVs p S m = 0) : isSp p S = true ∧ m.all (isVec p S.length) = true := by
  rcases codeVs_cases p S m with ⟨_, hc⟩ | ⟨hi, ha, _⟩ | ⟨_, _, hc⟩
  · rw [hc] at h; cases h
  · exact ⟨hi, ha⟩
  · rw [hc] at h; cases h
theorem rvC_zero {p : Int} {S : List Int} {m : List (List Int)} (h : rvC p S m = 0) : codeVs p S m = 0 ∧ discN p S ≠ 0 := by
  unfold rvC at h
  split at h
  · rename_i h0
    split at h
    · cases h
    · rename_i h1; exact ⟨h0, h1⟩
  · rename_i h0; exact absurd h h0
theorem regC_nil {p : Int} {S : List Int} (h : isSp p S = true) : regC p S [] = if discN p S = 0 then 5 else 0 := by
  unfold regC
  rw [if_pos (codeMv_zero.2 ⟨h, rfl⟩)]
theorem checkR0 (pS : Int) (aS : Option Addr) (S : List Int) (cS loS tpS : Nat) (w : World) (hS : RowIn loS tpS w aS S) (tS : tpS ≤ w.heap.size) (sS : S.length ≤ 1048576) :
    Calls Try.prog 49 #[.agg #[.int .i64 pS, .slice aS S.length cS], .slice none 0 0] w fun e w' => e = .returned (.int .i64 (regC pS S [])) ∧ Below w.heap.size w w' :=
  checkRegular_any pS aS S cS loS tpS none [] 0 0 0 w hS tS sS (.inl rfl) (Nat.zero_le _) (by show 0 ≤ 1048576; omega) (fun i hi => absurd hi (Nat.not_lt_zero i))

set_option maxRecDepth 100000 in
set_option maxHeartbeats 3200000 in
theorem checkRegularVectors_any (pS : Int) (aS : Option Addr) (S : List Int) (cS loS tpS : Nat) (am : Option Addr) (m : List (List Int)) (cm lom tpm : Nat) (w : World) (hS : RowIn loS tpS w aS S) (tS : tpS ≤ w.heap.size) (sS : S.length ≤ 1048576) (hm : MatIn lom tpm w am m) (tm : tpm ≤ w.heap.size) (sm : m.length ≤ 1048576) (sr : ∀ i, i < m.length → (rw' m i).length ≤ 1048576) :
    Calls Try.prog 59 #[.agg #[.int .i64 pS, .slice aS S.length cS], .slice am m.length cm] w fun e w' => e = .returned (.int .i64 (rvC pS S m)) ∧ Below w.heap.size w w' := by
  have HS := Lib.hid hS
  have Hm := Lib.hid hm
  have HSR := Lib.hid sr
  have k0 := nw0 w (.int .i64 pS) (.slice aS S.length cS) 30
  have k1 := nw1 w (.int .i64 pS) (.slice aS S.length cS) 30
  have HB0 := Lib.hid (below_alloc w (.cells #[.int .i64 pS, .slice aS S.length cS] 30))
  clear hS hm sr
  by_cases hc : codeVs pS S m = 0
  · have HC0 := Lib.hid hc
    have HRE : Hid (rvC pS S m = regC pS S []) := by show _ = _; rw [regC_nil (codeVs_all hc).1]; unfold rvC; rw [if_pos hc]
    clear hc
    go_enter Try.func59, Try.ntmps59
    go_upto_region 1 with fail
    obtain ⟨w1, hw1⟩ : ∃ z, z = w.alloc (.cells #[.int .i64 pS, .slice aS S.length cS] 30) := ⟨_, rfl⟩
    rw [← hw1] at HB0 k0 k1 ⊢
    have hd1 : w.heap.size < w1.heap.size := by rw [hw1]; simp
    have HB1 := HB0
    clear hw1
    have SS1 := Lib.hid (And.intro k0 k1)
    go_wp2_with (first | (go_at_call 97; ((with_reducible refine (checkVectors_any pS aS S cS loS tpS am m cm lom tpm w1 (HS.out.below HB1.out tS) (Nat.le_trans tS HB1.out.size) sS (Hm.out.below HB1.out tm) (Nat.le_trans tm HB1.out.size) sm HSR.out).mono ?_); rintro e w2 ⟨rfl, b_⟩; rw [HC0.out]; have SS2 := Lib.hid (ss2 b_ hd1 SS1.out); have HB2 := Lib.hid (below_step HB1.out HB1.out.size b_); have hd2 := Nat.lt_of_lt_of_le hd1 b_.size; clear k0 k1; obtain ⟨k0, k1⟩ := SS2.out; clear b_)) | (go_at_call 49; ((with_reducible refine (checkR0 pS aS S cS loS tpS w2 (HS.out.below HB2.out tS) (Nat.le_trans tS HB2.out.size) sS).mono ?_); rintro e w3 ⟨rfl, b_⟩; rw [← HRE.out]; have SS3 := Lib.hid (ss2 b_ hd2 SS2.out); have HB3 := Lib.hid (below_step HB2.out HB2.out.size b_); have hd3 := Nat.lt_of_lt_of_le hd2 b_.size; clear k0 k1; obtain ⟨k0, k1⟩ := SS3.out; clear b_)))
    go_ret
    exact ⟨rfl, HB3.out⟩
  · have HRE : Hid (rvC pS S m = codeVs pS S m) := by show _ = _; unfold rvC; rw [if_neg hc]
    obtain ⟨C, hC⟩ : ∃ c, c = codeVs pS S m := ⟨_, rfl⟩
    have hc1 : (C != 0) = true := by rw [hC]; simpa using hc
    have HCE := Lib.hid hC
    clear hc hC
    go_enter Try.func59, Try.ntmps59
    go_upto_region 1 with fail
    obtain ⟨w1, hw1⟩ : ∃ z, z = w.alloc (.cells #[.int .i64 pS, .slice aS S.length cS] 30) := ⟨_, rfl⟩
    rw [← hw1] at HB0 k0 k1 ⊢
    have hd1 : w.heap.size < w1.heap.size := by rw [hw1]; simp
    have HB1 := HB0
    clear hw1
    have SS1 := Lib.hid (And.intro k0 k1)
    go_wp2_with (go_at_call 97; ((with_reducible refine (checkVectors_any pS aS S cS loS tpS am m cm lom tpm w1 (HS.out.below HB1.out tS) (Nat.le_trans tS HB1.out.size) sS (Hm.out.below HB1.out tm) (Nat.le_trans tm HB1.out.size) sm HSR.out).mono ?_); rintro e w2 ⟨rfl, b_⟩; rw [← HCE.out]; have SS2 := Lib.hid (ss2 b_ hd1 SS1.out); have HB2 := Lib.hid (below_step HB1.out HB1.out.size b_); have hd2 := Nat.lt_of_lt_of_le hd1 b_.size; clear k0 k1; obtain ⟨k0, k1⟩ := SS2.out; clear b_))
    go_ret
    exact ⟨by rw [HRE.out, ← HCE.out]; rfl, HB2.out⟩

end Go.Proofs.Ytigdepahbnidjaa

namespace Go.Proofs.Ytigdepahbnidjaa
open Go.RowKit
set_option linter.unusedVariables false

/-- The numbers of a list at the powers of two. -/
def lst2 (n : Nat) (z : List Int) : List Int := mkR n fun i => z.getD (2 ^ i) 0
theorem kwrap_pow4 {i : Nat} (h : i < 6) : IntKind.i64.wrap ((2 : Int) ^ i) = ((2 ^ i : Nat) : Int) := by
  have : i = 0 ∨ i = 1 ∨ i = 2 ∨ i = 3 ∨ i = 4 ∨ i = 5 := by omega
  rcases this with rfl | rfl | rfl | rfl | rfl | rfl <;> exact IntWalk.i64_in _ (by decide)
end Go.Proofs.Ytigdepahbnidjaa
