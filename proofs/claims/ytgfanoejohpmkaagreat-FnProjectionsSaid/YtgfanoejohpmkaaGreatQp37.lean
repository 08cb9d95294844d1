/-
  Contracts and facts that the walk of the law rests on.
  Conditions: those that each theorem names.
-/
import Derived.Test.YtgfanoejohpmkaaGreatQp36
import Derived.Deep.RegionHeld3
import Derived.Deep.DeepCutAuto
namespace Go.Proofs.YtgfanoejohpmkaaGreat
open Go.RowKit
set_option linter.unusedVariables false
open Classical in
noncomputable def codeB (p : Int) (S : List Int) (m : List (List Int)) : Int := if codeMv p S m = 0 then (if ∀ i, i < m.length → isBl p S (rw' m i) = true then 0 else 5) else codeMv p S m
theorem codeB_cases (p : Int) (S : List Int) (m : List (List Int)) : (isSp p S = false ∧ codeMv p S m = 1 ∧ codeB p S m = 1) ∨ (isSp p S = true ∧ codeMv p S m = 2 ∧ codeB p S m = 2) ∨ (isSp p S = true ∧ m.all (isMv p S) = true ∧ codeMv p S m = 0 ∧ (¬ ∀ i, i < m.length → isBl p S (rw' m i) = true) ∧ codeB p S m = 5) ∨ (isSp p S = true ∧ m.all (isMv p S) = true ∧ codeMv p S m = 0 ∧ (∀ i, i < m.length → isBl p S (rw' m i) = true) ∧ codeB p S m = 0) := by
 unfold codeB
 rcases codeMv_cases p S m with ⟨hi, hc⟩ | ⟨hi, ha, hc⟩ | ⟨hi, ha, hc⟩
 · exact .inl ⟨hi, hc, by rw [hc]; rfl⟩
 · by_cases hd : ∀ i, i < m.length → isBl p S (rw' m i) = true
   · exact .inr (.inr (.inr ⟨hi, ha, hc, hd, by rw [if_pos hc, if_pos hd]⟩))
   · exact .inr (.inr (.inl ⟨hi, ha, hc, hd, by rw [if_pos hc, if_neg hd]⟩))
 · exact .inr (.inl ⟨hi, hc, by rw [hc]; rfl⟩)
theorem all_mv {p : Int} {S : List Int} {m : List (List Int)} (h : m.all (isMv p S) = true) {i : Nat} (hi : i < m.length) : isMv p S (rw' m i) = true := by
 have := List.all_eq_true.1 h (rw' m i) (mem_row hi)
 exact this
def BladeAt (Q : Option Addr → Nat → Prop) (lo tp lox tpx g o : Nat) (p : Int) (aS : Option Addr) (S : List Int) (cS : Nat) (x : List Int) (W : World) : Prop :=
 ∃ (ax : Option Addr) (cx : Nat) (r : Option Addr) (k : Nat), Q ax cx ∧ (W.cell? ⟨g, o, none⟩ = some (.int .i64 p) ∧ W.cell? ⟨g, o + 1, none⟩ = some (.slice aS S.length cS) ∧ W.cell? ⟨g, o + 2, none⟩ = some (.slice ax x.length cx) ∧ W.cell? ⟨g, o + 3, none⟩ = some (.slice r (subM p S x).length k) ∧ W.cell? ⟨g, o + 4, none⟩ = some (.int .i64 (facM p S x))) ∧ RowIn lox tpx W ax x ∧ OwnM lo tp W r (subM p S x)
theorem BladeAt.below {Q : Option Addr → Nat → Prop} {lo tp lox tpx g o B : Nat} {p : Int} {aS : Option Addr} {S : List Int} {cS : Nat} {x : List Int} {w w' : World} (h : BladeAt Q lo tp lox tpx g o p aS S cS x w) (b : Below B w w') (l : g < B) (hx : tpx ≤ B) (ht : tp ≤ B) : BladeAt Q lo tp lox tpx g o p aS S cS x w' := by
 obtain ⟨ax, cx, r, k, hQ, ⟨h0, h1, h2, h3, h4⟩, hr, ho⟩ := h
 exact ⟨ax, cx, r, k, hQ, ⟨(b.cell (p := ⟨g, o, none⟩) l).trans h0, (b.cell (p := ⟨g, o + 1, none⟩) l).trans h1, (b.cell (p := ⟨g, o + 2, none⟩) l).trans h2, (b.cell (p := ⟨g, o + 3, none⟩) l).trans h3, (b.cell (p := ⟨g, o + 4, none⟩) l).trans h4⟩, hr.below b hx, ho.below b ht⟩
theorem BladeAt.mono {Q : Option Addr → Nat → Prop} {lo tp lo' tp' lox tpx g o : Nat} {p : Int} {aS : Option Addr} {S : List Int} {cS : Nat} {x : List Int} {w : World} (h : BladeAt Q lo tp lox tpx g o p aS S cS x w) (h0 : lo' ≤ lo) (h1 : tp ≤ tp') : BladeAt Q lo' tp' lox tpx g o p aS S cS x w := by
 obtain ⟨ax, cx, r, k, hQ, hc, hr, ho⟩ := h
 exact ⟨ax, cx, r, k, hQ, hc, hr, ho.mono h0 h1⟩
theorem BladeAt.put {Q : Option Addr → Nat → Prop} {lo tp lox tpx g o j : Nat} {p : Int} {aS : Option Addr} {S : List Int} {cS : Nat} {x : List Int} {w : World} {v : Value} (h : BladeAt Q lo tp lox tpx g o p aS S cS x w) (hj : o + 5 ≤ j ∨ j < o) (hlo : g < lo) (hx : tpx ≤ g) : BladeAt Q lo tp lox tpx g o p aS S cS x (w.setCell ⟨g, j, none⟩ v) := by
 obtain ⟨ax, cx, r, k, hQ, ⟨h0, h1, h2, h3, h4⟩, hr, ho⟩ := h
 have e : ∀ i, i ≠ j → (w.setCell ⟨g, j, none⟩ v).cell? ⟨g, i, none⟩ = w.cell? ⟨g, i, none⟩ := fun i hi => World.cell?_setCell_other w ⟨g, j, none⟩ ⟨g, i, none⟩ v (fun e => hi (by injection e with _ e2; exact e2.symm))
 exact ⟨ax, cx, r, k, hQ, ⟨(e o (by omega)).trans h0, (e (o + 1) (by omega)).trans h1, (e (o + 2) (by omega)).trans h2, (e (o + 3) (by omega)).trans h3, (e (o + 4) (by omega)).trans h4⟩,
  hr.same (fun k' _ k1 => Below.heap_setCell _ _ _ _ (show k' ≠ g by omega)), ho.put hlo⟩
def F5 (g o : Nat) (W : World) : Prop :=
 (W.cell? ⟨g, o, none⟩ = some (.int .i64 0) ∧ W.cell? ⟨g, o + 1, none⟩ = some (.slice none 0 0) ∧ W.cell? ⟨g, o + 2, none⟩ = some (.slice none 0 0) ∧ W.cell? ⟨g, o + 3, none⟩ = some (.slice none 0 0) ∧ W.cell? ⟨g, o + 4, none⟩ = some (.int .i64 0)) ∧ W.frozen? ⟨g, o, none⟩ = false ∧ W.frozen? ⟨g, o + 1, none⟩ = false ∧ W.frozen? ⟨g, o + 2, none⟩ = false ∧ W.frozen? ⟨g, o + 3, none⟩ = false ∧ W.frozen? ⟨g, o + 4, none⟩ = false
theorem F5.below {g o B : Nat} {w w' : World} (h : F5 g o w) (b : Below B w w') (l : g < B) : F5 g o w' :=
 ⟨⟨(b.cell (p := ⟨g, o, none⟩) l).trans h.1.1, (b.cell (p := ⟨g, o + 1, none⟩) l).trans h.1.2.1, (b.cell (p := ⟨g, o + 2, none⟩) l).trans h.1.2.2.1, (b.cell (p := ⟨g, o + 3, none⟩) l).trans h.1.2.2.2.1, (b.cell (p := ⟨g, o + 4, none⟩) l).trans h.1.2.2.2.2⟩,
  (b.frozen (p := ⟨g, o, none⟩) l).trans h.2.1, (b.frozen (p := ⟨g, o + 1, none⟩) l).trans h.2.2.1, (b.frozen (p := ⟨g, o + 2, none⟩) l).trans h.2.2.2.1, (b.frozen (p := ⟨g, o + 3, none⟩) l).trans h.2.2.2.2.1, (b.frozen (p := ⟨g, o + 4, none⟩) l).trans h.2.2.2.2.2⟩
theorem F5.put {g o j : Nat} {w : World} {v : Value} (h : F5 g o w) (hj : j < o ∨ o + 5 ≤ j) : F5 g o (w.setCell ⟨g, j, none⟩ v) := by
 have e : ∀ i, i ≠ j → (w.setCell ⟨g, j, none⟩ v).cell? ⟨g, i, none⟩ = w.cell? ⟨g, i, none⟩ := fun i hi => World.cell?_setCell_other w ⟨g, j, none⟩ ⟨g, i, none⟩ v (fun e => hi (by injection e with _ e2; exact e2.symm))
 obtain ⟨⟨h0, h1, h2, h3, h4⟩, y⟩ := h
 exact ⟨⟨(e o (by omega)).trans h0, (e (o + 1) (by omega)).trans h1, (e (o + 2) (by omega)).trans h2, (e (o + 3) (by omega)).trans h3, (e (o + 4) (by omega)).trans h4⟩, by simpa [go_sem] using y⟩
theorem F5.made (w : World) (n : Nat) (t : TypeId) {i : Nat} (hi : i < n) : F5 w.heap.size (i * 5) (w.alloc (.cells (madeCells #[.int .i64 0, .slice none 0 0, .slice none 0 0, .slice none 0 0, .int .i64 0] (n * 5)) t)) := by
 have key : ∀ j, j < 5 → (w.alloc (.cells (madeCells #[.int .i64 0, .slice none 0 0, .slice none 0 0, .slice none 0 0, .int .i64 0] (n * 5)) t)).cell? ⟨w.heap.size, i * 5 + j, none⟩ = some ((#[Value.int .i64 0, .slice none 0 0, .slice none 0 0, .slice none 0 0, .int .i64 0] : Array Value)[j]!) := fun j hj => by
  rw [World.cell?_alloc_new]
  have h1 : i * 5 + j < n * 5 := by omega
  have h2 : (i * 5 + j) % 5 = j := by omega
  simp [madeCells, h1, h2]
 exact ⟨⟨key 0 (by omega), key 1 (by omega), key 2 (by omega), key 3 (by omega), key 4 (by omega)⟩, by simp [go_sem]⟩
theorem info_blade : (Tryz.prog.info? 115).map (fun i => (i.zero, i.size, i.bytes)) = some (some (.agg #[.int .i64 0, .slice none 0 0, .slice none 0 0, .slice none 0 0, .int .i64 0]), 5, 88) := by kernel_rfl
theorem make_blades (n : Nat) (h : n ≤ 1024) (w : World) : (Instr.makeSlice 130 (.int .i64 (n : Int)) (.int .i64 (n : Int))).run Tryz.prog w = .ok (.slice (some ⟨w.heap.size, 0, none⟩) n n) (w.alloc (.cells (madeCells #[.int .i64 0, .slice none 0 0, .slice none 0 0, .slice none 0 0, .int .i64 0] (n * 5)) 115)) := by
 obtain ⟨i, hi, hzz⟩ := Option.map_eq_some_iff.1 info_blade
 simp only [Prod.mk.injEq] at hzz
 obtain ⟨hz, hs, hb⟩ := hzz
 have hr := run_make (P := Tryz.prog) w 130 _ i _ (Tryz.underlying130) hi hz .i64 .i64 n n (by omega) (Int.le_refl _) (by rw [hb]; omega) (by omega)
 simp only [Int.toNat_natCast, hs] at hr
 exact hr
def put5o (g o : Nat) (v0 v1 v2 v3 v4 : Value) (W : World) : World := ((((W.setCell ⟨g, o, none⟩ v0).setCell ⟨g, o + 1, none⟩ v1).setCell ⟨g, o + 2, none⟩ v2).setCell ⟨g, o + 3, none⟩ v3).setCell ⟨g, o + 4, none⟩ v4
theorem put5o_size (g o : Nat) (v0 v1 v2 v3 v4 : Value) (w : World) : (put5o g o v0 v1 v2 v3 v4 w).heap.size = w.heap.size := by simp [put5o, World.setCell]
theorem put5o_cells {g o : Nat} {v0 v1 v2 v3 v4 : Value} {w : World} (h : F5 g o w) : (put5o g o v0 v1 v2 v3 v4 w).cell? ⟨g, o, none⟩ = some v0 ∧ (put5o g o v0 v1 v2 v3 v4 w).cell? ⟨g, o + 1, none⟩ = some v1 ∧ (put5o g o v0 v1 v2 v3 v4 w).cell? ⟨g, o + 2, none⟩ = some v2 ∧ (put5o g o v0 v1 v2 v3 v4 w).cell? ⟨g, o + 3, none⟩ = some v3 ∧ (put5o g o v0 v1 v2 v3 v4 w).cell? ⟨g, o + 4, none⟩ = some v4 := by
 have e : ∀ (W : World) (j : Nat) (v : Value) (i : Nat), i ≠ j → (W.setCell ⟨g, j, none⟩ v).cell? ⟨g, i, none⟩ = W.cell? ⟨g, i, none⟩ := fun W j v i hi => World.cell?_setCell_other W ⟨g, j, none⟩ ⟨g, i, none⟩ v (fun e => hi (by injection e with _ e2; exact e2.symm))
 have s : ∀ (W : World) (j : Nat) (v u : Value), W.cell? ⟨g, j, none⟩ = some u → (W.setCell ⟨g, j, none⟩ v).cell? ⟨g, j, none⟩ = some v := fun W j v u hu => World.cell?_setCell_same W _ _ hu
 obtain ⟨⟨h0, h1, h2, h3, h4⟩, _⟩ := h
 unfold put5o
 refine ⟨?_, ?_, ?_, ?_, ?_⟩
 · rw [e _ _ _ _ (by omega), e _ _ _ _ (by omega), e _ _ _ _ (by omega), e _ _ _ _ (by omega)]; exact s _ _ _ _ h0
 · rw [e _ _ _ _ (by omega), e _ _ _ _ (by omega), e _ _ _ _ (by omega)]; exact s _ _ _ _ (by rw [e _ _ _ _ (by omega)]; exact h1)
 · rw [e _ _ _ _ (by omega), e _ _ _ _ (by omega)]; exact s _ _ _ _ (by rw [e _ _ _ _ (by omega), e _ _ _ _ (by omega)]; exact h2)
 · rw [e _ _ _ _ (by omega)]; exact s _ _ _ _ (by rw [e _ _ _ _ (by omega), e _ _ _ _ (by omega), e _ _ _ _ (by omega)]; exact h3)
 · exact s _ _ _ _ (by rw [e _ _ _ _ (by omega), e _ _ _ _ (by omega), e _ _ _ _ (by omega), e _ _ _ _ (by omega)]; exact h4)
theorem BladeAt.new {Q : Option Addr → Nat → Prop} {lo tp lox tpx g o : Nat} {p : Int} {aS : Option Addr} {S : List Int} {cS : Nat} {x : List Int} {w : World} {ax : Option Addr} {cx : Nat} {r : Option Addr} {k : Nat} (hQ : Q ax cx) (h : F5 g o w) (hr : RowIn lox tpx w ax x) (ho : OwnM lo tp w r (subM p S x)) (hlo : g < lo) (hx : tpx ≤ g) : BladeAt Q lo tp lox tpx g o p aS S cS x (put5o g o (.int .i64 p) (.slice aS S.length cS) (.slice ax x.length cx) (.slice r (subM p S x).length k) (.int .i64 (facM p S x)) w) := by
 have hh : ∀ (W : World) (j : Nat) (v : Value) (k' : Nat), k' ≠ g → (W.setCell ⟨g, j, none⟩ v).heap[k']? = W.heap[k']? := fun W j v k' hk => Below.heap_setCell _ _ _ _ hk
 refine ⟨ax, cx, r, k, hQ, put5o_cells h, hr.same fun k' _ k1 => ?_, ((((ho.put hlo).put hlo).put hlo).put hlo).put hlo⟩
 unfold put5o
 rw [hh _ _ _ _ (by omega), hh _ _ _ _ (by omega), hh _ _ _ _ (by omega), hh _ _ _ _ (by omega), hh _ _ _ _ (by omega)]
theorem BladeAt.put5o {Q : Option Addr → Nat → Prop} {lo tp lox tpx g o j : Nat} {p : Int} {aS : Option Addr} {S : List Int} {cS : Nat} {x : List Int} {w : World} {v0 v1 v2 v3 v4 : Value} (h : BladeAt Q lo tp lox tpx g o p aS S cS x w) (hj : o + 5 ≤ j) (hlo : g < lo) (hx : tpx ≤ g) : BladeAt Q lo tp lox tpx g o p aS S cS x (put5o g j v0 v1 v2 v3 v4 w) :=
 ((((h.put (.inl hj) hlo hx).put (.inl (by omega)) hlo hx).put (.inl (by omega)) hlo hx).put (.inl (by omega)) hlo hx).put (.inl (by omega)) hlo hx
theorem F5.put5o {g o j : Nat} {w : World} {v0 v1 v2 v3 v4 : Value} (h : F5 g o w) (hj : j + 5 ≤ o) : F5 g o (put5o g j v0 v1 v2 v3 v4 w) :=
 ((((h.put (.inl (by omega))).put (.inl (by omega))).put (.inl (by omega))).put (.inl (by omega))).put (.inl (by omega))
theorem below_put5o {B g o : Nat} {w w' : World} {v0 v1 v2 v3 v4 : Value} (h : Below B w w') (hg : B ≤ g) : Below B w (put5o g o v0 v1 v2 v3 v4 w') := ((((h.setCell hg _).setCell hg _).setCell hg _).setCell hg _).setCell hg _
theorem cell_put5o {g o b i : Nat} {w : World} {v0 v1 v2 v3 v4 : Value} (h : b ≠ g) : (put5o g o v0 v1 v2 v3 v4 w).cell? ⟨b, i, none⟩ = w.cell? ⟨b, i, none⟩ := by
 have e : ∀ (W : World) (j : Nat) (v : Value), (W.setCell ⟨g, j, none⟩ v).cell? ⟨b, i, none⟩ = W.cell? ⟨b, i, none⟩ := fun W j v => World.cell?_setCell_other W ⟨g, j, none⟩ ⟨b, i, none⟩ v (fun e => h (by injection e with e1; exact e1.symm))
 unfold put5o
 rw [e, e, e, e, e]
def RowQ (w : World) (am : Option Addr) (m : List (List Int)) (j : Nat) (a : Option Addr) (c : Nat) : Prop := ∃ b o, am = some ⟨b, o, none⟩ ∧ w.cell? ⟨b, o + j, none⟩ = some (.slice a (rw' m j).length c)
def ChBs (lox tpx : Nat) (p : Int) (aS : Option Addr) (S : List Int) (cS : Nat) (am : Option Addr) (m : List (List Int)) (w : World) (e : Ending) (w' : World) : Prop :=
 (codeB p S m = 0 ∧ ∃ g, e = .returned (.tuple #[.slice (some ⟨g, 0, none⟩) m.length m.length, .int .i64 0]) ∧ (∀ j, j < m.length → BladeAt (RowQ w am m j) w.heap.size w'.heap.size lox tpx g (j * 5) p aS S cS (rw' m j) w') ∧ w.heap.size ≤ g ∧ g < w'.heap.size ∧ Below w.heap.size w w')
 ∨ (codeB p S m ≠ 0 ∧ e = .returned (.tuple #[.slice none 0 0, .int .i64 (codeB p S m)]) ∧ Below w.heap.size w w')
set_option maxRecDepth 100000 in
set_option maxHeartbeats 6400000 in
theorem checkBlades_any (pS : Int) (aS : Option Addr) (S : List Int) (cS loS tpS : Nat) (am : Option Addr) (m : List (List Int)) (cm lom tpm : Nat) (w : World) (hS : RowIn loS tpS w aS S) (tS : tpS ≤ w.heap.size) (sS : S.length ≤ 1048576) (hm : MatIn lom tpm w am m) (tm : tpm ≤ w.heap.size) (sm : m.length ≤ 1024) (sr : ∀ i, i < m.length → (rw' m i).length ≤ 1048576) :
 Calls Tryz.prog 157 #[.agg #[.int .i64 pS, .slice aS S.length cS], .slice am m.length cm] w (ChBs lom tpm pS aS S cS am m w) := by
 have HS := Lib.hid hS
 have Hm := Lib.hid hm
 have HSR := Lib.hid sr
 have HB0 := Lib.hid (below_alloc w (.cells #[.int .i64 pS, .slice aS S.length cS] 26))
 have k0 := nw0 w (.int .i64 pS) (.slice aS S.length cS) 26
 have k1 := nw1 w (.int .i64 pS) (.slice aS S.length cS) 26
 have hbad : codeMv pS S m ≠ 0 → codeB pS S m = codeMv pS S m := fun h => if_neg h
 have HBAD := Lib.hid hbad
 clear hS hm sr hbad
 by_cases hc : codeMv pS S m = 0
 · have HC := Lib.hid hc
   have HI := Lib.hid (codeMv_zero.1 hc).1
   have HA := Lib.hid (codeMv_zero.1 hc).2
   have hmk := make_blades m.length sm
   clear hc
   go_enter Tryz.func157, Tryz.ntmps157
   go_upto_region 4 with (go_at_call 110; ((with_reducible refine (checkMultivectors_any pS aS S cS loS tpS am m cm lom tpm _ (HS.out.below HB0.out tS) (Nat.le_trans tS HB0.out.size) sS (Hm.out.below HB0.out tm) (Nat.le_trans tm HB0.out.size) (by omega) HSR.out).mono ?_); rintro e w2 ⟨rfl, b_⟩; rw [HC.out]; have HB2 := Lib.hid (below_step HB0.out HB0.out.size b_); have k0' := (b_.cell (p := ⟨w.heap.size, 0, none⟩) (lt_alloc w (.cells #[.int .i64 pS, .slice aS S.length cS] 26))).trans k0; have k1' := (b_.cell (p := ⟨w.heap.size, 1, none⟩) (lt_alloc w (.cells #[.int .i64 pS, .slice aS S.length cS] 26))).trans k1; have hd2 := Nat.lt_of_lt_of_le (lt_alloc w (.cells #[.int .i64 pS, .slice aS S.length cS] 26)) b_.size; clear b_ k0 k1))
   go_upto_region 5 with fail
   obtain ⟨g, hg⟩ : ∃ b, b = w2.heap.size := ⟨_, rfl⟩
   obtain ⟨w3, hw3⟩ : ∃ z, z = w2.alloc (.cells (madeCells #[.int .i64 0, .slice none 0 0, .slice none 0 0, .slice none 0 0, .int .i64 0] (m.length * 5)) 115) := ⟨_, rfl⟩
   have hF : ∀ i, 0 ≤ i → i < m.length → F5 g (i * 5) w3 := fun i _ hi => by rw [hw3, hg]; exact F5.made w2 _ _ hi
   have HB3 : Hid (Below w.heap.size w w3) := by show Below _ _ _; rw [hw3]; exact HB2.out.alloc HB2.out.size _
   have k03 : w3.cell? ⟨w.heap.size, 0, none⟩ = some (.int .i64 pS) := by rw [hw3]; exact (World.cell?_alloc_old _ _ _ (show w.heap.size ≠ w2.heap.size by omega)).trans k0'
   have k13 : w3.cell? ⟨w.heap.size, 1, none⟩ = some (.slice aS S.length cS) := by rw [hw3]; exact (World.cell?_alloc_old _ _ _ (show w.heap.size ≠ w2.heap.size by omega)).trans k1'
   have hwg : w.heap.size < g := by omega
   have hg3 : g < w3.heap.size := by rw [hw3, hg]; simp
   rw [← hw3, ← hg]
   clear hw3 hmk hg k0' k1'
   have K3 := Lib.hid (And.intro k03 k13)
   have HF3 := Lib.hid hF
   clear k03 k13 hF
   go_wp2
   go_loopw [23] (fun t wr => ∃ i : Nat, i ≤ m.length ∧ t = .int .i64 i ∧ (∀ j, j < i → isBl pS S (rw' m j) = true ∧ BladeAt (RowQ w am m j) w3.heap.size wr.heap.size lom tpm g (j * 5) pS aS S cS (rw' m j) wr) ∧ (∀ j, i ≤ j → j < m.length → F5 g (j * 5) wr) ∧ (wr.cell? ⟨w.heap.size, 0, none⟩ = some (.int .i64 pS) ∧ wr.cell? ⟨w.heap.size, 1, none⟩ = some (.slice aS S.length cS)) ∧ Below w.heap.size w wr ∧ w3.heap.size ≤ wr.heap.size) (fun t _ => m.length - (intOf t).toNat)
   case atStart => exact ⟨0, Nat.zero_le _, rfl, fun j hj => by omega, HF3.out, K3.out, HB3.out, Nat.le_refl _⟩
   case round =>
    obtain ⟨i, hi, rfl, hd, hf, hk, hbel, hz⟩ := hrel
    have HD := Lib.hid hd
    have HF := Lib.hid hf
    have HK := Lib.hid hk
    have HB := Lib.hid hbel
    by_cases hlt : i < m.length
    · obtain ⟨b9, o9, rv, cv, ha9, _, hb9, hr90, hrow0⟩ := Hm.out.row hlt
      subst ha9
      have hr9 := (hbel.cell (p := ⟨b9, o9 + i, none⟩) (Nat.lt_of_lt_of_le hb9 tm)).trans hr90
      have hrow := hrow0.below hbel tm
      have HQR : Hid (RowQ w (some ⟨b9, o9, none⟩) m i rv cv) := ⟨b9, o9, rfl, hr90⟩
      clear hr90 hrow0
      have hi1 : (i : Int) < (m.length : Int) := Int.ofNat_lt.2 hlt
      have HMV := Lib.hid (all_mv HA.out hlt)
      have HROW := Lib.hid hrow
      have k0 := hk.1
      have k1 := hk.2
      have hgr : g < wr.heap.size := Nat.lt_of_lt_of_le hg3 hz
      have hbz := hbel.size
      clear hd hf hk hbel hrow
      by_cases hbl : isBl pS S (rw' m i) = true
      · have HBL := Lib.hid hbl
        obtain ⟨FA, hFA⟩ : ∃ f, f = facM pS S (rw' m i) := ⟨_, rfl⟩
        have HFA := Lib.hid hFA
        clear hbl hFA
        go_upto_region 8 with fail
        go_upto_region 9 with (go_at_call 148; ((with_reducible refine (asBlade_yes pS aS S cS loS tpS rv (rw' m i) cv lom tpm wr HI.out (HS.out.below HB.out tS) (Nat.le_trans tS HB.out.size) HROW.out (Nat.le_trans tm HB.out.size) HMV.out HBL.out).mono ?_); rintro e w5 ⟨r5, k5, rfl, o_, b_⟩; rw [← HFA.out]; have O5 := Lib.hid o_; have B5 := Lib.hid b_; clear o_ b_))
        obtain ⟨w6, hw6⟩ : ∃ z, z = w5.alloc (.cells #[.int .i64 pS, .slice aS S.length cS, .slice rv (rw' m i).length cv, .slice r5 (subM pS S (rw' m i)).length k5, .int .i64 FA] 115) := ⟨_, rfl⟩
        have hz5 := B5.out.size
        have hzz : Z5 w5.heap.size (.int .i64 pS) (.slice aS S.length cS) (.slice rv (rw' m i).length cv) (.slice r5 (subM pS S (rw' m i)).length k5) (.int .i64 FA) w6 := by rw [hw6]; exact Z5.new _ _ _ _ _ _ _
        have B6 : Hid (Below wr.heap.size wr w6) := by show Below _ _ _; rw [hw6]; exact B5.out.alloc hz5 _
        have O6 : Hid (OwnM wr.heap.size w6.heap.size w6 r5 (subM pS S (rw' m i))) := by show OwnM _ _ _ _ _; rw [hw6]; exact (O5.out.below (below_alloc w5 _) (Nat.le_refl _)).mono (Nat.le_refl _) (size_alloc w5 _)
        rw [← hw6]
        clear hw6
        obtain ⟨⟨z0, z1, z2, z3, z4⟩, _⟩ := hzz
        obtain ⟨⟨f0, f1, f2, f3, f4⟩, y0, y1, y2, y3, y4⟩ := (HF.out i (Nat.le_refl _) hlt).below B6.out hgr
        go_wp2
        go_roundw
        case rel =>
         have hz6 := B6.out.size
         have hng : w.heap.size ≠ g := by omega
         have hO : OwnM w3.heap.size w6.heap.size w6 r5 (subM pS S (rw' m i)) := O6.out.mono hz (Nat.le_refl _)
         have hN : BladeAt (RowQ w (some ⟨b9, o9, none⟩) m i) w3.heap.size w6.heap.size lom tpm g (i * 5) pS aS S cS (rw' m i) (put5o g (i * 5) (.int .i64 pS) (.slice aS S.length cS) (.slice rv (rw' m i).length cv) (.slice r5 (subM pS S (rw' m i)).length k5) (.int .i64 FA) w6) := by
          rw [HFA.out]
          exact BladeAt.new HQR.out ((HF.out i (Nat.le_refl _) hlt).below B6.out hgr) (HROW.out.below B6.out (by omega)) hO hg3 (by omega)
         refine ⟨i + 1, by omega, by go_num, fun j hj => ?_, fun j hj1 hj2 => ?_, ?_, ?_, ?_⟩
         · by_cases e : j = i
           · subst e
             exact ⟨HBL.out, hN.mono (Nat.le_refl _) (by rw [← put5o_size g (j * 5)]; exact Nat.le_refl _)⟩
           · have hD := HD.out j (by omega)
             exact ⟨hD.1, ((hD.2.below B6.out hgr (by omega) (Nat.le_refl _)).mono (Nat.le_refl _) hz6).put5o (by omega) hg3 (by omega) |>.mono (Nat.le_refl _) (by rw [← put5o_size g (i * 5)]; exact Nat.le_refl _)⟩
         · exact ((HF.out j (by omega) hj2).below B6.out hgr).put5o (by omega)
         · exact ⟨(cell_put5o hng).trans ((B6.out.cell (p := ⟨w.heap.size, 0, none⟩) (by show w.heap.size < wr.heap.size; omega)).trans HK.out.1), (cell_put5o hng).trans ((B6.out.cell (p := ⟨w.heap.size, 1, none⟩) (by show w.heap.size < wr.heap.size; omega)).trans HK.out.2)⟩
         · exact below_put5o (HB.out.trans (B6.out.mono hbz)) (Nat.le_of_lt hwg)
         · show w3.heap.size ≤ (put5o g (i * 5) _ _ _ _ _ w6).heap.size
           rw [put5o_size]; omega
        case measure => simp [intOf]; omega
      · have HBL : Hid (isBl pS S (rw' m i) = false) := by show _ = _; simpa using hbl
        have HNB : Hid (¬ ∀ j, j < m.length → isBl pS S (rw' m j) = true) := fun h => hbl (h i hlt)
        clear hbl
        go_upto_region 8 with fail
        go_wp2_with (go_at_call 148; ((with_reducible refine (asBlade_no pS aS S cS loS tpS rv (rw' m i) cv lom tpm wr HI.out (HS.out.below HB.out tS) (Nat.le_trans tS HB.out.size) HROW.out (Nat.le_trans tm HB.out.size) HMV.out HBL.out).mono ?_); rintro e w5 ⟨rfl, b_⟩; have B5 := Lib.hid b_; clear b_))
        go_ret2
        have h5 : codeB pS S m = 5 := by unfold codeB; rw [if_pos HC.out, if_neg HNB.out]
        exact .inr ⟨by rw [h5]; decide, by rw [h5]; rfl, (HB.out.trans (B5.out.mono hbz)).alloc (Nat.le_trans hbz B5.out.size) _⟩
    · have hin : i = m.length := by omega
      subst hin
      have HALL : Hid (∀ j, j < m.length → isBl pS S (rw' m j) = true) := fun j hj => (hd j hj).1
      clear hd hf hk hbel
      go_wp2
      go_ret2
      exact .inl ⟨by unfold codeB; rw [if_pos HC.out, if_pos HALL.out], g, rfl, fun j hj => (HD.out j hj).2.mono HB3.out.size (Nat.le_refl _), Nat.le_of_lt hwg, Nat.lt_of_lt_of_le hg3 hz, HB.out⟩
 · have HC := Lib.hid hc
   obtain ⟨C, hCe⟩ : ∃ c, c = codeMv pS S m := ⟨_, rfl⟩
   have hc1 : (C != 0) = true := by rw [hCe]; simpa using hc
   have HCE := Lib.hid hCe
   clear hc hCe
   go_enter Tryz.func157, Tryz.ntmps157
   go_wp2_with (go_at_call 110; ((with_reducible refine (checkMultivectors_any pS aS S cS loS tpS am m cm lom tpm _ (HS.out.below HB0.out tS) (Nat.le_trans tS HB0.out.size) sS (Hm.out.below HB0.out tm) (Nat.le_trans tm HB0.out.size) (by omega) HSR.out).mono ?_); rintro e w2 ⟨rfl, b_⟩; rw [← HCE.out]; have HB2 := Lib.hid (below_step HB0.out HB0.out.size b_); clear b_ k0 k1))
   go_ret2
   exact .inr ⟨by rw [HBAD.out HC.out]; exact HC.out, by rw [HBAD.out HC.out, HCE.out]; rfl, HB2.out⟩
theorem checkBlades_1 (p : Int) (aS : Option Addr) (S : List Int) (cS loS tpS : Nat) (av : Option Addr) (v : List Int) (cv lov tpv : Nat) (b cap : Nat) (W : World) (T : TypeId) (hb : b = W.heap.size) (hS : RowIn loS tpS W aS S) (tS : tpS ≤ W.heap.size) (sS : S.length ≤ 1048576) (hv : RowIn lov tpv W av v) (tv : tpv ≤ W.heap.size) (sv : v.length ≤ 1048576) :
 Calls Tryz.prog 157 #[.agg #[.int .i64 p, .slice aS S.length cS], .slice (some ⟨b, 0, none⟩) 1 cap] (W.alloc (.cells #[.slice av v.length cv] T)) (ChBs 0 (W.alloc (.cells #[.slice av v.length cv] T)).heap.size p aS S cS (some ⟨b, 0, none⟩) [v] (W.alloc (.cells #[.slice av v.length cv] T))) :=
 checkBlades_any p aS S cS loS tpS (some ⟨b, 0, none⟩) [v] cap 0 _ _ (hS.below (below_alloc W _) tS) (Nat.le_trans tS (size_alloc W _)) sS (mv_one hb hv tv T) (Nat.le_refl _) (by show 1 ≤ 1024; omega) (fun i hi => by match i, hi with | 0, _ => exact sv)
theorem checkBlades_1y (p : Int) (aS : Option Addr) (S : List Int) (cS loS tpS : Nat) (av : Option Addr) (v : List Int) (cv lov tpv : Nat) (b cap : Nat) (W : World) (T : TypeId) (hb : b = W.heap.size) (hS : RowIn loS tpS W aS S) (tS : tpS ≤ W.heap.size) (sS : S.length ≤ 1048576) (hv : RowIn lov tpv W av v) (tv : tpv ≤ W.heap.size) (sv : v.length ≤ 1048576) (hc : codeB p S [v] = 0) :
 Calls Tryz.prog 157 #[.agg #[.int .i64 p, .slice aS S.length cS], .slice (some ⟨b, 0, none⟩) 1 cap] (W.alloc (.cells #[.slice av v.length cv] T)) fun e w' => ∃ (g : Nat) (r0 : Option Addr) (k0 : Nat), e = .returned (.tuple #[.slice (some ⟨g, 0, none⟩) 1 1, .int .i64 0]) ∧ ((w'.cell? ⟨g, 0, none⟩ = some (.int .i64 p) ∧ w'.cell? ⟨g, 1, none⟩ = some (.slice aS S.length cS) ∧ w'.cell? ⟨g, 2, none⟩ = some (.slice av v.length cv) ∧ w'.cell? ⟨g, 3, none⟩ = some (.slice r0 (subM p S v).length k0) ∧ w'.cell? ⟨g, 4, none⟩ = some (.int .i64 (facM p S v))) ∧ OwnM W.heap.size w'.heap.size w' r0 (subM p S v)) ∧ W.heap.size < g ∧ g < w'.heap.size ∧ Below W.heap.size W w' :=
 (checkBlades_1 p aS S cS loS tpS av v cv lov tpv b cap W T hb hS tS sS hv tv sv).mono fun e w' h => by
  rcases h with ⟨_, g, rfl, hb', hg0, hg1, hbl⟩ | ⟨h, _⟩
  rotate_left
  · exact absurd hc h
  have hz := hbl.size
  obtain ⟨a0, c0, r0, k0, ⟨bb0, ob0, hbb0, hcc0⟩, q0, rr0, oo0⟩ := hb' 0 (by show 0 < 1; omega)
  have e0 : b = bb0 ∧ 0 = ob0 := by injection hbb0 with h1; injection h1 with h2 h3; exact ⟨h2, h3⟩
  rw [← e0.1, ← e0.2, hb, World.cell?_alloc_new] at hcc0
  have f0 : (av = a0) ∧ (cv = c0) := by simp at hcc0; exact ⟨hcc0.1, hcc0.2.2⟩
  obtain ⟨rfl, rfl⟩ := f0
  have hW : W.heap.size < (W.alloc (.cells #[.slice av v.length cv] T)).heap.size := by simp
  exact ⟨g, r0, k0, rfl, ⟨q0, oo0.mono (size_alloc W _) (Nat.le_refl _)⟩, by omega, hg1, below_step (below_alloc W _) (size_alloc W _) hbl⟩
theorem checkBlades_1n (p : Int) (aS : Option Addr) (S : List Int) (cS loS tpS : Nat) (av : Option Addr) (v : List Int) (cv lov tpv : Nat) (b cap : Nat) (W : World) (T : TypeId) (hb : b = W.heap.size) (hS : RowIn loS tpS W aS S) (tS : tpS ≤ W.heap.size) (sS : S.length ≤ 1048576) (hv : RowIn lov tpv W av v) (tv : tpv ≤ W.heap.size) (sv : v.length ≤ 1048576) (hc : codeB p S [v] ≠ 0) :
 Calls Tryz.prog 157 #[.agg #[.int .i64 p, .slice aS S.length cS], .slice (some ⟨b, 0, none⟩) 1 cap] (W.alloc (.cells #[.slice av v.length cv] T)) fun e w' => e = .returned (.tuple #[.slice none 0 0, .int .i64 (codeB p S [v])]) ∧ Below W.heap.size W w' :=
 (checkBlades_1 p aS S cS loS tpS av v cv lov tpv b cap W T hb hS tS sS hv tv sv).mono fun e w' h => by
  rcases h with ⟨h, _⟩ | ⟨_, h, hbl⟩
  · exact absurd h hc
  · exact ⟨h, below_step (below_alloc W _) (size_alloc W _) hbl⟩
def ChB (p : Int) (aS : Option Addr) (S : List Int) (cS : Nat) (ax : Option Addr) (x : List Int) (cx : Nat) (C : Int) (w : World) (e : Ending) (w' : World) : Prop :=
 (C = 0 ∧ ∃ (r : Option Addr) (k : Nat), e = .returned (.tuple #[.agg #[.int .i64 p, .slice aS S.length cS, .slice ax x.length cx, .slice r (subM p S x).length k, .int .i64 (facM p S x)], .int .i64 0]) ∧ OwnM w.heap.size w'.heap.size w' r (subM p S x) ∧ Below w.heap.size w w')
 ∨ (C ≠ 0 ∧ e = .returned (.tuple #[.agg #[.int .i64 0, .slice none 0 0, .slice none 0 0, .slice none 0 0, .int .i64 0], .int .i64 C]) ∧ Below w.heap.size w w')
set_option maxRecDepth 100000 in
set_option maxHeartbeats 3200000 in
theorem checkBlade_any (pS : Int) (aS : Option Addr) (S : List Int) (cS loS tpS : Nat) (ax : Option Addr) (x : List Int) (cx lox tpx : Nat) (w : World) (hS : RowIn loS tpS w aS S) (tS : tpS ≤ w.heap.size) (sS : S.length ≤ 1048576) (hx : RowIn lox tpx w ax x) (tx : tpx ≤ w.heap.size) (sx : x.length ≤ 1048576) :
 Calls Tryz.prog 135 #[.agg #[.int .i64 pS, .slice aS S.length cS], .slice ax x.length cx] w (ChB pS aS S cS ax x cx (codeB pS S [x]) w) := by
 have HS := Lib.hid hS
 have Hx := Lib.hid hx
 have HB0 := Lib.hid (below_alloc w (.cells #[.int .i64 pS, .slice aS S.length cS] 26))
 have k0 := nw0 w (.int .i64 pS) (.slice aS S.length cS) 26
 have k1 := nw1 w (.int .i64 pS) (.slice aS S.length cS) 26
 clear hS hx
 by_cases hc : codeB pS S [x] = 0
 · have HC := Lib.hid hc
   clear hc
   go_enter Tryz.func135, Tryz.ntmps135
   go_upto_region 1 with fail
   obtain ⟨w0, hw0'⟩ : ∃ z, z = w.alloc (.cells #[.int .i64 pS, .slice aS S.length cS] 26) := ⟨_, rfl⟩
   rw [← hw0'] at HB0 k0 k1 ⊢
   have hw0 : w.heap.size < w0.heap.size := by rw [hw0']; simp
   have hwz : w.heap.size + 1 = w0.heap.size := by rw [hw0']; simp
   try rw [hwz]
   clear hw0'
   obtain ⟨w1, hw1⟩ : ∃ z, z = w0.alloc (.cells #[.int .i64 0, .slice none 0 0, .slice none 0 0, .slice none 0 0, .int .i64 0] 115) := ⟨_, rfl⟩
   obtain ⟨g, hg⟩ : ∃ b, b = w0.heap.size := ⟨_, rfl⟩
   have hs0 : w1.cell? ⟨w.heap.size, 0, none⟩ = some (.int .i64 pS) ∧ w1.cell? ⟨w.heap.size, 1, none⟩ = some (.slice aS S.length cS) := by rw [hw1]; exact ss2x (below_alloc w0 _) hw0 ⟨k0, k1⟩
   have hzz : Z5 g (.int .i64 0) (.slice none 0 0) (.slice none 0 0) (.slice none 0 0) (.int .i64 0) w1 := by rw [hw1, hg]; exact Z5.new _ _ _ _ _ _ _
   have HB1 : Hid (Below w.heap.size w w1) := by show Below _ _ _; rw [hw1]; exact HB0.out.alloc HB0.out.size _
   have hg1 : g < w1.heap.size := by rw [hw1, hg]; simp
   have hwg : w.heap.size < g := by omega
   have hd1 : w.heap.size < w1.heap.size := Nat.lt_trans hwg hg1
   rw [← hw1]
   rw [← hg]
   clear hw1 hwz hg k0 k1
   have k0 := hs0.1
   have k1 := hs0.2
   have K1 := Lib.hid hs0
   have ZZ := Lib.hid hzz
   clear hs0 hzz
   go_upto_region 2 with (go_at_call 157; ((with_reducible refine (checkBlades_1y pS aS S cS loS tpS ax x cx lox tpx _ _ w1 _ rfl (HS.out.below HB1.out tS) (Nat.le_trans tS HB1.out.size) sS (Hx.out.below HB1.out tx) (Nat.le_trans tx HB1.out.size) sx HC.out).mono ?_); rintro e w2 ⟨b, r0, k0_, rfl, ⟨⟨q0, q1, q2, q3, q4⟩, oo_⟩, hb0, hb1, b_⟩; have OO := Lib.hid oo_; have B2 := Lib.hid b_; obtain ⟨⟨z0, z1, z2, z3, z4⟩, y0, y1, y2, y3, y4⟩ := ZZ.out.below b_ hg1; clear oo_ b_ k0 k1))
   have hbg : b ≠ g := by omega
   obtain ⟨F, hF⟩ : ∃ f, f = facM pS S x := ⟨_, rfl⟩
   have HF := Lib.hid hF
   rw [← hF] at q4
   clear hF
   go_wp2
   refine bodyPost_ret (v := .tuple #[.agg #[.int .i64 pS, .slice aS S.length cS, .slice ax x.length cx, .slice r0 (subM pS S x).length k0_, .int .i64 F], .int .i64 0]) (by simp [results, Tryz.results135, go_sem, z0, z1, z2, z3, z4]) rfl (.inl ⟨HC.out, r0, k0_, by rw [← HF.out], ?_, ?_⟩)
   · exact (OO.out.put5 (g := g) hg1).mono (Nat.le_of_lt hd1) (by simp [World.setCell])
   · exact below_put5 (HB1.out.trans (B2.out.mono (Nat.le_of_lt hd1))) (Nat.le_of_lt hwg)
 · have HC := Lib.hid hc
   obtain ⟨C, hC⟩ : ∃ c, c = codeB pS S [x] := ⟨_, rfl⟩
   have hc1 : (C != 0) = true := by rw [hC]; simpa using hc
   have HCE := Lib.hid hC
   clear hc hC
   go_enter Tryz.func135, Tryz.ntmps135
   go_upto_region 1 with fail
   obtain ⟨w0, hw0'⟩ : ∃ z, z = w.alloc (.cells #[.int .i64 pS, .slice aS S.length cS] 26) := ⟨_, rfl⟩
   rw [← hw0'] at HB0 k0 k1 ⊢
   have hw0 : w.heap.size < w0.heap.size := by rw [hw0']; simp
   have hwz : w.heap.size + 1 = w0.heap.size := by rw [hw0']; simp
   try rw [hwz]
   clear hw0'
   obtain ⟨w1, hw1⟩ : ∃ z, z = w0.alloc (.cells #[.int .i64 0, .slice none 0 0, .slice none 0 0, .slice none 0 0, .int .i64 0] 115) := ⟨_, rfl⟩
   obtain ⟨g, hg⟩ : ∃ b, b = w0.heap.size := ⟨_, rfl⟩
   have hs0 : w1.cell? ⟨w.heap.size, 0, none⟩ = some (.int .i64 pS) ∧ w1.cell? ⟨w.heap.size, 1, none⟩ = some (.slice aS S.length cS) := by rw [hw1]; exact ss2x (below_alloc w0 _) hw0 ⟨k0, k1⟩
   have hzz : Z5 g (.int .i64 0) (.slice none 0 0) (.slice none 0 0) (.slice none 0 0) (.int .i64 0) w1 := by rw [hw1, hg]; exact Z5.new _ _ _ _ _ _ _
   have HB1 : Hid (Below w.heap.size w w1) := by show Below _ _ _; rw [hw1]; exact HB0.out.alloc HB0.out.size _
   have hg1 : g < w1.heap.size := by rw [hw1, hg]; simp
   have hwg : w.heap.size < g := by omega
   have hd1 : w.heap.size < w1.heap.size := Nat.lt_trans hwg hg1
   rw [← hw1]
   rw [← hg]
   clear hw1 hwz hg k0 k1
   have k0 := hs0.1
   have k1 := hs0.2
   have K1 := Lib.hid hs0
   have ZZ := Lib.hid hzz
   clear hs0 hzz
   go_wp2_with (go_at_call 157; ((with_reducible refine (checkBlades_1n pS aS S cS loS tpS ax x cx lox tpx _ _ w1 _ rfl (HS.out.below HB1.out tS) (Nat.le_trans tS HB1.out.size) sS (Hx.out.below HB1.out tx) (Nat.le_trans tx HB1.out.size) sx HC.out).mono ?_); rintro e w2 ⟨rfl, b_⟩; rw [← HCE.out]; have B2 := Lib.hid b_; obtain ⟨⟨z0, z1, z2, z3, z4⟩, y0, y1, y2, y3, y4⟩ := ZZ.out.below b_ hg1; clear b_ k0 k1))
   refine bodyPost_ret (v := .tuple #[.agg #[.int .i64 0, .slice none 0 0, .slice none 0 0, .slice none 0 0, .int .i64 0], .int .i64 C]) (by simp [results, Tryz.results135, go_sem, z0, z1, z2, z3, z4]) rfl (.inr ⟨HC.out, by rw [← HCE.out], below_put5 (HB1.out.trans (B2.out.mono (Nat.le_of_lt hd1))) (Nat.le_of_lt hwg)⟩)
end Go.Proofs.YtgfanoejohpmkaaGreat