/-
  Lists and matrices of numbers in memory: where they lie, what keeps them, what a store does.
  No conditions.
  Matrices as lists of lists: made of a function, their rows and numbers, sums of products, and what chapter 2 makes of them. No Go in sight.
  No conditions.
  What the laws' sizes, copies, comparisons and marks of lists of numbers do, and the checks of their numbers, wherever they lie.
  Conditions: the lists are nil or rows of known cells, of at most 1048576 numbers.
  What the laws' sizes, copies, comparisons and marks of matrices do.
  Conditions: the matrices are nil or rows of known cells; copied, compared and marked: of at most 1048576 numbers.
-/
import Derived.Test.YtijklpcelbnnjaaGreatQk1
import Derived.Deep.QuietTactic
import Derived.BigQuiet
import Derived.Deep.Draws
import Derived.Laws.MakeOwn
import Derived.OpenShut
import Derived.Deep.OwnRows
import Derived.Deep.RegionHeld3
import Derived.RegionTactic
import Derived.Deep.RegionWith
import Derived.StillTailTactics
namespace Go.Proofs.YtijklpcelbnnjaaGreat
open Go.RowKit
set_option linter.unusedVariables false

/-- A list of numbers in blocks from lo up to hi (an empty one anywhere). -/
def RowIn (lo hi : Nat) (w : World) (a : Option Addr) (zs : List Int) : Prop :=
  zs = [] ∨ ∃ b o : Nat, a = some ⟨b, o, none⟩ ∧ lo ≤ b ∧ b < hi ∧ ∀ j, j < zs.length → w.cell? ⟨b, o + j, none⟩ = some (.int .i64 (zs.getD j 0))

/-- Row i of a matrix. -/
def rw' (m : List (List Int)) (i : Nat) : List Int := m.getD i []
/-- The number at row i, column j. -/
def at' (m : List (List Int)) (i j : Nat) : Int := (rw' m i).getD j 0

/-- A list of lists of numbers in blocks from lo up to hi. -/
def MatIn (lo hi : Nat) (w : World) (a : Option Addr) (m : List (List Int)) : Prop :=
  m = [] ∨ ∃ b o : Nat, a = some ⟨b, o, none⟩ ∧ lo ≤ b ∧ b < hi ∧ ∀ i, i < m.length → ∃ r c, w.cell? ⟨b, o + i, none⟩ = some (.slice r (rw' m i).length c) ∧ RowIn lo hi w r (rw' m i)

/-- Blocks from lo up to hi are as they were. -/
def Same (lo hi : Nat) (w w' : World) : Prop := ∀ k, lo ≤ k → k < hi → w'.heap[k]? = w.heap[k]?
theorem Same.cell {lo hi : Nat} {w w' : World} (h : Same lo hi w w') {p : Addr} (k0 : lo ≤ p.block) (k1 : p.block < hi) : w'.cell? p = w.cell? p := World.cell?_of_block (w := w) (h p.block k0 k1)
theorem Same.frozen {lo hi : Nat} {w w' : World} (h : Same lo hi w w') {p : Addr} (k0 : lo ≤ p.block) (k1 : p.block < hi) : w'.frozen? p = w.frozen? p := World.frozen?_of_block (w := w) (h p.block k0 k1)
theorem Same.refl (lo hi : Nat) (w : World) : Same lo hi w w := fun _ _ _ => rfl
theorem Same.trans {lo hi : Nat} {a b c : World} (h : Same lo hi a b) (k : Same lo hi b c) : Same lo hi a c := fun i i0 i1 => (k i i0 i1).trans (h i i0 i1)
theorem same_below {B lo hi : Nat} {w w' : World} (h : Below B w w') (k : hi ≤ B) : Same lo hi w w' := fun i _ i1 => h.block i (by omega)

theorem RowIn.same {lo hi : Nat} {w w' : World} {a : Option Addr} {zs : List Int} (h : RowIn lo hi w a zs) (k : Same lo hi w w') : RowIn lo hi w' a zs := by
  rcases h with h | ⟨b, o, ha, h0, h1, hc⟩
  · exact .inl h
  · exact .inr ⟨b, o, ha, h0, h1, fun j hj => (k.cell (p := ⟨b, o + j, none⟩) h0 h1).trans (hc j hj)⟩
theorem RowIn.below {B lo hi : Nat} {w w' : World} {a : Option Addr} {zs : List Int} (h : RowIn lo hi w a zs) (k : Below B w w') (hB : hi ≤ B) : RowIn lo hi w' a zs := h.same (same_below k hB)
theorem RowIn.mono {lo hi lo' hi' : Nat} {w : World} {a : Option Addr} {zs : List Int} (h : RowIn lo hi w a zs) (h0 : lo' ≤ lo) (h1 : hi ≤ hi') : RowIn lo' hi' w a zs := by
  rcases h with h | ⟨b, o, ha, k0, k1, hc⟩
  · exact .inl h
  · exact .inr ⟨b, o, ha, by omega, by omega, hc⟩
theorem MatIn.same {lo hi : Nat} {w w' : World} {a : Option Addr} {m : List (List Int)} (h : MatIn lo hi w a m) (k : Same lo hi w w') : MatIn lo hi w' a m := by
  rcases h with h | ⟨b, o, ha, h0, h1, hc⟩
  · exact .inl h
  · refine .inr ⟨b, o, ha, h0, h1, fun i hi => ?_⟩
    obtain ⟨r, c, hr, hrow⟩ := hc i hi
    exact ⟨r, c, (k.cell (p := ⟨b, o + i, none⟩) h0 h1).trans hr, hrow.same k⟩
theorem MatIn.below {B lo hi : Nat} {w w' : World} {a : Option Addr} {m : List (List Int)} (h : MatIn lo hi w a m) (k : Below B w w') (hB : hi ≤ B) : MatIn lo hi w' a m := h.same (same_below k hB)
theorem MatIn.mono {lo hi lo' hi' : Nat} {w : World} {a : Option Addr} {m : List (List Int)} (h : MatIn lo hi w a m) (h0 : lo' ≤ lo) (h1 : hi ≤ hi') : MatIn lo' hi' w a m := by
  rcases h with h | ⟨b, o, ha, k0, k1, hc⟩
  · exact .inl h
  · refine .inr ⟨b, o, ha, by omega, by omega, fun i hi => ?_⟩
    obtain ⟨r, c, hr, hrow⟩ := hc i hi
    exact ⟨r, c, hr, hrow.mono h0 h1⟩
/-- One row is got. -/
theorem MatIn.row {lo hi : Nat} {w : World} {a : Option Addr} {m : List (List Int)} (h : MatIn lo hi w a m) {i : Nat} (hi' : i < m.length) :
    ∃ b o r c, a = some ⟨b, o, none⟩ ∧ lo ≤ b ∧ b < hi ∧ w.cell? ⟨b, o + i, none⟩ = some (.slice r (rw' m i).length c) ∧ RowIn lo hi w r (rw' m i) := by
  rcases h with h | ⟨b, o, ha, h0, h1, hc⟩
  · rw [h] at hi'; simp at hi'
  · obtain ⟨r, c, hr, hrow⟩ := hc i hi'
    exact ⟨b, o, r, c, ha, h0, h1, hr, hrow⟩
/-- One number is got. -/
theorem RowIn.num {lo hi : Nat} {w : World} {a : Option Addr} {zs : List Int} (h : RowIn lo hi w a zs) {j : Nat} (hj : j < zs.length) :
    ∃ b o, a = some ⟨b, o, none⟩ ∧ lo ≤ b ∧ b < hi ∧ w.cell? ⟨b, o + j, none⟩ = some (.int .i64 (zs.getD j 0)) := by
  rcases h with h | ⟨b, o, ha, h0, h1, hc⟩
  · rw [h] at hj; simp at hj
  · exact ⟨b, o, ha, h0, h1, hc j hj⟩

/-- Nothing but draws. -/
def Quiet (w w' : World) : Prop := ∃ n, w' = w.drewN n
theorem Quiet.refl (w : World) : Quiet w w := ⟨0, rfl⟩
theorem Quiet.next {w w' : World} (h : Quiet w w') (n : Nat) : Quiet w (w'.drewN n) := by
  obtain ⟨k, rfl⟩ := h
  exact ⟨k + n, by rw [World.drewN_drewN]⟩
theorem Quiet.trans {a b c : World} (h : Quiet a b) (k : Quiet b c) : Quiet a c := by
  obtain ⟨n, rfl⟩ := k
  exact h.next n
theorem Quiet.below {w w' : World} (h : Quiet w w') (B : Nat) : Below B w w' := by
  obtain ⟨k, rfl⟩ := h
  exact ⟨rfl, rfl, rfl, Nat.le_refl _, fun _ _ => rfl⟩
theorem Quiet.same {w w' : World} (h : Quiet w w') (lo hi : Nat) : Same lo hi w w' := by
  obtain ⟨k, rfl⟩ := h
  exact fun _ _ _ => rfl
theorem Quiet.cell {w w' : World} (h : Quiet w w') (p : Addr) : w'.cell? p = w.cell? p := by
  obtain ⟨k, rfl⟩ := h
  rfl
theorem Quiet.size {w w' : World} (h : Quiet w w') : w'.heap.size = w.heap.size := by
  obtain ⟨k, rfl⟩ := h
  rfl

/-! ### Matrices of one's own: where each row lies -/
structure Place where
  b : Nat
  o : Nat
  R : Nat → Option Addr
  B : Nat → Nat
  O : Nat → Nat
  C : Nat → Nat

/-- n rows of lengths L, the numbers Z, all in blocks from lo up to hi, no cell twice, none frozen. -/
structure OwnAt (lo hi : Nat) (w : World) (q : Place) (n : Nat) (L : Nat → Nat) (Z : Nat → Nat → Int) : Prop where
  rng : 0 < n → lo ≤ q.b ∧ q.b < hi
  top : ∀ i, i < n → w.cell? ⟨q.b, q.o + i, none⟩ = some (.slice (q.R i) (L i) (q.C i))
  row : ∀ i, i < n → L i = 0 ∨ q.R i = some ⟨q.B i, q.O i, none⟩
  rrng : ∀ i, i < n → 0 < L i → lo ≤ q.B i ∧ q.B i < hi
  cell : ∀ i, i < n → ∀ j, j < L i → w.cell? ⟨q.B i, q.O i + j, none⟩ = some (.int .i64 (Z i j))
  free : ∀ i, i < n → ∀ j, j < L i → w.frozen? ⟨q.B i, q.O i + j, none⟩ = false
  apart : ∀ i, i < n → ∀ i', i' < n → i ≠ i' → ∀ j, j < L i → ∀ j', j' < L i' → ¬ (q.B i = q.B i' ∧ q.O i + j = q.O i' + j')
  tops : ∀ i, i < n → ∀ j, j < L i → ∀ i', i' < n → ¬ (q.B i = q.b ∧ q.O i + j = q.o + i')

theorem OwnAt.same {lo hi : Nat} {w w' : World} {q : Place} {n : Nat} {L : Nat → Nat} {Z : Nat → Nat → Int} (h : OwnAt lo hi w q n L Z) (k : Same lo hi w w') : OwnAt lo hi w' q n L Z where
  rng := h.rng
  top i hi := (k.cell (p := ⟨q.b, q.o + i, none⟩) (h.rng (by omega)).1 (h.rng (by omega)).2).trans (h.top i hi)
  row := h.row
  rrng := h.rrng
  cell i hi j hj := (k.cell (p := ⟨q.B i, q.O i + j, none⟩) (h.rrng i hi (by omega)).1 (h.rrng i hi (by omega)).2).trans (h.cell i hi j hj)
  free i hi j hj := (k.frozen (p := ⟨q.B i, q.O i + j, none⟩) (h.rrng i hi (by omega)).1 (h.rrng i hi (by omega)).2).trans (h.free i hi j hj)
  apart := h.apart
  tops := h.tops
theorem OwnAt.congr {lo hi : Nat} {w : World} {q : Place} {n : Nat} {L : Nat → Nat} {Z Z' : Nat → Nat → Int} (h : OwnAt lo hi w q n L Z) (e : ∀ i, i < n → ∀ j, j < L i → Z i j = Z' i j) : OwnAt lo hi w q n L Z' :=
  { h with cell := fun i hi j hj => by rw [← e i hi j hj]; exact h.cell i hi j hj }

/-- A call wrote into a stretch of one block, and nowhere else. -/
structure Wrote (b o n : Nat) (w w' : World) : Prop where
  os : w'.os = w.os
  tape : w'.tape = w.tape
  output : w'.output = w.output
  size : w'.heap.size = w.heap.size
  block : ∀ k, k ≠ b → w'.heap[k]? = w.heap[k]?
  cell : ∀ j, (∀ i, i < n → j ≠ o + i) → w'.cell? ⟨b, j, none⟩ = w.cell? ⟨b, j, none⟩
  frozen : ∀ j, w'.frozen? ⟨b, j, none⟩ = w.frozen? ⟨b, j, none⟩
theorem Wrote.refl (b o n : Nat) (w : World) : Wrote b o n w w := ⟨rfl, rfl, rfl, rfl, fun _ _ => rfl, fun _ _ => rfl, fun _ => rfl⟩
theorem Wrote.mono {b o n n' : Nat} {w w' : World} (h : Wrote b o n w w') (k : n ≤ n') : Wrote b o n' w w' := ⟨h.os, h.tape, h.output, h.size, h.block, fun j hj => h.cell j (fun i hi => hj i (by omega)), h.frozen⟩
theorem Wrote.drew {b o n : Nat} {w w' : World} (h : Wrote b o n w w') : Wrote b o n w w'.drew := ⟨h.os, h.tape, h.output, h.size, h.block, h.cell, h.frozen⟩
theorem Wrote.cellOut {b o n : Nat} {w w' : World} (h : Wrote b o n w w') {c j : Nat} (hne : ¬ (c = b ∧ ∃ i, i < n ∧ j = o + i)) : w'.cell? ⟨c, j, none⟩ = w.cell? ⟨c, j, none⟩ := by
  by_cases hc : c = b
  · subst hc
    exact h.cell j (fun i hi e => hne ⟨rfl, i, hi, e⟩)
  · exact World.cell?_of_block (w := w) (a := ⟨c, j, none⟩) (h.block c hc)
theorem Wrote.frozenAll {b o n : Nat} {w w' : World} (h : Wrote b o n w w') (c j : Nat) : w'.frozen? ⟨c, j, none⟩ = w.frozen? ⟨c, j, none⟩ := by
  by_cases hc : c = b
  · subst hc; exact h.frozen j
  · exact World.frozen?_of_block (w := w) (a := ⟨c, j, none⟩) (h.block c hc)
theorem Wrote.set {b o n : Nat} {w w' : World} (h : Wrote b o n w w') {i : Nat} (hi : i < n) (v : Value) : Wrote b o n w (w'.setCell ⟨b, o + i, none⟩ v) where
  os := h.os
  tape := h.tape
  output := h.output
  size := by simpa [World.setCell] using h.size
  block k hk := (Below.heap_setCell _ _ _ _ hk).trans (h.block k hk)
  cell j hj := (World.cell?_setCell_other _ _ _ _ (fun e => hj i hi (by injection e with _ e2; exact e2.symm))).trans (h.cell j hj)
  frozen j := by simp [go_sem, h.frozen]

/-- Blocks outside lo up to hi are as they were. -/
structure Off (lo hi : Nat) (w w' : World) : Prop where
  os : w'.os = w.os
  tape : w'.tape = w.tape
  output : w'.output = w.output
  size : w'.heap.size = w.heap.size
  block : ∀ k, (k < lo ∨ hi ≤ k) → w'.heap[k]? = w.heap[k]?
theorem Off.refl (lo hi : Nat) (w : World) : Off lo hi w w := ⟨rfl, rfl, rfl, rfl, fun _ _ => rfl⟩
theorem Off.trans {lo hi : Nat} {a b c : World} (h : Off lo hi a b) (k : Off lo hi b c) : Off lo hi a c :=
  ⟨k.os.trans h.os, k.tape.trans h.tape, k.output.trans h.output, k.size.trans h.size, fun i hi => (k.block i hi).trans (h.block i hi)⟩
theorem Off.drew {lo hi : Nat} {w w' : World} (h : Off lo hi w w') : Off lo hi w w'.drew := ⟨h.os, h.tape, h.output, h.size, h.block⟩
theorem Wrote.off {b o n lo hi : Nat} {w w' : World} (h : Wrote b o n w w') (h0 : lo ≤ b) (h1 : b < hi) : Off lo hi w w' :=
  ⟨h.os, h.tape, h.output, h.size, fun k hk => h.block k (by omega)⟩
theorem Off.below {B lo hi : Nat} {w w' : World} (h : Off lo hi w w') (hB : B ≤ lo) : Below B w w' := ⟨h.os, h.tape, h.output, by rw [h.size]; exact Nat.le_refl _, fun k hk => h.block k (by omega)⟩
theorem Off.same {lo hi lo' hi' : Nat} {w w' : World} (h : Off lo hi w w') (k : hi' ≤ lo ∨ hi ≤ lo') : Same lo' hi' w w' := fun i i0 i1 => h.block i (by omega)

/-- One row rewritten. -/
theorem OwnAt.wrote {lo hi : Nat} {w w' : World} {q : Place} {n : Nat} {L : Nat → Nat} {Z : Nat → Nat → Int} (h : OwnAt lo hi w q n L Z) {i : Nat} (hi' : i < n) (k : Wrote (q.B i) (q.O i) (L i) w w') (f : Nat → Int)
    (hf : ∀ j, j < L i → w'.cell? ⟨q.B i, q.O i + j, none⟩ = some (.int .i64 (f j))) : OwnAt lo hi w' q n L (fun i' j => if i' = i then f j else Z i' j) where
  rng := h.rng
  top i' h' := (k.cellOut (fun ⟨e, j, hj, e2⟩ => h.tops i hi' j hj i' h' ⟨e.symm, by omega⟩)).trans (h.top i' h')
  row := h.row
  rrng := h.rrng
  cell i' h' j hj := by
    by_cases e : i' = i
    · subst e; simp only [if_pos]; exact hf j hj
    · simp only [if_neg e]
      exact (k.cellOut (fun ⟨e1, j', hj', e2⟩ => h.apart i' h' i hi' e j hj j' hj' ⟨e1, e2⟩)).trans (h.cell i' h' j hj)
  free i' h' j hj := (k.frozenAll _ _).trans (h.free i' h' j hj)
  apart := h.apart
  tops := h.tops

theorem OwnAt.mono {lo hi lo' hi' : Nat} {w : World} {q : Place} {n : Nat} {L : Nat → Nat} {Z : Nat → Nat → Int} (h : OwnAt lo hi w q n L Z) (k0 : lo' ≤ lo) (k1 : hi ≤ hi') : OwnAt lo' hi' w q n L Z :=
  { h with rng := fun g => by have := h.rng g; omega, rrng := fun i hi0 hl => by have := h.rrng i hi0 hl; omega }
/-- One number rewritten. -/
theorem OwnAt.set {lo hi : Nat} {w : World} {q : Place} {n : Nat} {L : Nat → Nat} {Z : Nat → Nat → Int} (h : OwnAt lo hi w q n L Z) {i j : Nat} (hi' : i < n) (hj : j < L i) (x : Int) :
    OwnAt lo hi (w.setCell ⟨q.B i, q.O i + j, none⟩ (.int .i64 x)) q n L (fun i' j' => if i' = i ∧ j' = j then x else Z i' j') := by
  refine (h.wrote hi' ((Wrote.refl (q.B i) (q.O i) (L i) w).set hj (.int .i64 x)) (fun j' => if j' = j then x else Z i j') (fun j' hj' => ?_)).congr (fun i' _ j' _ => ?_)
  · by_cases e : j' = j
    · subst e; rw [if_pos rfl]; exact World.cell?_setCell_same w _ _ (h.cell i hi' j' hj)
    · rw [if_neg e]; exact (World.cell?_setCell_other _ _ _ _ (fun e2 => e (by injection e2 with _ e3; omega))).trans (h.cell i hi' j' hj')
  · by_cases e : i' = i
    · subst e; simp
    · simp [e]

/-- A matrix of one's own, told by its rows. -/
def OwnM (lo hi : Nat) (w : World) (a : Option Addr) (m : List (List Int)) : Prop :=
  m = [] ∨ ∃ q : Place, a = some ⟨q.b, q.o, none⟩ ∧ OwnAt lo hi w q m.length (fun i => (rw' m i).length) (at' m)
/-- A list of one's own. -/
def OwnR (lo hi : Nat) (w : World) (a : Option Addr) (zs : List Int) : Prop :=
  zs = [] ∨ ∃ b o : Nat, a = some ⟨b, o, none⟩ ∧ lo ≤ b ∧ b < hi ∧ ∀ j, j < zs.length → w.cell? ⟨b, o + j, none⟩ = some (.int .i64 (zs.getD j 0)) ∧ w.frozen? ⟨b, o + j, none⟩ = false
theorem OwnM.same {lo hi : Nat} {w w' : World} {a : Option Addr} {m : List (List Int)} (h : OwnM lo hi w a m) (k : Same lo hi w w') : OwnM lo hi w' a m := by
  rcases h with h | ⟨q, ha, h⟩
  · exact .inl h
  · exact .inr ⟨q, ha, h.same k⟩
theorem OwnM.below {B lo hi : Nat} {w w' : World} {a : Option Addr} {m : List (List Int)} (h : OwnM lo hi w a m) (k : Below B w w') (hB : hi ≤ B) : OwnM lo hi w' a m := h.same (same_below k hB)
theorem OwnM.mono {lo hi lo' hi' : Nat} {w : World} {a : Option Addr} {m : List (List Int)} (h : OwnM lo hi w a m) (k0 : lo' ≤ lo) (k1 : hi ≤ hi') : OwnM lo' hi' w a m := by
  rcases h with h | ⟨q, ha, h⟩
  · exact .inl h
  · exact .inr ⟨q, ha, h.mono k0 k1⟩
theorem OwnR.same {lo hi : Nat} {w w' : World} {a : Option Addr} {zs : List Int} (h : OwnR lo hi w a zs) (k : Same lo hi w w') : OwnR lo hi w' a zs := by
  rcases h with h | ⟨b, o, ha, h0, h1, hc⟩
  · exact .inl h
  · exact .inr ⟨b, o, ha, h0, h1, fun j hj => ⟨(k.cell (p := ⟨b, o + j, none⟩) h0 h1).trans (hc j hj).1, (k.frozen (p := ⟨b, o + j, none⟩) h0 h1).trans (hc j hj).2⟩⟩
theorem OwnR.below {B lo hi : Nat} {w w' : World} {a : Option Addr} {zs : List Int} (h : OwnR lo hi w a zs) (k : Below B w w') (hB : hi ≤ B) : OwnR lo hi w' a zs := h.same (same_below k hB)
theorem OwnR.row {lo hi : Nat} {w : World} {a : Option Addr} {zs : List Int} (h : OwnR lo hi w a zs) : RowIn lo hi w a zs := by
  rcases h with h | ⟨b, o, ha, h0, h1, hc⟩
  · exact .inl h
  · exact .inr ⟨b, o, ha, h0, h1, fun j hj => (hc j hj).1⟩
theorem OwnM.mat {lo hi : Nat} {w : World} {a : Option Addr} {m : List (List Int)} (h : OwnM lo hi w a m) : MatIn lo hi w a m := by
  rcases h with h | ⟨q, ha, h⟩
  · exact .inl h
  · by_cases h0 : 0 < m.length
    · refine .inr ⟨q.b, q.o, ha, (h.rng h0).1, (h.rng h0).2, fun i hi => ⟨q.R i, q.C i, h.top i hi, ?_⟩⟩
      by_cases hl : (rw' m i).length = 0
      · exact .inl (List.eq_nil_of_length_eq_zero hl)
      · exact .inr ⟨q.B i, q.O i, (h.row i hi).resolve_left hl, (h.rrng i hi (by omega)).1, (h.rrng i hi (by omega)).2, fun j hj => h.cell i hi j hj⟩
    · exact .inl (List.eq_nil_of_length_eq_zero (by omega))

/-! ### Sizes -/
/-- How many numbers the first k rows have. -/
def tot (m : List (List Int)) : Nat → Nat
  | 0 => 0
  | k + 1 => tot m k + (rw' m k).length
theorem tot_mono {m : List (List Int)} {i k : Nat} (h : i ≤ k) : tot m i ≤ tot m k := by
  induction k with
  | zero => have : i = 0 := by omega
            subst this; exact Nat.le_refl _
  | succ k ih =>
    by_cases e : i = k + 1
    · subst e; exact Nat.le_refl _
    · exact Nat.le_trans (ih (by omega)) (Nat.le_add_right _ _)
theorem mat_ext {m m' : List (List Int)} (hl : m.length = m'.length) (h : ∀ i, i < m.length → rw' m i = rw' m' i) : m = m' := by
  apply List.ext_getElem hl
  intro i h1 h2
  have := h i h1
  simpa [rw', h1, h2] using this
theorem row_ext {z z' : List Int} (hl : z.length = z'.length) (h : ∀ i, i < z.length → z.getD i 0 = z'.getD i 0) : z = z' := by
  apply List.ext_getElem hl
  intro i h1 h2
  have := h i h1
  simpa [h1, h2] using this

end Go.Proofs.YtijklpcelbnnjaaGreat

namespace Go.Proofs.YtijklpcelbnnjaaGreat
set_option linter.unusedVariables false

/-- A list made of a function. -/
def mkR (c : Nat) (f : Nat → Int) : List Int := (List.range c).map f
/-- A matrix made of a function. -/
def mk (n c : Nat) (f : Nat → Nat → Int) : List (List Int) := (List.range n).map fun i => mkR c (f i)
theorem mkR_len (c : Nat) (f : Nat → Int) : (mkR c f).length = c := by simp [mkR]
theorem mkR_at {c : Nat} (f : Nat → Int) {j : Nat} (h : j < c) : (mkR c f).getD j 0 = f j := by simp [mkR, List.getD, h]
theorem mk_len (n c : Nat) (f : Nat → Nat → Int) : (mk n c f).length = n := by simp [mk]
theorem mk_row {n c : Nat} (f : Nat → Nat → Int) {i : Nat} (h : i < n) : rw' (mk n c f) i = mkR c (f i) := by simp [mk, rw', List.getD, h]
theorem mk_rowLen {n c : Nat} (f : Nat → Nat → Int) {i : Nat} (h : i < n) : (rw' (mk n c f) i).length = c := by rw [mk_row f h, mkR_len]
theorem mk_at {n c : Nat} (f : Nat → Nat → Int) {i j : Nat} (h : i < n) (k : j < c) : at' (mk n c f) i j = f i j := by rw [at', mk_row f h, mkR_at _ k]
theorem mkR_congr {c : Nat} {f g : Nat → Int} (h : ∀ j, j < c → f j = g j) : mkR c f = mkR c g := by
  unfold mkR; apply List.map_congr_left; intro j hj; exact h j (List.mem_range.1 hj)
theorem mk_congr {n c : Nat} {f g : Nat → Nat → Int} (h : ∀ i, i < n → ∀ j, j < c → f i j = g i j) : mk n c f = mk n c g := by
  unfold mk; apply List.map_congr_left; intro i hi; exact mkR_congr (h i (List.mem_range.1 hi))
theorem mkR_self (z : List Int) : mkR z.length (fun j => z.getD j 0) = z := by
  apply row_ext (by rw [mkR_len])
  intro j hj
  rw [mkR_at _ (by rwa [mkR_len] at hj)]

/-- A sum of the first n. -/
def sm : Nat → (Nat → Int) → Int
  | 0, _ => 0
  | n + 1, f => sm n f + f n
theorem sm_congr {n : Nat} {f g : Nat → Int} (h : ∀ j, j < n → f j = g j) : sm n f = sm n g := by
  induction n with
  | zero => rfl
  | succ n ih => simp only [sm]; rw [ih (fun j hj => h j (by omega)), h n (by omega)]
theorem sm_add (n : Nat) (f g : Nat → Int) : sm n (fun j => f j + g j) = sm n f + sm n g := by
  induction n with
  | zero => rfl
  | succ n ih => simp only [sm]; rw [ih]; omega
theorem sm_mul (n : Nat) (c : Int) (f : Nat → Int) : sm n (fun j => c * f j) = c * sm n f := by
  induction n with
  | zero => simp [sm]
  | succ n ih => simp only [sm]; rw [ih, Int.mul_add]
theorem sm_zero (n : Nat) : sm n (fun _ => 0) = 0 := by
  induction n with
  | zero => rfl
  | succ n ih => simp only [sm]; rw [ih]; rfl
theorem sm_single (n k : Nat) (x : Int) : sm n (fun j => if j = k then x else 0) = if k < n then x else 0 := by
  induction n with
  | zero => rfl
  | succ n ih =>
    simp only [sm]; rw [ih]
    by_cases h : n = k
    · subst h; rw [if_neg (by omega), if_pos rfl, if_pos (by omega)]; omega
    · rw [if_neg h]
      by_cases k' : k < n
      · rw [if_pos k', if_pos (by omega)]; omega
      · rw [if_neg k', if_neg (by omega)]; omega
theorem sm_swap (n m : Nat) (f : Nat → Nat → Int) : sm n (fun i => sm m (fun j => f i j)) = sm m (fun j => sm n (fun i => f i j)) := by
  induction n with
  | zero => simp only [sm]; rw [sm_zero]
  | succ n ih => simp only [sm]; rw [ih, ← sm_add]
theorem sm_mod (n : Nat) (p : Int) (f : Nat → Int) : sm n (fun j => f j % p) % p = sm n f % p := by
  induction n with
  | zero => rfl
  | succ n ih => simp only [sm]; rw [Int.add_emod, ih, Int.emod_emod, ← Int.add_emod]
theorem sm_bd {n : Nat} {f : Nat → Int} {b : Int} (h : ∀ j, j < n → 0 ≤ f j ∧ f j ≤ b) : 0 ≤ sm n f ∧ sm n f ≤ n * b := by
  induction n with
  | zero => simp [sm]
  | succ n ih =>
    have h1 := ih (fun j hj => h j (by omega))
    have h2 := h n (by omega)
    simp only [sm]
    have e : ((n + 1 : Nat) : Int) * b = n * b + b := by rw [Int.natCast_add, Int.add_mul]; simp
    rw [e]; omega

/-! ### Matrices of chapter 2 -/
/-- Whether p is a prime and m a matrix with at least n rows (n is 0 or 1). -/
def isL (n : Nat) (p : Int) (m : List (List Int)) : Bool :=
  prm p && decide (n ≤ m.length ∧ m.length ≤ 16) && m.all fun r => decide (1 ≤ r.length ∧ r.length ≤ 16 ∧ r.length = (rw' m 0).length) && r.all (inr p)
/-- What is known of a list of vectors. -/
structure Lst (n : Nat) (p : Int) (m : List (List Int)) : Prop where
  prime : prm p = true
  lo : n ≤ m.length
  hi : m.length ≤ 16
  len : ∀ i, i < m.length → (rw' m i).length = (rw' m 0).length
  c0 : ∀ i, i < m.length → 1 ≤ (rw' m i).length
  c1 : ∀ i, i < m.length → (rw' m i).length ≤ 16
  all : ∀ i, i < m.length → (rw' m i).all (inr p) = true
theorem mem_row {m : List (List Int)} {i : Nat} (h : i < m.length) : rw' m i ∈ m := by simp [rw', List.getD, h]
theorem isL_iff {n : Nat} {p : Int} {m : List (List Int)} : isL n p m = true ↔ Lst n p m := by
  unfold isL
  simp only [Bool.and_eq_true, decide_eq_true_eq, List.all_eq_true]
  constructor
  · rintro ⟨⟨hp, h0, h1⟩, h2⟩
    have g := fun i (hi : i < m.length) => h2 _ (mem_row hi)
    exact ⟨hp, h0, h1, fun i hi => (g i hi).1.2.2, fun i hi => (g i hi).1.1, fun i hi => (g i hi).1.2.1, fun i hi => by rw [List.all_eq_true]; exact (g i hi).2⟩
  · rintro ⟨hp, h0, h1, h2, h3, h4, h5⟩
    refine ⟨⟨hp, h0, h1⟩, fun r hr => ?_⟩
    obtain ⟨i, hi, rfl⟩ := List.getElem_of_mem hr
    have e : rw' m i = m[i] := by simp [rw', List.getD, hi]
    have := h5 i hi
    rw [List.all_eq_true, e] at this
    rw [← e]
    exact ⟨⟨h3 i hi, h4 i hi, h2 i hi⟩, by rw [e]; exact this⟩
theorem Lst.cols {n : Nat} {p : Int} {m : List (List Int)} (h : Lst n p m) {i : Nat} (hi : i < m.length) : (rw' m i).length = (rw' m 0).length := h.len i hi
theorem Lst.at {n : Nat} {p : Int} {m : List (List Int)} (h : Lst n p m) {i j : Nat} (hi : i < m.length) (hj : j < (rw' m 0).length) : 0 ≤ at' m i j ∧ at' m i j < p := by
  have ha := h.all i hi
  rw [List.all_eq_true] at ha
  have hl : j < (rw' m i).length := by rw [h.len i hi]; exact hj
  exact inr_iff.1 (ha _ (by unfold at'; rw [getD_at hl]; exact List.getElem_mem hl))

def trM (a : List (List Int)) : List (List Int) := mk (rw' a 0).length a.length fun k i => at' a i k
end Go.Proofs.YtijklpcelbnnjaaGreat

namespace Go.Proofs.YtijklpcelbnnjaaGreat
open Go.RowKit Go.ChangeShapes Go.WideShapes
set_option linter.unusedVariables false

theorem info64 : (Tryz.prog.info? 2).map (fun i => (i.zero, i.size, i.bytes)) = some (some (.int .i64 0), 1, 8) := by kernel_rfl

/-- What has been copied so far. -/
structure Half (w : World) (b i : Nat) (zs : List Int) : Prop where
  lt : b < w.heap.size
  done : ∀ j, j < i → w.cell? ⟨b, j, none⟩ = some (.int .i64 (zs.getD j 0))
  rest : ∀ j, i ≤ j → j < zs.length → w.cell? ⟨b, j, none⟩ = some (.int .i64 0)
  free : ∀ j, w.frozen? ⟨b, j, none⟩ = false
theorem Half.start (w : World) (zs : List Int) (t : TypeId) : Half (w.alloc (.cells (madeCells #[.int .i64 0] zs.length) t)) w.heap.size 0 zs :=
  ⟨by simp, fun j hj => by omega, fun j _ hj => by
    have h := World.cell?_alloc_new (w := w) (madeCells #[.int .i64 0] zs.length) t j
    rw [h]
    simp [madeCells, hj, Nat.mod_one], fun j => by simp [go_sem]⟩
theorem Half.next {w : World} {b i : Nat} {zs : List Int} (h : Half w b i zs) (hi : i < zs.length) : Half (w.setCell ⟨b, i, none⟩ (.int .i64 (zs.getD i 0))) b (i + 1) zs :=
  ⟨by simpa [World.setCell] using h.lt, fun j hj => by
    by_cases hji : j = i
    · subst hji
      exact World.cell?_setCell_same w _ _ (h.rest j (Nat.le_refl _) hi)
    · exact (World.cell?_setCell_other _ _ _ _ (by first | (simp; done) | (simp; omega))).trans (h.done j (by omega)),
   fun j hj hl => (World.cell?_setCell_other _ _ _ _ (by first | (simp; done) | (simp; omega))).trans (h.rest j (by omega) hl), fun j => by simp [go_sem, h.free]⟩

end Go.Proofs.YtijklpcelbnnjaaGreat

namespace Go.Proofs.YtijklpcelbnnjaaGreat
open Go.RowKit Go.ChangeShapes Go.WideShapes
set_option linter.unusedVariables false

theorem info_slice : (Tryz.prog.info? 24).map (fun i => (i.zero, i.size, i.bytes)) = some (some (.slice none 0 0), 1, 24) := by kernel_rfl

/-- What has been copied so far. -/
structure HalfM (w : World) (b i : Nat) (m : List (List Int)) (B : Nat → Nat) : Prop where
  lt : b < w.heap.size
  done : ∀ j, j < i → w.cell? ⟨b, j, none⟩ = some (.slice (some ⟨B j, 0, none⟩) (rw' m j).length (rw' m j).length)
  rest : ∀ j, i ≤ j → j < m.length → w.cell? ⟨b, j, none⟩ = some (.slice none 0 0)
  free : ∀ j, w.frozen? ⟨b, j, none⟩ = false
  rng : ∀ j, j < i → b < B j ∧ B j < w.heap.size
  cell : ∀ j, j < i → ∀ x, x < (rw' m j).length → w.cell? ⟨B j, x, none⟩ = some (.int .i64 (at' m j x)) ∧ w.frozen? ⟨B j, x, none⟩ = false
  apart : ∀ j, j < i → ∀ j', j' < i → j ≠ j' → B j ≠ B j'
theorem HalfM.start (w : World) (m : List (List Int)) (t : TypeId) (B : Nat → Nat) : HalfM (w.alloc (.cells (madeCells #[.slice none 0 0] m.length) t)) w.heap.size 0 m B where
  lt := by simp
  done j hj := by omega
  rest j _ hj := by
    have h := World.cell?_alloc_new (w := w) (madeCells #[.slice none 0 0] m.length) t j
    rw [h]
    simp [madeCells, hj, Nat.mod_one]
  free j := by simp [go_sem]
  rng j hj := by omega
  cell j hj := by omega
  apart j hj := by omega
theorem HalfM.next {w w1 : World} {b i : Nat} {m : List (List Int)} {B : Nat → Nat} (h : HalfM w b i m B) (hi : i < m.length) (hb : Below w.heap.size w w1) (hs : w.heap.size < w1.heap.size)
    (hr : OwnR w.heap.size w1.heap.size w1 (some ⟨w.heap.size, 0, none⟩) (rw' m i)) :
    HalfM (w1.setCell ⟨b, i, none⟩ (.slice (some ⟨w.heap.size, 0, none⟩) (rw' m i).length (rw' m i).length)) b (i + 1) m (fun j => if j = i then w.heap.size else B j) := by
  have hlt := h.lt
  have oth : ∀ c j, c ≠ b → (w1.setCell ⟨b, i, none⟩ (.slice (some ⟨w.heap.size, 0, none⟩) (rw' m i).length (rw' m i).length)).cell? ⟨c, j, none⟩ = w1.cell? ⟨c, j, none⟩ := fun c j hne =>
    World.cell?_setCell_other _ _ _ _ (fun e => hne (by injection e with e1; exact e1.symm))
  refine ⟨by simp [World.setCell]; omega, fun j hj => ?_, fun j hj hl => ?_, fun j => ?_, fun j hj => ?_, fun j hj x hx => ?_, fun j hj j' hj' hne => ?_⟩
  · by_cases e : j = i
    · subst e
      simp only [if_pos]
      exact World.cell?_setCell_same w1 _ _ ((hb.cell (p := ⟨b, j, none⟩) hlt).trans (h.rest j (Nat.le_refl _) hi))
    · simp only [if_neg e]
      exact (World.cell?_setCell_other _ _ _ _ (by first | (simp; done) | (simp; omega))).trans ((hb.cell (p := ⟨b, j, none⟩) hlt).trans (h.done j (by omega)))
  · exact (World.cell?_setCell_other _ _ _ _ (by first | (simp; done) | (simp; omega))).trans ((hb.cell (p := ⟨b, j, none⟩) hlt).trans (h.rest j (by omega) hl))
  · have := (hb.frozen (p := ⟨b, j, none⟩) hlt).trans (h.free j)
    simp [go_sem, this]
  · have hz : (w1.setCell ⟨b, i, none⟩ (.slice (some ⟨w.heap.size, 0, none⟩) (rw' m i).length (rw' m i).length)).heap.size = w1.heap.size := by simp [World.setCell]
    rw [hz]
    by_cases e : j = i
    · subst e; simp only [if_pos]; exact ⟨hlt, hs⟩
    · simp only [if_neg e]; have := h.rng j (by omega); omega
  · by_cases e : j = i
    · subst e
      simp only [if_pos]
      rcases hr with h0 | ⟨b1, o1, e1, _, _, hc⟩
      · rw [h0] at hx; simp at hx
      · cases e1
        have h2 := hc x hx
        simp only [Nat.zero_add] at h2
        exact ⟨(oth _ _ (by omega)).trans h2.1, by simp [go_sem, h2.2]⟩
    · simp only [if_neg e]
      have hg := h.rng j (by omega)
      have h2 := h.cell j (by omega) x hx
      have f2 := (hb.frozen (p := ⟨B j, x, none⟩) hg.2).trans h2.2
      exact ⟨(oth _ _ (by omega)).trans ((hb.cell (p := ⟨B j, x, none⟩) hg.2).trans h2.1), by simp [go_sem, f2]⟩
  · have e1 : ∀ j, j < i → B j ≠ w.heap.size := fun j hj => by have := (h.rng j hj).2; omega
    by_cases e : j = i
    · subst e
      simp only [if_pos, if_neg (fun e => hne e.symm : ¬ j' = j)]
      exact (e1 j' (by omega)).symm
    · by_cases e' : j' = i
      · subst e'
        simp only [if_pos, if_neg e]
        exact e1 j (by omega)
      · simp only [if_neg e, if_neg e']
        exact h.apart j (by omega) j' (by omega) hne
theorem HalfM.own {w : World} {b : Nat} {m : List (List Int)} {B : Nat → Nat} (h : HalfM w b m.length m B) : OwnM b w.heap.size w (some ⟨b, 0, none⟩) m :=
  .inr ⟨⟨b, 0, fun j => some ⟨B j, 0, none⟩, B, fun _ => 0, fun j => (rw' m j).length⟩, rfl, {
    rng := fun _ => ⟨Nat.le_refl _, h.lt⟩
    top := fun i hi => by show w.cell? ⟨b, 0 + i, none⟩ = _; rw [Nat.zero_add]; exact h.done i hi
    row := fun i hi => .inr rfl
    rrng := fun i hi _ => ⟨by have := (h.rng i hi).1; show b ≤ B i; omega, (h.rng i hi).2⟩
    cell := fun i hi j hj => by show w.cell? ⟨B i, 0 + j, none⟩ = _; rw [Nat.zero_add]; exact (h.cell i hi j hj).1
    free := fun i hi j hj => by show w.frozen? ⟨B i, 0 + j, none⟩ = _; rw [Nat.zero_add]; exact (h.cell i hi j hj).2
    apart := fun i hi i' hi' hne j hj j' hj' e => h.apart i hi i' hi' hne e.1
    tops := fun i hi j hj i' hi' e => by have := (h.rng i hi).1; have e1 : B i = b := e.1; omega }⟩

end Go.Proofs.YtijklpcelbnnjaaGreat
