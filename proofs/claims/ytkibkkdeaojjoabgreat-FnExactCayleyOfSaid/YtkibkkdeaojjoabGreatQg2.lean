/-
  Lists and matrices of numbers in memory: where they lie, what keeps them, what a store does.
  No conditions.
-/
import Derived.Test.YtkibkkdeaojjoabGreatQg1
import Derived.Deep.QuietTactic
namespace Go.Proofs.YtkibkkdeaojjoabGreat
open Go.RowKit
set_option linter.unusedVariables false

theorem ret_int {k : IntKind} {a b : Int} (h : a = b) : Ending.returned (.int k a) = .returned (.int k b) := by rw [h]

/-- A list of numbers in blocks from lo up to hi (an empty one anywhere). -/
def RowIn (lo hi : Nat) (w : World) (a : Option Addr) (zs : List Int) : Prop :=
  zs = [] ∨ ∃ b o : Nat, a = some ⟨b, o, none⟩ ∧ lo ≤ b ∧ b < hi ∧ ∀ j, j < zs.length → w.cell? ⟨b, o + j, none⟩ = some (.int .i64 (zs.getD j 0))

/-- Row i of a matrix. -/
def rw' (m : List (List Int)) (i : Nat) : List Int := m.getD i []
/-- The number at row i, column j. -/
def at' (m : List (List Int)) (i j : Nat) : Int := (rw' m i).getD j 0

/-- A list of lists of numbers in blocks from lo up to hi. -/
def MatIn (lo hi : Nat) (w : World) (a : Option Addr) (m : List (List Int)) : Prop :=
  m = [] ∨ ∃ b o : Nat, a = some ⟨b, o, none⟩ ∧ lo ≤ b ∧ b < hi ∧ ∀ i, i < m.length → ∃ r c, w.cell? ⟨b, o + i, none⟩ = some (.slice r (rw' m i).length c) ∧ RowIn lo hi w r (rw' m i)

/-- Blocks from lo up to hi are as they were. -/
def Same (lo hi : Nat) (w w' : World) : Prop := ∀ k, lo ≤ k → k < hi → w'.heap[k]? = w.heap[k]?
theorem Same.cell {lo hi : Nat} {w w' : World} (h : Same lo hi w w') {p : Addr} (k0 : lo ≤ p.block) (k1 : p.block < hi) : w'.cell? p = w.cell? p := World.cell?_of_block (w := w) (h p.block k0 k1)
theorem Same.frozen {lo hi : Nat} {w w' : World} (h : Same lo hi w w') {p : Addr} (k0 : lo ≤ p.block) (k1 : p.block < hi) : w'.frozen? p = w.frozen? p := World.frozen?_of_block (w := w) (h p.block k0 k1)
theorem Same.refl (lo hi : Nat) (w : World) : Same lo hi w w := fun _ _ _ => rfl
theorem Same.trans {lo hi : Nat} {a b c : World} (h : Same lo hi a b) (k : Same lo hi b c) : Same lo hi a c := fun i i0 i1 => (k i i0 i1).trans (h i i0 i1)
theorem same_below {B lo hi : Nat} {w w' : World} (h : Below B w w') (k : hi ≤ B) : Same lo hi w w' := fun i _ i1 => h.block i (by omega)

theorem RowIn.same {lo hi : Nat} {w w' : World} {a : Option Addr} {zs : List Int} (h : RowIn lo hi w a zs) (k : Same lo hi w w') : RowIn lo hi w' a zs := by
  rcases h with h | ⟨b, o, ha, h0, h1, hc⟩
  · exact .inl h
  · exact .inr ⟨b, o, ha, h0, h1, fun j hj => (k.cell (p := ⟨b, o + j, none⟩) h0 h1).trans (hc j hj)⟩
theorem RowIn.below {B lo hi : Nat} {w w' : World} {a : Option Addr} {zs : List Int} (h : RowIn lo hi w a zs) (k : Below B w w') (hB : hi ≤ B) : RowIn lo hi w' a zs := h.same (same_below k hB)
theorem RowIn.mono {lo hi lo' hi' : Nat} {w : World} {a : Option Addr} {zs : List Int} (h : RowIn lo hi w a zs) (h0 : lo' ≤ lo) (h1 : hi ≤ hi') : RowIn lo' hi' w a zs := by
  rcases h with h | ⟨b, o, ha, k0, k1, hc⟩
  · exact .inl h
  · exact .inr ⟨b, o, ha, by omega, by omega, hc⟩
theorem MatIn.same {lo hi : Nat} {w w' : World} {a : Option Addr} {m : List (List Int)} (h : MatIn lo hi w a m) (k : Same lo hi w w') : MatIn lo hi w' a m := by
  rcases h with h | ⟨b, o, ha, h0, h1, hc⟩
  · exact .inl h
  · refine .inr ⟨b, o, ha, h0, h1, fun i hi => ?_⟩
    obtain ⟨r, c, hr, hrow⟩ := hc i hi
    exact ⟨r, c, (k.cell (p := ⟨b, o + i, none⟩) h0 h1).trans hr, hrow.same k⟩
theorem MatIn.below {B lo hi : Nat} {w w' : World} {a : Option Addr} {m : List (List Int)} (h : MatIn lo hi w a m) (k : Below B w w') (hB : hi ≤ B) : MatIn lo hi w' a m := h.same (same_below k hB)
theorem MatIn.mono {lo hi lo' hi' : Nat} {w : World} {a : Option Addr} {m : List (List Int)} (h : MatIn lo hi w a m) (h0 : lo' ≤ lo) (h1 : hi ≤ hi') : MatIn lo' hi' w a m := by
  rcases h with h | ⟨b, o, ha, k0, k1, hc⟩
  · exact .inl h
  · refine .inr ⟨b, o, ha, by omega, by omega, fun i hi => ?_⟩
    obtain ⟨r, c, hr, hrow⟩ := hc i hi
    exact ⟨r, c, hr, hrow.mono h0 h1⟩
/-- One row is got. -/
theorem MatIn.row {lo hi : Nat} {w : World} {a : Option Addr} {m : List (List Int)} (h : MatIn lo hi w a m) {i : Nat} (hi' : i < m.length) :
    ∃ b o r c, a = some ⟨b, o, none⟩ ∧ lo ≤ b ∧ b < hi ∧ w.cell? ⟨b, o + i, none⟩ = some (.slice r (rw' m i).length c) ∧ RowIn lo hi w r (rw' m i) := by
  rcases h with h | ⟨b, o, ha, h0, h1, hc⟩
  · rw [h] at hi'; simp at hi'
  · obtain ⟨r, c, hr, hrow⟩ := hc i hi'
    exact ⟨b, o, r, c, ha, h0, h1, hr, hrow⟩
/-- One number is got. -/
theorem RowIn.num {lo hi : Nat} {w : World} {a : Option Addr} {zs : List Int} (h : RowIn lo hi w a zs) {j : Nat} (hj : j < zs.length) :
    ∃ b o, a = some ⟨b, o, none⟩ ∧ lo ≤ b ∧ b < hi ∧ w.cell? ⟨b, o + j, none⟩ = some (.int .i64 (zs.getD j 0)) := by
  rcases h with h | ⟨b, o, ha, h0, h1, hc⟩
  · rw [h] at hj; simp at hj
  · exact ⟨b, o, ha, h0, h1, hc j hj⟩

/-- Nothing but draws. -/
def Quiet (w w' : World) : Prop := ∃ n, w' = w.drewN n
theorem Quiet.refl (w : World) : Quiet w w := ⟨0, rfl⟩
theorem Quiet.next {w w' : World} (h : Quiet w w') (n : Nat) : Quiet w (w'.drewN n) := by
  obtain ⟨k, rfl⟩ := h
  exact ⟨k + n, by rw [World.drewN_drewN]⟩
theorem Quiet.trans {a b c : World} (h : Quiet a b) (k : Quiet b c) : Quiet a c := by
  obtain ⟨n, rfl⟩ := k
  exact h.next n
theorem Quiet.below {w w' : World} (h : Quiet w w') (B : Nat) : Below B w w' := by
  obtain ⟨k, rfl⟩ := h
  exact ⟨rfl, rfl, rfl, Nat.le_refl _, fun _ _ => rfl⟩
theorem Quiet.same {w w' : World} (h : Quiet w w') (lo hi : Nat) : Same lo hi w w' := by
  obtain ⟨k, rfl⟩ := h
  exact fun _ _ _ => rfl
theorem Quiet.cell {w w' : World} (h : Quiet w w') (p : Addr) : w'.cell? p = w.cell? p := by
  obtain ⟨k, rfl⟩ := h
  rfl
theorem Quiet.size {w w' : World} (h : Quiet w w') : w'.heap.size = w.heap.size := by
  obtain ⟨k, rfl⟩ := h
  rfl

/-! ### Matrices of one's own: where each row lies -/
structure Place where
  b : Nat
  o : Nat
  R : Nat → Option Addr
  B : Nat → Nat
  O : Nat → Nat
  C : Nat → Nat

/-- n rows of lengths L, the numbers Z, all in blocks from lo up to hi, no cell twice, none frozen. -/
structure OwnAt (lo hi : Nat) (w : World) (q : Place) (n : Nat) (L : Nat → Nat) (Z : Nat → Nat → Int) : Prop where
  rng : 0 < n → lo ≤ q.b ∧ q.b < hi
  top : ∀ i, i < n → w.cell? ⟨q.b, q.o + i, none⟩ = some (.slice (q.R i) (L i) (q.C i))
  row : ∀ i, i < n → L i = 0 ∨ q.R i = some ⟨q.B i, q.O i, none⟩
  rrng : ∀ i, i < n → 0 < L i → lo ≤ q.B i ∧ q.B i < hi
  cell : ∀ i, i < n → ∀ j, j < L i → w.cell? ⟨q.B i, q.O i + j, none⟩ = some (.int .i64 (Z i j))
  free : ∀ i, i < n → ∀ j, j < L i → w.frozen? ⟨q.B i, q.O i + j, none⟩ = false
  apart : ∀ i, i < n → ∀ i', i' < n → i ≠ i' → ∀ j, j < L i → ∀ j', j' < L i' → ¬ (q.B i = q.B i' ∧ q.O i + j = q.O i' + j')
  tops : ∀ i, i < n → ∀ j, j < L i → ∀ i', i' < n → ¬ (q.B i = q.b ∧ q.O i + j = q.o + i')

theorem OwnAt.same {lo hi : Nat} {w w' : World} {q : Place} {n : Nat} {L : Nat → Nat} {Z : Nat → Nat → Int} (h : OwnAt lo hi w q n L Z) (k : Same lo hi w w') : OwnAt lo hi w' q n L Z where
  rng := h.rng
  top i hi := (k.cell (p := ⟨q.b, q.o + i, none⟩) (h.rng (by omega)).1 (h.rng (by omega)).2).trans (h.top i hi)
  row := h.row
  rrng := h.rrng
  cell i hi j hj := (k.cell (p := ⟨q.B i, q.O i + j, none⟩) (h.rrng i hi (by omega)).1 (h.rrng i hi (by omega)).2).trans (h.cell i hi j hj)
  free i hi j hj := (k.frozen (p := ⟨q.B i, q.O i + j, none⟩) (h.rrng i hi (by omega)).1 (h.rrng i hi (by omega)).2).trans (h.free i hi j hj)
  apart := h.apart
  tops := h.tops
theorem OwnAt.congr {lo hi : Nat} {w : World} {q : Place} {n : Nat} {L : Nat → Nat} {Z Z' : Nat → Nat → Int} (h : OwnAt lo hi w q n L Z) (e : ∀ i, i < n → ∀ j, j < L i → Z i j = Z' i j) : OwnAt lo hi w q n L Z' :=
  { h with cell := fun i hi j hj => by rw [← e i hi j hj]; exact h.cell i hi j hj }

/-- A call wrote into a stretch of one block, and nowhere else. -/
structure Wrote (b o n : Nat) (w w' : World) : Prop where
  os : w'.os = w.os
  tape : w'.tape = w.tape
  output : w'.output = w.output
  size : w'.heap.size = w.heap.size
  block : ∀ k, k ≠ b → w'.heap[k]? = w.heap[k]?
  cell : ∀ j, (∀ i, i < n → j ≠ o + i) → w'.cell? ⟨b, j, none⟩ = w.cell? ⟨b, j, none⟩
  frozen : ∀ j, w'.frozen? ⟨b, j, none⟩ = w.frozen? ⟨b, j, none⟩
theorem Wrote.refl (b o n : Nat) (w : World) : Wrote b o n w w := ⟨rfl, rfl, rfl, rfl, fun _ _ => rfl, fun _ _ => rfl, fun _ => rfl⟩
theorem Wrote.mono {b o n n' : Nat} {w w' : World} (h : Wrote b o n w w') (k : n ≤ n') : Wrote b o n' w w' := ⟨h.os, h.tape, h.output, h.size, h.block, fun j hj => h.cell j (fun i hi => hj i (by omega)), h.frozen⟩
theorem Wrote.drew {b o n : Nat} {w w' : World} (h : Wrote b o n w w') : Wrote b o n w w'.drew := ⟨h.os, h.tape, h.output, h.size, h.block, h.cell, h.frozen⟩
theorem Wrote.cellOut {b o n : Nat} {w w' : World} (h : Wrote b o n w w') {c j : Nat} (hne : ¬ (c = b ∧ ∃ i, i < n ∧ j = o + i)) : w'.cell? ⟨c, j, none⟩ = w.cell? ⟨c, j, none⟩ := by
  by_cases hc : c = b
  · subst hc
    exact h.cell j (fun i hi e => hne ⟨rfl, i, hi, e⟩)
  · exact World.cell?_of_block (w := w) (a := ⟨c, j, none⟩) (h.block c hc)
theorem Wrote.frozenAll {b o n : Nat} {w w' : World} (h : Wrote b o n w w') (c j : Nat) : w'.frozen? ⟨c, j, none⟩ = w.frozen? ⟨c, j, none⟩ := by
  by_cases hc : c = b
  · subst hc; exact h.frozen j
  · exact World.frozen?_of_block (w := w) (a := ⟨c, j, none⟩) (h.block c hc)
theorem Wrote.set {b o n : Nat} {w w' : World} (h : Wrote b o n w w') {i : Nat} (hi : i < n) (v : Value) : Wrote b o n w (w'.setCell ⟨b, o + i, none⟩ v) where
  os := h.os
  tape := h.tape
  output := h.output
  size := by simpa [World.setCell] using h.size
  block k hk := (Below.heap_setCell _ _ _ _ hk).trans (h.block k hk)
  cell j hj := (World.cell?_setCell_other _ _ _ _ (fun e => hj i hi (by injection e with _ e2; exact e2.symm))).trans (h.cell j hj)
  frozen j := by simp [go_sem, h.frozen]

/-- Blocks outside lo up to hi are as they were. -/
structure Off (lo hi : Nat) (w w' : World) : Prop where
  os : w'.os = w.os
  tape : w'.tape = w.tape
  output : w'.output = w.output
  size : w'.heap.size = w.heap.size
  block : ∀ k, (k < lo ∨ hi ≤ k) → w'.heap[k]? = w.heap[k]?
theorem Off.refl (lo hi : Nat) (w : World) : Off lo hi w w := ⟨rfl, rfl, rfl, rfl, fun _ _ => rfl⟩
theorem Off.trans {lo hi : Nat} {a b c : World} (h : Off lo hi a b) (k : Off lo hi b c) : Off lo hi a c :=
  ⟨k.os.trans h.os, k.tape.trans h.tape, k.output.trans h.output, k.size.trans h.size, fun i hi => (k.block i hi).trans (h.block i hi)⟩
theorem Off.drew {lo hi : Nat} {w w' : World} (h : Off lo hi w w') : Off lo hi w w'.drew := ⟨h.os, h.tape, h.output, h.size, h.block⟩
theorem Wrote.off {b o n lo hi : Nat} {w w' : World} (h : Wrote b o n w w') (h0 : lo ≤ b) (h1 : b < hi) : Off lo hi w w' :=
  ⟨h.os, h.tape, h.output, h.size, fun k hk => h.block k (by omega)⟩
theorem Off.below {B lo hi : Nat} {w w' : World} (h : Off lo hi w w') (hB : B ≤ lo) : Below B w w' := ⟨h.os, h.tape, h.output, by rw [h.size]; exact Nat.le_refl _, fun k hk => h.block k (by omega)⟩
theorem Off.same {lo hi lo' hi' : Nat} {w w' : World} (h : Off lo hi w w') (k : hi' ≤ lo ∨ hi ≤ lo') : Same lo' hi' w w' := fun i i0 i1 => h.block i (by omega)

/-- One row rewritten. -/
theorem OwnAt.wrote {lo hi : Nat} {w w' : World} {q : Place} {n : Nat} {L : Nat → Nat} {Z : Nat → Nat → Int} (h : OwnAt lo hi w q n L Z) {i : Nat} (hi' : i < n) (k : Wrote (q.B i) (q.O i) (L i) w w') (f : Nat → Int)
    (hf : ∀ j, j < L i → w'.cell? ⟨q.B i, q.O i + j, none⟩ = some (.int .i64 (f j))) : OwnAt lo hi w' q n L (fun i' j => if i' = i then f j else Z i' j) where
  rng := h.rng
  top i' h' := (k.cellOut (fun ⟨e, j, hj, e2⟩ => h.tops i hi' j hj i' h' ⟨e.symm, by omega⟩)).trans (h.top i' h')
  row := h.row
  rrng := h.rrng
  cell i' h' j hj := by
    by_cases e : i' = i
    · subst e; simp only [if_pos]; exact hf j hj
    · simp only [if_neg e]
      exact (k.cellOut (fun ⟨e1, j', hj', e2⟩ => h.apart i' h' i hi' e j hj j' hj' ⟨e1, e2⟩)).trans (h.cell i' h' j hj)
  free i' h' j hj := (k.frozenAll _ _).trans (h.free i' h' j hj)
  apart := h.apart
  tops := h.tops

theorem OwnAt.mono {lo hi lo' hi' : Nat} {w : World} {q : Place} {n : Nat} {L : Nat → Nat} {Z : Nat → Nat → Int} (h : OwnAt lo hi w q n L Z) (k0 : lo' ≤ lo) (k1 : hi ≤ hi') : OwnAt lo' hi' w q n L Z :=
  { h with rng := fun g => by have := h.rng g; omega, rrng := fun i hi0 hl => by have := h.rrng i hi0 hl; omega }
/-- One number rewritten. -/
theorem OwnAt.set {lo hi : Nat} {w : World} {q : Place} {n : Nat} {L : Nat → Nat} {Z : Nat → Nat → Int} (h : OwnAt lo hi w q n L Z) {i j : Nat} (hi' : i < n) (hj : j < L i) (x : Int) :
    OwnAt lo hi (w.setCell ⟨q.B i, q.O i + j, none⟩ (.int .i64 x)) q n L (fun i' j' => if i' = i ∧ j' = j then x else Z i' j') := by
  refine (h.wrote hi' ((Wrote.refl (q.B i) (q.O i) (L i) w).set hj (.int .i64 x)) (fun j' => if j' = j then x else Z i j') (fun j' hj' => ?_)).congr (fun i' _ j' _ => ?_)
  · by_cases e : j' = j
    · subst e; rw [if_pos rfl]; exact World.cell?_setCell_same w _ _ (h.cell i hi' j' hj)
    · rw [if_neg e]; exact (World.cell?_setCell_other _ _ _ _ (fun e2 => e (by injection e2 with _ e3; omega))).trans (h.cell i hi' j' hj')
  · by_cases e : i' = i
    · subst e; simp
    · simp [e]

/-- A matrix of one's own, told by its rows. -/
def OwnM (lo hi : Nat) (w : World) (a : Option Addr) (m : List (List Int)) : Prop :=
  m = [] ∨ ∃ q : Place, a = some ⟨q.b, q.o, none⟩ ∧ OwnAt lo hi w q m.length (fun i => (rw' m i).length) (at' m)
/-- A list of one's own. -/
def OwnR (lo hi : Nat) (w : World) (a : Option Addr) (zs : List Int) : Prop :=
  zs = [] ∨ ∃ b o : Nat, a = some ⟨b, o, none⟩ ∧ lo ≤ b ∧ b < hi ∧ ∀ j, j < zs.length → w.cell? ⟨b, o + j, none⟩ = some (.int .i64 (zs.getD j 0)) ∧ w.frozen? ⟨b, o + j, none⟩ = false
theorem OwnM.same {lo hi : Nat} {w w' : World} {a : Option Addr} {m : List (List Int)} (h : OwnM lo hi w a m) (k : Same lo hi w w') : OwnM lo hi w' a m := by
  rcases h with h | ⟨q, ha, h⟩
  · exact .inl h
  · exact .inr ⟨q, ha, h.same k⟩
theorem OwnM.below {B lo hi : Nat} {w w' : World} {a : Option Addr} {m : List (List Int)} (h : OwnM lo hi w a m) (k : Below B w w') (hB : hi ≤ B) : OwnM lo hi w' a m := h.same (same_below k hB)
theorem OwnM.mono {lo hi lo' hi' : Nat} {w : World} {a : Option Addr} {m : List (List Int)} (h : OwnM lo hi w a m) (k0 : lo' ≤ lo) (k1 : hi ≤ hi') : OwnM lo' hi' w a m := by
  rcases h with h | ⟨q, ha, h⟩
  · exact .inl h
  · exact .inr ⟨q, ha, h.mono k0 k1⟩
theorem OwnR.same {lo hi : Nat} {w w' : World} {a : Option Addr} {zs : List Int} (h : OwnR lo hi w a zs) (k : Same lo hi w w') : OwnR lo hi w' a zs := by
  rcases h with h | ⟨b, o, ha, h0, h1, hc⟩
  · exact .inl h
  · exact .inr ⟨b, o, ha, h0, h1, fun j hj => ⟨(k.cell (p := ⟨b, o + j, none⟩) h0 h1).trans (hc j hj).1, (k.frozen (p := ⟨b, o + j, none⟩) h0 h1).trans (hc j hj).2⟩⟩
theorem OwnR.below {B lo hi : Nat} {w w' : World} {a : Option Addr} {zs : List Int} (h : OwnR lo hi w a zs) (k : Below B w w') (hB : hi ≤ B) : OwnR lo hi w' a zs := h.same (same_below k hB)
theorem OwnR.row {lo hi : Nat} {w : World} {a : Option Addr} {zs : List Int} (h : OwnR lo hi w a zs) : RowIn lo hi w a zs := by
  rcases h with h | ⟨b, o, ha, h0, h1, hc⟩
  · exact .inl h
  · exact .inr ⟨b, o, ha, h0, h1, fun j hj => (hc j hj).1⟩
theorem OwnM.mat {lo hi : Nat} {w : World} {a : Option Addr} {m : List (List Int)} (h : OwnM lo hi w a m) : MatIn lo hi w a m := by
  rcases h with h | ⟨q, ha, h⟩
  · exact .inl h
  · by_cases h0 : 0 < m.length
    · refine .inr ⟨q.b, q.o, ha, (h.rng h0).1, (h.rng h0).2, fun i hi => ⟨q.R i, q.C i, h.top i hi, ?_⟩⟩
      by_cases hl : (rw' m i).length = 0
      · exact .inl (List.eq_nil_of_length_eq_zero hl)
      · exact .inr ⟨q.B i, q.O i, (h.row i hi).resolve_left hl, (h.rrng i hi (by omega)).1, (h.rrng i hi (by omega)).2, fun j hj => h.cell i hi j hj⟩
    · exact .inl (List.eq_nil_of_length_eq_zero (by omega))

/-! ### Sizes -/
/-- How many numbers the first k rows have. -/
def tot (m : List (List Int)) : Nat → Nat
  | 0 => 0
  | k + 1 => tot m k + (rw' m k).length
theorem tot_mono {m : List (List Int)} {i k : Nat} (h : i ≤ k) : tot m i ≤ tot m k := by
  induction k with
  | zero => have : i = 0 := by omega
            subst this; exact Nat.le_refl _
  | succ k ih =>
    by_cases e : i = k + 1
    · subst e; exact Nat.le_refl _
    · exact Nat.le_trans (ih (by omega)) (Nat.le_add_right _ _)
theorem tot_row {m : List (List Int)} {i : Nat} (h : i < m.length) : (rw' m i).length ≤ tot m m.length := by
  have h1 : tot m i + (rw' m i).length ≤ tot m m.length := tot_mono (m := m) (i := i + 1) (by omega)
  omega
theorem mat_ext {m m' : List (List Int)} (hl : m.length = m'.length) (h : ∀ i, i < m.length → rw' m i = rw' m' i) : m = m' := by
  apply List.ext_getElem hl
  intro i h1 h2
  have := h i h1
  simpa [rw', h1, h2] using this
theorem row_ext {z z' : List Int} (hl : z.length = z'.length) (h : ∀ i, i < z.length → z.getD i 0 = z'.getD i 0) : z = z' := by
  apply List.ext_getElem hl
  intro i h1 h2
  have := h i h1
  simpa [h1, h2] using this

end Go.Proofs.YtkibkkdeaojjoabGreat
