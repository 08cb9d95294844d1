/-
  Plain facts on the five primes and their remainders: powers, inverses, square roots, orders. No Go in sight.
  No conditions.
  What a call leaves as it was, step by step.
  No conditions.
  What the program's and the model's checks of a prime and of numbers return: contracts of the functions that the laws of chapter 1 call first.
  Conditions: the lists that are checked are rows of cells that are known.
  Lists and matrices of numbers in memory: where they lie, what keeps them, what a store does.
  No conditions.
  Matrices as lists of lists: made of a function, their rows and numbers, sums of products, and what chapter 2 makes of them. No Go in sight.
  No conditions.
  What the laws' sizes, copies, comparisons and marks of lists of numbers do, and the checks of their numbers, wherever they lie.
  Conditions: the lists are nil or rows of known cells, of at most 1048576 numbers.
  What the laws' sizes, copies, comparisons and marks of matrices do.
  Conditions: the matrices are nil or rows of known cells; copied, compared and marked: of at most 1048576 numbers.
  What the program's and the model's checks of lists of numbers return.
  Conditions: they are nil or rows of known cells.
  What a law knows of the lists and matrices that it is handed.
  No conditions: what can be read as data.
  The words in which the exact laws of matrices are walked: what a function of the program or of the model hands back, and the laws' marks of lists.
  No conditions.
  Spaces: what the laws' sizes, copies, comparisons and marks of a space do.
  Conditions: the list of squares is nil or a row of known cells, of at most 1048576 numbers.
  Spaces: what they are, and their checks in the program and in the model.
  Conditions: the list of squares is nil or a row of known cells, of at most 1048576 numbers.
  Products of vectors of a space, in the program and in the model; checks of lists of vectors.
  Conditions: the lists are nil or rows of known cells, of at most 1048576 numbers.
-/
import Derived.Below
import Derived.Test.YtcamegdjdjacpaaRows
import Derived.WalkKit
import Derived.LoopTactic
import Derived.Lib.Hide
import Derived.Deep.QuietTactic
import Derived.BigQuiet
import Derived.Deep.Draws
import Derived.Laws.MakeOwn
import Derived.OpenShut
import Derived.Deep.OwnRows
import Derived.Deep.RegionHeld3
import Derived.RegionTactic
import Derived.Deep.RegionWith
import Derived.StillTailTactics
import Derived.Deep.Matrix
namespace Go.Proofs.Ytcamegdjdjacpaa

/-! ### Primes, numbers, codes -/
def prm (p : Int) : Bool := p == 3 || p == 5 || p == 7 || p == 11 || p == 13
def inr (p a : Int) : Bool := decide (0 ≤ a ∧ a < p)
def codeOf (p : Int) (zs : List Int) : Int := if prm p then (if zs.all (inr p) then 0 else 2) else 1

theorem prm_or {p : Int} (h : prm p = true) : p = 3 ∨ p = 5 ∨ p = 7 ∨ p = 11 ∨ p = 13 := by
  simp [prm] at h; omega
theorem prm_not {p : Int} (h : prm p = false) : p ≠ 3 ∧ p ≠ 5 ∧ p ≠ 7 ∧ p ≠ 11 ∧ p ≠ 13 := by
  simp [prm] at h; omega
theorem prm_bd {p : Int} (h : prm p = true) : 3 ≤ p ∧ p ≤ 13 := by
  have := prm_or h; omega
theorem inr_iff {p a : Int} : inr p a = true ↔ 0 ≤ a ∧ a < p := by simp [inr]
theorem inr_not {p a : Int} : inr p a = false ↔ ¬ (0 ≤ a ∧ a < p) := by simp [inr]

theorem code_np {p : Int} {zs : List Int} (h : prm p = false) : codeOf p zs = 1 := by simp [codeOf, h]
theorem code_ok {p : Int} {zs : List Int} (h : prm p = true) (ha : zs.all (inr p) = true) : codeOf p zs = 0 := by simp [codeOf, h, ha]
theorem code_bad {p : Int} {zs : List Int} (h : prm p = true) (ha : zs.all (inr p) = false) : codeOf p zs = 2 := by simp [codeOf, h, ha]
theorem code_cases (p : Int) (zs : List Int) : (prm p = false ∧ codeOf p zs = 1) ∨ (prm p = true ∧ zs.all (inr p) = true ∧ codeOf p zs = 0) ∨ (prm p = true ∧ zs.all (inr p) = false ∧ codeOf p zs = 2) := by
  by_cases h : prm p = true
  · by_cases ha : zs.all (inr p) = true
    · exact .inr (.inl ⟨h, ha, code_ok h ha⟩)
    · have ha' : zs.all (inr p) = false := by simpa using ha
      exact .inr (.inr ⟨h, ha', code_bad h ha'⟩)
  · have h' : prm p = false := by simpa using h
    exact .inl ⟨h', code_np h'⟩
/-! ### All numbers of all primes, by the kernel -/
/-! ### Products -/
theorem mod_bd {p : Int} (hp : prm p = true) (n : Int) : 0 ≤ n % p ∧ n % p < p := by
  have := prm_bd hp
  exact ⟨Int.emod_nonneg _ (by omega), Int.emod_lt_of_pos _ (by omega)⟩

/-! ### Powers and inverses -/
/-! ### Square roots: the least one, or -1 -/
def rtF (p a : Int) : Nat → Int → Int
  | 0, _ => -1
  | f + 1, r => if r * r % p = a then r else rtF p a f (r + 1)
def rt (p a : Int) : Int := rtF p a p.toNat 0
/-! ### Orders -/
/-! ### Sums of two squares; primitive numbers -/
def sxF (p a : Int) : Nat → Int → Int
  | 0, x => x
  | f + 1, x => if 0 ≤ rt p ((a - x * x) % p) then x else sxF p a f (x + 1)
def sx (p a : Int) : Int := sxF p a 12 0
end Go.Proofs.Ytcamegdjdjacpaa

namespace Go.Proofs.Ytcamegdjdjacpaa
open Go.RowKit

theorem below_step {B : Nat} {w W w1 : World} (h : Below B w W) (hB : B ≤ W.heap.size) (hb : Below W.heap.size W w1) : Below B w w1 := h.trans (hb.mono hB)

end Go.Proofs.Ytcamegdjdjacpaa

namespace Go.Proofs.Ytcamegdjdjacpaa
open Go.RowKit
set_option linter.unusedVariables false

theorem isPrime_any (p : Int) (w : World) :
    Calls Try.prog 187 #[.int .i64 p] w fun e w' => e = .returned (.bool (prm p)) ∧ w = w' := by
  by_cases h : prm p = true
  · rcases prm_or h with rfl | rfl | rfl | rfl | rfl
    all_goals
      clear h
      go_enter Try.func187, Try.ntmps187
      go_wp2
      go_ret
      exact ⟨rfl, rfl⟩
  · have h' : prm p = false := by simpa using h
    obtain ⟨h1, h2, h3, h4, h5⟩ := prm_not h'
    have H := Lib.hid h'
    clear h h'
    go_enter Try.func187, Try.ntmps187
    go_wp2
    go_ret
    exact ⟨by rw [H.out]; rfl, rfl⟩

theorem l01Prime_any (p : Int) (w : World) :
    Calls Try.prog 170 #[.int .i64 p] w fun e w' => e = .returned (.bool (prm p)) ∧ w = w' := by
  by_cases h : prm p = true
  · rcases prm_or h with rfl | rfl | rfl | rfl | rfl
    all_goals
      clear h
      go_enter Try.func170, Try.ntmps170
      go_wp2
      go_ret
      exact ⟨rfl, rfl⟩
  · have h' : prm p = false := by simpa using h
    obtain ⟨h1, h2, h3, h4, h5⟩ := prm_not h'
    have H := Lib.hid h'
    clear h h'
    go_enter Try.func170, Try.ntmps170
    go_wp2
    go_ret
    exact ⟨rfl, rfl⟩

theorem l01In_yes (n lo hi : Int) (w : World) (h : lo ≤ n) (k : n ≤ hi) :
    Calls Try.prog 151 #[.int .i64 n, .int .i64 lo, .int .i64 hi] w fun e w' => e = .returned (.bool true) ∧ w = w' := by
  go_enter Try.func151, Try.ntmps151
  go_wp2
  go_ret
  exact ⟨rfl, rfl⟩
theorem l01In_no (n lo hi : Int) (w : World) (h : ¬ (lo ≤ n ∧ n ≤ hi)) :
    Calls Try.prog 151 #[.int .i64 n, .int .i64 lo, .int .i64 hi] w fun e w' => e = .returned (.bool false) ∧ w = w' := by
  by_cases h1 : lo ≤ n
  · have h2 : ¬ n ≤ hi := fun k => h ⟨h1, k⟩
    clear h
    go_enter Try.func151, Try.ntmps151
    go_wp2
    go_ret
    exact ⟨rfl, rfl⟩
  · clear h
    go_enter Try.func151, Try.ntmps151
    go_wp2
    go_ret
    exact ⟨rfl, rfl⟩

/-- A row of integers that a slice leads to. -/
def RowAt (w : World) (b : Nat) (zs : List Int) : Prop := ∀ i, i < zs.length → w.cell? ⟨b, i, none⟩ = some (.int .i64 (zs.getD i 0))

theorem getD_at {zs : List Int} {k : Nat} (h : k < zs.length) : zs.getD k 0 = zs[k] := by simp [h]
theorem all_take_succ {p x : Int} {zs : List Int} {k : Nat} (h : k < zs.length) (hx : x = zs.getD k 0) : (zs.take (k + 1)).all (inr p) = ((zs.take k).all (inr p) && inr p x) := by
  rw [List.take_succ_eq_append_getElem h, List.all_append, hx, getD_at h]
  simp
theorem all_false_of {p x : Int} {zs : List Int} {k : Nat} (h : k < zs.length) (hx : x = zs.getD k 0) (hf : inr p x = false) : zs.all (inr p) = false := by
  rw [List.all_eq_false]
  refine ⟨x, ?_, by simp [hf]⟩
  rw [hx, getD_at h]
  exact List.getElem_mem h

end Go.Proofs.Ytcamegdjdjacpaa

namespace Go.Proofs.Ytcamegdjdjacpaa
open Go.RowKit
set_option linter.unusedVariables false

/-- A list of numbers in blocks from lo up to hi (an empty one anywhere). -/
def RowIn (lo hi : Nat) (w : World) (a : Option Addr) (zs : List Int) : Prop :=
  zs = [] ∨ ∃ b o : Nat, a = some ⟨b, o, none⟩ ∧ lo ≤ b ∧ b < hi ∧ ∀ j, j < zs.length → w.cell? ⟨b, o + j, none⟩ = some (.int .i64 (zs.getD j 0))

/-- Row i of a matrix. -/
def rw' (m : List (List Int)) (i : Nat) : List Int := m.getD i []
/-- The number at row i, column j. -/
def at' (m : List (List Int)) (i j : Nat) : Int := (rw' m i).getD j 0

/-- A list of lists of numbers in blocks from lo up to hi. -/
def MatIn (lo hi : Nat) (w : World) (a : Option Addr) (m : List (List Int)) : Prop :=
  m = [] ∨ ∃ b o : Nat, a = some ⟨b, o, none⟩ ∧ lo ≤ b ∧ b < hi ∧ ∀ i, i < m.length → ∃ r c, w.cell? ⟨b, o + i, none⟩ = some (.slice r (rw' m i).length c) ∧ RowIn lo hi w r (rw' m i)

/-- Blocks from lo up to hi are as they were. -/
def Same (lo hi : Nat) (w w' : World) : Prop := ∀ k, lo ≤ k → k < hi → w'.heap[k]? = w.heap[k]?
theorem Same.cell {lo hi : Nat} {w w' : World} (h : Same lo hi w w') {p : Addr} (k0 : lo ≤ p.block) (k1 : p.block < hi) : w'.cell? p = w.cell? p := World.cell?_of_block (w := w) (h p.block k0 k1)
theorem Same.frozen {lo hi : Nat} {w w' : World} (h : Same lo hi w w') {p : Addr} (k0 : lo ≤ p.block) (k1 : p.block < hi) : w'.frozen? p = w.frozen? p := World.frozen?_of_block (w := w) (h p.block k0 k1)
theorem Same.refl (lo hi : Nat) (w : World) : Same lo hi w w := fun _ _ _ => rfl
theorem Same.trans {lo hi : Nat} {a b c : World} (h : Same lo hi a b) (k : Same lo hi b c) : Same lo hi a c := fun i i0 i1 => (k i i0 i1).trans (h i i0 i1)
theorem same_below {B lo hi : Nat} {w w' : World} (h : Below B w w') (k : hi ≤ B) : Same lo hi w w' := fun i _ i1 => h.block i (by omega)

theorem RowIn.same {lo hi : Nat} {w w' : World} {a : Option Addr} {zs : List Int} (h : RowIn lo hi w a zs) (k : Same lo hi w w') : RowIn lo hi w' a zs := by
  rcases h with h | ⟨b, o, ha, h0, h1, hc⟩
  · exact .inl h
  · exact .inr ⟨b, o, ha, h0, h1, fun j hj => (k.cell (p := ⟨b, o + j, none⟩) h0 h1).trans (hc j hj)⟩
theorem RowIn.below {B lo hi : Nat} {w w' : World} {a : Option Addr} {zs : List Int} (h : RowIn lo hi w a zs) (k : Below B w w') (hB : hi ≤ B) : RowIn lo hi w' a zs := h.same (same_below k hB)
theorem RowIn.mono {lo hi lo' hi' : Nat} {w : World} {a : Option Addr} {zs : List Int} (h : RowIn lo hi w a zs) (h0 : lo' ≤ lo) (h1 : hi ≤ hi') : RowIn lo' hi' w a zs := by
  rcases h with h | ⟨b, o, ha, k0, k1, hc⟩
  · exact .inl h
  · exact .inr ⟨b, o, ha, by omega, by omega, hc⟩
theorem MatIn.same {lo hi : Nat} {w w' : World} {a : Option Addr} {m : List (List Int)} (h : MatIn lo hi w a m) (k : Same lo hi w w') : MatIn lo hi w' a m := by
  rcases h with h | ⟨b, o, ha, h0, h1, hc⟩
  · exact .inl h
  · refine .inr ⟨b, o, ha, h0, h1, fun i hi => ?_⟩
    obtain ⟨r, c, hr, hrow⟩ := hc i hi
    exact ⟨r, c, (k.cell (p := ⟨b, o + i, none⟩) h0 h1).trans hr, hrow.same k⟩
theorem MatIn.below {B lo hi : Nat} {w w' : World} {a : Option Addr} {m : List (List Int)} (h : MatIn lo hi w a m) (k : Below B w w') (hB : hi ≤ B) : MatIn lo hi w' a m := h.same (same_below k hB)
theorem MatIn.mono {lo hi lo' hi' : Nat} {w : World} {a : Option Addr} {m : List (List Int)} (h : MatIn lo hi w a m) (h0 : lo' ≤ lo) (h1 : hi ≤ hi') : MatIn lo' hi' w a m := by
  rcases h with h | ⟨b, o, ha, k0, k1, hc⟩
  · exact .inl h
  · refine .inr ⟨b, o, ha, by omega, by omega, fun i hi => ?_⟩
    obtain ⟨r, c, hr, hrow⟩ := hc i hi
    exact ⟨r, c, hr, hrow.mono h0 h1⟩
/-- One row is got. -/
theorem MatIn.row {lo hi : Nat} {w : World} {a : Option Addr} {m : List (List Int)} (h : MatIn lo hi w a m) {i : Nat} (hi' : i < m.length) :
    ∃ b o r c, a = some ⟨b, o, none⟩ ∧ lo ≤ b ∧ b < hi ∧ w.cell? ⟨b, o + i, none⟩ = some (.slice r (rw' m i).length c) ∧ RowIn lo hi w r (rw' m i) := by
  rcases h with h | ⟨b, o, ha, h0, h1, hc⟩
  · rw [h] at hi'; simp at hi'
  · obtain ⟨r, c, hr, hrow⟩ := hc i hi'
    exact ⟨b, o, r, c, ha, h0, h1, hr, hrow⟩
/-- One number is got. -/
theorem RowIn.num {lo hi : Nat} {w : World} {a : Option Addr} {zs : List Int} (h : RowIn lo hi w a zs) {j : Nat} (hj : j < zs.length) :
    ∃ b o, a = some ⟨b, o, none⟩ ∧ lo ≤ b ∧ b < hi ∧ w.cell? ⟨b, o + j, none⟩ = some (.int .i64 (zs.getD j 0)) := by
  rcases h with h | ⟨b, o, ha, h0, h1, hc⟩
  · rw [h] at hj; simp at hj
  · exact ⟨b, o, ha, h0, h1, hc j hj⟩

/-- Nothing but draws. -/
def Quiet (w w' : World) : Prop := ∃ n, w' = w.drewN n
theorem Quiet.refl (w : World) : Quiet w w := ⟨0, rfl⟩
theorem Quiet.next {w w' : World} (h : Quiet w w') (n : Nat) : Quiet w (w'.drewN n) := by
  obtain ⟨k, rfl⟩ := h
  exact ⟨k + n, by rw [World.drewN_drewN]⟩
theorem Quiet.trans {a b c : World} (h : Quiet a b) (k : Quiet b c) : Quiet a c := by
  obtain ⟨n, rfl⟩ := k
  exact h.next n
theorem Quiet.below {w w' : World} (h : Quiet w w') (B : Nat) : Below B w w' := by
  obtain ⟨k, rfl⟩ := h
  exact ⟨rfl, rfl, rfl, Nat.le_refl _, fun _ _ => rfl⟩
theorem Quiet.same {w w' : World} (h : Quiet w w') (lo hi : Nat) : Same lo hi w w' := by
  obtain ⟨k, rfl⟩ := h
  exact fun _ _ _ => rfl
theorem Quiet.cell {w w' : World} (h : Quiet w w') (p : Addr) : w'.cell? p = w.cell? p := by
  obtain ⟨k, rfl⟩ := h
  rfl
theorem Quiet.size {w w' : World} (h : Quiet w w') : w'.heap.size = w.heap.size := by
  obtain ⟨k, rfl⟩ := h
  rfl

/-! ### Matrices of one's own: where each row lies -/
structure Place where
  b : Nat
  o : Nat
  R : Nat → Option Addr
  B : Nat → Nat
  O : Nat → Nat
  C : Nat → Nat

/-- n rows of lengths L, the numbers Z, all in blocks from lo up to hi, no cell twice, none frozen. -/
structure OwnAt (lo hi : Nat) (w : World) (q : Place) (n : Nat) (L : Nat → Nat) (Z : Nat → Nat → Int) : Prop where
  rng : 0 < n → lo ≤ q.b ∧ q.b < hi
  top : ∀ i, i < n → w.cell? ⟨q.b, q.o + i, none⟩ = some (.slice (q.R i) (L i) (q.C i))
  row : ∀ i, i < n → L i = 0 ∨ q.R i = some ⟨q.B i, q.O i, none⟩
  rrng : ∀ i, i < n → 0 < L i → lo ≤ q.B i ∧ q.B i < hi
  cell : ∀ i, i < n → ∀ j, j < L i → w.cell? ⟨q.B i, q.O i + j, none⟩ = some (.int .i64 (Z i j))
  free : ∀ i, i < n → ∀ j, j < L i → w.frozen? ⟨q.B i, q.O i + j, none⟩ = false
  apart : ∀ i, i < n → ∀ i', i' < n → i ≠ i' → ∀ j, j < L i → ∀ j', j' < L i' → ¬ (q.B i = q.B i' ∧ q.O i + j = q.O i' + j')
  tops : ∀ i, i < n → ∀ j, j < L i → ∀ i', i' < n → ¬ (q.B i = q.b ∧ q.O i + j = q.o + i')

theorem OwnAt.same {lo hi : Nat} {w w' : World} {q : Place} {n : Nat} {L : Nat → Nat} {Z : Nat → Nat → Int} (h : OwnAt lo hi w q n L Z) (k : Same lo hi w w') : OwnAt lo hi w' q n L Z where
  rng := h.rng
  top i hi := (k.cell (p := ⟨q.b, q.o + i, none⟩) (h.rng (by omega)).1 (h.rng (by omega)).2).trans (h.top i hi)
  row := h.row
  rrng := h.rrng
  cell i hi j hj := (k.cell (p := ⟨q.B i, q.O i + j, none⟩) (h.rrng i hi (by omega)).1 (h.rrng i hi (by omega)).2).trans (h.cell i hi j hj)
  free i hi j hj := (k.frozen (p := ⟨q.B i, q.O i + j, none⟩) (h.rrng i hi (by omega)).1 (h.rrng i hi (by omega)).2).trans (h.free i hi j hj)
  apart := h.apart
  tops := h.tops
theorem OwnAt.congr {lo hi : Nat} {w : World} {q : Place} {n : Nat} {L : Nat → Nat} {Z Z' : Nat → Nat → Int} (h : OwnAt lo hi w q n L Z) (e : ∀ i, i < n → ∀ j, j < L i → Z i j = Z' i j) : OwnAt lo hi w q n L Z' :=
  { h with cell := fun i hi j hj => by rw [← e i hi j hj]; exact h.cell i hi j hj }

/-- A call wrote into a stretch of one block, and nowhere else. -/
structure Wrote (b o n : Nat) (w w' : World) : Prop where
  os : w'.os = w.os
  tape : w'.tape = w.tape
  output : w'.output = w.output
  size : w'.heap.size = w.heap.size
  block : ∀ k, k ≠ b → w'.heap[k]? = w.heap[k]?
  cell : ∀ j, (∀ i, i < n → j ≠ o + i) → w'.cell? ⟨b, j, none⟩ = w.cell? ⟨b, j, none⟩
  frozen : ∀ j, w'.frozen? ⟨b, j, none⟩ = w.frozen? ⟨b, j, none⟩
theorem Wrote.refl (b o n : Nat) (w : World) : Wrote b o n w w := ⟨rfl, rfl, rfl, rfl, fun _ _ => rfl, fun _ _ => rfl, fun _ => rfl⟩
theorem Wrote.mono {b o n n' : Nat} {w w' : World} (h : Wrote b o n w w') (k : n ≤ n') : Wrote b o n' w w' := ⟨h.os, h.tape, h.output, h.size, h.block, fun j hj => h.cell j (fun i hi => hj i (by omega)), h.frozen⟩
theorem Wrote.drew {b o n : Nat} {w w' : World} (h : Wrote b o n w w') : Wrote b o n w w'.drew := ⟨h.os, h.tape, h.output, h.size, h.block, h.cell, h.frozen⟩
theorem Wrote.cellOut {b o n : Nat} {w w' : World} (h : Wrote b o n w w') {c j : Nat} (hne : ¬ (c = b ∧ ∃ i, i < n ∧ j = o + i)) : w'.cell? ⟨c, j, none⟩ = w.cell? ⟨c, j, none⟩ := by
  by_cases hc : c = b
  · subst hc
    exact h.cell j (fun i hi e => hne ⟨rfl, i, hi, e⟩)
  · exact World.cell?_of_block (w := w) (a := ⟨c, j, none⟩) (h.block c hc)
theorem Wrote.frozenAll {b o n : Nat} {w w' : World} (h : Wrote b o n w w') (c j : Nat) : w'.frozen? ⟨c, j, none⟩ = w.frozen? ⟨c, j, none⟩ := by
  by_cases hc : c = b
  · subst hc; exact h.frozen j
  · exact World.frozen?_of_block (w := w) (a := ⟨c, j, none⟩) (h.block c hc)
theorem Wrote.set {b o n : Nat} {w w' : World} (h : Wrote b o n w w') {i : Nat} (hi : i < n) (v : Value) : Wrote b o n w (w'.setCell ⟨b, o + i, none⟩ v) where
  os := h.os
  tape := h.tape
  output := h.output
  size := by simpa [World.setCell] using h.size
  block k hk := (Below.heap_setCell _ _ _ _ hk).trans (h.block k hk)
  cell j hj := (World.cell?_setCell_other _ _ _ _ (fun e => hj i hi (by injection e with _ e2; exact e2.symm))).trans (h.cell j hj)
  frozen j := by simp [go_sem, h.frozen]

/-- Blocks outside lo up to hi are as they were. -/
structure Off (lo hi : Nat) (w w' : World) : Prop where
  os : w'.os = w.os
  tape : w'.tape = w.tape
  output : w'.output = w.output
  size : w'.heap.size = w.heap.size
  block : ∀ k, (k < lo ∨ hi ≤ k) → w'.heap[k]? = w.heap[k]?
theorem Off.refl (lo hi : Nat) (w : World) : Off lo hi w w := ⟨rfl, rfl, rfl, rfl, fun _ _ => rfl⟩
theorem Off.trans {lo hi : Nat} {a b c : World} (h : Off lo hi a b) (k : Off lo hi b c) : Off lo hi a c :=
  ⟨k.os.trans h.os, k.tape.trans h.tape, k.output.trans h.output, k.size.trans h.size, fun i hi => (k.block i hi).trans (h.block i hi)⟩
theorem Off.drew {lo hi : Nat} {w w' : World} (h : Off lo hi w w') : Off lo hi w w'.drew := ⟨h.os, h.tape, h.output, h.size, h.block⟩
theorem Wrote.off {b o n lo hi : Nat} {w w' : World} (h : Wrote b o n w w') (h0 : lo ≤ b) (h1 : b < hi) : Off lo hi w w' :=
  ⟨h.os, h.tape, h.output, h.size, fun k hk => h.block k (by omega)⟩
theorem Off.below {B lo hi : Nat} {w w' : World} (h : Off lo hi w w') (hB : B ≤ lo) : Below B w w' := ⟨h.os, h.tape, h.output, by rw [h.size]; exact Nat.le_refl _, fun k hk => h.block k (by omega)⟩
theorem Off.same {lo hi lo' hi' : Nat} {w w' : World} (h : Off lo hi w w') (k : hi' ≤ lo ∨ hi ≤ lo') : Same lo' hi' w w' := fun i i0 i1 => h.block i (by omega)

/-- One row rewritten. -/
theorem OwnAt.wrote {lo hi : Nat} {w w' : World} {q : Place} {n : Nat} {L : Nat → Nat} {Z : Nat → Nat → Int} (h : OwnAt lo hi w q n L Z) {i : Nat} (hi' : i < n) (k : Wrote (q.B i) (q.O i) (L i) w w') (f : Nat → Int)
    (hf : ∀ j, j < L i → w'.cell? ⟨q.B i, q.O i + j, none⟩ = some (.int .i64 (f j))) : OwnAt lo hi w' q n L (fun i' j => if i' = i then f j else Z i' j) where
  rng := h.rng
  top i' h' := (k.cellOut (fun ⟨e, j, hj, e2⟩ => h.tops i hi' j hj i' h' ⟨e.symm, by omega⟩)).trans (h.top i' h')
  row := h.row
  rrng := h.rrng
  cell i' h' j hj := by
    by_cases e : i' = i
    · subst e; simp only [if_pos]; exact hf j hj
    · simp only [if_neg e]
      exact (k.cellOut (fun ⟨e1, j', hj', e2⟩ => h.apart i' h' i hi' e j hj j' hj' ⟨e1, e2⟩)).trans (h.cell i' h' j hj)
  free i' h' j hj := (k.frozenAll _ _).trans (h.free i' h' j hj)
  apart := h.apart
  tops := h.tops

theorem OwnAt.mono {lo hi lo' hi' : Nat} {w : World} {q : Place} {n : Nat} {L : Nat → Nat} {Z : Nat → Nat → Int} (h : OwnAt lo hi w q n L Z) (k0 : lo' ≤ lo) (k1 : hi ≤ hi') : OwnAt lo' hi' w q n L Z :=
  { h with rng := fun g => by have := h.rng g; omega, rrng := fun i hi0 hl => by have := h.rrng i hi0 hl; omega }
/-- One number rewritten. -/
theorem OwnAt.set {lo hi : Nat} {w : World} {q : Place} {n : Nat} {L : Nat → Nat} {Z : Nat → Nat → Int} (h : OwnAt lo hi w q n L Z) {i j : Nat} (hi' : i < n) (hj : j < L i) (x : Int) :
    OwnAt lo hi (w.setCell ⟨q.B i, q.O i + j, none⟩ (.int .i64 x)) q n L (fun i' j' => if i' = i ∧ j' = j then x else Z i' j') := by
  refine (h.wrote hi' ((Wrote.refl (q.B i) (q.O i) (L i) w).set hj (.int .i64 x)) (fun j' => if j' = j then x else Z i j') (fun j' hj' => ?_)).congr (fun i' _ j' _ => ?_)
  · by_cases e : j' = j
    · subst e; rw [if_pos rfl]; exact World.cell?_setCell_same w _ _ (h.cell i hi' j' hj)
    · rw [if_neg e]; exact (World.cell?_setCell_other _ _ _ _ (fun e2 => e (by injection e2 with _ e3; omega))).trans (h.cell i hi' j' hj')
  · by_cases e : i' = i
    · subst e; simp
    · simp [e]

/-- A matrix of one's own, told by its rows. -/
def OwnM (lo hi : Nat) (w : World) (a : Option Addr) (m : List (List Int)) : Prop :=
  m = [] ∨ ∃ q : Place, a = some ⟨q.b, q.o, none⟩ ∧ OwnAt lo hi w q m.length (fun i => (rw' m i).length) (at' m)
/-- A list of one's own. -/
def OwnR (lo hi : Nat) (w : World) (a : Option Addr) (zs : List Int) : Prop :=
  zs = [] ∨ ∃ b o : Nat, a = some ⟨b, o, none⟩ ∧ lo ≤ b ∧ b < hi ∧ ∀ j, j < zs.length → w.cell? ⟨b, o + j, none⟩ = some (.int .i64 (zs.getD j 0)) ∧ w.frozen? ⟨b, o + j, none⟩ = false
theorem OwnM.same {lo hi : Nat} {w w' : World} {a : Option Addr} {m : List (List Int)} (h : OwnM lo hi w a m) (k : Same lo hi w w') : OwnM lo hi w' a m := by
  rcases h with h | ⟨q, ha, h⟩
  · exact .inl h
  · exact .inr ⟨q, ha, h.same k⟩
theorem OwnM.below {B lo hi : Nat} {w w' : World} {a : Option Addr} {m : List (List Int)} (h : OwnM lo hi w a m) (k : Below B w w') (hB : hi ≤ B) : OwnM lo hi w' a m := h.same (same_below k hB)
theorem OwnM.mono {lo hi lo' hi' : Nat} {w : World} {a : Option Addr} {m : List (List Int)} (h : OwnM lo hi w a m) (k0 : lo' ≤ lo) (k1 : hi ≤ hi') : OwnM lo' hi' w a m := by
  rcases h with h | ⟨q, ha, h⟩
  · exact .inl h
  · exact .inr ⟨q, ha, h.mono k0 k1⟩
theorem OwnR.same {lo hi : Nat} {w w' : World} {a : Option Addr} {zs : List Int} (h : OwnR lo hi w a zs) (k : Same lo hi w w') : OwnR lo hi w' a zs := by
  rcases h with h | ⟨b, o, ha, h0, h1, hc⟩
  · exact .inl h
  · exact .inr ⟨b, o, ha, h0, h1, fun j hj => ⟨(k.cell (p := ⟨b, o + j, none⟩) h0 h1).trans (hc j hj).1, (k.frozen (p := ⟨b, o + j, none⟩) h0 h1).trans (hc j hj).2⟩⟩
theorem OwnR.below {B lo hi : Nat} {w w' : World} {a : Option Addr} {zs : List Int} (h : OwnR lo hi w a zs) (k : Below B w w') (hB : hi ≤ B) : OwnR lo hi w' a zs := h.same (same_below k hB)
theorem OwnR.row {lo hi : Nat} {w : World} {a : Option Addr} {zs : List Int} (h : OwnR lo hi w a zs) : RowIn lo hi w a zs := by
  rcases h with h | ⟨b, o, ha, h0, h1, hc⟩
  · exact .inl h
  · exact .inr ⟨b, o, ha, h0, h1, fun j hj => (hc j hj).1⟩
theorem OwnM.mat {lo hi : Nat} {w : World} {a : Option Addr} {m : List (List Int)} (h : OwnM lo hi w a m) : MatIn lo hi w a m := by
  rcases h with h | ⟨q, ha, h⟩
  · exact .inl h
  · by_cases h0 : 0 < m.length
    · refine .inr ⟨q.b, q.o, ha, (h.rng h0).1, (h.rng h0).2, fun i hi => ⟨q.R i, q.C i, h.top i hi, ?_⟩⟩
      by_cases hl : (rw' m i).length = 0
      · exact .inl (List.eq_nil_of_length_eq_zero hl)
      · exact .inr ⟨q.B i, q.O i, (h.row i hi).resolve_left hl, (h.rrng i hi (by omega)).1, (h.rrng i hi (by omega)).2, fun j hj => h.cell i hi j hj⟩
    · exact .inl (List.eq_nil_of_length_eq_zero (by omega))

/-! ### Sizes -/
end Go.Proofs.Ytcamegdjdjacpaa

namespace Go.Proofs.Ytcamegdjdjacpaa
set_option linter.unusedVariables false

/-- A list made of a function. -/
def mkR (c : Nat) (f : Nat → Int) : List Int := (List.range c).map f
/-- A matrix made of a function. -/
def mk (n c : Nat) (f : Nat → Nat → Int) : List (List Int) := (List.range n).map fun i => mkR c (f i)
theorem mkR_len (c : Nat) (f : Nat → Int) : (mkR c f).length = c := by simp [mkR]
theorem mkR_at {c : Nat} (f : Nat → Int) {j : Nat} (h : j < c) : (mkR c f).getD j 0 = f j := by simp [mkR, List.getD, h]
theorem mk_len (n c : Nat) (f : Nat → Nat → Int) : (mk n c f).length = n := by simp [mk]
theorem mkR_congr {c : Nat} {f g : Nat → Int} (h : ∀ j, j < c → f j = g j) : mkR c f = mkR c g := by
  unfold mkR; apply List.map_congr_left; intro j hj; exact h j (List.mem_range.1 hj)
/-- A sum of the first n. -/
def sm : Nat → (Nat → Int) → Int
  | 0, _ => 0
  | n + 1, f => sm n f + f n
theorem sm_congr {n : Nat} {f g : Nat → Int} (h : ∀ j, j < n → f j = g j) : sm n f = sm n g := by
  induction n with
  | zero => rfl
  | succ n ih => simp only [sm]; rw [ih (fun j hj => h j (by omega)), h n (by omega)]
theorem sm_add (n : Nat) (f g : Nat → Int) : sm n (fun j => f j + g j) = sm n f + sm n g := by
  induction n with
  | zero => rfl
  | succ n ih => simp only [sm]; rw [ih]; omega
theorem sm_mul (n : Nat) (c : Int) (f : Nat → Int) : sm n (fun j => c * f j) = c * sm n f := by
  induction n with
  | zero => simp [sm]
  | succ n ih => simp only [sm]; rw [ih, Int.mul_add]
theorem sm_zero (n : Nat) : sm n (fun _ => 0) = 0 := by
  induction n with
  | zero => rfl
  | succ n ih => simp only [sm]; rw [ih]; rfl
theorem sm_single (n k : Nat) (x : Int) : sm n (fun j => if j = k then x else 0) = if k < n then x else 0 := by
  induction n with
  | zero => rfl
  | succ n ih =>
    simp only [sm]; rw [ih]
    by_cases h : n = k
    · subst h; rw [if_neg (by omega), if_pos rfl, if_pos (by omega)]; omega
    · rw [if_neg h]
      by_cases k' : k < n
      · rw [if_pos k', if_pos (by omega)]; omega
      · rw [if_neg k', if_neg (by omega)]; omega
theorem sm_swap (n m : Nat) (f : Nat → Nat → Int) : sm n (fun i => sm m (fun j => f i j)) = sm m (fun j => sm n (fun i => f i j)) := by
  induction n with
  | zero => simp only [sm]; rw [sm_zero]
  | succ n ih => simp only [sm]; rw [ih, ← sm_add]
theorem sm_mod (n : Nat) (p : Int) (f : Nat → Int) : sm n (fun j => f j % p) % p = sm n f % p := by
  induction n with
  | zero => rfl
  | succ n ih => simp only [sm]; rw [Int.add_emod, ih, Int.emod_emod, ← Int.add_emod]
theorem sm_bd {n : Nat} {f : Nat → Int} {b : Int} (h : ∀ j, j < n → 0 ≤ f j ∧ f j ≤ b) : 0 ≤ sm n f ∧ sm n f ≤ n * b := by
  induction n with
  | zero => simp [sm]
  | succ n ih =>
    have h1 := ih (fun j hj => h j (by omega))
    have h2 := h n (by omega)
    simp only [sm]
    have e : ((n + 1 : Nat) : Int) * b = n * b + b := by rw [Int.natCast_add, Int.add_mul]; simp
    rw [e]; omega

/-! ### Matrices of chapter 2 -/
/-- What is known of a list of vectors. -/
structure Lst (n : Nat) (p : Int) (m : List (List Int)) : Prop where
  prime : prm p = true
  lo : n ≤ m.length
  hi : m.length ≤ 16
  len : ∀ i, i < m.length → (rw' m i).length = (rw' m 0).length
  c0 : ∀ i, i < m.length → 1 ≤ (rw' m i).length
  c1 : ∀ i, i < m.length → (rw' m i).length ≤ 16
  all : ∀ i, i < m.length → (rw' m i).all (inr p) = true
theorem mem_row {m : List (List Int)} {i : Nat} (h : i < m.length) : rw' m i ∈ m := by simp [rw', List.getD, h]
theorem Lst.cols {n : Nat} {p : Int} {m : List (List Int)} (h : Lst n p m) {i : Nat} (hi : i < m.length) : (rw' m i).length = (rw' m 0).length := h.len i hi
theorem Lst.at {n : Nat} {p : Int} {m : List (List Int)} (h : Lst n p m) {i j : Nat} (hi : i < m.length) (hj : j < (rw' m 0).length) : 0 ≤ at' m i j ∧ at' m i j < p := by
  have ha := h.all i hi
  rw [List.all_eq_true] at ha
  have hl : j < (rw' m i).length := by rw [h.len i hi]; exact hj
  exact inr_iff.1 (ha _ (by unfold at'; rw [getD_at hl]; exact List.getElem_mem hl))

end Go.Proofs.Ytcamegdjdjacpaa

namespace Go.Proofs.Ytcamegdjdjacpaa
open Go.RowKit Go.ChangeShapes Go.WideShapes
set_option linter.unusedVariables false

theorem info64 : (Try.prog.info? 2).map (fun i => (i.zero, i.size, i.bytes)) = some (some (.int .i64 0), 1, 8) := by kernel_rfl

/-- What has been copied so far. -/
structure Half (w : World) (b i : Nat) (zs : List Int) : Prop where
  lt : b < w.heap.size
  done : ∀ j, j < i → w.cell? ⟨b, j, none⟩ = some (.int .i64 (zs.getD j 0))
  rest : ∀ j, i ≤ j → j < zs.length → w.cell? ⟨b, j, none⟩ = some (.int .i64 0)
  free : ∀ j, w.frozen? ⟨b, j, none⟩ = false
theorem Half.start (w : World) (zs : List Int) (t : TypeId) : Half (w.alloc (.cells (madeCells #[.int .i64 0] zs.length) t)) w.heap.size 0 zs :=
  ⟨by simp, fun j hj => by omega, fun j _ hj => by
    have h := World.cell?_alloc_new (w := w) (madeCells #[.int .i64 0] zs.length) t j
    rw [h]
    simp [madeCells, hj, Nat.mod_one], fun j => by simp [go_sem]⟩
theorem Half.next {w : World} {b i : Nat} {zs : List Int} (h : Half w b i zs) (hi : i < zs.length) : Half (w.setCell ⟨b, i, none⟩ (.int .i64 (zs.getD i 0))) b (i + 1) zs :=
  ⟨by simpa [World.setCell] using h.lt, fun j hj => by
    by_cases hji : j = i
    · subst hji
      exact World.cell?_setCell_same w _ _ (h.rest j (Nat.le_refl _) hi)
    · exact (World.cell?_setCell_other _ _ _ _ (by first | (simp; done) | (simp; omega))).trans (h.done j (by omega)),
   fun j hj hl => (World.cell?_setCell_other _ _ _ _ (by first | (simp; done) | (simp; omega))).trans (h.rest j (by omega) hl), fun j => by simp [go_sem, h.free]⟩

end Go.Proofs.Ytcamegdjdjacpaa

namespace Go.Proofs.Ytcamegdjdjacpaa
open Go.RowKit Go.ChangeShapes Go.WideShapes
set_option linter.unusedVariables false

/-- What has been copied so far. -/
structure HalfM (w : World) (b i : Nat) (m : List (List Int)) (B : Nat → Nat) : Prop where
  lt : b < w.heap.size
  done : ∀ j, j < i → w.cell? ⟨b, j, none⟩ = some (.slice (some ⟨B j, 0, none⟩) (rw' m j).length (rw' m j).length)
  rest : ∀ j, i ≤ j → j < m.length → w.cell? ⟨b, j, none⟩ = some (.slice none 0 0)
  free : ∀ j, w.frozen? ⟨b, j, none⟩ = false
  rng : ∀ j, j < i → b < B j ∧ B j < w.heap.size
  cell : ∀ j, j < i → ∀ x, x < (rw' m j).length → w.cell? ⟨B j, x, none⟩ = some (.int .i64 (at' m j x)) ∧ w.frozen? ⟨B j, x, none⟩ = false
  apart : ∀ j, j < i → ∀ j', j' < i → j ≠ j' → B j ≠ B j'
theorem HalfM.start (w : World) (m : List (List Int)) (t : TypeId) (B : Nat → Nat) : HalfM (w.alloc (.cells (madeCells #[.slice none 0 0] m.length) t)) w.heap.size 0 m B where
  lt := by simp
  done j hj := by omega
  rest j _ hj := by
    have h := World.cell?_alloc_new (w := w) (madeCells #[.slice none 0 0] m.length) t j
    rw [h]
    simp [madeCells, hj, Nat.mod_one]
  free j := by simp [go_sem]
  rng j hj := by omega
  cell j hj := by omega
  apart j hj := by omega
theorem HalfM.next {w w1 : World} {b i : Nat} {m : List (List Int)} {B : Nat → Nat} (h : HalfM w b i m B) (hi : i < m.length) (hb : Below w.heap.size w w1) (hs : w.heap.size < w1.heap.size)
    (hr : OwnR w.heap.size w1.heap.size w1 (some ⟨w.heap.size, 0, none⟩) (rw' m i)) :
    HalfM (w1.setCell ⟨b, i, none⟩ (.slice (some ⟨w.heap.size, 0, none⟩) (rw' m i).length (rw' m i).length)) b (i + 1) m (fun j => if j = i then w.heap.size else B j) := by
  have hlt := h.lt
  have oth : ∀ c j, c ≠ b → (w1.setCell ⟨b, i, none⟩ (.slice (some ⟨w.heap.size, 0, none⟩) (rw' m i).length (rw' m i).length)).cell? ⟨c, j, none⟩ = w1.cell? ⟨c, j, none⟩ := fun c j hne =>
    World.cell?_setCell_other _ _ _ _ (fun e => hne (by injection e with e1; exact e1.symm))
  refine ⟨by simp [World.setCell]; omega, fun j hj => ?_, fun j hj hl => ?_, fun j => ?_, fun j hj => ?_, fun j hj x hx => ?_, fun j hj j' hj' hne => ?_⟩
  · by_cases e : j = i
    · subst e
      simp only [if_pos]
      exact World.cell?_setCell_same w1 _ _ ((hb.cell (p := ⟨b, j, none⟩) hlt).trans (h.rest j (Nat.le_refl _) hi))
    · simp only [if_neg e]
      exact (World.cell?_setCell_other _ _ _ _ (by first | (simp; done) | (simp; omega))).trans ((hb.cell (p := ⟨b, j, none⟩) hlt).trans (h.done j (by omega)))
  · exact (World.cell?_setCell_other _ _ _ _ (by first | (simp; done) | (simp; omega))).trans ((hb.cell (p := ⟨b, j, none⟩) hlt).trans (h.rest j (by omega) hl))
  · have := (hb.frozen (p := ⟨b, j, none⟩) hlt).trans (h.free j)
    simp [go_sem, this]
  · have hz : (w1.setCell ⟨b, i, none⟩ (.slice (some ⟨w.heap.size, 0, none⟩) (rw' m i).length (rw' m i).length)).heap.size = w1.heap.size := by simp [World.setCell]
    rw [hz]
    by_cases e : j = i
    · subst e; simp only [if_pos]; exact ⟨hlt, hs⟩
    · simp only [if_neg e]; have := h.rng j (by omega); omega
  · by_cases e : j = i
    · subst e
      simp only [if_pos]
      rcases hr with h0 | ⟨b1, o1, e1, _, _, hc⟩
      · rw [h0] at hx; simp at hx
      · cases e1
        have h2 := hc x hx
        simp only [Nat.zero_add] at h2
        exact ⟨(oth _ _ (by omega)).trans h2.1, by simp [go_sem, h2.2]⟩
    · simp only [if_neg e]
      have hg := h.rng j (by omega)
      have h2 := h.cell j (by omega) x hx
      have f2 := (hb.frozen (p := ⟨B j, x, none⟩) hg.2).trans h2.2
      exact ⟨(oth _ _ (by omega)).trans ((hb.cell (p := ⟨B j, x, none⟩) hg.2).trans h2.1), by simp [go_sem, f2]⟩
  · have e1 : ∀ j, j < i → B j ≠ w.heap.size := fun j hj => by have := (h.rng j hj).2; omega
    by_cases e : j = i
    · subst e
      simp only [if_pos, if_neg (fun e => hne e.symm : ¬ j' = j)]
      exact (e1 j' (by omega)).symm
    · by_cases e' : j' = i
      · subst e'
        simp only [if_pos, if_neg e]
        exact e1 j (by omega)
      · simp only [if_neg e, if_neg e']
        exact h.apart j (by omega) j' (by omega) hne
theorem HalfM.own {w : World} {b : Nat} {m : List (List Int)} {B : Nat → Nat} (h : HalfM w b m.length m B) : OwnM b w.heap.size w (some ⟨b, 0, none⟩) m :=
  .inr ⟨⟨b, 0, fun j => some ⟨B j, 0, none⟩, B, fun _ => 0, fun j => (rw' m j).length⟩, rfl, {
    rng := fun _ => ⟨Nat.le_refl _, h.lt⟩
    top := fun i hi => by show w.cell? ⟨b, 0 + i, none⟩ = _; rw [Nat.zero_add]; exact h.done i hi
    row := fun i hi => .inr rfl
    rrng := fun i hi _ => ⟨by have := (h.rng i hi).1; show b ≤ B i; omega, (h.rng i hi).2⟩
    cell := fun i hi j hj => by show w.cell? ⟨B i, 0 + j, none⟩ = _; rw [Nat.zero_add]; exact (h.cell i hi j hj).1
    free := fun i hi j hj => by show w.frozen? ⟨B i, 0 + j, none⟩ = _; rw [Nat.zero_add]; exact (h.cell i hi j hj).2
    apart := fun i hi i' hi' hne j hj j' hj' e => h.apart i hi i' hi' hne e.1
    tops := fun i hi j hj i' hi' e => by have := (h.rng i hi).1; have e1 : B i = b := e.1; omega }⟩

end Go.Proofs.Ytcamegdjdjacpaa

namespace Go.Proofs.Ytcamegdjdjacpaa
open Go.RowKit Go.ChangeShapes Go.WideShapes
set_option linter.unusedVariables false

set_option maxHeartbeats 800000 in
theorem checkRow (p : Int) (a : Option Addr) (zs : List Int) (cap lo tp : Nat) (w : World) (hp : prm p = true) (hrow : RowIn lo tp w a zs) (hlen : zs.length ≤ 9223372036854775807) :
    Calls Try.prog 129 #[.int .i64 p, .slice a zs.length cap] w fun e w' => e = .returned (.int .i64 (codeOf p zs)) ∧ w = w' := by
  have HP := Lib.hid hp
  have HR := Lib.hid hrow
  clear hrow hp
  go_enter Try.func129, Try.ntmps129
  go_wp2_with (go_at_call 187; refine (isPrime_any _ _).mono ?_; rintro e w' ⟨rfl, rfl⟩; rw [HP.out])
  go_loop [12] (fun t => ∃ k : Nat, k ≤ zs.length ∧ t = .int .i64 k ∧ (zs.take k).all (inr p) = true) (fun t => zs.length - (intOf t).toNat)
  case atStart => exact ⟨0, Nat.zero_le _, rfl, rfl⟩
  case round =>
    obtain ⟨k, hk, rfl, hall⟩ := hrel
    have HA := Lib.hid hall
    clear hall
    by_cases hlt : k < zs.length
    · obtain ⟨b, o, ha, _, _, hcell⟩ := HR.out.num hlt
      subst ha
      obtain ⟨x, hx⟩ : ∃ x, x = zs.getD k 0 := ⟨_, rfl⟩
      rw [← hx] at hcell
      have HX := Lib.hid hx
      clear hx
      by_cases hin : 0 ≤ x ∧ x < p
      · have HI : Hid (inr p x = true) := inr_iff.2 hin
        obtain ⟨hi0, hi1⟩ := hin
        go_wp2
        go_round
        case rel => exact ⟨k + 1, by omega, by go_num, by rw [all_take_succ hlt HX.out, HA.out, HI.out]; rfl⟩
        case measure => simp [intOf]; omega
      · have HI : Hid (inr p x = false) := inr_not.2 hin
        have HC : Hid (codeOf p zs = 2) := code_bad HP.out (all_false_of hlt HX.out HI.out)
        by_cases h0 : x < 0
        · clear hin
          go_wp2
          go_ret
          exact ⟨by rw [HC.out]; rfl, rfl⟩
        · have h1 : p ≤ x := by omega
          clear hin
          go_wp2
          go_ret
          exact ⟨by rw [HC.out]; rfl, rfl⟩
    · have HC : Hid (codeOf p zs = 0) := code_ok HP.out (by have := HA.out; rwa [List.take_of_length_le (by omega)] at this)
      go_wp2
      go_ret
      exact ⟨by rw [HC.out]; rfl, rfl⟩

set_option maxHeartbeats 800000 in
theorem numsRow (p : Int) (a : Option Addr) (zs : List Int) (cap lo tp : Nat) (w : World) (hp : prm p = true) (hrow : RowIn lo tp w a zs) (hlen : zs.length ≤ 9223372036854775807) :
    Calls Try.prog 164 #[.int .i64 p, .slice a zs.length cap] w fun e w' => e = .returned (.bool (zs.all (inr p))) ∧ w = w' := by
  have hpb := prm_bd hp
  clear hp
  have HR := Lib.hid hrow
  clear hrow
  go_enter Try.func164, Try.ntmps164
  go_wp2
  go_loop [5] (fun t => ∃ k : Nat, k ≤ zs.length ∧ t = .int .i64 k ∧ (zs.take k).all (inr p) = true) (fun t => zs.length - (intOf t).toNat)
  case atStart => exact ⟨0, Nat.zero_le _, rfl, rfl⟩
  case round =>
    obtain ⟨k, hk, rfl, hall⟩ := hrel
    have HA := Lib.hid hall
    clear hall
    by_cases hlt : k < zs.length
    · obtain ⟨b, o, ha, _, _, hcell⟩ := HR.out.num hlt
      subst ha
      obtain ⟨x, hx⟩ : ∃ x, x = zs.getD k 0 := ⟨_, rfl⟩
      rw [← hx] at hcell
      have HX := Lib.hid hx
      clear hx
      by_cases hin : 0 ≤ x ∧ x < p
      · have HI : Hid (inr p x = true) := inr_iff.2 hin
        obtain ⟨hi0, hi1⟩ := hin
        go_wp2_with (go_at_call 151; refine (l01In_yes _ _ _ _ (by omega) (by omega)).mono ?_; rintro e w' ⟨rfl, rfl⟩)
        go_round
        case rel => exact ⟨k + 1, by omega, by go_num, by rw [all_take_succ hlt HX.out, HA.out, HI.out]; rfl⟩
        case measure => simp [intOf]; omega
      · have HI : Hid (inr p x = false) := inr_not.2 hin
        have HC : Hid (zs.all (inr p) = false) := all_false_of hlt HX.out HI.out
        have hin' : ¬ (0 ≤ x ∧ x ≤ p - 1) := by omega
        have HN := Lib.hid hin'
        clear hin hin'
        go_wp2_with (go_at_call 151; refine (l01In_no _ _ _ _ HN.out).mono ?_; rintro e w' ⟨rfl, rfl⟩)
        go_ret
        exact ⟨by rw [HC.out]; rfl, rfl⟩
    · have HC : Hid (zs.all (inr p) = true) := by have := HA.out; rwa [List.take_of_length_le (by omega)] at this
      go_wp2
      go_ret
      exact ⟨by rw [HC.out]; rfl, rfl⟩

set_option maxHeartbeats 800000 in
theorem checkRow_any (p : Int) (a : Option Addr) (zs : List Int) (cap lo tp : Nat) (w : World) (hrow : RowIn lo tp w a zs) (hlen : zs.length ≤ 9223372036854775807) :
    Calls Try.prog 129 #[.int .i64 p, .slice a zs.length cap] w fun e w' => e = .returned (.int .i64 (codeOf p zs)) ∧ w = w' := by
  by_cases hp : prm p = true
  · exact checkRow p a zs cap lo tp w hp hrow hlen
  · have HP : Hid (prm p = false) := by show _ = _; simpa using hp
    clear hp hrow
    go_enter Try.func129, Try.ntmps129
    go_wp2_with (go_at_call 187; refine (isPrime_any _ _).mono ?_; rintro e w' ⟨rfl, rfl⟩; rw [HP.out])
    go_ret
    exact ⟨by rw [code_np HP.out]; rfl, rfl⟩

set_option maxHeartbeats 800000 in
theorem isVector_any (p : Int) (a : Option Addr) (v : List Int) (c n lo tp : Nat) (w : World) (hp : prm p = true) (hv : RowIn lo tp w a v) (hs : v.length ≤ 1048576) (hn : n ≤ 1048576) :
    Calls Try.prog 162 #[.int .i64 p, .slice a v.length c, .int .i64 n] w fun e w' => e = .returned (.bool (decide (v.length = n) && v.all (inr p))) ∧ w = w' := by
  have HV := Lib.hid hv
  have HP := Lib.hid hp
  clear hv hp
  by_cases h : v.length = n
  · subst h
    by_cases ha : v.all (inr p) = true
    · have HA := Lib.hid ha
      have HC := Lib.hid (code_ok HP.out ha)
      clear ha
      go_enter Try.func162, Try.ntmps162
      go_wp2_with (go_at_call 129; (with_reducible refine (checkRow _ _ _ _ lo tp _ HP.out HV.out (by omega)).mono ?_); rintro e w1 ⟨rfl, rfl⟩; rw [HC.out])
      go_ret
      exact ⟨by rw [HA.out]; simp, rfl⟩
    · have HA : Hid (v.all (inr p) = false) := by show v.all (inr p) = false; simpa using ha
      have HC := Lib.hid (code_bad HP.out HA.out)
      clear ha
      go_enter Try.func162, Try.ntmps162
      go_wp2_with (go_at_call 129; (with_reducible refine (checkRow _ _ _ _ lo tp _ HP.out HV.out (by omega)).mono ?_); rintro e w1 ⟨rfl, rfl⟩; rw [HC.out])
      go_ret
      exact ⟨by rw [HA.out]; simp, rfl⟩
  · have HF : Hid ((decide (v.length = n) && v.all (inr p)) = false) := by show _ = _; simp [h]
    have e1 : ((v.length : Int) == (n : Int)) = false := by simp; omega
    have e2 : decide ((v.length : Int) = (n : Int)) = false := by simp; omega
    clear h
    go_enter Try.func162, Try.ntmps162
    go_wp2
    go_ret
    exact ⟨by rw [HF.out]; rfl, rfl⟩

end Go.Proofs.Ytcamegdjdjacpaa

namespace Go.Proofs.Ytcamegdjdjacpaa
open Go.RowKit Go.ChangeShapes Go.WideShapes
set_option linter.unusedVariables false

def IsMat (w : World) (a : Option Addr) (len : Nat) : Prop :=
  ∃ m : List (List Int), m.length = len ∧ MatIn 0 w.heap.size w a m ∧ len ≤ 9223372036854775807 ∧ ∀ i, i < m.length → (rw' m i).length ≤ 9223372036854775807
def IsLst (w : World) (a : Option Addr) (len : Nat) : Prop :=
  ∃ z : List Int, z.length = len ∧ RowIn 0 w.heap.size w a z ∧ len ≤ 9223372036854775807

theorem row_of {w : World} {x : Addr} {len : Nat} {zs : List Int} (hl : len ≤ zs.length) (h : ∀ i, i < zs.length → w.cell? (x.add i) = some (.int .i64 (zs.getD i 0))) : RowIn 0 w.heap.size w (some x) (zs.take len) := by
  by_cases h0 : len = 0
  · exact .inl (by rw [h0]; rfl)
  · obtain ⟨b, o, rfl, hc⟩ := ints_at h (by omega)
    have hlt : b < w.heap.size := World.block_lt_of_cell? w ⟨b, o + 0, none⟩ (hc 0 (by omega))
    refine .inr ⟨b, o, rfl, Nat.zero_le _, hlt, fun i hi => ?_⟩
    rw [List.length_take] at hi
    rw [hc i (by omega)]
    simp only [List.getD_eq_getElem?_getD, List.getElem?_take]
    rw [if_pos (by omega)]
theorem isLst_nil (w : World) : IsLst w none 0 := ⟨[], rfl, .inl rfl, by omega⟩
theorem isLst_of {w : World} {x : Addr} {len cap : Nat} {zs : List Int} (h1 : len ≤ cap) (h2 : cap ≤ maxLen) (h3 : zs.length = cap) (h : ∀ i, i < zs.length → w.cell? (x.add i) = some (.int .i64 (zs.getD i 0))) : IsLst w (some x) len := by
  unfold maxLen at h2
  exact ⟨zs.take len, by simp; omega, row_of (by omega) h, by omega⟩
theorem isMat_nil (w : World) : IsMat w none 0 := ⟨[], rfl, .inl rfl, by omega, fun i hi => by simp at hi⟩
theorem slice_at {w : World} {x : Addr} {v : Nat → Value} {n : Nat} (hn : 0 < n) (h : ∀ r, r < n → w.cell? (x.add r) = some (v r)) : ∃ b o, x = ⟨b, o, none⟩ ∧ ∀ r, r < n → w.cell? ⟨b, o + r, none⟩ = some (v r) := by
  obtain ⟨b, off, spot⟩ := x
  have hspot : spot = none := by simpa [Addr.add] using World.cell?_spot (h 0 hn)
  subst hspot
  exact ⟨b, off, rfl, fun j hj => by rw [← Go.WideShapes.add_plain]; exact h j hj⟩
theorem isMat_of {w : World} {x : Addr} {len cap : Nat} {A : Nat → Option Addr} {L C : Nat → Nat} {Z : Nat → List Int} (hl : len ≤ cap) (hm : cap ≤ maxLen)
    (h : ∀ r, r < cap → w.cell? (x.add r) = some (.slice (A r) (L r) (C r)) ∧ L r ≤ C r ∧ C r ≤ maxLen ∧ (Z r).length = C r ∧ (∀ n ∈ Z r, (Lit.int .i64 n).wf = true) ∧ (A r = none → C r = 0) ∧
        ∀ a', A r = some a' → 0 ≤ a'.block ∧ ∀ c, c < C r → w.cell? (a'.add c) = some (.int .i64 ((Z r).getD c 0))) : IsMat w (some x) len := by
  unfold maxLen at hm
  refine ⟨(List.range len).map fun r => (Z r).take (L r), by simp, ?_, by omega, fun i hi => ?_⟩
  · by_cases h0 : len = 0
    · subst h0; exact .inl rfl
    · obtain ⟨b, o, rfl, hc⟩ := slice_at (n := cap) (v := fun r => .slice (A r) (L r) (C r)) (by omega) (fun r hr => (h r hr).1)
      have hlt : b < w.heap.size := World.block_lt_of_cell? w ⟨b, o + 0, none⟩ (hc 0 (by omega))
      refine .inr ⟨b, o, rfl, Nat.zero_le _, hlt, fun i hi => ?_⟩
      simp only [List.length_map, List.length_range] at hi
      obtain ⟨_, r1, r2, r3, _, r5, r6⟩ := h i (by omega)
      have e : rw' ((List.range len).map fun r => (Z r).take (L r)) i = (Z i).take (L i) := by simp [rw', List.getD, hi]
      rw [e]
      have e2 : ((Z i).take (L i)).length = L i := by simp; omega
      rw [e2]
      refine ⟨A i, C i, hc i (by omega), ?_⟩
      cases hA : A i with
      | none =>
        have := r5 hA
        have h0 : L i = 0 := by omega
        exact .inl (by rw [h0]; rfl)
      | some a' => exact row_of (by omega) (fun c hc' => (r6 a' hA).2 c (by omega))
  · simp only [List.length_map, List.length_range] at hi
    obtain ⟨_, r1, r2, r3, _⟩ := h i (by omega)
    unfold maxLen at r2
    have e : rw' ((List.range len).map fun r => (Z r).take (L r)) i = (Z i).take (L i) := by simp [rw', List.getD, hi]
    rw [e]; simp; omega

end Go.Proofs.Ytcamegdjdjacpaa

namespace Go.Proofs.Ytcamegdjdjacpaa
open Go.RowKit
set_option linter.unusedVariables false

def SpecR (R : List Int) (C : Int) (w : World) (e : Ending) (w' : World) : Prop :=
  ∃ r c, e = .returned (.tuple #[.slice r R.length c, .int .i64 C]) ∧ RowIn w.heap.size w'.heap.size w' r R ∧ Below w.heap.size w w'
def ImplR (R : List Int) (C : Int) (w : World) (e : Ending) (w' : World) : Prop :=
  ∃ r c, e = .returned (.tuple #[.slice r R.length c, .int .i64 C]) ∧ OwnR w.heap.size w'.heap.size w' r R ∧ Below w.heap.size w w'
/-- A number and a code are handed back. -/
def RetI (V C : Int) (w : World) (e : Ending) (w' : World) : Prop := e = .returned (.tuple #[.int .i64 V, .int .i64 C]) ∧ Below w.heap.size w w'
end Go.Proofs.Ytcamegdjdjacpaa

namespace Go.Proofs.Ytcamegdjdjacpaa
open Go.RowKit Go.ChangeShapes Go.WideShapes
set_option linter.unusedVariables false

/-- Blocks outside lo up to hi are as they were; there may be new ones. -/
structure OffG (lo hi : Nat) (w w' : World) : Prop where
  os : w'.os = w.os
  tape : w'.tape = w.tape
  output : w'.output = w.output
  size : w.heap.size ≤ w'.heap.size
  block : ∀ k, k < w.heap.size → (k < lo ∨ hi ≤ k) → w'.heap[k]? = w.heap[k]?
theorem OffG.same {lo hi lo' hi' : Nat} {w w' : World} (h : OffG lo hi w w') (k : hi' ≤ lo ∨ hi ≤ lo') (hz : hi' ≤ w.heap.size) : Same lo' hi' w w' := fun i i0 i1 => h.block i (by omega) (by omega)
theorem OffG.below {B lo hi : Nat} {w w' : World} (h : OffG lo hi w w') (hB : B ≤ lo) (hw : lo ≤ w.heap.size) : Below B w w' := ⟨h.os, h.tape, h.output, h.size, fun k hk => h.block k (by omega) (by omega)⟩

theorem OffG.cell {lo hi : Nat} {w w' : World} (h : OffG lo hi w w') {p : Addr} (k0 : p.block < w.heap.size) (k : p.block < lo ∨ hi ≤ p.block) : w'.cell? p = w.cell? p := World.cell?_of_block (w := w) (h.block p.block k0 k)
theorem Off.cell {lo hi : Nat} {w w' : World} (h : Off lo hi w w') {p : Addr} (k : p.block < lo ∨ hi ≤ p.block) : w'.cell? p = w.cell? p := World.cell?_of_block (w := w) (h.block p.block k)
theorem below_alloc (w : World) (o : Obj) : Below w.heap.size w (w.alloc o) := (Below.refl _ _).alloc (Nat.le_refl _) o
theorem below_drew (w : World) : Below w.heap.size w w.drew := (Below.refl _ _).drew
theorem size_alloc (w : World) (o : Obj) : w.heap.size ≤ (w.alloc o).heap.size := by simp
theorem size_drew (w : World) : w.heap.size ≤ w.drew.heap.size := Nat.le_refl _
theorem lt_alloc (w : World) (o : Obj) : w.heap.size < (w.alloc o).heap.size := by simp
theorem nw0 (w : World) (x y : Value) (t : TypeId) : (w.alloc (.cells #[x, y] t)).cell? ⟨w.heap.size, 0, none⟩ = some x := by simp [go_sem]
theorem nw1 (w : World) (x y : Value) (t : TypeId) : (w.alloc (.cells #[x, y] t)).cell? ⟨w.heap.size, 1, none⟩ = some y := by simp [go_sem]

theorem OwnR.mono' {lo hi lo' hi' : Nat} {w : World} {a : Option Addr} {zs : List Int} (h : OwnR lo hi w a zs) (h0 : lo' ≤ lo) (h1 : hi ≤ hi') : OwnR lo' hi' w a zs := by
  rcases h with h | ⟨b, o, ha, k0, k1, hc⟩
  · exact .inl h
  · exact .inr ⟨b, o, ha, by omega, by omega, hc⟩
end Go.Proofs.Ytcamegdjdjacpaa

namespace Go.Proofs.Ytcamegdjdjacpaa
open Go.RowKit
set_option linter.unusedVariables false

def isSp (p : Int) (S : List Int) : Bool := prm p && decide (1 ≤ S.length ∧ S.length ≤ 6) && S.all (inr p)
structure Spa (p : Int) (S : List Int) : Prop where
  prime : prm p = true
  lo : 1 ≤ S.length
  hi : S.length ≤ 6
  all : S.all (inr p) = true
theorem isSp_iff {p : Int} {S : List Int} : isSp p S = true ↔ Spa p S := by
  unfold isSp
  simp only [Bool.and_eq_true, decide_eq_true_eq]
  exact ⟨fun h => ⟨h.1.1, h.1.2.1, h.1.2.2, h.2⟩, fun h => ⟨⟨h.prime, h.lo, h.hi⟩, h.all⟩⟩
theorem isSp_no {p : Int} {S : List Int} (h : ¬ Spa p S) : isSp p S = false := by
  cases e : isSp p S with
  | false => rfl
  | true => exact absurd (isSp_iff.1 e) h
theorem Spa.num {p : Int} {S : List Int} (h : Spa p S) {j : Nat} (hj : j < S.length) : 0 ≤ S.getD j 0 ∧ S.getD j 0 < p := by
  have ha := h.all
  rw [List.all_eq_true] at ha
  exact inr_iff.1 (ha _ (by rw [getD_at hj]; exact List.getElem_mem hj))

set_option maxHeartbeats 800000 in
theorem isSpace_any (p : Int) (a : Option Addr) (S : List Int) (c lo tp : Nat) (w : World) (h : RowIn lo tp w a S) (ht : tp ≤ w.heap.size) (hs : S.length ≤ 1048576) :
    Calls Try.prog 61 #[.agg #[.int .i64 p, .slice a S.length c]] w fun e w' => e = .returned (.bool (isSp p S)) ∧ Below w.heap.size w w' := by
  have H := Lib.hid h
  clear h
  by_cases h1 : 1 ≤ S.length
  · by_cases h2 : S.length ≤ 6
    · rcases code_cases p S with ⟨hp, hc⟩ | ⟨hp, ha, hc⟩ | ⟨hp, ha, hc⟩
      · have HC := Lib.hid hc
        have HV : Hid (isSp p S = false) := isSp_no (fun k => by have := k.prime; rw [hp] at this; cases this)
        clear hc hp
        go_enter Try.func61, Try.ntmps61
        go_wp2_with (go_at_call 129; (with_reducible refine (checkRow_any p a S c lo tp _ (H.out.below ((Below.refl _ _).alloc (Nat.le_refl _) _) ht) (by omega)).mono ?_); rintro e w1 ⟨rfl, rfl⟩; rw [HC.out])
        go_ret
        exact ⟨by rw [HV.out]; rfl, by ((repeat' (first | with_reducible exact Below.refl _ _ | (with_reducible refine Below.setCell ?_ ?_ _) | (with_reducible refine Below.alloc ?_ ?_ _) | (with_reducible refine Below.drew ?_))); all_goals (first | (simp; done) | omega | (simp; omega)))⟩
      · have HC := Lib.hid hc
        have HV : Hid (isSp p S = true) := isSp_iff.2 ⟨hp, h1, h2, ha⟩
        clear hc hp ha
        go_enter Try.func61, Try.ntmps61
        go_wp2_with (go_at_call 129; (with_reducible refine (checkRow_any p a S c lo tp _ (H.out.below ((Below.refl _ _).alloc (Nat.le_refl _) _) ht) (by omega)).mono ?_); rintro e w1 ⟨rfl, rfl⟩; rw [HC.out])
        go_ret
        exact ⟨by rw [HV.out]; rfl, by ((repeat' (first | with_reducible exact Below.refl _ _ | (with_reducible refine Below.setCell ?_ ?_ _) | (with_reducible refine Below.alloc ?_ ?_ _) | (with_reducible refine Below.drew ?_))); all_goals (first | (simp; done) | omega | (simp; omega)))⟩
      · have HC := Lib.hid hc
        have HV : Hid (isSp p S = false) := isSp_no (fun k => by have := k.all; rw [ha] at this; cases this)
        clear hc hp ha
        go_enter Try.func61, Try.ntmps61
        go_wp2_with (go_at_call 129; (with_reducible refine (checkRow_any p a S c lo tp _ (H.out.below ((Below.refl _ _).alloc (Nat.le_refl _) _) ht) (by omega)).mono ?_); rintro e w1 ⟨rfl, rfl⟩; rw [HC.out])
        go_ret
        exact ⟨by rw [HV.out]; rfl, by ((repeat' (first | with_reducible exact Below.refl _ _ | (with_reducible refine Below.setCell ?_ ?_ _) | (with_reducible refine Below.alloc ?_ ?_ _) | (with_reducible refine Below.drew ?_))); all_goals (first | (simp; done) | omega | (simp; omega)))⟩
    · have HV : Hid (isSp p S = false) := isSp_no (fun k => h2 k.hi)
      go_enter Try.func61, Try.ntmps61
      go_wp2
      go_ret
      exact ⟨by rw [HV.out]; rfl, by ((repeat' (first | with_reducible exact Below.refl _ _ | (with_reducible refine Below.setCell ?_ ?_ _) | (with_reducible refine Below.alloc ?_ ?_ _) | (with_reducible refine Below.drew ?_))); all_goals (first | (simp; done) | omega | (simp; omega)))⟩
  · have HV : Hid (isSp p S = false) := isSp_no (fun k => h1 k.lo)
    go_enter Try.func61, Try.ntmps61
    go_wp2
    go_ret
    exact ⟨by rw [HV.out]; rfl, by ((repeat' (first | with_reducible exact Below.refl _ _ | (with_reducible refine Below.setCell ?_ ?_ _) | (with_reducible refine Below.alloc ?_ ?_ _) | (with_reducible refine Below.drew ?_))); all_goals (first | (simp; done) | omega | (simp; omega)))⟩

set_option maxHeartbeats 800000 in
theorem l03Is_any (p : Int) (a : Option Addr) (S : List Int) (c lo tp : Nat) (w : World) (h : RowIn lo tp w a S) (ht : tp ≤ w.heap.size) (hs : S.length ≤ 1048576) :
    Calls Try.prog 92 #[.agg #[.int .i64 p, .slice a S.length c]] w fun e w' => e = .returned (.bool (isSp p S)) ∧ Below w.heap.size w w' := by
  have H := Lib.hid h
  clear h
  by_cases hp : prm p = true
  · have HP := Lib.hid hp
    clear hp
    by_cases h1 : 1 ≤ S.length ∧ S.length ≤ 6
    · have hb : (1 : Int) ≤ (S.length : Int) ∧ (S.length : Int) ≤ 6 := by omega
      by_cases ha : S.all (inr p) = true
      · have HA := Lib.hid ha
        have HV : Hid (isSp p S = true) := isSp_iff.2 ⟨HP.out, h1.1, h1.2, ha⟩
        clear ha h1
        go_enter Try.func92, Try.ntmps92
        go_wp2_with (first | (go_at_call 170; refine (l01Prime_any _ _).mono ?_; rintro e w1 ⟨rfl, rfl⟩; rw [HP.out]) | (go_at_call 151; refine (l01In_yes _ _ _ _ hb.1 hb.2).mono ?_; rintro e w1 ⟨rfl, rfl⟩) | (go_at_call 164; (with_reducible refine (numsRow p a S c lo tp _ HP.out (H.out.below ((Below.refl _ _).alloc (Nat.le_refl _) _) ht) (by omega)).mono ?_); rintro e w1 ⟨rfl, rfl⟩; rw [HA.out]))
        go_ret
        exact ⟨by rw [HV.out]; rfl, by ((repeat' (first | with_reducible exact Below.refl _ _ | (with_reducible refine Below.setCell ?_ ?_ _) | (with_reducible refine Below.alloc ?_ ?_ _) | (with_reducible refine Below.drew ?_))); all_goals (first | (simp; done) | omega | (simp; omega)))⟩
      · have HA : Hid (S.all (inr p) = false) := by show _ = _; simpa using ha
        have HV : Hid (isSp p S = false) := isSp_no (fun k => ha k.all)
        clear ha h1
        go_enter Try.func92, Try.ntmps92
        go_wp2_with (first | (go_at_call 170; refine (l01Prime_any _ _).mono ?_; rintro e w1 ⟨rfl, rfl⟩; rw [HP.out]) | (go_at_call 151; refine (l01In_yes _ _ _ _ hb.1 hb.2).mono ?_; rintro e w1 ⟨rfl, rfl⟩) | (go_at_call 164; (with_reducible refine (numsRow p a S c lo tp _ HP.out (H.out.below ((Below.refl _ _).alloc (Nat.le_refl _) _) ht) (by omega)).mono ?_); rintro e w1 ⟨rfl, rfl⟩; rw [HA.out]))
        go_ret
        exact ⟨by rw [HV.out]; rfl, by ((repeat' (first | with_reducible exact Below.refl _ _ | (with_reducible refine Below.setCell ?_ ?_ _) | (with_reducible refine Below.alloc ?_ ?_ _) | (with_reducible refine Below.drew ?_))); all_goals (first | (simp; done) | omega | (simp; omega)))⟩
    · have hb : ¬ ((1 : Int) ≤ (S.length : Int) ∧ (S.length : Int) ≤ 6) := by omega
      have HB := Lib.hid hb
      have HV : Hid (isSp p S = false) := isSp_no (fun k => h1 ⟨k.lo, k.hi⟩)
      clear h1 hb
      go_enter Try.func92, Try.ntmps92
      go_wp2_with (first | (go_at_call 170; refine (l01Prime_any _ _).mono ?_; rintro e w1 ⟨rfl, rfl⟩; rw [HP.out]) | (go_at_call 151; refine (l01In_no _ _ _ _ HB.out).mono ?_; rintro e w1 ⟨rfl, rfl⟩))
      go_ret
      exact ⟨by rw [HV.out]; rfl, by ((repeat' (first | with_reducible exact Below.refl _ _ | (with_reducible refine Below.setCell ?_ ?_ _) | (with_reducible refine Below.alloc ?_ ?_ _) | (with_reducible refine Below.drew ?_))); all_goals (first | (simp; done) | omega | (simp; omega)))⟩
  · have HP : Hid (prm p = false) := by show _ = _; simpa using hp
    have HV : Hid (isSp p S = false) := isSp_no (fun k => hp k.prime)
    clear hp
    go_enter Try.func92, Try.ntmps92
    go_wp2_with (first | (go_at_call 170; refine (l01Prime_any _ _).mono ?_; rintro e w1 ⟨rfl, rfl⟩; rw [HP.out]))
    go_ret
    exact ⟨by rw [HV.out]; rfl, by ((repeat' (first | with_reducible exact Below.refl _ _ | (with_reducible refine Below.setCell ?_ ?_ _) | (with_reducible refine Below.alloc ?_ ?_ _) | (with_reducible refine Below.drew ?_))); all_goals (first | (simp; done) | omega | (simp; omega)))⟩

end Go.Proofs.Ytcamegdjdjacpaa

namespace Go.Proofs.Ytcamegdjdjacpaa
open Go.RowKit
set_option linter.unusedVariables false

def isVec (p : Int) (n : Nat) (v : List Int) : Bool := decide (v.length = n) && v.all (inr p)
structure Vec (p : Int) (n : Nat) (v : List Int) : Prop where
  len : v.length = n
  all : v.all (inr p) = true
theorem isVec_iff {p : Int} {n : Nat} {v : List Int} : isVec p n v = true ↔ Vec p n v := by
  unfold isVec
  simp only [Bool.and_eq_true, decide_eq_true_eq]
  exact ⟨fun h => ⟨h.1, h.2⟩, fun h => ⟨h.len, h.all⟩⟩
theorem Vec.num {p : Int} {n : Nat} {v : List Int} (h : Vec p n v) {j : Nat} (hj : j < n) : 0 ≤ v.getD j 0 ∧ v.getD j 0 < p := by
  have ha := h.all
  have hl := h.len
  rw [List.all_eq_true] at ha
  exact inr_iff.1 (ha _ (by rw [getD_at (by omega : j < v.length)]; exact List.getElem_mem _))
/-- The sum of products up to i. -/
def psum (S v w : List Int) (i : Nat) : Int := sm i fun j => v.getD j 0 * w.getD j 0 * S.getD j 0
def pairN (p : Int) (S v w : List Int) : Int := psum S v w S.length % p
theorem prod3 {p x y z : Int} (hp : p ≤ 13) (x0 : 0 ≤ x) (x1 : x < p) (y0 : 0 ≤ y) (y1 : y < p) (z0 : 0 ≤ z) (z1 : z < p) : 0 ≤ x * y ∧ x * y ≤ 144 ∧ 0 ≤ x * y * z ∧ x * y * z ≤ 1728 := by
  have a0 : 0 ≤ x * y := Int.mul_nonneg x0 y0
  have a1 : x * y ≤ 12 * 12 := Int.le_trans (Int.mul_le_mul_of_nonneg_right (by omega : x ≤ 12) y0) (Int.mul_le_mul_of_nonneg_left (by omega) (by omega))
  have b0 : 0 ≤ x * y * z := Int.mul_nonneg a0 z0
  have b1 : x * y * z ≤ 144 * 12 := Int.le_trans (Int.mul_le_mul_of_nonneg_right (by omega : x * y ≤ 144) z0) (Int.mul_le_mul_of_nonneg_left (by omega) (by omega))
  omega
theorem psum_bd {p : Int} {S v w : List Int} {n : Nat} (hp : p ≤ 13) (hS : ∀ j, j < n → 0 ≤ S.getD j 0 ∧ S.getD j 0 < p) (hv : ∀ j, j < n → 0 ≤ v.getD j 0 ∧ v.getD j 0 < p) (hw : ∀ j, j < n → 0 ≤ w.getD j 0 ∧ w.getD j 0 < p) {i : Nat} (hi : i ≤ n) :
    0 ≤ psum S v w i ∧ psum S v w i ≤ i * 1728 :=
  sm_bd (fun j hj => by
    obtain ⟨_, _, h3, h4⟩ := prod3 hp (hv j (by omega)).1 (hv j (by omega)).2 (hw j (by omega)).1 (hw j (by omega)).2 (hS j (by omega)).1 (hS j (by omega)).2
    exact ⟨h3, h4⟩)
theorem psum_step (p s x y z : Int) : (s % p + x * y % p * z) % p = (s + x * y * z) % p := by
  rw [Int.add_emod, Int.emod_emod, Int.mul_emod (x * y % p), Int.emod_emod, ← Int.mul_emod, ← Int.add_emod]

set_option maxRecDepth 100000 in
set_option maxHeartbeats 3200000 in
theorem l03Pair_any (p : Int) (aS : Option Addr) (S : List Int) (cS loS tpS : Nat) (av : Option Addr) (v : List Int) (cv lov tpv : Nat) (aw : Option Addr) (u : List Int) (cu lou tpu : Nat) (w : World)
    (hS : RowIn loS tpS w aS S) (tS : tpS ≤ w.heap.size) (hv : RowIn lov tpv w av v) (tv : tpv ≤ w.heap.size) (hu : RowIn lou tpu w aw u) (tu : tpu ≤ w.heap.size) (hs : isSp p S = true) (h1 : isVec p S.length v = true) (h2 : isVec p S.length u = true) :
    Calls Try.prog 94 #[.agg #[.int .i64 p, .slice aS S.length cS], .slice av v.length cv, .slice aw u.length cu] w fun e w' => e = .returned (.int .i64 (pairN p S v u)) ∧ Below w.heap.size w w' := by
  have K := isSp_iff.1 hs
  have V := isVec_iff.1 h1
  have U := isVec_iff.1 h2
  have hpb := prm_bd K.prime
  have hS6 := K.hi
  have hvl := V.len
  have hul := U.len
  have HS := Lib.hid hS
  have HV := Lib.hid hv
  have HU := Lib.hid hu
  have HK := Lib.hid K
  have HVN := Lib.hid V
  have HUN := Lib.hid U
  have HVL := Lib.hid hvl
  have HUL := Lib.hid hul
  rw [hvl, hul]
  clear hS hv hu hs h1 h2 K V U hvl hul
  go_enter Try.func94, Try.ntmps94
  go_wp2
  obtain ⟨n, hn⟩ : ∃ n, n = S.length := ⟨_, rfl⟩
  rw [← hn] at hS6 HVL HUL
  have HN := Lib.hid hn
  have hn1 : S.length ≤ n ∧ n ≤ S.length := by omega
  rw [← hn]
  clear hn
  go_loopw [7, 8] (fun s t wr => ∃ i : Nat, i ≤ n ∧ s = .int .i64 (psum S v u i % p) ∧ t = .int .i64 i ∧ Quiet (w.alloc (.cells #[.int .i64 p, .slice aS n cS] 26)) wr) (fun _ t _ => n - (intOf t).toNat)
  case atStart => exact ⟨0, Nat.zero_le _, by simp [psum, sm], rfl, Quiet.refl _⟩
  case round =>
    obtain ⟨i, hi, rfl, rfl, hq⟩ := hrel
    have HQ := Lib.hid hq
    have hb0 := (hq.cell ⟨w.heap.size, 0, none⟩).trans (nw0 w _ _ _)
    have hb1 := (hq.cell ⟨w.heap.size, 1, none⟩).trans (nw1 w _ _ _)
    have hqb := (below_alloc w (.cells #[.int .i64 p, .slice aS n cS] 26)).trans (hq.below _)
    by_cases hlt : i < n
    · obtain ⟨bs, os, ha1, _, _, cs⟩ := (HS.out.below hqb tS).num (by omega : i < S.length)
      obtain ⟨bv, ov, ha2, _, _, cv'⟩ := (HV.out.below hqb tv).num (by rw [HVL.out]; exact hlt)
      obtain ⟨bu, ou, ha3, _, _, cu'⟩ := (HU.out.below hqb tu).num (by rw [HUL.out]; exact hlt)
      subst ha1
      subst ha2
      subst ha3
      obtain ⟨x0, x1⟩ := HVN.out.num (by omega : i < S.length)
      obtain ⟨y0, y1⟩ := HUN.out.num (by omega : i < S.length)
      obtain ⟨z0, z1⟩ := HK.out.num (by omega : i < S.length)
      obtain ⟨q0, q1⟩ := mod_bd HK.out.prime (psum S v u i)
      have HST : Hid (∀ s x y z : Int, s = psum S v u i % p → x = v.getD i 0 → y = u.getD i 0 → z = S.getD i 0 → (s + x * y % p * z) % p = psum S v u (i + 1) % p) := by
        intro s x y z e1 e2 e3 e4
        subst e1 e2 e3 e4
        exact psum_step p _ _ _ _
      obtain ⟨s, hs⟩ : ∃ s, s = psum S v u i % p := ⟨_, rfl⟩
      obtain ⟨x, hx⟩ : ∃ x, x = v.getD i 0 := ⟨_, rfl⟩
      obtain ⟨y, hy⟩ : ∃ y, y = u.getD i 0 := ⟨_, rfl⟩
      obtain ⟨z, hz⟩ : ∃ z, z = S.getD i 0 := ⟨_, rfl⟩
      have HE := Lib.hid (HST.out s x y z hs hx hy hz)
      rw [← hs] at q0 q1
      rw [← hx] at cv' x0 x1
      rw [← hy] at cu' y0 y1
      rw [← hz] at cs z0 z1
      rw [← hs]
      clear hs hx hy hz HST hq hqb
      obtain ⟨p1, p2, _, _⟩ := prod3 hpb.2 x0 x1 y0 y1 z0 z1
      have m0 := Int.emod_nonneg (x * y) (by omega : p ≠ 0)
      have m1 := Int.emod_lt_of_pos (x * y) (by omega : 0 < p)
      obtain ⟨p3, p4, _, _⟩ := prod3 hpb.2 m0 m1 z0 z1 z0 z1
      have e1 : IntKind.i64.wrap (x * y) = x * y := IntWalk.i64_in _ (by omega)
      have e2 : (x * y).tmod p = x * y % p := Int.tmod_eq_emod_of_nonneg p1
      have e3 : IntKind.i64.wrap (x * y % p * z) = x * y % p * z := IntWalk.i64_in _ (by omega)
      have e4 : IntKind.i64.wrap (s + x * y % p * z) = s + x * y % p * z := IntWalk.i64_in _ (by omega)
      have e5 : (s + x * y % p * z).tmod p = (s + x * y % p * z) % p := Int.tmod_eq_emod_of_nonneg (by omega)
      have hp0 : ¬ p = 0 := by omega
      have hp1 : (p == 0) = false := by simpa using hp0
      have hi1 : (i : Int) < (n : Int) := by omega
      go_wp2
      go_quiet (fail)
      clear e1 e2 e3 e4 e5
      go_wp2
      go_roundw
      case rel => exact ⟨i + 1, by omega, by rw [HE.out], by go_num, HQ.out.next _⟩
      case measure => simp [intOf]; omega
    · have hin : i = n := by omega
      subst hin
      have HE : Hid (psum S v u i % p = pairN p S v u) := by show _ = _; unfold pairN; rw [HN.out]
      rw [HE.out]
      clear hq hb0 hb1 hqb
      go_wp2
      go_ret
      exact ⟨rfl, (below_alloc w _).trans (HQ.out.below _)⟩

end Go.Proofs.Ytcamegdjdjacpaa
