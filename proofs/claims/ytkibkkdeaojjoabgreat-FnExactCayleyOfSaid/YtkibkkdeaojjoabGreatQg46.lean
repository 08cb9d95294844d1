/-
  Versors (model): contracts of the program and of the model.
  Conditions: the lists are nil or rows of known cells, of at most 1048576 numbers.
  The model's GramOf: contract.
  Conditions: the lists are nil or rows of known cells, of at most 1048576 numbers.
  The program's Gram matrices: the walk.
  Conditions: the lists are nil or rows of known cells, of at most 1048576 numbers.
  The program's GramOf: contract.
  Conditions: the lists are nil or rows of known cells, of at most 1048576 numbers.
  Products of vectors: symmetric, linear, norms of sums. No Go in sight.
  No conditions.
  Geometric products of vectors: twice their product, squares are norms. No Go in sight.
  No conditions.
  The source that the model draws from: what stays as it is while numbers are drawn.
  No conditions.
  What the model's draws are: a number in its range.
  Conditions: the source is one, of at most 4096 bytes.
  What the model's source picks: one of a list.
  Conditions: the source is one, of at most 4096 bytes; the list is a row of known cells in another block.
  The model's source of a code, and what it draws first: a prime or not, numbers or not.
  Conditions: the code is a row of at most 4096 known bytes.
  Draws of lists and vectors: contracts.
  Conditions: the source stands in a block of known cells.
  Draws of vectors: contracts.
  Conditions: the source stands in a block of known cells.
  Draws of spaces: contracts.
  Conditions: the source stands in a block of known cells.
  Draws of spaces, and of what is none: contracts.
  Conditions: the source stands in a block of known cells.
  What the laws' draws are: a number in its range.
  Conditions: the source is one, of at most 4096 bytes.
  The dice of the laws, made of a code.
  Conditions: the code is a row of at most 4096 known bytes.
  The draw of a space and two lists: contract.
  Conditions: the code is nil or a row of known bytes, of at most 4096.
  Bounds of whole numbers of 64 bits, and what the model's remainder is.
  Conditions: the prime is one.
  What the model draws for pairs of numbers, and the law's own remainder.
  Conditions: the code is a row of at most 4096 known bytes; the prime of a remainder is one.
  Helpers of the laws with draws: contracts.
  Conditions: lists are nil or rows of known cells.
  size5, times5, vector5, plus5: contracts of the program and of the model.
  Conditions: the lists are nil or rows of known cells, of at most 1048576 numbers.
  Products of multivectors: they distribute, and their scalars don't depend on the order of two factors.
  Conditions: none.
  Versors: products of vectors are versors, and their sandwiches the reflections. No Go in sight.
  No conditions.
  Versors: products of vectors are versors, their sandwiches are the reflections, the last one first. No Go in sight.
  No conditions.
  Versors: the sandwich of a product of vectors is the reflections in them, the last one first. No Go in sight.
  No conditions.
  VersorBetween (program): contracts of the program and of the model.
  Conditions: the lists are nil or rows of known cells, of at most 1048576 numbers.
  The versor between two vectors of the same norm leads the one to the other one. No Go in sight.
  No conditions.
  What an isometry is: by columns, and by the program's way. No Go in sight.
  No conditions.
  Orthogonal matrices: decompositions into reflections. No Go in sight.
  No conditions.
  The model's l03Isometry: contract.
  Conditions: both are spaces; the matrix is nil or of rows of known cells, of at most 1048576 numbers together.
  slices.EqualFunc of lists of rows, the rows compared by slices.Equal.
  Conditions: rows of rows of known cells, at most 1024 rows of at most 1048576 numbers.
  IsIsometry: contracts of the program and of the model.
  Conditions: the lists are nil or rows of known cells, of at most 1048576 numbers.
  Orthogonal matrices: codes: contracts of the program and of the model.
  Conditions: the lists are nil or rows of known cells, of at most 1048576 numbers.
  Orthogonal matrices (program): contracts of the program and of the model.
  Conditions: the lists are nil or rows of known cells, of at most 1048576 numbers.
  CayleyBack: values, the program: contracts of the program and of the model.
  Conditions: the lists are nil or rows of known cells, of at most 1048576 numbers.
-/
import Derived.Test.YtkibkkdeaojjoabGreatQg44
import Derived.Test.YtkibkkdeaojjoabGreatQg42
import Derived.Test.YtkibkkdeaojjoabGreatQg8
import Derived.Deep.RegionHeld3
import Derived.Deep.DeepCutAuto
import Derived.Test.YtkibkkdeaojjoabGreatQg41
import Derived.Test.YtkibkkdeaojjoabGreatQg7
import Derived.Test.YtkibkkdeaojjoabGreatQg12
import Derived.Test.YtkibkkdeaojjoabGreatQg9
import Derived.Test.YtkibkkdeaojjoabGreatQg34
import Derived.Test.YtkibkkdeaojjoabGreatQg1
import Derived.Deep.Draws
import Derived.WalkKit
import Derived.Test.YtkibkkdeaojjoabGreatRows
import Derived.LoopTactic
import Derived.Lib.Hide
import Derived.BigQuiet
import Derived.Deep.QuietTactic
import Derived.Laws.Bits64
import Derived.Laws.BitsAllLaws
import Derived.RegionTactic
import Derived.Deep.RegionWith
import Derived.Test.YtkibkkdeaojjoabGreatQg21
import Derived.Test.YtkibkkdeaojjoabGreatQg33
import Derived.Test.YtkibkkdeaojjoabGreatQg3
import Derived.Test.YtkibkkdeaojjoabGreatQg4
import Derived.Test.YtkibkkdeaojjoabGreatQg40
import Derived.Test.YtkibkkdeaojjoabGreatQg38
import Derived.Test.YtkibkkdeaojjoabGreatQg35
import Derived.Test.YtkibkkdeaojjoabGreatQg16
import Derived.Test.YtkibkkdeaojjoabGreatQg25
import Derived.Test.YtkibkkdeaojjoabGreatQg29
import Derived.Test.YtkibkkdeaojjoabGreatQg5
import Derived.Test.YtkibkkdeaojjoabGreatQg30
import Derived.Test.YtkibkkdeaojjoabGreatQg27
import Derived.Test.YtkibkkdeaojjoabGreatQg15
import Derived.Test.YtkibkkdeaojjoabGreatQg32
import Derived.Test.YtkibkkdeaojjoabGreatQg45
namespace Go.Proofs.YtkibkkdeaojjoabGreat
open Go.RowKit
set_option linter.unusedVariables false

def eF (S : List Int) (i j : Nat) : Int := fz S (2 ^ i) (2 ^ j) S.length
end Go.Proofs.YtkibkkdeaojjoabGreat

namespace Go.Proofs.YtkibkkdeaojjoabGreat
open Go.RowKit
set_option linter.unusedVariables false

/-- Of what was there, block b alone may have turned. -/
structure Only (b : Nat) (w w' : World) : Prop where
  os : w'.os = w.os
  tape : w'.tape = w.tape
  output : w'.output = w.output
  size : w.heap.size ≤ w'.heap.size
  block : ∀ k, k < w.heap.size → k ≠ b → w'.heap[k]? = w.heap[k]?

theorem Only.refl (b : Nat) (w : World) : Only b w w := ⟨rfl, rfl, rfl, Nat.le_refl _, fun _ _ _ => rfl⟩
theorem Only.trans {b : Nat} {u v w : World} (h : Only b u v) (k : Only b v w) : Only b u w :=
  ⟨k.os.trans h.os, k.tape.trans h.tape, k.output.trans h.output, Nat.le_trans h.size k.size, fun i hi hn => (k.block i (Nat.lt_of_lt_of_le hi h.size) hn).trans (h.block i hi hn)⟩
theorem Only.drew {b : Nat} {u w : World} (h : Only b u w) : Only b u w.drew := ⟨h.os, h.tape, h.output, h.size, h.block⟩
theorem Only.drewN {b : Nat} {u w : World} (h : Only b u w) (n : Nat) : Only b u (w.drewN n) := ⟨h.os, h.tape, h.output, h.size, h.block⟩
theorem Only.alloc {b : Nat} {u w : World} (h : Only b u w) (o : Obj) : Only b u (w.alloc o) :=
  h.trans ⟨rfl, rfl, rfl, by simp, fun k hk _ => Below.heap_alloc _ _ _ hk⟩
theorem Only.setCell {b : Nat} {u w : World} (h : Only b u w) {p : Addr} (hp : p.block = b ∨ u.heap.size ≤ p.block) (x : Value) : Only b u (w.setCell p x) :=
  ⟨h.os, h.tape, h.output, by simpa [World.setCell] using h.size, fun k hk hn => (Below.heap_setCell _ _ _ _ (by rcases hp with hp | hp <;> omega)).trans (h.block k hk hn)⟩
theorem Only.set (b o : Nat) (w : World) (x : Value) : Only b w (w.setCell ⟨b, o, none⟩ x) := (Only.refl b w).setCell (p := ⟨b, o, none⟩) (.inl rfl) x
theorem Only.of_below {b : Nat} {u w : World} (h : Below u.heap.size u w) : Only b u w := ⟨h.os, h.tape, h.output, h.size, fun k hk _ => h.block k hk⟩
theorem Only.step {b : Nat} {u v w : World} (h : Only b u v) (k : Below v.heap.size v w) : Only b u w := h.trans (Only.of_below k)
theorem Only.below {b B : Nat} {u w : World} (h : Only b u w) (hB : B ≤ b) (hs : B ≤ u.heap.size) : Below B u w :=
  ⟨h.os, h.tape, h.output, h.size, fun k hk => h.block k (by omega) (by omega)⟩
theorem Only.cell {b : Nat} {u w : World} (h : Only b u w) {p : Addr} (hp : p.block < u.heap.size) (hn : p.block ≠ b) : w.cell? p = u.cell? p := World.cell?_of_block (w := u) (h.block p.block hp hn)
theorem Only.frozen {b : Nat} {u w : World} (h : Only b u w) {p : Addr} (hp : p.block < u.heap.size) (hn : p.block ≠ b) : w.frozen? p = u.frozen? p := World.frozen?_of_block (w := u) (h.block p.block hp hn)

/-- Bytes that a slice leads to: none, or a row of known cells in a block before b. -/
def Bytes (w : World) (b : Nat) (a : Option Addr) (len : Nat) (zs : List Int) : Prop :=
  len = 0 ∨ ∃ xb xo : Nat, a = some ⟨xb, xo, none⟩ ∧ xb < b ∧ xb < w.heap.size ∧ ∀ i, i < len → (0 ≤ zs.getD i 0 ∧ zs.getD i 0 ≤ 255) ∧ w.cell? ⟨xb, xo + i, none⟩ = some (.int .u8 (zs.getD i 0))
theorem Bytes.only {w w' : World} {b : Nat} {a : Option Addr} {len : Nat} {zs : List Int} (h : Bytes w b a len zs) (ho : Only b w w') : Bytes w' b a len zs := by
  rcases h with h | ⟨xb, xo, ha, hb, hs, hc⟩
  · exact .inl h
  · exact .inr ⟨xb, xo, ha, hb, Nat.lt_of_lt_of_le hs ho.size, fun i hi => ⟨(hc i hi).1, (ho.cell (p := ⟨xb, xo + i, none⟩) hs (by show xb ≠ b; omega)).trans (hc i hi).2⟩⟩

/-- The source at block b: its bytes, how many are used up, its state. -/
structure SrcAt (w : World) (b : Nat) (a : Option Addr) (len cap : Nat) (zs : List Int) (at_ : Nat) (h : Int) : Prop where
  lt : b < w.heap.size
  c0 : w.cell? ⟨b, 0, none⟩ = some (.slice a len cap)
  c1 : w.cell? ⟨b, 1, none⟩ = some (.int .i64 at_)
  c2 : w.cell? ⟨b, 2, none⟩ = some (.int .u64 h)
  f1 : w.frozen? ⟨b, 1, none⟩ = false
  f2 : w.frozen? ⟨b, 2, none⟩ = false
  le : at_ ≤ len
  small : len ≤ 4096
  bytes : Bytes w b a len zs
theorem SrcAt.drewN {w : World} {b : Nat} {a : Option Addr} {len cap : Nat} {zs : List Int} {k : Nat} {h : Int} (s : SrcAt w b a len cap zs k h) (n : Nat) : SrcAt (w.drewN n) b a len cap zs k h :=
  ⟨s.lt, s.c0, s.c1, s.c2, s.f1, s.f2, s.le, s.small, s.bytes.only ((Only.refl _ _).drewN n)⟩
/-- .. in some state. -/
def Src (w : World) (b : Nat) (a : Option Addr) (len cap : Nat) (zs : List Int) : Prop := ∃ (at_ : Nat) (h : Int), SrcAt w b a len cap zs at_ h
theorem Src.below {w w' : World} {b : Nat} {a : Option Addr} {len cap : Nat} {zs : List Int} (h : Src w b a len cap zs) (k : Below w.heap.size w w') : Src w' b a len cap zs := by
  obtain ⟨n, x, lt, c0, c1, c2, f1, f2, le, sm, by_⟩ := h
  exact ⟨n, x, Nat.lt_of_lt_of_le lt k.size, (k.cell (p := ⟨b, 0, none⟩) lt).trans c0, (k.cell (p := ⟨b, 1, none⟩) lt).trans c1, (k.cell (p := ⟨b, 2, none⟩) lt).trans c2, (k.frozen (p := ⟨b, 1, none⟩) lt).trans f1, (k.frozen (p := ⟨b, 2, none⟩) lt).trans f2, le, sm, by_.only (Only.of_below k)⟩
theorem Src.alloc {w : World} {b : Nat} {a : Option Addr} {len cap : Nat} {zs : List Int} (h : Src w b a len cap zs) (o : Obj) : Src (w.alloc o) b a len cap zs :=
  h.below ((Below.refl _ _).alloc (Nat.le_refl _) o)

/-- What a draw does: a number in its range; the source alone has turned. -/
def Drawn (P : Int → Prop) (b : Nat) (a : Option Addr) (len cap : Nat) (zs : List Int) (w : World) (e : Ending) (w' : World) : Prop :=
  ∃ x : Int, e = .returned (.int .i64 x) ∧ P x ∧ Only b w w' ∧ Src w' b a len cap zs

end Go.Proofs.YtkibkkdeaojjoabGreat

namespace Go.Proofs.YtkibkkdeaojjoabGreat
open Go.RowKit
set_option linter.unusedVariables false

theorem Drawn.any {P : Int → Prop} {b : Nat} {a : Option Addr} {len cap : Nat} {zs : List Int} {w w1 w' : World} {e : Ending} (ho : Only b w w1) (h : Drawn P b a len cap zs w1 e w') : Drawn (fun _ => True) b a len cap zs w e w' := by
  obtain ⟨x, he, _, hn, hs⟩ := h
  exact ⟨x, he, trivial, ho.trans hn, hs⟩

end Go.Proofs.YtkibkkdeaojjoabGreat

namespace Go.Proofs.YtkibkkdeaojjoabGreat
open Go.RowKit
set_option linter.unusedVariables false

theorem SrcAt.drew {w : World} {b : Nat} {a : Option Addr} {len cap : Nat} {zs : List Int} {k : Nat} {h : Int} (s : SrcAt w b a len cap zs k h) : SrcAt w.drew b a len cap zs k h :=
  ⟨s.lt, s.c0, s.c1, s.c2, s.f1, s.f2, s.le, s.small, s.bytes.only (Only.refl _ _).drew⟩
/-- The code as it comes in: none, or a row of known bytes. -/
def Code8 (w : World) (a : Option Addr) (len : Nat) (zs : List Int) : Prop := Bytes w w.heap.size a len zs

/-- A made source and the rest. -/
theorem Src.step {w w' : World} {b : Nat} {a : Option Addr} {len cap : Nat} {zs : List Int} (h : Src w b a len cap zs) (k : Below w.heap.size w w') : Src w' b a len cap zs := h.below k

end Go.Proofs.YtkibkkdeaojjoabGreat

namespace Go.Proofs.YtkibkkdeaojjoabGreat
open Go.RowKit
set_option linter.unusedVariables false

theorem Src.lt {w : World} {b : Nat} {a : Option Addr} {len cap : Nat} {zs : List Int} (h : Src w b a len cap zs) : b < w.heap.size := by
  obtain ⟨k, x, s⟩ := h
  exact s.lt
/-- Changes at a later block leave the source as it is. -/
theorem Src.far {w w' : World} {b k : Nat} {a : Option Addr} {len cap : Nat} {zs : List Int} (h : Src w b a len cap zs) (ho : Only k w w') (hk : b < k) : Src w' b a len cap zs := by
  obtain ⟨n, x, lt, c0, c1, c2, f1, f2, le, sm, by_⟩ := h
  have hne : b ≠ k := by omega
  refine ⟨n, x, Nat.lt_of_lt_of_le lt ho.size, (ho.cell (p := ⟨b, 0, none⟩) lt hne).trans c0, (ho.cell (p := ⟨b, 1, none⟩) lt hne).trans c1, (ho.cell (p := ⟨b, 2, none⟩) lt hne).trans c2, (ho.frozen (p := ⟨b, 1, none⟩) lt hne).trans f1, (ho.frozen (p := ⟨b, 2, none⟩) lt hne).trans f2, le, sm, ?_⟩
  rcases by_ with h | ⟨xb, xo, ha, hb, hs, hc⟩
  · exact .inl h
  · exact .inr ⟨xb, xo, ha, hb, Nat.lt_of_lt_of_le hs ho.size, fun i hi => ⟨(hc i hi).1, (ho.cell (p := ⟨xb, xo + i, none⟩) hs (by show xb ≠ k; omega)).trans (hc i hi).2⟩⟩
theorem only_of {w w' : World} {row : Option Nat} (h : w.grownBy w' row) {B : Nat} (hr : ∀ k, row = some k → B ≤ k) (hB : B ≤ w.heap.size) : ∃ k, B ≤ k ∧ Only k w w' := by
  cases row with
  | none => exact ⟨w.heap.size, hB, h.os, h.tape, h.output, h.size, fun k hk _ => h.block k hk (by simp)⟩
  | some g => exact ⟨g, hr g rfl, h.os, h.tape, h.output, h.size, fun k hk hne => h.block k hk (by simp; exact fun e => hne e)⟩
theorem Src.grown {w w' : World} {b : Nat} {a : Option Addr} {len cap : Nat} {zs : List Int} {row : Option Nat} (h : Src w b a len cap zs) (hg : w.grownBy w' row) (hr : ∀ k, row = some k → b < k) : Src w' b a len cap zs := by
  obtain ⟨k, hk, ho⟩ := only_of hg (B := b + 1) (fun k e => hr k e) h.lt
  exact h.far ho hk
theorem Only.grown {b : Nat} {u v w : World} {row : Option Nat} (h : Only b u v) (hg : v.grownBy w row) (hr : ∀ k, row = some k → u.heap.size ≤ k) : Only b u w :=
  ⟨hg.os.trans h.os, hg.tape.trans h.tape, hg.output.trans h.output, Nat.le_trans h.size hg.size, fun k hk hne => (hg.block k (Nat.lt_of_lt_of_le hk h.size) (by
    cases row with
    | none => simp
    | some g => simp; intro e; have := hr g rfl; omega)).trans (h.block k hk hne)⟩
theorem OutR.only {B k : Nat} {w w' : World} {v : Value} {zs : List Int} (h : OutR B w v zs) (ho : Only k w w') (hk : k < B) : OutR B w' v zs :=
  World.ownsRow.kept h ⟨ho.os, ho.tape, ho.output, ho.size, fun j hj hne => ho.block j hj (fun e => hne (by rw [e]))⟩ (by
    cases hv : v.ownBlock with
    | none => exact .inl rfl
    | some g => exact .inr (by intro e; injection e with e; have := (World.ownsRow.lt h g hv).1; omega))
theorem OutR.push {B : Nat} {w : World} {v : Value} {X : List Int} {x : Int} (h : w.ownsRow B 2 1 v (X.length + 1) (X.map (Value.int .i64) ++ [.int .i64 x])) : OutR B w v (X ++ [x]) := by
  unfold OutR
  rw [List.length_append, List.map_append]
  exact h

end Go.Proofs.YtkibkkdeaojjoabGreat

namespace Go.Proofs.YtkibkkdeaojjoabGreat
open Go.RowKit
set_option linter.unusedVariables false

/-- Two cells of a struct that may be written. -/
def L2 (w : World) (g : Nat) (u v : Value) : Prop := w.cell? ⟨g, 0, none⟩ = some u ∧ w.cell? ⟨g, 1, none⟩ = some v ∧ w.frozen? ⟨g, 0, none⟩ = false ∧ w.frozen? ⟨g, 1, none⟩ = false
theorem L2.only {w w' : World} {k g : Nat} {u v : Value} (h : L2 w g u v) (ho : Only k w w') (l : g < w.heap.size) (hne : g ≠ k) : L2 w' g u v :=
  ⟨(ho.cell (p := ⟨g, 0, none⟩) l hne).trans h.1, (ho.cell (p := ⟨g, 1, none⟩) l hne).trans h.2.1, (ho.frozen (p := ⟨g, 0, none⟩) l hne).trans h.2.2.1, (ho.frozen (p := ⟨g, 1, none⟩) l hne).trans h.2.2.2⟩
theorem L2.below {w w' : World} {g : Nat} {u v : Value} (h : L2 w g u v) (ho : Below w.heap.size w w') (l : g < w.heap.size) : L2 w' g u v :=
  ⟨(ho.cell (p := ⟨g, 0, none⟩) l).trans h.1, (ho.cell (p := ⟨g, 1, none⟩) l).trans h.2.1, (ho.frozen (p := ⟨g, 0, none⟩) l).trans h.2.2.1, (ho.frozen (p := ⟨g, 1, none⟩) l).trans h.2.2.2⟩
theorem L2.alloc {w : World} {g : Nat} {u v : Value} (h : L2 w g u v) (o : Obj) (l : g < w.heap.size) : L2 (w.alloc o) g u v := h.below (below_alloc w o) l
theorem L2.grown {w w' : World} {row : Option Nat} {g : Nat} {u v : Value} (h : L2 w g u v) (hg : w.grownBy w' row) (l : g < w.heap.size) (hr : ∀ k, row = some k → g < k) : L2 w' g u v := by
  obtain ⟨k, hk, ho⟩ := only_of hg (B := g + 1) (fun k e => hr k e) l
  exact h.only ho l (by omega)
theorem L2.new (w : World) (u v : Value) (T : TypeId) : L2 (w.alloc (.cells #[u, v] T)) w.heap.size u v := by
  refine ⟨?_, ?_, ?_, ?_⟩ <;> simp [go_sem]
theorem L2.far {w : World} {g k i : Nat} {u v : Value} (h : L2 w g u v) (x : Value) (hne : g ≠ k) : L2 (w.setCell ⟨k, i, none⟩ x) g u v :=
  ⟨(World.cell?_setCell_other _ ⟨k, i, none⟩ ⟨g, 0, none⟩ _ (fun e => by injection e with e1; omega)).trans h.1, (World.cell?_setCell_other _ ⟨k, i, none⟩ ⟨g, 1, none⟩ _ (fun e => by injection e with e1; omega)).trans h.2.1, by simp [go_sem, h.2.2.1], by simp [go_sem, h.2.2.2]⟩
theorem OutR.base {B B' : Nat} {w : World} {v : Value} {zs : List Int} (h : OutR B w v zs) (hB : B' ≤ B) : OutR B' w v zs :=
  ⟨h.1, h.2.imp id (fun ⟨g, cap, cur, e, hb, r⟩ => ⟨g, cap, cur, e, Nat.le_trans hB hb, r⟩)⟩
theorem OutR.nil (w : World) (B : Nat) : OutR B w (.slice none 0 0) [] := ⟨rfl, .inl ⟨rfl, rfl⟩⟩
theorem OutR.put {B k i : Nat} {w : World} {v : Value} {zs : List Int} (h : OutR B w v zs) (x : Value) (hk : k < B) : OutR B (w.setCell ⟨k, i, none⟩ x) v zs :=
  h.only (Only.set k i w x) hk
theorem OutR.alloc {B : Nat} {w : World} {v : Value} {zs : List Int} (h : OutR B w v zs) (o : Obj) : OutR B (w.alloc o) v zs := h.below (below_alloc w o)
theorem OutR.drew {B : Nat} {w : World} {v : Value} {zs : List Int} (h : OutR B w v zs) : OutR B w.drew v zs := h.below (below_drew w)

end Go.Proofs.YtkibkkdeaojjoabGreat

namespace Go.Proofs.YtkibkkdeaojjoabGreat
open Go.RowKit
set_option linter.unusedVariables false

theorem OutR.rowIn {B : Nat} {w : World} {r : Option Addr} {n c : Nat} {zs : List Int} (h : OutR B w (.slice r n c) zs) : RowIn B w.heap.size w r zs := by
  obtain ⟨a, d, e, ht⟩ := h.tag
  injection e with e1 e2 e3
  subst e1
  exact ht.row
theorem RowIn.far {lo tp k i : Nat} {w : World} {r : Option Addr} {zs : List Int} (h : RowIn lo tp w r zs) (x : Value) (hk : k < lo ∨ tp ≤ k) : RowIn lo tp (w.setCell ⟨k, i, none⟩ x) r zs :=
  h.same (fun j j0 j1 => Below.heap_setCell _ _ _ _ (by show j ≠ k; omega))
theorem RowIn.only {lo tp k : Nat} {w w' : World} {r : Option Addr} {zs : List Int} (h : RowIn lo tp w r zs) (ho : Only k w w') (hk : k < lo ∨ tp ≤ k) (ht : tp ≤ w.heap.size) : RowIn lo tp w' r zs :=
  h.same (fun j j0 j1 => ho.block j (Nat.lt_of_lt_of_le j1 ht) (by omega))
end Go.Proofs.YtkibkkdeaojjoabGreat

namespace Go.Proofs.YtkibkkdeaojjoabGreat
open Go.RowKit
set_option linter.unusedVariables false

theorem Code8.below {w w' : World} {a : Option Addr} {len : Nat} {zs : List Int} (h : Code8 w a len zs) (k : Below w.heap.size w w') : Code8 w' a len zs := by
  rcases h with h | ⟨xb, xo, ha, hb, hs, hc⟩
  · exact .inl h
  · have := k.size
    exact .inr ⟨xb, xo, ha, by omega, by omega, fun i hi => ⟨(hc i hi).1, (k.cell (p := ⟨xb, xo + i, none⟩) hs).trans (hc i hi).2⟩⟩

end Go.Proofs.YtkibkkdeaojjoabGreat

namespace Go.Proofs.YtkibkkdeaojjoabGreat
open Go.RowKit
set_option linter.unusedVariables false

/-- What the frame knows of a slice of bytes. -/
theorem code8_from {w : World} {a : Option Addr} {len cap : Nat} {zs : List Int}
    (h : (a = none ∧ len = 0 ∧ cap = 0 ∧ zs = []) ∨ ∃ x, a = some x ∧ len ≤ cap ∧ cap ≤ maxLen ∧ zs.length = cap ∧ (∀ i, i < zs.length → w.cell? (x.add i) = some (.int .u8 (zs.getD i 0))) ∧ ∀ n ∈ zs, (Lit.int .u8 n).wf = true) :
    Code8 w a len zs ∧ len ≤ 9223372036854775807 := by
  rcases h with ⟨rfl, rfl, rfl, rfl⟩ | ⟨x, rfl, h1, h2, h3, h4, h5⟩
  · exact ⟨.inl rfl, by omega⟩
  · unfold maxLen at h2
    refine ⟨?_, by omega⟩
    by_cases h0 : len = 0
    · exact .inl h0
    · obtain ⟨xb, off, rfl, hc⟩ := ints_at h4 (by omega)
      have hlt : xb < w.heap.size := World.block_lt_of_cell? w ⟨xb, off + 0, none⟩ (hc 0 (by omega))
      refine .inr ⟨xb, off, rfl, hlt, hlt, fun i hi => ⟨?_, hc i (by omega)⟩⟩
      have hm : zs.getD i 0 ∈ zs := by rw [getD_at (by omega : i < zs.length)]; exact List.getElem_mem _
      have hw := h5 _ hm
      generalize zs.getD i 0 = n at hw
      simp [Lit.wf, IntKind.min, IntKind.max, IntKind.signed, IntKind.bits] at hw
      omega

end Go.Proofs.YtkibkkdeaojjoabGreat

namespace Go.Proofs.YtkibkkdeaojjoabGreat
set_option linter.unusedVariables false

/-- n columns, vectors with the norms of the basis vectors. -/
structure Cols (p : Int) (S : List Int) (C : List (List Int)) : Prop where
  len : C.length = S.length
  vec : ∀ i, i < S.length → isVec p S.length (rw' C i) = true
  nrm : ∀ i, i < S.length → pairN p S (rw' C i) (rw' C i) = S.getD i 0
theorem tr_at {C : List (List Int)} {n i j : Nat} (h0 : (rw' C 0).length = n) (hi : i < n) (hj : j < C.length) : at' (trM C) i j = at' C j i := by
  unfold trM; rw [mk_at _ (by omega) hj]
theorem tr_ln {C : List (List Int)} : (trM C).length = (rw' C 0).length := mk_len _ _ _
theorem tr_rw {C : List (List Int)} {i : Nat} (hi : i < (rw' C 0).length) : rw' (trM C) i = mkR C.length fun j => at' C j i := mk_row _ hi
theorem tr_tr {C : List (List Int)} (h0 : 0 < C.length) (hn : 0 < (rw' C 0).length) (h : ∀ i, i < C.length → (rw' C i).length = (rw' C 0).length) : trM (trM C) = C := by
  have e0 : (rw' (trM C) 0).length = C.length := by rw [tr_rw hn, mkR_len]
  refine mat_ext (by rw [tr_ln, e0]) fun i hi => ?_
  rw [tr_ln, e0] at hi
  rw [tr_rw (by rw [e0]; exact hi), tr_ln]
  refine row_ext (by rw [mkR_len, h i hi]) fun j hj => ?_
  rw [mkR_len] at hj
  rw [mkR_at _ hj, tr_at rfl hj hi]
  rfl
theorem Cols.tr {p : Int} {S : List Int} {C : List (List Int)} (h : Cols p S C) (hn : 0 < S.length) : (trM C).length = S.length ∧ (rw' (trM C) 0).length = S.length ∧ trM (trM C) = C := by
  have e : (rw' C 0).length = S.length := (isVec_iff.1 (h.vec 0 hn)).len
  refine ⟨by rw [tr_ln, e], by rw [tr_rw (by rw [e]; exact hn), mkR_len, h.len], tr_tr (by rw [h.len]; exact hn) (by rw [e]; exact hn) fun i hi => ?_⟩
  rw [(isVec_iff.1 (h.vec i (by rw [← h.len]; exact hi))).len, e]
end Go.Proofs.YtkibkkdeaojjoabGreat

namespace Go.Proofs.YtkibkkdeaojjoabGreat
open Go.RowKit
set_option linter.unusedVariables false

/-- Both spaces in their boxes. -/
def TB (g : Nat) (pS : Int) (aS : Option Addr) (nS cS : Nat) (pT : Int) (aT : Option Addr) (nT cT : Nat) (W : World) : Prop :=
  W.cell? ⟨g, 0, none⟩ = some (.int .i64 pS) ∧ W.cell? ⟨g, 1, none⟩ = some (.slice aS nS cS) ∧ W.cell? ⟨g + 1, 0, none⟩ = some (.int .i64 pT) ∧ W.cell? ⟨g + 1, 1, none⟩ = some (.slice aT nT cT)
theorem TB.below {g nS cS nT cT B : Nat} {pS pT : Int} {aS aT : Option Addr} {w w' : World} (h : TB g pS aS nS cS pT aT nT cT w) (b : Below B w w') (l : g + 1 < B) : TB g pS aS nS cS pT aT nT cT w' :=
  ⟨(b.cell (p := ⟨g, 0, none⟩) (show g < B by omega)).trans h.1, (b.cell (p := ⟨g, 1, none⟩) (show g < B by omega)).trans h.2.1, (b.cell (p := ⟨g + 1, 0, none⟩) l).trans h.2.2.1, (b.cell (p := ⟨g + 1, 1, none⟩) l).trans h.2.2.2⟩
theorem TB.new (w : World) (pS pT : Int) (aS aT : Option Addr) (nS cS nT cT : Nat) (Ty : TypeId) : TB w.heap.size pS aS nS cS pT aT nT cT ((w.alloc (.cells #[.int .i64 pS, .slice aS nS cS] Ty)).alloc (.cells #[.int .i64 pT, .slice aT nT cT] Ty)) := by
  have h1 : (w.alloc (.cells #[.int .i64 pS, .slice aS nS cS] Ty)).heap.size = w.heap.size + 1 := by simp
  have b := below_alloc (w.alloc (.cells #[.int .i64 pS, .slice aS nS cS] Ty)) (.cells #[.int .i64 pT, .slice aT nT cT] Ty)
  refine ⟨(b.cell (p := ⟨w.heap.size, 0, none⟩) (by rw [h1]; exact Nat.lt_succ_self _)).trans (nw0 w _ _ _), (b.cell (p := ⟨w.heap.size, 1, none⟩) (by rw [h1]; exact Nat.lt_succ_self _)).trans (nw1 w _ _ _), ?_, ?_⟩
  · have := nw0 (w.alloc (.cells #[.int .i64 pS, .slice aS nS cS] Ty)) (.int .i64 pT) (.slice aT nT cT) Ty
    rw [h1] at this; exact this
  · have := nw1 (w.alloc (.cells #[.int .i64 pS, .slice aS nS cS] Ty)) (.int .i64 pT) (.slice aT nT cT) Ty
    rw [h1] at this; exact this
end Go.Proofs.YtkibkkdeaojjoabGreat

namespace Go.Proofs.YtkibkkdeaojjoabGreat
open Go.RowKit
set_option linter.unusedVariables false

theorem cyM_rl' {p : Int} {m : List (List Int)} {k : Int} {i : Nat} (h : i < m.length) : (rw' (mulM p (invM p (cyM p m 1)) (cyM p m k)) i).length = m.length := by
  have h0 : 0 < m.length := by omega
  unfold mulM
  rw [invM_len, cyM_len, mk_rowLen _ h]
  exact cyM_rl h0
theorem cyV_size {p : Int} {m : List (List Int)} (h : m.length ≤ 16) : (cyV p m).length + tot (cyV p m) (cyV p m).length ≤ 1048576 := by
  unfold cyV
  split
  · have hl : (mulM p (invM p (cyM p m 1)) (cyM p m (p - 1))).length = m.length := by unfold mulM; rw [mk_len, invM_len, cyM_len]
    rw [tot_const (c := m.length) (fun i hi => by rw [hl] at hi; exact cyM_rl' hi) (Nat.le_refl _), hl]
    have : m.length * m.length ≤ 16 * 16 := Nat.mul_le_mul h h
    omega
  · simp [tot]
theorem Good.sqr {p : Int} {S : List Int} {m : List (List Int)} (h : Good p S m) : m.length = (rw' m 0).length := h.len.trans h.cols.symm

end Go.Proofs.YtkibkkdeaojjoabGreat
