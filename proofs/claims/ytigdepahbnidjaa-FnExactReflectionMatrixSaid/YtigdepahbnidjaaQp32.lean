/-
  The source that the model draws from: what stays as it is while numbers are drawn.
  No conditions.
  What the model's draws are: a number in its range.
  Conditions: the source is one, of at most 4096 bytes.
  What the model's source picks: one of a list.
  Conditions: the source is one, of at most 4096 bytes; the list is a row of known cells in another block.
  The model's source of a code, and what it draws first: a prime or not, numbers or not.
  Conditions: the code is a row of at most 4096 known bytes.
  Draws of lists and vectors: contracts.
  Conditions: the source stands in a block of known cells.
  Draws of vectors: contracts.
  Conditions: the source stands in a block of known cells.
  Draws of spaces: contracts.
  Conditions: the source stands in a block of known cells.
  Draws of spaces, and of what is none: contracts.
  Conditions: the source stands in a block of known cells.
  What the laws' draws are: a number in its range.
  Conditions: the source is one, of at most 4096 bytes.
  The dice of the laws, made of a code.
  Conditions: the code is a row of at most 4096 known bytes.
  The draw of a space and two lists: contract.
  Conditions: the code is nil or a row of known bytes, of at most 4096.
  Bounds of whole numbers of 64 bits, and what the model's remainder is.
  Conditions: the prime is one.
  What the model draws for pairs of numbers, and the law's own remainder.
  Conditions: the code is a row of at most 4096 known bytes; the prime of a remainder is one.
  Helpers of the laws with draws: contracts.
  Conditions: lists are nil or rows of known cells.
  size5, times5, vector5, plus5: contracts of the program and of the model.
  Conditions: the lists are nil or rows of known cells, of at most 1048576 numbers.
  Products of multivectors: they distribute, and their scalars don't depend on the order of two factors.
  Conditions: none.
  Reversals and involutions of products: mathematics.
  Conditions: none.
  Versors: products of vectors are versors, and their sandwiches the reflections. No Go in sight.
  No conditions.
  Versors: products of vectors are versors, their sandwiches are the reflections, the last one first. No Go in sight.
  No conditions.
  Versors: the sandwich of a product of vectors is the reflections in them, the last one first. No Go in sight.
  No conditions.
  VersorBetween (program): contracts of the program and of the model.
  Conditions: the lists are nil or rows of known cells, of at most 1048576 numbers.
  The versor between two vectors of the same norm leads the one to the other one. No Go in sight.
  No conditions.
  A matrix whose outer list is one's own, each row in a block of numbers: rows are put in the place of others.
  No conditions.
  Inverses of numbers, for the linear algebra: what XPower and XOver have.
  No conditions.
  The model's reduced bases: a contract.
  Conditions: the list of vectors is a row of rows of known cells with numbers of the prime, all of one length.
  The model's reduced bases: the walk.
  Conditions: the list of vectors is a row of rows of known cells with numbers of the prime, all of one length, at least one.
  The reduced basis as a function of the rows; the model's SpanBasis and RankOf: contracts.
  Conditions: the list of vectors is a row of rows of known cells.
  Solutions of linear equations out of reduced rows. No Go in sight.
  No conditions.
-/
import Derived.Test.YtigdepahbnidjaaQp1
import Derived.Deep.Draws
import Derived.WalkKit
import Derived.Test.YtigdepahbnidjaaRows
import Derived.LoopTactic
import Derived.Lib.Hide
import Derived.BigQuiet
import Derived.Deep.QuietTactic
import Derived.Laws.Bits64
import Derived.Laws.BitsAllLaws
import Derived.Test.YtigdepahbnidjaaQp18
import Derived.RegionTactic
import Derived.Deep.RegionWith
import Derived.Test.YtigdepahbnidjaaQp7
import Derived.Test.YtigdepahbnidjaaQp9
import Derived.Test.YtigdepahbnidjaaQp4
import Derived.Deep.DeepCutAuto
import Derived.Deep.RegionHeld3
import Derived.Test.YtigdepahbnidjaaQp15
import Derived.Test.YtigdepahbnidjaaQp2
import Derived.Test.YtigdepahbnidjaaQp3
import Derived.Test.YtigdepahbnidjaaQp10
import Derived.Test.YtigdepahbnidjaaQp31
import Derived.Test.YtigdepahbnidjaaQp6
import Derived.Test.YtigdepahbnidjaaQp30
import Derived.Outline
import Derived.Test.YtigdepahbnidjaaQp25
import Derived.Test.YtigdepahbnidjaaQp8
import Derived.Deep.RegionLaw
import Derived.Test.YtigdepahbnidjaaQp21
import Derived.Test.YtigdepahbnidjaaQp22
namespace Go.Proofs.Ytigdepahbnidjaa
open Go.RowKit
set_option linter.unusedVariables false

/-- Of what was there, block b alone may have turned. -/
structure Only (b : Nat) (w w' : World) : Prop where
  os : w'.os = w.os
  tape : w'.tape = w.tape
  output : w'.output = w.output
  size : w.heap.size ≤ w'.heap.size
  block : ∀ k, k < w.heap.size → k ≠ b → w'.heap[k]? = w.heap[k]?

theorem Only.refl (b : Nat) (w : World) : Only b w w := ⟨rfl, rfl, rfl, Nat.le_refl _, fun _ _ _ => rfl⟩
theorem Only.trans {b : Nat} {u v w : World} (h : Only b u v) (k : Only b v w) : Only b u w :=
  ⟨k.os.trans h.os, k.tape.trans h.tape, k.output.trans h.output, Nat.le_trans h.size k.size, fun i hi hn => (k.block i (Nat.lt_of_lt_of_le hi h.size) hn).trans (h.block i hi hn)⟩
theorem Only.drew {b : Nat} {u w : World} (h : Only b u w) : Only b u w.drew := ⟨h.os, h.tape, h.output, h.size, h.block⟩
theorem Only.drewN {b : Nat} {u w : World} (h : Only b u w) (n : Nat) : Only b u (w.drewN n) := ⟨h.os, h.tape, h.output, h.size, h.block⟩
theorem Only.alloc {b : Nat} {u w : World} (h : Only b u w) (o : Obj) : Only b u (w.alloc o) :=
  h.trans ⟨rfl, rfl, rfl, by simp, fun k hk _ => Below.heap_alloc _ _ _ hk⟩
theorem Only.setCell {b : Nat} {u w : World} (h : Only b u w) {p : Addr} (hp : p.block = b ∨ u.heap.size ≤ p.block) (x : Value) : Only b u (w.setCell p x) :=
  ⟨h.os, h.tape, h.output, by simpa [World.setCell] using h.size, fun k hk hn => (Below.heap_setCell _ _ _ _ (by rcases hp with hp | hp <;> omega)).trans (h.block k hk hn)⟩
theorem Only.set (b o : Nat) (w : World) (x : Value) : Only b w (w.setCell ⟨b, o, none⟩ x) := (Only.refl b w).setCell (p := ⟨b, o, none⟩) (.inl rfl) x
theorem Only.of_below {b : Nat} {u w : World} (h : Below u.heap.size u w) : Only b u w := ⟨h.os, h.tape, h.output, h.size, fun k hk _ => h.block k hk⟩
theorem Only.step {b : Nat} {u v w : World} (h : Only b u v) (k : Below v.heap.size v w) : Only b u w := h.trans (Only.of_below k)
theorem Only.below {b B : Nat} {u w : World} (h : Only b u w) (hB : B ≤ b) (hs : B ≤ u.heap.size) : Below B u w :=
  ⟨h.os, h.tape, h.output, h.size, fun k hk => h.block k (by omega) (by omega)⟩
theorem Only.cell {b : Nat} {u w : World} (h : Only b u w) {p : Addr} (hp : p.block < u.heap.size) (hn : p.block ≠ b) : w.cell? p = u.cell? p := World.cell?_of_block (w := u) (h.block p.block hp hn)
theorem Only.frozen {b : Nat} {u w : World} (h : Only b u w) {p : Addr} (hp : p.block < u.heap.size) (hn : p.block ≠ b) : w.frozen? p = u.frozen? p := World.frozen?_of_block (w := u) (h.block p.block hp hn)

/-- Bytes that a slice leads to: none, or a row of known cells in a block before b. -/
def Bytes (w : World) (b : Nat) (a : Option Addr) (len : Nat) (zs : List Int) : Prop :=
  len = 0 ∨ ∃ xb xo : Nat, a = some ⟨xb, xo, none⟩ ∧ xb < b ∧ xb < w.heap.size ∧ ∀ i, i < len → (0 ≤ zs.getD i 0 ∧ zs.getD i 0 ≤ 255) ∧ w.cell? ⟨xb, xo + i, none⟩ = some (.int .u8 (zs.getD i 0))
theorem Bytes.only {w w' : World} {b : Nat} {a : Option Addr} {len : Nat} {zs : List Int} (h : Bytes w b a len zs) (ho : Only b w w') : Bytes w' b a len zs := by
  rcases h with h | ⟨xb, xo, ha, hb, hs, hc⟩
  · exact .inl h
  · exact .inr ⟨xb, xo, ha, hb, Nat.lt_of_lt_of_le hs ho.size, fun i hi => ⟨(hc i hi).1, (ho.cell (p := ⟨xb, xo + i, none⟩) hs (by show xb ≠ b; omega)).trans (hc i hi).2⟩⟩

/-- The source at block b: its bytes, how many are used up, its state. -/
structure SrcAt (w : World) (b : Nat) (a : Option Addr) (len cap : Nat) (zs : List Int) (at_ : Nat) (h : Int) : Prop where
  lt : b < w.heap.size
  c0 : w.cell? ⟨b, 0, none⟩ = some (.slice a len cap)
  c1 : w.cell? ⟨b, 1, none⟩ = some (.int .i64 at_)
  c2 : w.cell? ⟨b, 2, none⟩ = some (.int .u64 h)
  f1 : w.frozen? ⟨b, 1, none⟩ = false
  f2 : w.frozen? ⟨b, 2, none⟩ = false
  le : at_ ≤ len
  small : len ≤ 4096
  bytes : Bytes w b a len zs
theorem SrcAt.drewN {w : World} {b : Nat} {a : Option Addr} {len cap : Nat} {zs : List Int} {k : Nat} {h : Int} (s : SrcAt w b a len cap zs k h) (n : Nat) : SrcAt (w.drewN n) b a len cap zs k h :=
  ⟨s.lt, s.c0, s.c1, s.c2, s.f1, s.f2, s.le, s.small, s.bytes.only ((Only.refl _ _).drewN n)⟩
/-- .. in some state. -/
def Src (w : World) (b : Nat) (a : Option Addr) (len cap : Nat) (zs : List Int) : Prop := ∃ (at_ : Nat) (h : Int), SrcAt w b a len cap zs at_ h
theorem Src.below {w w' : World} {b : Nat} {a : Option Addr} {len cap : Nat} {zs : List Int} (h : Src w b a len cap zs) (k : Below w.heap.size w w') : Src w' b a len cap zs := by
  obtain ⟨n, x, lt, c0, c1, c2, f1, f2, le, sm, by_⟩ := h
  exact ⟨n, x, Nat.lt_of_lt_of_le lt k.size, (k.cell (p := ⟨b, 0, none⟩) lt).trans c0, (k.cell (p := ⟨b, 1, none⟩) lt).trans c1, (k.cell (p := ⟨b, 2, none⟩) lt).trans c2, (k.frozen (p := ⟨b, 1, none⟩) lt).trans f1, (k.frozen (p := ⟨b, 2, none⟩) lt).trans f2, le, sm, by_.only (Only.of_below k)⟩
theorem Src.alloc {w : World} {b : Nat} {a : Option Addr} {len cap : Nat} {zs : List Int} (h : Src w b a len cap zs) (o : Obj) : Src (w.alloc o) b a len cap zs :=
  h.below ((Below.refl _ _).alloc (Nat.le_refl _) o)

/-- What a draw does: a number in its range; the source alone has turned. -/
def Drawn (P : Int → Prop) (b : Nat) (a : Option Addr) (len cap : Nat) (zs : List Int) (w : World) (e : Ending) (w' : World) : Prop :=
  ∃ x : Int, e = .returned (.int .i64 x) ∧ P x ∧ Only b w w' ∧ Src w' b a len cap zs

end Go.Proofs.Ytigdepahbnidjaa

namespace Go.Proofs.Ytigdepahbnidjaa
open Go.RowKit
set_option linter.unusedVariables false

theorem Drawn.any {P : Int → Prop} {b : Nat} {a : Option Addr} {len cap : Nat} {zs : List Int} {w w1 w' : World} {e : Ending} (ho : Only b w w1) (h : Drawn P b a len cap zs w1 e w') : Drawn (fun _ => True) b a len cap zs w e w' := by
  obtain ⟨x, he, _, hn, hs⟩ := h
  exact ⟨x, he, trivial, ho.trans hn, hs⟩

end Go.Proofs.Ytigdepahbnidjaa

namespace Go.Proofs.Ytigdepahbnidjaa
open Go.RowKit
set_option linter.unusedVariables false

theorem SrcAt.drew {w : World} {b : Nat} {a : Option Addr} {len cap : Nat} {zs : List Int} {k : Nat} {h : Int} (s : SrcAt w b a len cap zs k h) : SrcAt w.drew b a len cap zs k h :=
  ⟨s.lt, s.c0, s.c1, s.c2, s.f1, s.f2, s.le, s.small, s.bytes.only (Only.refl _ _).drew⟩
/-- The code as it comes in: none, or a row of known bytes. -/
def Code8 (w : World) (a : Option Addr) (len : Nat) (zs : List Int) : Prop := Bytes w w.heap.size a len zs

/-- A made source and the rest. -/
theorem Src.step {w w' : World} {b : Nat} {a : Option Addr} {len cap : Nat} {zs : List Int} (h : Src w b a len cap zs) (k : Below w.heap.size w w') : Src w' b a len cap zs := h.below k

end Go.Proofs.Ytigdepahbnidjaa

namespace Go.Proofs.Ytigdepahbnidjaa
open Go.RowKit
set_option linter.unusedVariables false

theorem Src.lt {w : World} {b : Nat} {a : Option Addr} {len cap : Nat} {zs : List Int} (h : Src w b a len cap zs) : b < w.heap.size := by
  obtain ⟨k, x, s⟩ := h
  exact s.lt
/-- Changes at a later block leave the source as it is. -/
theorem Src.far {w w' : World} {b k : Nat} {a : Option Addr} {len cap : Nat} {zs : List Int} (h : Src w b a len cap zs) (ho : Only k w w') (hk : b < k) : Src w' b a len cap zs := by
  obtain ⟨n, x, lt, c0, c1, c2, f1, f2, le, sm, by_⟩ := h
  have hne : b ≠ k := by omega
  refine ⟨n, x, Nat.lt_of_lt_of_le lt ho.size, (ho.cell (p := ⟨b, 0, none⟩) lt hne).trans c0, (ho.cell (p := ⟨b, 1, none⟩) lt hne).trans c1, (ho.cell (p := ⟨b, 2, none⟩) lt hne).trans c2, (ho.frozen (p := ⟨b, 1, none⟩) lt hne).trans f1, (ho.frozen (p := ⟨b, 2, none⟩) lt hne).trans f2, le, sm, ?_⟩
  rcases by_ with h | ⟨xb, xo, ha, hb, hs, hc⟩
  · exact .inl h
  · exact .inr ⟨xb, xo, ha, hb, Nat.lt_of_lt_of_le hs ho.size, fun i hi => ⟨(hc i hi).1, (ho.cell (p := ⟨xb, xo + i, none⟩) hs (by show xb ≠ k; omega)).trans (hc i hi).2⟩⟩
theorem only_of {w w' : World} {row : Option Nat} (h : w.grownBy w' row) {B : Nat} (hr : ∀ k, row = some k → B ≤ k) (hB : B ≤ w.heap.size) : ∃ k, B ≤ k ∧ Only k w w' := by
  cases row with
  | none => exact ⟨w.heap.size, hB, h.os, h.tape, h.output, h.size, fun k hk _ => h.block k hk (by simp)⟩
  | some g => exact ⟨g, hr g rfl, h.os, h.tape, h.output, h.size, fun k hk hne => h.block k hk (by simp; exact fun e => hne e)⟩
theorem Src.grown {w w' : World} {b : Nat} {a : Option Addr} {len cap : Nat} {zs : List Int} {row : Option Nat} (h : Src w b a len cap zs) (hg : w.grownBy w' row) (hr : ∀ k, row = some k → b < k) : Src w' b a len cap zs := by
  obtain ⟨k, hk, ho⟩ := only_of hg (B := b + 1) (fun k e => hr k e) h.lt
  exact h.far ho hk
theorem Only.grown {b : Nat} {u v w : World} {row : Option Nat} (h : Only b u v) (hg : v.grownBy w row) (hr : ∀ k, row = some k → u.heap.size ≤ k) : Only b u w :=
  ⟨hg.os.trans h.os, hg.tape.trans h.tape, hg.output.trans h.output, Nat.le_trans h.size hg.size, fun k hk hne => (hg.block k (Nat.lt_of_lt_of_le hk h.size) (by
    cases row with
    | none => simp
    | some g => simp; intro e; have := hr g rfl; omega)).trans (h.block k hk hne)⟩
theorem OutR.only {B k : Nat} {w w' : World} {v : Value} {zs : List Int} (h : OutR B w v zs) (ho : Only k w w') (hk : k < B) : OutR B w' v zs :=
  World.ownsRow.kept h ⟨ho.os, ho.tape, ho.output, ho.size, fun j hj hne => ho.block j hj (fun e => hne (by rw [e]))⟩ (by
    cases hv : v.ownBlock with
    | none => exact .inl rfl
    | some g => exact .inr (by intro e; injection e with e; have := (World.ownsRow.lt h g hv).1; omega))
theorem OutR.push {B : Nat} {w : World} {v : Value} {X : List Int} {x : Int} (h : w.ownsRow B 2 1 v (X.length + 1) (X.map (Value.int .i64) ++ [.int .i64 x])) : OutR B w v (X ++ [x]) := by
  unfold OutR
  rw [List.length_append, List.map_append]
  exact h

end Go.Proofs.Ytigdepahbnidjaa

namespace Go.Proofs.Ytigdepahbnidjaa
open Go.RowKit
set_option linter.unusedVariables false

/-- Two cells of a struct that may be written. -/
def L2 (w : World) (g : Nat) (u v : Value) : Prop := w.cell? ⟨g, 0, none⟩ = some u ∧ w.cell? ⟨g, 1, none⟩ = some v ∧ w.frozen? ⟨g, 0, none⟩ = false ∧ w.frozen? ⟨g, 1, none⟩ = false
theorem L2.only {w w' : World} {k g : Nat} {u v : Value} (h : L2 w g u v) (ho : Only k w w') (l : g < w.heap.size) (hne : g ≠ k) : L2 w' g u v :=
  ⟨(ho.cell (p := ⟨g, 0, none⟩) l hne).trans h.1, (ho.cell (p := ⟨g, 1, none⟩) l hne).trans h.2.1, (ho.frozen (p := ⟨g, 0, none⟩) l hne).trans h.2.2.1, (ho.frozen (p := ⟨g, 1, none⟩) l hne).trans h.2.2.2⟩
theorem L2.below {w w' : World} {g : Nat} {u v : Value} (h : L2 w g u v) (ho : Below w.heap.size w w') (l : g < w.heap.size) : L2 w' g u v :=
  ⟨(ho.cell (p := ⟨g, 0, none⟩) l).trans h.1, (ho.cell (p := ⟨g, 1, none⟩) l).trans h.2.1, (ho.frozen (p := ⟨g, 0, none⟩) l).trans h.2.2.1, (ho.frozen (p := ⟨g, 1, none⟩) l).trans h.2.2.2⟩
theorem L2.alloc {w : World} {g : Nat} {u v : Value} (h : L2 w g u v) (o : Obj) (l : g < w.heap.size) : L2 (w.alloc o) g u v := h.below (below_alloc w o) l
theorem L2.grown {w w' : World} {row : Option Nat} {g : Nat} {u v : Value} (h : L2 w g u v) (hg : w.grownBy w' row) (l : g < w.heap.size) (hr : ∀ k, row = some k → g < k) : L2 w' g u v := by
  obtain ⟨k, hk, ho⟩ := only_of hg (B := g + 1) (fun k e => hr k e) l
  exact h.only ho l (by omega)
theorem L2.new (w : World) (u v : Value) (T : TypeId) : L2 (w.alloc (.cells #[u, v] T)) w.heap.size u v := by
  refine ⟨?_, ?_, ?_, ?_⟩ <;> simp [go_sem]
theorem L2.far {w : World} {g k i : Nat} {u v : Value} (h : L2 w g u v) (x : Value) (hne : g ≠ k) : L2 (w.setCell ⟨k, i, none⟩ x) g u v :=
  ⟨(World.cell?_setCell_other _ ⟨k, i, none⟩ ⟨g, 0, none⟩ _ (fun e => by injection e with e1; omega)).trans h.1, (World.cell?_setCell_other _ ⟨k, i, none⟩ ⟨g, 1, none⟩ _ (fun e => by injection e with e1; omega)).trans h.2.1, by simp [go_sem, h.2.2.1], by simp [go_sem, h.2.2.2]⟩
theorem OutR.base {B B' : Nat} {w : World} {v : Value} {zs : List Int} (h : OutR B w v zs) (hB : B' ≤ B) : OutR B' w v zs :=
  ⟨h.1, h.2.imp id (fun ⟨g, cap, cur, e, hb, r⟩ => ⟨g, cap, cur, e, Nat.le_trans hB hb, r⟩)⟩
theorem OutR.nil (w : World) (B : Nat) : OutR B w (.slice none 0 0) [] := ⟨rfl, .inl ⟨rfl, rfl⟩⟩
theorem OutR.put {B k i : Nat} {w : World} {v : Value} {zs : List Int} (h : OutR B w v zs) (x : Value) (hk : k < B) : OutR B (w.setCell ⟨k, i, none⟩ x) v zs :=
  h.only (Only.set k i w x) hk
theorem OutR.alloc {B : Nat} {w : World} {v : Value} {zs : List Int} (h : OutR B w v zs) (o : Obj) : OutR B (w.alloc o) v zs := h.below (below_alloc w o)
theorem OutR.drew {B : Nat} {w : World} {v : Value} {zs : List Int} (h : OutR B w v zs) : OutR B w.drew v zs := h.below (below_drew w)

end Go.Proofs.Ytigdepahbnidjaa

namespace Go.Proofs.Ytigdepahbnidjaa
open Go.RowKit
set_option linter.unusedVariables false

theorem RowIn.far {lo tp k i : Nat} {w : World} {r : Option Addr} {zs : List Int} (h : RowIn lo tp w r zs) (x : Value) (hk : k < lo ∨ tp ≤ k) : RowIn lo tp (w.setCell ⟨k, i, none⟩ x) r zs :=
  h.same (fun j j0 j1 => Below.heap_setCell _ _ _ _ (by show j ≠ k; omega))
theorem RowIn.only {lo tp k : Nat} {w w' : World} {r : Option Addr} {zs : List Int} (h : RowIn lo tp w r zs) (ho : Only k w w') (hk : k < lo ∨ tp ≤ k) (ht : tp ≤ w.heap.size) : RowIn lo tp w' r zs :=
  h.same (fun j j0 j1 => ho.block j (Nat.lt_of_lt_of_le j1 ht) (by omega))
end Go.Proofs.Ytigdepahbnidjaa

namespace Go.Proofs.Ytigdepahbnidjaa
open Go.RowKit
set_option linter.unusedVariables false

theorem Code8.below {w w' : World} {a : Option Addr} {len : Nat} {zs : List Int} (h : Code8 w a len zs) (k : Below w.heap.size w w') : Code8 w' a len zs := by
  rcases h with h | ⟨xb, xo, ha, hb, hs, hc⟩
  · exact .inl h
  · have := k.size
    exact .inr ⟨xb, xo, ha, by omega, by omega, fun i hi => ⟨(hc i hi).1, (k.cell (p := ⟨xb, xo + i, none⟩) hs).trans (hc i hi).2⟩⟩

end Go.Proofs.Ytigdepahbnidjaa

namespace Go.Proofs.Ytigdepahbnidjaa
open Go.RowKit
set_option linter.unusedVariables false

/-- What the frame knows of a slice of bytes. -/
theorem code8_from {w : World} {a : Option Addr} {len cap : Nat} {zs : List Int}
    (h : (a = none ∧ len = 0 ∧ cap = 0 ∧ zs = []) ∨ ∃ x, a = some x ∧ len ≤ cap ∧ cap ≤ maxLen ∧ zs.length = cap ∧ (∀ i, i < zs.length → w.cell? (x.add i) = some (.int .u8 (zs.getD i 0))) ∧ ∀ n ∈ zs, (Lit.int .u8 n).wf = true) :
    Code8 w a len zs ∧ len ≤ 9223372036854775807 := by
  rcases h with ⟨rfl, rfl, rfl, rfl⟩ | ⟨x, rfl, h1, h2, h3, h4, h5⟩
  · exact ⟨.inl rfl, by omega⟩
  · unfold maxLen at h2
    refine ⟨?_, by omega⟩
    by_cases h0 : len = 0
    · exact .inl h0
    · obtain ⟨xb, off, rfl, hc⟩ := ints_at h4 (by omega)
      have hlt : xb < w.heap.size := World.block_lt_of_cell? w ⟨xb, off + 0, none⟩ (hc 0 (by omega))
      refine .inr ⟨xb, off, rfl, hlt, hlt, fun i hi => ⟨?_, hc i (by omega)⟩⟩
      have hm : zs.getD i 0 ∈ zs := by rw [getD_at (by omega : i < zs.length)]; exact List.getElem_mem _
      have hw := h5 _ hm
      generalize zs.getD i 0 = n at hw
      simp [Lit.wf, IntKind.min, IntKind.max, IntKind.signed, IntKind.bits] at hw
      omega

end Go.Proofs.Ytigdepahbnidjaa

namespace Go.Proofs.Ytigdepahbnidjaa
open Go.RowKit
set_option linter.unusedVariables false

/-- How often basis vectors of the second blade pass later ones of the first. -/
def sgn (a b : Nat) : Nat → Nat
  | 0 => 0
  | n + 1 => sgn a b n + b / 2 ^ n % 2 * gr (a / 2 ^ (n + 1))
end Go.Proofs.Ytigdepahbnidjaa

namespace Go.Proofs.Ytigdepahbnidjaa
open Go.RowKit
set_option linter.unusedVariables false

/-- What is around v by a vector u: the reflection times the norm. -/
def wV (p : Int) (S u v : List Int) : List Int := mkR S.length fun i => (pairN p S u u * v.getD i 0 - 2 * pairN p S u v % p * u.getD i 0) % p
end Go.Proofs.Ytigdepahbnidjaa

namespace Go.Proofs.Ytigdepahbnidjaa
open Go.RowKit
set_option linter.unusedVariables false

/-- What is around v by the first k vectors. -/
def wA (p : Int) (S : List Int) (m : List (List Int)) : Nat → List Int → List Int
  | 0, v => v
  | k + 1, v => wA p S m k (wV p S (rw' m k) v)
end Go.Proofs.Ytigdepahbnidjaa

namespace Go.Proofs.Ytigdepahbnidjaa
open Go.RowKit
set_option linter.unusedVariables false

theorem plus_len (p k : Int) (u v : List Int) : (plusR p v u k).length = v.length := mkR_len _ _
end Go.Proofs.Ytigdepahbnidjaa

namespace Go.Proofs.Ytigdepahbnidjaa
open Go.RowKit
set_option linter.unusedVariables false

/-- The outer list lies at the head of block b, the rows in blocks of numbers from lo on. -/
structure TopM (lo : Nat) (w : World) (b : Nat) (m : List (List Int)) : Prop where
  lob : lo ≤ b
  tag : ∃ cur, w.heap[b]? = some (.cells cur 22 (0, 0))
  row : ∀ i, i < m.length → ∃ r c, w.cell? ⟨b, i, none⟩ = some (.slice r (rw' m i).length c) ∧ TagR lo w.heap.size w r (rw' m i)
theorem TopM.lt {lo : Nat} {w : World} {b : Nat} {m : List (List Int)} (h : TopM lo w b m) : b < w.heap.size := by
  obtain ⟨cur, hb⟩ := h.tag
  exact (Array.getElem?_eq_some_iff.1 hb).1
theorem TopM.free {lo : Nat} {w : World} {b : Nat} {m : List (List Int)} (h : TopM lo w b m) (j : Nat) : w.frozen? ⟨b, j, none⟩ = false := by
  obtain ⟨cur, hb⟩ := h.tag
  exact free_of hb j
theorem TopM.below {lo : Nat} {w w' : World} {b : Nat} {m : List (List Int)} (h : TopM lo w b m) (hb : Below w.heap.size w w') : TopM lo w' b m where
  lob := h.lob
  tag := by obtain ⟨cur, hc⟩ := h.tag; exact ⟨cur, (hb.block b h.lt).trans hc⟩
  row i hi := by
    obtain ⟨r, c, h1, h2⟩ := h.row i hi
    exact ⟨r, c, (hb.cell (p := ⟨b, i, none⟩) h.lt).trans h1, h2.below hb (Nat.le_refl _) (Nat.le_refl _) hb.size⟩
theorem TopM.mono {lo lo' : Nat} {w : World} {b : Nat} {m : List (List Int)} (h : TopM lo w b m) (hl : lo' ≤ lo) : TopM lo' w b m where
  lob := Nat.le_trans hl h.lob
  tag := h.tag
  row i hi := by
    obtain ⟨r, c, h1, h2⟩ := h.row i hi
    exact ⟨r, c, h1, h2.block hl (Nat.le_refl _) (fun _ _ _ _ _ => rfl)⟩
theorem TopM.mat {lo : Nat} {w : World} {b : Nat} {m : List (List Int)} (h : TopM lo w b m) : MatIn lo w.heap.size w (some ⟨b, 0, none⟩) m :=
  .inr ⟨b, 0, rfl, h.lob, h.lt, fun i hi => by
    obtain ⟨r, c, h1, h2⟩ := h.row i hi
    exact ⟨r, c, by rw [Nat.zero_add]; exact h1, h2.row⟩⟩
theorem rw_set {m : List (List Int)} {i j : Nat} (z : List Int) (hi : i < m.length) : rw' (m.set i z) j = if j = i then z else rw' m j := by
  simp only [rw', List.getD_eq_getElem?_getD, List.getElem?_set]
  by_cases e : j = i
  · subst e; simp [hi]
  · rw [if_neg (fun h => e h.symm), if_neg e]
/-- Another row is put in the place of row i. -/
theorem TopM.set {lo : Nat} {w : World} {b i : Nat} {m : List (List Int)} {r : Option Addr} {z : List Int} {c : Nat} (h : TopM lo w b m) (hi : i < m.length) (hz : TagR lo w.heap.size w r z) :
    TopM lo (w.setCell ⟨b, i, none⟩ (.slice r z.length c)) b (m.set i z) := by
  obtain ⟨cur, hcur⟩ := h.tag
  have hsz : (w.setCell ⟨b, i, none⟩ (.slice r z.length c)).heap.size = w.heap.size := by simp [World.setCell]
  have keep : ∀ k cur', w.heap[k]? = some (Obj.cells cur' 2 (0, 0)) → (w.setCell ⟨b, i, none⟩ (.slice r z.length c)).heap[k]? = w.heap[k]? := fun k cur' hk =>
    Below.heap_setCell _ _ _ _ (fun e => by have e1 : k = b := e; subst e1; rw [hcur] at hk; simp at hk)
  obtain ⟨r0, c0, g0, _⟩ := h.row i hi
  refine ⟨h.lob, ⟨cur.setIfInBounds i (.slice r z.length c), by simp [World.setCell, Array.getElem?_modify, hcur]⟩, fun j hj => ?_⟩
  rw [List.length_set] at hj
  rw [rw_set z hi, hsz]
  by_cases e : j = i
  · subst e
    rw [if_pos rfl]
    exact ⟨r, c, World.cell?_setCell_same w _ _ g0, hz.block (Nat.le_refl _) (Nat.le_refl _) (fun k cur' _ _ hk => keep k cur' hk)⟩
  · rw [if_neg e]
    obtain ⟨r1, c1, g1, g2⟩ := h.row j hj
    exact ⟨r1, c1, (World.cell?_setCell_other _ _ _ _ (fun e2 => e (by injection e2 with _ e3; exact e3.symm))).trans g1, g2.block (Nat.le_refl _) (Nat.le_refl _) (fun k cur' _ _ hk => keep k cur' hk)⟩
theorem OutM.top {B : Nat} {w : World} {v : Value} {m : List (List Int)} (h : OutM B w v m) (h0 : 0 < m.length) : ∃ b c, v = .slice (some ⟨b, 0, none⟩) m.length c ∧ m.length ≤ c ∧ c ≤ maxLen ∧ TopM B w b m := by
  obtain ⟨vals, ho, hr⟩ := h
  rcases ho.2 with ⟨rfl, hn⟩ | ⟨g, cap, cur, rfl, hb, hg, hnc, hcm, hcs, htake⟩
  · omega
  · refine ⟨g, cap, rfl, hnc, hcm, hb, ⟨cur, hg⟩, fun i hi => ?_⟩
    obtain ⟨r, c, h1, h2⟩ := hr i hi
    refine ⟨r, c, ?_, h2⟩
    have := ho.cells (g := g) rfl i _ h1
    rwa [Addr.add_lit, Nat.zero_add] at this

end Go.Proofs.Ytigdepahbnidjaa

namespace Go.Proofs.Ytigdepahbnidjaa
open Go.RowKit
set_option linter.unusedVariables false

/-- What stands in the rows when row d is scaled and the first i are done. -/
def sig (d f i : Nat) : Nat := if i = f then d else i
def scaled (p : Int) (m : List (List Int)) (f k : Nat) : List Int := sclR p (rw' m f) (inv p (at' m f k))
def doneRow (p : Int) (m : List (List Int)) (d f k i : Nat) : List Int := if i = d then scaled p m f k else plusR p (rw' m (sig d f i)) (scaled p m f k) ((p - at' m (sig d f i) k) % p)
def midRow (p : Int) (m : List (List Int)) (d f k i : Nat) : List Int := if i = d then scaled p m f k else rw' m (sig d f i)
def rowsAt (p : Int) (m : List (List Int)) (d f k i : Nat) : List (List Int) := (List.range m.length).map fun j => if j < i then doneRow p m d f k j else midRow p m d f k j
theorem rowsAt_len (p : Int) (m : List (List Int)) (d f k i : Nat) : (rowsAt p m d f k i).length = m.length := by simp [rowsAt]
theorem rowsAt_row {p : Int} {m : List (List Int)} {d f k i j : Nat} (h : j < m.length) : rw' (rowsAt p m d f k i) j = if j < i then doneRow p m d f k j else midRow p m d f k j := by simp [rowsAt, rw', List.getD, h]
theorem ColAt.rows {p : Int} {c : Nat} {A m : List (List Int)} {d k f : Nat} {P : Nat → Nat} (hp : prm p = true) (h : ColAt p c A m d k P) (hk : k < c) (hdf : d ≤ f) (hf : f < m.length) (ha : 1 ≤ at' m f k) :
    ColAt p c A (rowsAt p m d f k m.length) (d + 1) (k + 1) (fun i => if i = d then k else P i) := by
  have hL : ∀ i, i < m.length → rw' (rowsAt p m d f k m.length) i = doneRow p m d f k i := fun i hi => by rw [rowsAt_row hi, if_pos hi]
  have hsig : ∀ i, i < m.length → sig d f i < m.length := fun i hi => by unfold sig; split <;> omega
  have hdm : d < m.length := by omega
  have hS : (scaled p m f k).length = c := by unfold scaled sclR; rw [mkR_len, h.len f hf]
  refine h.pick hp hk hdf hf ha (rowsAt_len _ _ _ _ _ _) (fun i hi => ?_) (fun j hj => ?_) (fun i hi hne j hj => ?_)
  · rw [rowsAt_len] at hi
    rw [hL i hi]
    unfold doneRow
    split
    · exact hS
    · unfold plusR; rw [mkR_len]; exact h.len _ (hsig i hi)
  · have e : at' (rowsAt p m d f k m.length) d j = (scaled p m f k).getD j 0 := by unfold at'; rw [hL d hdm]; unfold doneRow; rw [if_pos rfl]
    rw [e]
    unfold scaled sclR
    rw [mkR_at _ (by rw [h.len f hf]; exact hj)]; rfl
  · have e : at' (rowsAt p m d f k m.length) i j = (plusR p (rw' m (sig d f i)) (scaled p m f k) ((p - at' m (sig d f i) k) % p)).getD j 0 := by unfold at'; rw [hL i hi]; unfold doneRow; rw [if_neg hne]; rfl
    have e2 : at' (rowsAt p m d f k m.length) d j = (scaled p m f k).getD j 0 := by unfold at'; rw [hL d hdm]; unfold doneRow; rw [if_pos rfl]
    rw [e, e2]
    unfold plusR
    rw [mkR_at _ (by rw [h.len _ (hsig i hi)]; exact hj)]; rfl

end Go.Proofs.Ytigdepahbnidjaa

namespace Go.Proofs.Ytigdepahbnidjaa
open Go.RowKit
set_option linter.unusedVariables false

/-- A row of n numbers in new memory is handed back. -/
def NewL (n : Nat) (z : List Int) (w : World) (e : Ending) (w' : World) : Prop :=
  z.length = n ∧ ∃ r c, e = .returned (.slice r n c) ∧ TagR w.heap.size w'.heap.size w' r z ∧ Below w.heap.size w w'
theorem NewR.l {n : Nat} {z : List Int} {w w' : World} {e : Ending} (h : NewR z w e w') (hn : z.length = n) : NewL n z w e w' := by
  subst hn; exact ⟨rfl, h⟩
end Go.Proofs.Ytigdepahbnidjaa

namespace Go.Proofs.Ytigdepahbnidjaa
open Go.RowKit
set_option linter.unusedVariables false

open Classical in
/-- The reduced basis of what the rows make. -/
noncomputable def bas (p : Int) (A : List (List Int)) : List (List Int) := if h : ∃ m, IsBas p (rw' A 0).length A m then Classical.choose h else []
end Go.Proofs.Ytigdepahbnidjaa
