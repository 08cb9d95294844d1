/-
  The model's list of the numbers of the basis vectors.
  Conditions: rows of known cells.
  Bivectors: codes, turned vectors, brackets: contracts of the program and of the model.
  Conditions: the lists are nil or rows of known cells, of at most 1048576 numbers.
  Multivectors as versors (program): contracts of the program and of the model.
  Conditions: the lists are nil or rows of known cells, of at most 1048576 numbers.
  Spaces and multivectors checked to be versors (program): contracts of the program and of the model.
  Conditions: the lists are nil or rows of known cells, of at most 1048576 numbers.
  Inverses of versors, vectors led, sandwiches (program): contracts of the program and of the model.
  Conditions: the lists are nil or rows of known cells, of at most 1048576 numbers.
  Vectors led by motions (program): contracts of the program and of the model.
  Conditions: the lists are nil or rows of known cells, of at most 1048576 numbers.
  What square roots of numbers are in the model: the helper's contract.
  Conditions: the prime is one, the number is a remainder by it.
  What square roots of numbers are, in the program and in the model: contracts of the method root and of the model's helper.
  Conditions: the prime is one, the number is a remainder by it.
  Laws of versors, the program's side: contracts of the program and of the model.
  Conditions: the lists are nil or rows of known cells, of at most 1048576 numbers.
  NormOf: contracts of the program and of the model.
  Conditions: the lists are nil or rows of known cells, of at most 1048576 numbers.
  Reflections (program): contracts of the program and of the model.
  Conditions: the lists are nil or rows of known cells, of at most 1048576 numbers.
  Products of vectors (program): contracts of the program and of the model.
  Conditions: the lists are nil or rows of known cells, of at most 1048576 numbers.
  VersorOf, ReflectIn (program): contracts of the program and of the model.
  Conditions: the lists are nil or rows of known cells, of at most 1048576 numbers.
  IsMatrix, in the program and in the model.
  Conditions: the matrix is nil or a row of rows of known cells.
-/
import Derived.Test.YtkibkkdeaojjoabGreatQg42
import Derived.Test.YtkibkkdeaojjoabGreatQg38
import Derived.Test.YtkibkkdeaojjoabGreatQg43
import Derived.Test.YtkibkkdeaojjoabGreatQg35
import Derived.Test.YtkibkkdeaojjoabGreatQg8
import Derived.Test.YtkibkkdeaojjoabGreatQg41
import Derived.Test.YtkibkkdeaojjoabGreatQg34
import Derived.Deep.RegionHeld3
import Derived.Deep.DeepCutAuto
import Derived.StillTailTactics
import Derived.Test.YtkibkkdeaojjoabGreatQg39
import Derived.Test.YtkibkkdeaojjoabGreatQg7
import Derived.RegionTactic
import Derived.Outline
import Derived.Laws.StructEq
import Derived.Test.YtkibkkdeaojjoabGreatQg21
import Derived.Test.YtkibkkdeaojjoabGreatQg5
import Derived.Test.YtkibkkdeaojjoabGreatQg12
namespace Go.Proofs.YtkibkkdeaojjoabGreat
open Go.RowKit
set_option linter.unusedVariables false

/-- Five cells that may be written. -/
def V5 (g : Nat) (v0 v1 v2 v3 v4 : Value) (W : World) : Prop :=
  (W.cell? ⟨g, 0, none⟩ = some v0 ∧ W.cell? ⟨g, 1, none⟩ = some v1 ∧ W.cell? ⟨g, 2, none⟩ = some v2 ∧ W.cell? ⟨g, 3, none⟩ = some v3 ∧ W.cell? ⟨g, 4, none⟩ = some v4) ∧ W.frozen? ⟨g, 0, none⟩ = false ∧ W.frozen? ⟨g, 1, none⟩ = false ∧ W.frozen? ⟨g, 2, none⟩ = false ∧ W.frozen? ⟨g, 3, none⟩ = false ∧ W.frozen? ⟨g, 4, none⟩ = false
theorem V5.below {g B : Nat} {v0 v1 v2 v3 v4 : Value} {w w' : World} (h : V5 g v0 v1 v2 v3 v4 w) (b : Below B w w') (l : g < B) : V5 g v0 v1 v2 v3 v4 w' :=
  ⟨⟨(b.cell (p := ⟨g, 0, none⟩) l).trans h.1.1, (b.cell (p := ⟨g, 1, none⟩) l).trans h.1.2.1, (b.cell (p := ⟨g, 2, none⟩) l).trans h.1.2.2.1, (b.cell (p := ⟨g, 3, none⟩) l).trans h.1.2.2.2.1, (b.cell (p := ⟨g, 4, none⟩) l).trans h.1.2.2.2.2⟩,
    (b.frozen (p := ⟨g, 0, none⟩) l).trans h.2.1, (b.frozen (p := ⟨g, 1, none⟩) l).trans h.2.2.1, (b.frozen (p := ⟨g, 2, none⟩) l).trans h.2.2.2.1, (b.frozen (p := ⟨g, 3, none⟩) l).trans h.2.2.2.2.1, (b.frozen (p := ⟨g, 4, none⟩) l).trans h.2.2.2.2.2⟩
theorem V5.new (w : World) (v0 v1 v2 v3 v4 : Value) (T : TypeId) : V5 w.heap.size v0 v1 v2 v3 v4 (w.alloc (.cells #[v0, v1, v2, v3, v4] T)) :=
  ⟨⟨by simp [go_sem], by simp [go_sem], by simp [go_sem], by simp [go_sem], by simp [go_sem]⟩, by simp [go_sem], by simp [go_sem], by simp [go_sem], by simp [go_sem], by simp [go_sem]⟩
end Go.Proofs.YtkibkkdeaojjoabGreat

namespace Go.Proofs.YtkibkkdeaojjoabGreat
open Go.RowKit
set_option linter.unusedVariables false

/-- The cells of the box of a versor. -/
def BoxW (g : Nat) (p : Int) (aS : Option Addr) (n cS : Nat) (ax : Option Addr) (l cx : Nat) (F : Int) (W : World) : Prop :=
  W.cell? ⟨g, 0, none⟩ = some (.int .i64 p) ∧ W.cell? ⟨g, 1, none⟩ = some (.slice aS n cS) ∧ W.cell? ⟨g, 2, none⟩ = some (.slice ax l cx) ∧ W.cell? ⟨g, 3, none⟩ = some (.int .i64 p) ∧ W.cell? ⟨g, 4, none⟩ = some (.int .i64 F)
theorem BoxW.below {g : Nat} {p F : Int} {aS ax : Option Addr} {n cS l cx B : Nat} {w w' : World} (h : BoxW g p aS n cS ax l cx F w) (hb : Below B w w') (hg : g < B) : BoxW g p aS n cS ax l cx F w' :=
  ⟨(hb.cell (p := ⟨g, 0, none⟩) hg).trans h.1, (hb.cell (p := ⟨g, 1, none⟩) hg).trans h.2.1, (hb.cell (p := ⟨g, 2, none⟩) hg).trans h.2.2.1, (hb.cell (p := ⟨g, 3, none⟩) hg).trans h.2.2.2.1, (hb.cell (p := ⟨g, 4, none⟩) hg).trans h.2.2.2.2⟩
theorem BoxW.wrote {g b o m : Nat} {p F : Int} {aS ax : Option Addr} {n cS l cx : Nat} {w w' : World} (h : BoxW g p aS n cS ax l cx F w) (hb : Wrote b o m w w') (hg : g ≠ b) : BoxW g p aS n cS ax l cx F w' :=
  ⟨(World.cell?_of_block (w := w) (a := ⟨g, 0, none⟩) (hb.block g hg)).trans h.1, (World.cell?_of_block (w := w) (a := ⟨g, 1, none⟩) (hb.block g hg)).trans h.2.1, (World.cell?_of_block (w := w) (a := ⟨g, 2, none⟩) (hb.block g hg)).trans h.2.2.1, (World.cell?_of_block (w := w) (a := ⟨g, 3, none⟩) (hb.block g hg)).trans h.2.2.2.1, (World.cell?_of_block (w := w) (a := ⟨g, 4, none⟩) (hb.block g hg)).trans h.2.2.2.2⟩
theorem BoxW.new (w : World) (p : Int) (aS : Option Addr) (n cS : Nat) (ax : Option Addr) (l cx : Nat) (F : Int) (T : TypeId) : BoxW w.heap.size p aS n cS ax l cx F (w.alloc (.cells #[.int .i64 p, .slice aS n cS, .slice ax l cx, .int .i64 p, .int .i64 F] T)) :=
  ⟨by simp [go_sem], by simp [go_sem], by simp [go_sem], by simp [go_sem], by simp [go_sem]⟩
end Go.Proofs.YtkibkkdeaojjoabGreat

namespace Go.Proofs.YtkibkkdeaojjoabGreat
open Go.RowKit
set_option linter.unusedVariables false

/-- Five cells. -/
def Box5 (g : Nat) (v0 v1 v2 v3 v4 : Value) (W : World) : Prop :=
  W.cell? ⟨g, 0, none⟩ = some v0 ∧ W.cell? ⟨g, 1, none⟩ = some v1 ∧ W.cell? ⟨g, 2, none⟩ = some v2 ∧ W.cell? ⟨g, 3, none⟩ = some v3 ∧ W.cell? ⟨g, 4, none⟩ = some v4
theorem Box5.below {g B : Nat} {v0 v1 v2 v3 v4 : Value} {w w' : World} (h : Box5 g v0 v1 v2 v3 v4 w) (b : Below B w w') (l : g < B) : Box5 g v0 v1 v2 v3 v4 w' :=
  ⟨(b.cell (p := ⟨g, 0, none⟩) l).trans h.1, (b.cell (p := ⟨g, 1, none⟩) l).trans h.2.1, (b.cell (p := ⟨g, 2, none⟩) l).trans h.2.2.1, (b.cell (p := ⟨g, 3, none⟩) l).trans h.2.2.2.1, (b.cell (p := ⟨g, 4, none⟩) l).trans h.2.2.2.2⟩
/-- The boxes of a space and of a number. -/
def BoxU (g m : Nat) (p : Int) (aS : Option Addr) (n cS : Nat) (R : Int) (W : World) : Prop :=
  W.cell? ⟨g, 0, none⟩ = some (.int .i64 p) ∧ W.cell? ⟨g, 1, none⟩ = some (.slice aS n cS) ∧ W.cell? ⟨m, 0, none⟩ = some (.int .i64 p) ∧ W.cell? ⟨m, 1, none⟩ = some (.int .i64 R)
theorem BoxU.below {g m : Nat} {p R : Int} {aS : Option Addr} {n cS B : Nat} {w w' : World} (h : BoxU g m p aS n cS R w) (hb : Below B w w') (hg : g < B ∧ m < B) : BoxU g m p aS n cS R w' :=
  ⟨(hb.cell (p := ⟨g, 0, none⟩) hg.1).trans h.1, (hb.cell (p := ⟨g, 1, none⟩) hg.1).trans h.2.1, (hb.cell (p := ⟨m, 0, none⟩) hg.2).trans h.2.2.1, (hb.cell (p := ⟨m, 1, none⟩) hg.2).trans h.2.2.2⟩
theorem BoxU.wrote {g m b o k : Nat} {p R : Int} {aS : Option Addr} {n cS : Nat} {w w' : World} (h : BoxU g m p aS n cS R w) (hb : Wrote b o k w w') (hg : g ≠ b ∧ m ≠ b) : BoxU g m p aS n cS R w' :=
  ⟨(World.cell?_of_block (w := w) (a := ⟨g, 0, none⟩) (hb.block g hg.1)).trans h.1, (World.cell?_of_block (w := w) (a := ⟨g, 1, none⟩) (hb.block g hg.1)).trans h.2.1, (World.cell?_of_block (w := w) (a := ⟨m, 0, none⟩) (hb.block m hg.2)).trans h.2.2.1, (World.cell?_of_block (w := w) (a := ⟨m, 1, none⟩) (hb.block m hg.2)).trans h.2.2.2⟩
end Go.Proofs.YtkibkkdeaojjoabGreat

namespace Go.Proofs.YtkibkkdeaojjoabGreat
open Go.RowKit
set_option linter.unusedVariables false

/-- What holds behind the boxes of a reflection and of its space. -/
structure DR7 (w : World) (gs : Nat) (p : Int) (aS : Option Addr) (n cS : Nat) (au : Option Addr) (l cu : Nat) (W : World) : Prop where
  box : BoxV w.heap.size gs p aS n cS au l cu W
  bel : Below w.heap.size w W
  hd : w.heap.size < W.heap.size ∧ gs < W.heap.size
structure DRN (w : World) (gs : Nat) (p : Int) (aS : Option Addr) (n cS : Nat) (au : Option Addr) (l cu : Nat) (bf : Nat) (W : World) : Prop extends DR7 w gs p aS n cS au l cu W where
  c0 : W.cell? ⟨bf, 0, none⟩ = some (.int .i64 0)
  c1 : W.cell? ⟨bf, 1, none⟩ = some (.int .i64 0)
  y0 : W.frozen? ⟨bf, 0, none⟩ = false
  y1 : W.frozen? ⟨bf, 1, none⟩ = false
  lb : bf < W.heap.size
  lw : w.heap.size < bf ∧ gs < bf
theorem DR7.call {w W W' : World} {gs : Nat} {p : Int} {aS : Option Addr} {n cS : Nat} {au : Option Addr} {l cu : Nat} (h : DR7 w gs p aS n cS au l cu W) (b : Below W.heap.size W W') : DR7 w gs p aS n cS au l cu W' :=
  ⟨h.box.below b h.hd, below_step h.bel (Nat.le_of_lt h.hd.1) b, Nat.lt_of_lt_of_le h.hd.1 b.size, Nat.lt_of_lt_of_le h.hd.2 b.size⟩
theorem DR7.alloc {w W : World} {gs : Nat} {p : Int} {aS : Option Addr} {n cS : Nat} {au : Option Addr} {l cu : Nat} (h : DR7 w gs p aS n cS au l cu W) (o : Obj) : DR7 w gs p aS n cS au l cu (W.alloc o) := h.call (below_alloc W o)
theorem DRN.call {w W W' : World} {gs bf : Nat} {p : Int} {aS : Option Addr} {n cS : Nat} {au : Option Addr} {l cu : Nat} (h : DRN w gs p aS n cS au l cu bf W) (b : Below W.heap.size W W') : DRN w gs p aS n cS au l cu bf W' :=
  { h.toDR7.call b with c0 := (b.cell (p := ⟨bf, 0, none⟩) h.lb).trans h.c0, c1 := (b.cell (p := ⟨bf, 1, none⟩) h.lb).trans h.c1, y0 := (b.frozen (p := ⟨bf, 0, none⟩) h.lb).trans h.y0, y1 := (b.frozen (p := ⟨bf, 1, none⟩) h.lb).trans h.y1, lb := Nat.lt_of_lt_of_le h.lb b.size, lw := h.lw }
theorem BoxV.put {g gs b o : Nat} {p : Int} {aS ax : Option Addr} {n cS l cx : Nat} {w : World} {v : Value} (h : BoxV g gs p aS n cS ax l cx w) (h1 : g ≠ b) (h2 : gs ≠ b) : BoxV g gs p aS n cS ax l cx (w.setCell ⟨b, o, none⟩ v) := by
  have e : ∀ j, (w.setCell ⟨b, o, none⟩ v).cell? ⟨g, j, none⟩ = w.cell? ⟨g, j, none⟩ := fun j => World.cell?_setCell_other w ⟨b, o, none⟩ ⟨g, j, none⟩ v (fun e => h1 (by injection e with e1; exact e1.symm))
  have e2 : ∀ j, (w.setCell ⟨b, o, none⟩ v).cell? ⟨gs, j, none⟩ = w.cell? ⟨gs, j, none⟩ := fun j => World.cell?_setCell_other w ⟨b, o, none⟩ ⟨gs, j, none⟩ v (fun e => h2 (by injection e with e1; exact e1.symm))
  exact ⟨(e 0).trans h.1, (e 1).trans h.2.1, (e 2).trans h.2.2.1, (e2 0).trans h.2.2.2.1, (e2 1).trans h.2.2.2.2⟩
theorem DRN.put {w W : World} {gs bf : Nat} {p : Int} {aS : Option Addr} {n cS : Nat} {au : Option Addr} {l cu : Nat} (h : DRN w gs p aS n cS au l cu bf W) (u v : Value) : DR7 w gs p aS n cS au l cu ((W.setCell ⟨bf, 0, none⟩ u).setCell ⟨bf, 1, none⟩ v) :=
  ⟨(h.box.put (Nat.ne_of_lt h.lw.1) (Nat.ne_of_lt h.lw.2)).put (Nat.ne_of_lt h.lw.1) (Nat.ne_of_lt h.lw.2), (h.bel.setCell (Nat.le_of_lt h.lw.1) _).setCell (Nat.le_of_lt h.lw.1) _, by simpa [World.setCell] using h.hd⟩
/-- Behind the factor: its block holds p and K. -/
structure DRE (w : World) (gs : Nat) (p : Int) (aS : Option Addr) (n cS : Nat) (au : Option Addr) (l cu : Nat) (bf : Nat) (K : Int) (W : World) : Prop extends DR7 w gs p aS n cS au l cu W where
  c0 : W.cell? ⟨bf, 0, none⟩ = some (.int .i64 p)
  c1 : W.cell? ⟨bf, 1, none⟩ = some (.int .i64 K)
  lb : bf < W.heap.size
theorem DRN.done {w W : World} {gs bf : Nat} {p K : Int} {aS : Option Addr} {n cS : Nat} {au : Option Addr} {l cu : Nat} (h : DRN w gs p aS n cS au l cu bf W) : DRE w gs p aS n cS au l cu bf K ((W.setCell ⟨bf, 0, none⟩ (.int .i64 p)).setCell ⟨bf, 1, none⟩ (.int .i64 K)) :=
  { h.put (.int .i64 p) (.int .i64 K) with
    c0 := (World.cell?_setCell_other _ _ _ _ (by simp)).trans (World.cell?_setCell_same W _ _ h.c0)
    c1 := World.cell?_setCell_same _ _ _ ((World.cell?_setCell_other _ _ _ _ (by simp)).trans h.c1)
    lb := by simpa [World.setCell] using h.lb }
theorem DR7.done {w W : World} {gs : Nat} {p K : Int} {aS : Option Addr} {n cS : Nat} {au : Option Addr} {l cu : Nat} (h : DR7 w gs p aS n cS au l cu W) (T : TypeId) : DRE w gs p aS n cS au l cu W.heap.size K (W.alloc (.cells #[.int .i64 p, .int .i64 K] T)) :=
  { h.alloc (.cells #[.int .i64 p, .int .i64 K] T) with c0 := by simp [go_sem], c1 := by simp [go_sem], lb := lt_alloc W _ }
theorem DRE.call {w W W' : World} {gs bf : Nat} {p K : Int} {aS : Option Addr} {n cS : Nat} {au : Option Addr} {l cu : Nat} (h : DRE w gs p aS n cS au l cu bf K W) (b : Below W.heap.size W W') : DRE w gs p aS n cS au l cu bf K W' :=
  { h.toDR7.call b with c0 := (b.cell (p := ⟨bf, 0, none⟩) h.lb).trans h.c0, c1 := (b.cell (p := ⟨bf, 1, none⟩) h.lb).trans h.c1, lb := Nat.lt_of_lt_of_le h.lb b.size }
end Go.Proofs.YtkibkkdeaojjoabGreat

namespace Go.Proofs.YtkibkkdeaojjoabGreat
open Go.RowKit
set_option linter.unusedVariables false

/-- What holds behind the box of a space and that of a zero versor. -/
structure DS7 (w : World) (g : Nat) (p : Int) (aS : Option Addr) (n cS : Nat) (W : World) : Prop where
  ss : W.cell? ⟨w.heap.size, 0, none⟩ = some (.int .i64 p) ∧ W.cell? ⟨w.heap.size, 1, none⟩ = some (.slice aS n cS)
  vv : V5 g (.int .i64 0) (.slice none 0 0) (.slice none 0 0) (.int .i64 0) (.int .i64 0) W
  bel : Below w.heap.size w W
  hd : w.heap.size < W.heap.size ∧ g < W.heap.size
theorem DS7.call {w W W' : World} {g : Nat} {p : Int} {aS : Option Addr} {n cS : Nat} (h : DS7 w g p aS n cS W) (b : Below W.heap.size W W') : DS7 w g p aS n cS W' :=
  ⟨ss2 b h.hd.1 h.ss, h.vv.below b h.hd.2, below_step h.bel (Nat.le_of_lt h.hd.1) b, Nat.lt_of_lt_of_le h.hd.1 b.size, Nat.lt_of_lt_of_le h.hd.2 b.size⟩
/-- With the block of the norm. -/
structure DSE (w : World) (g : Nat) (p : Int) (aS : Option Addr) (n cS : Nat) (bf : Nat) (q K : Int) (W : World) : Prop extends DS7 w g p aS n cS W where
  c0 : W.cell? ⟨bf, 0, none⟩ = some (.int .i64 q)
  c1 : W.cell? ⟨bf, 1, none⟩ = some (.int .i64 K)
  y0 : W.frozen? ⟨bf, 0, none⟩ = false
  y1 : W.frozen? ⟨bf, 1, none⟩ = false
  lb : bf < W.heap.size
  lw : w.heap.size < bf ∧ g < bf
theorem DSE.call {w W W' : World} {g bf : Nat} {p q K : Int} {aS : Option Addr} {n cS : Nat} (h : DSE w g p aS n cS bf q K W) (b : Below W.heap.size W W') : DSE w g p aS n cS bf q K W' :=
  { h.toDS7.call b with c0 := (b.cell (p := ⟨bf, 0, none⟩) h.lb).trans h.c0, c1 := (b.cell (p := ⟨bf, 1, none⟩) h.lb).trans h.c1, y0 := (b.frozen (p := ⟨bf, 0, none⟩) h.lb).trans h.y0, y1 := (b.frozen (p := ⟨bf, 1, none⟩) h.lb).trans h.y1, lb := Nat.lt_of_lt_of_le h.lb b.size, lw := h.lw }
theorem V5.put {g b o : Nat} {v0 v1 v2 v3 v4 v : Value} {w : World} (h : V5 g v0 v1 v2 v3 v4 w) (hg : g ≠ b) : V5 g v0 v1 v2 v3 v4 (w.setCell ⟨b, o, none⟩ v) := by
  have e : ∀ j, (w.setCell ⟨b, o, none⟩ v).cell? ⟨g, j, none⟩ = w.cell? ⟨g, j, none⟩ := fun j => World.cell?_setCell_other w ⟨b, o, none⟩ ⟨g, j, none⟩ v (fun e => hg (by injection e with e1; exact e1.symm))
  have f : ∀ j, (w.setCell ⟨b, o, none⟩ v).frozen? ⟨g, j, none⟩ = w.frozen? ⟨g, j, none⟩ := fun j => by simp [go_sem]
  exact ⟨⟨(e 0).trans h.1.1, (e 1).trans h.1.2.1, (e 2).trans h.1.2.2.1, (e 3).trans h.1.2.2.2.1, (e 4).trans h.1.2.2.2.2⟩, (f 0).trans h.2.1, (f 1).trans h.2.2.1, (f 2).trans h.2.2.2.1, (f 3).trans h.2.2.2.2.1, (f 4).trans h.2.2.2.2.2⟩
theorem DSE.put {w W : World} {g bf : Nat} {p q K : Int} {aS : Option Addr} {n cS : Nat} (h : DSE w g p aS n cS bf q K W) (q' K' : Int) : DSE w g p aS n cS bf q' K' ((W.setCell ⟨bf, 0, none⟩ (.int .i64 q')).setCell ⟨bf, 1, none⟩ (.int .i64 K')) :=
  { ss := ss2s (Nat.ne_of_lt h.lw.1) h.ss
    vv := (h.vv.put (Nat.ne_of_lt h.lw.2)).put (Nat.ne_of_lt h.lw.2)
    bel := (h.bel.setCell (Nat.le_of_lt h.lw.1) _).setCell (Nat.le_of_lt h.lw.1) _
    hd := by simpa [World.setCell] using h.hd
    c0 := (World.cell?_setCell_other _ _ _ _ (by simp)).trans (World.cell?_setCell_same W _ _ h.c0)
    c1 := World.cell?_setCell_same _ _ _ ((World.cell?_setCell_other _ _ _ _ (by simp)).trans h.c1)
    y0 := by simp [go_sem, h.y0]
    y1 := by simp [go_sem, h.y1]
    lb := by simpa [World.setCell] using h.lb
    lw := h.lw }
end Go.Proofs.YtkibkkdeaojjoabGreat

namespace Go.Proofs.YtkibkkdeaojjoabGreat
open Go.RowKit
set_option linter.unusedVariables false

theorem regC_nil {p : Int} {S : List Int} (h : isSp p S = true) : regC p S [] = if discN p S = 0 then 5 else 0 := by
  unfold regC
  rw [if_pos (codeMv_zero.2 ⟨h, rfl⟩)]
theorem checkR0 (pS : Int) (aS : Option Addr) (S : List Int) (cS loS tpS : Nat) (w : World) (hS : RowIn loS tpS w aS S) (tS : tpS ≤ w.heap.size) (sS : S.length ≤ 1048576) :
    Calls Tryz.prog 73 #[.agg #[.int .i64 pS, .slice aS S.length cS], .slice none 0 0] w fun e w' => e = .returned (.int .i64 (regC pS S [])) ∧ Below w.heap.size w w' :=
  checkRegular_any pS aS S cS loS tpS none [] 0 0 0 w hS tS sS (.inl rfl) (Nat.zero_le _) (by show 0 ≤ 1048576; omega) (fun i hi => absurd hi (Nat.not_lt_zero i))

end Go.Proofs.YtkibkkdeaojjoabGreat
