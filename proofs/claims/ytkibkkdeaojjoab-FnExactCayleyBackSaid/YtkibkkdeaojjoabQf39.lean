/-
  What is around vectors, parities, numbers of basis vectors (program): contracts of the program and of the model.
  Conditions: the lists are nil or rows of known cells, of at most 1048576 numbers.
  Bivectors: grade tests and checks: contracts of the program and of the model.
  Conditions: the lists are nil or rows of known cells, of at most 1048576 numbers.
  Whether what is around vectors is vectors (program): contracts of the program and of the model.
  Conditions: the lists are nil or rows of known cells, of at most 1048576 numbers.
  Half brackets of bivectors (program): contracts of the program and of the model.
  Conditions: the lists are nil or rows of known cells, of at most 1048576 numbers.
  The model's list of the numbers of the basis vectors.
  Conditions: rows of known cells.
  Bivectors: codes, turned vectors, brackets: contracts of the program and of the model.
  Conditions: the lists are nil or rows of known cells, of at most 1048576 numbers.
  Multivectors as versors (program): contracts of the program and of the model.
  Conditions: the lists are nil or rows of known cells, of at most 1048576 numbers.
  Spaces and multivectors checked to be versors (program): contracts of the program and of the model.
  Conditions: the lists are nil or rows of known cells, of at most 1048576 numbers.
  Inverses of versors, vectors led, sandwiches (program): contracts of the program and of the model.
  Conditions: the lists are nil or rows of known cells, of at most 1048576 numbers.
  Vectors led by motions (program): contracts of the program and of the model.
  Conditions: the lists are nil or rows of known cells, of at most 1048576 numbers.
  What square roots of numbers are in the model: the helper's contract.
  Conditions: the prime is one, the number is a remainder by it.
  What square roots of numbers are, in the program and in the model: contracts of the method root and of the model's helper.
  Conditions: the prime is one, the number is a remainder by it.
  Laws of versors, the program's side: contracts of the program and of the model.
  Conditions: the lists are nil or rows of known cells, of at most 1048576 numbers.
  NormOf: contracts of the program and of the model.
  Conditions: the lists are nil or rows of known cells, of at most 1048576 numbers.
  Reflections (program): contracts of the program and of the model.
  Conditions: the lists are nil or rows of known cells, of at most 1048576 numbers.
-/
import Derived.Test.YtkibkkdeaojjoabQf38
import Derived.Test.YtkibkkdeaojjoabQf37
import Derived.Deep.RegionHeld3
import Derived.Deep.DeepCutAuto
import Derived.Test.YtkibkkdeaojjoabQf31
import Derived.Test.YtkibkkdeaojjoabQf8
import Derived.Test.YtkibkkdeaojjoabQf21
import Derived.Deep.DeepAppendRoom
import Derived.Test.YtkibkkdeaojjoabQf36
import Derived.Test.YtkibkkdeaojjoabQf35
import Derived.StillTailTactics
import Derived.Test.YtkibkkdeaojjoabQf7
import Derived.RegionTactic
import Derived.Outline
import Derived.Laws.StructEq
namespace Go.Proofs.Ytkibkkdeaojjoab
open Go.RowKit
set_option linter.unusedVariables false

/-- The cells of the box of a multivector. -/
def BoxM (g : Nat) (p : Int) (aS : Option Addr) (n cS : Nat) (ax : Option Addr) (l cx : Nat) (W : World) : Prop :=
  W.cell? ⟨g, 0, none⟩ = some (.int .i64 p) ∧ W.cell? ⟨g, 1, none⟩ = some (.slice aS n cS) ∧ W.cell? ⟨g, 2, none⟩ = some (.slice ax l cx)
theorem BoxM.below {g : Nat} {p : Int} {aS ax : Option Addr} {n cS l cx B : Nat} {w w' : World} (h : BoxM g p aS n cS ax l cx w) (hb : Below B w w') (hg : g < B) : BoxM g p aS n cS ax l cx w' :=
  ⟨(hb.cell (p := ⟨g, 0, none⟩) hg).trans h.1, (hb.cell (p := ⟨g, 1, none⟩) hg).trans h.2.1, (hb.cell (p := ⟨g, 2, none⟩) hg).trans h.2.2⟩
theorem BoxM.new (w : World) (p : Int) (aS : Option Addr) (n cS : Nat) (ax : Option Addr) (l cx : Nat) (T : TypeId) : BoxM w.heap.size p aS n cS ax l cx (w.alloc (.cells #[.int .i64 p, .slice aS n cS, .slice ax l cx] T)) :=
  ⟨by simp [go_sem], by simp [go_sem], by simp [go_sem]⟩
/-- The box of a multivector and that of its space. -/
def BoxV (g gs : Nat) (p : Int) (aS : Option Addr) (n cS : Nat) (ax : Option Addr) (l cx : Nat) (W : World) : Prop :=
  W.cell? ⟨g, 0, none⟩ = some (.int .i64 p) ∧ W.cell? ⟨g, 1, none⟩ = some (.slice aS n cS) ∧ W.cell? ⟨g, 2, none⟩ = some (.slice ax l cx) ∧ W.cell? ⟨gs, 0, none⟩ = some (.int .i64 p) ∧ W.cell? ⟨gs, 1, none⟩ = some (.slice aS n cS)
theorem BoxV.below {g gs : Nat} {p : Int} {aS ax : Option Addr} {n cS l cx B : Nat} {w w' : World} (h : BoxV g gs p aS n cS ax l cx w) (hb : Below B w w') (hg : g < B ∧ gs < B) : BoxV g gs p aS n cS ax l cx w' :=
  ⟨(hb.cell (p := ⟨g, 0, none⟩) hg.1).trans h.1, (hb.cell (p := ⟨g, 1, none⟩) hg.1).trans h.2.1, (hb.cell (p := ⟨g, 2, none⟩) hg.1).trans h.2.2.1, (hb.cell (p := ⟨gs, 0, none⟩) hg.2).trans h.2.2.2.1, (hb.cell (p := ⟨gs, 1, none⟩) hg.2).trans h.2.2.2.2⟩
end Go.Proofs.Ytkibkkdeaojjoab

namespace Go.Proofs.Ytkibkkdeaojjoab
open Go.RowKit
set_option linter.unusedVariables false

/-- Three live cells of a struct. -/
def W3 (g : Nat) (v0 v1 v2 : Value) (W : World) : Prop :=
  (W.cell? ⟨g, 0, none⟩ = some v0 ∧ W.cell? ⟨g, 1, none⟩ = some v1 ∧ W.cell? ⟨g, 2, none⟩ = some v2) ∧ W.frozen? ⟨g, 0, none⟩ = false ∧ W.frozen? ⟨g, 1, none⟩ = false ∧ W.frozen? ⟨g, 2, none⟩ = false
theorem W3.below {g B : Nat} {v0 v1 v2 : Value} {w w' : World} (h : W3 g v0 v1 v2 w) (b : Below B w w') (l : g < B) : W3 g v0 v1 v2 w' :=
  ⟨⟨(b.cell (p := ⟨g, 0, none⟩) l).trans h.1.1, (b.cell (p := ⟨g, 1, none⟩) l).trans h.1.2.1, (b.cell (p := ⟨g, 2, none⟩) l).trans h.1.2.2⟩, (b.frozen (p := ⟨g, 0, none⟩) l).trans h.2.1, (b.frozen (p := ⟨g, 1, none⟩) l).trans h.2.2.1, (b.frozen (p := ⟨g, 2, none⟩) l).trans h.2.2.2⟩
theorem W3.new (w : World) (v0 v1 v2 : Value) (T : TypeId) : W3 w.heap.size v0 v1 v2 (w.alloc (.cells #[v0, v1, v2] T)) :=
  ⟨⟨by simp [go_sem], by simp [go_sem], by simp [go_sem]⟩, by simp [go_sem], by simp [go_sem], by simp [go_sem]⟩
theorem W3.far {g f : Nat} {v0 v1 v2 : Value} {w : World} (h : W3 g v0 v1 v2 w) (hne : g ≠ f) (k : Nat) (v : Value) : W3 g v0 v1 v2 (w.setCell ⟨f, k, none⟩ v) :=
  ⟨⟨(World.cell?_setCell_other w ⟨f, k, none⟩ ⟨g, 0, none⟩ _ (fun e => hne (by injection e with e1; exact e1.symm))).trans h.1.1, (World.cell?_setCell_other w ⟨f, k, none⟩ ⟨g, 1, none⟩ _ (fun e => hne (by injection e with e1; exact e1.symm))).trans h.1.2.1, (World.cell?_setCell_other w ⟨f, k, none⟩ ⟨g, 2, none⟩ _ (fun e => hne (by injection e with e1; exact e1.symm))).trans h.1.2.2⟩, by have := h.2.1; simp [go_sem, this], by have := h.2.2.1; simp [go_sem, this], by have := h.2.2.2; simp [go_sem, this]⟩
/-- The cells of a bivector at a place. -/
def BvAt (Q : Option Addr → Nat → Prop) (g o : Nat) (p : Int) (aS : Option Addr) (S : List Int) (cS : Nat) (x : List Int) (W : World) : Prop :=
  ∃ (ax : Option Addr) (cx : Nat), Q ax cx ∧ (W.cell? ⟨g, o, none⟩ = some (.int .i64 p) ∧ W.cell? ⟨g, o + 1, none⟩ = some (.slice aS S.length cS) ∧ W.cell? ⟨g, o + 2, none⟩ = some (.slice ax x.length cx))
theorem BvAt.below {Q : Option Addr → Nat → Prop} {g o B : Nat} {p : Int} {aS : Option Addr} {S : List Int} {cS : Nat} {x : List Int} {w w' : World} (h : BvAt Q g o p aS S cS x w) (b : Below B w w') (l : g < B) : BvAt Q g o p aS S cS x w' := by
  obtain ⟨ax, cx, hQ, h0, h1, h2⟩ := h
  exact ⟨ax, cx, hQ, (b.cell (p := ⟨g, o, none⟩) l).trans h0, (b.cell (p := ⟨g, o + 1, none⟩) l).trans h1, (b.cell (p := ⟨g, o + 2, none⟩) l).trans h2⟩
def F3 (g o : Nat) (W : World) : Prop :=
  (W.cell? ⟨g, o, none⟩ = some (.int .i64 0) ∧ W.cell? ⟨g, o + 1, none⟩ = some (.slice none 0 0) ∧ W.cell? ⟨g, o + 2, none⟩ = some (.slice none 0 0)) ∧ W.frozen? ⟨g, o, none⟩ = false ∧ W.frozen? ⟨g, o + 1, none⟩ = false ∧ W.frozen? ⟨g, o + 2, none⟩ = false
theorem F3.below {g o B : Nat} {w w' : World} (h : F3 g o w) (b : Below B w w') (l : g < B) : F3 g o w' :=
  ⟨⟨(b.cell (p := ⟨g, o, none⟩) l).trans h.1.1, (b.cell (p := ⟨g, o + 1, none⟩) l).trans h.1.2.1, (b.cell (p := ⟨g, o + 2, none⟩) l).trans h.1.2.2⟩, (b.frozen (p := ⟨g, o, none⟩) l).trans h.2.1, (b.frozen (p := ⟨g, o + 1, none⟩) l).trans h.2.2.1, (b.frozen (p := ⟨g, o + 2, none⟩) l).trans h.2.2.2⟩
theorem F3.made (w : World) (n : Nat) (t : TypeId) {i : Nat} (hi : i < n) : F3 w.heap.size (i * 3) (w.alloc (.cells (madeCells #[.int .i64 0, .slice none 0 0, .slice none 0 0] (n * 3)) t)) := by
  have key : ∀ j, j < 3 → (w.alloc (.cells (madeCells #[.int .i64 0, .slice none 0 0, .slice none 0 0] (n * 3)) t)).cell? ⟨w.heap.size, i * 3 + j, none⟩ = some ((#[Value.int .i64 0, .slice none 0 0, .slice none 0 0] : Array Value)[j]!) := fun j hj => by
    rw [World.cell?_alloc_new]
    have h1 : i * 3 + j < n * 3 := by omega
    have h2 : (i * 3 + j) % 3 = j := by omega
    simp [madeCells, h1, h2]
  exact ⟨⟨key 0 (by omega), key 1 (by omega), key 2 (by omega)⟩, by simp [go_sem]⟩
end Go.Proofs.Ytkibkkdeaojjoab

namespace Go.Proofs.Ytkibkkdeaojjoab
open Go.RowKit
set_option linter.unusedVariables false

def BoxB (z d : Nat) (p : Int) (aS : Option Addr) (n cS : Nat) (ax : Option Addr) (l cx : Nat) (W : World) : Prop :=
  (W.cell? ⟨z, 0, none⟩ = some (.int .i64 p) ∧ W.cell? ⟨z, 1, none⟩ = some (.slice aS n cS) ∧ W.cell? ⟨z, 2, none⟩ = some (.slice ax l cx)) ∧ W.cell? ⟨d, 0, none⟩ = some (.int .i64 p) ∧ W.cell? ⟨d, 1, none⟩ = some (.slice aS n cS)
theorem BoxB.below {z d : Nat} {p : Int} {aS ax : Option Addr} {n cS l cx B : Nat} {w w' : World} (h : BoxB z d p aS n cS ax l cx w) (b : Below B w w') (hz : z < B) (hd : d < B) : BoxB z d p aS n cS ax l cx w' :=
  ⟨⟨(b.cell (p := ⟨z, 0, none⟩) hz).trans h.1.1, (b.cell (p := ⟨z, 1, none⟩) hz).trans h.1.2.1, (b.cell (p := ⟨z, 2, none⟩) hz).trans h.1.2.2⟩, (b.cell (p := ⟨d, 0, none⟩) hd).trans h.2.1, (b.cell (p := ⟨d, 1, none⟩) hd).trans h.2.2⟩
theorem BoxB.wrote {z d b o m : Nat} {p : Int} {aS ax : Option Addr} {n cS l cx : Nat} {w w' : World} (h : BoxB z d p aS n cS ax l cx w) (q : Wrote b o m w w') (hz : b ≠ z) (hd : b ≠ d) : BoxB z d p aS n cS ax l cx w' :=
  ⟨⟨(World.cell?_of_block (w := w) (a := ⟨z, 0, none⟩) (q.block z hz.symm)).trans h.1.1, (World.cell?_of_block (w := w) (a := ⟨z, 1, none⟩) (q.block z hz.symm)).trans h.1.2.1, (World.cell?_of_block (w := w) (a := ⟨z, 2, none⟩) (q.block z hz.symm)).trans h.1.2.2⟩, (World.cell?_of_block (w := w) (a := ⟨d, 0, none⟩) (q.block d hd.symm)).trans h.2.1, (World.cell?_of_block (w := w) (a := ⟨d, 1, none⟩) (q.block d hd.symm)).trans h.2.2⟩
theorem BoxB.two (w : World) (p : Int) (aS ax : Option Addr) (n cS l cx : Nat) (T T' : TypeId) : BoxB w.heap.size (w.alloc (.cells #[.int .i64 p, .slice aS n cS, .slice ax l cx] T)).heap.size p aS n cS ax l cx ((w.alloc (.cells #[.int .i64 p, .slice aS n cS, .slice ax l cx] T)).alloc (.cells #[.int .i64 p, .slice aS n cS] T')) := by
  have h := below_alloc (w.alloc (.cells #[.int .i64 p, .slice aS n cS, .slice ax l cx] T)) (.cells #[.int .i64 p, .slice aS n cS] T')
  exact ⟨⟨(h.cell (p := ⟨w.heap.size, 0, none⟩) (lt_alloc w _)).trans (by simp [go_sem]), (h.cell (p := ⟨w.heap.size, 1, none⟩) (lt_alloc w _)).trans (by simp [go_sem]), (h.cell (p := ⟨w.heap.size, 2, none⟩) (lt_alloc w _)).trans (by simp [go_sem])⟩, nw0 _ _ _ _, nw1 _ _ _ _⟩

end Go.Proofs.Ytkibkkdeaojjoab

namespace Go.Proofs.Ytkibkkdeaojjoab
open Go.RowKit
set_option linter.unusedVariables false

/-- Five cells that may be written. -/
def V5 (g : Nat) (v0 v1 v2 v3 v4 : Value) (W : World) : Prop :=
  (W.cell? ⟨g, 0, none⟩ = some v0 ∧ W.cell? ⟨g, 1, none⟩ = some v1 ∧ W.cell? ⟨g, 2, none⟩ = some v2 ∧ W.cell? ⟨g, 3, none⟩ = some v3 ∧ W.cell? ⟨g, 4, none⟩ = some v4) ∧ W.frozen? ⟨g, 0, none⟩ = false ∧ W.frozen? ⟨g, 1, none⟩ = false ∧ W.frozen? ⟨g, 2, none⟩ = false ∧ W.frozen? ⟨g, 3, none⟩ = false ∧ W.frozen? ⟨g, 4, none⟩ = false
theorem V5.below {g B : Nat} {v0 v1 v2 v3 v4 : Value} {w w' : World} (h : V5 g v0 v1 v2 v3 v4 w) (b : Below B w w') (l : g < B) : V5 g v0 v1 v2 v3 v4 w' :=
  ⟨⟨(b.cell (p := ⟨g, 0, none⟩) l).trans h.1.1, (b.cell (p := ⟨g, 1, none⟩) l).trans h.1.2.1, (b.cell (p := ⟨g, 2, none⟩) l).trans h.1.2.2.1, (b.cell (p := ⟨g, 3, none⟩) l).trans h.1.2.2.2.1, (b.cell (p := ⟨g, 4, none⟩) l).trans h.1.2.2.2.2⟩,
    (b.frozen (p := ⟨g, 0, none⟩) l).trans h.2.1, (b.frozen (p := ⟨g, 1, none⟩) l).trans h.2.2.1, (b.frozen (p := ⟨g, 2, none⟩) l).trans h.2.2.2.1, (b.frozen (p := ⟨g, 3, none⟩) l).trans h.2.2.2.2.1, (b.frozen (p := ⟨g, 4, none⟩) l).trans h.2.2.2.2.2⟩
theorem V5.new (w : World) (v0 v1 v2 v3 v4 : Value) (T : TypeId) : V5 w.heap.size v0 v1 v2 v3 v4 (w.alloc (.cells #[v0, v1, v2, v3, v4] T)) :=
  ⟨⟨by simp [go_sem], by simp [go_sem], by simp [go_sem], by simp [go_sem], by simp [go_sem]⟩, by simp [go_sem], by simp [go_sem], by simp [go_sem], by simp [go_sem], by simp [go_sem]⟩
end Go.Proofs.Ytkibkkdeaojjoab

namespace Go.Proofs.Ytkibkkdeaojjoab
open Go.RowKit
set_option linter.unusedVariables false

/-- The cells of the box of a versor. -/
def BoxW (g : Nat) (p : Int) (aS : Option Addr) (n cS : Nat) (ax : Option Addr) (l cx : Nat) (F : Int) (W : World) : Prop :=
  W.cell? ⟨g, 0, none⟩ = some (.int .i64 p) ∧ W.cell? ⟨g, 1, none⟩ = some (.slice aS n cS) ∧ W.cell? ⟨g, 2, none⟩ = some (.slice ax l cx) ∧ W.cell? ⟨g, 3, none⟩ = some (.int .i64 p) ∧ W.cell? ⟨g, 4, none⟩ = some (.int .i64 F)
theorem BoxW.below {g : Nat} {p F : Int} {aS ax : Option Addr} {n cS l cx B : Nat} {w w' : World} (h : BoxW g p aS n cS ax l cx F w) (hb : Below B w w') (hg : g < B) : BoxW g p aS n cS ax l cx F w' :=
  ⟨(hb.cell (p := ⟨g, 0, none⟩) hg).trans h.1, (hb.cell (p := ⟨g, 1, none⟩) hg).trans h.2.1, (hb.cell (p := ⟨g, 2, none⟩) hg).trans h.2.2.1, (hb.cell (p := ⟨g, 3, none⟩) hg).trans h.2.2.2.1, (hb.cell (p := ⟨g, 4, none⟩) hg).trans h.2.2.2.2⟩
theorem BoxW.wrote {g b o m : Nat} {p F : Int} {aS ax : Option Addr} {n cS l cx : Nat} {w w' : World} (h : BoxW g p aS n cS ax l cx F w) (hb : Wrote b o m w w') (hg : g ≠ b) : BoxW g p aS n cS ax l cx F w' :=
  ⟨(World.cell?_of_block (w := w) (a := ⟨g, 0, none⟩) (hb.block g hg)).trans h.1, (World.cell?_of_block (w := w) (a := ⟨g, 1, none⟩) (hb.block g hg)).trans h.2.1, (World.cell?_of_block (w := w) (a := ⟨g, 2, none⟩) (hb.block g hg)).trans h.2.2.1, (World.cell?_of_block (w := w) (a := ⟨g, 3, none⟩) (hb.block g hg)).trans h.2.2.2.1, (World.cell?_of_block (w := w) (a := ⟨g, 4, none⟩) (hb.block g hg)).trans h.2.2.2.2⟩
theorem BoxW.new (w : World) (p : Int) (aS : Option Addr) (n cS : Nat) (ax : Option Addr) (l cx : Nat) (F : Int) (T : TypeId) : BoxW w.heap.size p aS n cS ax l cx F (w.alloc (.cells #[.int .i64 p, .slice aS n cS, .slice ax l cx, .int .i64 p, .int .i64 F] T)) :=
  ⟨by simp [go_sem], by simp [go_sem], by simp [go_sem], by simp [go_sem], by simp [go_sem]⟩
end Go.Proofs.Ytkibkkdeaojjoab

namespace Go.Proofs.Ytkibkkdeaojjoab
open Go.RowKit
set_option linter.unusedVariables false

/-- Five cells. -/
def Box5 (g : Nat) (v0 v1 v2 v3 v4 : Value) (W : World) : Prop :=
  W.cell? ⟨g, 0, none⟩ = some v0 ∧ W.cell? ⟨g, 1, none⟩ = some v1 ∧ W.cell? ⟨g, 2, none⟩ = some v2 ∧ W.cell? ⟨g, 3, none⟩ = some v3 ∧ W.cell? ⟨g, 4, none⟩ = some v4
theorem Box5.below {g B : Nat} {v0 v1 v2 v3 v4 : Value} {w w' : World} (h : Box5 g v0 v1 v2 v3 v4 w) (b : Below B w w') (l : g < B) : Box5 g v0 v1 v2 v3 v4 w' :=
  ⟨(b.cell (p := ⟨g, 0, none⟩) l).trans h.1, (b.cell (p := ⟨g, 1, none⟩) l).trans h.2.1, (b.cell (p := ⟨g, 2, none⟩) l).trans h.2.2.1, (b.cell (p := ⟨g, 3, none⟩) l).trans h.2.2.2.1, (b.cell (p := ⟨g, 4, none⟩) l).trans h.2.2.2.2⟩
/-- The boxes of a space and of a number. -/
def BoxU (g m : Nat) (p : Int) (aS : Option Addr) (n cS : Nat) (R : Int) (W : World) : Prop :=
  W.cell? ⟨g, 0, none⟩ = some (.int .i64 p) ∧ W.cell? ⟨g, 1, none⟩ = some (.slice aS n cS) ∧ W.cell? ⟨m, 0, none⟩ = some (.int .i64 p) ∧ W.cell? ⟨m, 1, none⟩ = some (.int .i64 R)
theorem BoxU.below {g m : Nat} {p R : Int} {aS : Option Addr} {n cS B : Nat} {w w' : World} (h : BoxU g m p aS n cS R w) (hb : Below B w w') (hg : g < B ∧ m < B) : BoxU g m p aS n cS R w' :=
  ⟨(hb.cell (p := ⟨g, 0, none⟩) hg.1).trans h.1, (hb.cell (p := ⟨g, 1, none⟩) hg.1).trans h.2.1, (hb.cell (p := ⟨m, 0, none⟩) hg.2).trans h.2.2.1, (hb.cell (p := ⟨m, 1, none⟩) hg.2).trans h.2.2.2⟩
theorem BoxU.wrote {g m b o k : Nat} {p R : Int} {aS : Option Addr} {n cS : Nat} {w w' : World} (h : BoxU g m p aS n cS R w) (hb : Wrote b o k w w') (hg : g ≠ b ∧ m ≠ b) : BoxU g m p aS n cS R w' :=
  ⟨(World.cell?_of_block (w := w) (a := ⟨g, 0, none⟩) (hb.block g hg.1)).trans h.1, (World.cell?_of_block (w := w) (a := ⟨g, 1, none⟩) (hb.block g hg.1)).trans h.2.1, (World.cell?_of_block (w := w) (a := ⟨m, 0, none⟩) (hb.block m hg.2)).trans h.2.2.1, (World.cell?_of_block (w := w) (a := ⟨m, 1, none⟩) (hb.block m hg.2)).trans h.2.2.2⟩
end Go.Proofs.Ytkibkkdeaojjoab

namespace Go.Proofs.Ytkibkkdeaojjoab
open Go.RowKit
set_option linter.unusedVariables false

/-- What holds behind the boxes of a reflection and of its space. -/
structure DR7 (w : World) (gs : Nat) (p : Int) (aS : Option Addr) (n cS : Nat) (au : Option Addr) (l cu : Nat) (W : World) : Prop where
  box : BoxV w.heap.size gs p aS n cS au l cu W
  bel : Below w.heap.size w W
  hd : w.heap.size < W.heap.size ∧ gs < W.heap.size
structure DRN (w : World) (gs : Nat) (p : Int) (aS : Option Addr) (n cS : Nat) (au : Option Addr) (l cu : Nat) (bf : Nat) (W : World) : Prop extends DR7 w gs p aS n cS au l cu W where
  c0 : W.cell? ⟨bf, 0, none⟩ = some (.int .i64 0)
  c1 : W.cell? ⟨bf, 1, none⟩ = some (.int .i64 0)
  y0 : W.frozen? ⟨bf, 0, none⟩ = false
  y1 : W.frozen? ⟨bf, 1, none⟩ = false
  lb : bf < W.heap.size
  lw : w.heap.size < bf ∧ gs < bf
theorem DR7.call {w W W' : World} {gs : Nat} {p : Int} {aS : Option Addr} {n cS : Nat} {au : Option Addr} {l cu : Nat} (h : DR7 w gs p aS n cS au l cu W) (b : Below W.heap.size W W') : DR7 w gs p aS n cS au l cu W' :=
  ⟨h.box.below b h.hd, below_step h.bel (Nat.le_of_lt h.hd.1) b, Nat.lt_of_lt_of_le h.hd.1 b.size, Nat.lt_of_lt_of_le h.hd.2 b.size⟩
theorem DR7.alloc {w W : World} {gs : Nat} {p : Int} {aS : Option Addr} {n cS : Nat} {au : Option Addr} {l cu : Nat} (h : DR7 w gs p aS n cS au l cu W) (o : Obj) : DR7 w gs p aS n cS au l cu (W.alloc o) := h.call (below_alloc W o)
theorem DRN.call {w W W' : World} {gs bf : Nat} {p : Int} {aS : Option Addr} {n cS : Nat} {au : Option Addr} {l cu : Nat} (h : DRN w gs p aS n cS au l cu bf W) (b : Below W.heap.size W W') : DRN w gs p aS n cS au l cu bf W' :=
  { h.toDR7.call b with c0 := (b.cell (p := ⟨bf, 0, none⟩) h.lb).trans h.c0, c1 := (b.cell (p := ⟨bf, 1, none⟩) h.lb).trans h.c1, y0 := (b.frozen (p := ⟨bf, 0, none⟩) h.lb).trans h.y0, y1 := (b.frozen (p := ⟨bf, 1, none⟩) h.lb).trans h.y1, lb := Nat.lt_of_lt_of_le h.lb b.size, lw := h.lw }
theorem BoxV.put {g gs b o : Nat} {p : Int} {aS ax : Option Addr} {n cS l cx : Nat} {w : World} {v : Value} (h : BoxV g gs p aS n cS ax l cx w) (h1 : g ≠ b) (h2 : gs ≠ b) : BoxV g gs p aS n cS ax l cx (w.setCell ⟨b, o, none⟩ v) := by
  have e : ∀ j, (w.setCell ⟨b, o, none⟩ v).cell? ⟨g, j, none⟩ = w.cell? ⟨g, j, none⟩ := fun j => World.cell?_setCell_other w ⟨b, o, none⟩ ⟨g, j, none⟩ v (fun e => h1 (by injection e with e1; exact e1.symm))
  have e2 : ∀ j, (w.setCell ⟨b, o, none⟩ v).cell? ⟨gs, j, none⟩ = w.cell? ⟨gs, j, none⟩ := fun j => World.cell?_setCell_other w ⟨b, o, none⟩ ⟨gs, j, none⟩ v (fun e => h2 (by injection e with e1; exact e1.symm))
  exact ⟨(e 0).trans h.1, (e 1).trans h.2.1, (e 2).trans h.2.2.1, (e2 0).trans h.2.2.2.1, (e2 1).trans h.2.2.2.2⟩
theorem DRN.put {w W : World} {gs bf : Nat} {p : Int} {aS : Option Addr} {n cS : Nat} {au : Option Addr} {l cu : Nat} (h : DRN w gs p aS n cS au l cu bf W) (u v : Value) : DR7 w gs p aS n cS au l cu ((W.setCell ⟨bf, 0, none⟩ u).setCell ⟨bf, 1, none⟩ v) :=
  ⟨(h.box.put (Nat.ne_of_lt h.lw.1) (Nat.ne_of_lt h.lw.2)).put (Nat.ne_of_lt h.lw.1) (Nat.ne_of_lt h.lw.2), (h.bel.setCell (Nat.le_of_lt h.lw.1) _).setCell (Nat.le_of_lt h.lw.1) _, by simpa [World.setCell] using h.hd⟩
/-- Behind the factor: its block holds p and K. -/
structure DRE (w : World) (gs : Nat) (p : Int) (aS : Option Addr) (n cS : Nat) (au : Option Addr) (l cu : Nat) (bf : Nat) (K : Int) (W : World) : Prop extends DR7 w gs p aS n cS au l cu W where
  c0 : W.cell? ⟨bf, 0, none⟩ = some (.int .i64 p)
  c1 : W.cell? ⟨bf, 1, none⟩ = some (.int .i64 K)
  lb : bf < W.heap.size
theorem DRN.done {w W : World} {gs bf : Nat} {p K : Int} {aS : Option Addr} {n cS : Nat} {au : Option Addr} {l cu : Nat} (h : DRN w gs p aS n cS au l cu bf W) : DRE w gs p aS n cS au l cu bf K ((W.setCell ⟨bf, 0, none⟩ (.int .i64 p)).setCell ⟨bf, 1, none⟩ (.int .i64 K)) :=
  { h.put (.int .i64 p) (.int .i64 K) with
    c0 := (World.cell?_setCell_other _ _ _ _ (by simp)).trans (World.cell?_setCell_same W _ _ h.c0)
    c1 := World.cell?_setCell_same _ _ _ ((World.cell?_setCell_other _ _ _ _ (by simp)).trans h.c1)
    lb := by simpa [World.setCell] using h.lb }
theorem DR7.done {w W : World} {gs : Nat} {p K : Int} {aS : Option Addr} {n cS : Nat} {au : Option Addr} {l cu : Nat} (h : DR7 w gs p aS n cS au l cu W) (T : TypeId) : DRE w gs p aS n cS au l cu W.heap.size K (W.alloc (.cells #[.int .i64 p, .int .i64 K] T)) :=
  { h.alloc (.cells #[.int .i64 p, .int .i64 K] T) with c0 := by simp [go_sem], c1 := by simp [go_sem], lb := lt_alloc W _ }
theorem DRE.call {w W W' : World} {gs bf : Nat} {p K : Int} {aS : Option Addr} {n cS : Nat} {au : Option Addr} {l cu : Nat} (h : DRE w gs p aS n cS au l cu bf K W) (b : Below W.heap.size W W') : DRE w gs p aS n cS au l cu bf K W' :=
  { h.toDR7.call b with c0 := (b.cell (p := ⟨bf, 0, none⟩) h.lb).trans h.c0, c1 := (b.cell (p := ⟨bf, 1, none⟩) h.lb).trans h.c1, lb := Nat.lt_of_lt_of_le h.lb b.size }
end Go.Proofs.Ytkibkkdeaojjoab
