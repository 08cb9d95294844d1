/-
  The program's factors behind a blade: contract.
  Conditions: a mask of at most six bits; the squares are a row of known cells with numbers of the prime.
  The program's geometric product: contract.
  Conditions: a space and multivectors of it: rows of known cells with numbers of the prime.
  The model's geometric product: contract.
  Conditions: a space and multivectors of it: rows of known cells with numbers of the prime.
  GeometricProduct: contracts of the program and of the model.
  Conditions: the lists are nil or rows of known cells, of at most 1048576 numbers.
  PowerOf: contracts of the program and of the model.
  Conditions: the lists are nil or rows of known cells, of at most 1048576 numbers.
  Draws of multivectors: contracts.
  Conditions: the source stands in a block of known cells; the space is one.
  Products of a kind: wedge product, left and right contraction: sums. No Go in sight.
  No conditions.
  The model's product of the kind 0: contract.
  Conditions: a space and multivectors of it: rows of known cells with numbers of the prime.
  The model's product of the kind 1: contract.
  Conditions: a space and multivectors of it: rows of known cells with numbers of the prime.
  The model's product of the kind 2: contract.
  Conditions: a space and multivectors of it: rows of known cells with numbers of the prime.
  The program's products of a kind: sums; the table of the kinds: contracts.
  No conditions but masks below 64.
  The program's product of the kind 0: contract.
  Conditions: a space and multivectors of it: rows of known cells with numbers of the prime.
  The program's product of the kind 1: contract.
  Conditions: a space and multivectors of it: rows of known cells with numbers of the prime.
  The program's product of the kind 2: contract.
  Conditions: a space and multivectors of it: rows of known cells with numbers of the prime.
  WedgeProduct, LeftContraction, RightContraction: contracts of the program and of the model.
  Conditions: the lists are nil or rows of known cells, of at most 1048576 numbers.
  Changes of signs by grades, and the signs of all grades: contracts of the program.
  Conditions: the lists are nil or rows of known cells, of at most 1048576 numbers.
  Signs changed, and the laws' three functions that do so: contracts of the program and of the model.
  Conditions: the lists are nil or rows of known cells, of at most 1048576 numbers.
  ReverseOf, InvoluteOf and ConjugateOf: contracts of the program and of the model.
  Conditions: the lists are nil or rows of known cells, of at most 1048576 numbers.
  Pseudoscalars, their squares, duals, meets: numbers. No Go in sight.
  No conditions.
  WedgeOfVectors: contracts of the program and of the model.
  Conditions: the lists are nil or rows of known cells, of at most 1048576 numbers.
  The signs of those grades of which a multivector has blades: contracts of the program and of the model.
  Conditions: the lists are nil or rows of known cells, of at most 1048576 numbers.
  GradesOf: contracts of the program and of the model.
  Conditions: the lists are nil or rows of known cells, of at most 1048576 numbers.
  slices.Max and slices.Equal of lists of numbers.
  Conditions: rows of known cells, of at most 1048576 numbers.
  Versors: spinor norms, parities, what is around vectors. No Go in sight.
  No conditions.
  Two lists compared: contracts of the program and of the model.
  Conditions: the lists are nil or rows of known cells, of at most 1048576 numbers.
  IsEven: contracts of the program and of the model.
  Conditions: the lists are nil or rows of known cells, of at most 1048576 numbers.
  Pseudoscalars, their squares, scalar products: contracts of the program and of the model.
  Conditions: the lists are nil or rows of known cells, of at most 1048576 numbers.
  What is around vectors, parities, numbers of basis vectors (program): contracts of the program and of the model.
  Conditions: the lists are nil or rows of known cells, of at most 1048576 numbers.
  What the model's turned matrices are: a contract.
  Conditions: the matrix is a row of rows of known cells, all of one length.
  Products of matrices, in the program and in the model: contracts.
  Conditions: the matrices are rows of rows of known cells with numbers of the prime; their sizes fit.
  The model's products of matrices: a contract.
  Conditions: the matrices are rows of rows of known cells with numbers of the prime; their sizes fit.
  TransposeMatrix, in the program and in the model.
  Conditions: the arguments are nil or rows of known cells, of at most 1048576 numbers.
  Traces, in the program and in the model.
  Conditions: the arguments are nil or rows of known cells, of at most 1048576 numbers.
  Powers of matrices, in the program and in the model.
  Conditions: the matrix is nil or a row of rows of known cells.
  Whether what is around vectors is vectors (program): contracts of the program and of the model.
  Conditions: the lists are nil or rows of known cells, of at most 1048576 numbers.
  Multivectors as versors (program): contracts of the program and of the model.
  Conditions: the lists are nil or rows of known cells, of at most 1048576 numbers.
  DualOf, UndualOf, MeetOf: contracts of the program and of the model.
  Conditions: the lists are nil or rows of known cells, of at most 1048576 numbers.
  Spaces and multivectors checked to be versors (program): contracts of the program and of the model.
  Conditions: the lists are nil or rows of known cells, of at most 1048576 numbers.
  Inverses of versors, vectors led, sandwiches (program): contracts of the program and of the model.
  Conditions: the lists are nil or rows of known cells, of at most 1048576 numbers.
  Vectors led by motions (program): contracts of the program and of the model.
  Conditions: the lists are nil or rows of known cells, of at most 1048576 numbers.
  Reflections (program): contracts of the program and of the model.
  Conditions: the lists are nil or rows of known cells, of at most 1048576 numbers.
  The model's list of the numbers of the basis vectors.
  Conditions: rows of known cells.
  Versors (model): contracts of the program and of the model.
  Conditions: the lists are nil or rows of known cells, of at most 1048576 numbers.
  The draw of a list of vectors with norms other than 0: contract.
  Conditions: the source stands in a block of known cells; the space is one.
  What square roots of numbers are, in the program and in the model: contracts of the method root and of the model's helper.
  Conditions: the prime is one, the number is a remainder by it.
  Laws of versors, the program's side: contracts of the program and of the model.
  Conditions: the lists are nil or rows of known cells, of at most 1048576 numbers.
  Products of vectors (program): contracts of the program and of the model.
  Conditions: the lists are nil or rows of known cells, of at most 1048576 numbers.
  VersorOf, ReflectIn (program): contracts of the program and of the model.
  Conditions: the lists are nil or rows of known cells, of at most 1048576 numbers.
  Versors told, products of vectors, reflections (model): contracts of the program and of the model.
  Conditions: the lists are nil or rows of known cells, of at most 1048576 numbers.
  VersorBetween (program): contracts of the program and of the model.
  Conditions: the lists are nil or rows of known cells, of at most 1048576 numbers.
  Laws of versors, the model's side: contracts of the program and of the model.
  Conditions: the lists are nil or rows of known cells, of at most 1048576 numbers.
  Geometric products of vectors: twice their product, squares are norms. No Go in sight.
  No conditions.
  BracketOf: contracts of the program and of the model.
  Conditions: the lists are nil or rows of known cells, of at most 1048576 numbers.
  size5, times5, vector5, plus5: contracts of the program and of the model.
  Conditions: the lists are nil or rows of known cells, of at most 1048576 numbers.
  Products of multivectors: they distribute, and their scalars don't depend on the order of two factors.
  Conditions: none.
  Reversals and involutions of products: mathematics.
  Conditions: none.
  Versors: products of vectors are versors, and their sandwiches the reflections. No Go in sight.
  No conditions.
  Versors: products of vectors are versors, their sandwiches are the reflections, the last one first. No Go in sight.
  No conditions.
  Versors: the sandwich of a product of vectors is the reflections in them, the last one first. No Go in sight.
  No conditions.
  The draw of two vectors with the same norm: contract.
  Conditions: the code is nil or a row of known bytes, of at most 4096.
-/
import Derived.Test.YtdfkpbmccmbjmaaQg21
import Derived.Deep.DeepAppendRoom
import Derived.Deep.DeepCutAuto
import Derived.Deep.RegionHeld3
import Derived.Laws.EntriesVeiled
import Derived.Test.YtdfkpbmccmbjmaaQg3
import Derived.Deep.AppendLies
import Derived.StillTailTactics
import Derived.Test.YtdfkpbmccmbjmaaQg19
import Derived.Test.YtdfkpbmccmbjmaaQg15
import Derived.Laws.AppendOwn
import Derived.Test.YtdfkpbmccmbjmaaQg4
import Derived.BigQuiet
import Derived.ChangeKeysEq
import Derived.Laws.StructEq
import Derived.Test.YtdfkpbmccmbjmaaQg2
import Derived.Test.YtdfkpbmccmbjmaaQg8
import Derived.Test.YtdfkpbmccmbjmaaQg9
import Derived.Test.YtdfkpbmccmbjmaaQg17
import Derived.Test.YtdfkpbmccmbjmaaQg6
import Derived.RegionTactic
import Derived.Outline
import Derived.Test.YtdfkpbmccmbjmaaQg14
namespace Go.Proofs.Ytdfkpbmccmbjmaa
open Go.RowKit
set_option linter.unusedVariables false

/-- Room of one's own at a known block: a list with capacity. -/
def RoomR (w : World) (g cap : Nat) (zs : List Int) : Prop := w.ownsRow g 2 1 (.slice (some ⟨g, 0, none⟩) zs.length cap) zs.length (zs.map (Value.int .i64))
theorem RoomR.cell {w : World} {g cap : Nat} {zs : List Int} (h : RoomR w g cap zs) {j : Nat} (hj : j < zs.length) : w.cell? ⟨g, j, none⟩ = some (.int .i64 (zs.getD j 0)) := by
  have h2 := World.ownsRow.cells h (g := g) rfl j (.int .i64 (zs.getD j 0)) (by simp [hj, List.getD])
  rw [Addr.add_lit, Nat.zero_add] at h2
  exact h2
theorem RoomR.row {w : World} {g n : Nat} {f : Nat → Int} (h : RoomR w g n (mkR n f)) : RowOwn w g 0 n f := by
  refine ⟨fun j hj => ?_, fun j hj => ?_⟩
  · have h2 := h.cell (j := j) (by rw [mkR_len]; exact hj)
    rw [mkR_at _ hj] at h2
    rw [Nat.zero_add]; exact h2
  · obtain ⟨_, h⟩ := h
    rcases h with ⟨h, _⟩ | ⟨g', cap, cur, hv, hb, hg, hnc, hcm, hcs, htake⟩
    · cases h
    · cases hv
      simp [World.frozen?, hg]
theorem RoomR.start (w : World) {n : Nat} (hn : 0 < n) (hm : n ≤ 64) (v : Int) : RoomR (w.alloc (.cells ((madeCells #[.int .i64 0] n).setIfInBounds 0 (.int .i64 v)) 2)) w.heap.size n [v] := by
  refine ⟨rfl, .inr ⟨w.heap.size, n, (madeCells #[.int .i64 0] n).setIfInBounds 0 (.int .i64 v), rfl, Nat.le_refl _, heap_alloc_new w _, hn, by unfold maxLen; omega, by simp [size_madeCells], ?_⟩⟩
  obtain ⟨k, rfl⟩ : ∃ k, n = k + 1 := ⟨n - 1, by omega⟩
  have e : ((madeCells #[.int .i64 0] (k + 1)).setIfInBounds 0 (Value.int .i64 v)).toList = (Value.int .i64 v) :: ((madeCells #[.int .i64 0] (k + 1)).setIfInBounds 0 (Value.int .i64 v)).toList.drop 1 := by
    have hl : 0 < ((madeCells #[Value.int .i64 0] (k + 1)).setIfInBounds 0 (Value.int .i64 v)).toList.length := by simp [size_madeCells]
    rw [List.drop_one]
    have h2 := List.cons_head_tail (List.ne_nil_of_length_pos hl)
    rw [← h2]
    simp [List.head_eq_getElem]
  rw [e]; rfl
theorem RoomR.below {w w' : World} {B g n : Nat} {zs : List Int} (h : RoomR w g n zs) (hb : Below B w w') (hg : g < B) : RoomR w' g n zs := by
  obtain ⟨h0, h1⟩ := h
  rcases h1 with ⟨h1, _⟩ | ⟨g', cap, cur, hv, hb1, hg1, hnc, hcm, hcs, htake⟩
  · cases h1
  · cases hv
    exact ⟨h0, .inr ⟨g, n, cur, rfl, hb1, (hb.block g hg).trans hg1, hnc, hcm, hcs, htake⟩⟩
end Go.Proofs.Ytdfkpbmccmbjmaa

namespace Go.Proofs.Ytdfkpbmccmbjmaa
open Go.RowKit Go.Maps
set_option linter.unusedVariables false

/-- The number at c, when the terms that have come are added. -/
def gq (p : Int) (S x y : List Int) (left : Lit → Bool) (c : Nat) : Int := sm (bl S) (fl x left (tm p S x y c))
end Go.Proofs.Ytdfkpbmccmbjmaa

namespace Go.Proofs.Ytdfkpbmccmbjmaa
open Go.RowKit
set_option linter.unusedVariables false

/-- A block of numbers. -/
def Tag (b : Nat) (w : World) : Prop := ∃ cur, w.heap[b]? = some (.cells cur 2 (0, 0))
theorem Tag.start (w : World) (cs : Array Value) : Tag w.heap.size (w.alloc (.cells cs 2)) := ⟨cs, heap_alloc_new w _⟩
theorem Tag.set {b : Nat} {w : World} (h : Tag b w) (c i : Nat) (v : Value) : Tag b (w.setCell ⟨c, i, none⟩ v) := by
  obtain ⟨cur, h⟩ := h
  by_cases e : b = c
  · subst e
    exact ⟨cur.setIfInBounds i v, by simp [World.setCell, Array.getElem?_modify, h]⟩
  · exact ⟨cur, (Below.heap_setCell _ _ _ _ e).trans h⟩
end Go.Proofs.Ytdfkpbmccmbjmaa

namespace Go.Proofs.Ytdfkpbmccmbjmaa
open Go.RowKit Go.Maps
set_option linter.unusedVariables false

theorem ss2 {B : Nat} {w w' : World} (h : Below B w w') {g : Nat} {u0 u1 : Value} (l : g < B) (h0 : w.cell? ⟨g, 0, none⟩ = some u0 ∧ w.cell? ⟨g, 1, none⟩ = some u1) : w'.cell? ⟨g, 0, none⟩ = some u0 ∧ w'.cell? ⟨g, 1, none⟩ = some u1 :=
  ⟨(h.cell (p := ⟨g, 0, none⟩) l).trans h0.1, (h.cell (p := ⟨g, 1, none⟩) l).trans h0.2⟩
end Go.Proofs.Ytdfkpbmccmbjmaa

namespace Go.Proofs.Ytdfkpbmccmbjmaa
open Go.RowKit
set_option linter.unusedVariables false

/-- Whether a term of grade g has come. -/
def cm (x : List Int) (left : Lit → Bool) (g : Nat) : Bool := (List.range x.length).any fun j => decide (gr j = g) && decide (x.getD j 0 ≠ 0) && !(td left j)
end Go.Proofs.Ytdfkpbmccmbjmaa

namespace Go.Proofs.Ytdfkpbmccmbjmaa
open Go.RowKit
set_option linter.unusedVariables false

theorem OutR.more {B : Nat} {w1 : World} {v' : Value} {zs ys : List Int} {N : Nat} {X : List Value} {k : Int} (hX : X = zs.map (Value.int .i64)) (hN : N = zs.length) (hs : ys = zs ++ [k]) (h1 : w1.ownsRow B 2 1 v' (N + 1) (X ++ [.int .i64 k])) : OutR B w1 v' ys := by
  subst hs hN hX
  unfold OutR
  rw [List.length_append, List.map_append]
  exact h1
end Go.Proofs.Ytdfkpbmccmbjmaa

namespace Go.Proofs.Ytdfkpbmccmbjmaa
open Go.RowKit
set_option linter.unusedVariables false

theorem ss2s {w : World} {b i j : Nat} {u v : Value} {g : Nat} {u0 u1 : Value} (l : g ≠ b) (h0 : w.cell? ⟨g, 0, none⟩ = some u0 ∧ w.cell? ⟨g, 1, none⟩ = some u1) : ((w.setCell ⟨b, i, none⟩ u).setCell ⟨b, j, none⟩ v).cell? ⟨g, 0, none⟩ = some u0 ∧ ((w.setCell ⟨b, i, none⟩ u).setCell ⟨b, j, none⟩ v).cell? ⟨g, 1, none⟩ = some u1 := by
  have e : ∀ (W : World) (i k : Nat) (v : Value), (W.setCell ⟨b, i, none⟩ v).cell? ⟨g, k, none⟩ = W.cell? ⟨g, k, none⟩ := fun W i k v => World.cell?_setCell_other W ⟨b, i, none⟩ ⟨g, k, none⟩ v (fun h => by injection h with h1; omega)
  rw [e, e, e, e]; exact h0

end Go.Proofs.Ytdfkpbmccmbjmaa

namespace Go.Proofs.Ytdfkpbmccmbjmaa
open Go.RowKit
set_option linter.unusedVariables false

/-- The cells of the box of a multivector. -/
def BoxM (g : Nat) (p : Int) (aS : Option Addr) (n cS : Nat) (ax : Option Addr) (l cx : Nat) (W : World) : Prop :=
  W.cell? ⟨g, 0, none⟩ = some (.int .i64 p) ∧ W.cell? ⟨g, 1, none⟩ = some (.slice aS n cS) ∧ W.cell? ⟨g, 2, none⟩ = some (.slice ax l cx)
theorem BoxM.below {g : Nat} {p : Int} {aS ax : Option Addr} {n cS l cx B : Nat} {w w' : World} (h : BoxM g p aS n cS ax l cx w) (hb : Below B w w') (hg : g < B) : BoxM g p aS n cS ax l cx w' :=
  ⟨(hb.cell (p := ⟨g, 0, none⟩) hg).trans h.1, (hb.cell (p := ⟨g, 1, none⟩) hg).trans h.2.1, (hb.cell (p := ⟨g, 2, none⟩) hg).trans h.2.2⟩
theorem BoxM.new (w : World) (p : Int) (aS : Option Addr) (n cS : Nat) (ax : Option Addr) (l cx : Nat) (T : TypeId) : BoxM w.heap.size p aS n cS ax l cx (w.alloc (.cells #[.int .i64 p, .slice aS n cS, .slice ax l cx] T)) :=
  ⟨by simp [go_sem], by simp [go_sem], by simp [go_sem]⟩
/-- The box of a multivector and that of its space. -/
def BoxV (g gs : Nat) (p : Int) (aS : Option Addr) (n cS : Nat) (ax : Option Addr) (l cx : Nat) (W : World) : Prop :=
  W.cell? ⟨g, 0, none⟩ = some (.int .i64 p) ∧ W.cell? ⟨g, 1, none⟩ = some (.slice aS n cS) ∧ W.cell? ⟨g, 2, none⟩ = some (.slice ax l cx) ∧ W.cell? ⟨gs, 0, none⟩ = some (.int .i64 p) ∧ W.cell? ⟨gs, 1, none⟩ = some (.slice aS n cS)
theorem BoxV.below {g gs : Nat} {p : Int} {aS ax : Option Addr} {n cS l cx B : Nat} {w w' : World} (h : BoxV g gs p aS n cS ax l cx w) (hb : Below B w w') (hg : g < B ∧ gs < B) : BoxV g gs p aS n cS ax l cx w' :=
  ⟨(hb.cell (p := ⟨g, 0, none⟩) hg.1).trans h.1, (hb.cell (p := ⟨g, 1, none⟩) hg.1).trans h.2.1, (hb.cell (p := ⟨g, 2, none⟩) hg.1).trans h.2.2.1, (hb.cell (p := ⟨gs, 0, none⟩) hg.2).trans h.2.2.2.1, (hb.cell (p := ⟨gs, 1, none⟩) hg.2).trans h.2.2.2.2⟩
end Go.Proofs.Ytdfkpbmccmbjmaa

namespace Go.Proofs.Ytdfkpbmccmbjmaa
open Go.RowKit
set_option linter.unusedVariables false

/-! ### Powers -/
def pwF (p : Int) : Nat → Nat → List (List Int) → List (List Int) → List (List Int)
  | 0, _, out, _ => out
  | f + 1, k, out, step => if k = 0 then out else pwF p f (k / 2) (if k % 2 = 1 then mulM p out step else out) (mulM p step step)
def powM (p : Int) (m : List (List Int)) (k : Nat) : List (List Int) := pwF p 11 k (oneM m.length) m
/-- A square matrix with n rows of numbers. -/
def Sq (p : Int) (m : List (List Int)) (n : Nat) : Prop := Rect p m n ∧ m.length = n
theorem Sq.one {p : Int} (hp : prm p = true) {n : Nat} (hn : n ≤ 1024) : Sq p (oneM n) n := by
  have := prm_bd hp
  refine ⟨⟨by unfold oneM; rw [mk_len]; exact hn, hn, fun i hi => ?_, fun i hi j hj => ?_⟩, by unfold oneM; rw [mk_len]⟩
  · unfold oneM at hi ⊢; rw [mk_len] at hi; exact mk_rowLen _ hi
  · unfold oneM at hi hj ⊢
    rw [mk_len] at hi
    rw [mk_rowLen _ hi] at hj
    have e : (rw' (mk n n fun i j => if i = j then 1 else 0) i).getD j 0 = if i = j then 1 else 0 := mk_at _ hi hj
    rw [e]; split <;> omega
theorem Sq.size {p : Int} {m : List (List Int)} {n : Nat} (h : Sq p m n) (hn : n ≤ 16) : m.length + tot m m.length ≤ 1048576 := by
  rw [tot_const h.1.len (Nat.le_refl _), h.2]
  have : n * n ≤ 16 * 16 := Nat.mul_le_mul hn hn
  omega
theorem Sq.of {p : Int} {m : List (List Int)} (h : Lst 1 p m) (k : m.length = (rw' m 0).length) : Sq p m m.length := ⟨by rw [k]; have := rect_of h; exact this, rfl⟩
/-- Where a loop of powers stands: f rounds may come. -/
def PwAt (p : Int) (m : List (List Int)) (k0 k f : Nat) (out step : List (List Int)) : Prop :=
  k < 2 ^ f ∧ f ≤ 11 ∧ pwF p f k out step = powM p m k0 ∧ Sq p out m.length ∧ Sq p step m.length
theorem PwAt.start {p : Int} {m : List (List Int)} {k : Nat} (h : Lst 1 p m) (hq : m.length = (rw' m 0).length) (hk : k ≤ 1000) : PwAt p m k k 11 (oneM m.length) m :=
  ⟨by omega, Nat.le_refl _, rfl, Sq.one h.prime (by have := h.hi; omega), Sq.of h hq⟩
theorem Sq.r2 {p : Int} {a b : List (List Int)} {n : Nat} (ha : Sq p a n) (hb : Sq p b n) : Rect p a b.length := by rw [hb.2]; exact ha.1
theorem Sq.r0 {p : Int} {b : List (List Int)} {n : Nat} (hb : Sq p b n) (h0 : 0 < n) : Rect p b (rw' b 0).length ∧ 0 < b.length := by
  rw [hb.1.len 0 (by rw [hb.2]; exact h0), hb.2]; exact ⟨hb.1, h0⟩
end Go.Proofs.Ytdfkpbmccmbjmaa

namespace Go.Proofs.Ytdfkpbmccmbjmaa
open Go.RowKit
set_option linter.unusedVariables false

/-- Five cells that may be written. -/
def V5 (g : Nat) (v0 v1 v2 v3 v4 : Value) (W : World) : Prop :=
  (W.cell? ⟨g, 0, none⟩ = some v0 ∧ W.cell? ⟨g, 1, none⟩ = some v1 ∧ W.cell? ⟨g, 2, none⟩ = some v2 ∧ W.cell? ⟨g, 3, none⟩ = some v3 ∧ W.cell? ⟨g, 4, none⟩ = some v4) ∧ W.frozen? ⟨g, 0, none⟩ = false ∧ W.frozen? ⟨g, 1, none⟩ = false ∧ W.frozen? ⟨g, 2, none⟩ = false ∧ W.frozen? ⟨g, 3, none⟩ = false ∧ W.frozen? ⟨g, 4, none⟩ = false
theorem V5.below {g B : Nat} {v0 v1 v2 v3 v4 : Value} {w w' : World} (h : V5 g v0 v1 v2 v3 v4 w) (b : Below B w w') (l : g < B) : V5 g v0 v1 v2 v3 v4 w' :=
  ⟨⟨(b.cell (p := ⟨g, 0, none⟩) l).trans h.1.1, (b.cell (p := ⟨g, 1, none⟩) l).trans h.1.2.1, (b.cell (p := ⟨g, 2, none⟩) l).trans h.1.2.2.1, (b.cell (p := ⟨g, 3, none⟩) l).trans h.1.2.2.2.1, (b.cell (p := ⟨g, 4, none⟩) l).trans h.1.2.2.2.2⟩,
    (b.frozen (p := ⟨g, 0, none⟩) l).trans h.2.1, (b.frozen (p := ⟨g, 1, none⟩) l).trans h.2.2.1, (b.frozen (p := ⟨g, 2, none⟩) l).trans h.2.2.2.1, (b.frozen (p := ⟨g, 3, none⟩) l).trans h.2.2.2.2.1, (b.frozen (p := ⟨g, 4, none⟩) l).trans h.2.2.2.2.2⟩
theorem V5.new (w : World) (v0 v1 v2 v3 v4 : Value) (T : TypeId) : V5 w.heap.size v0 v1 v2 v3 v4 (w.alloc (.cells #[v0, v1, v2, v3, v4] T)) :=
  ⟨⟨by simp [go_sem], by simp [go_sem], by simp [go_sem], by simp [go_sem], by simp [go_sem]⟩, by simp [go_sem], by simp [go_sem], by simp [go_sem], by simp [go_sem], by simp [go_sem]⟩
end Go.Proofs.Ytdfkpbmccmbjmaa

namespace Go.Proofs.Ytdfkpbmccmbjmaa
open Go.RowKit
set_option linter.unusedVariables false

/-- The cells of the box of a versor. -/
def BoxW (g : Nat) (p : Int) (aS : Option Addr) (n cS : Nat) (ax : Option Addr) (l cx : Nat) (F : Int) (W : World) : Prop :=
  W.cell? ⟨g, 0, none⟩ = some (.int .i64 p) ∧ W.cell? ⟨g, 1, none⟩ = some (.slice aS n cS) ∧ W.cell? ⟨g, 2, none⟩ = some (.slice ax l cx) ∧ W.cell? ⟨g, 3, none⟩ = some (.int .i64 p) ∧ W.cell? ⟨g, 4, none⟩ = some (.int .i64 F)
theorem BoxW.below {g : Nat} {p F : Int} {aS ax : Option Addr} {n cS l cx B : Nat} {w w' : World} (h : BoxW g p aS n cS ax l cx F w) (hb : Below B w w') (hg : g < B) : BoxW g p aS n cS ax l cx F w' :=
  ⟨(hb.cell (p := ⟨g, 0, none⟩) hg).trans h.1, (hb.cell (p := ⟨g, 1, none⟩) hg).trans h.2.1, (hb.cell (p := ⟨g, 2, none⟩) hg).trans h.2.2.1, (hb.cell (p := ⟨g, 3, none⟩) hg).trans h.2.2.2.1, (hb.cell (p := ⟨g, 4, none⟩) hg).trans h.2.2.2.2⟩
theorem BoxW.wrote {g b o m : Nat} {p F : Int} {aS ax : Option Addr} {n cS l cx : Nat} {w w' : World} (h : BoxW g p aS n cS ax l cx F w) (hb : Wrote b o m w w') (hg : g ≠ b) : BoxW g p aS n cS ax l cx F w' :=
  ⟨(World.cell?_of_block (w := w) (a := ⟨g, 0, none⟩) (hb.block g hg)).trans h.1, (World.cell?_of_block (w := w) (a := ⟨g, 1, none⟩) (hb.block g hg)).trans h.2.1, (World.cell?_of_block (w := w) (a := ⟨g, 2, none⟩) (hb.block g hg)).trans h.2.2.1, (World.cell?_of_block (w := w) (a := ⟨g, 3, none⟩) (hb.block g hg)).trans h.2.2.2.1, (World.cell?_of_block (w := w) (a := ⟨g, 4, none⟩) (hb.block g hg)).trans h.2.2.2.2⟩
theorem BoxW.new (w : World) (p : Int) (aS : Option Addr) (n cS : Nat) (ax : Option Addr) (l cx : Nat) (F : Int) (T : TypeId) : BoxW w.heap.size p aS n cS ax l cx F (w.alloc (.cells #[.int .i64 p, .slice aS n cS, .slice ax l cx, .int .i64 p, .int .i64 F] T)) :=
  ⟨by simp [go_sem], by simp [go_sem], by simp [go_sem], by simp [go_sem], by simp [go_sem]⟩
end Go.Proofs.Ytdfkpbmccmbjmaa

namespace Go.Proofs.Ytdfkpbmccmbjmaa
open Go.RowKit
set_option linter.unusedVariables false

/-- What holds behind the boxes of a reflection and of its space. -/
structure DR7 (w : World) (gs : Nat) (p : Int) (aS : Option Addr) (n cS : Nat) (au : Option Addr) (l cu : Nat) (W : World) : Prop where
  box : BoxV w.heap.size gs p aS n cS au l cu W
  bel : Below w.heap.size w W
  hd : w.heap.size < W.heap.size ∧ gs < W.heap.size
structure DRN (w : World) (gs : Nat) (p : Int) (aS : Option Addr) (n cS : Nat) (au : Option Addr) (l cu : Nat) (bf : Nat) (W : World) : Prop extends DR7 w gs p aS n cS au l cu W where
  c0 : W.cell? ⟨bf, 0, none⟩ = some (.int .i64 0)
  c1 : W.cell? ⟨bf, 1, none⟩ = some (.int .i64 0)
  y0 : W.frozen? ⟨bf, 0, none⟩ = false
  y1 : W.frozen? ⟨bf, 1, none⟩ = false
  lb : bf < W.heap.size
  lw : w.heap.size < bf ∧ gs < bf
theorem DR7.call {w W W' : World} {gs : Nat} {p : Int} {aS : Option Addr} {n cS : Nat} {au : Option Addr} {l cu : Nat} (h : DR7 w gs p aS n cS au l cu W) (b : Below W.heap.size W W') : DR7 w gs p aS n cS au l cu W' :=
  ⟨h.box.below b h.hd, below_step h.bel (Nat.le_of_lt h.hd.1) b, Nat.lt_of_lt_of_le h.hd.1 b.size, Nat.lt_of_lt_of_le h.hd.2 b.size⟩
theorem DR7.alloc {w W : World} {gs : Nat} {p : Int} {aS : Option Addr} {n cS : Nat} {au : Option Addr} {l cu : Nat} (h : DR7 w gs p aS n cS au l cu W) (o : Obj) : DR7 w gs p aS n cS au l cu (W.alloc o) := h.call (below_alloc W o)
theorem DRN.call {w W W' : World} {gs bf : Nat} {p : Int} {aS : Option Addr} {n cS : Nat} {au : Option Addr} {l cu : Nat} (h : DRN w gs p aS n cS au l cu bf W) (b : Below W.heap.size W W') : DRN w gs p aS n cS au l cu bf W' :=
  { h.toDR7.call b with c0 := (b.cell (p := ⟨bf, 0, none⟩) h.lb).trans h.c0, c1 := (b.cell (p := ⟨bf, 1, none⟩) h.lb).trans h.c1, y0 := (b.frozen (p := ⟨bf, 0, none⟩) h.lb).trans h.y0, y1 := (b.frozen (p := ⟨bf, 1, none⟩) h.lb).trans h.y1, lb := Nat.lt_of_lt_of_le h.lb b.size, lw := h.lw }
theorem BoxV.put {g gs b o : Nat} {p : Int} {aS ax : Option Addr} {n cS l cx : Nat} {w : World} {v : Value} (h : BoxV g gs p aS n cS ax l cx w) (h1 : g ≠ b) (h2 : gs ≠ b) : BoxV g gs p aS n cS ax l cx (w.setCell ⟨b, o, none⟩ v) := by
  have e : ∀ j, (w.setCell ⟨b, o, none⟩ v).cell? ⟨g, j, none⟩ = w.cell? ⟨g, j, none⟩ := fun j => World.cell?_setCell_other w ⟨b, o, none⟩ ⟨g, j, none⟩ v (fun e => h1 (by injection e with e1; exact e1.symm))
  have e2 : ∀ j, (w.setCell ⟨b, o, none⟩ v).cell? ⟨gs, j, none⟩ = w.cell? ⟨gs, j, none⟩ := fun j => World.cell?_setCell_other w ⟨b, o, none⟩ ⟨gs, j, none⟩ v (fun e => h2 (by injection e with e1; exact e1.symm))
  exact ⟨(e 0).trans h.1, (e 1).trans h.2.1, (e 2).trans h.2.2.1, (e2 0).trans h.2.2.2.1, (e2 1).trans h.2.2.2.2⟩
theorem DRN.put {w W : World} {gs bf : Nat} {p : Int} {aS : Option Addr} {n cS : Nat} {au : Option Addr} {l cu : Nat} (h : DRN w gs p aS n cS au l cu bf W) (u v : Value) : DR7 w gs p aS n cS au l cu ((W.setCell ⟨bf, 0, none⟩ u).setCell ⟨bf, 1, none⟩ v) :=
  ⟨(h.box.put (Nat.ne_of_lt h.lw.1) (Nat.ne_of_lt h.lw.2)).put (Nat.ne_of_lt h.lw.1) (Nat.ne_of_lt h.lw.2), (h.bel.setCell (Nat.le_of_lt h.lw.1) _).setCell (Nat.le_of_lt h.lw.1) _, by simpa [World.setCell] using h.hd⟩
/-- Behind the factor: its block holds p and K. -/
structure DRE (w : World) (gs : Nat) (p : Int) (aS : Option Addr) (n cS : Nat) (au : Option Addr) (l cu : Nat) (bf : Nat) (K : Int) (W : World) : Prop extends DR7 w gs p aS n cS au l cu W where
  c0 : W.cell? ⟨bf, 0, none⟩ = some (.int .i64 p)
  c1 : W.cell? ⟨bf, 1, none⟩ = some (.int .i64 K)
  lb : bf < W.heap.size
theorem DRN.done {w W : World} {gs bf : Nat} {p K : Int} {aS : Option Addr} {n cS : Nat} {au : Option Addr} {l cu : Nat} (h : DRN w gs p aS n cS au l cu bf W) : DRE w gs p aS n cS au l cu bf K ((W.setCell ⟨bf, 0, none⟩ (.int .i64 p)).setCell ⟨bf, 1, none⟩ (.int .i64 K)) :=
  { h.put (.int .i64 p) (.int .i64 K) with
    c0 := (World.cell?_setCell_other _ _ _ _ (by simp)).trans (World.cell?_setCell_same W _ _ h.c0)
    c1 := World.cell?_setCell_same _ _ _ ((World.cell?_setCell_other _ _ _ _ (by simp)).trans h.c1)
    lb := by simpa [World.setCell] using h.lb }
theorem DR7.done {w W : World} {gs : Nat} {p K : Int} {aS : Option Addr} {n cS : Nat} {au : Option Addr} {l cu : Nat} (h : DR7 w gs p aS n cS au l cu W) (T : TypeId) : DRE w gs p aS n cS au l cu W.heap.size K (W.alloc (.cells #[.int .i64 p, .int .i64 K] T)) :=
  { h.alloc (.cells #[.int .i64 p, .int .i64 K] T) with c0 := by simp [go_sem], c1 := by simp [go_sem], lb := lt_alloc W _ }
theorem DRE.call {w W W' : World} {gs bf : Nat} {p K : Int} {aS : Option Addr} {n cS : Nat} {au : Option Addr} {l cu : Nat} (h : DRE w gs p aS n cS au l cu bf K W) (b : Below W.heap.size W W') : DRE w gs p aS n cS au l cu bf K W' :=
  { h.toDR7.call b with c0 := (b.cell (p := ⟨bf, 0, none⟩) h.lb).trans h.c0, c1 := (b.cell (p := ⟨bf, 1, none⟩) h.lb).trans h.c1, lb := Nat.lt_of_lt_of_le h.lb b.size }
end Go.Proofs.Ytdfkpbmccmbjmaa

namespace Go.Proofs.Ytdfkpbmccmbjmaa
open Go.RowKit
set_option linter.unusedVariables false

theorem ownsRow_only {B b n : Nat} {E : TypeId} {w w' : World} {v : Value} {vals : List Value} (h : w.ownsRow B E 1 v n vals) (ho : Only b w w') (hb : b < B) : w'.ownsRow B E 1 v n vals :=
  World.ownsRow.kept h (row := some b) ⟨ho.os, ho.tape, ho.output, ho.size, fun j hj hn => ho.block j hj (fun e => hn (by rw [e]))⟩ (by
    cases hv : v.ownBlock with
    | none => exact .inl rfl
    | some q => exact .inr (fun e => by injection e with e; have := (h.lt q hv).1; omega))
theorem TagR.only {lo tp tp' b : Nat} {w w' : World} {r : Option Addr} {z : List Int} (h : TagR lo tp w r z) (ho : Only b w w') (hb : b < lo) (ht : tp ≤ w.heap.size) (h2 : tp ≤ tp') : TagR lo tp' w' r z :=
  h.block (Nat.le_refl _) h2 fun k _ h0 h1 _ => ho.block k (by omega) (by omega)
theorem OutM.only {B b : Nat} {w w' : World} {v : Value} {m : List (List Int)} (h : OutM B w v m) (ho : Only b w w') (hb : b < B) : OutM B w' v m := by
  obtain ⟨vals, h1, h2⟩ := h
  refine ⟨vals, ownsRow_only h1 ho hb, fun i hi => ?_⟩
  obtain ⟨r, c, e, t⟩ := h2 i hi
  exact ⟨r, c, e, t.only ho hb (Nat.le_refl _) ho.size⟩
/-- What the walk carries. -/
structure DU (b : Nat) (a : Option Addr) (len cap : Nat) (zs : List Int) (g : Nat) (pS : Int) (aS : Option Addr) (S : List Int) (cS loS tpS : Nat) (w : World) (B : Nat) (m : List (List Int)) (u : Value) (W : World) : Prop where
  src : Src W b a len cap zs
  c0 : W.cell? ⟨g, 0, none⟩ = some (.int .i64 pS)
  c1 : W.cell? ⟨g, 1, none⟩ = some (.slice aS S.length cS)
  row : RowIn loS tpS W aS S
  out : OutM B W u m
  on : Only b w W
  size : B ≤ W.heap.size
  hb : b < w.heap.size
  hg : w.heap.size ≤ g
  hgB : g < B
  ht : tpS ≤ w.heap.size
  hS : b < loS ∨ tpS ≤ b
theorem DU.only {b : Nat} {a : Option Addr} {len cap : Nat} {zs : List Int} {g : Nat} {pS : Int} {aS : Option Addr} {S : List Int} {cS loS tpS : Nat} {w : World} {B : Nat} {m : List (List Int)} {u : Value} {W W' : World} (h : DU b a len cap zs g pS aS S cS loS tpS w B m u W) (ho : Only b W W') (hs : Src W' b a len cap zs) : DU b a len cap zs g pS aS S cS loS tpS w B m u W' :=
  { h with src := hs, c0 := (ho.cell (p := ⟨g, 0, none⟩) (by have := h.hgB; have := h.size; show g < _; omega) (by have := h.hb; have := h.hg; show g ≠ b; omega)).trans h.c0, c1 := (ho.cell (p := ⟨g, 1, none⟩) (by have := h.hgB; have := h.size; show g < _; omega) (by have := h.hb; have := h.hg; show g ≠ b; omega)).trans h.c1,
           row := h.row.only ho h.hS (by have := h.ht; have := h.on.size; omega), out := h.out.only ho (by have := h.hb; have := h.hg; have := h.hgB; omega), on := h.on.trans ho, size := Nat.le_trans h.size ho.size }
theorem DU.below {b : Nat} {a : Option Addr} {len cap : Nat} {zs : List Int} {g : Nat} {pS : Int} {aS : Option Addr} {S : List Int} {cS loS tpS : Nat} {w : World} {B : Nat} {m : List (List Int)} {u : Value} {W W' : World} (h : DU b a len cap zs g pS aS S cS loS tpS w B m u W) (hb : Below W.heap.size W W') : DU b a len cap zs g pS aS S cS loS tpS w B m u W' :=
  h.only (Only.of_below hb) (h.src.step hb)
theorem DU.push {b : Nat} {a : Option Addr} {len cap : Nat} {zs : List Int} {g : Nat} {pS : Int} {aS : Option Addr} {S : List Int} {cS loS tpS : Nat} {w : World} {B : Nat} {m : List (List Int)} {u : Value} {W W1 : World} {o : Obj} {vals : List Value} {r : Option Addr} {X : List Int} {c : Nat} {v' : Value} (h : DU b a len cap zs g pS aS S cS loS tpS w B m u W)
    (ho : W.ownsRow B 24 1 u m.length vals) (hr : ∀ i, i < m.length → ∃ r c, vals[i]? = some (.slice r (rw' m i).length c) ∧ TagR B W.heap.size W r (rw' m i)) (hz : TagR B W.heap.size W r X)
    (h1 : W1.ownsRow B 24 1 v' (m.length + 1) (vals ++ [.slice r X.length c])) (hg : (W.alloc o).grownBy W1 u.ownBlock) : DU b a len cap zs g pS aS S cS loS tpS w B (m ++ [X]) v' W1 := by
  have ha := below_alloc W o
  have hsz := size_alloc W o
  have hBW := Nat.le_trans h.size hsz
  have hbB : b < B := by have := h.hb; have := h.hg; have := h.hgB; omega
  obtain ⟨k, hk, hon⟩ := only_of hg (B := B) (fun k e => (ho.lt k e).1) hBW
  have hgk : g ≠ k := by have := h.hgB; omega
  have hgW : g < (W.alloc o).heap.size := by have := h.hgB; omega
  exact { h with
    src := (h.src.alloc o).grown hg (fun k e => by have := (ho.lt k e).1; omega)
    c0 := (hon.cell (p := ⟨g, 0, none⟩) hgW hgk).trans ((ha.cell (p := ⟨g, 0, none⟩) (by have := h.hgB; have := h.size; show g < _; omega)).trans h.c0)
    c1 := (hon.cell (p := ⟨g, 1, none⟩) hgW hgk).trans ((ha.cell (p := ⟨g, 1, none⟩) (by have := h.hgB; have := h.size; show g < _; omega)).trans h.c1)
    row := (h.row.below ha (by have := h.ht; have := h.on.size; omega)).only hon (.inr (by have := h.ht; have := h.hg; have := h.hgB; omega)) (by have := h.ht; have := h.on.size; omega)
    out := OutM.push (w := W.alloc o) (vals := vals) (ho.alloc o) (fun i hi => by
      obtain ⟨r', c', e1, e2⟩ := hr i hi
      exact ⟨r', c', e1, e2.below ha (Nat.le_refl _) (Nat.le_refl _) hsz⟩) (hz.below ha (Nat.le_refl _) (Nat.le_refl _) hsz) h1 hg
    on := (h.on.alloc o).grown hg (fun k e => by have := (ho.lt k e).1; have := h.hg; have := h.hgB; omega)
    size := Nat.le_trans hBW hg.size }
end Go.Proofs.Ytdfkpbmccmbjmaa

namespace Go.Proofs.Ytdfkpbmccmbjmaa
open Go.RowKit
set_option linter.unusedVariables false

/-- Five cells. -/
def Box5 (g : Nat) (v0 v1 v2 v3 v4 : Value) (W : World) : Prop :=
  W.cell? ⟨g, 0, none⟩ = some v0 ∧ W.cell? ⟨g, 1, none⟩ = some v1 ∧ W.cell? ⟨g, 2, none⟩ = some v2 ∧ W.cell? ⟨g, 3, none⟩ = some v3 ∧ W.cell? ⟨g, 4, none⟩ = some v4
theorem Box5.below {g B : Nat} {v0 v1 v2 v3 v4 : Value} {w w' : World} (h : Box5 g v0 v1 v2 v3 v4 w) (b : Below B w w') (l : g < B) : Box5 g v0 v1 v2 v3 v4 w' :=
  ⟨(b.cell (p := ⟨g, 0, none⟩) l).trans h.1, (b.cell (p := ⟨g, 1, none⟩) l).trans h.2.1, (b.cell (p := ⟨g, 2, none⟩) l).trans h.2.2.1, (b.cell (p := ⟨g, 3, none⟩) l).trans h.2.2.2.1, (b.cell (p := ⟨g, 4, none⟩) l).trans h.2.2.2.2⟩
/-- The boxes of a space and of a number. -/
def BoxU (g m : Nat) (p : Int) (aS : Option Addr) (n cS : Nat) (R : Int) (W : World) : Prop :=
  W.cell? ⟨g, 0, none⟩ = some (.int .i64 p) ∧ W.cell? ⟨g, 1, none⟩ = some (.slice aS n cS) ∧ W.cell? ⟨m, 0, none⟩ = some (.int .i64 p) ∧ W.cell? ⟨m, 1, none⟩ = some (.int .i64 R)
theorem BoxU.below {g m : Nat} {p R : Int} {aS : Option Addr} {n cS B : Nat} {w w' : World} (h : BoxU g m p aS n cS R w) (hb : Below B w w') (hg : g < B ∧ m < B) : BoxU g m p aS n cS R w' :=
  ⟨(hb.cell (p := ⟨g, 0, none⟩) hg.1).trans h.1, (hb.cell (p := ⟨g, 1, none⟩) hg.1).trans h.2.1, (hb.cell (p := ⟨m, 0, none⟩) hg.2).trans h.2.2.1, (hb.cell (p := ⟨m, 1, none⟩) hg.2).trans h.2.2.2⟩
theorem BoxU.wrote {g m b o k : Nat} {p R : Int} {aS : Option Addr} {n cS : Nat} {w w' : World} (h : BoxU g m p aS n cS R w) (hb : Wrote b o k w w') (hg : g ≠ b ∧ m ≠ b) : BoxU g m p aS n cS R w' :=
  ⟨(World.cell?_of_block (w := w) (a := ⟨g, 0, none⟩) (hb.block g hg.1)).trans h.1, (World.cell?_of_block (w := w) (a := ⟨g, 1, none⟩) (hb.block g hg.1)).trans h.2.1, (World.cell?_of_block (w := w) (a := ⟨m, 0, none⟩) (hb.block m hg.2)).trans h.2.2.1, (World.cell?_of_block (w := w) (a := ⟨m, 1, none⟩) (hb.block m hg.2)).trans h.2.2.2⟩
end Go.Proofs.Ytdfkpbmccmbjmaa

namespace Go.Proofs.Ytdfkpbmccmbjmaa
open Go.RowKit
set_option linter.unusedVariables false

/-- What holds behind the box of a space and that of a zero versor. -/
structure DS7 (w : World) (g : Nat) (p : Int) (aS : Option Addr) (n cS : Nat) (W : World) : Prop where
  ss : W.cell? ⟨w.heap.size, 0, none⟩ = some (.int .i64 p) ∧ W.cell? ⟨w.heap.size, 1, none⟩ = some (.slice aS n cS)
  vv : V5 g (.int .i64 0) (.slice none 0 0) (.slice none 0 0) (.int .i64 0) (.int .i64 0) W
  bel : Below w.heap.size w W
  hd : w.heap.size < W.heap.size ∧ g < W.heap.size
theorem DS7.call {w W W' : World} {g : Nat} {p : Int} {aS : Option Addr} {n cS : Nat} (h : DS7 w g p aS n cS W) (b : Below W.heap.size W W') : DS7 w g p aS n cS W' :=
  ⟨ss2 b h.hd.1 h.ss, h.vv.below b h.hd.2, below_step h.bel (Nat.le_of_lt h.hd.1) b, Nat.lt_of_lt_of_le h.hd.1 b.size, Nat.lt_of_lt_of_le h.hd.2 b.size⟩
/-- With the block of the norm. -/
structure DSE (w : World) (g : Nat) (p : Int) (aS : Option Addr) (n cS : Nat) (bf : Nat) (q K : Int) (W : World) : Prop extends DS7 w g p aS n cS W where
  c0 : W.cell? ⟨bf, 0, none⟩ = some (.int .i64 q)
  c1 : W.cell? ⟨bf, 1, none⟩ = some (.int .i64 K)
  y0 : W.frozen? ⟨bf, 0, none⟩ = false
  y1 : W.frozen? ⟨bf, 1, none⟩ = false
  lb : bf < W.heap.size
  lw : w.heap.size < bf ∧ g < bf
theorem DSE.call {w W W' : World} {g bf : Nat} {p q K : Int} {aS : Option Addr} {n cS : Nat} (h : DSE w g p aS n cS bf q K W) (b : Below W.heap.size W W') : DSE w g p aS n cS bf q K W' :=
  { h.toDS7.call b with c0 := (b.cell (p := ⟨bf, 0, none⟩) h.lb).trans h.c0, c1 := (b.cell (p := ⟨bf, 1, none⟩) h.lb).trans h.c1, y0 := (b.frozen (p := ⟨bf, 0, none⟩) h.lb).trans h.y0, y1 := (b.frozen (p := ⟨bf, 1, none⟩) h.lb).trans h.y1, lb := Nat.lt_of_lt_of_le h.lb b.size, lw := h.lw }
theorem V5.put {g b o : Nat} {v0 v1 v2 v3 v4 v : Value} {w : World} (h : V5 g v0 v1 v2 v3 v4 w) (hg : g ≠ b) : V5 g v0 v1 v2 v3 v4 (w.setCell ⟨b, o, none⟩ v) := by
  have e : ∀ j, (w.setCell ⟨b, o, none⟩ v).cell? ⟨g, j, none⟩ = w.cell? ⟨g, j, none⟩ := fun j => World.cell?_setCell_other w ⟨b, o, none⟩ ⟨g, j, none⟩ v (fun e => hg (by injection e with e1; exact e1.symm))
  have f : ∀ j, (w.setCell ⟨b, o, none⟩ v).frozen? ⟨g, j, none⟩ = w.frozen? ⟨g, j, none⟩ := fun j => by simp [go_sem]
  exact ⟨⟨(e 0).trans h.1.1, (e 1).trans h.1.2.1, (e 2).trans h.1.2.2.1, (e 3).trans h.1.2.2.2.1, (e 4).trans h.1.2.2.2.2⟩, (f 0).trans h.2.1, (f 1).trans h.2.2.1, (f 2).trans h.2.2.2.1, (f 3).trans h.2.2.2.2.1, (f 4).trans h.2.2.2.2.2⟩
theorem DSE.put {w W : World} {g bf : Nat} {p q K : Int} {aS : Option Addr} {n cS : Nat} (h : DSE w g p aS n cS bf q K W) (q' K' : Int) : DSE w g p aS n cS bf q' K' ((W.setCell ⟨bf, 0, none⟩ (.int .i64 q')).setCell ⟨bf, 1, none⟩ (.int .i64 K')) :=
  { ss := ss2s (Nat.ne_of_lt h.lw.1) h.ss
    vv := (h.vv.put (Nat.ne_of_lt h.lw.2)).put (Nat.ne_of_lt h.lw.2)
    bel := (h.bel.setCell (Nat.le_of_lt h.lw.1) _).setCell (Nat.le_of_lt h.lw.1) _
    hd := by simpa [World.setCell] using h.hd
    c0 := (World.cell?_setCell_other _ _ _ _ (by simp)).trans (World.cell?_setCell_same W _ _ h.c0)
    c1 := World.cell?_setCell_same _ _ _ ((World.cell?_setCell_other _ _ _ _ (by simp)).trans h.c1)
    y0 := by simp [go_sem, h.y0]
    y1 := by simp [go_sem, h.y1]
    lb := by simpa [World.setCell] using h.lb
    lw := h.lw }
end Go.Proofs.Ytdfkpbmccmbjmaa

namespace Go.Proofs.Ytdfkpbmccmbjmaa
open Go.RowKit
set_option linter.unusedVariables false

/-- The box of a space and a number. -/
def BoxN (g b : Nat) (p : Int) (aS : Option Addr) (n cS : Nat) (F : Int) (W : World) : Prop :=
  W.cell? ⟨g, 0, none⟩ = some (.int .i64 p) ∧ W.cell? ⟨g, 1, none⟩ = some (.slice aS n cS) ∧ W.cell? ⟨b, 0, none⟩ = some (.int .i64 F)
theorem BoxN.below {g b : Nat} {p F : Int} {aS : Option Addr} {n cS B : Nat} {w w' : World} (h : BoxN g b p aS n cS F w) (hb : Below B w w') (hg : g < B ∧ b < B) : BoxN g b p aS n cS F w' :=
  ⟨(hb.cell (p := ⟨g, 0, none⟩) hg.1).trans h.1, (hb.cell (p := ⟨g, 1, none⟩) hg.1).trans h.2.1, (hb.cell (p := ⟨b, 0, none⟩) hg.2).trans h.2.2⟩

end Go.Proofs.Ytdfkpbmccmbjmaa

namespace Go.Proofs.Ytdfkpbmccmbjmaa
open Go.RowKit
set_option linter.unusedVariables false

def eF (S : List Int) (i j : Nat) : Int := fz S (2 ^ i) (2 ^ j) S.length
end Go.Proofs.Ytdfkpbmccmbjmaa

namespace Go.Proofs.Ytdfkpbmccmbjmaa
open Go.RowKit
set_option linter.unusedVariables false

/-- What a draw carries: the source, the box of the first result, the box of the space, its squares. -/
structure DB (b : Nat) (a : Option Addr) (len cap : Nat) (zs : List Int) (g : Nat) (p : Int) (r : Option Addr) (X : List Int) (c lo : Nat) (w : World) (W : World) : Prop where
  src : Src W b a len cap zs
  R : L2 W w.heap.size (.int .i64 0) (.slice none 0 0)
  G : L2 W g (.int .i64 p) (.slice r X.length c)
  row : RowIn lo g W r X
  on : Below w.heap.size w W
  hR : w.heap.size < b
  hb : b < lo
  hlo : lo ≤ g
  hg : g < W.heap.size
theorem DB.bg {b : Nat} {a : Option Addr} {len cap : Nat} {zs : List Int} {g : Nat} {p : Int} {r : Option Addr} {X : List Int} {c lo : Nat} {w : World} {W : World} (h : DB b a len cap zs g p r X c lo w W) : b < g := Nat.lt_of_lt_of_le h.hb h.hlo
theorem DB.rW {b : Nat} {a : Option Addr} {len cap : Nat} {zs : List Int} {g : Nat} {p : Int} {r : Option Addr} {X : List Int} {c lo : Nat} {w : World} {W : World} (h : DB b a len cap zs g p r X c lo w W) : w.heap.size < W.heap.size := Nat.lt_trans (Nat.lt_trans h.hR h.bg) h.hg
theorem DB.only {b : Nat} {a : Option Addr} {len cap : Nat} {zs : List Int} {g : Nat} {p : Int} {r : Option Addr} {X : List Int} {c lo : Nat} {w : World} {W W' : World} (h : DB b a len cap zs g p r X c lo w W) (ho : Only b W W') (hs : Src W' b a len cap zs) : DB b a len cap zs g p r X c lo w W' :=
  { h with src := hs, R := h.R.only ho h.rW (Nat.ne_of_lt h.hR), G := h.G.only ho h.hg (Nat.ne_of_gt h.bg), row := h.row.only ho (.inl h.hb) (Nat.le_of_lt h.hg), on := h.on.trans (ho.below (Nat.le_of_lt h.hR) (Nat.le_of_lt h.rW)), hg := Nat.lt_of_lt_of_le h.hg ho.size }
theorem DB.below {b : Nat} {a : Option Addr} {len cap : Nat} {zs : List Int} {g : Nat} {p : Int} {r : Option Addr} {X : List Int} {c lo : Nat} {w : World} {W W' : World} (h : DB b a len cap zs g p r X c lo w W) (hb : Below W.heap.size W W') : DB b a len cap zs g p r X c lo w W' := h.only (Only.of_below hb) (h.src.step hb)
theorem MatIn.only {lo tp k : Nat} {w w' : World} {r : Option Addr} {m : List (List Int)} (h : MatIn lo tp w r m) (ho : Only k w w') (hk : k < lo ∨ tp ≤ k) (ht : tp ≤ w.heap.size) : MatIn lo tp w' r m :=
  h.same (fun j j0 j1 => ho.block j (Nat.lt_of_lt_of_le j1 ht) (by omega))
/-- The result, written into its box. -/
theorem DB.fin {b : Nat} {a : Option Addr} {len cap : Nat} {zs : List Int} {g : Nat} {p : Int} {r : Option Addr} {X : List Int} {c lo : Nat} {w : World} {W : World} (h : DB b a len cap zs g p r X c lo w W) (x y : Value) : Below w.heap.size w ((W.setCell ⟨w.heap.size, 0, none⟩ x).setCell ⟨w.heap.size, 1, none⟩ y) := (h.on.setCell (Nat.le_refl _) _).setCell (Nat.le_refl _) _
theorem row_fin {w W : World} {r : Option Addr} {Y : List Int} {B tp : Nat} (h : RowIn B tp W r Y) (ht : tp ≤ W.heap.size) (hB : w.heap.size < B) (x y : Value) : RowIn w.heap.size ((W.setCell ⟨w.heap.size, 0, none⟩ x).setCell ⟨w.heap.size, 1, none⟩ y).heap.size ((W.setCell ⟨w.heap.size, 0, none⟩ x).setCell ⟨w.heap.size, 1, none⟩ y) r Y :=
  ((h.far _ (.inl hB)).far _ (.inl hB)).mono (Nat.le_of_lt hB) (by simp [World.setCell]; exact ht)
theorem mat_far {lo tp k i : Nat} {w : World} {r : Option Addr} {m : List (List Int)} (h : MatIn lo tp w r m) (x : Value) (hk : k < lo ∨ tp ≤ k) : MatIn lo tp (w.setCell ⟨k, i, none⟩ x) r m :=
  h.same (fun j j0 j1 => Below.heap_setCell _ _ _ _ (by show j ≠ k; omega))
theorem mat_fin {w W : World} {r : Option Addr} {m : List (List Int)} {B tp : Nat} (h : MatIn B tp W r m) (ht : tp ≤ W.heap.size) (hB : w.heap.size < B) (x y : Value) : MatIn w.heap.size ((W.setCell ⟨w.heap.size, 0, none⟩ x).setCell ⟨w.heap.size, 1, none⟩ y).heap.size ((W.setCell ⟨w.heap.size, 0, none⟩ x).setCell ⟨w.heap.size, 1, none⟩ y) r m :=
  ((mat_far h _ (.inl hB)).mono (Nat.le_refl _) (Nat.le_refl _) |> fun h => (mat_far h _ (.inl hB)).mono (Nat.le_of_lt hB) (by simp [World.setCell]; exact ht))

end Go.Proofs.Ytdfkpbmccmbjmaa
