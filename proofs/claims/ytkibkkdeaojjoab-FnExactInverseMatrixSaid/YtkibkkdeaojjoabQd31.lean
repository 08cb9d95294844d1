/-
  Spaces: what the laws' sizes, copies, comparisons and marks of a space do.
  Conditions: the list of squares is nil or a row of known cells, of at most 1048576 numbers.
  Spaces: what they are, and their checks in the program and in the model.
  Conditions: the list of squares is nil or a row of known cells, of at most 1048576 numbers.
-/
import Derived.Test.YtkibkkdeaojjoabQd5
import Derived.Test.YtkibkkdeaojjoabQd11
namespace Go.Proofs.Ytkibkkdeaojjoab
open Go.RowKit Go.ChangeShapes Go.WideShapes
set_option linter.unusedVariables false

/-- Blocks outside lo up to hi are as they were; there may be new ones. -/
structure OffG (lo hi : Nat) (w w' : World) : Prop where
  os : w'.os = w.os
  tape : w'.tape = w.tape
  output : w'.output = w.output
  size : w.heap.size ≤ w'.heap.size
  block : ∀ k, k < w.heap.size → (k < lo ∨ hi ≤ k) → w'.heap[k]? = w.heap[k]?
theorem OffG.same {lo hi lo' hi' : Nat} {w w' : World} (h : OffG lo hi w w') (k : hi' ≤ lo ∨ hi ≤ lo') (hz : hi' ≤ w.heap.size) : Same lo' hi' w w' := fun i i0 i1 => h.block i (by omega) (by omega)
theorem OffG.below {B lo hi : Nat} {w w' : World} (h : OffG lo hi w w') (hB : B ≤ lo) (hw : lo ≤ w.heap.size) : Below B w w' := ⟨h.os, h.tape, h.output, h.size, fun k hk => h.block k (by omega) (by omega)⟩

theorem OffG.cell {lo hi : Nat} {w w' : World} (h : OffG lo hi w w') {p : Addr} (k0 : p.block < w.heap.size) (k : p.block < lo ∨ hi ≤ p.block) : w'.cell? p = w.cell? p := World.cell?_of_block (w := w) (h.block p.block k0 k)
theorem Off.cell {lo hi : Nat} {w w' : World} (h : Off lo hi w w') {p : Addr} (k : p.block < lo ∨ hi ≤ p.block) : w'.cell? p = w.cell? p := World.cell?_of_block (w := w) (h.block p.block k)
def CopiedME (m : List (List Int)) (w : World) (e : Ending) (w' : World) : Prop := ∃ r, e = .returned (.slice r m.length m.length) ∧ Below w.heap.size w w' ∧ OwnM w.heap.size w'.heap.size w' r m
theorem copyMatE (a : Option Addr) (m : List (List Int)) (cap lo hi : Nat) (w : World) (hin : MatIn lo hi w a m) (hhi : hi ≤ w.heap.size) (hl : m.length + tot m m.length ≤ 1048576) :
    Calls Try.prog 12 #[.slice a m.length cap] w (CopiedME m w) :=
  (copyMat a m cap lo hi w hin hhi hl).mono (fun e w' h => ⟨_, h.1, h.2.1, h.2.2.2⟩)
end Go.Proofs.Ytkibkkdeaojjoab

namespace Go.Proofs.Ytkibkkdeaojjoab
open Go.RowKit
set_option linter.unusedVariables false

structure Spa (p : Int) (S : List Int) : Prop where
  prime : prm p = true
  lo : 1 ≤ S.length
  hi : S.length ≤ 6
  all : S.all (inr p) = true
theorem Spa.num {p : Int} {S : List Int} (h : Spa p S) {j : Nat} (hj : j < S.length) : 0 ≤ S.getD j 0 ∧ S.getD j 0 < p := by
  have ha := h.all
  rw [List.all_eq_true] at ha
  exact inr_iff.1 (ha _ (by rw [getD_at hj]; exact List.getElem_mem hj))

end Go.Proofs.Ytkibkkdeaojjoab
