/-
  The program's transposed matrices and unit matrices: contracts.
  Conditions: the matrix is a row of rows of known cells, all of one length, at most 1024.
-/
import Derived.Test.YtcmedhkamjclmaaImB
namespace Go.Proofs.Ytcmedhkamjclmaa
open Go.RowKit
set_option linter.unusedVariables false

/-- A matrix of one's own is handed back. -/
def OwnNew (m : List (List Int)) (w : World) (e : Ending) (w' : World) : Prop :=
  ∃ r c, e = .returned (.slice r m.length c) ∧ OwnM w.heap.size w'.heap.size w' r m ∧ Below w.heap.size w w'
theorem OwnAt.ownM {lo tp : Nat} {w : World} {q : Place} {n c : Nat} {Z : Nat → Nat → Int} (h : OwnAt lo tp w q n (fun _ => c) Z) : OwnM lo tp w (some ⟨q.b, q.o, none⟩) (Go.Proofs.Ytcmedhkamjclmaa.mk n c Z) := by
  refine .inr ⟨q, rfl, ?_⟩
  rw [mk_len]
  have e : ∀ i, i < n → (rw' (Go.Proofs.Ytcmedhkamjclmaa.mk n c Z) i).length = c := fun i hi => mk_rowLen Z hi
  exact {
    rng := h.rng
    top := fun i hi => by rw [e i hi]; exact h.top i hi
    row := fun i hi => by rw [e i hi]; exact h.row i hi
    rrng := fun i hi hl => h.rrng i hi (by rw [e i hi] at hl; exact hl)
    cell := fun i hi j hj => by rw [e i hi] at hj; rw [mk_at Z hi hj]; exact h.cell i hi j hj
    free := fun i hi j hj => h.free i hi j (by rw [e i hi] at hj; exact hj)
    apart := fun i hi i' hi' hne j hj j' hj' => h.apart i hi i' hi' hne j (by rw [e i hi] at hj; exact hj) j' (by rw [e i' hi'] at hj'; exact hj')
    tops := fun i hi j hj i' hi' => h.tops i hi j (by rw [e i hi] at hj; exact hj) i' hi' }

end Go.Proofs.Ytcmedhkamjclmaa
