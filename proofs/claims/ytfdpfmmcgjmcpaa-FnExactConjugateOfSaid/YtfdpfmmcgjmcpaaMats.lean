/-
  What the laws' sizes, copies, comparisons and marks of matrices do.
  Conditions: the matrices are nil or rows of known cells; copied, compared and marked: of at most 1048576 numbers.
-/
import Derived.Test.YtfdpfmmcgjmcpaaRows3
import Derived.Deep.RegionHeld3
import Derived.RegionTactic
import Derived.Deep.RegionWith
import Derived.StillTailTactics
namespace Go.Proofs.Ytfdpfmmcgjmcpaa
open Go.RowKit Go.ChangeShapes Go.WideShapes
set_option linter.unusedVariables false

theorem info_slice : (Try.prog.info? 22).map (fun i => (i.zero, i.size, i.bytes)) = some (some (.slice none 0 0), 1, 24) := by kernel_rfl

/-- A copied matrix: its outer block begins where memory ended. -/
def CopiedM (m : List (List Int)) (w : World) (e : Ending) (w' : World) : Prop :=
  e = .returned (.slice (some ⟨w.heap.size, 0, none⟩) m.length m.length) ∧ Below w.heap.size w w' ∧ w.heap.size < w'.heap.size ∧ OwnM w.heap.size w'.heap.size w' (some ⟨w.heap.size, 0, none⟩) m

/-- What has been copied so far. -/
structure HalfM (w : World) (b i : Nat) (m : List (List Int)) (B : Nat → Nat) : Prop where
  lt : b < w.heap.size
  done : ∀ j, j < i → w.cell? ⟨b, j, none⟩ = some (.slice (some ⟨B j, 0, none⟩) (rw' m j).length (rw' m j).length)
  rest : ∀ j, i ≤ j → j < m.length → w.cell? ⟨b, j, none⟩ = some (.slice none 0 0)
  free : ∀ j, w.frozen? ⟨b, j, none⟩ = false
  rng : ∀ j, j < i → b < B j ∧ B j < w.heap.size
  cell : ∀ j, j < i → ∀ x, x < (rw' m j).length → w.cell? ⟨B j, x, none⟩ = some (.int .i64 (at' m j x)) ∧ w.frozen? ⟨B j, x, none⟩ = false
  apart : ∀ j, j < i → ∀ j', j' < i → j ≠ j' → B j ≠ B j'
theorem HalfM.start (w : World) (m : List (List Int)) (t : TypeId) (B : Nat → Nat) : HalfM (w.alloc (.cells (madeCells #[.slice none 0 0] m.length) t)) w.heap.size 0 m B where
  lt := by simp
  done j hj := by omega
  rest j _ hj := by
    have h := World.cell?_alloc_new (w := w) (madeCells #[.slice none 0 0] m.length) t j
    rw [h]
    simp [madeCells, hj, Nat.mod_one]
  free j := by simp [go_sem]
  rng j hj := by omega
  cell j hj := by omega
  apart j hj := by omega
theorem HalfM.next {w w1 : World} {b i : Nat} {m : List (List Int)} {B : Nat → Nat} (h : HalfM w b i m B) (hi : i < m.length) (hb : Below w.heap.size w w1) (hs : w.heap.size < w1.heap.size)
    (hr : OwnR w.heap.size w1.heap.size w1 (some ⟨w.heap.size, 0, none⟩) (rw' m i)) :
    HalfM (w1.setCell ⟨b, i, none⟩ (.slice (some ⟨w.heap.size, 0, none⟩) (rw' m i).length (rw' m i).length)) b (i + 1) m (fun j => if j = i then w.heap.size else B j) := by
  have hlt := h.lt
  have oth : ∀ c j, c ≠ b → (w1.setCell ⟨b, i, none⟩ (.slice (some ⟨w.heap.size, 0, none⟩) (rw' m i).length (rw' m i).length)).cell? ⟨c, j, none⟩ = w1.cell? ⟨c, j, none⟩ := fun c j hne =>
    World.cell?_setCell_other _ _ _ _ (fun e => hne (by injection e with e1; exact e1.symm))
  refine ⟨by simp [World.setCell]; omega, fun j hj => ?_, fun j hj hl => ?_, fun j => ?_, fun j hj => ?_, fun j hj x hx => ?_, fun j hj j' hj' hne => ?_⟩
  · by_cases e : j = i
    · subst e
      simp only [if_pos]
      exact World.cell?_setCell_same w1 _ _ ((hb.cell (p := ⟨b, j, none⟩) hlt).trans (h.rest j (Nat.le_refl _) hi))
    · simp only [if_neg e]
      exact (World.cell?_setCell_other _ _ _ _ (by first | (simp; done) | (simp; omega))).trans ((hb.cell (p := ⟨b, j, none⟩) hlt).trans (h.done j (by omega)))
  · exact (World.cell?_setCell_other _ _ _ _ (by first | (simp; done) | (simp; omega))).trans ((hb.cell (p := ⟨b, j, none⟩) hlt).trans (h.rest j (by omega) hl))
  · have := (hb.frozen (p := ⟨b, j, none⟩) hlt).trans (h.free j)
    simp [go_sem, this]
  · have hz : (w1.setCell ⟨b, i, none⟩ (.slice (some ⟨w.heap.size, 0, none⟩) (rw' m i).length (rw' m i).length)).heap.size = w1.heap.size := by simp [World.setCell]
    rw [hz]
    by_cases e : j = i
    · subst e; simp only [if_pos]; exact ⟨hlt, hs⟩
    · simp only [if_neg e]; have := h.rng j (by omega); omega
  · by_cases e : j = i
    · subst e
      simp only [if_pos]
      rcases hr with h0 | ⟨b1, o1, e1, _, _, hc⟩
      · rw [h0] at hx; simp at hx
      · cases e1
        have h2 := hc x hx
        simp only [Nat.zero_add] at h2
        exact ⟨(oth _ _ (by omega)).trans h2.1, by simp [go_sem, h2.2]⟩
    · simp only [if_neg e]
      have hg := h.rng j (by omega)
      have h2 := h.cell j (by omega) x hx
      have f2 := (hb.frozen (p := ⟨B j, x, none⟩) hg.2).trans h2.2
      exact ⟨(oth _ _ (by omega)).trans ((hb.cell (p := ⟨B j, x, none⟩) hg.2).trans h2.1), by simp [go_sem, f2]⟩
  · have e1 : ∀ j, j < i → B j ≠ w.heap.size := fun j hj => by have := (h.rng j hj).2; omega
    by_cases e : j = i
    · subst e
      simp only [if_pos, if_neg (fun e => hne e.symm : ¬ j' = j)]
      exact (e1 j' (by omega)).symm
    · by_cases e' : j' = i
      · subst e'
        simp only [if_pos, if_neg e]
        exact e1 j (by omega)
      · simp only [if_neg e, if_neg e']
        exact h.apart j (by omega) j' (by omega) hne
theorem HalfM.own {w : World} {b : Nat} {m : List (List Int)} {B : Nat → Nat} (h : HalfM w b m.length m B) : OwnM b w.heap.size w (some ⟨b, 0, none⟩) m :=
  .inr ⟨⟨b, 0, fun j => some ⟨B j, 0, none⟩, B, fun _ => 0, fun j => (rw' m j).length⟩, rfl, {
    rng := fun _ => ⟨Nat.le_refl _, h.lt⟩
    top := fun i hi => by show w.cell? ⟨b, 0 + i, none⟩ = _; rw [Nat.zero_add]; exact h.done i hi
    row := fun i hi => .inr rfl
    rrng := fun i hi _ => ⟨by have := (h.rng i hi).1; show b ≤ B i; omega, (h.rng i hi).2⟩
    cell := fun i hi j hj => by show w.cell? ⟨B i, 0 + j, none⟩ = _; rw [Nat.zero_add]; exact (h.cell i hi j hj).1
    free := fun i hi j hj => by show w.frozen? ⟨B i, 0 + j, none⟩ = _; rw [Nat.zero_add]; exact (h.cell i hi j hj).2
    apart := fun i hi i' hi' hne j hj j' hj' e => h.apart i hi i' hi' hne e.1
    tops := fun i hi j hj i' hi' e => by have := (h.rng i hi).1; have e1 : B i = b := e.1; omega }⟩

/-- A matrix with the numbers k, k + 1, .. in a row's order. -/
def marked (k : Int) (m : List (List Int)) : List (List Int) := (List.range m.length).map fun i => mkR (rw' m i).length fun j => k + tot m i + j
theorem marked_len (k : Int) (m : List (List Int)) : (marked k m).length = m.length := by simp [marked]
theorem marked_row (k : Int) {m : List (List Int)} {i : Nat} (h : i < m.length) : rw' (marked k m) i = mkR (rw' m i).length fun j => k + tot m i + j := by simp [marked, rw', List.getD, h]
theorem marked_rowLen (k : Int) {m : List (List Int)} {i : Nat} (h : i < m.length) : (rw' (marked k m) i).length = (rw' m i).length := by rw [marked_row k h, mkR_len]
theorem marked_tot (k : Int) {m : List (List Int)} : ∀ {i : Nat}, i ≤ m.length → tot (marked k m) i = tot m i := by
  intro i
  induction i with
  | zero => intro _; rfl
  | succ i ih => intro h; simp only [tot]; rw [ih (by omega), marked_rowLen k (by omega)]
theorem marked_at (k : Int) {m : List (List Int)} {i j : Nat} (h : i < m.length) (hj : j < (rw' m i).length) : at' (marked k m) i j = k + tot m i + j := by rw [at', marked_row k h, mkR_at _ hj]

theorem OwnAt.marked {lo tp : Nat} {w : World} {q : Place} {a : Option Addr} {m : List (List Int)} {k : Int} (ha : a = some ⟨q.b, q.o, none⟩)
    (h : OwnAt lo tp w q m.length (fun i => (rw' m i).length) (fun i' j => if i' < m.length then k + tot m i' + j else at' m i' j)) : OwnM lo tp w a (marked k m) := by
  refine .inr ⟨q, ha, ?_⟩
  rw [marked_len]
  have e : ∀ i, i < m.length → (rw' (Go.Proofs.Ytfdpfmmcgjmcpaa.marked k m) i).length = (rw' m i).length := fun i hi => marked_rowLen k hi
  exact {
    rng := h.rng
    top := fun i hi => by rw [e i hi]; exact h.top i hi
    row := fun i hi => by rw [e i hi]; exact h.row i hi
    rrng := fun i hi hl => h.rrng i hi (by rw [e i hi] at hl; exact hl)
    cell := fun i hi j hj => by rw [e i hi] at hj; rw [marked_at k hi hj]; have := h.cell i hi j hj; rwa [if_pos hi] at this
    free := fun i hi j hj => h.free i hi j (by rw [e i hi] at hj; exact hj)
    apart := fun i hi i' hi' hne j hj j' hj' => h.apart i hi i' hi' hne j (by rw [e i hi] at hj; exact hj) j' (by rw [e i' hi'] at hj'; exact hj')
    tops := fun i hi j hj i' hi' => h.tops i hi j (by rw [e i hi] at hj; exact hj) i' hi' }

theorem heldRow_mk (a : Option Addr) (L cap lo tp : Nat) (k : Int) (w : World) (hc : RowIn lo tp w a (mkR L fun j => k + j)) (hl : L ≤ 1048576) (k0 : 0 ≤ k) (k1 : k ≤ 100000000) :
    Calls Try.prog 26 #[.slice a L cap, .int .i64 k] w fun e w' => e = .returned (.int .i64 (k + L)) ∧ Quiet w w' := by
  have := heldRow a (mkR L fun j => k + j) cap lo tp k w hc (fun j hj => mkR_at _ (by rwa [mkR_len] at hj)) (by rwa [mkR_len]) k0 k1
  rwa [mkR_len] at this

end Go.Proofs.Ytfdpfmmcgjmcpaa
