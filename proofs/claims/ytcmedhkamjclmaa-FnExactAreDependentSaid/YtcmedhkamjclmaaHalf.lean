/-
  A matrix that is filled row by row, each row in blocks of its own.
  No conditions.
-/
import Derived.Test.YtcmedhkamjclmaaInp
namespace Go.Proofs.Ytcmedhkamjclmaa
open Go.RowKit Go.ChangeShapes Go.WideShapes
set_option linter.unusedVariables false

/-- i rows are there: row j in blocks from lo j up to tp j, behind block b and behind those of the rows before it. -/
structure HalfG (w : World) (b i : Nat) (m : List (List Int)) (A : Nat → Option Addr) (C lo tp : Nat → Nat) : Prop where
  lt : b < w.heap.size
  done : ∀ j, j < i → w.cell? ⟨b, j, none⟩ = some (.slice (A j) (rw' m j).length (C j))
  rest : ∀ j, i ≤ j → j < m.length → w.cell? ⟨b, j, none⟩ = some (.slice none 0 0)
  free : ∀ j, w.frozen? ⟨b, j, none⟩ = false
  rows : ∀ j, j < i → OwnR (lo j) (tp j) w (A j) (rw' m j) ∧ b < lo j ∧ tp j ≤ w.heap.size
  apart : ∀ j j', j < j' → j' < i → tp j ≤ lo j'
theorem HalfG.start (w : World) (m : List (List Int)) (t : TypeId) (A : Nat → Option Addr) (C lo tp : Nat → Nat) : HalfG (w.alloc (.cells (madeCells #[.slice none 0 0] m.length) t)) w.heap.size 0 m A C lo tp where
  lt := by simp
  done j hj := by omega
  rest j _ hj := by
    have h := World.cell?_alloc_new (w := w) (madeCells #[.slice none 0 0] m.length) t j
    rw [h]
    simp [madeCells, hj, Nat.mod_one]
  free j := by simp [go_sem]
  rows j hj := by omega
  apart j j' _ hj := by omega
/-- One row more. -/
theorem HalfG.next {w w1 : World} {b i : Nat} {m : List (List Int)} {A : Nat → Option Addr} {C lo tp : Nat → Nat} {r : Option Addr} {c T : Nat} (h : HalfG w b i m A C lo tp) (hi : i < m.length)
    (hk : ∀ k, k < w.heap.size → k ≠ b → w1.heap[k]? = w.heap[k]?) (hs : w.heap.size ≤ w1.heap.size) (hT : T ≤ w1.heap.size)
    (hci : w1.cell? ⟨b, i, none⟩ = some (.slice r (rw' m i).length c)) (hc : ∀ j, j ≠ i → w1.cell? ⟨b, j, none⟩ = w.cell? ⟨b, j, none⟩) (hf : ∀ j, w1.frozen? ⟨b, j, none⟩ = false)
    (hr : OwnR w.heap.size T w1 r (rw' m i)) :
    HalfG w1 b (i + 1) m (fun j => if j = i then r else A j) (fun j => if j = i then c else C j) (fun j => if j = i then w.heap.size else lo j) (fun j => if j = i then T else tp j) where
  lt := Nat.lt_of_lt_of_le h.lt hs
  done j hj := by
    by_cases e : j = i
    · subst e; simp only [if_pos]; exact hci
    · simp only [if_neg e]; exact (hc j e).trans (h.done j (by omega))
  rest j hj hl := (hc j (by omega)).trans (h.rest j (by omega) hl)
  free := hf
  rows j hj := by
    by_cases e : j = i
    · subst e; simp only [if_pos]; exact ⟨hr, h.lt, hT⟩
    · simp only [if_neg e]
      obtain ⟨h1, h2, h3⟩ := h.rows j (by omega)
      exact ⟨h1.same (fun k k0 k1 => hk k (by omega) (by omega)), h2, by omega⟩
  apart j j' hj hj' := by
    have e : ¬ j = i := by omega
    simp only [if_neg e]
    by_cases e' : j' = i
    · simp only [if_pos e']; exact (h.rows j (by omega)).2.2
    · simp only [if_neg e']; exact h.apart j j' hj (by omega)
def blk (a : Option Addr) : Nat := match a with | some a => a.block | none => 0
def ofs (a : Option Addr) : Nat := match a with | some a => a.off | none => 0
theorem OwnR.at {lo tp : Nat} {w : World} {a : Option Addr} {zs : List Int} (h : OwnR lo tp w a zs) {j : Nat} (hj : j < zs.length) : a = some ⟨blk a, ofs a, none⟩ ∧ lo ≤ blk a ∧ blk a < tp ∧ w.cell? ⟨blk a, ofs a + j, none⟩ = some (.int .i64 (zs.getD j 0)) ∧ w.frozen? ⟨blk a, ofs a + j, none⟩ = false := by
  rcases h with h | ⟨b, o, rfl, h0, h1, hc⟩
  · rw [h] at hj; simp at hj
  · exact ⟨rfl, h0, h1, (hc j hj).1, (hc j hj).2⟩
theorem HalfG.own {w : World} {b : Nat} {m : List (List Int)} {A : Nat → Option Addr} {C lo tp : Nat → Nat} (h : HalfG w b m.length m A C lo tp) : OwnM b w.heap.size w (some ⟨b, 0, none⟩) m :=
  .inr ⟨⟨b, 0, A, fun j => blk (A j), fun j => ofs (A j), C⟩, rfl, {
    rng := fun _ => ⟨Nat.le_refl _, h.lt⟩
    top := fun i hi => by show w.cell? ⟨b, 0 + i, none⟩ = _; rw [Nat.zero_add]; exact h.done i hi
    row := fun i hi => by
      by_cases h0 : (rw' m i).length = 0
      · exact .inl h0
      · exact .inr ((h.rows i hi).1.at (j := 0) (by omega)).1
    rrng := fun i hi hl => by
      obtain ⟨h1, h2, h3⟩ := h.rows i hi
      have := h1.at (j := 0) hl
      exact ⟨by show b ≤ blk (A i); omega, by show blk (A i) < _; omega⟩
    cell := fun i hi j hj => ((h.rows i hi).1.at hj).2.2.2.1
    free := fun i hi j hj => ((h.rows i hi).1.at hj).2.2.2.2
    apart := fun i hi i' hi' hne j hj j' hj' e => by
      have h1 := (h.rows i hi).1.at hj
      have h2 := (h.rows i' hi').1.at hj'
      have e1 : blk (A i) = blk (A i') := e.1
      rcases Nat.lt_or_ge i i' with l | l
      · have := h.apart i i' l hi'; omega
      · have := h.apart i' i (by omega) hi; omega
    tops := fun i hi j hj i' hi' e => by
      obtain ⟨h1, h2, h3⟩ := h.rows i hi
      have := h1.at hj
      have e1 : blk (A i) = b := e.1
      omega }⟩

theorem RowOwn.block {w w' : World} {b o n : Nat} {f : Nat → Int} (h : RowOwn w b o n f) (e : w'.heap[b]? = w.heap[b]?) : RowOwn w' b o n f :=
  ⟨fun j hj => (World.cell?_of_block (w := w) (a := ⟨b, o + j, none⟩) e).trans (h.cell j hj), fun j hj => (World.frozen?_of_block (w := w) (a := ⟨b, o + j, none⟩) e).trans (h.free j hj)⟩
theorem RowOwn.far {w : World} {b o n : Nat} {f : Nat → Int} (h : RowOwn w b o n f) (c i : Nat) (v : Value) (hne : b ≠ c) : RowOwn (w.setCell ⟨c, i, none⟩ v) b o n f :=
  h.block (Below.heap_setCell _ _ _ _ hne)
/-- A new row is stored and rewritten in place. -/
theorem HalfG.fill {w w3 w5 : World} {b i g o n c : Nat} {m : List (List Int)} {A : Nat → Option Addr} {C lo tp : Nat → Nat} {f : Nat → Int} (h : HalfG w b i m A C lo tp) (hi : i < m.length)
    (hb : Below w.heap.size w w3) (hg0 : w.heap.size ≤ g) (hg1 : g < w3.heap.size) (hn : (rw' m i).length = n)
    (hw : Wrote g o n (w3.setCell ⟨b, i, none⟩ (.slice (some ⟨g, o, none⟩) n c)) w5) (hr : RowOwn w5 g o n f) (hf : ∀ j, j < n → (rw' m i).getD j 0 = f j) :
    HalfG w5 b (i + 1) m (fun j => if j = i then some ⟨g, o, none⟩ else A j) (fun j => if j = i then c else C j) (fun j => if j = i then w.heap.size else lo j) (fun j => if j = i then w3.heap.size else tp j) ∧ Below b w w5 := by
  have hlt := h.lt
  have hs := hb.size
  have hz : w5.heap.size = w3.heap.size := by rw [hw.size]; simp [World.setCell]
  have hbg : b ≠ g := by omega
  have hk : ∀ k, k < w.heap.size → k ≠ b → w5.heap[k]? = w.heap[k]? := fun k k0 k1 => (hw.block k (by omega)).trans ((Below.heap_setCell _ _ _ _ k1).trans (hb.block k k0))
  have out : ∀ j, w5.cell? ⟨b, j, none⟩ = (w3.setCell ⟨b, i, none⟩ (.slice (some ⟨g, o, none⟩) n c)).cell? ⟨b, j, none⟩ := fun j => World.cell?_of_block (w := w3.setCell ⟨b, i, none⟩ (.slice (some ⟨g, o, none⟩) n c)) (a := ⟨b, j, none⟩) (hw.block b hbg)
  have g0 := (hb.cell (p := ⟨b, i, none⟩) hlt).trans (h.rest i (Nat.le_refl _) hi)
  refine ⟨h.next hi hk (by omega) (by omega) ?_ (fun j hj => ?_) (fun j => ?_) ?_, ?_⟩
  · rw [out, hn]; exact World.cell?_setCell_same w3 _ _ g0
  · rw [out]; exact (World.cell?_setCell_other _ _ _ _ (fun e => hj (by injection e with _ e2; exact e2.symm))).trans (hb.cell (p := ⟨b, j, none⟩) hlt)
  · have h1 := World.frozen?_of_block (w := w3.setCell ⟨b, i, none⟩ (.slice (some ⟨g, o, none⟩) n c)) (w' := w5) (a := ⟨b, j, none⟩) (hw.block b hbg)
    rw [h1]
    have := (hb.frozen (p := ⟨b, j, none⟩) hlt).trans (h.free j)
    simp [go_sem, this]
  · exact .inr ⟨g, o, rfl, hg0, hg1, fun j hj => ⟨by rw [hf j (by omega)]; exact hr.cell j (by omega), hr.free j (by omega)⟩⟩
  · exact ⟨hw.os.trans hb.os, hw.tape.trans hb.tape, hw.output.trans hb.output, by omega, fun k k0 => hk k (by omega) (by omega)⟩

end Go.Proofs.Ytcmedhkamjclmaa
