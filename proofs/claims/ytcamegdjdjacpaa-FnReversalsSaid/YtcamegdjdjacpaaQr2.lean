/-
  What the laws' sizes, copies, comparisons and marks of matrices do.
  Conditions: the matrices are nil or rows of known cells; copied, compared and marked: of at most 1048576 numbers.
  Lists and matrices of numbers that a call builds by append.
  No conditions.
  The program's new matrices of zeros.
  Conditions: at least one column, at most 1024 rows and columns.
  The program's transposed matrices and unit matrices: contracts.
  Conditions: the matrix is a row of rows of known cells, all of one length, at most 1024.
  Sums of products of lists, and products of matrices with vectors, in the program and in the model: contracts.
  Conditions: the lists and matrices are rows of known cells with numbers of the prime; their sizes fit.
  Matrices with rows of one length, and their products with vectors in the program: contracts.
  Conditions: the matrices are rows of rows of known cells with numbers of the prime; their sizes fit.
  Copies of lists and matrices in the model, copies of lists in the program, and unit matrices in both: contracts.
  Conditions: the lists are rows of known cells, not empty.
  Multiples added to lists and lists multiplied, in place, in the program: contracts.
  Conditions: the arguments are nil or rows of known cells, of at most 1048576 numbers.
  What a law knows of the lists and matrices that it is handed.
  No conditions: what can be read as data.
  The words in which the exact laws of matrices are walked: what a function of the program or of the model hands back, and the laws' marks of lists.
  No conditions.
  Spaces: what the laws' sizes, copies, comparisons and marks of a space do.
  Conditions: the list of squares is nil or a row of known cells, of at most 1048576 numbers.
  Draws of lists and vectors: contracts.
  Conditions: the source stands in a block of known cells.
  Draws of vectors: contracts.
  Conditions: the source stands in a block of known cells.
-/
import Derived.Test.YtcamegdjdjacpaaQr1
import Derived.Deep.RegionHeld3
import Derived.RegionTactic
import Derived.Deep.RegionWith
import Derived.StillTailTactics
import Derived.Laws.AppendOwn
import Derived.Deep.LoopGhost
import Derived.OwnWalk
import Derived.ChangeAlike
import Derived.Deep.AppendLies
import Derived.BigQuiet
import Derived.Lib.SliceRun
import Derived.OpenShut
import Derived.Deep.Matrix
import Derived.Deep.DeepCutAuto
namespace Go.Proofs.Ytcamegdjdjacpaa
open Go.RowKit Go.ChangeShapes Go.WideShapes
set_option linter.unusedVariables false

/-- What has been copied so far. -/
structure HalfM (w : World) (b i : Nat) (m : List (List Int)) (B : Nat → Nat) : Prop where
  lt : b < w.heap.size
  done : ∀ j, j < i → w.cell? ⟨b, j, none⟩ = some (.slice (some ⟨B j, 0, none⟩) (rw' m j).length (rw' m j).length)
  rest : ∀ j, i ≤ j → j < m.length → w.cell? ⟨b, j, none⟩ = some (.slice none 0 0)
  free : ∀ j, w.frozen? ⟨b, j, none⟩ = false
  rng : ∀ j, j < i → b < B j ∧ B j < w.heap.size
  cell : ∀ j, j < i → ∀ x, x < (rw' m j).length → w.cell? ⟨B j, x, none⟩ = some (.int .i64 (at' m j x)) ∧ w.frozen? ⟨B j, x, none⟩ = false
  apart : ∀ j, j < i → ∀ j', j' < i → j ≠ j' → B j ≠ B j'
theorem HalfM.start (w : World) (m : List (List Int)) (t : TypeId) (B : Nat → Nat) : HalfM (w.alloc (.cells (madeCells #[.slice none 0 0] m.length) t)) w.heap.size 0 m B where
  lt := by simp
  done j hj := by omega
  rest j _ hj := by
    have h := World.cell?_alloc_new (w := w) (madeCells #[.slice none 0 0] m.length) t j
    rw [h]
    simp [madeCells, hj, Nat.mod_one]
  free j := by simp [go_sem]
  rng j hj := by omega
  cell j hj := by omega
  apart j hj := by omega
theorem HalfM.next {w w1 : World} {b i : Nat} {m : List (List Int)} {B : Nat → Nat} (h : HalfM w b i m B) (hi : i < m.length) (hb : Below w.heap.size w w1) (hs : w.heap.size < w1.heap.size)
    (hr : OwnR w.heap.size w1.heap.size w1 (some ⟨w.heap.size, 0, none⟩) (rw' m i)) :
    HalfM (w1.setCell ⟨b, i, none⟩ (.slice (some ⟨w.heap.size, 0, none⟩) (rw' m i).length (rw' m i).length)) b (i + 1) m (fun j => if j = i then w.heap.size else B j) := by
  have hlt := h.lt
  have oth : ∀ c j, c ≠ b → (w1.setCell ⟨b, i, none⟩ (.slice (some ⟨w.heap.size, 0, none⟩) (rw' m i).length (rw' m i).length)).cell? ⟨c, j, none⟩ = w1.cell? ⟨c, j, none⟩ := fun c j hne =>
    World.cell?_setCell_other _ _ _ _ (fun e => hne (by injection e with e1; exact e1.symm))
  refine ⟨by simp [World.setCell]; omega, fun j hj => ?_, fun j hj hl => ?_, fun j => ?_, fun j hj => ?_, fun j hj x hx => ?_, fun j hj j' hj' hne => ?_⟩
  · by_cases e : j = i
    · subst e
      simp only [if_pos]
      exact World.cell?_setCell_same w1 _ _ ((hb.cell (p := ⟨b, j, none⟩) hlt).trans (h.rest j (Nat.le_refl _) hi))
    · simp only [if_neg e]
      exact (World.cell?_setCell_other _ _ _ _ (by first | (simp; done) | (simp; omega))).trans ((hb.cell (p := ⟨b, j, none⟩) hlt).trans (h.done j (by omega)))
  · exact (World.cell?_setCell_other _ _ _ _ (by first | (simp; done) | (simp; omega))).trans ((hb.cell (p := ⟨b, j, none⟩) hlt).trans (h.rest j (by omega) hl))
  · have := (hb.frozen (p := ⟨b, j, none⟩) hlt).trans (h.free j)
    simp [go_sem, this]
  · have hz : (w1.setCell ⟨b, i, none⟩ (.slice (some ⟨w.heap.size, 0, none⟩) (rw' m i).length (rw' m i).length)).heap.size = w1.heap.size := by simp [World.setCell]
    rw [hz]
    by_cases e : j = i
    · subst e; simp only [if_pos]; exact ⟨hlt, hs⟩
    · simp only [if_neg e]; have := h.rng j (by omega); omega
  · by_cases e : j = i
    · subst e
      simp only [if_pos]
      rcases hr with h0 | ⟨b1, o1, e1, _, _, hc⟩
      · rw [h0] at hx; simp at hx
      · cases e1
        have h2 := hc x hx
        simp only [Nat.zero_add] at h2
        exact ⟨(oth _ _ (by omega)).trans h2.1, by simp [go_sem, h2.2]⟩
    · simp only [if_neg e]
      have hg := h.rng j (by omega)
      have h2 := h.cell j (by omega) x hx
      have f2 := (hb.frozen (p := ⟨B j, x, none⟩) hg.2).trans h2.2
      exact ⟨(oth _ _ (by omega)).trans ((hb.cell (p := ⟨B j, x, none⟩) hg.2).trans h2.1), by simp [go_sem, f2]⟩
  · have e1 : ∀ j, j < i → B j ≠ w.heap.size := fun j hj => by have := (h.rng j hj).2; omega
    by_cases e : j = i
    · subst e
      simp only [if_pos, if_neg (fun e => hne e.symm : ¬ j' = j)]
      exact (e1 j' (by omega)).symm
    · by_cases e' : j' = i
      · subst e'
        simp only [if_pos, if_neg e]
        exact e1 j (by omega)
      · simp only [if_neg e, if_neg e']
        exact h.apart j (by omega) j' (by omega) hne
theorem HalfM.own {w : World} {b : Nat} {m : List (List Int)} {B : Nat → Nat} (h : HalfM w b m.length m B) : OwnM b w.heap.size w (some ⟨b, 0, none⟩) m :=
  .inr ⟨⟨b, 0, fun j => some ⟨B j, 0, none⟩, B, fun _ => 0, fun j => (rw' m j).length⟩, rfl, {
    rng := fun _ => ⟨Nat.le_refl _, h.lt⟩
    top := fun i hi => by show w.cell? ⟨b, 0 + i, none⟩ = _; rw [Nat.zero_add]; exact h.done i hi
    row := fun i hi => .inr rfl
    rrng := fun i hi _ => ⟨by have := (h.rng i hi).1; show b ≤ B i; omega, (h.rng i hi).2⟩
    cell := fun i hi j hj => by show w.cell? ⟨B i, 0 + j, none⟩ = _; rw [Nat.zero_add]; exact (h.cell i hi j hj).1
    free := fun i hi j hj => by show w.frozen? ⟨B i, 0 + j, none⟩ = _; rw [Nat.zero_add]; exact (h.cell i hi j hj).2
    apart := fun i hi i' hi' hne j hj j' hj' e => h.apart i hi i' hi' hne e.1
    tops := fun i hi j hj i' hi' e => by have := (h.rng i hi).1; have e1 : B i = b := e.1; omega }⟩

end Go.Proofs.Ytcamegdjdjacpaa

namespace Go.Proofs.Ytcamegdjdjacpaa
open Go.RowKit
set_option linter.unusedVariables false

/-- A list of one's own in a block of numbers. -/
def TagR (lo tp : Nat) (w : World) (a : Option Addr) (zs : List Int) : Prop :=
  zs = [] ∨ ∃ b o cur, a = some ⟨b, o, none⟩ ∧ lo ≤ b ∧ b < tp ∧ w.heap[b]? = some (.cells cur 2 (0, 0)) ∧ ∀ j, j < zs.length → w.cell? ⟨b, o + j, none⟩ = some (.int .i64 (zs.getD j 0))
theorem free_of {w : World} {b : Nat} {cur : Array Value} {t : TypeId} (h : w.heap[b]? = some (.cells cur t (0, 0))) (j : Nat) : w.frozen? ⟨b, j, none⟩ = false := by
  simp [World.frozen?, h]
theorem TagR.own {lo tp : Nat} {w : World} {a : Option Addr} {zs : List Int} (h : TagR lo tp w a zs) : OwnR lo tp w a zs := by
  rcases h with h | ⟨b, o, cur, ha, h0, h1, ht, hc⟩
  · exact .inl h
  · exact .inr ⟨b, o, ha, h0, h1, fun j hj => ⟨hc j hj, free_of ht _⟩⟩
theorem TagR.row {lo tp : Nat} {w : World} {a : Option Addr} {zs : List Int} (h : TagR lo tp w a zs) : RowIn lo tp w a zs := h.own.row
theorem TagR.block {lo tp lo' tp' : Nat} {w w' : World} {a : Option Addr} {zs : List Int} (h : TagR lo tp w a zs) (k0 : lo' ≤ lo) (k1 : tp ≤ tp')
    (k : ∀ b cur, lo ≤ b → b < tp → w.heap[b]? = some (.cells cur 2 (0, 0)) → w'.heap[b]? = w.heap[b]?) : TagR lo' tp' w' a zs := by
  rcases h with h | ⟨b, o, cur, ha, h0, h1, ht, hc⟩
  · exact .inl h
  · have e := k b cur h0 h1 ht
    exact .inr ⟨b, o, cur, ha, by omega, by omega, e.trans ht, fun j hj => (World.cell?_of_block (w := w) (a := ⟨b, o + j, none⟩) e).trans (hc j hj)⟩
theorem TagR.below {B lo tp lo' tp' : Nat} {w w' : World} {a : Option Addr} {zs : List Int} (h : TagR lo tp w a zs) (hb : Below B w w') (hB : tp ≤ B) (k0 : lo' ≤ lo) (k1 : tp ≤ tp') : TagR lo' tp' w' a zs :=
  h.block k0 k1 (fun b _ _ h1 _ => hb.block b (by omega))
theorem below_grown {w w' : World} (h : Below w.heap.size w w') : w.grownBy w' none := ⟨h.os, h.tape, h.output, h.size, fun k hk _ => h.block k hk⟩

/-- A list that is being built. -/
def OutR (B : Nat) (w : World) (v : Value) (zs : List Int) : Prop := w.ownsRow B 2 1 v zs.length (zs.map (Value.int .i64))
theorem OutR.tag {B : Nat} {w : World} {v : Value} {zs : List Int} (h : OutR B w v zs) : ∃ a c, v = .slice a zs.length c ∧ TagR B w.heap.size w a zs := by
  have h0 := h
  obtain ⟨_, h⟩ := h
  rcases h with ⟨rfl, hn⟩ | ⟨g, cap, cur, rfl, hb, hg, hnc, hcm, hcs, htake⟩
  · exact ⟨none, 0, by rw [hn], .inl (List.eq_nil_of_length_eq_zero hn)⟩
  · have hlt : g < w.heap.size := (Array.getElem?_eq_some_iff.1 hg).1
    refine ⟨_, cap, rfl, .inr ⟨g, 0, cur, rfl, hb, hlt, hg, fun j hj => ?_⟩⟩
    have := h0.cells (g := g) rfl j (.int .i64 (zs.getD j 0)) (by simp [hj, List.getD])
    rwa [Addr.add_lit] at this
theorem OutR.below {B : Nat} {w w' : World} {v : Value} {zs : List Int} (h : OutR B w v zs) (hb : Below w.heap.size w w') : OutR B w' v zs :=
  World.ownsRow.kept h (below_grown hb) (by cases hv : v.ownBlock <;> simp)
theorem OutR.start (w : World) (B : Nat) (t : TypeId) (hB : B ≤ w.heap.size) (ht : t = 2) : OutR B (w.alloc (.cells #[] t)) (.slice (some ⟨w.heap.size, 0, none⟩) 0 0) [] := by
  subst ht
  exact World.ownsRow_made w #[] 0 hB (Nat.zero_le _) rfl

theorem OutR.step {B : Nat} {w w1 : World} {v v' : Value} {i : Nat} {f : Nat → Int} {X : List Value} {x : Int} (_ : w.ownsRow B 2 1 v i X) (hX : X = (mkR i f).map (Value.int .i64)) (hs : mkR (i + 1) f = mkR i f ++ [x])
    (h1 : w1.ownsRow B 2 1 v' (i + 1) (X ++ [.int .i64 x])) : OutR B w1 v' (mkR (i + 1) f) := by
  unfold OutR
  rw [mkR_len, hs, List.map_append, ← hX]
  exact h1

/-- A matrix that is being built. -/
def OutM (B : Nat) (w : World) (v : Value) (m : List (List Int)) : Prop :=
  ∃ vals : List Value, w.ownsRow B 24 1 v m.length vals ∧ ∀ i, i < m.length → ∃ r c, vals[i]? = some (.slice r (rw' m i).length c) ∧ TagR B w.heap.size w r (rw' m i)
theorem OutM.start (w : World) (B : Nat) (t : TypeId) (hB : B ≤ w.heap.size) (ht : t = 24) : OutM B (w.alloc (.cells #[] t)) (.slice (some ⟨w.heap.size, 0, none⟩) 0 0) [] := by
  subst ht
  exact ⟨[], World.ownsRow_made w #[] 0 hB (Nat.zero_le _) rfl, fun i hi => by simp at hi⟩
theorem OutM.below {B : Nat} {w w' : World} {v : Value} {m : List (List Int)} (h : OutM B w v m) (hb : Below w.heap.size w w') : OutM B w' v m := by
  obtain ⟨vals, ho, hr⟩ := h
  refine ⟨vals, ho.kept (below_grown hb) (by cases hv : v.ownBlock <;> simp), fun i hi => ?_⟩
  obtain ⟨r, c, h1, h2⟩ := hr i hi
  exact ⟨r, c, h1, h2.below hb (Nat.le_refl _) (Nat.le_refl _) hb.size⟩
theorem rw_append {m : List (List Int)} {z : List Int} {i : Nat} (h : i < m.length) : rw' (m ++ [z]) i = rw' m i := by simp only [rw', List.getD_eq_getElem?_getD]; rw [List.getElem?_append_left h]
theorem rw_append_last (m : List (List Int)) (z : List Int) : rw' (m ++ [z]) m.length = z := by simp [rw', List.getD]
/-- A row is appended: 'w1' is the world behind the append. -/
theorem OutM.push {B : Nat} {w w1 : World} {v v' : Value} {m : List (List Int)} {vals : List Value} {r : Option Addr} {z : List Int} {c : Nat}
    (ho : w.ownsRow B 24 1 v m.length vals) (hr : ∀ i, i < m.length → ∃ r c, vals[i]? = some (.slice r (rw' m i).length c) ∧ TagR B w.heap.size w r (rw' m i))
    (hz : TagR B w.heap.size w r z) (h1 : w1.ownsRow B 24 1 v' (m.length + 1) (vals ++ [.slice r z.length c])) (hg : w.grownBy w1 v.ownBlock) : OutM B w1 v' (m ++ [z]) := by
  have hvl : vals.length = m.length := by have := ho.1; omega
  have keep : ∀ b cur, B ≤ b → b < w.heap.size → w.heap[b]? = some (.cells cur 2 (0, 0)) → w1.heap[b]? = w.heap[b]? := by
    intro b cur _ hlt ht
    refine hg.block b hlt (fun e => ?_)
    rcases ho.2 with ⟨rfl, _⟩ | ⟨g, cap, cur', rfl, _, hgg, _⟩
    · simp [Value.ownBlock] at e
    · simp [Value.ownBlock] at e
      subst e
      rw [hgg] at ht
      simp at ht
  refine ⟨vals ++ [.slice r z.length c], by rw [List.length_append]; exact h1, fun i hi => ?_⟩
  simp only [List.length_append, List.length_cons, List.length_nil] at hi
  by_cases e : i < m.length
  · obtain ⟨r', c', g1, g2⟩ := hr i e
    rw [rw_append e]
    exact ⟨r', c', by rw [List.getElem?_append_left (by omega)]; exact g1, g2.block (Nat.le_refl _) hg.size (fun b cur h0 h1 h2 => keep b cur h0 h1 h2)⟩
  · have : i = m.length := by omega
    subst this
    rw [rw_append_last]
    exact ⟨r, c, by rw [← hvl]; simp, hz.block (Nat.le_refl _) hg.size (fun b cur h0 h1 h2 => keep b cur h0 h1 h2)⟩
theorem OutM.mat {B : Nat} {w : World} {v : Value} {m : List (List Int)} (h : OutM B w v m) : ∃ a c, v = .slice a m.length c ∧ MatIn B w.heap.size w a m := by
  obtain ⟨vals, ho, hr⟩ := h
  rcases ho.2 with ⟨rfl, hn⟩ | ⟨g, cap, cur, rfl, hb, hg, hnc, hcm, hcs, htake⟩
  · exact ⟨none, 0, by rw [hn], .inl (List.eq_nil_of_length_eq_zero hn)⟩
  · have hlt : g < w.heap.size := (Array.getElem?_eq_some_iff.1 hg).1
    refine ⟨_, cap, rfl, .inr ⟨g, 0, rfl, hb, hlt, fun i hi => ?_⟩⟩
    obtain ⟨r, c, h1, h2⟩ := hr i hi
    refine ⟨r, c, ?_, h2.row⟩
    have := ho.cells (g := g) rfl i _ h1
    rwa [Addr.add_lit] at this

/-- A list in new memory is handed back. -/
def NewR (z : List Int) (w : World) (e : Ending) (w' : World) : Prop :=
  ∃ r c, e = .returned (.slice r z.length c) ∧ TagR w.heap.size w'.heap.size w' r z ∧ Below w.heap.size w w'
theorem OutR.new {w w' : World} {v : Value} {zs : List Int} (h : OutR w.heap.size w' v zs) (hb : Below w.heap.size w w') : NewR zs w (.returned v) w' := by
  obtain ⟨a, c, rfl, ht⟩ := h.tag
  exact ⟨a, c, rfl, ht, hb⟩
/-- A matrix in new memory is handed back, to be read. -/
def NewM (m : List (List Int)) (w : World) (e : Ending) (w' : World) : Prop :=
  ∃ r c, e = .returned (.slice r m.length c) ∧ MatIn w.heap.size w'.heap.size w' r m ∧ Below w.heap.size w w'
theorem OutM.new {w w' : World} {v : Value} {m : List (List Int)} (h : OutM w.heap.size w' v m) (hb : Below w.heap.size w w') : NewM m w (.returned v) w' := by
  obtain ⟨a, c, rfl, ht⟩ := h.mat
  exact ⟨a, c, rfl, ht, hb⟩

theorem mkR_succ (n : Nat) (f : Nat → Int) : mkR (n + 1) f = mkR n f ++ [f n] := by simp [mkR, List.range_succ]
theorem mk_succ (n c : Nat) (f : Nat → Nat → Int) : mk (n + 1) c f = mk n c f ++ [mkR c (f n)] := by simp [mk, List.range_succ]
theorem OutM.next {B B' n c : Nat} {w w1 : World} {o : Obj} {v v' : Value} {f : Nat → Nat → Int} {z : List Int} {vals : List Value} {r : Option Addr} {cp : Nat}
    (ho : w.ownsRow B 24 1 v n vals) (hr : ∀ i, i < n → ∃ r c', vals[i]? = some (.slice r (rw' (mk n c f) i).length c') ∧ TagR B w.heap.size w r (rw' (mk n c f) i))
    (hz : TagR B' w.heap.size w r z) (he : z = mkR c (f n)) (hB : B ≤ B') (h1 : w1.ownsRow B 24 1 v' (n + 1) (vals ++ [.slice r c cp])) (hg : (w.alloc o).grownBy w1 v.ownBlock) : OutM B w1 v' (mk (n + 1) c f) := by
  subst he
  have hb : Below w.heap.size w (w.alloc o) := (Below.refl _ _).alloc (Nat.le_refl _) o
  rw [mk_succ]
  refine OutM.push (m := mk n c f) (w := w.alloc o) (vals := vals) (by rw [mk_len]; exact ho.alloc o) (fun i hi => ?_) (hz.below hb (Nat.le_refl _) hB hb.size) (c := cp) (by rw [mk_len, mkR_len]; exact h1) hg
  rw [mk_len] at hi
  obtain ⟨r', c', g1, g2⟩ := hr i hi
  exact ⟨r', c', g1, g2.below hb (Nat.le_refl _) (Nat.le_refl _) hb.size⟩

end Go.Proofs.Ytcamegdjdjacpaa

namespace Go.Proofs.Ytcamegdjdjacpaa
open Go.RowKit
set_option linter.unusedVariables false

/-- What has been cut out of one piece so far. -/
structure CutAt (w wr : World) (bm br n c i : Nat) : Prop where
  bel : Below w.heap.size w wr
  lm : w.heap.size ≤ bm ∧ bm < wr.heap.size
  lr : w.heap.size ≤ br ∧ br < wr.heap.size
  ne : bm ≠ br
  done : ∀ j, j < i → wr.cell? ⟨bm, j, none⟩ = some (.slice (some ⟨br, j * c, none⟩) c c)
  rest : ∀ j, i ≤ j → j < n → wr.cell? ⟨bm, j, none⟩ = some (.slice none 0 0)
  fm : ∀ j, wr.frozen? ⟨bm, j, none⟩ = false
  fr : ∀ j, wr.frozen? ⟨br, j, none⟩ = false
  zero : ∀ j, j < n * c → wr.cell? ⟨br, j, none⟩ = some (.int .i64 0)
theorem made_cell (w : World) (x : Value) (n : Nat) (t : TypeId) {j : Nat} (hj : j < n) : (w.alloc (.cells (madeCells #[x] n) t)).cell? ⟨w.heap.size, j, none⟩ = some x := by
  rw [World.cell?_alloc_new (w := w) (madeCells #[x] n) t j]
  simp [madeCells, hj, Nat.mod_one]
theorem CutAt.drew {w wr : World} {bm br n c i : Nat} (h : CutAt w wr bm br n c i) : CutAt w wr.drew bm br n c i := ⟨h.bel.drew, h.lm, h.lr, h.ne, h.done, h.rest, h.fm, h.fr, h.zero⟩
theorem CutAt.next {w wr : World} {bm br n c i o : Nat} (h : CutAt w wr bm br n c i) (hi : i < n) (ho : o = i * c) : CutAt w (wr.setCell ⟨bm, i, none⟩ (.slice (some ⟨br, o, none⟩) c c)) bm br n c (i + 1) where
  bel := h.bel.setCell h.lm.1 _
  lm := by simpa [World.setCell] using h.lm
  lr := by simpa [World.setCell] using h.lr
  ne := h.ne
  done j hj := by
    subst ho
    by_cases e : j = i
    · subst e; exact World.cell?_setCell_same wr _ _ (h.rest j (Nat.le_refl _) hi)
    · exact (World.cell?_setCell_other _ _ _ _ (by first | (simp; done) | (simp; omega))).trans (h.done j (by omega))
  rest j hj hl := (World.cell?_setCell_other _ _ _ _ (by first | (simp; done) | (simp; omega))).trans (h.rest j (by omega) hl)
  fm j := by simp [go_sem, h.fm]
  fr j := by simp [go_sem, h.fr]
  zero j hj := (World.cell?_setCell_other _ _ _ _ (fun e => h.ne (by injection e))).trans (h.zero j hj)
theorem CutAt.own {w wr : World} {bm br n c : Nat} (h : CutAt w wr bm br n c n) (hc : 1 ≤ c) : OwnAt w.heap.size wr.heap.size wr ⟨bm, 0, fun i => some ⟨br, i * c, none⟩, fun _ => br, fun i => i * c, fun _ => c⟩ n (fun _ => c) (fun _ _ => 0) where
  rng _ := h.lm
  top i hi := by show wr.cell? ⟨bm, 0 + i, none⟩ = _; rw [Nat.zero_add]; exact h.done i hi
  row i hi := .inr rfl
  rrng i hi _ := h.lr
  cell i hi j hj := h.zero _ (by
    have : (i + 1) * c ≤ n * c := Nat.mul_le_mul_right _ (by omega)
    have e : (i + 1) * c = i * c + c := Nat.succ_mul _ _
    show i * c + j < n * c
    omega)
  free i hi j hj := h.fr _
  apart i hi i' hi' hne j hj j' hj' e := by
    have e2 : i * c + j = i' * c + j' := e.2
    rcases Nat.lt_or_ge i i' with l | l
    · have : (i + 1) * c ≤ i' * c := Nat.mul_le_mul_right _ (by omega)
      have e3 : (i + 1) * c = i * c + c := Nat.succ_mul _ _
      omega
    · have : (i' + 1) * c ≤ i * c := Nat.mul_le_mul_right _ (by omega)
      have e3 : (i' + 1) * c = i' * c + c := Nat.succ_mul _ _
      omega
  tops i hi j hj i' hi' e := h.ne e.1.symm

end Go.Proofs.Ytcamegdjdjacpaa

namespace Go.Proofs.Ytcamegdjdjacpaa
open Go.RowKit
set_option linter.unusedVariables false

def Nums (p : Int) (z : List Int) : Prop := ∀ j, j < z.length → 0 ≤ z.getD j 0 ∧ z.getD j 0 < p
theorem Nums.of {p : Int} {z : List Int} (h : z.all (inr p) = true) : Nums p z := by
  intro j hj
  rw [List.all_eq_true] at h
  exact inr_iff.1 (h _ (by rw [getD_at hj]; exact List.getElem_mem hj))
theorem mul_bd' {p x y : Int} (hp : p ≤ 13) (x0 : 0 ≤ x) (x1 : x < p) (y0 : 0 ≤ y) (y1 : y < p) : 0 ≤ x * y ∧ x * y ≤ 144 :=
  ⟨Int.mul_nonneg x0 y0, Int.le_trans (Int.mul_le_mul_of_nonneg_right (by omega : x ≤ 12) y0) (Int.mul_le_mul_of_nonneg_left (by omega : y ≤ 12) (by omega))⟩
end Go.Proofs.Ytcamegdjdjacpaa

namespace Go.Proofs.Ytcamegdjdjacpaa
open Go.RowKit Go.ChangeShapes Go.WideShapes
set_option linter.unusedVariables false

/-- Rows of c numbers of the prime, at most 1024 of at most 1024. -/
structure Rect (p : Int) (m : List (List Int)) (c : Nat) : Prop where
  rows : m.length ≤ 1024
  cols : c ≤ 1024
  len : ∀ i, i < m.length → (rw' m i).length = c
  num : ∀ i, i < m.length → Nums p (rw' m i)
theorem Rect.at {p : Int} {m : List (List Int)} {c : Nat} (h : Rect p m c) {i j : Nat} (hi : i < m.length) (hj : j < c) : 0 ≤ at' m i j ∧ at' m i j < p := h.num i hi j (by rw [h.len i hi]; exact hj)
end Go.Proofs.Ytcamegdjdjacpaa

namespace Go.Proofs.Ytcamegdjdjacpaa
open Go.RowKit Go.ChangeShapes Go.WideShapes
set_option linter.unusedVariables false

theorem OutR.of {B n : Nat} {w : World} {v : Value} {zs : List Int} (h : w.ownsRow B 2 1 v n ([] ++ zs.map (Value.int .i64))) (hn : n = zs.length) : OutR B w v zs := by
  subst hn; simpa [OutR] using h

end Go.Proofs.Ytcamegdjdjacpaa

namespace Go.Proofs.Ytcamegdjdjacpaa
open Go.RowKit
set_option linter.unusedVariables false

/-- A list of one's own, rewritten in place: what stands where. -/
structure RowOwn (w : World) (b o : Nat) (n : Nat) (f : Nat → Int) : Prop where
  cell : ∀ j, j < n → w.cell? ⟨b, o + j, none⟩ = some (.int .i64 (f j))
  free : ∀ j, j < n → w.frozen? ⟨b, o + j, none⟩ = false
theorem RowOwn.of {lo tp : Nat} {w : World} {a : Option Addr} {zs : List Int} (h : OwnR lo tp w a zs) (h0 : 0 < zs.length) : ∃ b o, a = some ⟨b, o, none⟩ ∧ lo ≤ b ∧ b < tp ∧ RowOwn w b o zs.length (fun j => zs.getD j 0) := by
  rcases h with h | ⟨b, o, ha, k0, k1, hc⟩
  · rw [h] at h0; simp at h0
  · exact ⟨b, o, ha, k0, k1, fun j hj => (hc j hj).1, fun j hj => (hc j hj).2⟩
theorem RowOwn.back {lo tp : Nat} {w : World} {b o : Nat} {zs : List Int} (h : RowOwn w b o zs.length (fun j => zs.getD j 0)) (h0 : lo ≤ b) (h1 : b < tp) : OwnR lo tp w (some ⟨b, o, none⟩) zs :=
  .inr ⟨b, o, rfl, h0, h1, fun j hj => ⟨h.cell j hj, h.free j hj⟩⟩
theorem RowOwn.step {w : World} {b o n i : Nat} {f g : Nat → Int} (h : RowOwn w b o n (fun j => if j < i then g j else f j)) (hi : i < n) (v : Value) (hv : v = .int .i64 (g i)) : RowOwn (w.setCell ⟨b, o + i, none⟩ v) b o n (fun j => if j < i + 1 then g j else f j) where
  cell j hj := by
    subst hv
    by_cases e : j = i
    · subst e; rw [if_pos (by omega)]; exact World.cell?_setCell_same w _ _ (h.cell j hj)
    · by_cases e2 : j < i
      · rw [if_pos (by omega)]; have h2 := h.cell j hj; rw [if_pos e2] at h2; exact (World.cell?_setCell_other _ _ _ _ (by first | (simp; done) | (simp; omega))).trans h2
      · rw [if_neg (by omega)]; have h2 := h.cell j hj; rw [if_neg e2] at h2; exact (World.cell?_setCell_other _ _ _ _ (by first | (simp; done) | (simp; omega))).trans h2
  free j hj := by simp [go_sem, h.free j hj]
theorem Wrote.same {b o n lo tp : Nat} {w w' : World} (h : Wrote b o n w w') (hb : b < lo ∨ tp ≤ b) : Same lo tp w w' := fun i i0 i1 => h.block i (by omega)
theorem RowOwn.drew {w : World} {b o n : Nat} {f : Nat → Int} (h : RowOwn w b o n f) : RowOwn w.drew b o n f := ⟨h.cell, h.free⟩

set_option maxRecDepth 100000 in
set_option maxHeartbeats 3200000 in
theorem addMultiple_any (p k : Int) (b o n c : Nat) (f : Nat → Int) (a : Option Addr) (z : List Int) (cz lo tp : Nat) (w : World) (hp : prm p = true) (h : RowOwn w b o n f) (hz : RowIn lo tp w a z) (hb : b < lo ∨ tp ≤ b) (hl : n ≤ z.length) (hn : z.length ≤ 100000) (hf : ∀ j, j < n → 0 ≤ f j ∧ f j < p) (hzn : Nums p z) (k0 : 0 ≤ k) (k1 : k ≤ p) :
    Calls Try.prog 165 #[.int .i64 p, .slice (some ⟨b, o, none⟩) n c, .int .i64 k, .slice a z.length cz] w fun e w' => e = .returned (.tuple #[]) ∧ RowOwn w' b o n (fun j => (f j + k * z.getD j 0) % p) ∧ Wrote b o n w w' := by
  have hpb := prm_bd hp
  have H := Lib.hid h
  have HF := Lib.hid hf
  have HZ := Lib.hid hz
  have HZN := Lib.hid hzn
  clear h hf hp hz hzn
  go_enter Try.func165, Try.ntmps165
  go_wp2
  go_loopw [11] (fun t wr => ∃ i : Nat, i ≤ n ∧ t = .int .i64 i ∧ RowOwn wr b o n (fun j => if j < i then (f j + k * z.getD j 0) % p else f j) ∧ Wrote b o n w wr) (fun t _ => n - (intOf t).toNat)
  case atStart => exact ⟨0, Nat.zero_le _, rfl, ⟨fun j hj => by simpa using H.out.cell j hj, H.out.free⟩, Wrote.refl _ _ _ _⟩
  case round =>
    obtain ⟨i, hi, rfl, hr, hw⟩ := hrel
    have HR := Lib.hid hr
    have HW := Lib.hid hw
    by_cases hlt : i < n
    · have c0 := hr.cell i hlt
      rw [if_neg (Nat.lt_irrefl _)] at c0
      have f0 := hr.free i hlt
      obtain ⟨b2, o2, ha2, l2, t2, hc2⟩ := (HZ.out.same (hw.same hb)).num (by omega : i < z.length)
      subst ha2
      obtain ⟨x0, x1⟩ := HF.out i hlt
      obtain ⟨y0, y1⟩ := HZN.out i (by omega)
      obtain ⟨x, hx⟩ : ∃ x, x = f i := ⟨_, rfl⟩
      obtain ⟨y, hy⟩ : ∃ y, y = z.getD i 0 := ⟨_, rfl⟩
      rw [← hx] at c0 x0 x1
      rw [← hy] at hc2 y0 y1
      have HX := Lib.hid hx
      have HY := Lib.hid hy
      have m0 : 0 ≤ k * y := Int.mul_nonneg k0 y0
      have m1 : k * y ≤ 13 * 13 := Int.le_trans (Int.mul_le_mul_of_nonneg_right (by omega : k ≤ 13) y0) (Int.mul_le_mul_of_nonneg_left (by omega) (by omega))
      have hi1 : (i : Int) < (n : Int) := by omega
      have hi2 : (i : Int) < (z.length : Int) := by omega
      have e1 : IntKind.i64.wrap (k * y) = k * y := IntWalk.i64_in _ (by omega)
      have e2 : IntKind.i64.wrap (x + k * y) = x + k * y := IntWalk.i64_in _ (by omega)
      have e3 : (x + k * y).tmod p = (x + k * y) % p := Int.tmod_eq_emod_of_nonneg (by omega)
      have hp0 : ¬ p = 0 := by omega
      have hp1 : (p == 0) = false := by simpa using hp0
      clear hr hw hx hy
      go_wp2
      go_region
      all_goals
        clear e1 e2 e3
        go_wp2
        go_roundw
        case rel => exact ⟨i + 1, by omega, by go_num, (HR.out.step hlt _ (by rw [HX.out, HY.out])).drew, (HW.out.set hlt _).drew⟩
        case measure => simp [intOf]; omega
    · have hn : i = n := by omega
      subst hn
      have HE : Hid (RowOwn wr b o i (fun j => (f j + k * z.getD j 0) % p)) := ⟨fun j hj => by have := HR.out.cell j hj; rwa [if_pos hj] at this, HR.out.free⟩
      clear hr hw
      go_wp2
      go_end0
      exact ⟨rfl, HE.out, HW.out⟩

end Go.Proofs.Ytcamegdjdjacpaa

namespace Go.Proofs.Ytcamegdjdjacpaa
open Go.RowKit Go.ChangeShapes Go.WideShapes
set_option linter.unusedVariables false

def IsMat (w : World) (a : Option Addr) (len : Nat) : Prop :=
  ∃ m : List (List Int), m.length = len ∧ MatIn 0 w.heap.size w a m ∧ len ≤ 9223372036854775807 ∧ ∀ i, i < m.length → (rw' m i).length ≤ 9223372036854775807
def IsLst (w : World) (a : Option Addr) (len : Nat) : Prop :=
  ∃ z : List Int, z.length = len ∧ RowIn 0 w.heap.size w a z ∧ len ≤ 9223372036854775807

theorem row_of {w : World} {x : Addr} {len : Nat} {zs : List Int} (hl : len ≤ zs.length) (h : ∀ i, i < zs.length → w.cell? (x.add i) = some (.int .i64 (zs.getD i 0))) : RowIn 0 w.heap.size w (some x) (zs.take len) := by
  by_cases h0 : len = 0
  · exact .inl (by rw [h0]; rfl)
  · obtain ⟨b, o, rfl, hc⟩ := ints_at h (by omega)
    have hlt : b < w.heap.size := World.block_lt_of_cell? w ⟨b, o + 0, none⟩ (hc 0 (by omega))
    refine .inr ⟨b, o, rfl, Nat.zero_le _, hlt, fun i hi => ?_⟩
    rw [List.length_take] at hi
    rw [hc i (by omega)]
    simp only [List.getD_eq_getElem?_getD, List.getElem?_take]
    rw [if_pos (by omega)]
theorem isLst_nil (w : World) : IsLst w none 0 := ⟨[], rfl, .inl rfl, by omega⟩
theorem isLst_of {w : World} {x : Addr} {len cap : Nat} {zs : List Int} (h1 : len ≤ cap) (h2 : cap ≤ maxLen) (h3 : zs.length = cap) (h : ∀ i, i < zs.length → w.cell? (x.add i) = some (.int .i64 (zs.getD i 0))) : IsLst w (some x) len := by
  unfold maxLen at h2
  exact ⟨zs.take len, by simp; omega, row_of (by omega) h, by omega⟩
theorem isMat_nil (w : World) : IsMat w none 0 := ⟨[], rfl, .inl rfl, by omega, fun i hi => by simp at hi⟩
theorem slice_at {w : World} {x : Addr} {v : Nat → Value} {n : Nat} (hn : 0 < n) (h : ∀ r, r < n → w.cell? (x.add r) = some (v r)) : ∃ b o, x = ⟨b, o, none⟩ ∧ ∀ r, r < n → w.cell? ⟨b, o + r, none⟩ = some (v r) := by
  obtain ⟨b, off, spot⟩ := x
  have hspot : spot = none := by simpa [Addr.add] using World.cell?_spot (h 0 hn)
  subst hspot
  exact ⟨b, off, rfl, fun j hj => by rw [← Go.WideShapes.add_plain]; exact h j hj⟩
theorem isMat_of {w : World} {x : Addr} {len cap : Nat} {A : Nat → Option Addr} {L C : Nat → Nat} {Z : Nat → List Int} (hl : len ≤ cap) (hm : cap ≤ maxLen)
    (h : ∀ r, r < cap → w.cell? (x.add r) = some (.slice (A r) (L r) (C r)) ∧ L r ≤ C r ∧ C r ≤ maxLen ∧ (Z r).length = C r ∧ (∀ n ∈ Z r, (Lit.int .i64 n).wf = true) ∧ (A r = none → C r = 0) ∧
        ∀ a', A r = some a' → 0 ≤ a'.block ∧ ∀ c, c < C r → w.cell? (a'.add c) = some (.int .i64 ((Z r).getD c 0))) : IsMat w (some x) len := by
  unfold maxLen at hm
  refine ⟨(List.range len).map fun r => (Z r).take (L r), by simp, ?_, by omega, fun i hi => ?_⟩
  · by_cases h0 : len = 0
    · subst h0; exact .inl rfl
    · obtain ⟨b, o, rfl, hc⟩ := slice_at (n := cap) (v := fun r => .slice (A r) (L r) (C r)) (by omega) (fun r hr => (h r hr).1)
      have hlt : b < w.heap.size := World.block_lt_of_cell? w ⟨b, o + 0, none⟩ (hc 0 (by omega))
      refine .inr ⟨b, o, rfl, Nat.zero_le _, hlt, fun i hi => ?_⟩
      simp only [List.length_map, List.length_range] at hi
      obtain ⟨_, r1, r2, r3, _, r5, r6⟩ := h i (by omega)
      have e : rw' ((List.range len).map fun r => (Z r).take (L r)) i = (Z i).take (L i) := by simp [rw', List.getD, hi]
      rw [e]
      have e2 : ((Z i).take (L i)).length = L i := by simp; omega
      rw [e2]
      refine ⟨A i, C i, hc i (by omega), ?_⟩
      cases hA : A i with
      | none =>
        have := r5 hA
        have h0 : L i = 0 := by omega
        exact .inl (by rw [h0]; rfl)
      | some a' => exact row_of (by omega) (fun c hc' => (r6 a' hA).2 c (by omega))
  · simp only [List.length_map, List.length_range] at hi
    obtain ⟨_, r1, r2, r3, _⟩ := h i (by omega)
    unfold maxLen at r2
    have e : rw' ((List.range len).map fun r => (Z r).take (L r)) i = (Z i).take (L i) := by simp [rw', List.getD, hi]
    rw [e]; simp; omega

end Go.Proofs.Ytcamegdjdjacpaa

namespace Go.Proofs.Ytcamegdjdjacpaa
open Go.RowKit
set_option linter.unusedVariables false

def SpecR (R : List Int) (C : Int) (w : World) (e : Ending) (w' : World) : Prop :=
  ∃ r c, e = .returned (.tuple #[.slice r R.length c, .int .i64 C]) ∧ RowIn w.heap.size w'.heap.size w' r R ∧ Below w.heap.size w w'
def ImplR (R : List Int) (C : Int) (w : World) (e : Ending) (w' : World) : Prop :=
  ∃ r c, e = .returned (.tuple #[.slice r R.length c, .int .i64 C]) ∧ OwnR w.heap.size w'.heap.size w' r R ∧ Below w.heap.size w w'
def RetB (V : Bool) (C : Int) (w : World) (e : Ending) (w' : World) : Prop := e = .returned (.tuple #[.bool V, .int .i64 C]) ∧ Below w.heap.size w w'
end Go.Proofs.Ytcamegdjdjacpaa

namespace Go.Proofs.Ytcamegdjdjacpaa
open Go.RowKit Go.ChangeShapes Go.WideShapes
set_option linter.unusedVariables false

/-- Blocks outside lo up to hi are as they were; there may be new ones. -/
structure OffG (lo hi : Nat) (w w' : World) : Prop where
  os : w'.os = w.os
  tape : w'.tape = w.tape
  output : w'.output = w.output
  size : w.heap.size ≤ w'.heap.size
  block : ∀ k, k < w.heap.size → (k < lo ∨ hi ≤ k) → w'.heap[k]? = w.heap[k]?
theorem OffG.same {lo hi lo' hi' : Nat} {w w' : World} (h : OffG lo hi w w') (k : hi' ≤ lo ∨ hi ≤ lo') (hz : hi' ≤ w.heap.size) : Same lo' hi' w w' := fun i i0 i1 => h.block i (by omega) (by omega)
theorem OffG.below {B lo hi : Nat} {w w' : World} (h : OffG lo hi w w') (hB : B ≤ lo) (hw : lo ≤ w.heap.size) : Below B w w' := ⟨h.os, h.tape, h.output, h.size, fun k hk => h.block k (by omega) (by omega)⟩

theorem OffG.cell {lo hi : Nat} {w w' : World} (h : OffG lo hi w w') {p : Addr} (k0 : p.block < w.heap.size) (k : p.block < lo ∨ hi ≤ p.block) : w'.cell? p = w.cell? p := World.cell?_of_block (w := w) (h.block p.block k0 k)
theorem Off.cell {lo hi : Nat} {w w' : World} (h : Off lo hi w w') {p : Addr} (k : p.block < lo ∨ hi ≤ p.block) : w'.cell? p = w.cell? p := World.cell?_of_block (w := w) (h.block p.block k)
theorem below_alloc (w : World) (o : Obj) : Below w.heap.size w (w.alloc o) := (Below.refl _ _).alloc (Nat.le_refl _) o
theorem below_drew (w : World) : Below w.heap.size w w.drew := (Below.refl _ _).drew
theorem size_alloc (w : World) (o : Obj) : w.heap.size ≤ (w.alloc o).heap.size := by simp
theorem lt_alloc (w : World) (o : Obj) : w.heap.size < (w.alloc o).heap.size := by simp
theorem nw0 (w : World) (x y : Value) (t : TypeId) : (w.alloc (.cells #[x, y] t)).cell? ⟨w.heap.size, 0, none⟩ = some x := by simp [go_sem]
theorem nw1 (w : World) (x y : Value) (t : TypeId) : (w.alloc (.cells #[x, y] t)).cell? ⟨w.heap.size, 1, none⟩ = some y := by simp [go_sem]

theorem OwnR.mono' {lo hi lo' hi' : Nat} {w : World} {a : Option Addr} {zs : List Int} (h : OwnR lo hi w a zs) (h0 : lo' ≤ lo) (h1 : hi ≤ hi') : OwnR lo' hi' w a zs := by
  rcases h with h | ⟨b, o, ha, k0, k1, hc⟩
  · exact .inl h
  · exact .inr ⟨b, o, ha, by omega, by omega, hc⟩
end Go.Proofs.Ytcamegdjdjacpaa

namespace Go.Proofs.Ytcamegdjdjacpaa
open Go.RowKit
set_option linter.unusedVariables false

theorem Src.lt {w : World} {b : Nat} {a : Option Addr} {len cap : Nat} {zs : List Int} (h : Src w b a len cap zs) : b < w.heap.size := by
  obtain ⟨k, x, s⟩ := h
  exact s.lt
/-- Changes at a later block leave the source as it is. -/
theorem Src.far {w w' : World} {b k : Nat} {a : Option Addr} {len cap : Nat} {zs : List Int} (h : Src w b a len cap zs) (ho : Only k w w') (hk : b < k) : Src w' b a len cap zs := by
  obtain ⟨n, x, lt, c0, c1, c2, f1, f2, le, sm, by_⟩ := h
  have hne : b ≠ k := by omega
  refine ⟨n, x, Nat.lt_of_lt_of_le lt ho.size, (ho.cell (p := ⟨b, 0, none⟩) lt hne).trans c0, (ho.cell (p := ⟨b, 1, none⟩) lt hne).trans c1, (ho.cell (p := ⟨b, 2, none⟩) lt hne).trans c2, (ho.frozen (p := ⟨b, 1, none⟩) lt hne).trans f1, (ho.frozen (p := ⟨b, 2, none⟩) lt hne).trans f2, le, sm, ?_⟩
  rcases by_ with h | ⟨xb, xo, ha, hb, hs, hc⟩
  · exact .inl h
  · exact .inr ⟨xb, xo, ha, hb, Nat.lt_of_lt_of_le hs ho.size, fun i hi => ⟨(hc i hi).1, (ho.cell (p := ⟨xb, xo + i, none⟩) hs (by show xb ≠ k; omega)).trans (hc i hi).2⟩⟩
theorem only_of {w w' : World} {row : Option Nat} (h : w.grownBy w' row) {B : Nat} (hr : ∀ k, row = some k → B ≤ k) (hB : B ≤ w.heap.size) : ∃ k, B ≤ k ∧ Only k w w' := by
  cases row with
  | none => exact ⟨w.heap.size, hB, h.os, h.tape, h.output, h.size, fun k hk _ => h.block k hk (by simp)⟩
  | some g => exact ⟨g, hr g rfl, h.os, h.tape, h.output, h.size, fun k hk hne => h.block k hk (by simp; exact fun e => hne e)⟩
theorem Src.grown {w w' : World} {b : Nat} {a : Option Addr} {len cap : Nat} {zs : List Int} {row : Option Nat} (h : Src w b a len cap zs) (hg : w.grownBy w' row) (hr : ∀ k, row = some k → b < k) : Src w' b a len cap zs := by
  obtain ⟨k, hk, ho⟩ := only_of hg (B := b + 1) (fun k e => hr k e) h.lt
  exact h.far ho hk
theorem Only.grown {b : Nat} {u v w : World} {row : Option Nat} (h : Only b u v) (hg : v.grownBy w row) (hr : ∀ k, row = some k → u.heap.size ≤ k) : Only b u w :=
  ⟨hg.os.trans h.os, hg.tape.trans h.tape, hg.output.trans h.output, Nat.le_trans h.size hg.size, fun k hk hne => (hg.block k (Nat.lt_of_lt_of_le hk h.size) (by
    cases row with
    | none => simp
    | some g => simp; intro e; have := hr g rfl; omega)).trans (h.block k hk hne)⟩
theorem OutR.only {B k : Nat} {w w' : World} {v : Value} {zs : List Int} (h : OutR B w v zs) (ho : Only k w w') (hk : k < B) : OutR B w' v zs :=
  World.ownsRow.kept h ⟨ho.os, ho.tape, ho.output, ho.size, fun j hj hne => ho.block j hj (fun e => hne (by rw [e]))⟩ (by
    cases hv : v.ownBlock with
    | none => exact .inl rfl
    | some g => exact .inr (by intro e; injection e with e; have := (World.ownsRow.lt h g hv).1; omega))
theorem OutR.push {B : Nat} {w : World} {v : Value} {X : List Int} {x : Int} (h : w.ownsRow B 2 1 v (X.length + 1) (X.map (Value.int .i64) ++ [.int .i64 x])) : OutR B w v (X ++ [x]) := by
  unfold OutR
  rw [List.length_append, List.map_append]
  exact h

/-- One of the numbers of a list, as it lies in memory. -/
theorem pick_in (c m : Nat) (ls : List Int) (b : Nat) (a : Option Addr) (len cap : Nat) (zs : List Int) (w : World) (hs : Src w b a len cap zs) (hrow : RowAt w c ls) (hl : ls.length = m) (m1 : 1 ≤ m) (m2 : m ≤ 1000) (hc : c < w.heap.size) (hne : c ≠ b) :
    Calls Try.prog 168 #[.pointer (some ⟨b, 0, none⟩), .slice (some ⟨c, 0, none⟩) m m] w (Drawn (fun x => x ∈ ls) b a len cap zs w) := by
  have HS := Lib.hid hs
  have HR := Lib.hid hrow
  have HL := Lib.hid hl
  clear hs hrow hl
  go_enter Try.func168, Try.ntmps168
  go_wp2_with (go_at_call 167; refine (next_any (m : Int) b a len cap zs _ HS.out).mono ?_; rintro e w1 ⟨x, rfl, hx, ho, hs1⟩; obtain ⟨hx0, hx1⟩ := hx (by omega); obtain ⟨j, rfl⟩ := Int.eq_ofNat_of_zero_le hx0; have hcell := (ho.cell (p := ⟨c, j, none⟩) hc hne).trans (HR.out j (by rw [HL.out]; omega)); have HJ : Hid (ls.getD j 0 ∈ ls) := (by show _ ∈ _; have hj : j < ls.length := (by rw [HL.out]; omega); rw [getD_at hj]; exact List.getElem_mem hj); clear hx)
  go_ret
  exact ⟨_, rfl, HJ.out, ho, hs1⟩

/-- A list that has been drawn: new, growing on. -/
def DrawnO (Q : List Int → Prop) (b : Nat) (a : Option Addr) (len cap : Nat) (zs : List Int) (w : World) (e : Ending) (w' : World) : Prop :=
  ∃ v X, e = .returned v ∧ Q X ∧ OutR w.heap.size w' v X ∧ Only b w w' ∧ Src w' b a len cap zs
/-- .. to be read. -/
def DrawnR (Q : List Int → Prop) (b : Nat) (a : Option Addr) (len cap : Nat) (zs : List Int) (w : World) (e : Ending) (w' : World) : Prop :=
  ∃ r c X, e = .returned (.slice r X.length c) ∧ Q X ∧ RowIn w.heap.size w'.heap.size w' r X ∧ Only b w w' ∧ Src w' b a len cap zs

end Go.Proofs.Ytcamegdjdjacpaa

namespace Go.Proofs.Ytcamegdjdjacpaa
open Go.RowKit
set_option linter.unusedVariables false

theorem rowOwn_in {lo tp : Nat} {w : World} {b o n : Nat} {f : Nat → Int} (h : RowOwn w b o n f) (h0 : lo ≤ b) (h1 : b < tp) : RowIn lo tp w (some ⟨b, o, none⟩) (mkR n f) :=
  .inr ⟨b, o, rfl, h0, h1, fun j hj => by
    rw [mkR_len] at hj
    rw [mkR_at _ hj]
    exact h.cell j hj⟩
theorem rowOwn_stay {w w' : World} {b o n : Nat} {f : Nat → Int} (h : RowOwn w b o n f) (e : w'.heap[b]? = w.heap[b]?) : RowOwn w' b o n f :=
  ⟨fun j hj => (World.cell?_of_block (w := w) (a := ⟨b, o + j, none⟩) e).trans (h.cell j hj), fun j hj => (World.frozen?_of_block (w := w) (a := ⟨b, o + j, none⟩) e).trans (h.free j hj)⟩
theorem rowOwn_put {w : World} {b o n : Nat} {f : Nat → Int} (h : RowOwn w b o n f) {j : Nat} (hj : j < n) (v : Int) : RowOwn (w.setCell ⟨b, o + j, none⟩ (.int .i64 v)) b o n (fun i => if i = j then v else f i) where
  cell i hi := by
    by_cases e : i = j
    · subst e; rw [if_pos rfl]; exact World.cell?_setCell_same w _ _ (h.cell i hi)
    · rw [if_neg e]; exact (World.cell?_setCell_other _ _ _ _ (by first | (simp; done) | (simp; omega))).trans (h.cell i hi)
  free i hi := by simp [go_sem, h.free i hi]
theorem rowOwn_put0 {w : World} {b o n : Nat} {f : Nat → Int} (h : RowOwn w b o n f) (hn : 0 < n) (v : Int) : RowOwn (w.setCell ⟨b, o, none⟩ (.int .i64 v)) b o n (fun i => if i = 0 then v else f i) := rowOwn_put h (j := 0) hn v
theorem heap_other (w : World) (o : Obj) {k : Nat} (h : k < w.heap.size) : (w.alloc o).heap[k]? = w.heap[k]? := (below_alloc w o).block k h

end Go.Proofs.Ytcamegdjdjacpaa
