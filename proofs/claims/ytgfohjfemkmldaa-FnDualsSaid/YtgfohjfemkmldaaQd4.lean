/-
  Matrices as lists of lists: made of a function, their rows and numbers, sums of products, and what chapter 2 makes of them. No Go in sight.
  No conditions.
  What the laws' sizes, copies, comparisons and marks of lists of numbers do, and the checks of their numbers, wherever they lie.
  Conditions: the lists are nil or rows of known cells, of at most 1048576 numbers.
  What the laws' sizes, copies, comparisons and marks of matrices do.
  Conditions: the matrices are nil or rows of known cells; copied, compared and marked: of at most 1048576 numbers.
-/
import Derived.Test.YtgfohjfemkmldaaQd3
import Derived.BigQuiet
import Derived.Deep.QuietTactic
import Derived.Deep.Draws
import Derived.Laws.MakeOwn
import Derived.OpenShut
import Derived.Deep.OwnRows
import Derived.Deep.RegionHeld3
import Derived.RegionTactic
import Derived.Deep.RegionWith
import Derived.StillTailTactics
namespace Go.Proofs.Ytgfohjfemkmldaa
set_option linter.unusedVariables false

/-- A list made of a function. -/
def mkR (c : Nat) (f : Nat → Int) : List Int := (List.range c).map f
/-- A matrix made of a function. -/
def mk (n c : Nat) (f : Nat → Nat → Int) : List (List Int) := (List.range n).map fun i => mkR c (f i)
theorem mkR_len (c : Nat) (f : Nat → Int) : (mkR c f).length = c := by simp [mkR]
theorem mkR_at {c : Nat} (f : Nat → Int) {j : Nat} (h : j < c) : (mkR c f).getD j 0 = f j := by simp [mkR, List.getD, h]
theorem mk_len (n c : Nat) (f : Nat → Nat → Int) : (mk n c f).length = n := by simp [mk]
theorem mkR_congr {c : Nat} {f g : Nat → Int} (h : ∀ j, j < c → f j = g j) : mkR c f = mkR c g := by
  unfold mkR; apply List.map_congr_left; intro j hj; exact h j (List.mem_range.1 hj)
theorem mkR_self (z : List Int) : mkR z.length (fun j => z.getD j 0) = z := by
  apply row_ext (by rw [mkR_len])
  intro j hj
  rw [mkR_at _ (by rwa [mkR_len] at hj)]

/-- A sum of the first n. -/
def sm : Nat → (Nat → Int) → Int
  | 0, _ => 0
  | n + 1, f => sm n f + f n
theorem sm_congr {n : Nat} {f g : Nat → Int} (h : ∀ j, j < n → f j = g j) : sm n f = sm n g := by
  induction n with
  | zero => rfl
  | succ n ih => simp only [sm]; rw [ih (fun j hj => h j (by omega)), h n (by omega)]
theorem sm_add (n : Nat) (f g : Nat → Int) : sm n (fun j => f j + g j) = sm n f + sm n g := by
  induction n with
  | zero => rfl
  | succ n ih => simp only [sm]; rw [ih]; omega
theorem sm_mul (n : Nat) (c : Int) (f : Nat → Int) : sm n (fun j => c * f j) = c * sm n f := by
  induction n with
  | zero => simp [sm]
  | succ n ih => simp only [sm]; rw [ih, Int.mul_add]
theorem sm_zero (n : Nat) : sm n (fun _ => 0) = 0 := by
  induction n with
  | zero => rfl
  | succ n ih => simp only [sm]; rw [ih]; rfl
theorem sm_single (n k : Nat) (x : Int) : sm n (fun j => if j = k then x else 0) = if k < n then x else 0 := by
  induction n with
  | zero => rfl
  | succ n ih =>
    simp only [sm]; rw [ih]
    by_cases h : n = k
    · subst h; rw [if_neg (by omega), if_pos rfl, if_pos (by omega)]; omega
    · rw [if_neg h]
      by_cases k' : k < n
      · rw [if_pos k', if_pos (by omega)]; omega
      · rw [if_neg k', if_neg (by omega)]; omega
theorem sm_swap (n m : Nat) (f : Nat → Nat → Int) : sm n (fun i => sm m (fun j => f i j)) = sm m (fun j => sm n (fun i => f i j)) := by
  induction n with
  | zero => simp only [sm]; rw [sm_zero]
  | succ n ih => simp only [sm]; rw [ih, ← sm_add]
theorem sm_mod (n : Nat) (p : Int) (f : Nat → Int) : sm n (fun j => f j % p) % p = sm n f % p := by
  induction n with
  | zero => rfl
  | succ n ih => simp only [sm]; rw [Int.add_emod, ih, Int.emod_emod, ← Int.add_emod]
theorem sm_bd {n : Nat} {f : Nat → Int} {b : Int} (h : ∀ j, j < n → 0 ≤ f j ∧ f j ≤ b) : 0 ≤ sm n f ∧ sm n f ≤ n * b := by
  induction n with
  | zero => simp [sm]
  | succ n ih =>
    have h1 := ih (fun j hj => h j (by omega))
    have h2 := h n (by omega)
    simp only [sm]
    have e : ((n + 1 : Nat) : Int) * b = n * b + b := by rw [Int.natCast_add, Int.add_mul]; simp
    rw [e]; omega

/-! ### Matrices of chapter 2 -/
/-- What is known of a list of vectors. -/
structure Lst (n : Nat) (p : Int) (m : List (List Int)) : Prop where
  prime : prm p = true
  lo : n ≤ m.length
  hi : m.length ≤ 16
  len : ∀ i, i < m.length → (rw' m i).length = (rw' m 0).length
  c0 : ∀ i, i < m.length → 1 ≤ (rw' m i).length
  c1 : ∀ i, i < m.length → (rw' m i).length ≤ 16
  all : ∀ i, i < m.length → (rw' m i).all (inr p) = true
theorem mem_row {m : List (List Int)} {i : Nat} (h : i < m.length) : rw' m i ∈ m := by simp [rw', List.getD, h]
theorem Lst.cols {n : Nat} {p : Int} {m : List (List Int)} (h : Lst n p m) {i : Nat} (hi : i < m.length) : (rw' m i).length = (rw' m 0).length := h.len i hi
theorem Lst.at {n : Nat} {p : Int} {m : List (List Int)} (h : Lst n p m) {i j : Nat} (hi : i < m.length) (hj : j < (rw' m 0).length) : 0 ≤ at' m i j ∧ at' m i j < p := by
  have ha := h.all i hi
  rw [List.all_eq_true] at ha
  have hl : j < (rw' m i).length := by rw [h.len i hi]; exact hj
  exact inr_iff.1 (ha _ (by unfold at'; rw [getD_at hl]; exact List.getElem_mem hl))

end Go.Proofs.Ytgfohjfemkmldaa

namespace Go.Proofs.Ytgfohjfemkmldaa
open Go.RowKit Go.ChangeShapes Go.WideShapes
set_option linter.unusedVariables false

theorem info64 : (Try.prog.info? 2).map (fun i => (i.zero, i.size, i.bytes)) = some (some (.int .i64 0), 1, 8) := by kernel_rfl

/-- What has been copied so far. -/
structure Half (w : World) (b i : Nat) (zs : List Int) : Prop where
  lt : b < w.heap.size
  done : ∀ j, j < i → w.cell? ⟨b, j, none⟩ = some (.int .i64 (zs.getD j 0))
  rest : ∀ j, i ≤ j → j < zs.length → w.cell? ⟨b, j, none⟩ = some (.int .i64 0)
  free : ∀ j, w.frozen? ⟨b, j, none⟩ = false
theorem Half.start (w : World) (zs : List Int) (t : TypeId) : Half (w.alloc (.cells (madeCells #[.int .i64 0] zs.length) t)) w.heap.size 0 zs :=
  ⟨by simp, fun j hj => by omega, fun j _ hj => by
    have h := World.cell?_alloc_new (w := w) (madeCells #[.int .i64 0] zs.length) t j
    rw [h]
    simp [madeCells, hj, Nat.mod_one], fun j => by simp [go_sem]⟩
theorem Half.next {w : World} {b i : Nat} {zs : List Int} (h : Half w b i zs) (hi : i < zs.length) : Half (w.setCell ⟨b, i, none⟩ (.int .i64 (zs.getD i 0))) b (i + 1) zs :=
  ⟨by simpa [World.setCell] using h.lt, fun j hj => by
    by_cases hji : j = i
    · subst hji
      exact World.cell?_setCell_same w _ _ (h.rest j (Nat.le_refl _) hi)
    · exact (World.cell?_setCell_other _ _ _ _ (by first | (simp; done) | (simp; omega))).trans (h.done j (by omega)),
   fun j hj hl => (World.cell?_setCell_other _ _ _ _ (by first | (simp; done) | (simp; omega))).trans (h.rest j (by omega) hl), fun j => by simp [go_sem, h.free]⟩

end Go.Proofs.Ytgfohjfemkmldaa

namespace Go.Proofs.Ytgfohjfemkmldaa
open Go.RowKit Go.ChangeShapes Go.WideShapes
set_option linter.unusedVariables false

/-- What has been copied so far. -/
structure HalfM (w : World) (b i : Nat) (m : List (List Int)) (B : Nat → Nat) : Prop where
  lt : b < w.heap.size
  done : ∀ j, j < i → w.cell? ⟨b, j, none⟩ = some (.slice (some ⟨B j, 0, none⟩) (rw' m j).length (rw' m j).length)
  rest : ∀ j, i ≤ j → j < m.length → w.cell? ⟨b, j, none⟩ = some (.slice none 0 0)
  free : ∀ j, w.frozen? ⟨b, j, none⟩ = false
  rng : ∀ j, j < i → b < B j ∧ B j < w.heap.size
  cell : ∀ j, j < i → ∀ x, x < (rw' m j).length → w.cell? ⟨B j, x, none⟩ = some (.int .i64 (at' m j x)) ∧ w.frozen? ⟨B j, x, none⟩ = false
  apart : ∀ j, j < i → ∀ j', j' < i → j ≠ j' → B j ≠ B j'
theorem HalfM.start (w : World) (m : List (List Int)) (t : TypeId) (B : Nat → Nat) : HalfM (w.alloc (.cells (madeCells #[.slice none 0 0] m.length) t)) w.heap.size 0 m B where
  lt := by simp
  done j hj := by omega
  rest j _ hj := by
    have h := World.cell?_alloc_new (w := w) (madeCells #[.slice none 0 0] m.length) t j
    rw [h]
    simp [madeCells, hj, Nat.mod_one]
  free j := by simp [go_sem]
  rng j hj := by omega
  cell j hj := by omega
  apart j hj := by omega
theorem HalfM.next {w w1 : World} {b i : Nat} {m : List (List Int)} {B : Nat → Nat} (h : HalfM w b i m B) (hi : i < m.length) (hb : Below w.heap.size w w1) (hs : w.heap.size < w1.heap.size)
    (hr : OwnR w.heap.size w1.heap.size w1 (some ⟨w.heap.size, 0, none⟩) (rw' m i)) :
    HalfM (w1.setCell ⟨b, i, none⟩ (.slice (some ⟨w.heap.size, 0, none⟩) (rw' m i).length (rw' m i).length)) b (i + 1) m (fun j => if j = i then w.heap.size else B j) := by
  have hlt := h.lt
  have oth : ∀ c j, c ≠ b → (w1.setCell ⟨b, i, none⟩ (.slice (some ⟨w.heap.size, 0, none⟩) (rw' m i).length (rw' m i).length)).cell? ⟨c, j, none⟩ = w1.cell? ⟨c, j, none⟩ := fun c j hne =>
    World.cell?_setCell_other _ _ _ _ (fun e => hne (by injection e with e1; exact e1.symm))
  refine ⟨by simp [World.setCell]; omega, fun j hj => ?_, fun j hj hl => ?_, fun j => ?_, fun j hj => ?_, fun j hj x hx => ?_, fun j hj j' hj' hne => ?_⟩
  · by_cases e : j = i
    · subst e
      simp only [if_pos]
      exact World.cell?_setCell_same w1 _ _ ((hb.cell (p := ⟨b, j, none⟩) hlt).trans (h.rest j (Nat.le_refl _) hi))
    · simp only [if_neg e]
      exact (World.cell?_setCell_other _ _ _ _ (by first | (simp; done) | (simp; omega))).trans ((hb.cell (p := ⟨b, j, none⟩) hlt).trans (h.done j (by omega)))
  · exact (World.cell?_setCell_other _ _ _ _ (by first | (simp; done) | (simp; omega))).trans ((hb.cell (p := ⟨b, j, none⟩) hlt).trans (h.rest j (by omega) hl))
  · have := (hb.frozen (p := ⟨b, j, none⟩) hlt).trans (h.free j)
    simp [go_sem, this]
  · have hz : (w1.setCell ⟨b, i, none⟩ (.slice (some ⟨w.heap.size, 0, none⟩) (rw' m i).length (rw' m i).length)).heap.size = w1.heap.size := by simp [World.setCell]
    rw [hz]
    by_cases e : j = i
    · subst e; simp only [if_pos]; exact ⟨hlt, hs⟩
    · simp only [if_neg e]; have := h.rng j (by omega); omega
  · by_cases e : j = i
    · subst e
      simp only [if_pos]
      rcases hr with h0 | ⟨b1, o1, e1, _, _, hc⟩
      · rw [h0] at hx; simp at hx
      · cases e1
        have h2 := hc x hx
        simp only [Nat.zero_add] at h2
        exact ⟨(oth _ _ (by omega)).trans h2.1, by simp [go_sem, h2.2]⟩
    · simp only [if_neg e]
      have hg := h.rng j (by omega)
      have h2 := h.cell j (by omega) x hx
      have f2 := (hb.frozen (p := ⟨B j, x, none⟩) hg.2).trans h2.2
      exact ⟨(oth _ _ (by omega)).trans ((hb.cell (p := ⟨B j, x, none⟩) hg.2).trans h2.1), by simp [go_sem, f2]⟩
  · have e1 : ∀ j, j < i → B j ≠ w.heap.size := fun j hj => by have := (h.rng j hj).2; omega
    by_cases e : j = i
    · subst e
      simp only [if_pos, if_neg (fun e => hne e.symm : ¬ j' = j)]
      exact (e1 j' (by omega)).symm
    · by_cases e' : j' = i
      · subst e'
        simp only [if_pos, if_neg e]
        exact e1 j (by omega)
      · simp only [if_neg e, if_neg e']
        exact h.apart j (by omega) j' (by omega) hne
theorem HalfM.own {w : World} {b : Nat} {m : List (List Int)} {B : Nat → Nat} (h : HalfM w b m.length m B) : OwnM b w.heap.size w (some ⟨b, 0, none⟩) m :=
  .inr ⟨⟨b, 0, fun j => some ⟨B j, 0, none⟩, B, fun _ => 0, fun j => (rw' m j).length⟩, rfl, {
    rng := fun _ => ⟨Nat.le_refl _, h.lt⟩
    top := fun i hi => by show w.cell? ⟨b, 0 + i, none⟩ = _; rw [Nat.zero_add]; exact h.done i hi
    row := fun i hi => .inr rfl
    rrng := fun i hi _ => ⟨by have := (h.rng i hi).1; show b ≤ B i; omega, (h.rng i hi).2⟩
    cell := fun i hi j hj => by show w.cell? ⟨B i, 0 + j, none⟩ = _; rw [Nat.zero_add]; exact (h.cell i hi j hj).1
    free := fun i hi j hj => by show w.frozen? ⟨B i, 0 + j, none⟩ = _; rw [Nat.zero_add]; exact (h.cell i hi j hj).2
    apart := fun i hi i' hi' hne j hj j' hj' e => h.apart i hi i' hi' hne e.1
    tops := fun i hi j hj i' hi' e => by have := (h.rng i hi).1; have e1 : B i = b := e.1; omega }⟩

end Go.Proofs.Ytgfohjfemkmldaa
