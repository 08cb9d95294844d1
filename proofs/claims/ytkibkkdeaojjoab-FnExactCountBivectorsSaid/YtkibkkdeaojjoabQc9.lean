/-
  Lists and matrices of numbers that a call builds by append.
  No conditions.
  The program's new matrices of zeros.
  Conditions: at least one column, at most 1024 rows and columns.
  The program's transposed matrices and unit matrices: contracts.
  Conditions: the matrix is a row of rows of known cells, all of one length, at most 1024.
  Sums of products of lists, and products of matrices with vectors, in the program and in the model: contracts.
  Conditions: the lists and matrices are rows of known cells with numbers of the prime; their sizes fit.
  Matrices with rows of one length, and their products with vectors in the program: contracts.
  Conditions: the matrices are rows of rows of known cells with numbers of the prime; their sizes fit.
  Copies of lists and matrices in the model, copies of lists in the program, and unit matrices in both: contracts.
  Conditions: the lists are rows of known cells, not empty.
  Multiples added to lists and lists multiplied, in place, in the program: contracts.
  Conditions: the arguments are nil or rows of known cells, of at most 1048576 numbers.
-/
import Derived.Test.YtkibkkdeaojjoabQc3
import Derived.Laws.AppendOwn
import Derived.Deep.LoopGhost
import Derived.OwnWalk
import Derived.RegionTactic
import Derived.ChangeAlike
import Derived.Deep.AppendLies
import Derived.BigQuiet
import Derived.Lib.SliceRun
namespace Go.Proofs.Ytkibkkdeaojjoab
open Go.RowKit
set_option linter.unusedVariables false

/-- A list of one's own in a block of numbers. -/
def TagR (lo tp : Nat) (w : World) (a : Option Addr) (zs : List Int) : Prop :=
  zs = [] ∨ ∃ b o cur, a = some ⟨b, o, none⟩ ∧ lo ≤ b ∧ b < tp ∧ w.heap[b]? = some (.cells cur 2 (0, 0)) ∧ ∀ j, j < zs.length → w.cell? ⟨b, o + j, none⟩ = some (.int .i64 (zs.getD j 0))
theorem free_of {w : World} {b : Nat} {cur : Array Value} {t : TypeId} (h : w.heap[b]? = some (.cells cur t (0, 0))) (j : Nat) : w.frozen? ⟨b, j, none⟩ = false := by
  simp [World.frozen?, h]
theorem TagR.own {lo tp : Nat} {w : World} {a : Option Addr} {zs : List Int} (h : TagR lo tp w a zs) : OwnR lo tp w a zs := by
  rcases h with h | ⟨b, o, cur, ha, h0, h1, ht, hc⟩
  · exact .inl h
  · exact .inr ⟨b, o, ha, h0, h1, fun j hj => ⟨hc j hj, free_of ht _⟩⟩
theorem TagR.row {lo tp : Nat} {w : World} {a : Option Addr} {zs : List Int} (h : TagR lo tp w a zs) : RowIn lo tp w a zs := h.own.row
theorem TagR.block {lo tp lo' tp' : Nat} {w w' : World} {a : Option Addr} {zs : List Int} (h : TagR lo tp w a zs) (k0 : lo' ≤ lo) (k1 : tp ≤ tp')
    (k : ∀ b cur, lo ≤ b → b < tp → w.heap[b]? = some (.cells cur 2 (0, 0)) → w'.heap[b]? = w.heap[b]?) : TagR lo' tp' w' a zs := by
  rcases h with h | ⟨b, o, cur, ha, h0, h1, ht, hc⟩
  · exact .inl h
  · have e := k b cur h0 h1 ht
    exact .inr ⟨b, o, cur, ha, by omega, by omega, e.trans ht, fun j hj => (World.cell?_of_block (w := w) (a := ⟨b, o + j, none⟩) e).trans (hc j hj)⟩
theorem TagR.below {B lo tp lo' tp' : Nat} {w w' : World} {a : Option Addr} {zs : List Int} (h : TagR lo tp w a zs) (hb : Below B w w') (hB : tp ≤ B) (k0 : lo' ≤ lo) (k1 : tp ≤ tp') : TagR lo' tp' w' a zs :=
  h.block k0 k1 (fun b _ _ h1 _ => hb.block b (by omega))
theorem below_grown {w w' : World} (h : Below w.heap.size w w') : w.grownBy w' none := ⟨h.os, h.tape, h.output, h.size, fun k hk _ => h.block k hk⟩

/-- A list that is being built. -/
def OutR (B : Nat) (w : World) (v : Value) (zs : List Int) : Prop := w.ownsRow B 2 1 v zs.length (zs.map (Value.int .i64))
theorem OutR.tag {B : Nat} {w : World} {v : Value} {zs : List Int} (h : OutR B w v zs) : ∃ a c, v = .slice a zs.length c ∧ TagR B w.heap.size w a zs := by
  have h0 := h
  obtain ⟨_, h⟩ := h
  rcases h with ⟨rfl, hn⟩ | ⟨g, cap, cur, rfl, hb, hg, hnc, hcm, hcs, htake⟩
  · exact ⟨none, 0, by rw [hn], .inl (List.eq_nil_of_length_eq_zero hn)⟩
  · have hlt : g < w.heap.size := (Array.getElem?_eq_some_iff.1 hg).1
    refine ⟨_, cap, rfl, .inr ⟨g, 0, cur, rfl, hb, hlt, hg, fun j hj => ?_⟩⟩
    have := h0.cells (g := g) rfl j (.int .i64 (zs.getD j 0)) (by simp [hj, List.getD])
    rwa [Addr.add_lit] at this
theorem OutR.below {B : Nat} {w w' : World} {v : Value} {zs : List Int} (h : OutR B w v zs) (hb : Below w.heap.size w w') : OutR B w' v zs :=
  World.ownsRow.kept h (below_grown hb) (by cases hv : v.ownBlock <;> simp)
theorem OutR.start (w : World) (B : Nat) (t : TypeId) (hB : B ≤ w.heap.size) (ht : t = 2) : OutR B (w.alloc (.cells #[] t)) (.slice (some ⟨w.heap.size, 0, none⟩) 0 0) [] := by
  subst ht
  exact World.ownsRow_made w #[] 0 hB (Nat.zero_le _) rfl

theorem OutR.step {B : Nat} {w w1 : World} {v v' : Value} {i : Nat} {f : Nat → Int} {X : List Value} {x : Int} (_ : w.ownsRow B 2 1 v i X) (hX : X = (mkR i f).map (Value.int .i64)) (hs : mkR (i + 1) f = mkR i f ++ [x])
    (h1 : w1.ownsRow B 2 1 v' (i + 1) (X ++ [.int .i64 x])) : OutR B w1 v' (mkR (i + 1) f) := by
  unfold OutR
  rw [mkR_len, hs, List.map_append, ← hX]
  exact h1

/-- A matrix that is being built. -/
def OutM (B : Nat) (w : World) (v : Value) (m : List (List Int)) : Prop :=
  ∃ vals : List Value, w.ownsRow B 22 1 v m.length vals ∧ ∀ i, i < m.length → ∃ r c, vals[i]? = some (.slice r (rw' m i).length c) ∧ TagR B w.heap.size w r (rw' m i)
theorem OutM.start (w : World) (B : Nat) (t : TypeId) (hB : B ≤ w.heap.size) (ht : t = 22) : OutM B (w.alloc (.cells #[] t)) (.slice (some ⟨w.heap.size, 0, none⟩) 0 0) [] := by
  subst ht
  exact ⟨[], World.ownsRow_made w #[] 0 hB (Nat.zero_le _) rfl, fun i hi => by simp at hi⟩
theorem OutM.below {B : Nat} {w w' : World} {v : Value} {m : List (List Int)} (h : OutM B w v m) (hb : Below w.heap.size w w') : OutM B w' v m := by
  obtain ⟨vals, ho, hr⟩ := h
  refine ⟨vals, ho.kept (below_grown hb) (by cases hv : v.ownBlock <;> simp), fun i hi => ?_⟩
  obtain ⟨r, c, h1, h2⟩ := hr i hi
  exact ⟨r, c, h1, h2.below hb (Nat.le_refl _) (Nat.le_refl _) hb.size⟩
theorem rw_append {m : List (List Int)} {z : List Int} {i : Nat} (h : i < m.length) : rw' (m ++ [z]) i = rw' m i := by simp only [rw', List.getD_eq_getElem?_getD]; rw [List.getElem?_append_left h]
theorem rw_append_last (m : List (List Int)) (z : List Int) : rw' (m ++ [z]) m.length = z := by simp [rw', List.getD]
/-- A row is appended: 'w1' is the world behind the append. -/
theorem OutM.push {B : Nat} {w w1 : World} {v v' : Value} {m : List (List Int)} {vals : List Value} {r : Option Addr} {z : List Int} {c : Nat}
    (ho : w.ownsRow B 22 1 v m.length vals) (hr : ∀ i, i < m.length → ∃ r c, vals[i]? = some (.slice r (rw' m i).length c) ∧ TagR B w.heap.size w r (rw' m i))
    (hz : TagR B w.heap.size w r z) (h1 : w1.ownsRow B 22 1 v' (m.length + 1) (vals ++ [.slice r z.length c])) (hg : w.grownBy w1 v.ownBlock) : OutM B w1 v' (m ++ [z]) := by
  have hvl : vals.length = m.length := by have := ho.1; omega
  have keep : ∀ b cur, B ≤ b → b < w.heap.size → w.heap[b]? = some (.cells cur 2 (0, 0)) → w1.heap[b]? = w.heap[b]? := by
    intro b cur _ hlt ht
    refine hg.block b hlt (fun e => ?_)
    rcases ho.2 with ⟨rfl, _⟩ | ⟨g, cap, cur', rfl, _, hgg, _⟩
    · simp [Value.ownBlock] at e
    · simp [Value.ownBlock] at e
      subst e
      rw [hgg] at ht
      simp at ht
  refine ⟨vals ++ [.slice r z.length c], by rw [List.length_append]; exact h1, fun i hi => ?_⟩
  simp only [List.length_append, List.length_cons, List.length_nil] at hi
  by_cases e : i < m.length
  · obtain ⟨r', c', g1, g2⟩ := hr i e
    rw [rw_append e]
    exact ⟨r', c', by rw [List.getElem?_append_left (by omega)]; exact g1, g2.block (Nat.le_refl _) hg.size (fun b cur h0 h1 h2 => keep b cur h0 h1 h2)⟩
  · have : i = m.length := by omega
    subst this
    rw [rw_append_last]
    exact ⟨r, c, by rw [← hvl]; simp, hz.block (Nat.le_refl _) hg.size (fun b cur h0 h1 h2 => keep b cur h0 h1 h2)⟩
theorem OutM.mat {B : Nat} {w : World} {v : Value} {m : List (List Int)} (h : OutM B w v m) : ∃ a c, v = .slice a m.length c ∧ MatIn B w.heap.size w a m := by
  obtain ⟨vals, ho, hr⟩ := h
  rcases ho.2 with ⟨rfl, hn⟩ | ⟨g, cap, cur, rfl, hb, hg, hnc, hcm, hcs, htake⟩
  · exact ⟨none, 0, by rw [hn], .inl (List.eq_nil_of_length_eq_zero hn)⟩
  · have hlt : g < w.heap.size := (Array.getElem?_eq_some_iff.1 hg).1
    refine ⟨_, cap, rfl, .inr ⟨g, 0, rfl, hb, hlt, fun i hi => ?_⟩⟩
    obtain ⟨r, c, h1, h2⟩ := hr i hi
    refine ⟨r, c, ?_, h2.row⟩
    have := ho.cells (g := g) rfl i _ h1
    rwa [Addr.add_lit] at this

/-- A list in new memory is handed back. -/
def NewR (z : List Int) (w : World) (e : Ending) (w' : World) : Prop :=
  ∃ r c, e = .returned (.slice r z.length c) ∧ TagR w.heap.size w'.heap.size w' r z ∧ Below w.heap.size w w'
theorem OutR.new {w w' : World} {v : Value} {zs : List Int} (h : OutR w.heap.size w' v zs) (hb : Below w.heap.size w w') : NewR zs w (.returned v) w' := by
  obtain ⟨a, c, rfl, ht⟩ := h.tag
  exact ⟨a, c, rfl, ht, hb⟩
/-- A matrix in new memory is handed back, to be read. -/
def NewM (m : List (List Int)) (w : World) (e : Ending) (w' : World) : Prop :=
  ∃ r c, e = .returned (.slice r m.length c) ∧ MatIn w.heap.size w'.heap.size w' r m ∧ Below w.heap.size w w'
theorem OutM.new {w w' : World} {v : Value} {m : List (List Int)} (h : OutM w.heap.size w' v m) (hb : Below w.heap.size w w') : NewM m w (.returned v) w' := by
  obtain ⟨a, c, rfl, ht⟩ := h.mat
  exact ⟨a, c, rfl, ht, hb⟩

theorem mk_succ (n c : Nat) (f : Nat → Nat → Int) : mk (n + 1) c f = mk n c f ++ [mkR c (f n)] := by simp [mk, List.range_succ]
theorem OutM.next {B B' n c : Nat} {w w1 : World} {o : Obj} {v v' : Value} {f : Nat → Nat → Int} {z : List Int} {vals : List Value} {r : Option Addr} {cp : Nat}
    (ho : w.ownsRow B 22 1 v n vals) (hr : ∀ i, i < n → ∃ r c', vals[i]? = some (.slice r (rw' (mk n c f) i).length c') ∧ TagR B w.heap.size w r (rw' (mk n c f) i))
    (hz : TagR B' w.heap.size w r z) (he : z = mkR c (f n)) (hB : B ≤ B') (h1 : w1.ownsRow B 22 1 v' (n + 1) (vals ++ [.slice r c cp])) (hg : (w.alloc o).grownBy w1 v.ownBlock) : OutM B w1 v' (mk (n + 1) c f) := by
  subst he
  have hb : Below w.heap.size w (w.alloc o) := (Below.refl _ _).alloc (Nat.le_refl _) o
  rw [mk_succ]
  refine OutM.push (m := mk n c f) (w := w.alloc o) (vals := vals) (by rw [mk_len]; exact ho.alloc o) (fun i hi => ?_) (hz.below hb (Nat.le_refl _) hB hb.size) (c := cp) (by rw [mk_len, mkR_len]; exact h1) hg
  rw [mk_len] at hi
  obtain ⟨r', c', g1, g2⟩ := hr i hi
  exact ⟨r', c', g1, g2.below hb (Nat.le_refl _) (Nat.le_refl _) hb.size⟩

end Go.Proofs.Ytkibkkdeaojjoab

namespace Go.Proofs.Ytkibkkdeaojjoab
open Go.RowKit
set_option linter.unusedVariables false

/-- What has been cut out of one piece so far. -/
structure CutAt (w wr : World) (bm br n c i : Nat) : Prop where
  bel : Below w.heap.size w wr
  lm : w.heap.size ≤ bm ∧ bm < wr.heap.size
  lr : w.heap.size ≤ br ∧ br < wr.heap.size
  ne : bm ≠ br
  done : ∀ j, j < i → wr.cell? ⟨bm, j, none⟩ = some (.slice (some ⟨br, j * c, none⟩) c c)
  rest : ∀ j, i ≤ j → j < n → wr.cell? ⟨bm, j, none⟩ = some (.slice none 0 0)
  fm : ∀ j, wr.frozen? ⟨bm, j, none⟩ = false
  fr : ∀ j, wr.frozen? ⟨br, j, none⟩ = false
  zero : ∀ j, j < n * c → wr.cell? ⟨br, j, none⟩ = some (.int .i64 0)
theorem made_cell (w : World) (x : Value) (n : Nat) (t : TypeId) {j : Nat} (hj : j < n) : (w.alloc (.cells (madeCells #[x] n) t)).cell? ⟨w.heap.size, j, none⟩ = some x := by
  rw [World.cell?_alloc_new (w := w) (madeCells #[x] n) t j]
  simp [madeCells, hj, Nat.mod_one]
theorem CutAt.drew {w wr : World} {bm br n c i : Nat} (h : CutAt w wr bm br n c i) : CutAt w wr.drew bm br n c i := ⟨h.bel.drew, h.lm, h.lr, h.ne, h.done, h.rest, h.fm, h.fr, h.zero⟩
theorem CutAt.next {w wr : World} {bm br n c i o : Nat} (h : CutAt w wr bm br n c i) (hi : i < n) (ho : o = i * c) : CutAt w (wr.setCell ⟨bm, i, none⟩ (.slice (some ⟨br, o, none⟩) c c)) bm br n c (i + 1) where
  bel := h.bel.setCell h.lm.1 _
  lm := by simpa [World.setCell] using h.lm
  lr := by simpa [World.setCell] using h.lr
  ne := h.ne
  done j hj := by
    subst ho
    by_cases e : j = i
    · subst e; exact World.cell?_setCell_same wr _ _ (h.rest j (Nat.le_refl _) hi)
    · exact (World.cell?_setCell_other _ _ _ _ (by first | (simp; done) | (simp; omega))).trans (h.done j (by omega))
  rest j hj hl := (World.cell?_setCell_other _ _ _ _ (by first | (simp; done) | (simp; omega))).trans (h.rest j (by omega) hl)
  fm j := by simp [go_sem, h.fm]
  fr j := by simp [go_sem, h.fr]
  zero j hj := (World.cell?_setCell_other _ _ _ _ (fun e => h.ne (by injection e))).trans (h.zero j hj)
theorem CutAt.own {w wr : World} {bm br n c : Nat} (h : CutAt w wr bm br n c n) (hc : 1 ≤ c) : OwnAt w.heap.size wr.heap.size wr ⟨bm, 0, fun i => some ⟨br, i * c, none⟩, fun _ => br, fun i => i * c, fun _ => c⟩ n (fun _ => c) (fun _ _ => 0) where
  rng _ := h.lm
  top i hi := by show wr.cell? ⟨bm, 0 + i, none⟩ = _; rw [Nat.zero_add]; exact h.done i hi
  row i hi := .inr rfl
  rrng i hi _ := h.lr
  cell i hi j hj := h.zero _ (by
    have : (i + 1) * c ≤ n * c := Nat.mul_le_mul_right _ (by omega)
    have e : (i + 1) * c = i * c + c := Nat.succ_mul _ _
    show i * c + j < n * c
    omega)
  free i hi j hj := h.fr _
  apart i hi i' hi' hne j hj j' hj' e := by
    have e2 : i * c + j = i' * c + j' := e.2
    rcases Nat.lt_or_ge i i' with l | l
    · have : (i + 1) * c ≤ i' * c := Nat.mul_le_mul_right _ (by omega)
      have e3 : (i + 1) * c = i * c + c := Nat.succ_mul _ _
      omega
    · have : (i' + 1) * c ≤ i * c := Nat.mul_le_mul_right _ (by omega)
      have e3 : (i' + 1) * c = i' * c + c := Nat.succ_mul _ _
      omega
  tops i hi j hj i' hi' e := h.ne e.1.symm

end Go.Proofs.Ytkibkkdeaojjoab

namespace Go.Proofs.Ytkibkkdeaojjoab
open Go.RowKit
set_option linter.unusedVariables false

def Nums (p : Int) (z : List Int) : Prop := ∀ j, j < z.length → 0 ≤ z.getD j 0 ∧ z.getD j 0 < p
theorem Nums.of {p : Int} {z : List Int} (h : z.all (inr p) = true) : Nums p z := by
  intro j hj
  rw [List.all_eq_true] at h
  exact inr_iff.1 (h _ (by rw [getD_at hj]; exact List.getElem_mem hj))
theorem mul_bd' {p x y : Int} (hp : p ≤ 13) (x0 : 0 ≤ x) (x1 : x < p) (y0 : 0 ≤ y) (y1 : y < p) : 0 ≤ x * y ∧ x * y ≤ 144 :=
  ⟨Int.mul_nonneg x0 y0, Int.le_trans (Int.mul_le_mul_of_nonneg_right (by omega : x ≤ 12) y0) (Int.mul_le_mul_of_nonneg_left (by omega : y ≤ 12) (by omega))⟩
end Go.Proofs.Ytkibkkdeaojjoab

namespace Go.Proofs.Ytkibkkdeaojjoab
open Go.RowKit Go.ChangeShapes Go.WideShapes
set_option linter.unusedVariables false

/-- Rows of c numbers of the prime, at most 1024 of at most 1024. -/
structure Rect (p : Int) (m : List (List Int)) (c : Nat) : Prop where
  rows : m.length ≤ 1024
  cols : c ≤ 1024
  len : ∀ i, i < m.length → (rw' m i).length = c
  num : ∀ i, i < m.length → Nums p (rw' m i)
theorem Rect.at {p : Int} {m : List (List Int)} {c : Nat} (h : Rect p m c) {i j : Nat} (hi : i < m.length) (hj : j < c) : 0 ≤ at' m i j ∧ at' m i j < p := h.num i hi j (by rw [h.len i hi]; exact hj)
end Go.Proofs.Ytkibkkdeaojjoab

namespace Go.Proofs.Ytkibkkdeaojjoab
open Go.RowKit Go.ChangeShapes Go.WideShapes
set_option linter.unusedVariables false

theorem OutR.of {B n : Nat} {w : World} {v : Value} {zs : List Int} (h : w.ownsRow B 2 1 v n ([] ++ zs.map (Value.int .i64))) (hn : n = zs.length) : OutR B w v zs := by
  subst hn; simpa [OutR] using h

end Go.Proofs.Ytkibkkdeaojjoab

namespace Go.Proofs.Ytkibkkdeaojjoab
open Go.RowKit
set_option linter.unusedVariables false

/-- A list of one's own, rewritten in place: what stands where. -/
structure RowOwn (w : World) (b o : Nat) (n : Nat) (f : Nat → Int) : Prop where
  cell : ∀ j, j < n → w.cell? ⟨b, o + j, none⟩ = some (.int .i64 (f j))
  free : ∀ j, j < n → w.frozen? ⟨b, o + j, none⟩ = false
theorem RowOwn.of {lo tp : Nat} {w : World} {a : Option Addr} {zs : List Int} (h : OwnR lo tp w a zs) (h0 : 0 < zs.length) : ∃ b o, a = some ⟨b, o, none⟩ ∧ lo ≤ b ∧ b < tp ∧ RowOwn w b o zs.length (fun j => zs.getD j 0) := by
  rcases h with h | ⟨b, o, ha, k0, k1, hc⟩
  · rw [h] at h0; simp at h0
  · exact ⟨b, o, ha, k0, k1, fun j hj => (hc j hj).1, fun j hj => (hc j hj).2⟩
theorem RowOwn.back {lo tp : Nat} {w : World} {b o : Nat} {zs : List Int} (h : RowOwn w b o zs.length (fun j => zs.getD j 0)) (h0 : lo ≤ b) (h1 : b < tp) : OwnR lo tp w (some ⟨b, o, none⟩) zs :=
  .inr ⟨b, o, rfl, h0, h1, fun j hj => ⟨h.cell j hj, h.free j hj⟩⟩
theorem RowOwn.step {w : World} {b o n i : Nat} {f g : Nat → Int} (h : RowOwn w b o n (fun j => if j < i then g j else f j)) (hi : i < n) (v : Value) (hv : v = .int .i64 (g i)) : RowOwn (w.setCell ⟨b, o + i, none⟩ v) b o n (fun j => if j < i + 1 then g j else f j) where
  cell j hj := by
    subst hv
    by_cases e : j = i
    · subst e; rw [if_pos (by omega)]; exact World.cell?_setCell_same w _ _ (h.cell j hj)
    · by_cases e2 : j < i
      · rw [if_pos (by omega)]; have h2 := h.cell j hj; rw [if_pos e2] at h2; exact (World.cell?_setCell_other _ _ _ _ (by first | (simp; done) | (simp; omega))).trans h2
      · rw [if_neg (by omega)]; have h2 := h.cell j hj; rw [if_neg e2] at h2; exact (World.cell?_setCell_other _ _ _ _ (by first | (simp; done) | (simp; omega))).trans h2
  free j hj := by simp [go_sem, h.free j hj]
theorem Wrote.same {b o n lo tp : Nat} {w w' : World} (h : Wrote b o n w w') (hb : b < lo ∨ tp ≤ b) : Same lo tp w w' := fun i i0 i1 => h.block i (by omega)
theorem RowOwn.drew {w : World} {b o n : Nat} {f : Nat → Int} (h : RowOwn w b o n f) : RowOwn w.drew b o n f := ⟨h.cell, h.free⟩

end Go.Proofs.Ytkibkkdeaojjoab
