/-
  The model's determinant, step by step. No Go in sight.
  No conditions.
  The model's determinant: the walk.
  Conditions: the matrix is a row of rows of known cells with numbers of the prime, as many as columns.
  The model's l03Isometry: contract.
  Conditions: both are spaces; the matrix is nil or of rows of known cells, of at most 1048576 numbers together.
  slices.EqualFunc of lists of rows, the rows compared by slices.Equal.
  Conditions: rows of rows of known cells, at most 1024 rows of at most 1048576 numbers.
  IsMatrix, in the program and in the model.
  Conditions: the matrix is nil or a row of rows of known cells.
  The program's search among the pivots: a contract.
  The program's insertions of one value into a list of rows and into a list of places: contracts.
  Conditions: the list is one's own, the value lies in a list of one cell.
  The program's insertion in the middle of a full list: contracts.
  Conditions: the list is one's own, the value lies in a list of one cell.
  A matrix that is filled row by row, each row in blocks of its own.
  No conditions.
  The program's echelon in memory: a block with the lists of rows and of pivots and the determinant; each row in a block of its own. What calls and stores do to it.
  No conditions.
  The program's elimination, one row more: the walk of the function that takes it.
  Conditions: the echelon is one's own; the row is a row of known cells with numbers of the prime.
  The program's elimination of rows: the walk.
  Conditions: the rows are a row of rows of known cells with numbers of the prime, all of one length, at least one.
-/
import Derived.Test.YtigdepahbnidjaaQp34
import Derived.Test.YtigdepahbnidjaaQp32
import Derived.Test.YtigdepahbnidjaaQp21
import Derived.Test.YtigdepahbnidjaaQp22
import Derived.Test.YtigdepahbnidjaaQp5
import Derived.Test.YtigdepahbnidjaaQp4
import Derived.Deep.RegionHeld3
import Derived.Deep.DeepCutAuto
import Derived.Test.YtigdepahbnidjaaQp20
import Derived.Test.YtigdepahbnidjaaQp3
import Derived.BigQuiet
import Derived.Deep.QuietTactic
import Derived.Deep.Draws
import Derived.Deep.AppendLies
import Derived.Shelf.Spec.SlicesInsert
import Derived.Test.YtigdepahbnidjaaQp33
import Derived.Shelf.Spec.SlicesInsertGrow
import Derived.Test.YtigdepahbnidjaaQp9
import Derived.StillTailTactics
namespace Go.Proofs.Ytigdepahbnidjaa
set_option linter.unusedVariables false

theorem dt_addall {n l r : Nat} (hl : l < n) (hr : r ≤ n) (f : Nat → Nat → Int) (x : Nat → Int) : dt n (fun i => if i < r ∧ i ≠ l then fun j => f i j + x i * f l j else f i) = dt n f := by
  induction r with
  | zero => exact dt_congr (fun i _ j _ => by rw [if_neg (by omega)])
  | succ r ih =>
    rw [← ih (by omega)]
    by_cases e : r = l
    · apply dt_congr
      intro i _ j _
      by_cases h : i < r ∧ i ≠ l
      · rw [if_pos (by omega)]
        show f i j + x i * f l j = (if i < r ∧ i ≠ l then fun j => f i j + x i * f l j else f i) j
        rw [if_pos h]
      · rw [if_neg (by omega)]
        show f i j = (if i < r ∧ i ≠ l then fun j => f i j + x i * f l j else f i) j
        rw [if_neg h]
    · have h := dt_addrow (k := r) (l := l) (by omega) hl e (fun i => if i < r ∧ i ≠ l then fun j => f i j + x i * f l j else f i) (x r)
      rw [← h]
      apply dt_congr
      intro i _ j _
      unfold upd
      by_cases e' : i = r
      · subst e'; rw [if_pos (by omega), if_pos rfl, if_neg (by omega), if_neg (by omega)]
      · rw [if_neg e']
        by_cases h' : i < r ∧ i ≠ l
        · rw [if_pos (by omega)]
          show f i j + x i * f l j = (if i < r ∧ i ≠ l then fun j => f i j + x i * f l j else f i) j
          rw [if_pos h']
        · rw [if_neg (by omega)]
          show f i j = (if i < r ∧ i ≠ l then fun j => f i j + x i * f l j else f i) j
          rw [if_neg h']

/-- Where the model's determinant stands: k columns are done. -/
structure DetAt (p : Int) (n : Nat) (A m : List (List Int)) (k : Nat) (out : Int) : Prop where
  ml : m.length = n
  kn : k ≤ n
  len : ∀ i, i < n → (rw' m i).length = n
  rng : ∀ i, i < n → ∀ j, j < n → 0 ≤ at' m i j ∧ at' m i j < p
  ob : 0 ≤ out ∧ out < p
  val : detP p A = out * dt (n - k) (fun r c => at' m (k + r) (k + c)) % p
theorem DetAt.start {p : Int} {A : List (List Int)} (hp : prm p = true) (hl : ∀ i, i < A.length → (rw' A i).length = A.length) (hr : ∀ i, i < A.length → ∀ j, j < A.length → 0 ≤ at' A i j ∧ at' A i j < p) : DetAt p A.length A A 0 1 where
  ml := rfl
  kn := Nat.zero_le _
  len := hl
  rng := hr
  ob := by have := prm_bd hp; omega
  val := by
    rw [Int.one_mul]
    unfold detP
    congr 1
    exact dt_congr (fun i _ j _ => by rw [Nat.zero_add, Nat.zero_add])
theorem DetAt.done {p : Int} {n : Nat} {A m : List (List Int)} {out : Int} (h : DetAt p n A m n out) : detP p A = out := by
  rw [h.val, Nat.sub_self]
  show out * 1 % p = out
  rw [Int.mul_one]
  exact Int.emod_eq_of_lt h.ob.1 h.ob.2
theorem DetAt.none {p : Int} {n : Nat} {A m : List (List Int)} {k : Nat} {out : Int} (h : DetAt p n A m k out) (hk : k < n) (hz : ∀ i, k ≤ i → i < n → at' m i k = 0) : detP p A = 0 := by
  obtain ⟨q, hq⟩ : ∃ q, n - k = q + 1 := ⟨n - k - 1, by omega⟩
  rw [h.val, hq, dt_col0 (fun i hi => hz (k + i) (by omega) (by omega)), Int.mul_zero]
  rfl
theorem elim_zero {p a v x : Int} (h : v * x % p = 1 % p) : (a + (p - a) * v % p * x) % p = 0 := by
  have e : (p - a) * v % p * x % p = (p - a) % p := by
    rw [emod_mul, Int.mul_assoc, ← mul_emod_r, h, mul_emod_r, Int.mul_one]
  rw [Int.add_emod, e, ← Int.add_emod]
  have : a + (p - a) = p := by omega
  rw [this, Int.emod_self]
theorem DetAt.step {p : Int} {n : Nat} {A m m2 : List (List Int)} {k : Nat} {out : Int} (hp : prm p = true) (h : DetAt p n A m k out) (hk : k < n) (hx : 1 ≤ at' m k k) (hn2 : m2.length = n) (hl2 : ∀ i, i < n → (rw' m2 i).length = n)
    (h2 : ∀ i, i < n → ∀ j, j < n → at' m2 i j = if k < i then (at' m i j + (p - at' m i k) * inv p (at' m k k) % p * at' m k j) % p else at' m i j) : DetAt p n A m2 (k + 1) (out * at' m k k % p) := by
  have hxr := h.rng k hk k hk
  have hinv := inv_mul hp hx hxr.2
  have hpb := prm_bd hp
  obtain ⟨q, hq⟩ : ∃ q, n - k = q + 1 := ⟨n - k - 1, by omega⟩
  have hq1 : n - (k + 1) = q := by omega
  refine ⟨hn2, hk, hl2, fun i hi j hj => ?_, mod_bd hp _, ?_⟩
  · rw [h2 i hi j hj]
    split
    · exact mod_bd hp _
    · exact h.rng i hi j hj
  · rw [h.val, hq, hq1]
    have e1 := dt_addall (n := q + 1) (l := 0) (r := q + 1) (by omega) (Nat.le_refl _) (fun r c => at' m (k + r) (k + c)) (fun r => (p - at' m (k + r) k) * inv p (at' m k k) % p)
    have e2 : dt (q + 1) (fun r c => at' m (k + r) (k + c)) % p = dt (q + 1) (fun r c => at' m2 (k + r) (k + c)) % p := by
      rw [← e1]
      apply dt_mod
      intro i hi j hj
      rw [h2 (k + i) (by omega) (k + j) (by omega)]
      by_cases e : i = 0
      · subst e
        rw [if_neg (by omega), if_neg (by omega)]
      · rw [if_pos (by omega), if_pos (by omega), Int.emod_emod, Nat.add_zero]
    have e3 : dt (q + 1) (fun r c => at' m2 (k + r) (k + c)) = at' m k k * dt q (fun r c => at' m2 (k + 1 + r) (k + 1 + c)) := by
      rw [dt_col (fun i h1 hi => by
        show at' m2 (k + i) (k + 0) = 0
        rw [h2 _ (by omega) _ (by omega), if_pos (by omega)]
        exact elim_zero (by rw [Nat.add_zero, Int.mul_comm, hinv, Int.emod_eq_of_lt (by omega) (by omega)]))]
      have e4 : at' m2 (k + 0) (k + 0) = at' m k k := by rw [h2 _ (by omega) _ (by omega), if_neg (by omega)]; rfl
      rw [e4]
      congr 1
      apply dt_congr
      intro i _ j _
      have a1 : k + (i + 1) = k + 1 + i := by omega
      have a2 : k + (j + 1) = k + 1 + j := by omega
      show at' m2 (k + (i + 1)) (k + (j + 1)) = _
      rw [a1, a2]
    rw [Int.mul_emod, e2, ← Int.mul_emod, e3, emod_mul, Int.mul_assoc]

/-- The rows below row k, up to i, are reduced. -/
def rowD (p : Int) (m : List (List Int)) (k i j : Nat) : List Int := if k < j ∧ j < i then plusR p (rw' m j) (rw' m k) ((p - at' m j k) * inv p (at' m k k) % p) else rw' m j
def rowsD (p : Int) (m : List (List Int)) (k i : Nat) : List (List Int) := (List.range m.length).map (rowD p m k i)
theorem rowsD_len (p : Int) (m : List (List Int)) (k i : Nat) : (rowsD p m k i).length = m.length := by simp [rowsD]
theorem rowsD_row {p : Int} {m : List (List Int)} {k i j : Nat} (h : j < m.length) : rw' (rowsD p m k i) j = rowD p m k i j := by simp [rowsD, rw', List.getD, h]
theorem DetAt.rows {p : Int} {n : Nat} {A m : List (List Int)} {k : Nat} {out : Int} (hp : prm p = true) (h : DetAt p n A m k out) (hk : k < n) (hx : 1 ≤ at' m k k) : DetAt p n A (rowsD p m k n) (k + 1) (out * at' m k k % p) := by
  have hn := h.ml
  have hrow : ∀ i, i < n → rw' (rowsD p m k n) i = rowD p m k n i := fun i hi => rowsD_row (by omega)
  refine h.step hp hk hx (by rw [rowsD_len, hn]) (fun i hi => ?_) (fun i hi j hj => ?_)
  · rw [hrow i hi]
    unfold rowD
    split
    · unfold plusR; rw [mkR_len]; exact h.len i hi
    · exact h.len i hi
  · show (rw' (rowsD p m k n) i).getD j 0 = _
    rw [hrow i hi]
    unfold rowD
    by_cases e : k < i
    · rw [if_pos ⟨e, hi⟩, if_pos e]
      unfold plusR
      rw [mkR_at _ (by rw [h.len i hi]; exact hj)]
      rfl
    · rw [if_neg (by omega), if_neg e]; rfl

end Go.Proofs.Ytigdepahbnidjaa

namespace Go.Proofs.Ytigdepahbnidjaa
open Go.RowKit
set_option linter.unusedVariables false

/-- Both spaces in their boxes. -/
def TB (g : Nat) (pS : Int) (aS : Option Addr) (nS cS : Nat) (pT : Int) (aT : Option Addr) (nT cT : Nat) (W : World) : Prop :=
  W.cell? ⟨g, 0, none⟩ = some (.int .i64 pS) ∧ W.cell? ⟨g, 1, none⟩ = some (.slice aS nS cS) ∧ W.cell? ⟨g + 1, 0, none⟩ = some (.int .i64 pT) ∧ W.cell? ⟨g + 1, 1, none⟩ = some (.slice aT nT cT)
theorem TB.below {g nS cS nT cT B : Nat} {pS pT : Int} {aS aT : Option Addr} {w w' : World} (h : TB g pS aS nS cS pT aT nT cT w) (b : Below B w w') (l : g + 1 < B) : TB g pS aS nS cS pT aT nT cT w' :=
  ⟨(b.cell (p := ⟨g, 0, none⟩) (show g < B by omega)).trans h.1, (b.cell (p := ⟨g, 1, none⟩) (show g < B by omega)).trans h.2.1, (b.cell (p := ⟨g + 1, 0, none⟩) l).trans h.2.2.1, (b.cell (p := ⟨g + 1, 1, none⟩) l).trans h.2.2.2⟩
theorem TB.new (w : World) (pS pT : Int) (aS aT : Option Addr) (nS cS nT cT : Nat) (Ty : TypeId) : TB w.heap.size pS aS nS cS pT aT nT cT ((w.alloc (.cells #[.int .i64 pS, .slice aS nS cS] Ty)).alloc (.cells #[.int .i64 pT, .slice aT nT cT] Ty)) := by
  have h1 : (w.alloc (.cells #[.int .i64 pS, .slice aS nS cS] Ty)).heap.size = w.heap.size + 1 := by simp
  have b := below_alloc (w.alloc (.cells #[.int .i64 pS, .slice aS nS cS] Ty)) (.cells #[.int .i64 pT, .slice aT nT cT] Ty)
  refine ⟨(b.cell (p := ⟨w.heap.size, 0, none⟩) (by rw [h1]; exact Nat.lt_succ_self _)).trans (nw0 w _ _ _), (b.cell (p := ⟨w.heap.size, 1, none⟩) (by rw [h1]; exact Nat.lt_succ_self _)).trans (nw1 w _ _ _), ?_, ?_⟩
  · have := nw0 (w.alloc (.cells #[.int .i64 pS, .slice aS nS cS] Ty)) (.int .i64 pT) (.slice aT nT cT) Ty
    rw [h1] at this; exact this
  · have := nw1 (w.alloc (.cells #[.int .i64 pS, .slice aS nS cS] Ty)) (.int .i64 pT) (.slice aT nT cT) Ty
    rw [h1] at this; exact this
end Go.Proofs.Ytigdepahbnidjaa

namespace Go.Proofs.Ytigdepahbnidjaa
open Go.RowKit Go.ChangeShapes Go.WideShapes
set_option linter.unusedVariables false

/-- A readable list of n places. -/
def IntsIn (lo tp : Nat) (w : World) (a : Option Addr) (n : Nat) (P : Nat → Nat) : Prop :=
  n = 0 ∨ ∃ b o, a = some ⟨b, o, none⟩ ∧ lo ≤ b ∧ b < tp ∧ ∀ j, j < n → w.cell? ⟨b, o + j, none⟩ = some (.int .i64 (P j))
theorem IntsIn.at {lo tp : Nat} {w : World} {a : Option Addr} {n : Nat} {P : Nat → Nat} (h : IntsIn lo tp w a n P) {j : Nat} (hj : j < n) : ∃ b o, a = some ⟨b, o, none⟩ ∧ lo ≤ b ∧ b < tp ∧ w.cell? ⟨b, o + j, none⟩ = some (.int .i64 (P j)) := by
  rcases h with h | ⟨b, o, ha, h1, h2, hc⟩
  · omega
  · exact ⟨b, o, ha, h1, h2, hc j hj⟩

end Go.Proofs.Ytigdepahbnidjaa

namespace Go.Proofs.Ytigdepahbnidjaa
open Go.RowKit Go.ChangeShapes Go.WideShapes
set_option linter.unusedVariables false

/-- i rows are there: row j in blocks from lo j up to tp j, behind block b and behind those of the rows before it. -/
structure HalfG (w : World) (b i : Nat) (m : List (List Int)) (A : Nat → Option Addr) (C lo tp : Nat → Nat) : Prop where
  lt : b < w.heap.size
  done : ∀ j, j < i → w.cell? ⟨b, j, none⟩ = some (.slice (A j) (rw' m j).length (C j))
  rest : ∀ j, i ≤ j → j < m.length → w.cell? ⟨b, j, none⟩ = some (.slice none 0 0)
  free : ∀ j, w.frozen? ⟨b, j, none⟩ = false
  rows : ∀ j, j < i → OwnR (lo j) (tp j) w (A j) (rw' m j) ∧ b < lo j ∧ tp j ≤ w.heap.size
  apart : ∀ j j', j < j' → j' < i → tp j ≤ lo j'
theorem HalfG.start (w : World) (m : List (List Int)) (t : TypeId) (A : Nat → Option Addr) (C lo tp : Nat → Nat) : HalfG (w.alloc (.cells (madeCells #[.slice none 0 0] m.length) t)) w.heap.size 0 m A C lo tp where
  lt := by simp
  done j hj := by omega
  rest j _ hj := by
    have h := World.cell?_alloc_new (w := w) (madeCells #[.slice none 0 0] m.length) t j
    rw [h]
    simp [madeCells, hj, Nat.mod_one]
  free j := by simp [go_sem]
  rows j hj := by omega
  apart j j' _ hj := by omega
/-- One row more. -/
theorem HalfG.next {w w1 : World} {b i : Nat} {m : List (List Int)} {A : Nat → Option Addr} {C lo tp : Nat → Nat} {r : Option Addr} {c T : Nat} (h : HalfG w b i m A C lo tp) (hi : i < m.length)
    (hk : ∀ k, k < w.heap.size → k ≠ b → w1.heap[k]? = w.heap[k]?) (hs : w.heap.size ≤ w1.heap.size) (hT : T ≤ w1.heap.size)
    (hci : w1.cell? ⟨b, i, none⟩ = some (.slice r (rw' m i).length c)) (hc : ∀ j, j ≠ i → w1.cell? ⟨b, j, none⟩ = w.cell? ⟨b, j, none⟩) (hf : ∀ j, w1.frozen? ⟨b, j, none⟩ = false)
    (hr : OwnR w.heap.size T w1 r (rw' m i)) :
    HalfG w1 b (i + 1) m (fun j => if j = i then r else A j) (fun j => if j = i then c else C j) (fun j => if j = i then w.heap.size else lo j) (fun j => if j = i then T else tp j) where
  lt := Nat.lt_of_lt_of_le h.lt hs
  done j hj := by
    by_cases e : j = i
    · subst e; simp only [if_pos]; exact hci
    · simp only [if_neg e]; exact (hc j e).trans (h.done j (by omega))
  rest j hj hl := (hc j (by omega)).trans (h.rest j (by omega) hl)
  free := hf
  rows j hj := by
    by_cases e : j = i
    · subst e; simp only [if_pos]; exact ⟨hr, h.lt, hT⟩
    · simp only [if_neg e]
      obtain ⟨h1, h2, h3⟩ := h.rows j (by omega)
      exact ⟨h1.same (fun k k0 k1 => hk k (by omega) (by omega)), h2, by omega⟩
  apart j j' hj hj' := by
    have e : ¬ j = i := by omega
    simp only [if_neg e]
    by_cases e' : j' = i
    · simp only [if_pos e']; exact (h.rows j (by omega)).2.2
    · simp only [if_neg e']; exact h.apart j j' hj (by omega)
def blk (a : Option Addr) : Nat := match a with | some a => a.block | none => 0
def ofs (a : Option Addr) : Nat := match a with | some a => a.off | none => 0
theorem OwnR.at {lo tp : Nat} {w : World} {a : Option Addr} {zs : List Int} (h : OwnR lo tp w a zs) {j : Nat} (hj : j < zs.length) : a = some ⟨blk a, ofs a, none⟩ ∧ lo ≤ blk a ∧ blk a < tp ∧ w.cell? ⟨blk a, ofs a + j, none⟩ = some (.int .i64 (zs.getD j 0)) ∧ w.frozen? ⟨blk a, ofs a + j, none⟩ = false := by
  rcases h with h | ⟨b, o, rfl, h0, h1, hc⟩
  · rw [h] at hj; simp at hj
  · exact ⟨rfl, h0, h1, (hc j hj).1, (hc j hj).2⟩
theorem HalfG.own {w : World} {b : Nat} {m : List (List Int)} {A : Nat → Option Addr} {C lo tp : Nat → Nat} (h : HalfG w b m.length m A C lo tp) : OwnM b w.heap.size w (some ⟨b, 0, none⟩) m :=
  .inr ⟨⟨b, 0, A, fun j => blk (A j), fun j => ofs (A j), C⟩, rfl, {
    rng := fun _ => ⟨Nat.le_refl _, h.lt⟩
    top := fun i hi => by show w.cell? ⟨b, 0 + i, none⟩ = _; rw [Nat.zero_add]; exact h.done i hi
    row := fun i hi => by
      by_cases h0 : (rw' m i).length = 0
      · exact .inl h0
      · exact .inr ((h.rows i hi).1.at (j := 0) (by omega)).1
    rrng := fun i hi hl => by
      obtain ⟨h1, h2, h3⟩ := h.rows i hi
      have := h1.at (j := 0) hl
      exact ⟨by show b ≤ blk (A i); omega, by show blk (A i) < _; omega⟩
    cell := fun i hi j hj => ((h.rows i hi).1.at hj).2.2.2.1
    free := fun i hi j hj => ((h.rows i hi).1.at hj).2.2.2.2
    apart := fun i hi i' hi' hne j hj j' hj' e => by
      have h1 := (h.rows i hi).1.at hj
      have h2 := (h.rows i' hi').1.at hj'
      have e1 : blk (A i) = blk (A i') := e.1
      rcases Nat.lt_or_ge i i' with l | l
      · have := h.apart i i' l hi'; omega
      · have := h.apart i' i (by omega) hi; omega
    tops := fun i hi j hj i' hi' e => by
      obtain ⟨h1, h2, h3⟩ := h.rows i hi
      have := h1.at hj
      have e1 : blk (A i) = b := e.1
      omega }⟩

theorem RowOwn.block {w w' : World} {b o n : Nat} {f : Nat → Int} (h : RowOwn w b o n f) (e : w'.heap[b]? = w.heap[b]?) : RowOwn w' b o n f :=
  ⟨fun j hj => (World.cell?_of_block (w := w) (a := ⟨b, o + j, none⟩) e).trans (h.cell j hj), fun j hj => (World.frozen?_of_block (w := w) (a := ⟨b, o + j, none⟩) e).trans (h.free j hj)⟩
theorem RowOwn.far {w : World} {b o n : Nat} {f : Nat → Int} (h : RowOwn w b o n f) (c i : Nat) (v : Value) (hne : b ≠ c) : RowOwn (w.setCell ⟨c, i, none⟩ v) b o n f :=
  h.block (Below.heap_setCell _ _ _ _ hne)
end Go.Proofs.Ytigdepahbnidjaa

namespace Go.Proofs.Ytigdepahbnidjaa
open Go.RowKit Go.ChangeShapes Go.WideShapes
set_option linter.unusedVariables false

def rowsV (c : Nat) (RB RO RC : Nat → Nat) (n : Nat) : List Value := (List.range n).map fun i => .slice (some ⟨RB i, RO i, none⟩) c (RC i)
def pivsV (P : Nat → Nat) (n : Nat) : List Value := (List.range n).map fun i => .int .i64 (P i : Int)
/-- In memory: nr rows of c numbers Z, np pivots P, the determinant d. -/
structure EchM (w : World) (kb c nr np : Nat) (Z : Nat → Nat → Int) (P : Nat → Nat) (vr vp : Value) (d : Int) (RB RO RC : Nat → Nat) : Prop where
  lt : kb < w.heap.size
  c0 : w.cell? ⟨kb, 0, none⟩ = some vr
  c1 : w.cell? ⟨kb, 1, none⟩ = some vp
  c2 : w.cell? ⟨kb, 2, none⟩ = some (.int .i64 d)
  fz : ∀ j, w.frozen? ⟨kb, j, none⟩ = false
  ro : w.ownsRow (kb + 1) 22 1 vr nr (rowsV c RB RO RC nr)
  po : w.ownsRow (kb + 1) 3 1 vp np (pivsV P np)
  rng : ∀ i, i < nr → kb < RB i ∧ RB i < w.heap.size
  row : ∀ i, i < nr → RowOwn w (RB i) (RO i) c (Z i)
  apart : ∀ i, i < nr → ∀ i', i' < nr → i ≠ i' → RB i ≠ RB i'
  rc : ∀ i, i < nr → c ≤ RC i
  ra : ∀ i, i < nr → vr.ownBlock ≠ some (RB i)
  pa : ∀ i, i < nr → vp.ownBlock ≠ some (RB i)

theorem EchM.congr {w : World} {kb c nr np : Nat} {Z Z' : Nat → Nat → Int} {P : Nat → Nat} {vr vp : Value} {d : Int} {RB RO RC : Nat → Nat} (h : EchM w kb c nr np Z P vr vp d RB RO RC) (e : ∀ i, i < nr → ∀ j, j < c → Z i j = Z' i j) :
    EchM w kb c nr np Z' P vr vp d RB RO RC :=
  { h with row := fun i hi => ⟨fun j hj => by rw [← e i hi j hj]; exact (h.row i hi).cell j hj, (h.row i hi).free⟩ }
/-- All blocks that it uses are as they were. -/
theorem EchM.keep {w w' : World} {kb c nr np : Nat} {Z : Nat → Nat → Int} {P : Nat → Nat} {vr vp : Value} {d : Int} {RB RO RC : Nat → Nat} (h : EchM w kb c nr np Z P vr vp d RB RO RC) (hb : Below w.heap.size w w') :
    EchM w' kb c nr np Z P vr vp d RB RO RC where
  lt := Nat.lt_of_lt_of_le h.lt hb.size
  c0 := (hb.cell (p := ⟨kb, 0, none⟩) h.lt).trans h.c0
  c1 := (hb.cell (p := ⟨kb, 1, none⟩) h.lt).trans h.c1
  c2 := (hb.cell (p := ⟨kb, 2, none⟩) h.lt).trans h.c2
  fz j := (hb.frozen (p := ⟨kb, j, none⟩) h.lt).trans (h.fz j)
  ro := h.ro.kept (below_grown hb) (by cases hv : vr.ownBlock <;> simp)
  po := h.po.kept (below_grown hb) (by cases hv : vp.ownBlock <;> simp)
  rng i hi := ⟨(h.rng i hi).1, Nat.lt_of_lt_of_le (h.rng i hi).2 hb.size⟩
  row i hi := (h.row i hi).block (hb.block _ (h.rng i hi).2)
  apart := h.apart
  rc := h.rc
  ra := h.ra
  pa := h.pa
theorem EchM.drew {w : World} {kb c nr np : Nat} {Z : Nat → Nat → Int} {P : Nat → Nat} {vr vp : Value} {d : Int} {RB RO RC : Nat → Nat} (h : EchM w kb c nr np Z P vr vp d RB RO RC) : EchM w.drew kb c nr np Z P vr vp d RB RO RC :=
  h.keep ((Below.refl _ _).drew)
theorem wrote_grown {w w' : World} {b o n : Nat} (h : Wrote b o n w w') : w.grownBy w' (some b) := ⟨h.os, h.tape, h.output, Nat.le_of_eq h.size.symm, fun k _ hk => h.block k (fun e => hk (by rw [e]))⟩
/-- One row is rewritten in place. -/
theorem EchM.wrote {w w' : World} {kb c nr np i : Nat} {Z : Nat → Nat → Int} {f : Nat → Int} {P : Nat → Nat} {vr vp : Value} {d : Int} {RB RO RC : Nat → Nat} (h : EchM w kb c nr np Z P vr vp d RB RO RC) (hi : i < nr)
    (hr : RowOwn w' (RB i) (RO i) c f) (hw : Wrote (RB i) (RO i) c w w') : EchM w' kb c nr np (fun i' => if i' = i then f else Z i') P vr vp d RB RO RC := by
  have hk := h.rng i hi
  have hne : kb ≠ RB i := by omega
  have hbk := hw.block kb hne
  exact {
    lt := by rw [hw.size]; exact h.lt
    c0 := (World.cell?_of_block (w := w) (a := ⟨kb, 0, none⟩) hbk).trans h.c0
    c1 := (World.cell?_of_block (w := w) (a := ⟨kb, 1, none⟩) hbk).trans h.c1
    c2 := (World.cell?_of_block (w := w) (a := ⟨kb, 2, none⟩) hbk).trans h.c2
    fz := fun j => (World.frozen?_of_block (w := w) (a := ⟨kb, j, none⟩) hbk).trans (h.fz j)
    ro := h.ro.kept (wrote_grown hw) (.inr (h.ra i hi))
    po := h.po.kept (wrote_grown hw) (.inr (h.pa i hi))
    rng := fun i' hi' => by rw [hw.size]; exact h.rng i' hi'
    row := fun i' hi' => by
      by_cases e : i' = i
      · subst e; simp only [if_pos]; exact hr
      · simp only [if_neg e]; exact (h.row i' hi').block (hw.block _ (h.apart i' hi' i hi e))
    apart := h.apart
    rc := h.rc
    ra := h.ra
    pa := h.pa }
/-- A block that is none of its own is rewritten. -/
theorem EchM.other {w w' : World} {kb c nr np b o n : Nat} {Z : Nat → Nat → Int} {P : Nat → Nat} {vr vp : Value} {d : Int} {RB RO RC : Nat → Nat} (h : EchM w kb c nr np Z P vr vp d RB RO RC)
    (h0 : kb ≠ b) (h1 : vr.ownBlock ≠ some b) (h2 : vp.ownBlock ≠ some b) (h3 : ∀ i, i < nr → RB i ≠ b) (hw : Wrote b o n w w') : EchM w' kb c nr np Z P vr vp d RB RO RC := by
  have hbk := hw.block kb h0
  exact {
    lt := by rw [hw.size]; exact h.lt
    c0 := (World.cell?_of_block (w := w) (a := ⟨kb, 0, none⟩) hbk).trans h.c0
    c1 := (World.cell?_of_block (w := w) (a := ⟨kb, 1, none⟩) hbk).trans h.c1
    c2 := (World.cell?_of_block (w := w) (a := ⟨kb, 2, none⟩) hbk).trans h.c2
    fz := fun j => (World.frozen?_of_block (w := w) (a := ⟨kb, j, none⟩) hbk).trans (h.fz j)
    ro := h.ro.kept (wrote_grown hw) (.inr h1)
    po := h.po.kept (wrote_grown hw) (.inr h2)
    rng := fun i' hi' => by rw [hw.size]; exact h.rng i' hi'
    row := fun i' hi' => (h.row i' hi').block (hw.block _ (h3 i' hi'))
    apart := h.apart
    rc := h.rc
    ra := h.ra
    pa := h.pa }
/-- The rows, for those who read them. -/
theorem EchM.read {w : World} {kb c nr np i : Nat} {Z : Nat → Nat → Int} {P : Nat → Nat} {vr vp : Value} {d : Int} {RB RO RC : Nat → Nat} (h : EchM w kb c nr np Z P vr vp d RB RO RC) (hi : i < nr) :
    ∃ g cap, vr = .slice (some ⟨g, 0, none⟩) nr cap ∧ w.cell? ⟨g, i, none⟩ = some (.slice (some ⟨RB i, RO i, none⟩) c (RC i)) ∧ kb < g ∧ g < w.heap.size := by
  rcases h.ro.2 with ⟨_, h0⟩ | ⟨g, cap, cur, e, hb, hg, _⟩
  · omega
  · subst e
    have := h.ro.cells (g := g) rfl i (.slice (some ⟨RB i, RO i, none⟩) c (RC i)) (by simp [rowsV, hi])
    rw [Addr.add_lit, Nat.zero_add] at this
    exact ⟨g, cap, rfl, this, by omega, (Array.getElem?_eq_some_iff.1 hg).1⟩
end Go.Proofs.Ytigdepahbnidjaa

namespace Go.Proofs.Ytigdepahbnidjaa
open Go.RowKit Go.ChangeShapes Go.WideShapes
set_option linter.unusedVariables false

theorem EchM.readA {w : World} {kb c nr np i : Nat} {Z : Nat → Nat → Int} {P : Nat → Nat} {ar ap : Option Addr} {cr cp : Nat} {d : Int} {RB RO RC : Nat → Nat} (h : EchM w kb c nr np Z P (.slice ar nr cr) (.slice ap np cp) d RB RO RC) (hi : i < nr) :
    ∃ g, ar = some ⟨g, 0, none⟩ ∧ w.cell? ⟨g, i, none⟩ = some (.slice (some ⟨RB i, RO i, none⟩) c (RC i)) ∧ kb < g ∧ g < w.heap.size := by
  obtain ⟨g, cap, e, h1, h2, h3⟩ := h.read hi
  cases e
  exact ⟨g, rfl, h1, h2, h3⟩
theorem EchM.far {w : World} {kb c nr np : Nat} {Z : Nat → Nat → Int} {P : Nat → Nat} {vr vp : Value} {d : Int} {RB RO RC : Nat → Nat} (h : EchM w kb c nr np Z P vr vp d RB RO RC) (x j : Nat) (v : Value)
    (h0 : kb ≠ x) (h1 : vr.ownBlock ≠ some x) (h2 : vp.ownBlock ≠ some x) (h3 : ∀ i, i < nr → RB i ≠ x) : EchM (w.setCell ⟨x, j, none⟩ v) kb c nr np Z P vr vp d RB RO RC :=
  h.other (b := x) (o := j) (n := 1) h0 h1 h2 h3 ((Wrote.refl x j 1 w).set (by omega : 0 < 1) v)
theorem NumAt.block {w w' : World} {b : Nat} {p v : Int} (h : NumAt w b p v) (e : w'.heap[b]? = w.heap[b]?) : NumAt w' b p v :=
  ⟨(World.cell?_of_block (w := w) (a := ⟨b, 0, none⟩) e).trans h.c0, (World.cell?_of_block (w := w) (a := ⟨b, 1, none⟩) e).trans h.c1, (World.frozen?_of_block (w := w) (a := ⟨b, 0, none⟩) e).trans h.f0, (World.frozen?_of_block (w := w) (a := ⟨b, 1, none⟩) e).trans h.f1⟩
/-- Blocks rb and vb are as they were. -/
def Kp (rb vb : Nat) (w0 w : World) : Prop := ∀ k, (k = rb ∨ k = vb) → w.heap[k]? = w0.heap[k]?
theorem Kp.step {rb vb : Nat} {w0 w w' : World} (h : Kp rb vb w0 w) (e : ∀ k, (k = rb ∨ k = vb) → w'.heap[k]? = w.heap[k]?) : Kp rb vb w0 w' := fun k hk => (e k hk).trans (h k hk)
end Go.Proofs.Ytigdepahbnidjaa

namespace Go.Proofs.Ytigdepahbnidjaa
open Go.RowKit Go.ChangeShapes Go.WideShapes
set_option linter.unusedVariables false

/-- Three cells of a block. -/
structure Cel3 (w : World) (b : Nat) (x y z : Value) : Prop where
  c0 : w.cell? ⟨b, 0, none⟩ = some x
  c1 : w.cell? ⟨b, 1, none⟩ = some y
  c2 : w.cell? ⟨b, 2, none⟩ = some z
  f0 : w.frozen? ⟨b, 0, none⟩ = false
  f1 : w.frozen? ⟨b, 1, none⟩ = false
  f2 : w.frozen? ⟨b, 2, none⟩ = false
theorem Cel3.block {w w' : World} {b : Nat} {x y z : Value} (h : Cel3 w b x y z) (e : w'.heap[b]? = w.heap[b]?) : Cel3 w' b x y z :=
  ⟨(World.cell?_of_block (w := w) (a := ⟨b, 0, none⟩) e).trans h.c0, (World.cell?_of_block (w := w) (a := ⟨b, 1, none⟩) e).trans h.c1, (World.cell?_of_block (w := w) (a := ⟨b, 2, none⟩) e).trans h.c2,
    (World.frozen?_of_block (w := w) (a := ⟨b, 0, none⟩) e).trans h.f0, (World.frozen?_of_block (w := w) (a := ⟨b, 1, none⟩) e).trans h.f1, (World.frozen?_of_block (w := w) (a := ⟨b, 2, none⟩) e).trans h.f2⟩
theorem Cel3.set {w : World} {b : Nat} {x y z : Value} (h : Cel3 w b x y z) (u v t : Value) : Cel3 (((w.setCell ⟨b, 0, none⟩ u).setCell ⟨b, 1, none⟩ v).setCell ⟨b, 2, none⟩ t) b u v t :=
  ⟨by simp [go_sem, h.c0], by simp [go_sem, h.c1], by simp [go_sem, h.c2], by simp [go_sem, h.f0], by simp [go_sem, h.f1], by simp [go_sem, h.f2]⟩
theorem EchM.low {w : World} {kb c nr np x : Nat} {Z : Nat → Nat → Int} {P : Nat → Nat} {vr vp : Value} {d : Int} {RB RO RC : Nat → Nat} (h : EchM w kb c nr np Z P vr vp d RB RO RC) (hx : x < kb) :
    kb ≠ x ∧ vr.ownBlock ≠ some x ∧ vp.ownBlock ≠ some x ∧ ∀ i, i < nr → RB i ≠ x :=
  ⟨by omega, fun e => by have := (h.ro.lt x e).1; omega, fun e => by have := (h.po.lt x e).1; omega, fun i hi => by have := h.rng i hi; omega⟩

end Go.Proofs.Ytigdepahbnidjaa
