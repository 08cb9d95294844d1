/-
  Draws of spaces: contracts.
  Conditions: the source stands in a block of known cells.
  Draws of spaces, and of what is none: contracts.
  Conditions: the source stands in a block of known cells.
  What the laws' draws are: a number in its range.
  Conditions: the source is one, of at most 4096 bytes.
  The dice of the laws, made of a code.
  Conditions: the code is a row of at most 4096 known bytes.
  The draw of a space and two lists: contract.
  Conditions: the code is nil or a row of known bytes, of at most 4096.
  Bounds of whole numbers of 64 bits, and what the model's remainder is.
  Conditions: the prime is one.
  What the model draws for pairs of numbers, and the law's own remainder.
  Conditions: the code is a row of at most 4096 known bytes; the prime of a remainder is one.
  Helpers of the laws with draws: contracts.
  Conditions: lists are nil or rows of known cells.
  size5, times5, vector5, plus5: contracts of the program and of the model.
  Conditions: the lists are nil or rows of known cells, of at most 1048576 numbers.
  Products of multivectors: they distribute, and their scalars don't depend on the order of two factors.
  Conditions: none.
  Reversals and involutions of products: mathematics.
  Conditions: none.
  Versors: products of vectors are versors, and their sandwiches the reflections. No Go in sight.
  No conditions.
  Versors: products of vectors are versors, their sandwiches are the reflections, the last one first. No Go in sight.
  No conditions.
  Versors: the sandwich of a product of vectors is the reflections in them, the last one first. No Go in sight.
  No conditions.
  VersorBetween (program): contracts of the program and of the model.
  Conditions: the lists are nil or rows of known cells, of at most 1048576 numbers.
  The versor between two vectors of the same norm leads the one to the other one. No Go in sight.
  No conditions.
  A matrix whose outer list is one's own, each row in a block of numbers: rows are put in the place of others.
  No conditions.
  Inverses of numbers, for the linear algebra: what XPower and XOver have.
  No conditions.
  The model's reduced bases: a contract.
  Conditions: the list of vectors is a row of rows of known cells with numbers of the prime, all of one length.
  The model's reduced bases: the walk.
  Conditions: the list of vectors is a row of rows of known cells with numbers of the prime, all of one length, at least one.
  The reduced basis as a function of the rows; the model's SpanBasis and RankOf: contracts.
  Conditions: the list of vectors is a row of rows of known cells.
  Solutions of linear equations out of reduced rows. No Go in sight.
  No conditions.
-/
import Derived.Test.YtigdepahbnidjaaGreatQz22
import Derived.Test.YtigdepahbnidjaaGreatRows
import Derived.LoopTactic
import Derived.Lib.Hide
import Derived.BigQuiet
import Derived.Deep.QuietTactic
import Derived.Laws.Bits64
import Derived.Laws.BitsAllLaws
import Derived.Test.YtigdepahbnidjaaGreatQz14
import Derived.Test.YtigdepahbnidjaaGreatQz2
import Derived.Test.YtigdepahbnidjaaGreatQz3
import Derived.Test.YtigdepahbnidjaaGreatQz9
import Derived.Deep.RegionHeld3
import Derived.Test.YtigdepahbnidjaaGreatQz6
import Derived.Test.YtigdepahbnidjaaGreatQz21
import Derived.Deep.DeepCutAuto
import Derived.Outline
import Derived.RegionTactic
import Derived.Test.YtigdepahbnidjaaGreatQz17
import Derived.Test.YtigdepahbnidjaaGreatQz8
import Derived.Deep.RegionLaw
import Derived.Deep.RegionWith
import Derived.Test.YtigdepahbnidjaaGreatQz4
import Derived.Test.YtigdepahbnidjaaGreatQz15
import Derived.Test.YtigdepahbnidjaaGreatQz16
namespace Go.Proofs.YtigdepahbnidjaaGreat
open Go.RowKit
set_option linter.unusedVariables false

/-- Two cells of a struct that may be written. -/
def L2 (w : World) (g : Nat) (u v : Value) : Prop := w.cell? ⟨g, 0, none⟩ = some u ∧ w.cell? ⟨g, 1, none⟩ = some v ∧ w.frozen? ⟨g, 0, none⟩ = false ∧ w.frozen? ⟨g, 1, none⟩ = false
theorem L2.only {w w' : World} {k g : Nat} {u v : Value} (h : L2 w g u v) (ho : Only k w w') (l : g < w.heap.size) (hne : g ≠ k) : L2 w' g u v :=
  ⟨(ho.cell (p := ⟨g, 0, none⟩) l hne).trans h.1, (ho.cell (p := ⟨g, 1, none⟩) l hne).trans h.2.1, (ho.frozen (p := ⟨g, 0, none⟩) l hne).trans h.2.2.1, (ho.frozen (p := ⟨g, 1, none⟩) l hne).trans h.2.2.2⟩
theorem L2.below {w w' : World} {g : Nat} {u v : Value} (h : L2 w g u v) (ho : Below w.heap.size w w') (l : g < w.heap.size) : L2 w' g u v :=
  ⟨(ho.cell (p := ⟨g, 0, none⟩) l).trans h.1, (ho.cell (p := ⟨g, 1, none⟩) l).trans h.2.1, (ho.frozen (p := ⟨g, 0, none⟩) l).trans h.2.2.1, (ho.frozen (p := ⟨g, 1, none⟩) l).trans h.2.2.2⟩
theorem L2.alloc {w : World} {g : Nat} {u v : Value} (h : L2 w g u v) (o : Obj) (l : g < w.heap.size) : L2 (w.alloc o) g u v := h.below (below_alloc w o) l
theorem L2.grown {w w' : World} {row : Option Nat} {g : Nat} {u v : Value} (h : L2 w g u v) (hg : w.grownBy w' row) (l : g < w.heap.size) (hr : ∀ k, row = some k → g < k) : L2 w' g u v := by
  obtain ⟨k, hk, ho⟩ := only_of hg (B := g + 1) (fun k e => hr k e) l
  exact h.only ho l (by omega)
theorem L2.new (w : World) (u v : Value) (T : TypeId) : L2 (w.alloc (.cells #[u, v] T)) w.heap.size u v := by
  refine ⟨?_, ?_, ?_, ?_⟩ <;> simp [go_sem]
theorem L2.far {w : World} {g k i : Nat} {u v : Value} (h : L2 w g u v) (x : Value) (hne : g ≠ k) : L2 (w.setCell ⟨k, i, none⟩ x) g u v :=
  ⟨(World.cell?_setCell_other _ ⟨k, i, none⟩ ⟨g, 0, none⟩ _ (fun e => by injection e with e1; omega)).trans h.1, (World.cell?_setCell_other _ ⟨k, i, none⟩ ⟨g, 1, none⟩ _ (fun e => by injection e with e1; omega)).trans h.2.1, by simp [go_sem, h.2.2.1], by simp [go_sem, h.2.2.2]⟩
theorem OutR.base {B B' : Nat} {w : World} {v : Value} {zs : List Int} (h : OutR B w v zs) (hB : B' ≤ B) : OutR B' w v zs :=
  ⟨h.1, h.2.imp id (fun ⟨g, cap, cur, e, hb, r⟩ => ⟨g, cap, cur, e, Nat.le_trans hB hb, r⟩)⟩
theorem OutR.nil (w : World) (B : Nat) : OutR B w (.slice none 0 0) [] := ⟨rfl, .inl ⟨rfl, rfl⟩⟩
theorem OutR.put {B k i : Nat} {w : World} {v : Value} {zs : List Int} (h : OutR B w v zs) (x : Value) (hk : k < B) : OutR B (w.setCell ⟨k, i, none⟩ x) v zs :=
  h.only (Only.set k i w x) hk
theorem OutR.alloc {B : Nat} {w : World} {v : Value} {zs : List Int} (h : OutR B w v zs) (o : Obj) : OutR B (w.alloc o) v zs := h.below (below_alloc w o)
theorem OutR.drew {B : Nat} {w : World} {v : Value} {zs : List Int} (h : OutR B w v zs) : OutR B w.drew v zs := h.below (below_drew w)

end Go.Proofs.YtigdepahbnidjaaGreat

namespace Go.Proofs.YtigdepahbnidjaaGreat
open Go.RowKit
set_option linter.unusedVariables false

theorem OutR.rowIn {B : Nat} {w : World} {r : Option Addr} {n c : Nat} {zs : List Int} (h : OutR B w (.slice r n c) zs) : RowIn B w.heap.size w r zs := by
  obtain ⟨a, d, e, ht⟩ := h.tag
  injection e with e1 e2 e3
  subst e1
  exact ht.row
theorem RowIn.far {lo tp k i : Nat} {w : World} {r : Option Addr} {zs : List Int} (h : RowIn lo tp w r zs) (x : Value) (hk : k < lo ∨ tp ≤ k) : RowIn lo tp (w.setCell ⟨k, i, none⟩ x) r zs :=
  h.same (fun j j0 j1 => Below.heap_setCell _ _ _ _ (by show j ≠ k; omega))
theorem RowIn.only {lo tp k : Nat} {w w' : World} {r : Option Addr} {zs : List Int} (h : RowIn lo tp w r zs) (ho : Only k w w') (hk : k < lo ∨ tp ≤ k) (ht : tp ≤ w.heap.size) : RowIn lo tp w' r zs :=
  h.same (fun j j0 j1 => ho.block j (Nat.lt_of_lt_of_le j1 ht) (by omega))
end Go.Proofs.YtigdepahbnidjaaGreat

namespace Go.Proofs.YtigdepahbnidjaaGreat
open Go.RowKit
set_option linter.unusedVariables false

theorem Code8.below {w w' : World} {a : Option Addr} {len : Nat} {zs : List Int} (h : Code8 w a len zs) (k : Below w.heap.size w w') : Code8 w' a len zs := by
  rcases h with h | ⟨xb, xo, ha, hb, hs, hc⟩
  · exact .inl h
  · have := k.size
    exact .inr ⟨xb, xo, ha, by omega, by omega, fun i hi => ⟨(hc i hi).1, (k.cell (p := ⟨xb, xo + i, none⟩) hs).trans (hc i hi).2⟩⟩

end Go.Proofs.YtigdepahbnidjaaGreat

namespace Go.Proofs.YtigdepahbnidjaaGreat
open Go.RowKit
set_option linter.unusedVariables false

/-- What the frame knows of a slice of bytes. -/
theorem code8_from {w : World} {a : Option Addr} {len cap : Nat} {zs : List Int}
    (h : (a = none ∧ len = 0 ∧ cap = 0 ∧ zs = []) ∨ ∃ x, a = some x ∧ len ≤ cap ∧ cap ≤ maxLen ∧ zs.length = cap ∧ (∀ i, i < zs.length → w.cell? (x.add i) = some (.int .u8 (zs.getD i 0))) ∧ ∀ n ∈ zs, (Lit.int .u8 n).wf = true) :
    Code8 w a len zs ∧ len ≤ 9223372036854775807 := by
  rcases h with ⟨rfl, rfl, rfl, rfl⟩ | ⟨x, rfl, h1, h2, h3, h4, h5⟩
  · exact ⟨.inl rfl, by omega⟩
  · unfold maxLen at h2
    refine ⟨?_, by omega⟩
    by_cases h0 : len = 0
    · exact .inl h0
    · obtain ⟨xb, off, rfl, hc⟩ := ints_at h4 (by omega)
      have hlt : xb < w.heap.size := World.block_lt_of_cell? w ⟨xb, off + 0, none⟩ (hc 0 (by omega))
      refine .inr ⟨xb, off, rfl, hlt, hlt, fun i hi => ⟨?_, hc i (by omega)⟩⟩
      have hm : zs.getD i 0 ∈ zs := by rw [getD_at (by omega : i < zs.length)]; exact List.getElem_mem _
      have hw := h5 _ hm
      generalize zs.getD i 0 = n at hw
      simp [Lit.wf, IntKind.min, IntKind.max, IntKind.signed, IntKind.bits] at hw
      omega

end Go.Proofs.YtigdepahbnidjaaGreat

namespace Go.Proofs.YtigdepahbnidjaaGreat
open Go.RowKit
set_option linter.unusedVariables false

theorem plus_vec7 {p : Int} {n : Nat} {u v : List Int} (hp : 0 < p) (k : Int) (hv : v.length = n) : isVec p n (plusR p v u k) = true := by
  refine isVec_iff.2 ⟨by unfold plusR; rw [mkR_len]; exact hv, ?_⟩
  rw [List.all_eq_true]
  intro y hy
  obtain ⟨j, hj, rfl⟩ := List.getElem_of_mem hy
  rw [← getD_at hj]
  have hj' : j < v.length := by unfold plusR at hj; rw [mkR_len] at hj; exact hj
  unfold plusR
  rw [mkR_at _ hj']
  exact inr_iff.2 ⟨Int.emod_nonneg _ (by omega), Int.emod_lt_of_pos _ hp⟩
theorem rfl_vec7 {p : Int} {S u v : List Int} (hp : 0 < p) (hv : isVec p S.length v = true) : isVec p S.length (rflM p S u v) = true := plus_vec7 hp _ (isVec_iff.1 hv).len
/-- Reflections keep norms. -/
theorem rf_keeps {p : Int} {S u v : List Int} (hp : prm p = true) (hv : isVec p S.length v = true) (h0 : pairN p S u u ≠ 0) : pairN p S (rflM p S u v) (rflM p S u v) = pairN p S v v := by
  have hb := prm_bd hp
  have hl := (isVec_iff.1 hv).len
  have hNb := pairN_bd7 (p := p) (S := S) (u := u) (v := u) (by omega)
  have hI : pairN p S u u * inv p (pairN p S u u) % p = 1 := inv_mul hp (by omega) hNb.2
  unfold rflM
  rw [pairN_lin hl, pairN_comm p S v, pairN_comm p S u (plusR _ _ _ _), pairN_lin hl, pairN_lin hl, pairN_comm p S v u]
  have hvv := pairN_bd7 (p := p) (S := S) (u := v) (v := v) (by omega)
  obtain ⟨V, hV⟩ : ∃ V, V = pairN p S v v := ⟨_, rfl⟩
  obtain ⟨A, hA⟩ : ∃ A, A = pairN p S u v := ⟨_, rfl⟩
  obtain ⟨N, hN⟩ : ∃ N, N = pairN p S u u := ⟨_, rfl⟩
  rw [← hV] at hvv ⊢
  rw [← hN] at hI hNb h0 ⊢
  rw [← hA]
  have hA2 : 0 ≤ A ∧ A < p := by rw [hA]; exact pairN_bd7 (by omega)
  clear hV hA hN
  have := every2_at (Q := fun p A N => decide (N ≠ 0 → (rfK p A N * A + rfK p A N * ((A + rfK p A N * N) % p)) % p = 0)) (by decide +kernel) hp hA2.1 hA2.2 hNb.1 hNb.2
  simp only [decide_eq_true_eq] at this
  have h1 := this h0
  rw [Int.emod_add_emod, Int.add_assoc, Int.add_emod, h1, Int.add_zero, Int.emod_emod, Int.emod_eq_of_lt hvv.1 hvv.2]
end Go.Proofs.YtigdepahbnidjaaGreat

namespace Go.Proofs.YtigdepahbnidjaaGreat
open Go.RowKit
set_option linter.unusedVariables false

/-- The difference and the sum. -/
def dfM (p : Int) (u v : List Int) : List Int := plusR p v u (p - 1)
def smM7 (p : Int) (u v : List Int) : List Int := plusR p v u 1
theorem plus_vec {p : Int} {n : Nat} {u v : List Int} (hp : 0 < p) (k : Int) (hv : v.length = n) : isVec p n (plusR p v u k) = true := by
  refine isVec_iff.2 ⟨by unfold plusR; rw [mkR_len]; exact hv, ?_⟩
  rw [List.all_eq_true]
  intro y hy
  obtain ⟨j, hj, rfl⟩ := List.getElem_of_mem hy
  rw [← getD_at hj]
  have hj' : j < v.length := by unfold plusR at hj; rw [mkR_len] at hj; exact hj
  unfold plusR
  rw [mkR_at _ hj']
  exact inr_iff.2 ⟨Int.emod_nonneg _ (by omega), Int.emod_lt_of_pos _ hp⟩
theorem plus_len (p k : Int) (u v : List Int) : (plusR p v u k).length = v.length := mkR_len _ _
theorem dfM_len (p : Int) (u v : List Int) : (dfM p u v).length = v.length := mkR_len _ _
theorem smM7_len (p : Int) (u v : List Int) : (smM7 p u v).length = v.length := mkR_len _ _
end Go.Proofs.YtigdepahbnidjaaGreat

namespace Go.Proofs.YtigdepahbnidjaaGreat
open Go.RowKit
set_option linter.unusedVariables false

/-- The norm of the difference and its product with the first vector, from (u,v) = A and the norms N. -/
def dN (p A N : Int) : Int := ((N + (p - 1) * A) % p + (p - 1) * ((A + (p - 1) * N) % p)) % p
def sN (p A N : Int) : Int := ((N + 1 * A) % p + 1 * ((A + 1 * N) % p)) % p
theorem df_norm {p : Int} {S u v : List Int} (hu : u.length = S.length) (hv : v.length = S.length) (he : pairN p S u u = pairN p S v v) : pairN p S (dfM p u v) (dfM p u v) = dN p (pairN p S u v) (pairN p S u u) ∧ pairN p S (dfM p u v) u = (pairN p S u v + (p - 1) * pairN p S u u) % p := by
  unfold dfM dN
  constructor
  · rw [pairN_lin hv, pairN_comm p S v, pairN_comm p S u (plusR _ _ _ _), pairN_lin hv, pairN_lin hv, pairN_comm p S v u, ← he]
  · rw [pairN_lin hv, pairN_comm p S v u]
theorem sm_norm {p : Int} {S u v : List Int} (hu : u.length = S.length) (hv : v.length = S.length) (he : pairN p S u u = pairN p S v v) : pairN p S (smM7 p u v) (smM7 p u v) = sN p (pairN p S u v) (pairN p S u u) ∧ pairN p S (smM7 p u v) u = (pairN p S u v + 1 * pairN p S u u) % p := by
  unfold smM7 sN
  constructor
  · rw [pairN_lin hv, pairN_comm p S v, pairN_comm p S u (plusR _ _ _ _), pairN_lin hv, pairN_lin hv, pairN_comm p S v u, ← he]
  · rw [pairN_lin hv, pairN_comm p S v u]
theorem rf_minus {p A N : Int} (hp : prm p = true) (h0 : 0 ≤ A) (h1 : A < p) (k0 : 0 ≤ N) (k1 : N < p) (h : dN p A N = 0) (hN : N ≠ 0) : sN p A N ≠ 0 ∧ rfK p ((A + 1 * N) % p) (sN p A N) = p - 1 ∧ rfK p (N * (p - 1) % p) N = 2 := by
  have := every2_at (Q := fun p A N => decide (dN p A N = 0 → N ≠ 0 → sN p A N ≠ 0 ∧ rfK p ((A + 1 * N) % p) (sN p A N) = p - 1 ∧ rfK p (N * (p - 1) % p) N = 2)) (by decide +kernel) hp h0 h1 k0 k1
  simp only [decide_eq_true_eq] at this
  exact this h hN
end Go.Proofs.YtigdepahbnidjaaGreat

namespace Go.Proofs.YtigdepahbnidjaaGreat
open Go.RowKit
set_option linter.unusedVariables false

/-- The outer list lies at the head of block b, the rows in blocks of numbers from lo on. -/
structure TopM (lo : Nat) (w : World) (b : Nat) (m : List (List Int)) : Prop where
  lob : lo ≤ b
  tag : ∃ cur, w.heap[b]? = some (.cells cur 22 (0, 0))
  row : ∀ i, i < m.length → ∃ r c, w.cell? ⟨b, i, none⟩ = some (.slice r (rw' m i).length c) ∧ TagR lo w.heap.size w r (rw' m i)
theorem TopM.lt {lo : Nat} {w : World} {b : Nat} {m : List (List Int)} (h : TopM lo w b m) : b < w.heap.size := by
  obtain ⟨cur, hb⟩ := h.tag
  exact (Array.getElem?_eq_some_iff.1 hb).1
theorem TopM.free {lo : Nat} {w : World} {b : Nat} {m : List (List Int)} (h : TopM lo w b m) (j : Nat) : w.frozen? ⟨b, j, none⟩ = false := by
  obtain ⟨cur, hb⟩ := h.tag
  exact free_of hb j
theorem TopM.below {lo : Nat} {w w' : World} {b : Nat} {m : List (List Int)} (h : TopM lo w b m) (hb : Below w.heap.size w w') : TopM lo w' b m where
  lob := h.lob
  tag := by obtain ⟨cur, hc⟩ := h.tag; exact ⟨cur, (hb.block b h.lt).trans hc⟩
  row i hi := by
    obtain ⟨r, c, h1, h2⟩ := h.row i hi
    exact ⟨r, c, (hb.cell (p := ⟨b, i, none⟩) h.lt).trans h1, h2.below hb (Nat.le_refl _) (Nat.le_refl _) hb.size⟩
theorem TopM.mono {lo lo' : Nat} {w : World} {b : Nat} {m : List (List Int)} (h : TopM lo w b m) (hl : lo' ≤ lo) : TopM lo' w b m where
  lob := Nat.le_trans hl h.lob
  tag := h.tag
  row i hi := by
    obtain ⟨r, c, h1, h2⟩ := h.row i hi
    exact ⟨r, c, h1, h2.block hl (Nat.le_refl _) (fun _ _ _ _ _ => rfl)⟩
theorem TopM.mat {lo : Nat} {w : World} {b : Nat} {m : List (List Int)} (h : TopM lo w b m) : MatIn lo w.heap.size w (some ⟨b, 0, none⟩) m :=
  .inr ⟨b, 0, rfl, h.lob, h.lt, fun i hi => by
    obtain ⟨r, c, h1, h2⟩ := h.row i hi
    exact ⟨r, c, by rw [Nat.zero_add]; exact h1, h2.row⟩⟩
theorem rw_set {m : List (List Int)} {i j : Nat} (z : List Int) (hi : i < m.length) : rw' (m.set i z) j = if j = i then z else rw' m j := by
  simp only [rw', List.getD_eq_getElem?_getD, List.getElem?_set]
  by_cases e : j = i
  · subst e; simp [hi]
  · rw [if_neg (fun h => e h.symm), if_neg e]
/-- Another row is put in the place of row i. -/
theorem TopM.set {lo : Nat} {w : World} {b i : Nat} {m : List (List Int)} {r : Option Addr} {z : List Int} {c : Nat} (h : TopM lo w b m) (hi : i < m.length) (hz : TagR lo w.heap.size w r z) :
    TopM lo (w.setCell ⟨b, i, none⟩ (.slice r z.length c)) b (m.set i z) := by
  obtain ⟨cur, hcur⟩ := h.tag
  have hsz : (w.setCell ⟨b, i, none⟩ (.slice r z.length c)).heap.size = w.heap.size := by simp [World.setCell]
  have keep : ∀ k cur', w.heap[k]? = some (Obj.cells cur' 2 (0, 0)) → (w.setCell ⟨b, i, none⟩ (.slice r z.length c)).heap[k]? = w.heap[k]? := fun k cur' hk =>
    Below.heap_setCell _ _ _ _ (fun e => by have e1 : k = b := e; subst e1; rw [hcur] at hk; simp at hk)
  obtain ⟨r0, c0, g0, _⟩ := h.row i hi
  refine ⟨h.lob, ⟨cur.setIfInBounds i (.slice r z.length c), by simp [World.setCell, Array.getElem?_modify, hcur]⟩, fun j hj => ?_⟩
  rw [List.length_set] at hj
  rw [rw_set z hi, hsz]
  by_cases e : j = i
  · subst e
    rw [if_pos rfl]
    exact ⟨r, c, World.cell?_setCell_same w _ _ g0, hz.block (Nat.le_refl _) (Nat.le_refl _) (fun k cur' _ _ hk => keep k cur' hk)⟩
  · rw [if_neg e]
    obtain ⟨r1, c1, g1, g2⟩ := h.row j hj
    exact ⟨r1, c1, (World.cell?_setCell_other _ _ _ _ (fun e2 => e (by injection e2 with _ e3; exact e3.symm))).trans g1, g2.block (Nat.le_refl _) (Nat.le_refl _) (fun k cur' _ _ hk => keep k cur' hk)⟩
theorem OutM.top {B : Nat} {w : World} {v : Value} {m : List (List Int)} (h : OutM B w v m) (h0 : 0 < m.length) : ∃ b c, v = .slice (some ⟨b, 0, none⟩) m.length c ∧ m.length ≤ c ∧ c ≤ maxLen ∧ TopM B w b m := by
  obtain ⟨vals, ho, hr⟩ := h
  rcases ho.2 with ⟨rfl, hn⟩ | ⟨g, cap, cur, rfl, hb, hg, hnc, hcm, hcs, htake⟩
  · omega
  · refine ⟨g, cap, rfl, hnc, hcm, hb, ⟨cur, hg⟩, fun i hi => ?_⟩
    obtain ⟨r, c, h1, h2⟩ := hr i hi
    refine ⟨r, c, ?_, h2⟩
    have := ho.cells (g := g) rfl i _ h1
    rwa [Addr.add_lit, Nat.zero_add] at this

theorem TagR.setTop {lo lo' tp : Nat} {w : World} {b i : Nat} {m : List (List Int)} {r : Option Addr} {z : List Int} {v : Value} (h : TopM lo w b m) (hz : TagR lo' tp w r z) : TagR lo' tp (w.setCell ⟨b, i, none⟩ v) r z := by
  obtain ⟨cur, hcur⟩ := h.tag
  exact hz.block (Nat.le_refl _) (Nat.le_refl _) (fun k cur' _ _ hk => Below.heap_setCell _ _ _ _ (fun e => by have e1 : k = b := e; subst e1; rw [hcur] at hk; simp at hk))

end Go.Proofs.YtigdepahbnidjaaGreat

namespace Go.Proofs.YtigdepahbnidjaaGreat
open Go.RowKit
set_option linter.unusedVariables false

/-- What stands in the rows when row d is scaled and the first i are done. -/
def sig (d f i : Nat) : Nat := if i = f then d else i
def scaled (p : Int) (m : List (List Int)) (f k : Nat) : List Int := sclR p (rw' m f) (inv p (at' m f k))
def doneRow (p : Int) (m : List (List Int)) (d f k i : Nat) : List Int := if i = d then scaled p m f k else plusR p (rw' m (sig d f i)) (scaled p m f k) ((p - at' m (sig d f i) k) % p)
def midRow (p : Int) (m : List (List Int)) (d f k i : Nat) : List Int := if i = d then scaled p m f k else rw' m (sig d f i)
def rowsAt (p : Int) (m : List (List Int)) (d f k i : Nat) : List (List Int) := (List.range m.length).map fun j => if j < i then doneRow p m d f k j else midRow p m d f k j
theorem rowsAt_len (p : Int) (m : List (List Int)) (d f k i : Nat) : (rowsAt p m d f k i).length = m.length := by simp [rowsAt]
theorem rowsAt_row {p : Int} {m : List (List Int)} {d f k i j : Nat} (h : j < m.length) : rw' (rowsAt p m d f k i) j = if j < i then doneRow p m d f k j else midRow p m d f k j := by simp [rowsAt, rw', List.getD, h]
theorem ColAt.rows {p : Int} {c : Nat} {A m : List (List Int)} {d k f : Nat} {P : Nat → Nat} (hp : prm p = true) (h : ColAt p c A m d k P) (hk : k < c) (hdf : d ≤ f) (hf : f < m.length) (ha : 1 ≤ at' m f k) :
    ColAt p c A (rowsAt p m d f k m.length) (d + 1) (k + 1) (fun i => if i = d then k else P i) := by
  have hL : ∀ i, i < m.length → rw' (rowsAt p m d f k m.length) i = doneRow p m d f k i := fun i hi => by rw [rowsAt_row hi, if_pos hi]
  have hsig : ∀ i, i < m.length → sig d f i < m.length := fun i hi => by unfold sig; split <;> omega
  have hdm : d < m.length := by omega
  have hS : (scaled p m f k).length = c := by unfold scaled sclR; rw [mkR_len, h.len f hf]
  refine h.pick hp hk hdf hf ha (rowsAt_len _ _ _ _ _ _) (fun i hi => ?_) (fun j hj => ?_) (fun i hi hne j hj => ?_)
  · rw [rowsAt_len] at hi
    rw [hL i hi]
    unfold doneRow
    split
    · exact hS
    · unfold plusR; rw [mkR_len]; exact h.len _ (hsig i hi)
  · have e : at' (rowsAt p m d f k m.length) d j = (scaled p m f k).getD j 0 := by unfold at'; rw [hL d hdm]; unfold doneRow; rw [if_pos rfl]
    rw [e]
    unfold scaled sclR
    rw [mkR_at _ (by rw [h.len f hf]; exact hj)]; rfl
  · have e : at' (rowsAt p m d f k m.length) i j = (plusR p (rw' m (sig d f i)) (scaled p m f k) ((p - at' m (sig d f i) k) % p)).getD j 0 := by unfold at'; rw [hL i hi]; unfold doneRow; rw [if_neg hne]; rfl
    have e2 : at' (rowsAt p m d f k m.length) d j = (scaled p m f k).getD j 0 := by unfold at'; rw [hL d hdm]; unfold doneRow; rw [if_pos rfl]
    rw [e, e2]
    unfold plusR
    rw [mkR_at _ (by rw [h.len _ (hsig i hi)]; exact hj)]; rfl

end Go.Proofs.YtigdepahbnidjaaGreat

namespace Go.Proofs.YtigdepahbnidjaaGreat
open Go.RowKit
set_option linter.unusedVariables false

/-- A row of n numbers in new memory is handed back. -/
def NewL (n : Nat) (z : List Int) (w : World) (e : Ending) (w' : World) : Prop :=
  z.length = n ∧ ∃ r c, e = .returned (.slice r n c) ∧ TagR w.heap.size w'.heap.size w' r z ∧ Below w.heap.size w w'
theorem NewR.l {n : Nat} {z : List Int} {w w' : World} {e : Ending} (h : NewR z w e w') (hn : z.length = n) : NewL n z w e w' := by
  subst hn; exact ⟨rfl, h⟩
theorem l02Plus_n (p k : Int) (a b : Option Addr) (za zb : List Int) (n ca cb lo tp lo' tp' : Nat) (w : World) (hp : prm p = true) (ha : RowIn lo tp w a za) (hb : RowIn lo' tp' w b zb) (ht : tp ≤ w.heap.size) (ht' : tp' ≤ w.heap.size)
    (hn : za.length = n) (hn' : zb.length = n) (hs : n ≤ 1048576) (hna : ∀ j, j < n → 0 ≤ za.getD j 0 ∧ za.getD j 0 < p) (hnb : ∀ j, j < n → 0 ≤ zb.getD j 0 ∧ zb.getD j 0 < p) (k0 : 0 ≤ k) (k1 : k ≤ p) :
    Calls Tryz.prog 36 #[.int .i64 p, .slice a n ca, .slice b n cb, .int .i64 k] w (NewL n (plusR p za zb k) w) := by
  subst hn
  have h := l02Plus_any p k a b za zb ca cb lo tp lo' tp' w hp ha hb ht ht' (by omega) hs hna (fun j hj => hnb j (by omega)) k0 k1
  rw [hn'] at h
  exact h.mono (fun e w' h => h.l (by unfold plusR; rw [mkR_len]))
theorem TopM.setn {lo n : Nat} {w : World} {b i : Nat} {m : List (List Int)} {r : Option Addr} {z : List Int} {c : Nat} (h : TopM lo w b m) (hi : i < m.length) (hn : z.length = n) (hz : TagR lo w.heap.size w r z) :
    TopM lo (w.setCell ⟨b, i, none⟩ (.slice r n c)) b (m.set i z) := by
  subst hn; exact h.set hi hz
theorem TagR.keepTop {lo : Nat} {w : World} {b i : Nat} {m : List (List Int)} {r : Option Addr} {z : List Int} {v : Value} (h : TopM lo w b m) (hz : TagR lo w.heap.size w r z) : TagR lo (w.setCell ⟨b, i, none⟩ v).heap.size (w.setCell ⟨b, i, none⟩ v) r z := by
  have hsz : (w.setCell ⟨b, i, none⟩ v).heap.size = w.heap.size := by simp [World.setCell]
  rw [hsz]
  exact hz.setTop h

/-- From row d to row f column k is zero. -/
def Zer (m : List (List Int)) (k d f : Nat) : Prop := ∀ i, d ≤ i → i < f → at' m i k = 0

theorem below_top {B b i : Nat} {w w' : World} {v : Value} (h : B ≤ b) (hb : Below B w w') : Below B w (w'.setCell ⟨b, i, none⟩ v) := Below.setCell hb (show B ≤ (⟨b, i, none⟩ : Addr).block from h) v
end Go.Proofs.YtigdepahbnidjaaGreat

namespace Go.Proofs.YtigdepahbnidjaaGreat
open Go.RowKit
set_option linter.unusedVariables false

open Classical in
/-- The reduced basis of what the rows make. -/
noncomputable def bas (p : Int) (A : List (List Int)) : List (List Int) := if h : ∃ m, IsBas p (rw' A 0).length A m then Classical.choose h else []
theorem bas_eq {p : Int} {A m : List (List Int)} (hp : 1 < p) (h : IsBas p (rw' A 0).length A m) : m = bas p A := by
  unfold bas
  rw [dif_pos ⟨m, h⟩]
  exact h.unique hp (Classical.choose_spec (⟨m, h⟩ : ∃ m, IsBas p (rw' A 0).length A m))
theorem bas_nil {p : Int} (hp : 1 < p) : bas p [] = [] := by
  refine (bas_eq hp (m := []) ⟨fun i hi => by simp at hi, ⟨fun _ => 0, ?_⟩, fun x => Iff.rfl⟩).symm
  constructor <;> intros <;> simp at * <;> omega
theorem Rref.rows_le {p : Int} {n c : Nat} {R : Nat → Nat → Int} {P : Nat → Nat} (h : Rref p n c R P) : n ≤ c := by
  have key : ∀ i, i < n → i ≤ P i := by
    intro i
    induction i with
    | zero => intro _; exact Nat.zero_le _
    | succ i ih => intro hi; have := ih (by omega); have := h.mono i (i + 1) (by omega) hi; omega
  by_cases h0 : n = 0
  · omega
  · have := key (n - 1) (by omega); have := h.pv (n - 1) (by omega); omega
end Go.Proofs.YtigdepahbnidjaaGreat
