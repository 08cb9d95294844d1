/-
  Draws of lists and vectors: contracts.
  Conditions: the source stands in a block of known cells.
  Draws of vectors: contracts.
  Conditions: the source stands in a block of known cells.
  Draws of spaces: contracts.
  Conditions: the source stands in a block of known cells.
  Draws of spaces, and of what is none: contracts.
  Conditions: the source stands in a block of known cells.
  What the laws' draws are: a number in its range.
  Conditions: the source is one, of at most 4096 bytes.
  The dice of the laws, made of a code.
  Conditions: the code is a row of at most 4096 known bytes.
  The draw of a space and two lists: contract.
  Conditions: the code is nil or a row of known bytes, of at most 4096.
  Bounds of whole numbers of 64 bits, and what the model's remainder is.
  Conditions: the prime is one.
  What the model draws for pairs of numbers, and the law's own remainder.
  Conditions: the code is a row of at most 4096 known bytes; the prime of a remainder is one.
  Helpers of the laws with draws: contracts.
  Conditions: lists are nil or rows of known cells.
  size5, times5, vector5, plus5: contracts of the program and of the model.
  Conditions: the lists are nil or rows of known cells, of at most 1048576 numbers.
  Products of multivectors: they distribute, and their scalars don't depend on the order of two factors.
  Conditions: none.
  Versors: products of vectors are versors, and their sandwiches the reflections. No Go in sight.
  No conditions.
  Versors: products of vectors are versors, their sandwiches are the reflections, the last one first. No Go in sight.
  No conditions.
  Versors: the sandwich of a product of vectors is the reflections in them, the last one first. No Go in sight.
  No conditions.
  VersorBetween (program): contracts of the program and of the model.
  Conditions: the lists are nil or rows of known cells, of at most 1048576 numbers.
  The versor between two vectors of the same norm leads the one to the other one. No Go in sight.
  No conditions.
  What an isometry is: by columns, and by the program's way. No Go in sight.
  No conditions.
  Orthogonal matrices: decompositions into reflections. No Go in sight.
  No conditions.
-/
import Derived.Test.YtkibkkdeaojjoabQf42
import Derived.Test.YtkibkkdeaojjoabQf7
import Derived.Test.YtkibkkdeaojjoabQf21
import Derived.Test.YtkibkkdeaojjoabQf34
import Derived.Deep.DeepCutAuto
import Derived.Deep.RegionHeld3
import Derived.Test.YtkibkkdeaojjoabRows
import Derived.LoopTactic
import Derived.Lib.Hide
import Derived.BigQuiet
import Derived.Deep.QuietTactic
import Derived.Laws.Bits64
import Derived.Laws.BitsAllLaws
import Derived.Test.YtkibkkdeaojjoabQf3
import Derived.Test.YtkibkkdeaojjoabQf4
import Derived.Test.YtkibkkdeaojjoabQf8
import Derived.Test.YtkibkkdeaojjoabQf38
import Derived.Test.YtkibkkdeaojjoabQf37
import Derived.Test.YtkibkkdeaojjoabQf36
import Derived.Test.YtkibkkdeaojjoabQf40
import Derived.Test.YtkibkkdeaojjoabQf16
namespace Go.Proofs.Ytkibkkdeaojjoab
open Go.RowKit
set_option linter.unusedVariables false

theorem Src.lt {w : World} {b : Nat} {a : Option Addr} {len cap : Nat} {zs : List Int} (h : Src w b a len cap zs) : b < w.heap.size := by
  obtain ⟨k, x, s⟩ := h
  exact s.lt
/-- Changes at a later block leave the source as it is. -/
theorem Src.far {w w' : World} {b k : Nat} {a : Option Addr} {len cap : Nat} {zs : List Int} (h : Src w b a len cap zs) (ho : Only k w w') (hk : b < k) : Src w' b a len cap zs := by
  obtain ⟨n, x, lt, c0, c1, c2, f1, f2, le, sm, by_⟩ := h
  have hne : b ≠ k := by omega
  refine ⟨n, x, Nat.lt_of_lt_of_le lt ho.size, (ho.cell (p := ⟨b, 0, none⟩) lt hne).trans c0, (ho.cell (p := ⟨b, 1, none⟩) lt hne).trans c1, (ho.cell (p := ⟨b, 2, none⟩) lt hne).trans c2, (ho.frozen (p := ⟨b, 1, none⟩) lt hne).trans f1, (ho.frozen (p := ⟨b, 2, none⟩) lt hne).trans f2, le, sm, ?_⟩
  rcases by_ with h | ⟨xb, xo, ha, hb, hs, hc⟩
  · exact .inl h
  · exact .inr ⟨xb, xo, ha, hb, Nat.lt_of_lt_of_le hs ho.size, fun i hi => ⟨(hc i hi).1, (ho.cell (p := ⟨xb, xo + i, none⟩) hs (by show xb ≠ k; omega)).trans (hc i hi).2⟩⟩
theorem only_of {w w' : World} {row : Option Nat} (h : w.grownBy w' row) {B : Nat} (hr : ∀ k, row = some k → B ≤ k) (hB : B ≤ w.heap.size) : ∃ k, B ≤ k ∧ Only k w w' := by
  cases row with
  | none => exact ⟨w.heap.size, hB, h.os, h.tape, h.output, h.size, fun k hk _ => h.block k hk (by simp)⟩
  | some g => exact ⟨g, hr g rfl, h.os, h.tape, h.output, h.size, fun k hk hne => h.block k hk (by simp; exact fun e => hne e)⟩
theorem Src.grown {w w' : World} {b : Nat} {a : Option Addr} {len cap : Nat} {zs : List Int} {row : Option Nat} (h : Src w b a len cap zs) (hg : w.grownBy w' row) (hr : ∀ k, row = some k → b < k) : Src w' b a len cap zs := by
  obtain ⟨k, hk, ho⟩ := only_of hg (B := b + 1) (fun k e => hr k e) h.lt
  exact h.far ho hk
theorem Only.grown {b : Nat} {u v w : World} {row : Option Nat} (h : Only b u v) (hg : v.grownBy w row) (hr : ∀ k, row = some k → u.heap.size ≤ k) : Only b u w :=
  ⟨hg.os.trans h.os, hg.tape.trans h.tape, hg.output.trans h.output, Nat.le_trans h.size hg.size, fun k hk hne => (hg.block k (Nat.lt_of_lt_of_le hk h.size) (by
    cases row with
    | none => simp
    | some g => simp; intro e; have := hr g rfl; omega)).trans (h.block k hk hne)⟩
theorem OutR.only {B k : Nat} {w w' : World} {v : Value} {zs : List Int} (h : OutR B w v zs) (ho : Only k w w') (hk : k < B) : OutR B w' v zs :=
  World.ownsRow.kept h ⟨ho.os, ho.tape, ho.output, ho.size, fun j hj hne => ho.block j hj (fun e => hne (by rw [e]))⟩ (by
    cases hv : v.ownBlock with
    | none => exact .inl rfl
    | some g => exact .inr (by intro e; injection e with e; have := (World.ownsRow.lt h g hv).1; omega))
theorem OutR.push {B : Nat} {w : World} {v : Value} {X : List Int} {x : Int} (h : w.ownsRow B 2 1 v (X.length + 1) (X.map (Value.int .i64) ++ [.int .i64 x])) : OutR B w v (X ++ [x]) := by
  unfold OutR
  rw [List.length_append, List.map_append]
  exact h

end Go.Proofs.Ytkibkkdeaojjoab

namespace Go.Proofs.Ytkibkkdeaojjoab
open Go.RowKit
set_option linter.unusedVariables false

/-- Two cells of a struct that may be written. -/
def L2 (w : World) (g : Nat) (u v : Value) : Prop := w.cell? ⟨g, 0, none⟩ = some u ∧ w.cell? ⟨g, 1, none⟩ = some v ∧ w.frozen? ⟨g, 0, none⟩ = false ∧ w.frozen? ⟨g, 1, none⟩ = false
theorem L2.only {w w' : World} {k g : Nat} {u v : Value} (h : L2 w g u v) (ho : Only k w w') (l : g < w.heap.size) (hne : g ≠ k) : L2 w' g u v :=
  ⟨(ho.cell (p := ⟨g, 0, none⟩) l hne).trans h.1, (ho.cell (p := ⟨g, 1, none⟩) l hne).trans h.2.1, (ho.frozen (p := ⟨g, 0, none⟩) l hne).trans h.2.2.1, (ho.frozen (p := ⟨g, 1, none⟩) l hne).trans h.2.2.2⟩
theorem L2.below {w w' : World} {g : Nat} {u v : Value} (h : L2 w g u v) (ho : Below w.heap.size w w') (l : g < w.heap.size) : L2 w' g u v :=
  ⟨(ho.cell (p := ⟨g, 0, none⟩) l).trans h.1, (ho.cell (p := ⟨g, 1, none⟩) l).trans h.2.1, (ho.frozen (p := ⟨g, 0, none⟩) l).trans h.2.2.1, (ho.frozen (p := ⟨g, 1, none⟩) l).trans h.2.2.2⟩
theorem L2.alloc {w : World} {g : Nat} {u v : Value} (h : L2 w g u v) (o : Obj) (l : g < w.heap.size) : L2 (w.alloc o) g u v := h.below (below_alloc w o) l
theorem L2.grown {w w' : World} {row : Option Nat} {g : Nat} {u v : Value} (h : L2 w g u v) (hg : w.grownBy w' row) (l : g < w.heap.size) (hr : ∀ k, row = some k → g < k) : L2 w' g u v := by
  obtain ⟨k, hk, ho⟩ := only_of hg (B := g + 1) (fun k e => hr k e) l
  exact h.only ho l (by omega)
theorem L2.new (w : World) (u v : Value) (T : TypeId) : L2 (w.alloc (.cells #[u, v] T)) w.heap.size u v := by
  refine ⟨?_, ?_, ?_, ?_⟩ <;> simp [go_sem]
theorem L2.far {w : World} {g k i : Nat} {u v : Value} (h : L2 w g u v) (x : Value) (hne : g ≠ k) : L2 (w.setCell ⟨k, i, none⟩ x) g u v :=
  ⟨(World.cell?_setCell_other _ ⟨k, i, none⟩ ⟨g, 0, none⟩ _ (fun e => by injection e with e1; omega)).trans h.1, (World.cell?_setCell_other _ ⟨k, i, none⟩ ⟨g, 1, none⟩ _ (fun e => by injection e with e1; omega)).trans h.2.1, by simp [go_sem, h.2.2.1], by simp [go_sem, h.2.2.2]⟩
theorem OutR.base {B B' : Nat} {w : World} {v : Value} {zs : List Int} (h : OutR B w v zs) (hB : B' ≤ B) : OutR B' w v zs :=
  ⟨h.1, h.2.imp id (fun ⟨g, cap, cur, e, hb, r⟩ => ⟨g, cap, cur, e, Nat.le_trans hB hb, r⟩)⟩
theorem OutR.nil (w : World) (B : Nat) : OutR B w (.slice none 0 0) [] := ⟨rfl, .inl ⟨rfl, rfl⟩⟩
theorem OutR.put {B k i : Nat} {w : World} {v : Value} {zs : List Int} (h : OutR B w v zs) (x : Value) (hk : k < B) : OutR B (w.setCell ⟨k, i, none⟩ x) v zs :=
  h.only (Only.set k i w x) hk
theorem OutR.alloc {B : Nat} {w : World} {v : Value} {zs : List Int} (h : OutR B w v zs) (o : Obj) : OutR B (w.alloc o) v zs := h.below (below_alloc w o)
theorem OutR.drew {B : Nat} {w : World} {v : Value} {zs : List Int} (h : OutR B w v zs) : OutR B w.drew v zs := h.below (below_drew w)

end Go.Proofs.Ytkibkkdeaojjoab

namespace Go.Proofs.Ytkibkkdeaojjoab
open Go.RowKit
set_option linter.unusedVariables false

theorem OutR.rowIn {B : Nat} {w : World} {r : Option Addr} {n c : Nat} {zs : List Int} (h : OutR B w (.slice r n c) zs) : RowIn B w.heap.size w r zs := by
  obtain ⟨a, d, e, ht⟩ := h.tag
  injection e with e1 e2 e3
  subst e1
  exact ht.row
theorem RowIn.far {lo tp k i : Nat} {w : World} {r : Option Addr} {zs : List Int} (h : RowIn lo tp w r zs) (x : Value) (hk : k < lo ∨ tp ≤ k) : RowIn lo tp (w.setCell ⟨k, i, none⟩ x) r zs :=
  h.same (fun j j0 j1 => Below.heap_setCell _ _ _ _ (by show j ≠ k; omega))
theorem RowIn.only {lo tp k : Nat} {w w' : World} {r : Option Addr} {zs : List Int} (h : RowIn lo tp w r zs) (ho : Only k w w') (hk : k < lo ∨ tp ≤ k) (ht : tp ≤ w.heap.size) : RowIn lo tp w' r zs :=
  h.same (fun j j0 j1 => ho.block j (Nat.lt_of_lt_of_le j1 ht) (by omega))
end Go.Proofs.Ytkibkkdeaojjoab

namespace Go.Proofs.Ytkibkkdeaojjoab
open Go.RowKit
set_option linter.unusedVariables false

theorem Code8.below {w w' : World} {a : Option Addr} {len : Nat} {zs : List Int} (h : Code8 w a len zs) (k : Below w.heap.size w w') : Code8 w' a len zs := by
  rcases h with h | ⟨xb, xo, ha, hb, hs, hc⟩
  · exact .inl h
  · have := k.size
    exact .inr ⟨xb, xo, ha, by omega, by omega, fun i hi => ⟨(hc i hi).1, (k.cell (p := ⟨xb, xo + i, none⟩) hs).trans (hc i hi).2⟩⟩

end Go.Proofs.Ytkibkkdeaojjoab

namespace Go.Proofs.Ytkibkkdeaojjoab
open Go.RowKit
set_option linter.unusedVariables false

/-- What the frame knows of a slice of bytes. -/
theorem code8_from {w : World} {a : Option Addr} {len cap : Nat} {zs : List Int}
    (h : (a = none ∧ len = 0 ∧ cap = 0 ∧ zs = []) ∨ ∃ x, a = some x ∧ len ≤ cap ∧ cap ≤ maxLen ∧ zs.length = cap ∧ (∀ i, i < zs.length → w.cell? (x.add i) = some (.int .u8 (zs.getD i 0))) ∧ ∀ n ∈ zs, (Lit.int .u8 n).wf = true) :
    Code8 w a len zs ∧ len ≤ 9223372036854775807 := by
  rcases h with ⟨rfl, rfl, rfl, rfl⟩ | ⟨x, rfl, h1, h2, h3, h4, h5⟩
  · exact ⟨.inl rfl, by omega⟩
  · unfold maxLen at h2
    refine ⟨?_, by omega⟩
    by_cases h0 : len = 0
    · exact .inl h0
    · obtain ⟨xb, off, rfl, hc⟩ := ints_at h4 (by omega)
      have hlt : xb < w.heap.size := World.block_lt_of_cell? w ⟨xb, off + 0, none⟩ (hc 0 (by omega))
      refine .inr ⟨xb, off, rfl, hlt, hlt, fun i hi => ⟨?_, hc i (by omega)⟩⟩
      have hm : zs.getD i 0 ∈ zs := by rw [getD_at (by omega : i < zs.length)]; exact List.getElem_mem _
      have hw := h5 _ hm
      generalize zs.getD i 0 = n at hw
      simp [Lit.wf, IntKind.min, IntKind.max, IntKind.signed, IntKind.bits] at hw
      omega

end Go.Proofs.Ytkibkkdeaojjoab

namespace Go.Proofs.Ytkibkkdeaojjoab
open Go.RowKit
set_option linter.unusedVariables false

def wantF (S : List Int) (i k : Nat) : Int := if i = k then S.getD i 0 else 0
/-- The columns have the products of the basis vectors. -/
def colB (p : Int) (S T : List Int) (m : List (List Int)) : Bool := (List.range S.length).all fun i => (List.range (i + 1)).all fun k => decide (pairN p T (rw' (trM m) i) (rw' (trM m) k) = wantF S i k)
theorem colB_iff {p : Int} {S T : List Int} {m : List (List Int)} : colB p S T m = true ↔ ∀ i, i < S.length → ∀ k, k ≤ i → pairN p T (rw' (trM m) i) (rw' (trM m) k) = wantF S i k := by
  unfold colB
  simp only [List.all_eq_true, List.mem_range, decide_eq_true_eq, Nat.lt_succ_iff]
theorem colB_no {p : Int} {S T : List Int} {m : List (List Int)} {i k : Nat} (hi : i < S.length) (hk : k ≤ i) (h : pairN p T (rw' (trM m) i) (rw' (trM m) k) ≠ wantF S i k) : colB p S T m = false := by
  cases e : colB p S T m with
  | false => rfl
  | true => exact absurd (colB_iff.1 e i hi k hk) h
/-- A square matrix of the size of both spaces. -/
def ismF (p q : Int) (S T : List Int) (m : List (List Int)) : Bool := decide (p = q) && decide (T.length = S.length) && decide (m.length = S.length) && isM p m && decide ((rw' m 0).length = S.length)
/-- What is told of an isometry. -/
def ismB (p q : Int) (S T : List Int) (m : List (List Int)) : Bool := ismF p q S T m && decide (detP p m ≠ 0) && colB p S T m
theorem ismF_iff {p q : Int} {S T : List Int} {m : List (List Int)} : ismF p q S T m = true ↔ p = q ∧ T.length = S.length ∧ m.length = S.length ∧ isM p m = true ∧ (rw' m 0).length = S.length := by
  unfold ismF
  simp only [Bool.and_eq_true, decide_eq_true_eq, and_assoc]
theorem one_row {n i : Nat} (hi : i < n) : rw' (oneM n) i = mkR n fun j => if i = j then 1 else 0 := mk_row _ hi
theorem one_pair {p : Int} {S : List Int} (hs : isSp p S = true) {i j : Nat} (hi : i < S.length) (hj : j < S.length) : pairN p S (rw' (oneM S.length) i) (rw' (oneM S.length) j) = wantF S i j := by
  have hp := prm_bd (isSp_iff.1 hs).prime
  rw [one_row hi, one_row hj]
  unfold pairN psum wantF
  rw [sm_congr (g := fun l => if l = i then (if i = j then S.getD i 0 else 0) else 0) fun l hl => by
    rw [mkR_at _ hl, mkR_at _ hl]
    by_cases e : l = i
    · subst e
      rw [if_pos rfl, if_pos rfl, Int.one_mul]
      by_cases e2 : l = j
      · subst e2; rw [if_pos rfl, if_pos rfl, Int.one_mul]
      · rw [if_neg (fun h => e2 h.symm), if_neg e2, Int.zero_mul]
    · rw [if_neg (fun h => e h.symm), if_neg e, Int.zero_mul, Int.zero_mul], sm_single, if_pos hi]
  have h := (isSp_iff.1 hs).num hi
  split
  · exact Int.emod_eq_of_lt h.1 h.2
  · exact Int.zero_emod _
theorem mk_inj {n c : Nat} {f g : Nat → Nat → Int} : mk n c f = mk n c g ↔ ∀ i, i < n → ∀ j, j < c → f i j = g i j := by
  constructor
  · intro h i hi j hj
    rw [← mk_at f hi hj, ← mk_at g hi hj, h]
  · intro h
    refine mat_ext (by rw [mk_len, mk_len]) fun i hi => ?_
    rw [mk_len] at hi
    rw [mk_row _ hi, mk_row _ hi]
    exact mkR_congr fun j hj => h i hi j hj
/-- The program's way: both Gram matrices are the same. -/
theorem kept_iff {p : Int} {S T : List Int} {m : List (List Int)} (hs : isSp p S = true) (hl : (trM m).length = S.length) : gramM p S (oneM S.length) = gramM p T (trM m) ↔ colB p S T m = true := by
  have e1 : (oneM S.length).length = S.length := mk_len _ _ _
  unfold gramM
  rw [e1, hl, mk_inj, colB_iff]
  unfold gramF
  constructor
  · intro h i hi k hk
    rw [← h i hi k (by omega), one_pair hs hi (by omega)]
  · intro h i hi j hj
    rw [one_pair hs hi hj]
    by_cases hk : j ≤ i
    · exact (h i hi j hk).symm
    · rw [pairN_comm, h j hj i (by omega)]
      unfold wantF
      by_cases e : i = j
      · omega
      · rw [if_neg e, if_neg fun q => e q.symm]
theorem bas_full {p : Int} {n : Nat} {m B : List (List Int)} (hp : prm p = true) (hn : m.length = n) (hl : ∀ i, i < m.length → (rw' m i).length = n) (hr : ∀ i, i < m.length → ∀ j, j < n → 0 ≤ at' m i j ∧ at' m i j < p) (hB : IsBas p n m B) : B.length = n ↔ detP p m ≠ 0 := by
  have hpb := prm_bd hp
  rw [det_triv hp hn hl hr]
  obtain ⟨P, hR⟩ := hB.red
  constructor
  · intro h x hx j hj
    have hx2 := (hB.nul x).1 (by rw [hn]; exact hx)
    rw [h] at hR hx2
    have hu := hR.unit.2
    have := hx2 j hj
    have e : sm n (fun k => at' B j k * x k) = sm n (fun k => if k = j then x j else 0) := sm_congr fun k hk => by
      rw [hu j hj k hk]
      by_cases e : j = k
      · subst e; simp
      · rw [if_neg e, if_neg (fun q => e q.symm)]; simp
    rw [e, sm_single, if_pos hj] at this
    exact this
  · intro ht
    refine Classical.byContradiction fun hne => ?_
    have hle := hR.rows_le
    obtain ⟨k, hk, hf⟩ := hR.free (N := n) (fun q => by have := (q (n - 1) (by omega)).1; omega)
    have hz := ht (kv B.length (at' B) P k) (by have := (hB.nul (kv B.length (at' B) P k)).2 (kv_nul hR hk); rwa [hn] at this) k hk
    rw [kv_top hR hf, Int.emod_eq_of_lt (by omega) (by omega)] at hz
    omega

end Go.Proofs.Ytkibkkdeaojjoab

namespace Go.Proofs.Ytkibkkdeaojjoab
set_option linter.unusedVariables false

/-- n columns, vectors with the norms of the basis vectors. -/
structure Cols (p : Int) (S : List Int) (C : List (List Int)) : Prop where
  len : C.length = S.length
  vec : ∀ i, i < S.length → isVec p S.length (rw' C i) = true
  nrm : ∀ i, i < S.length → pairN p S (rw' C i) (rw' C i) = S.getD i 0
theorem tr_at {C : List (List Int)} {n i j : Nat} (h0 : (rw' C 0).length = n) (hi : i < n) (hj : j < C.length) : at' (trM C) i j = at' C j i := by
  unfold trM; rw [mk_at _ (by omega) hj]
theorem tr_ln {C : List (List Int)} : (trM C).length = (rw' C 0).length := mk_len _ _ _
theorem tr_rw {C : List (List Int)} {i : Nat} (hi : i < (rw' C 0).length) : rw' (trM C) i = mkR C.length fun j => at' C j i := mk_row _ hi
theorem tr_tr {C : List (List Int)} (h0 : 0 < C.length) (hn : 0 < (rw' C 0).length) (h : ∀ i, i < C.length → (rw' C i).length = (rw' C 0).length) : trM (trM C) = C := by
  have e0 : (rw' (trM C) 0).length = C.length := by rw [tr_rw hn, mkR_len]
  refine mat_ext (by rw [tr_ln, e0]) fun i hi => ?_
  rw [tr_ln, e0] at hi
  rw [tr_rw (by rw [e0]; exact hi), tr_ln]
  refine row_ext (by rw [mkR_len, h i hi]) fun j hj => ?_
  rw [mkR_len] at hj
  rw [mkR_at _ hj, tr_at rfl hj hi]
  rfl
theorem Cols.tr {p : Int} {S : List Int} {C : List (List Int)} (h : Cols p S C) (hn : 0 < S.length) : (trM C).length = S.length ∧ (rw' (trM C) 0).length = S.length ∧ trM (trM C) = C := by
  have e : (rw' C 0).length = S.length := (isVec_iff.1 (h.vec 0 hn)).len
  refine ⟨by rw [tr_ln, e], by rw [tr_rw (by rw [e]; exact hn), mkR_len, h.len], tr_tr (by rw [h.len]; exact hn) (by rw [e]; exact hn) fun i hi => ?_⟩
  rw [(isVec_iff.1 (h.vec i (by rw [← h.len]; exact hi))).len, e]
def orB (p : Int) (S : List Int) (m : List (List Int)) : Bool := ismB p p S S m
end Go.Proofs.Ytkibkkdeaojjoab
