/-
  The program's elimination, one row more: the walk of the function that takes it.
  Conditions: the echelon is one's own; the row is a row of known cells with numbers of the prime.
  The program's elimination of rows: the walk.
  Conditions: the rows are a row of rows of known cells with numbers of the prime, all of one length, at least one.
  The program's SpanBasis and RankOf: contracts.
  Conditions: the list of vectors is a row of rows of known cells.
  Where a number stands in a list, and whether it does: l01Index, l01Has, l02First in the model, slices.Index and slices.Contains in the program.
  Conditions: the list is nil or a row of known cells, of at most 1048576 numbers.
  The model's kernel: the walk.
  Conditions: the matrix is a row of rows of known cells with numbers of the prime.
  What the program's elimination hands back, to be read: rows, pivots.
  Conditions: the list of vectors is a row of rows of known cells.
  The program's kernel: the walk.
  Conditions: the matrix is a row of rows of known cells with numbers of the prime.
  The model's kernel of up to 1024 rows: the walk.
  Conditions: the matrix is a row of rows of known cells with numbers of the prime.
  Each list of rows has a reduced basis; kernels. No Go in sight.
  No conditions.
  Two lists compared: contracts of the program and of the model.
  Conditions: the lists are nil or rows of known cells, of at most 1048576 numbers.
  slices.Max and slices.Equal of lists of numbers.
  Conditions: rows of known cells, of at most 1048576 numbers.
-/
import Derived.Test.YtndneccgomfkdaaQm23
import Derived.Test.YtndneccgomfkdaaQm19
import Derived.Test.YtndneccgomfkdaaQm18
import Derived.StillTailTactics
import Derived.Test.YtndneccgomfkdaaQm9
import Derived.Test.YtndneccgomfkdaaQm17
import Derived.Test.YtndneccgomfkdaaQm1
import Derived.Test.YtndneccgomfkdaaQm22
import Derived.Test.YtndneccgomfkdaaQm8
import Derived.BigQuiet
import Derived.Test.YtndneccgomfkdaaQm4
namespace Go.Proofs.Ytndneccgomfkdaa
open Go.RowKit Go.ChangeShapes Go.WideShapes
set_option linter.unusedVariables false

theorem EchM.readA {w : World} {kb c nr np i : Nat} {Z : Nat → Nat → Int} {P : Nat → Nat} {ar ap : Option Addr} {cr cp : Nat} {d : Int} {RB RO RC : Nat → Nat} (h : EchM w kb c nr np Z P (.slice ar nr cr) (.slice ap np cp) d RB RO RC) (hi : i < nr) :
    ∃ g, ar = some ⟨g, 0, none⟩ ∧ w.cell? ⟨g, i, none⟩ = some (.slice (some ⟨RB i, RO i, none⟩) c (RC i)) ∧ kb < g ∧ g < w.heap.size := by
  obtain ⟨g, cap, e, h1, h2, h3⟩ := h.read hi
  cases e
  exact ⟨g, rfl, h1, h2, h3⟩
theorem RowOwn.rowIn {w : World} {b o c : Nat} {z : List Int} (h : RowOwn w b o c (num z)) (hz : z.length = c) : RowIn b (b + 1) w (some ⟨b, o, none⟩) z :=
  .inr ⟨b, o, rfl, Nat.le_refl _, Nat.lt_succ_self _, fun j hj => h.cell j (by omega)⟩
theorem EchM.far {w : World} {kb c nr np : Nat} {Z : Nat → Nat → Int} {P : Nat → Nat} {vr vp : Value} {d : Int} {RB RO RC : Nat → Nat} (h : EchM w kb c nr np Z P vr vp d RB RO RC) (x j : Nat) (v : Value)
    (h0 : kb ≠ x) (h1 : vr.ownBlock ≠ some x) (h2 : vp.ownBlock ≠ some x) (h3 : ∀ i, i < nr → RB i ≠ x) : EchM (w.setCell ⟨x, j, none⟩ v) kb c nr np Z P vr vp d RB RO RC :=
  h.other (b := x) (o := j) (n := 1) h0 h1 h2 h3 ((Wrote.refl x j 1 w).set (by omega : 0 < 1) v)
theorem NumAt.block {w w' : World} {b : Nat} {p v : Int} (h : NumAt w b p v) (e : w'.heap[b]? = w.heap[b]?) : NumAt w' b p v :=
  ⟨(World.cell?_of_block (w := w) (a := ⟨b, 0, none⟩) e).trans h.c0, (World.cell?_of_block (w := w) (a := ⟨b, 1, none⟩) e).trans h.c1, (World.frozen?_of_block (w := w) (a := ⟨b, 0, none⟩) e).trans h.f0, (World.frozen?_of_block (w := w) (a := ⟨b, 1, none⟩) e).trans h.f1⟩
/-- Blocks rb and vb are as they were. -/
def Kp (rb vb : Nat) (w0 w : World) : Prop := ∀ k, (k = rb ∨ k = vb) → w.heap[k]? = w0.heap[k]?
theorem Kp.step {rb vb : Nat} {w0 w w' : World} (h : Kp rb vb w0 w) (e : ∀ k, (k = rb ∨ k = vb) → w'.heap[k]? = w.heap[k]?) : Kp rb vb w0 w' := fun k hk => (e k hk).trans (h k hk)
end Go.Proofs.Ytndneccgomfkdaa

namespace Go.Proofs.Ytndneccgomfkdaa
open Go.RowKit Go.ChangeShapes Go.WideShapes
set_option linter.unusedVariables false

/-- Three cells of a block. -/
structure Cel3 (w : World) (b : Nat) (x y z : Value) : Prop where
  c0 : w.cell? ⟨b, 0, none⟩ = some x
  c1 : w.cell? ⟨b, 1, none⟩ = some y
  c2 : w.cell? ⟨b, 2, none⟩ = some z
  f0 : w.frozen? ⟨b, 0, none⟩ = false
  f1 : w.frozen? ⟨b, 1, none⟩ = false
  f2 : w.frozen? ⟨b, 2, none⟩ = false
theorem Cel3.block {w w' : World} {b : Nat} {x y z : Value} (h : Cel3 w b x y z) (e : w'.heap[b]? = w.heap[b]?) : Cel3 w' b x y z :=
  ⟨(World.cell?_of_block (w := w) (a := ⟨b, 0, none⟩) e).trans h.c0, (World.cell?_of_block (w := w) (a := ⟨b, 1, none⟩) e).trans h.c1, (World.cell?_of_block (w := w) (a := ⟨b, 2, none⟩) e).trans h.c2,
    (World.frozen?_of_block (w := w) (a := ⟨b, 0, none⟩) e).trans h.f0, (World.frozen?_of_block (w := w) (a := ⟨b, 1, none⟩) e).trans h.f1, (World.frozen?_of_block (w := w) (a := ⟨b, 2, none⟩) e).trans h.f2⟩
theorem Cel3.set {w : World} {b : Nat} {x y z : Value} (h : Cel3 w b x y z) (u v t : Value) : Cel3 (((w.setCell ⟨b, 0, none⟩ u).setCell ⟨b, 1, none⟩ v).setCell ⟨b, 2, none⟩ t) b u v t :=
  ⟨by simp [go_sem, h.c0], by simp [go_sem, h.c1], by simp [go_sem, h.c2], by simp [go_sem, h.f0], by simp [go_sem, h.f1], by simp [go_sem, h.f2]⟩
theorem EchM.low {w : World} {kb c nr np x : Nat} {Z : Nat → Nat → Int} {P : Nat → Nat} {vr vp : Value} {d : Int} {RB RO RC : Nat → Nat} (h : EchM w kb c nr np Z P vr vp d RB RO RC) (hx : x < kb) :
    kb ≠ x ∧ vr.ownBlock ≠ some x ∧ vp.ownBlock ≠ some x ∧ ∀ i, i < nr → RB i ≠ x :=
  ⟨by omega, fun e => by have := (h.ro.lt x e).1; omega, fun e => by have := (h.po.lt x e).1; omega, fun i hi => by have := h.rng i hi; omega⟩

end Go.Proofs.Ytndneccgomfkdaa

namespace Go.Proofs.Ytndneccgomfkdaa
open Go.RowKit Go.ChangeShapes Go.WideShapes
set_option linter.unusedVariables false

theorem EchM.own {B : Nat} {w : World} {kb c : Nat} {m : List (List Int)} {P : Nat → Nat} {ar ap : Option Addr} {cr cp : Nat} {d : Int} {RB RO RC : Nat → Nat} (h : EchM w kb c m.length m.length (at' m) P (.slice ar m.length cr) (.slice ap m.length cp) d RB RO RC)
    (hl : ∀ i, i < m.length → (rw' m i).length = c) (hB : B ≤ kb) : OwnM B w.heap.size w ar m := by
  by_cases h0 : 0 < m.length
  · obtain ⟨g, rfl, _, hg0, hg1⟩ := h.readA h0
    refine .inr ⟨⟨g, 0, fun i => some ⟨RB i, RO i, none⟩, RB, RO, RC⟩, rfl, {
      rng := fun _ => ⟨by show B ≤ g; omega, hg1⟩
      top := fun i hi => by
        obtain ⟨g', e, hc, _, _⟩ := h.readA hi
        injection e with e1
        injection e1 with e2
        subst e2
        show w.cell? ⟨g, 0 + i, none⟩ = _
        rw [Nat.zero_add, hl i hi]; exact hc
      row := fun i hi => .inr rfl
      rrng := fun i hi _ => by have := h.rng i hi; exact ⟨by show B ≤ RB i; omega, this.2⟩
      cell := fun i hi j hj => (h.row i hi).cell j (by rw [← hl i hi]; exact hj)
      free := fun i hi j hj => (h.row i hi).free j (by rw [← hl i hi]; exact hj)
      apart := fun i hi i' hi' hne j hj j' hj' e => h.apart i hi i' hi' hne e.1
      tops := fun i hi j hj i' hi' e => h.ra i hi (by have e1 : RB i = g := e.1; show some g = some (RB i); rw [e1]) }⟩
  · exact .inl (List.eq_nil_of_length_eq_zero (by omega))
theorem Elm.nil {p : Int} {c : Nat} {A m : List (List Int)} {P : Nat → Nat} {d : Int} (h : Elm p c A m P d) (e : A = []) : m = [] := by
  cases h with
  | start => rfl
  | same => simp at e
  | more => simp at e
/-- The reduced basis in new memory, with the pivots. -/
def ElimB (p : Int) (A : List (List Int)) (w : World) (e : Ending) (w' : World) : Prop :=
  ∃ (P : Nat → Nat) (d dd : Int) (ar ap : Option Addr) (cr cp kb c : Nat) (RB RO RC : Nat → Nat),
    e = .returned (.agg #[.slice ar (bas p A).length cr, .slice ap (bas p A).length cp, .int .i64 dd]) ∧ EchM w' kb c (bas p A).length (bas p A).length (at' (bas p A)) P (.slice ar (bas p A).length cr) (.slice ap (bas p A).length cp) d RB RO RC ∧ Elm p c A (bas p A) P d ∧ Below w.heap.size w w' ∧ w.heap.size ≤ kb ∧ (0 < A.length → dd = d ∧ c = (rw' A 0).length)
theorem ElimB.own {p : Int} {A : List (List Int)} {w w' : World} {e : Ending} (hp : prm p = true) (h : ElimB p A w e w') : ∃ ar cr vp dd, e = .returned (.agg #[.slice ar (bas p A).length cr, vp, .int .i64 dd]) ∧ OwnM w.heap.size w'.heap.size w' ar (bas p A) ∧ Below w.heap.size w w' := by
  obtain ⟨P, d, dd, ar, ap, cr, cp, kb, c, RB, RO, RC, rfl, hE, hM, hB, hk, _⟩ := h
  exact ⟨ar, cr, _, dd, rfl, hE.own (hM.kept hp).len hk, hB⟩
end Go.Proofs.Ytndneccgomfkdaa

namespace Go.Proofs.Ytndneccgomfkdaa
open Go.RowKit
set_option linter.unusedVariables false

/-- A list of numbers stays where a list of lists is appended to. -/
theorem TagR.push {B lo tp n : Nat} {w w1 : World} {v : Value} {vals : List Value} {r : Option Addr} {z : List Int} (ho : w.ownsRow B 24 1 v n vals) (hg : w.grownBy w1 v.ownBlock) (ht : tp ≤ w.heap.size) (hz : TagR lo tp w r z) : TagR lo tp w1 r z := by
  refine hz.block (Nat.le_refl _) (Nat.le_refl _) (fun b cur _ h1 hc => hg.block b (Nat.lt_of_lt_of_le h1 ht) (fun e => ?_))
  rcases ho.2 with ⟨rfl, _⟩ | ⟨g, cap, cur', rfl, _, hgg, _⟩
  · simp [Value.ownBlock] at e
  · simp [Value.ownBlock] at e
    subst e
    rw [hgg] at hc
    simp at hc
/-- A number is put into a list in place. -/
theorem TagR.set {lo tp : Nat} {w : World} {b o j : Nat} {z : List Int} (h : TagR lo tp w (some ⟨b, o, none⟩) z) (hj : j < z.length) (x : Int) : TagR lo tp (w.setCell ⟨b, o + j, none⟩ (.int .i64 x)) (some ⟨b, o, none⟩) (z.set j x) := by
  rcases h with h | ⟨b', o', cur, e, h0, h1, hc, hv⟩
  · rw [h] at hj; simp at hj
  · cases e
    refine .inr ⟨b, o, cur.setIfInBounds (o + j) (.int .i64 x), rfl, h0, h1, by simp [World.setCell, Array.getElem?_modify, hc], fun i hi => ?_⟩
    rw [List.length_set] at hi
    by_cases e : i = j
    · subst e
      rw [World.cell?_setCell_same w _ _ (hv i hi)]
      simp [List.getD, hi]
    · rw [World.cell?_setCell_other _ _ _ _ (fun e2 => e (by injection e2 with _ e3; omega)), hv i hi]
      simp only [List.getD_eq_getElem?_getD]
      rw [List.getElem?_set_ne (fun h => e h.symm)]
theorem OutM.start2 (w : World) (B : Nat) (t t' : TypeId) (hB : B ≤ w.heap.size) (ht : t' = 24) : OutM B ((w.alloc (.cells #[] t)).alloc (.cells #[] t')) (.slice (some ⟨w.heap.size + 1, 0, none⟩) 0 0) [] := by
  have h := OutM.start (w.alloc (.cells #[] t)) B t' (by simp; omega) ht
  have e : (w.alloc (.cells #[] t)).heap.size = w.heap.size + 1 := by simp
  rw [e] at h; exact h
end Go.Proofs.Ytndneccgomfkdaa

namespace Go.Proofs.Ytndneccgomfkdaa
open Go.RowKit Go.ChangeShapes Go.WideShapes
set_option linter.unusedVariables false

/-- Rows of one length with numbers of the prime, at least one. -/
structure RowsW (p : Int) (A : List (List Int)) : Prop where
  prime : prm p = true
  lo : 0 < A.length
  hi : A.length ≤ 1024
  c0 : 1 ≤ (rw' A 0).length
  c1 : (rw' A 0).length ≤ 16
  len : ∀ i, i < A.length → (rw' A i).length = (rw' A 0).length
  rng : ∀ i, i < A.length → ∀ j, j < (rw' A 0).length → 0 ≤ at' A i j ∧ at' A i j < p
end Go.Proofs.Ytndneccgomfkdaa

namespace Go.Proofs.Ytndneccgomfkdaa
open Go.RowKit
set_option linter.unusedVariables false

theorem redu_ex {p : Int} {c : Nat} {A m : List (List Int)} {P : Nat → Nat} {r : List Int} (hp : prm p = true) (h : Kept p c A m P) (hl : r.length = c) (hr : ∀ j, j < c → 0 ≤ num r j ∧ num r j < p) : ∀ k, k ≤ m.length → ∃ r', Redu p c m P r r' k
  | 0, _ => ⟨r, Redu.start hl hr⟩
  | k + 1, hk => by
    obtain ⟨r', h'⟩ := redu_ex hp h hl hr k (by omega)
    exact ⟨mkR c fun j => (num r' j + (p - num r' (P k)) % p * at' m k j) % p, h'.next hp h.red (by omega) (mkR_len _ _) (fun j hj => mkR_at _ hj)⟩
theorem place_exB {P : Nat → Nat} {q N : Nat} (mono : ∀ i i', i < i' → i' < N → P i < P i') (ne : ∀ i, i < N → P i ≠ q) : ∀ n, n ≤ N → ∃ t, t ≤ n ∧ (∀ i, i < t → P i < q) ∧ ∀ i, t ≤ i → i < n → q < P i
  | 0, _ => ⟨0, Nat.le_refl _, fun i hi => by omega, fun i _ hi => by omega⟩
  | n + 1, hn => by
    by_cases h : P n < q
    · refine ⟨n + 1, Nat.le_refl _, fun i hi => ?_, fun i h1 h2 => by omega⟩
      by_cases e : i = n
      · rw [e]; exact h
      · have := mono i n (by omega) (by omega); omega
    · obtain ⟨t, h1, h2, h3⟩ := place_exB mono ne n (by omega)
      refine ⟨t, by omega, h2, fun i i1 i2 => ?_⟩
      by_cases e : i = n
      · rw [e]; have := ne n (by omega); omega
      · exact h3 i i1 (by omega)
theorem first_ex {c : Nat} (f : Nat → Int) : (∀ j, j < c → f j = 0) ∨ ∃ q, q < c ∧ f q ≠ 0 ∧ ∀ j, j < q → f j = 0 := by
  induction c with
  | zero => exact .inl fun j hj => by omega
  | succ c ih =>
    rcases ih with h | ⟨q, h1, h2, h3⟩
    · by_cases e : f c = 0
      · refine .inl fun j hj => ?_
        by_cases ej : j = c
        · rw [ej]; exact e
        · exact h j (by omega)
      · exact .inr ⟨c, Nat.lt_succ_self c, e, h⟩
    · exact .inr ⟨q, by omega, h2, h3⟩
theorem kept_snoc {p : Int} {c : Nat} {A m : List (List Int)} {P : Nat → Nat} {r : List Int} (hp : prm p = true) (h : Kept p c A m P) (hl : r.length = c) (hr : ∀ j, j < c → 0 ≤ num r j ∧ num r j < p) : ∃ m' P', Kept p c (A ++ [r]) m' P' := by
  obtain ⟨r', h'⟩ := redu_ex hp h hl hr m.length (Nat.le_refl _)
  rcases first_ex (c := c) (num r') with hz | ⟨q, hq, q0, ql⟩
  · exact ⟨m, P, h.same h'.van hz⟩
  · have ne : ∀ i, i < m.length → P i ≠ q := fun i hi e => q0 (by rw [← e]; exact h'.zer i hi)
    obtain ⟨t, t0, t1, t2⟩ := place_exB h.red.mono ne m.length (Nat.le_refl _)
    have hs : ∀ j, j < c → num (mkR c fun j => num r' j * inv p (num r' q) % p) j = num r' j * inv p (num r' q) % p := fun j hj => mkR_at _ hj
    refine ⟨_, _, h.more (m' := mk m.length c fun i j => (at' m i j + (p - at' m i q) % p * num (mkR c fun j => num r' j * inv p (num r' q) % p) j) % p) (s := mkR c fun j => num r' j * inv p (num r' q) % p) (t := t) hp h'.van h'.zer h'.rng hq q0 ql hs (mkR_len _ _) (mk_len _ _ _) (fun i hi => mk_rowLen _ hi) (fun i hi j hj => mk_at _ hi hj) t0 t1 t2⟩
theorem kept_ex {p : Int} {c : Nat} (hp : prm p = true) (A : List (List Int)) (hl : ∀ i, i < A.length → (rw' A i).length = c) (hr : ∀ i, i < A.length → ∀ j, j < c → 0 ≤ at' A i j ∧ at' A i j < p) : ∃ m P, Kept p c A m P := by
  have key : ∀ n, n ≤ A.length → ∃ m P, Kept p c (A.take n) m P := by
    intro n
    induction n with
    | zero => intro _; exact ⟨[], fun _ => 0, Kept.start p c _⟩
    | succ n ih =>
      intro hn
      obtain ⟨m, P, h⟩ := ih (by omega)
      have e : A.take (n + 1) = A.take n ++ [rw' A n] := by
        rw [List.take_add_one, show A[n]? = some (rw' A n) by unfold rw'; simp [List.getD, show n < A.length by omega]]; rfl
      rw [e]
      exact kept_snoc hp h (hl n (by omega)) (fun j hj => hr n (by omega) j hj)
  have h := key A.length (Nat.le_refl _)
  rw [List.take_length] at h
  exact h
theorem bas_is {p : Int} {c : Nat} (hp : prm p = true) (A : List (List Int)) (hl : ∀ i, i < A.length → (rw' A i).length = c) (hr : ∀ i, i < A.length → ∀ j, j < c → 0 ≤ at' A i j ∧ at' A i j < p) : IsBas p c A (bas p A) := by
  have hpb := prm_bd hp
  by_cases h0 : 0 < A.length
  · obtain ⟨m, P, h⟩ := kept_ex hp A hl hr
    have hb := h.bas
    have e := hl 0 h0
    subst e
    rw [← bas_eq (by omega) hb]
    exact hb
  · have hA : A = [] := List.eq_nil_of_length_eq_zero (by omega)
    subst hA
    rw [bas_nil (by omega)]
    exact (Kept.start p c fun _ => 0).bas
theorem RowsW.bas {p : Int} {A : List (List Int)} (h : RowsW p A) : IsBas p (rw' A 0).length A (bas p A) := bas_is h.prime A h.len h.rng
end Go.Proofs.Ytndneccgomfkdaa

namespace Go.Proofs.Ytndneccgomfkdaa
open Go.RowKit
set_option linter.unusedVariables false

set_option maxHeartbeats 1600000 in
theorem l01Same_any (a b : Option Addr) (za zb : List Int) (ca cb lo tp lo' tp' : Nat) (w : World) (ha : RowIn lo tp w a za) (hb : RowIn lo' tp' w b zb) (sa : za.length ≤ 1048576) :
    Calls Try.prog 64 #[.slice a za.length ca, .slice b zb.length cb] w fun e w' => e = .returned (.bool (decide (za = zb))) ∧ Quiet w w' := by
  have HA := Lib.hid ha
  have HB := Lib.hid hb
  clear ha hb
  by_cases hl : za.length = zb.length
  · have HL := Lib.hid hl
    obtain ⟨n, hn⟩ : ∃ n, n = zb.length := ⟨_, rfl⟩
    have HN := Lib.hid hn
    rw [hl] at sa ⊢
    rw [← hn] at sa ⊢
    clear hl hn
    go_enter Try.func64, Try.ntmps64
    go_wp2
    go_loopw [5] (fun t wr => ∃ i : Nat, i ≤ n ∧ t = .int .i64 i ∧ (∀ j, j < i → za.getD j 0 = zb.getD j 0) ∧ Quiet w wr) (fun t _ => n - (intOf t).toNat)
    case atStart => exact ⟨0, Nat.zero_le _, rfl, fun j hj => by omega, Quiet.refl _⟩
    case round =>
      obtain ⟨i, hi, rfl, hall, hq⟩ := hrel
      have HQ := Lib.hid hq
      have HALL := Lib.hid hall
      by_cases hlt : i < n
      · obtain ⟨b1, o1, ha1, _, _, hc1⟩ := (HA.out.same (hq.same _ _)).num (show i < za.length by rw [HL.out, ← HN.out]; exact hlt)
        obtain ⟨b2, o2, ha2, _, _, hc2⟩ := (HB.out.same (hq.same _ _)).num (show i < zb.length by rw [← HN.out]; exact hlt)
        subst ha1
        subst ha2
        have hi1 : (i : Int) < (n : Int) := by omega
        obtain ⟨x, hx⟩ : ∃ x, x = za.getD i 0 := ⟨_, rfl⟩
        obtain ⟨y, hy⟩ : ∃ y, y = zb.getD i 0 := ⟨_, rfl⟩
        have HX := Lib.hid hx
        have HY := Lib.hid hy
        rw [← hx] at hc1
        rw [← hy] at hc2
        clear hx hy hall hq
        by_cases hxy : x = y
        · have e1 : (x != y) = false := by simp [hxy]
          have HXY := Lib.hid hxy
          clear hxy
          go_wp2
          go_quiet (fail)
          go_wp2
          go_roundw
          case rel => exact ⟨i + 1, by omega, by go_num, fun j hj => by
            by_cases e : j = i
            · subst e; rw [← HX.out, ← HY.out, HXY.out]
            · exact HALL.out j (by omega), HQ.out.next _⟩
          case measure => simp [intOf]; omega
        · have e1 : (x != y) = true := by simp [hxy]
          have HR : Hid (decide (za = zb) = false) := decide_eq_false fun e => hxy (by rw [HX.out, HY.out, e])
          clear hxy
          go_wp2
          go_quiet (fail)
          go_wp2
          go_ret
          exact ⟨by rw [HR.out]; rfl, HQ.out.next _⟩
      · have hin : i = n := by omega
        subst hin
        have HR : Hid (decide (za = zb) = true) := decide_eq_true (row_ext HL.out (fun j hj => hall j (by rw [HN.out, ← HL.out]; exact hj)))
        clear hall hq
        go_wp2
        go_ret
        exact ⟨by rw [HR.out]; rfl, HQ.out⟩
  · have HR : Hid (decide (za = zb) = false) := decide_eq_false fun e => hl (by rw [e])
    obtain ⟨n, hn⟩ : ∃ n, n = za.length := ⟨_, rfl⟩
    obtain ⟨m, hm⟩ : ∃ m, m = zb.length := ⟨_, rfl⟩
    rw [← hn, ← hm] at hl ⊢
    have hl2 : ((n : Int) != (m : Int)) = true := by simp; omega
    go_enter Try.func64, Try.ntmps64
    go_wp2
    go_ret
    exact ⟨by rw [HR.out]; rfl, Quiet.refl _⟩

end Go.Proofs.Ytndneccgomfkdaa
