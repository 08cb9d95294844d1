/-
  What the program's elimination hands back, to be read: rows, pivots.
  Conditions: the list of vectors is a row of rows of known cells.
-/
import Derived.Test.YtigdepahbnidjaaQo29
namespace Go.Proofs.Ytigdepahbnidjaa
open Go.RowKit Go.ChangeShapes Go.WideShapes
set_option linter.unusedVariables false

theorem EchM.pivRow {w : World} {kb c nr np : Nat} {Z : Nat → Nat → Int} {P : Nat → Nat} {ar ap : Option Addr} {cr cp : Nat} {d : Int} {RB RO RC : Nat → Nat} (h : EchM w kb c nr np Z P (.slice ar nr cr) (.slice ap np cp) d RB RO RC) : RowIn kb w.heap.size w ap (pvL P np) := by
  by_cases h0 : 0 < np
  · obtain ⟨g, rfl, _, hg0, hg1⟩ := h.pivA h0
    refine .inr ⟨g, 0, rfl, by omega, hg1, fun j hj => ?_⟩
    rw [pvL_len] at hj
    obtain ⟨g', e, hc, _, _⟩ := h.pivA hj
    injection e with e1
    injection e1 with e2
    subst e2
    rw [Nat.zero_add, pvL_at hj]; exact hc
  · have : np = 0 := by omega
    subst this
    exact .inl rfl
def ElimK (p : Int) (A : List (List Int)) (w : World) (e : Ending) (w' : World) : Prop :=
  ∃ ar cr ap cp dd, e = .returned (.agg #[.slice ar (bas p A).length cr, .slice ap (bas p A).length cp, .int .i64 dd]) ∧ OwnM w.heap.size w'.heap.size w' ar (bas p A) ∧ RowIn w.heap.size w'.heap.size w' ap (pvL (pvs (bas p A)) (bas p A).length) ∧
    IsBas p (rw' A 0).length A (bas p A) ∧ Below w.heap.size w w'
theorem pvL_congr {P P' : Nat → Nat} {n : Nat} (h : ∀ i, i < n → P i = P' i) : pvL P n = pvL P' n := by
  unfold pvL
  apply List.map_congr_left
  intro i hi
  rw [h i (List.mem_range.1 hi)]
/-- Rows of one length with numbers of the prime, at least one. -/
structure RowsW (p : Int) (A : List (List Int)) : Prop where
  prime : prm p = true
  lo : 0 < A.length
  hi : A.length ≤ 1024
  c0 : 1 ≤ (rw' A 0).length
  c1 : (rw' A 0).length ≤ 16
  len : ∀ i, i < A.length → (rw' A i).length = (rw' A 0).length
  rng : ∀ i, i < A.length → ∀ j, j < (rw' A 0).length → 0 ≤ at' A i j ∧ at' A i j < p
theorem Lst.wide {p : Int} {A : List (List Int)} (h : Lst 1 p A) : RowsW p A :=
  ⟨h.prime, h.lo, by have := h.hi; omega, h.c0 0 h.lo, h.c1 0 h.lo, h.len, fun i hi j hj => h.at hi hj⟩
theorem elimK (p : Int) (a : Option Addr) (A : List (List Int)) (ca lo tp : Nat) (w : World) (hm : MatIn lo tp w a A) (ht : tp ≤ w.heap.size) (hA : RowsW p A) :
    Calls Try.prog 66 #[.int .i64 p, .slice a A.length ca] w (ElimK p A w) := by
  have hp := hA.prime
  have hc0 := hA.c0
  have hc1 := hA.c1
  refine (eliminate_bas p a A ca lo tp w hp hm ht hA.hi (fun i hi => by rw [hA.len i hi]; exact ⟨hc0, by omega, rfl⟩) (fun i hi j hj => hA.rng i hi j (by rw [← hA.len i hi]; exact hj))).mono ?_
  rintro e w' ⟨P, d, dd, ar, ap, cr, cp, kb, c, RB, RO, RC, rfl, hE, hM, hB, hk, hd⟩
  obtain ⟨_, rfl⟩ := hd hA.lo
  have hK := hM.kept hp
  refine ⟨ar, cr, ap, cp, dd, rfl, hE.own hK.len hk, ?_, hK.bas, hB⟩
  rw [pvL_congr (fun i hi => hK.red.pvs hK.len hi)]
  exact hE.pivRow.mono hk (Nat.le_refl _)
theorem kerP_lstW {p : Int} {A : List (List Int)} (h : RowsW p A) : isL 0 p (kerP p A) = true :=
  isL_iff.2 (kerN_lst h.prime h.c0 h.c1 (Nat.le_refl _))

end Go.Proofs.Ytigdepahbnidjaa
