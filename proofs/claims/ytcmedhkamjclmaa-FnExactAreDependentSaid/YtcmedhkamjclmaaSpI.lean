/-
  The program's SpanBasis and RankOf: contracts.
  Conditions: the list of vectors is a row of rows of known cells.
-/
import Derived.Test.YtcmedhkamjclmaaEla
namespace Go.Proofs.Ytcmedhkamjclmaa
open Go.RowKit Go.ChangeShapes Go.WideShapes
set_option linter.unusedVariables false

theorem EchM.own {B : Nat} {w : World} {kb c : Nat} {m : List (List Int)} {P : Nat → Nat} {ar ap : Option Addr} {cr cp : Nat} {d : Int} {RB RO RC : Nat → Nat} (h : EchM w kb c m.length m.length (at' m) P (.slice ar m.length cr) (.slice ap m.length cp) d RB RO RC)
    (hl : ∀ i, i < m.length → (rw' m i).length = c) (hB : B ≤ kb) : OwnM B w.heap.size w ar m := by
  by_cases h0 : 0 < m.length
  · obtain ⟨g, rfl, _, hg0, hg1⟩ := h.readA h0
    refine .inr ⟨⟨g, 0, fun i => some ⟨RB i, RO i, none⟩, RB, RO, RC⟩, rfl, {
      rng := fun _ => ⟨by show B ≤ g; omega, hg1⟩
      top := fun i hi => by
        obtain ⟨g', e, hc, _, _⟩ := h.readA hi
        injection e with e1
        injection e1 with e2
        subst e2
        show w.cell? ⟨g, 0 + i, none⟩ = _
        rw [Nat.zero_add, hl i hi]; exact hc
      row := fun i hi => .inr rfl
      rrng := fun i hi _ => by have := h.rng i hi; exact ⟨by show B ≤ RB i; omega, this.2⟩
      cell := fun i hi j hj => (h.row i hi).cell j (by rw [← hl i hi]; exact hj)
      free := fun i hi j hj => (h.row i hi).free j (by rw [← hl i hi]; exact hj)
      apart := fun i hi i' hi' hne j hj j' hj' e => h.apart i hi i' hi' hne e.1
      tops := fun i hi j hj i' hi' e => h.ra i hi (by have e1 : RB i = g := e.1; show some g = some (RB i); rw [e1]) }⟩
  · exact .inl (List.eq_nil_of_length_eq_zero (by omega))
theorem Elm.nil {p : Int} {c : Nat} {A m : List (List Int)} {P : Nat → Nat} {d : Int} (h : Elm p c A m P d) (e : A = []) : m = [] := by
  cases h with
  | start => rfl
  | same => simp at e
  | more => simp at e
theorem field_ech (x y z : Value) (w : World) : (Instr.field 75 (.agg #[x, y, z]) 0).run Try.prog w = .ok x w := by kernel_rfl

/-- The reduced basis in new memory, with the pivots. -/
def ElimB (p : Int) (A : List (List Int)) (w : World) (e : Ending) (w' : World) : Prop :=
  ∃ (P : Nat → Nat) (d dd : Int) (ar ap : Option Addr) (cr cp kb c : Nat) (RB RO RC : Nat → Nat),
    e = .returned (.agg #[.slice ar (bas p A).length cr, .slice ap (bas p A).length cp, .int .i64 dd]) ∧ EchM w' kb c (bas p A).length (bas p A).length (at' (bas p A)) P (.slice ar (bas p A).length cr) (.slice ap (bas p A).length cp) d RB RO RC ∧ Elm p c A (bas p A) P d ∧ Below w.heap.size w w' ∧ w.heap.size ≤ kb ∧ (0 < A.length → dd = d ∧ c = (rw' A 0).length)
theorem eliminate_bas (p : Int) (a : Option Addr) (A : List (List Int)) (ca lo tp : Nat) (w : World) (hp : prm p = true) (hm : MatIn lo tp w a A) (ht : tp ≤ w.heap.size) (hn : A.length ≤ 1024)
    (hA : ∀ i, i < A.length → 0 < (rw' A i).length ∧ (rw' A i).length ≤ 1024 ∧ (rw' A i).length = (rw' A 0).length) (hr : ∀ i, i < A.length → ∀ j, j < (rw' A i).length → 0 ≤ at' A i j ∧ at' A i j < p) :
    Calls Try.prog 83 #[.int .i64 p, .slice a A.length ca] w (ElimB p A w) := by
  have hp1 := prm_bd hp
  by_cases h0 : 0 < A.length
  · obtain ⟨k0, k1, _⟩ := hA 0 h0
    refine (eliminate_any p a A ca lo tp (rw' A 0).length w hp hm ht hn k0 k1 (fun i hi => (hA i hi).2.2) (fun i hi j hj => hr i hi j (by rw [(hA i hi).2.2]; exact hj))).mono ?_
    rintro e w' ⟨m, P, d, dd, ar, ap, cr, cp, kb, RB, RO, RC, rfl, hE, hM, hB, hk, hd⟩
    have e1 := bas_eq (by omega) (hM.kept hp).bas
    subst e1
    exact ⟨P, d, dd, ar, ap, cr, cp, kb, _, RB, RO, RC, rfl, hE, hM, hB, hk, fun h => ⟨hd h, rfl⟩⟩
  · have hA0 : A = [] := List.eq_nil_of_length_eq_zero (by omega)
    subst hA0
    refine (eliminate_any p a [] ca lo tp 1 w hp hm ht hn (by omega) (by omega) (fun i hi => by simp at hi) (fun i hi => by simp at hi)).mono ?_
    rintro e w' ⟨m, P, d, dd, ar, ap, cr, cp, kb, RB, RO, RC, rfl, hE, hM, hB, hk, hd⟩
    have e0 := hM.nil rfl
    have e1 : m = bas p [] := by rw [bas_nil (by omega), e0]
    subst e1
    exact ⟨P, d, dd, ar, ap, cr, cp, kb, _, RB, RO, RC, rfl, hE, hM, hB, hk, fun h => by simp at h⟩
theorem lst_rows {n : Nat} {p : Int} {A : List (List Int)} (h : Lst n p A) : (∀ i, i < A.length → 0 < (rw' A i).length ∧ (rw' A i).length ≤ 1024 ∧ (rw' A i).length = (rw' A 0).length) ∧ ∀ i, i < A.length → ∀ j, j < (rw' A i).length → 0 ≤ at' A i j ∧ at' A i j < p :=
  ⟨fun i hi => ⟨h.c0 i hi, by have := h.c1 i hi; omega, h.len i hi⟩, fun i hi j hj => h.at hi (by rw [← h.len i hi]; exact hj)⟩
/-- What the program's elimination of a list of vectors hands back, to be read. -/
theorem elimL (p : Int) (a : Option Addr) (A : List (List Int)) (ca lo tp : Nat) (w : World) (hm : MatIn lo tp w a A) (ht : tp ≤ w.heap.size) (hA : isL 0 p A = true) :
    Calls Try.prog 83 #[.int .i64 p, .slice a A.length ca] w (ElimB p A w) :=
  have h := isL_iff.1 hA
  eliminate_bas p a A ca lo tp w h.prime hm ht (by have := h.hi; omega) (lst_rows h).1 (lst_rows h).2
theorem ElimB.own {p : Int} {A : List (List Int)} {w w' : World} {e : Ending} (hp : prm p = true) (h : ElimB p A w e w') : ∃ ar cr vp dd, e = .returned (.agg #[.slice ar (bas p A).length cr, vp, .int .i64 dd]) ∧ OwnM w.heap.size w'.heap.size w' ar (bas p A) ∧ Below w.heap.size w w' := by
  obtain ⟨P, d, dd, ar, ap, cr, cp, kb, c, RB, RO, RC, rfl, hE, hM, hB, hk, _⟩ := h
  exact ⟨ar, cr, _, dd, rfl, hE.own (hM.kept hp).len hk, hB⟩
/-- The basis alone. -/
def ElimO (p : Int) (A : List (List Int)) (w : World) (e : Ending) (w' : World) : Prop :=
  ∃ ar cr vp dd, e = .returned (.agg #[.slice ar (bas p A).length cr, vp, .int .i64 dd]) ∧ OwnM w.heap.size w'.heap.size w' ar (bas p A) ∧ Below w.heap.size w w'
theorem elimO (p : Int) (a : Option Addr) (A : List (List Int)) (ca lo tp : Nat) (w : World) (hm : MatIn lo tp w a A) (ht : tp ≤ w.heap.size) (hA : isL 0 p A = true) :
    Calls Try.prog 83 #[.int .i64 p, .slice a A.length ca] w (ElimO p A w) :=
  (elimL p a A ca lo tp w hm ht hA).mono (fun e w' h => h.own (isL_iff.1 hA).prime)

theorem basV_size (p : Int) (m : List (List Int)) : (basV p m).length + tot (basV p m) (basV p m).length ≤ 1048576 := by
  unfold basV
  split
  · rename_i h
    have hL := isL_iff.1 h
    have hp := prm_bd hL.prime
    have hc := hL.c16
    have key : ∀ B : List (List Int), IsBas p (rw' m 0).length m B → B.length + tot B B.length ≤ 1048576 := fun B hB => by
      obtain ⟨P, hP⟩ := hB.red
      have := hP.rows_le
      have e := tot_const (m := B) (c := (rw' m 0).length) hB.len (k := B.length) (Nat.le_refl _)
      rw [e]
      have : B.length * (rw' m 0).length ≤ 16 * 16 := Nat.mul_le_mul (by omega) hc
      omega
    by_cases hx : ∃ B, IsBas p (rw' m 0).length m B
    · obtain ⟨B, hB⟩ := hx
      have e := bas_eq (by omega) hB
      rw [← e]; exact key B hB
    · have e : bas p m = [] := by unfold bas; rw [dif_neg hx]
      rw [e]; simp [tot]
  · simp [tot]

end Go.Proofs.Ytcmedhkamjclmaa
