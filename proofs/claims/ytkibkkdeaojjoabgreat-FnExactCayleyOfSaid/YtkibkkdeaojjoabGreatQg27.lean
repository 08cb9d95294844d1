/-
  The program's elimination of rows: the walk.
  Conditions: the rows are a row of rows of known cells with numbers of the prime, all of one length, at least one.
  The program's SpanBasis and RankOf: contracts.
  Conditions: the list of vectors is a row of rows of known cells.
  Determinants, in the program and in the model.
  Conditions: the arguments are nil or rows of known cells, of at most 1048576 numbers.
-/
import Derived.Test.YtkibkkdeaojjoabGreatQg26
import Derived.Test.YtkibkkdeaojjoabGreatQg25
import Derived.Test.YtkibkkdeaojjoabGreatQg23
namespace Go.Proofs.YtkibkkdeaojjoabGreat
open Go.RowKit Go.ChangeShapes Go.WideShapes
set_option linter.unusedVariables false

/-- Three cells of a block. -/
structure Cel3 (w : World) (b : Nat) (x y z : Value) : Prop where
  c0 : w.cell? ⟨b, 0, none⟩ = some x
  c1 : w.cell? ⟨b, 1, none⟩ = some y
  c2 : w.cell? ⟨b, 2, none⟩ = some z
  f0 : w.frozen? ⟨b, 0, none⟩ = false
  f1 : w.frozen? ⟨b, 1, none⟩ = false
  f2 : w.frozen? ⟨b, 2, none⟩ = false
theorem Cel3.block {w w' : World} {b : Nat} {x y z : Value} (h : Cel3 w b x y z) (e : w'.heap[b]? = w.heap[b]?) : Cel3 w' b x y z :=
  ⟨(World.cell?_of_block (w := w) (a := ⟨b, 0, none⟩) e).trans h.c0, (World.cell?_of_block (w := w) (a := ⟨b, 1, none⟩) e).trans h.c1, (World.cell?_of_block (w := w) (a := ⟨b, 2, none⟩) e).trans h.c2,
    (World.frozen?_of_block (w := w) (a := ⟨b, 0, none⟩) e).trans h.f0, (World.frozen?_of_block (w := w) (a := ⟨b, 1, none⟩) e).trans h.f1, (World.frozen?_of_block (w := w) (a := ⟨b, 2, none⟩) e).trans h.f2⟩
theorem Cel3.set {w : World} {b : Nat} {x y z : Value} (h : Cel3 w b x y z) (u v t : Value) : Cel3 (((w.setCell ⟨b, 0, none⟩ u).setCell ⟨b, 1, none⟩ v).setCell ⟨b, 2, none⟩ t) b u v t :=
  ⟨by simp [go_sem, h.c0], by simp [go_sem, h.c1], by simp [go_sem, h.c2], by simp [go_sem, h.f0], by simp [go_sem, h.f1], by simp [go_sem, h.f2]⟩
theorem cel3_new (w : World) (x y z : Value) (T : TypeId) : Cel3 (w.alloc (.cells #[x, y, z] T)) w.heap.size x y z :=
  ⟨by simp [go_sem], by simp [go_sem], by simp [go_sem], by simp [go_sem], by simp [go_sem], by simp [go_sem]⟩
theorem ech_new (w : World) (c : Nat) (T : TypeId) (Z : Nat → Nat → Int) (P RB RO RC : Nat → Nat) : EchM (w.alloc (.cells #[.slice none 0 0, .slice none 0 0, .int .i64 1] T)) w.heap.size c 0 0 Z P (.slice none 0 0) (.slice none 0 0) 1 RB RO RC where
  lt := by simp
  c0 := (cel3_new w _ _ _ T).c0
  c1 := (cel3_new w _ _ _ T).c1
  c2 := (cel3_new w _ _ _ T).c2
  fz j := by simp [go_sem]
  ro := ⟨rfl, .inl ⟨rfl, rfl⟩⟩
  po := ⟨rfl, .inl ⟨rfl, rfl⟩⟩
  rng i hi := by omega
  row i hi := by omega
  apart i hi := by omega
  rc i hi := by omega
  ra i hi := by omega
  pa i hi := by omega

/-- A new eliminator. -/
def Elr (p : Int) (c : Nat) (w : World) (e : Ending) (w' : World) : Prop :=
  e = .returned (.func (.func 115) #[] #[.pointer (some ⟨w.heap.size + 1, 0, none⟩), .pointer (some ⟨w.heap.size, 0, none⟩)]) ∧ Below w.heap.size w w' ∧ w'.heap.size = w.heap.size + 2 ∧ w'.cell? ⟨w.heap.size, 0, none⟩ = some (.int .i64 p) ∧
    ∀ (Z : Nat → Nat → Int) (P RB RO RC : Nat → Nat), EchM w' (w.heap.size + 1) c 0 0 Z P (.slice none 0 0) (.slice none 0 0) 1 RB RO RC
theorem elr_of (p : Int) (c : Nat) (w : World) (T T' : TypeId) : Elr p c w (.returned (.func (.func 115) #[] #[.pointer (some ⟨w.heap.size + 1, 0, none⟩), .pointer (some ⟨w.heap.size, 0, none⟩)]))
    ((w.alloc (.cells #[.int .i64 p] T)).alloc (.cells #[.slice none 0 0, .slice none 0 0, .int .i64 1] T')) := by
  refine ⟨rfl, ((Below.refl _ _).alloc (Nat.le_refl _) _).alloc (by simp) _, by simp, ?_, fun Z P RB RO RC => ?_⟩
  · exact (World.cell?_alloc_old _ _ _ (by simp)).trans (by simp [go_sem])
  · have h := ech_new (w.alloc (.cells #[.int .i64 p] T)) c T' Z P RB RO RC
    simpa using h

theorem eliminator_any (p : Int) (c : Nat) (w : World) :
    Calls Tryz.prog 102 #[.int .i64 p] w (Elr p c w) := by
  go_enter Tryz.func102, Tryz.ntmps102
  go_wp2
  go_ret
  exact elr_of p c w _ _

/-- The echelon of rows. -/
def Elimd (p : Int) (c : Nat) (A : List (List Int)) (w : World) (e : Ending) (w' : World) : Prop :=
  ∃ (m : List (List Int)) (P : Nat → Nat) (d dd : Int) (ar ap : Option Addr) (cr cp kb : Nat) (RB RO RC : Nat → Nat),
    e = .returned (.agg #[.slice ar m.length cr, .slice ap m.length cp, .int .i64 dd]) ∧ EchM w' kb c m.length m.length (at' m) P (.slice ar m.length cr) (.slice ap m.length cp) d RB RO RC ∧ Elm p c A m P d ∧ Below w.heap.size w w' ∧ w.heap.size ≤ kb ∧ (0 < A.length → dd = d)
/-- Where the loop stands. -/
def ElSt (p : Int) (c : Nat) (A : List (List Int)) (rb pb kb vb i : Nat) (w wr : World) : Prop :=
  ∃ (m : List (List Int)) (P : Nat → Nat) (d dd : Int) (ar ap : Option Addr) (cr cp : Nat) (RB RO RC : Nat → Nat),
    EchM wr kb c m.length m.length (at' m) P (.slice ar m.length cr) (.slice ap m.length cp) d RB RO RC ∧ Elm p c (A.take i) m P d ∧ Apt vb m.length (.slice ar m.length cr) (.slice ap m.length cp) RB ∧
      Cel3 wr vb (.slice ar m.length cr) (.slice ap m.length cp) (.int .i64 dd) ∧ (0 < i → dd = d) ∧ wr.cell? ⟨pb, 0, none⟩ = some (.int .i64 p) ∧ Cel3 wr rb (.slice none 0 0) (.slice none 0 0) (.int .i64 0) ∧ Below w.heap.size w wr ∧ vb < wr.heap.size
theorem EchM.far3 {w : World} {kb c nr np : Nat} {Z : Nat → Nat → Int} {P : Nat → Nat} {vr vp : Value} {d : Int} {RB RO RC : Nat → Nat} (h : EchM w kb c nr np Z P vr vp d RB RO RC) (x : Nat) (u v t : Value)
    (h0 : kb ≠ x) (h1 : vr.ownBlock ≠ some x) (h2 : vp.ownBlock ≠ some x) (h3 : ∀ i, i < nr → RB i ≠ x) : EchM (((w.setCell ⟨x, 0, none⟩ u).setCell ⟨x, 1, none⟩ v).setCell ⟨x, 2, none⟩ t) kb c nr np Z P vr vp d RB RO RC :=
  ((h.far x 0 u h0 h1 h2 h3).far x 1 v h0 h1 h2 h3).far x 2 t h0 h1 h2 h3
theorem EchM.low {w : World} {kb c nr np x : Nat} {Z : Nat → Nat → Int} {P : Nat → Nat} {vr vp : Value} {d : Int} {RB RO RC : Nat → Nat} (h : EchM w kb c nr np Z P vr vp d RB RO RC) (hx : x < kb) :
    kb ≠ x ∧ vr.ownBlock ≠ some x ∧ vp.ownBlock ≠ some x ∧ ∀ i, i < nr → RB i ≠ x :=
  ⟨by omega, fun e => by have := (h.ro.lt x e).1; omega, fun e => by have := (h.po.lt x e).1; omega, fun i hi => by have := h.rng i hi; omega⟩

set_option maxRecDepth 100000 in
set_option maxHeartbeats 3200000 in
theorem eliminate_any (p : Int) (a : Option Addr) (A : List (List Int)) (ca lo tp c : Nat) (w : World) (hp : prm p = true) (hm : MatIn lo tp w a A) (ht : tp ≤ w.heap.size) (hn : A.length ≤ 1024) (c0 : 0 < c) (c1 : c ≤ 1024)
    (hl : ∀ i, i < A.length → (rw' A i).length = c) (hr : ∀ i, i < A.length → ∀ j, j < c → 0 ≤ at' A i j ∧ at' A i j < p) :
    Calls Tryz.prog 80 #[.int .i64 p, .slice a A.length ca] w (Elimd p c A w) := by
  have HP := Lib.hid hp
  have HM := Lib.hid hm
  have HLN := Lib.hid hl
  have HRN := Lib.hid hr
  clear hp hm hl hr
  go_enter Tryz.func80, Tryz.ntmps80
  go_wp2_with (go_at_call 102; (with_reducible refine (eliminator_any p c _).mono ?_); rintro e w1 ⟨rfl, hb1, hz1, hp1, he1⟩; have HB1 := Lib.hid hb1; have HZ1 := Lib.hid hz1; have HP1 := Lib.hid hp1; have HE1 := Lib.hid he1; clear hb1 hz1 hp1 he1)
  have HEK : Hid (∀ (Z : Nat → Nat → Int) (P RB RO RC : Nat → Nat), EchM w1 (w.heap.size + 1 + 1) c 0 0 Z P (.slice none 0 0) (.slice none 0 0) 1 RB RO RC) := by have h := HE1.out; simp at h; exact h
  have HPK : Hid (w1.cell? ⟨w.heap.size + 1, 0, none⟩ = some (.int .i64 p)) := by have h := HP1.out; simp at h; exact h
  have hz1 : w.heap.size + 2 < w1.heap.size := by have h := HZ1.out; simp at h; omega
  have HBE : Hid (Below w.heap.size w w1) := below_step ((Below.refl _ _).alloc (Nat.le_refl _) _) (by simp) HB1.out
  have HC0 : Hid (Cel3 w1 w.heap.size (.slice none 0 0) (.slice none 0 0) (.int .i64 0)) := (cel3_new w _ _ _ _).block (HB1.out.block _ (by simp))
  have HST : Hid (ElSt p c A w.heap.size (w.heap.size + 1) (w.heap.size + 1 + 1) w1.heap.size 0 w (w1.alloc (.cells #[.slice none 0 0, .slice none 0 0, .int .i64 0] 96))) := by
    have ha : Below w1.heap.size w1 (w1.alloc (.cells #[.slice none 0 0, .slice none 0 0, .int .i64 0] 96)) := (Below.refl _ _).alloc (Nat.le_refl _) _
    refine ⟨[], fun _ => 0, 1, 0, none, none, 0, 0, fun _ => 0, fun _ => 0, fun _ => 0, (HEK.out _ _ _ _ _).keep ha, Elm.start _, ⟨by simp [Value.ownBlock], by simp [Value.ownBlock], fun i hi => by simp at hi⟩, cel3_new w1 _ _ _ _, fun h => by omega, ?_, ?_, ?_, ?_⟩
    · exact (ha.cell (p := ⟨w.heap.size + 1, 0, none⟩) (by show w.heap.size + 1 < w1.heap.size; omega)).trans HPK.out
    · exact HC0.out.block (ha.block _ (by omega))
    · exact HBE.out.trans (ha.mono (by omega))
    · simp
  clear HE1 HP1 HB1 HZ1
  go_loopw [14] (fun t wr => ∃ i : Nat, i ≤ A.length ∧ t = .int .i64 i ∧ ElSt p c A w.heap.size (w.heap.size + 1) (w.heap.size + 1 + 1) w1.heap.size i w wr) (fun t _ => A.length - (intOf t).toNat)
  case atStart => exact ⟨0, Nat.zero_le _, rfl, HST.out⟩
  case round =>
    obtain ⟨i, hi, rfl, m, P, d, dd, ar, ap, cr, cp, RB, RO, RC, hE, hM, hA, hC, hd, hpb, hR, hB, hvb⟩ := hrel
    have HE := Lib.hid hE
    have HMi := Lib.hid hM
    have HA := Lib.hid hA
    have HC := Lib.hid hC
    have HD := Lib.hid hd
    have HPB := Lib.hid hpb
    have HRb := Lib.hid hR
    have HB := Lib.hid hB
    have hsz := hB.size
    by_cases hlt : i < A.length
    · obtain ⟨b1, o1, r, c1', ha1, _, hb1, hrow, hrin⟩ := (HM.out.below hB ht).row hlt
      subst ha1
      have hl := HLN.out i hlt
      rw [hl] at hrow
      have HL := Lib.hid hl
      have HRI := Lib.hid hrin
      have HRR : Hid (∀ j, j < c → 0 ≤ num (rw' A i) j ∧ num (rw' A i) j < p) := fun j hj => HRN.out i hlt j hj
      have hi1 : (i : Int) < (A.length : Int) := by omega
      clear hE hM hA hC hd hpb hR hB hl hrin
      go_wp2_with (go_at_call 115; (with_reducible refine (take_any p (w.heap.size + 1 + 1) (w.heap.size + 1) c (A.take i) m P d ar ap cr cp RB RO RC r (rw' A i) c1' lo tp _ HP.out HE.out HMi.out HPB.out (by omega) w1.heap.size (by omega) hvb HA.out HRI.out (by omega) HL.out c0 c1 HRR.out).mono ?_); rintro e w5 ⟨m', P', d', ar', ap', cr', cp', RB', RO', RC', rfl, hE', hM', hb', hv', ha'⟩; have HE5 := Lib.hid hE'; have HM5 := Lib.hid hM'; have HB5 := Lib.hid hb'; have HC5 := Lib.hid (HC.out.block hv'); have HA5 := Lib.hid ha'; have g0 := HC5.out.c0; have g1 := HC5.out.c1; have g2 := HC5.out.c2; have f0 := HC5.out.f0; have f1 := HC5.out.f1; have f2 := HC5.out.f2; have hz5 := hb'.size; clear hE' hM' hb' hv' ha')
      go_roundw
      case rel =>
        have hk : w.heap.size + 1 + 1 ≠ w1.heap.size := by omega
        refine ⟨i + 1, by omega, by go_num, m', P', d', d', ar', ap', cr', cp', RB', RO', RC', HE5.out.far3 _ _ _ _ hk HA5.out.1 HA5.out.2.1 HA5.out.2.2, by rw [take_snoc' hlt]; exact HM5.out, HA5.out, HC5.out.set _ _ _, fun _ => rfl, ?_, ?_, ?_, ?_⟩
        · exact (World.cell?_of_block (w := w5) (a := ⟨w.heap.size + 1, 0, none⟩) (res_other _ _ _ _ (by show w.heap.size + 1 ≠ w1.heap.size; omega))).trans ((HB5.out.cell (p := ⟨w.heap.size + 1, 0, none⟩) (by show w.heap.size + 1 < w.heap.size + 1 + 1; omega)).trans HPB.out)
        · exact (HRb.out.block (HB5.out.block _ (by omega))).block (res_other _ _ _ _ (by omega))
        · exact below_res (HB.out.trans (HB5.out.mono (by omega))) (by omega) _ _ _
        · simp [World.setCell]; omega
      case measure => simp [intOf]; omega
    · have hn' : i = A.length := by omega
      subst hn'
      have g0 := hC.c0
      have g1 := hC.c1
      have g2 := hC.c2
      have b0 := hR.c0
      have b1 := hR.c1
      have b2 := hR.c2
      have f0 := hR.f0
      have f1 := hR.f1
      have f2 := hR.f2
      clear hE hM hA hC hd hpb hR hB
      go_wp2
      refine bodyPost_ret (v := .agg #[.slice ar m.length cr, .slice ap m.length cp, .int .i64 dd]) (by simp [results, Tryz.results80, go_sem, b0, b1, b2]) rfl ?_
      obtain ⟨q0, q1, q2, q3⟩ := HE.out.low (show w.heap.size < w.heap.size + 1 + 1 by omega)
      exact ⟨m, P, d, dd, ar, ap, cr, cp, w.heap.size + 1 + 1, RB, RO, RC, rfl, HE.out.far3 _ _ _ _ q0 q1 q2 q3, by have h := HMi.out; rwa [List.take_length] at h, below_res HB.out (Nat.le_refl _) _ _ _, by omega, HD.out⟩

end Go.Proofs.YtkibkkdeaojjoabGreat

namespace Go.Proofs.YtkibkkdeaojjoabGreat
open Go.RowKit Go.ChangeShapes Go.WideShapes
set_option linter.unusedVariables false

theorem EchM.own {B : Nat} {w : World} {kb c : Nat} {m : List (List Int)} {P : Nat → Nat} {ar ap : Option Addr} {cr cp : Nat} {d : Int} {RB RO RC : Nat → Nat} (h : EchM w kb c m.length m.length (at' m) P (.slice ar m.length cr) (.slice ap m.length cp) d RB RO RC)
    (hl : ∀ i, i < m.length → (rw' m i).length = c) (hB : B ≤ kb) : OwnM B w.heap.size w ar m := by
  by_cases h0 : 0 < m.length
  · obtain ⟨g, rfl, _, hg0, hg1⟩ := h.readA h0
    refine .inr ⟨⟨g, 0, fun i => some ⟨RB i, RO i, none⟩, RB, RO, RC⟩, rfl, {
      rng := fun _ => ⟨by show B ≤ g; omega, hg1⟩
      top := fun i hi => by
        obtain ⟨g', e, hc, _, _⟩ := h.readA hi
        injection e with e1
        injection e1 with e2
        subst e2
        show w.cell? ⟨g, 0 + i, none⟩ = _
        rw [Nat.zero_add, hl i hi]; exact hc
      row := fun i hi => .inr rfl
      rrng := fun i hi _ => by have := h.rng i hi; exact ⟨by show B ≤ RB i; omega, this.2⟩
      cell := fun i hi j hj => (h.row i hi).cell j (by rw [← hl i hi]; exact hj)
      free := fun i hi j hj => (h.row i hi).free j (by rw [← hl i hi]; exact hj)
      apart := fun i hi i' hi' hne j hj j' hj' e => h.apart i hi i' hi' hne e.1
      tops := fun i hi j hj i' hi' e => h.ra i hi (by have e1 : RB i = g := e.1; show some g = some (RB i); rw [e1]) }⟩
  · exact .inl (List.eq_nil_of_length_eq_zero (by omega))
theorem Elm.nil {p : Int} {c : Nat} {A m : List (List Int)} {P : Nat → Nat} {d : Int} (h : Elm p c A m P d) (e : A = []) : m = [] := by
  cases h with
  | start => rfl
  | same => simp at e
  | more => simp at e
/-- The reduced basis in new memory, with the pivots. -/
def ElimB (p : Int) (A : List (List Int)) (w : World) (e : Ending) (w' : World) : Prop :=
  ∃ (P : Nat → Nat) (d dd : Int) (ar ap : Option Addr) (cr cp kb c : Nat) (RB RO RC : Nat → Nat),
    e = .returned (.agg #[.slice ar (bas p A).length cr, .slice ap (bas p A).length cp, .int .i64 dd]) ∧ EchM w' kb c (bas p A).length (bas p A).length (at' (bas p A)) P (.slice ar (bas p A).length cr) (.slice ap (bas p A).length cp) d RB RO RC ∧ Elm p c A (bas p A) P d ∧ Below w.heap.size w w' ∧ w.heap.size ≤ kb ∧ (0 < A.length → dd = d ∧ c = (rw' A 0).length)
theorem eliminate_bas (p : Int) (a : Option Addr) (A : List (List Int)) (ca lo tp : Nat) (w : World) (hp : prm p = true) (hm : MatIn lo tp w a A) (ht : tp ≤ w.heap.size) (hn : A.length ≤ 1024)
    (hA : ∀ i, i < A.length → 0 < (rw' A i).length ∧ (rw' A i).length ≤ 1024 ∧ (rw' A i).length = (rw' A 0).length) (hr : ∀ i, i < A.length → ∀ j, j < (rw' A i).length → 0 ≤ at' A i j ∧ at' A i j < p) :
    Calls Tryz.prog 80 #[.int .i64 p, .slice a A.length ca] w (ElimB p A w) := by
  have hp1 := prm_bd hp
  by_cases h0 : 0 < A.length
  · obtain ⟨k0, k1, _⟩ := hA 0 h0
    refine (eliminate_any p a A ca lo tp (rw' A 0).length w hp hm ht hn k0 k1 (fun i hi => (hA i hi).2.2) (fun i hi j hj => hr i hi j (by rw [(hA i hi).2.2]; exact hj))).mono ?_
    rintro e w' ⟨m, P, d, dd, ar, ap, cr, cp, kb, RB, RO, RC, rfl, hE, hM, hB, hk, hd⟩
    have e1 := bas_eq (by omega) (hM.kept hp).bas
    subst e1
    exact ⟨P, d, dd, ar, ap, cr, cp, kb, _, RB, RO, RC, rfl, hE, hM, hB, hk, fun h => ⟨hd h, rfl⟩⟩
  · have hA0 : A = [] := List.eq_nil_of_length_eq_zero (by omega)
    subst hA0
    refine (eliminate_any p a [] ca lo tp 1 w hp hm ht hn (by omega) (by omega) (fun i hi => by simp at hi) (fun i hi => by simp at hi)).mono ?_
    rintro e w' ⟨m, P, d, dd, ar, ap, cr, cp, kb, RB, RO, RC, rfl, hE, hM, hB, hk, hd⟩
    have e0 := hM.nil rfl
    have e1 : m = bas p [] := by rw [bas_nil (by omega), e0]
    subst e1
    exact ⟨P, d, dd, ar, ap, cr, cp, kb, _, RB, RO, RC, rfl, hE, hM, hB, hk, fun h => by simp at h⟩
theorem ElimB.own {p : Int} {A : List (List Int)} {w w' : World} {e : Ending} (hp : prm p = true) (h : ElimB p A w e w') : ∃ ar cr vp dd, e = .returned (.agg #[.slice ar (bas p A).length cr, vp, .int .i64 dd]) ∧ OwnM w.heap.size w'.heap.size w' ar (bas p A) ∧ Below w.heap.size w w' := by
  obtain ⟨P, d, dd, ar, ap, cr, cp, kb, c, RB, RO, RC, rfl, hE, hM, hB, hk, _⟩ := h
  exact ⟨ar, cr, _, dd, rfl, hE.own (hM.kept hp).len hk, hB⟩
end Go.Proofs.YtkibkkdeaojjoabGreat
