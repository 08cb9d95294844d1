/-
  The program's elimination of rows: the walk.
  Conditions: the rows are a row of rows of known cells with numbers of the prime, all of one length, at least one.
  The program's SpanBasis and RankOf: contracts.
  Conditions: the list of vectors is a row of rows of known cells.
  What the program's elimination hands back, to be read: rows, pivots.
  Conditions: the list of vectors is a row of rows of known cells.
  SolveMatrix: contracts of the program and of the model.
  Conditions: the arguments are nil or rows of known cells, of at most 1048576 numbers.
  The program's SolveMatrix: contract.
  Conditions: the arguments are nil or rows of known cells, of at most 1048576 numbers.
  Determinants: by the first column; what changes of rows do to them. No Go in sight.
  No conditions.
  What the program's elimination counts is the determinant. No Go in sight.
  No conditions.
  Inverses: elimination of a square matrix beside the unit matrix, and when it tells that there is an inverse. No Go in sight.
  No conditions.
-/
import Derived.Test.YtdamdlihicinlaaMInv5
import Derived.Test.YtdamdlihicinlaaMInv6
import Derived.Test.YtdamdlihicinlaaMInv2
import Derived.Test.YtdamdlihicinlaaImC
import Derived.Test.YtdamdlihicinlaaKit
import Derived.Test.YtdamdlihicinlaaElim
import Derived.Test.YtdamdlihicinlaaMInv4
namespace Go.Proofs.Ytdamdlihicinlaa
open Go.RowKit Go.ChangeShapes Go.WideShapes
set_option linter.unusedVariables false

/-- Three cells of a block. -/
structure Cel3 (w : World) (b : Nat) (x y z : Value) : Prop where
  c0 : w.cell? ⟨b, 0, none⟩ = some x
  c1 : w.cell? ⟨b, 1, none⟩ = some y
  c2 : w.cell? ⟨b, 2, none⟩ = some z
  f0 : w.frozen? ⟨b, 0, none⟩ = false
  f1 : w.frozen? ⟨b, 1, none⟩ = false
  f2 : w.frozen? ⟨b, 2, none⟩ = false
theorem Cel3.block {w w' : World} {b : Nat} {x y z : Value} (h : Cel3 w b x y z) (e : w'.heap[b]? = w.heap[b]?) : Cel3 w' b x y z :=
  ⟨(World.cell?_of_block (w := w) (a := ⟨b, 0, none⟩) e).trans h.c0, (World.cell?_of_block (w := w) (a := ⟨b, 1, none⟩) e).trans h.c1, (World.cell?_of_block (w := w) (a := ⟨b, 2, none⟩) e).trans h.c2,
    (World.frozen?_of_block (w := w) (a := ⟨b, 0, none⟩) e).trans h.f0, (World.frozen?_of_block (w := w) (a := ⟨b, 1, none⟩) e).trans h.f1, (World.frozen?_of_block (w := w) (a := ⟨b, 2, none⟩) e).trans h.f2⟩
theorem Cel3.set {w : World} {b : Nat} {x y z : Value} (h : Cel3 w b x y z) (u v t : Value) : Cel3 (((w.setCell ⟨b, 0, none⟩ u).setCell ⟨b, 1, none⟩ v).setCell ⟨b, 2, none⟩ t) b u v t :=
  ⟨by simp [go_sem, h.c0], by simp [go_sem, h.c1], by simp [go_sem, h.c2], by simp [go_sem, h.f0], by simp [go_sem, h.f1], by simp [go_sem, h.f2]⟩
theorem cel3_new (w : World) (x y z : Value) (T : TypeId) : Cel3 (w.alloc (.cells #[x, y, z] T)) w.heap.size x y z :=
  ⟨by simp [go_sem], by simp [go_sem], by simp [go_sem], by simp [go_sem], by simp [go_sem], by simp [go_sem]⟩
theorem ech_new (w : World) (c : Nat) (T : TypeId) (Z : Nat → Nat → Int) (P RB RO RC : Nat → Nat) : EchM (w.alloc (.cells #[.slice none 0 0, .slice none 0 0, .int .i64 1] T)) w.heap.size c 0 0 Z P (.slice none 0 0) (.slice none 0 0) 1 RB RO RC where
  lt := by simp
  c0 := (cel3_new w _ _ _ T).c0
  c1 := (cel3_new w _ _ _ T).c1
  c2 := (cel3_new w _ _ _ T).c2
  fz j := by simp [go_sem]
  ro := ⟨rfl, .inl ⟨rfl, rfl⟩⟩
  po := ⟨rfl, .inl ⟨rfl, rfl⟩⟩
  rng i hi := by omega
  row i hi := by omega
  apart i hi := by omega
  rc i hi := by omega
  ra i hi := by omega
  pa i hi := by omega

/-- A new eliminator. -/
def Elr (p : Int) (c : Nat) (w : World) (e : Ending) (w' : World) : Prop :=
  e = .returned (.func (.func 178) #[] #[.pointer (some ⟨w.heap.size + 1, 0, none⟩), .pointer (some ⟨w.heap.size, 0, none⟩)]) ∧ Below w.heap.size w w' ∧ w'.heap.size = w.heap.size + 2 ∧ w'.cell? ⟨w.heap.size, 0, none⟩ = some (.int .i64 p) ∧
    ∀ (Z : Nat → Nat → Int) (P RB RO RC : Nat → Nat), EchM w' (w.heap.size + 1) c 0 0 Z P (.slice none 0 0) (.slice none 0 0) 1 RB RO RC
theorem elr_of (p : Int) (c : Nat) (w : World) (T T' : TypeId) : Elr p c w (.returned (.func (.func 178) #[] #[.pointer (some ⟨w.heap.size + 1, 0, none⟩), .pointer (some ⟨w.heap.size, 0, none⟩)]))
    ((w.alloc (.cells #[.int .i64 p] T)).alloc (.cells #[.slice none 0 0, .slice none 0 0, .int .i64 1] T')) := by
  refine ⟨rfl, ((Below.refl _ _).alloc (Nat.le_refl _) _).alloc (by simp) _, by simp, ?_, fun Z P RB RO RC => ?_⟩
  · exact (World.cell?_alloc_old _ _ _ (by simp)).trans (by simp [go_sem])
  · have h := ech_new (w.alloc (.cells #[.int .i64 p] T)) c T' Z P RB RO RC
    simpa using h

theorem eliminator_any (p : Int) (c : Nat) (w : World) :
    Calls Try.prog 163 #[.int .i64 p] w (Elr p c w) := by
  go_enter Try.func163, Try.ntmps163
  go_wp2
  go_ret
  exact elr_of p c w _ _

/-- The echelon of rows. -/
def Elimd (p : Int) (c : Nat) (A : List (List Int)) (w : World) (e : Ending) (w' : World) : Prop :=
  ∃ (m : List (List Int)) (P : Nat → Nat) (d dd : Int) (ar ap : Option Addr) (cr cp kb : Nat) (RB RO RC : Nat → Nat),
    e = .returned (.agg #[.slice ar m.length cr, .slice ap m.length cp, .int .i64 dd]) ∧ EchM w' kb c m.length m.length (at' m) P (.slice ar m.length cr) (.slice ap m.length cp) d RB RO RC ∧ Elm p c A m P d ∧ Below w.heap.size w w' ∧ w.heap.size ≤ kb ∧ (0 < A.length → dd = d)
/-- Where the loop stands. -/
def ElSt (p : Int) (c : Nat) (A : List (List Int)) (rb pb kb vb i : Nat) (w wr : World) : Prop :=
  ∃ (m : List (List Int)) (P : Nat → Nat) (d dd : Int) (ar ap : Option Addr) (cr cp : Nat) (RB RO RC : Nat → Nat),
    EchM wr kb c m.length m.length (at' m) P (.slice ar m.length cr) (.slice ap m.length cp) d RB RO RC ∧ Elm p c (A.take i) m P d ∧ Apt vb m.length (.slice ar m.length cr) (.slice ap m.length cp) RB ∧
      Cel3 wr vb (.slice ar m.length cr) (.slice ap m.length cp) (.int .i64 dd) ∧ (0 < i → dd = d) ∧ wr.cell? ⟨pb, 0, none⟩ = some (.int .i64 p) ∧ Cel3 wr rb (.slice none 0 0) (.slice none 0 0) (.int .i64 0) ∧ Below w.heap.size w wr ∧ vb < wr.heap.size
theorem EchM.far3 {w : World} {kb c nr np : Nat} {Z : Nat → Nat → Int} {P : Nat → Nat} {vr vp : Value} {d : Int} {RB RO RC : Nat → Nat} (h : EchM w kb c nr np Z P vr vp d RB RO RC) (x : Nat) (u v t : Value)
    (h0 : kb ≠ x) (h1 : vr.ownBlock ≠ some x) (h2 : vp.ownBlock ≠ some x) (h3 : ∀ i, i < nr → RB i ≠ x) : EchM (((w.setCell ⟨x, 0, none⟩ u).setCell ⟨x, 1, none⟩ v).setCell ⟨x, 2, none⟩ t) kb c nr np Z P vr vp d RB RO RC :=
  ((h.far x 0 u h0 h1 h2 h3).far x 1 v h0 h1 h2 h3).far x 2 t h0 h1 h2 h3
theorem EchM.low {w : World} {kb c nr np x : Nat} {Z : Nat → Nat → Int} {P : Nat → Nat} {vr vp : Value} {d : Int} {RB RO RC : Nat → Nat} (h : EchM w kb c nr np Z P vr vp d RB RO RC) (hx : x < kb) :
    kb ≠ x ∧ vr.ownBlock ≠ some x ∧ vp.ownBlock ≠ some x ∧ ∀ i, i < nr → RB i ≠ x :=
  ⟨by omega, fun e => by have := (h.ro.lt x e).1; omega, fun e => by have := (h.po.lt x e).1; omega, fun i hi => by have := h.rng i hi; omega⟩

set_option maxRecDepth 100000 in
set_option maxHeartbeats 3200000 in
theorem eliminate_any (p : Int) (a : Option Addr) (A : List (List Int)) (ca lo tp c : Nat) (w : World) (hp : prm p = true) (hm : MatIn lo tp w a A) (ht : tp ≤ w.heap.size) (hn : A.length ≤ 1024) (c0 : 0 < c) (c1 : c ≤ 1024)
    (hl : ∀ i, i < A.length → (rw' A i).length = c) (hr : ∀ i, i < A.length → ∀ j, j < c → 0 ≤ at' A i j ∧ at' A i j < p) :
    Calls Try.prog 120 #[.int .i64 p, .slice a A.length ca] w (Elimd p c A w) := by
  have HP := Lib.hid hp
  have HM := Lib.hid hm
  have HLN := Lib.hid hl
  have HRN := Lib.hid hr
  clear hp hm hl hr
  go_enter Try.func120, Try.ntmps120
  go_wp2_with (go_at_call 163; (with_reducible refine (eliminator_any p c _).mono ?_); rintro e w1 ⟨rfl, hb1, hz1, hp1, he1⟩; have HB1 := Lib.hid hb1; have HZ1 := Lib.hid hz1; have HP1 := Lib.hid hp1; have HE1 := Lib.hid he1; clear hb1 hz1 hp1 he1)
  have HEK : Hid (∀ (Z : Nat → Nat → Int) (P RB RO RC : Nat → Nat), EchM w1 (w.heap.size + 1 + 1) c 0 0 Z P (.slice none 0 0) (.slice none 0 0) 1 RB RO RC) := by have h := HE1.out; simp at h; exact h
  have HPK : Hid (w1.cell? ⟨w.heap.size + 1, 0, none⟩ = some (.int .i64 p)) := by have h := HP1.out; simp at h; exact h
  have hz1 : w.heap.size + 2 < w1.heap.size := by have h := HZ1.out; simp at h; omega
  have HBE : Hid (Below w.heap.size w w1) := below_step ((Below.refl _ _).alloc (Nat.le_refl _) _) (by simp) HB1.out
  have HC0 : Hid (Cel3 w1 w.heap.size (.slice none 0 0) (.slice none 0 0) (.int .i64 0)) := (cel3_new w _ _ _ _).block (HB1.out.block _ (by simp))
  have HST : Hid (ElSt p c A w.heap.size (w.heap.size + 1) (w.heap.size + 1 + 1) w1.heap.size 0 w (w1.alloc (.cells #[.slice none 0 0, .slice none 0 0, .int .i64 0] 108))) := by
    have ha : Below w1.heap.size w1 (w1.alloc (.cells #[.slice none 0 0, .slice none 0 0, .int .i64 0] 108)) := (Below.refl _ _).alloc (Nat.le_refl _) _
    refine ⟨[], fun _ => 0, 1, 0, none, none, 0, 0, fun _ => 0, fun _ => 0, fun _ => 0, (HEK.out _ _ _ _ _).keep ha, Elm.start _, ⟨by simp [Value.ownBlock], by simp [Value.ownBlock], fun i hi => by simp at hi⟩, cel3_new w1 _ _ _ _, fun h => by omega, ?_, ?_, ?_, ?_⟩
    · exact (ha.cell (p := ⟨w.heap.size + 1, 0, none⟩) (by show w.heap.size + 1 < w1.heap.size; omega)).trans HPK.out
    · exact HC0.out.block (ha.block _ (by omega))
    · exact HBE.out.trans (ha.mono (by omega))
    · simp
  clear HE1 HP1 HB1 HZ1
  go_loopw [14] (fun t wr => ∃ i : Nat, i ≤ A.length ∧ t = .int .i64 i ∧ ElSt p c A w.heap.size (w.heap.size + 1) (w.heap.size + 1 + 1) w1.heap.size i w wr) (fun t _ => A.length - (intOf t).toNat)
  case atStart => exact ⟨0, Nat.zero_le _, rfl, HST.out⟩
  case round =>
    obtain ⟨i, hi, rfl, m, P, d, dd, ar, ap, cr, cp, RB, RO, RC, hE, hM, hA, hC, hd, hpb, hR, hB, hvb⟩ := hrel
    have HE := Lib.hid hE
    have HMi := Lib.hid hM
    have HA := Lib.hid hA
    have HC := Lib.hid hC
    have HD := Lib.hid hd
    have HPB := Lib.hid hpb
    have HRb := Lib.hid hR
    have HB := Lib.hid hB
    have hsz := hB.size
    by_cases hlt : i < A.length
    · obtain ⟨b1, o1, r, c1', ha1, _, hb1, hrow, hrin⟩ := (HM.out.below hB ht).row hlt
      subst ha1
      have hl := HLN.out i hlt
      rw [hl] at hrow
      have HL := Lib.hid hl
      have HRI := Lib.hid hrin
      have HRR : Hid (∀ j, j < c → 0 ≤ num (rw' A i) j ∧ num (rw' A i) j < p) := fun j hj => HRN.out i hlt j hj
      have hi1 : (i : Int) < (A.length : Int) := by omega
      clear hE hM hA hC hd hpb hR hB hl hrin
      go_wp2_with (go_at_call 178; (with_reducible refine (take_any p (w.heap.size + 1 + 1) (w.heap.size + 1) c (A.take i) m P d ar ap cr cp RB RO RC r (rw' A i) c1' lo tp _ HP.out HE.out HMi.out HPB.out (by omega) w1.heap.size (by omega) hvb HA.out HRI.out (by omega) HL.out c0 c1 HRR.out).mono ?_); rintro e w5 ⟨m', P', d', ar', ap', cr', cp', RB', RO', RC', rfl, hE', hM', hb', hv', ha'⟩; have HE5 := Lib.hid hE'; have HM5 := Lib.hid hM'; have HB5 := Lib.hid hb'; have HC5 := Lib.hid (HC.out.block hv'); have HA5 := Lib.hid ha'; have g0 := HC5.out.c0; have g1 := HC5.out.c1; have g2 := HC5.out.c2; have f0 := HC5.out.f0; have f1 := HC5.out.f1; have f2 := HC5.out.f2; have hz5 := hb'.size; clear hE' hM' hb' hv' ha')
      go_roundw
      case rel =>
        have hk : w.heap.size + 1 + 1 ≠ w1.heap.size := by omega
        refine ⟨i + 1, by omega, by go_num, m', P', d', d', ar', ap', cr', cp', RB', RO', RC', HE5.out.far3 _ _ _ _ hk HA5.out.1 HA5.out.2.1 HA5.out.2.2, by rw [take_snoc' hlt]; exact HM5.out, HA5.out, HC5.out.set _ _ _, fun _ => rfl, ?_, ?_, ?_, ?_⟩
        · exact (World.cell?_of_block (w := w5) (a := ⟨w.heap.size + 1, 0, none⟩) (res_other _ _ _ _ (by show w.heap.size + 1 ≠ w1.heap.size; omega))).trans ((HB5.out.cell (p := ⟨w.heap.size + 1, 0, none⟩) (by show w.heap.size + 1 < w.heap.size + 1 + 1; omega)).trans HPB.out)
        · exact (HRb.out.block (HB5.out.block _ (by omega))).block (res_other _ _ _ _ (by omega))
        · exact below_res (HB.out.trans (HB5.out.mono (by omega))) (by omega) _ _ _
        · simp [World.setCell]; omega
      case measure => simp [intOf]; omega
    · have hn' : i = A.length := by omega
      subst hn'
      have g0 := hC.c0
      have g1 := hC.c1
      have g2 := hC.c2
      have b0 := hR.c0
      have b1 := hR.c1
      have b2 := hR.c2
      have f0 := hR.f0
      have f1 := hR.f1
      have f2 := hR.f2
      clear hE hM hA hC hd hpb hR hB
      go_wp2
      refine bodyPost_ret (v := .agg #[.slice ar m.length cr, .slice ap m.length cp, .int .i64 dd]) (by simp [results, Try.results120, go_sem, b0, b1, b2]) rfl ?_
      obtain ⟨q0, q1, q2, q3⟩ := HE.out.low (show w.heap.size < w.heap.size + 1 + 1 by omega)
      exact ⟨m, P, d, dd, ar, ap, cr, cp, w.heap.size + 1 + 1, RB, RO, RC, rfl, HE.out.far3 _ _ _ _ q0 q1 q2 q3, by have h := HMi.out; rwa [List.take_length] at h, below_res HB.out (Nat.le_refl _) _ _ _, by omega, HD.out⟩

end Go.Proofs.Ytdamdlihicinlaa

namespace Go.Proofs.Ytdamdlihicinlaa
open Go.RowKit Go.ChangeShapes Go.WideShapes
set_option linter.unusedVariables false

theorem EchM.own {B : Nat} {w : World} {kb c : Nat} {m : List (List Int)} {P : Nat → Nat} {ar ap : Option Addr} {cr cp : Nat} {d : Int} {RB RO RC : Nat → Nat} (h : EchM w kb c m.length m.length (at' m) P (.slice ar m.length cr) (.slice ap m.length cp) d RB RO RC)
    (hl : ∀ i, i < m.length → (rw' m i).length = c) (hB : B ≤ kb) : OwnM B w.heap.size w ar m := by
  by_cases h0 : 0 < m.length
  · obtain ⟨g, rfl, _, hg0, hg1⟩ := h.readA h0
    refine .inr ⟨⟨g, 0, fun i => some ⟨RB i, RO i, none⟩, RB, RO, RC⟩, rfl, {
      rng := fun _ => ⟨by show B ≤ g; omega, hg1⟩
      top := fun i hi => by
        obtain ⟨g', e, hc, _, _⟩ := h.readA hi
        injection e with e1
        injection e1 with e2
        subst e2
        show w.cell? ⟨g, 0 + i, none⟩ = _
        rw [Nat.zero_add, hl i hi]; exact hc
      row := fun i hi => .inr rfl
      rrng := fun i hi _ => by have := h.rng i hi; exact ⟨by show B ≤ RB i; omega, this.2⟩
      cell := fun i hi j hj => (h.row i hi).cell j (by rw [← hl i hi]; exact hj)
      free := fun i hi j hj => (h.row i hi).free j (by rw [← hl i hi]; exact hj)
      apart := fun i hi i' hi' hne j hj j' hj' e => h.apart i hi i' hi' hne e.1
      tops := fun i hi j hj i' hi' e => h.ra i hi (by have e1 : RB i = g := e.1; show some g = some (RB i); rw [e1]) }⟩
  · exact .inl (List.eq_nil_of_length_eq_zero (by omega))
theorem Elm.nil {p : Int} {c : Nat} {A m : List (List Int)} {P : Nat → Nat} {d : Int} (h : Elm p c A m P d) (e : A = []) : m = [] := by
  cases h with
  | start => rfl
  | same => simp at e
  | more => simp at e
theorem field_ech (x y z : Value) (w : World) : (Instr.field 108 (.agg #[x, y, z]) 0).run Try.prog w = .ok x w := by kernel_rfl

/-- The reduced basis in new memory, with the pivots. -/
def ElimB (p : Int) (A : List (List Int)) (w : World) (e : Ending) (w' : World) : Prop :=
  ∃ (P : Nat → Nat) (d dd : Int) (ar ap : Option Addr) (cr cp kb c : Nat) (RB RO RC : Nat → Nat),
    e = .returned (.agg #[.slice ar (bas p A).length cr, .slice ap (bas p A).length cp, .int .i64 dd]) ∧ EchM w' kb c (bas p A).length (bas p A).length (at' (bas p A)) P (.slice ar (bas p A).length cr) (.slice ap (bas p A).length cp) d RB RO RC ∧ Elm p c A (bas p A) P d ∧ Below w.heap.size w w' ∧ w.heap.size ≤ kb ∧ (0 < A.length → dd = d ∧ c = (rw' A 0).length)
theorem eliminate_bas (p : Int) (a : Option Addr) (A : List (List Int)) (ca lo tp : Nat) (w : World) (hp : prm p = true) (hm : MatIn lo tp w a A) (ht : tp ≤ w.heap.size) (hn : A.length ≤ 1024)
    (hA : ∀ i, i < A.length → 0 < (rw' A i).length ∧ (rw' A i).length ≤ 1024 ∧ (rw' A i).length = (rw' A 0).length) (hr : ∀ i, i < A.length → ∀ j, j < (rw' A i).length → 0 ≤ at' A i j ∧ at' A i j < p) :
    Calls Try.prog 120 #[.int .i64 p, .slice a A.length ca] w (ElimB p A w) := by
  have hp1 := prm_bd hp
  by_cases h0 : 0 < A.length
  · obtain ⟨k0, k1, _⟩ := hA 0 h0
    refine (eliminate_any p a A ca lo tp (rw' A 0).length w hp hm ht hn k0 k1 (fun i hi => (hA i hi).2.2) (fun i hi j hj => hr i hi j (by rw [(hA i hi).2.2]; exact hj))).mono ?_
    rintro e w' ⟨m, P, d, dd, ar, ap, cr, cp, kb, RB, RO, RC, rfl, hE, hM, hB, hk, hd⟩
    have e1 := bas_eq (by omega) (hM.kept hp).bas
    subst e1
    exact ⟨P, d, dd, ar, ap, cr, cp, kb, _, RB, RO, RC, rfl, hE, hM, hB, hk, fun h => ⟨hd h, rfl⟩⟩
  · have hA0 : A = [] := List.eq_nil_of_length_eq_zero (by omega)
    subst hA0
    refine (eliminate_any p a [] ca lo tp 1 w hp hm ht hn (by omega) (by omega) (fun i hi => by simp at hi) (fun i hi => by simp at hi)).mono ?_
    rintro e w' ⟨m, P, d, dd, ar, ap, cr, cp, kb, RB, RO, RC, rfl, hE, hM, hB, hk, hd⟩
    have e0 := hM.nil rfl
    have e1 : m = bas p [] := by rw [bas_nil (by omega), e0]
    subst e1
    exact ⟨P, d, dd, ar, ap, cr, cp, kb, _, RB, RO, RC, rfl, hE, hM, hB, hk, fun h => by simp at h⟩
theorem lst_rows {n : Nat} {p : Int} {A : List (List Int)} (h : Lst n p A) : (∀ i, i < A.length → 0 < (rw' A i).length ∧ (rw' A i).length ≤ 1024 ∧ (rw' A i).length = (rw' A 0).length) ∧ ∀ i, i < A.length → ∀ j, j < (rw' A i).length → 0 ≤ at' A i j ∧ at' A i j < p :=
  ⟨fun i hi => ⟨h.c0 i hi, by have := h.c1 i hi; omega, h.len i hi⟩, fun i hi j hj => h.at hi (by rw [← h.len i hi]; exact hj)⟩
/-- What the program's elimination of a list of vectors hands back, to be read. -/
theorem elimL (p : Int) (a : Option Addr) (A : List (List Int)) (ca lo tp : Nat) (w : World) (hm : MatIn lo tp w a A) (ht : tp ≤ w.heap.size) (hA : isL 0 p A = true) :
    Calls Try.prog 120 #[.int .i64 p, .slice a A.length ca] w (ElimB p A w) :=
  have h := isL_iff.1 hA
  eliminate_bas p a A ca lo tp w h.prime hm ht (by have := h.hi; omega) (lst_rows h).1 (lst_rows h).2
theorem ElimB.own {p : Int} {A : List (List Int)} {w w' : World} {e : Ending} (hp : prm p = true) (h : ElimB p A w e w') : ∃ ar cr vp dd, e = .returned (.agg #[.slice ar (bas p A).length cr, vp, .int .i64 dd]) ∧ OwnM w.heap.size w'.heap.size w' ar (bas p A) ∧ Below w.heap.size w w' := by
  obtain ⟨P, d, dd, ar, ap, cr, cp, kb, c, RB, RO, RC, rfl, hE, hM, hB, hk, _⟩ := h
  exact ⟨ar, cr, _, dd, rfl, hE.own (hM.kept hp).len hk, hB⟩
/-- The basis alone. -/
def ElimO (p : Int) (A : List (List Int)) (w : World) (e : Ending) (w' : World) : Prop :=
  ∃ ar cr vp dd, e = .returned (.agg #[.slice ar (bas p A).length cr, vp, .int .i64 dd]) ∧ OwnM w.heap.size w'.heap.size w' ar (bas p A) ∧ Below w.heap.size w w'
theorem elimO (p : Int) (a : Option Addr) (A : List (List Int)) (ca lo tp : Nat) (w : World) (hm : MatIn lo tp w a A) (ht : tp ≤ w.heap.size) (hA : isL 0 p A = true) :
    Calls Try.prog 120 #[.int .i64 p, .slice a A.length ca] w (ElimO p A w) :=
  (elimL p a A ca lo tp w hm ht hA).mono (fun e w' h => h.own (isL_iff.1 hA).prime)

theorem basV_size (p : Int) (m : List (List Int)) : (basV p m).length + tot (basV p m) (basV p m).length ≤ 1048576 := by
  unfold basV
  split
  · rename_i h
    have hL := isL_iff.1 h
    have hp := prm_bd hL.prime
    have hc := hL.c16
    have key : ∀ B : List (List Int), IsBas p (rw' m 0).length m B → B.length + tot B B.length ≤ 1048576 := fun B hB => by
      obtain ⟨P, hP⟩ := hB.red
      have := hP.rows_le
      have e := tot_const (m := B) (c := (rw' m 0).length) hB.len (k := B.length) (Nat.le_refl _)
      rw [e]
      have : B.length * (rw' m 0).length ≤ 16 * 16 := Nat.mul_le_mul (by omega) hc
      omega
    by_cases hx : ∃ B, IsBas p (rw' m 0).length m B
    · obtain ⟨B, hB⟩ := hx
      have e := bas_eq (by omega) hB
      rw [← e]; exact key B hB
    · have e : bas p m = [] := by unfold bas; rw [dif_neg hx]
      rw [e]; simp [tot]
  · simp [tot]

end Go.Proofs.Ytdamdlihicinlaa

namespace Go.Proofs.Ytdamdlihicinlaa
open Go.RowKit Go.ChangeShapes Go.WideShapes
set_option linter.unusedVariables false

theorem EchM.pivRow {w : World} {kb c nr np : Nat} {Z : Nat → Nat → Int} {P : Nat → Nat} {ar ap : Option Addr} {cr cp : Nat} {d : Int} {RB RO RC : Nat → Nat} (h : EchM w kb c nr np Z P (.slice ar nr cr) (.slice ap np cp) d RB RO RC) : RowIn kb w.heap.size w ap (pvL P np) := by
  by_cases h0 : 0 < np
  · obtain ⟨g, rfl, _, hg0, hg1⟩ := h.pivA h0
    refine .inr ⟨g, 0, rfl, by omega, hg1, fun j hj => ?_⟩
    rw [pvL_len] at hj
    obtain ⟨g', e, hc, _, _⟩ := h.pivA hj
    injection e with e1
    injection e1 with e2
    subst e2
    rw [Nat.zero_add, pvL_at hj]; exact hc
  · have : np = 0 := by omega
    subst this
    exact .inl rfl
def ElimK (p : Int) (A : List (List Int)) (w : World) (e : Ending) (w' : World) : Prop :=
  ∃ ar cr ap cp dd, e = .returned (.agg #[.slice ar (bas p A).length cr, .slice ap (bas p A).length cp, .int .i64 dd]) ∧ OwnM w.heap.size w'.heap.size w' ar (bas p A) ∧ RowIn w.heap.size w'.heap.size w' ap (pvL (pvs (bas p A)) (bas p A).length) ∧
    IsBas p (rw' A 0).length A (bas p A) ∧ Below w.heap.size w w'
theorem pvL_congr {P P' : Nat → Nat} {n : Nat} (h : ∀ i, i < n → P i = P' i) : pvL P n = pvL P' n := by
  unfold pvL
  apply List.map_congr_left
  intro i hi
  rw [h i (List.mem_range.1 hi)]
/-- Rows of one length with numbers of the prime, at least one. -/
structure RowsW (p : Int) (A : List (List Int)) : Prop where
  prime : prm p = true
  lo : 0 < A.length
  hi : A.length ≤ 1024
  c0 : 1 ≤ (rw' A 0).length
  c1 : (rw' A 0).length ≤ 16
  len : ∀ i, i < A.length → (rw' A i).length = (rw' A 0).length
  rng : ∀ i, i < A.length → ∀ j, j < (rw' A 0).length → 0 ≤ at' A i j ∧ at' A i j < p
theorem Lst.wide {p : Int} {A : List (List Int)} (h : Lst 1 p A) : RowsW p A :=
  ⟨h.prime, h.lo, by have := h.hi; omega, h.c0 0 h.lo, h.c1 0 h.lo, h.len, fun i hi j hj => h.at hi hj⟩
theorem elimK (p : Int) (a : Option Addr) (A : List (List Int)) (ca lo tp : Nat) (w : World) (hm : MatIn lo tp w a A) (ht : tp ≤ w.heap.size) (hA : RowsW p A) :
    Calls Try.prog 120 #[.int .i64 p, .slice a A.length ca] w (ElimK p A w) := by
  have hp := hA.prime
  have hc0 := hA.c0
  have hc1 := hA.c1
  refine (eliminate_bas p a A ca lo tp w hp hm ht hA.hi (fun i hi => by rw [hA.len i hi]; exact ⟨hc0, by omega, rfl⟩) (fun i hi j hj => hA.rng i hi j (by rw [← hA.len i hi]; exact hj))).mono ?_
  rintro e w' ⟨P, d, dd, ar, ap, cr, cp, kb, c, RB, RO, RC, rfl, hE, hM, hB, hk, hd⟩
  obtain ⟨_, rfl⟩ := hd hA.lo
  have hK := hM.kept hp
  refine ⟨ar, cr, ap, cp, dd, rfl, hE.own hK.len hk, ?_, hK.bas, hB⟩
  rw [pvL_congr (fun i hi => hK.red.pvs hK.len hi)]
  exact hE.pivRow.mono hk (Nat.le_refl _)
theorem kerP_lstW {p : Int} {A : List (List Int)} (h : RowsW p A) : isL 0 p (kerP p A) = true :=
  isL_iff.2 (kerN_lst h.prime h.c0 h.c1 (Nat.le_refl _))

end Go.Proofs.Ytdamdlihicinlaa

namespace Go.Proofs.Ytdamdlihicinlaa
open Go.RowKit Go.ChangeShapes Go.WideShapes
set_option linter.unusedVariables false

theorem elimX (p : Int) (a : Option Addr) (A : List (List Int)) (n ca lo tp c : Nat) (w : World) (hn : A.length = n) (hm : MatIn lo tp w a A) (ht : tp ≤ w.heap.size) (hA : RowsX p c A) :
    Calls Try.prog 120 #[.int .i64 p, .slice a n ca] w (ElimK p A w) := by
  subst hn
  have hp := hA.prime
  have hc0 := hA.c0
  have hc1 := hA.c1
  have h0 := hA.len0
  refine (eliminate_bas p a A ca lo tp w hp hm ht hA.hi (fun i hi => by rw [hA.len i hi, h0]; exact ⟨hc0, hc1, rfl⟩) (fun i hi j hj => hA.rng i hi j (by rw [← hA.len i hi]; exact hj))).mono ?_
  rintro e w' ⟨P, d, dd, ar, ap, cr, cp, kb, c', RB, RO, RC, rfl, hE, hM, hB, hk, hd⟩
  obtain ⟨_, rfl⟩ := hd hA.lo
  have hK := hM.kept hp
  refine ⟨ar, cr, ap, cp, dd, rfl, hE.own hK.len hk, ?_, hK.bas, hB⟩
  rw [pvL_congr (fun i hi => hK.red.pvs hK.len hi)]
  exact hE.pivRow.mono hk (Nat.le_refl _)
theorem matOne {W : World} {lo tp cv b : Nat} {a : Option Addr} {v : List Int} (hb' : b = W.heap.size) (hv : RowIn lo tp W a v) (tv : tp ≤ W.heap.size) (T : TypeId) :
    MatIn 0 (W.alloc (.cells #[.slice a v.length cv] T)).heap.size (W.alloc (.cells #[.slice a v.length cv] T)) (some ⟨b, 0, none⟩) [v] := by
  subst hb'
  refine .inr ⟨W.heap.size, 0, rfl, Nat.zero_le _, by simp, fun i hi => ?_⟩
  have hb := balloc W (.cells #[.slice a v.length cv] T)
  match i, hi with
  | 0, _ => exact ⟨a, cv, by simp [go_sem, rw'], (hv.below hb tv).mono (Nat.zero_le _) (Nat.le_trans tv hb.size)⟩
theorem transpCol (av : Option Addr) (v : List Int) (nv cv lov tpv b cap : Nat) (W : World) (T : TypeId) (hb : b = W.heap.size) (hnv : v.length = nv) (hv : RowIn lov tpv W av v) (tv : tpv ≤ W.heap.size) (v0 : 0 < nv) (v1 : nv ≤ 1024) :
    Calls Try.prog 144 #[.slice (some ⟨b, 0, none⟩) 1 cap] (W.alloc (.cells #[.slice av nv cv] T)) (NewMN nv (col v) (W.alloc (.cells #[.slice av nv cv] T))) := by
  subst hnv
  refine (transposed_any (some ⟨b, 0, none⟩) [v] cap 0 _ _ (matOne (cv := cv) hb hv tv T) (Nat.le_refl _) (by show 0 < 1; omega) (fun i hi => by match i, hi with | 0, _ => rfl) (by show 1 ≤ 1024; omega) (by show v.length ≤ 1024; exact v1)).mono ?_
  rintro e w' ⟨r, k, rfl, ho, hb'⟩
  rw [col_tr] at ho ⊢
  exact ⟨r, k, by rw [col_len], ho.mat, hb'⟩

noncomputable def solC (p : Int) (A : List (List Int)) (v : List Int) : Int := if isM p A = true then (if v.length = A.length ∧ v.all (inr p) = true then (if solOk p A v = true then 0 else 4) else 2) else 1
noncomputable def solV (p : Int) (A : List (List Int)) (v : List Int) : List Int := if isM p A = true then (if v.length = A.length ∧ v.all (inr p) = true then solL p A v else []) else []
theorem sol_not {p : Int} {A : List (List Int)} {v : List Int} (h : isM p A = false) : solC p A v = 1 ∧ solV p A v = [] := by unfold solC solV; rw [if_neg (by simp [h]), if_neg (by simp [h])]; exact ⟨rfl, rfl⟩
theorem sol_rng {p : Int} {A : List (List Int)} {v : List Int} (h : isM p A = true) (k : ¬ (v.length = A.length ∧ v.all (inr p) = true)) : solC p A v = 2 ∧ solV p A v = [] := by unfold solC solV; rw [if_pos h, if_neg k, if_pos h, if_neg k]; exact ⟨rfl, rfl⟩
theorem sol_in {p : Int} {A : List (List Int)} {v : List Int} (h : isM p A = true) (k : v.length = A.length ∧ v.all (inr p) = true) : solC p A v = (if solOk p A v = true then 0 else 4) ∧ solV p A v = solL p A v := by unfold solC solV; rw [if_pos h, if_pos k, if_pos h, if_pos k]; exact ⟨rfl, rfl⟩
theorem solL_no {p : Int} {A : List (List Int)} {v : List Int} (h : solOk p A v = false) : solL p A v = [] := by unfold solL; rw [if_neg (by simp [h])]
theorem solV_size (p : Int) (A : List (List Int)) (v : List Int) : (solV p A v).length ≤ 1048576 := by
  unfold solV
  split
  · rename_i h
    split
    · unfold solL
      split
      · rw [solvec_len]; have := (isL_iff.1 h).c1 0 (isL_iff.1 h).lo; omega
      · simp
    · simp
  · simp

end Go.Proofs.Ytdamdlihicinlaa

namespace Go.Proofs.Ytdamdlihicinlaa
open Go.RowKit Go.ChangeShapes Go.WideShapes
set_option linter.unusedVariables false

theorem ownR_mono {lo hi lo' hi' : Nat} {w : World} {a : Option Addr} {zs : List Int} (h : OwnR lo hi w a zs) (h0 : lo' ≤ lo) (h1 : hi ≤ hi') : OwnR lo' hi' w a zs := by
  rcases h with h | ⟨b, o, e, g0, g1, g2⟩
  · exact .inl h
  · exact .inr ⟨b, o, e, by omega, by omega, g2⟩
set_option maxRecDepth 100000 in
set_option maxHeartbeats 6400000 in
theorem impl_SolveMatrix (p : Int) (am : Option Addr) (m : List (List Int)) (cm lom tpm : Nat) (av : Option Addr) (v : List Int) (cv lov tpv : Nat) (w : World) (hm : MatIn lom tpm w am m) (tm : tpm ≤ w.heap.size) (sm : m.length + tot m m.length ≤ 1048576) (hv : RowIn lov tpv w av v) (tv : tpv ≤ w.heap.size) (sv : v.length ≤ 1048576) :
    Calls Try.prog 93 #[.int .i64 p, .slice am m.length cm, .slice av v.length cv] w (ImplR (solV p m v) (solC p m v) w) := by
  have Hm := Lib.hid hm
  have Sm := Lib.hid sm
  have HV1 := Lib.hid (hv.below (balloc w (.cells #[.slice am m.length cm] 63)) tv)
  have hml : m.length ≤ 1048576 := by omega
  clear sm
  by_cases h : isM p m = true
  · have HC := Lib.hid (chk1_yes h)
    have HL := Lib.hid (isL_iff.1 h)
    have hm0 : 0 < m.length := (isL_iff.1 h).lo
    by_cases h2 : v.length = m.length ∧ v.all (inr p) = true
    · have HVV : Hid ((decide (v.length = m.length) && v.all (inr p)) = true) := by show _ = _; rw [h2.2]; simp [h2.1]
      have HS := Lib.hid (sol_in h h2)
      have HX := Lib.hid (col_rows HL.out h2.1 h2.2)
      have HVL := Lib.hid h2.1
      have hm16 := HL.out.hi
      have hvm : v.length ≤ m.length ∧ m.length ≤ v.length := by omega
      have HLA := Lib.hid HL.out.len
      obtain ⟨b, o, r0, c0, ha, _, hb, hr0, _⟩ := Hm.out.row (i := 0) hm0
      subst ha
      rw [Nat.add_zero] at hr0
      have hb' : b < w.heap.size := Nat.lt_of_lt_of_le hb tm
      have c1 := HL.out.c0 0 HL.out.lo
      have c16 := HL.out.c1 0 HL.out.lo
      have HOK : Hid (solOk p m v = !isPv (pvs (bas p (bes m (col v)))) (bas p (bes m (col v))).length (rw' m 0).length) := rfl
      have HSL : Hid (solL p m v = if solOk p m v = true then solvec (bas p (bes m (col v))) (pvs (bas p (bes m (col v)))) (rw' m 0).length (bas p (bes m (col v))).length else []) := rfl
      obtain ⟨c, hcc⟩ : ∃ c, c = (rw' m 0).length := ⟨_, rfl⟩
      rw [← hcc] at hr0 c1 c16 HX HLA HOK HSL
      obtain ⟨W, hW⟩ : ∃ W, W = bes m (col v) := ⟨_, rfl⟩
      rw [← hW] at HX HOK HSL
      have HW := Lib.hid hW
      have HWL : Hid (W.length = m.length) := by show _ = _; rw [hW]; exact bes_len _ _
      obtain ⟨B, hB⟩ : ∃ B, B = bas p W := ⟨_, rfl⟩
      rw [← hB] at HOK HSL
      have HBE := Lib.hid hB
      obtain ⟨n, hn⟩ : ∃ n, n = B.length := ⟨_, rfl⟩
      rw [← hn] at HOK HSL
      have HN := Lib.hid hn
      obtain ⟨P, hP⟩ : ∃ P, P = pvs B := ⟨_, rfl⟩
      rw [← hP] at HOK HSL
      have HPE := Lib.hid hP
      have hq1 := ((balloc w (.cells #[.slice (some ⟨b, o, none⟩) m.length cm] 63)).cell (p := ⟨b, o, none⟩) hb').trans hr0
      have HM1 := Lib.hid (hm.below (balloc w (.cells #[.slice (some ⟨b, o, none⟩) m.length cm] 63)) tm)
      have HZ1 := Lib.hid (balloc w (.cells #[.slice (some ⟨b, o, none⟩) m.length cm] 63)).size
      have HT1 := Lib.hid (Nat.le_trans tv HZ1.out)
      have HB2 := Lib.hid ((balloc w (.cells #[.slice (some ⟨b, o, none⟩) m.length cm] 63)).trans ((balloc (w.alloc (.cells #[.slice (some ⟨b, o, none⟩) m.length cm] 63)) (.cells #[.slice av v.length cv] 22)).mono HZ1.out))
      have HBL := Lib.hid (show w.heap.size + 1 = (w.alloc (.cells #[.slice (some ⟨b, o, none⟩) m.length cm] 63)).heap.size by simp)
      have HCR : Hid (∀ i, i < m.length → (rw' (col v) i).length = 1) := fun i hi => by rw [col_row (by omega)]; rfl
      have HCL := Lib.hid (col_len v)
      have hmk := fun W => run_make_row' (P := Try.prog) 22 2 (.int .i64 0) 8 Try.underlying22 info64 rfl .i64 .i64 c (by omega) (by omega) W
      have v0 : 0 < v.length := by omega
      have v1 : v.length ≤ 1024 := by omega
      have cle : c ≤ 1024 := by omega
      have c01 : 0 < c := c1
      have HN1 : Hid (m.length ≤ (col v).length) := by show _ ≤ _; rw [HCL.out]; omega
      have HN2 : Hid ((col v).length ≤ 1024) := by show _ ≤ _; rw [HCL.out]; omega
      have one0 : 0 < 1 := Nat.zero_lt_one
      have one1 : 1 ≤ 1024 := by omega
      clear h h2 hm hv hcc hW hB hn hP
      go_enter Try.func93, Try.ntmps93
      go_wp2_with (first | (go_at_call 143; (with_reducible refine (checkOne_new p _ m _ lom tpm w _ Hm.out tm Sm.out).mono ?_); rintro e w1 ⟨rfl, rfl⟩; rw [HC.out]) | (go_at_call 132; go_loud (with_reducible refine (isVector_any p av v cv m.length lov tpv _ HL.out.prime HV1.out sv hml).mono ?_); rintro e w' ⟨rfl, rfl⟩; rw [HVV.out]) | (go_at_call 144; (with_reducible refine (transpCol av v v.length cv lov tpv (w.heap.size + 1) _ (w.alloc (.cells #[.slice (some ⟨b, o, none⟩) m.length cm] 63)) _ HBL.out rfl HV1.out HT1.out v0 v1).mono ?_); rintro e w3 ⟨r3, k3, rfl, ho3, hb3⟩; have HO3 := Lib.hid ho3; have HB3 := Lib.hid (HB2.out.trans (hb3.mono HB2.out.size)); have HM3 := Lib.hid (Hm.out.below HB3.out tm); have HT3 := Lib.hid (Nat.le_trans tm HB3.out.size); clear ho3 hb3) | (go_at_call 121; (with_reducible refine (besideEach_any (some ⟨b, o, none⟩) r3 m (col v) cm k3 lom tpm _ _ c 1 v.length w3 HM3.out HT3.out HO3.out (Nat.le_refl _) HCL.out.symm HN1.out HN2.out HLA.out HCR.out c01 cle one0 one1).mono ?_); rintro e w4 ⟨r4, k4, rfl, ho4, hb4⟩; rw [← HW.out] at ho4; have HO4 := Lib.hid ho4; have HB4 := Lib.hid (HB3.out.trans (hb4.mono HB3.out.size)); clear ho4 hb4) | (go_at_call 120; (with_reducible refine (elimX p r4 W m.length k4 _ _ (c + 1) w4 HWL.out HO4.out (Nat.le_refl _) HX.out).mono ?_); rintro e w5 ⟨ar, cr, ap, cp, dd, rfl, ho5, hp5, hi5, hb5⟩; rw [← HBE.out, ← HN.out]; rw [← HBE.out, HX.out.len0] at hi5; rw [← HBE.out] at ho5; rw [← HBE.out, ← HN.out, ← HPE.out] at hp5; have HIB := Lib.hid hi5; have HO5 := Lib.hid ho5.mat; have HP5 := Lib.hid hp5; have HB5 := Lib.hid (HB4.out.trans (hb5.mono HB4.out.size)); have hz45 := hb5.size; have k1 := (cel3_new w5 (.slice ar n cr) (.slice ap n cp) (.int .i64 dd) 108).c1; have k1' := ((balloc (w5.alloc (.cells #[.slice ar n cr, .slice ap n cp, .int .i64 dd] 108)) (.cells (madeCells #[.int .i64 0] c) 2)).cell (p := ⟨w5.heap.size, 1, none⟩) (show w5.heap.size < (w5.alloc (.cells #[.slice ar n cr, .slice ap n cp, .int .i64 dd] 108)).heap.size by simp)).trans k1; clear ho5 hp5 hi5 hb5))
      have hRR : Rref p n (c + 1) (at' B) P := by rw [HPE.out, HN.out]; exact HIB.out.pivs
      have HRR := Lib.hid hRR
      have hnc : n ≤ c + 1 := hRR.rows_le
      have HLB : Hid (∀ i, i < n → (rw' B i).length = c + 1) := fun i hi => HIB.out.len i (by rw [← HN.out]; exact hi)
      have HB6 := Lib.hid (balloc w5 (.cells #[.slice ar n cr, .slice ap n cp, .int .i64 dd] 108))
      have HK0 := Lib.hid (cel3_new w5 (.slice ar n cr) (.slice ap n cp) (.int .i64 dd) 108).c0
      have hz6 : w5.heap.size < (w5.alloc (.cells #[.slice ar n cr, .slice ap n cp, .int .i64 dd] 108)).heap.size := by simp
      have HZ6 : Hid ((w5.alloc (.cells #[.slice ar n cr, .slice ap n cp, .int .i64 dd] 108)).heap.size = w5.heap.size + 1) := by show _ = _; simp
      obtain ⟨w6, hw6⟩ : ∃ z, z = w5.alloc (.cells #[.slice ar n cr, .slice ap n cp, .int .i64 dd] 108) := ⟨_, rfl⟩
      rw [← hw6] at HB6 HK0 hz6 HZ6
      rw [← hw6]
      clear hRR hw6 hmk k1 k1' hq1
      go_loopw [43] (fun t wr => ∃ j : Nat, j ≤ n ∧ t = .int .i64 j ∧ (∀ i', i' < j → P i' ≠ c) ∧ TagR (w5.heap.size + 1) wr.heap.size wr (some ⟨w5.heap.size + 1, 0, none⟩) (solvec B P c j) ∧ Below w6.heap.size w6 wr) (fun t _ => n - (intOf t).toNat)
      case atStart => exact ⟨0, Nat.zero_le _, rfl, fun i' h => absurd h (Nat.not_lt_zero _), by rw [solvec_zero]; have h := made_tag w6 c _ rfl; rw [HZ6.out] at h; exact h, balloc w6 _⟩
      case round =>
        obtain ⟨j, hj, rfl, hne, htv, hbv⟩ := hrel
        have HNE := Lib.hid hne
        have HTV := Lib.hid htv
        have HBV := Lib.hid hbv
        have hwv := hbv.size
        have HB5r : Hid (Below w5.heap.size w5 wr) := HB6.out.trans (hbv.mono (by omega))
        have k0 := (hbv.cell (p := ⟨w5.heap.size, 0, none⟩) hz6).trans HK0.out
        have hwz6 : w.heap.size ≤ w6.heap.size := Nat.le_trans HB5.out.size (by omega)
        have HW6 : Hid (Below w.heap.size w wr) := HB5.out.trans (HB5r.out.mono HB5.out.size)
        clear hne htv hbv
        by_cases hltj : j < n
        · have hj1 : (j : Int) < (n : Int) := by omega
          obtain ⟨bp, op, hap, _, _, hcp⟩ := (HP5.out.below HB5r.out (Nat.le_refl _)).num (j := j) (by rw [pvL_len]; exact hltj)
          subst hap
          rw [pvL_at hltj] at hcp
          have hpc := HRR.out.pv j hltj
          by_cases hpe : P j = c
          · have HF : Hid (solOk p m v = false) := by
              show _ = _
              rw [HOK.out, isPv_iff.2 ⟨j, hltj, hpe⟩]; rfl
            have e1 : ((P j : Int) == (c : Int)) = true := by rw [hpe]; simp
            clear hpe
            go_wp2
            go_ret2
            rw [HS.out.1, HS.out.2, HF.out, solL_no HF.out]
            exact ⟨none, 0, rfl, .inl rfl, HW6.out⟩
          · have e1 : ((P j : Int) == (c : Int)) = false := by simp; omega
            have hpl : P j < c := by omega
            have hpl1 : (P j : Int) < (c : Int) := by omega
            obtain ⟨bq, oq, rq, cq, haq, _, _, hrq, hrowq⟩ := (HO5.out.below HB5r.out (Nat.le_refl _)).row (show j < B.length by rw [← HN.out]; exact hltj)
            subst haq
            have hcl := HLB.out j hltj
            rw [hcl] at hrq
            obtain ⟨bx, ox, hax, _, _, hcx0⟩ := hrowq.num (j := c) (by omega)
            subst hax
            obtain ⟨x, hx⟩ : ∃ x, x = at' B j c := ⟨_, rfl⟩
            have hcx : wr.cell? ⟨bx, ox + c, none⟩ = some (.int .i64 x) := by rw [hx]; exact hcx0
            have HST : Hid ((solvec B P c j).set (P j) x = solvec B P c (j + 1)) := by show _ = _; rw [hx]; exact solvec_next HRR.out hltj
            obtain ⟨bv, ov, hav, _, _, hcv⟩ := HTV.out.row.num (j := P j) (by rw [solvec_len]; exact hpl)
            cases hav
            rw [Nat.zero_add] at hcv
            obtain ⟨y, hy⟩ : ∃ y, y = (solvec B P c j).getD (P j) 0 := ⟨_, rfl⟩
            rw [← hy] at hcv
            have hfv : wr.frozen? ⟨w5.heap.size + 1, P j, none⟩ = false := by
              rcases HTV.out with h | ⟨b', o', cur, e, _, _, ht, _⟩
              · have := solvec_len B P c j; rw [h] at this; simp at this; omega
              · cases e; exact free_of ht _
            have HPN := Lib.hid hpe
            clear hx hy hcx0 hrowq hpe hcl
            go_wp2
            go_roundw
            case rel =>
              refine ⟨j + 1, by omega, by go_num, fun i' h => ?_, ?_, Below.setCell HBV.out (Nat.le_of_eq HZ6.out) _⟩
              · by_cases e : i' = j
                · subst e; exact HPN.out
                · exact HNE.out i' (by omega)
              · have h := HTV.out.set (j := P j) (by rw [solvec_len]; exact hpl) x
                rw [HST.out, Nat.zero_add] at h
                exact h.block (Nat.le_refl _) (by simp [World.setCell]) (fun _ _ _ _ _ => rfl)
            case measure => simp [intOf]; omega
        · have hjn : j = n := by omega
          subst hjn
          have HF : Hid (solOk p m v = true) := by
            show _ = _
            rw [HOK.out]
            cases hpv : isPv P j c with
            | false => rfl
            | true => obtain ⟨i', h1, h2⟩ := isPv_iff.1 hpv; exact absurd h2 (HNE.out i' h1)
          have HL0 : Hid (solL p m v = solvec B P c j) := by show _ = _; rw [HSL.out, if_pos HF.out]
          go_wp2
          go_ret2
          rw [HS.out.1, HS.out.2, HF.out, HL0.out]
          exact ⟨some ⟨w5.heap.size + 1, 0, none⟩, c, by rw [solvec_len]; rfl, (ownR_mono HTV.out.own (show w.heap.size ≤ w5.heap.size + 1 by have := HB5.out.size; omega) (Nat.le_refl _)), HW6.out⟩
    · have HVV : Hid ((decide (v.length = m.length) && v.all (inr p)) = false) := by
        show _ = _
        by_cases k1 : v.length = m.length
        · have k2 : ¬ v.all (inr p) = true := fun k => h2 ⟨k1, k⟩
          simp [k2]
        · simp [k1]
      have HS := Lib.hid (sol_rng h h2)
      clear h h2 hm hv
      go_enter Try.func93, Try.ntmps93
      go_wp2_with (first | (go_at_call 143; (with_reducible refine (checkOne_new p _ m _ lom tpm w _ Hm.out tm Sm.out).mono ?_); rintro e w1 ⟨rfl, rfl⟩; rw [HC.out]) | (go_at_call 132; go_loud (with_reducible refine (isVector_any p av v cv m.length lov tpv _ HL.out.prime HV1.out sv hml).mono ?_); rintro e w' ⟨rfl, rfl⟩; rw [HVV.out]))
      go_ret2
      rw [HS.out.1, HS.out.2]
      exact ⟨none, 0, rfl, .inl rfl, balloc w _⟩
  · have HC := Lib.hid (chk1_no (by simpa using h : isM p m = false))
    have HS := Lib.hid (sol_not (v := v) (by simpa using h : isM p m = false))
    clear h hm hv
    go_enter Try.func93, Try.ntmps93
    go_wp2_with (first | (go_at_call 143; (with_reducible refine (checkOne_new p _ m _ lom tpm w _ Hm.out tm Sm.out).mono ?_); rintro e w1 ⟨rfl, rfl⟩; rw [HC.out]))
    go_ret2
    rw [HS.out.1, HS.out.2]
    exact ⟨none, 0, rfl, .inl rfl, balloc w _⟩

end Go.Proofs.Ytdamdlihicinlaa

namespace Go.Proofs.Ytdamdlihicinlaa
set_option linter.unusedVariables false

def skp (i r : Nat) : Nat := if r < i then r else r + 1
def usk (i k : Nat) : Nat := if k < i then k else k - 1
def sg (i : Nat) : Int := if i % 2 = 0 then 1 else -1
def dt : Nat → (Nat → Nat → Int) → Int
  | 0, _ => 1
  | n + 1, f => sm (n + 1) fun i => sg i * f i 0 * dt n (fun r c => f (skp i r) (c + 1))
theorem skp_lt {i r n : Nat} (h : r < n) : skp i r < n + 1 := by unfold skp; split <;> omega
theorem skp_ne (i r : Nat) : skp i r ≠ i := by unfold skp; split <;> omega
theorem skp_eq {i r k : Nat} (h : i ≠ k) : skp i r = k ↔ r = usk i k := by unfold skp usk; split <;> split <;> omega
theorem usk_lt {i k n : Nat} (h : i ≠ k) (hi : i < n + 1) (hk : k < n + 1) : usk i k < n := by unfold usk; split <;> omega

theorem dt_congr {n : Nat} {f g : Nat → Nat → Int} (h : ∀ i, i < n → ∀ j, j < n → f i j = g i j) : dt n f = dt n g := by
  induction n generalizing f g with
  | zero => rfl
  | succ n ih =>
    simp only [dt]
    apply sm_congr
    intro i hi
    rw [h i hi 0 (by omega), ih (fun r hr c hc => h _ (skp_lt hr) _ (by omega))]
theorem mul_emod_congr {p a a' b b' : Int} (h : a % p = a' % p) (k : b % p = b' % p) : a * b % p = a' * b' % p := by rw [Int.mul_emod, h, k, ← Int.mul_emod]
theorem dt_mod {p : Int} {n : Nat} {f g : Nat → Nat → Int} (h : ∀ i, i < n → ∀ j, j < n → f i j % p = g i j % p) : dt n f % p = dt n g % p := by
  induction n generalizing f g with
  | zero => rfl
  | succ n ih =>
    simp only [dt]
    apply sm_emod_congr
    intro i hi
    exact mul_emod_congr (mul_emod_congr rfl (h i hi 0 (by omega))) (ih (fun r hr c hc => h _ (skp_lt hr) _ (by omega)))

def upd (f : Nat → Nat → Int) (k : Nat) (u : Nat → Int) : Nat → Nat → Int := fun i => if i = k then u else f i
theorem upd_same (f : Nat → Nat → Int) (k : Nat) (u : Nat → Int) : upd f k u k = u := if_pos rfl
theorem upd_ne {f : Nat → Nat → Int} {k i : Nat} (u : Nat → Int) (h : i ≠ k) : upd f k u i = f i := if_neg h
theorem upd_self (f : Nat → Nat → Int) (k : Nat) : upd f k (f k) = f := by
  funext i; unfold upd; split
  · next h => rw [h]
  · rfl
theorem upd_upd (f : Nat → Nat → Int) (k : Nat) (u v : Nat → Int) : upd (upd f k u) k v = upd f k v := by
  funext i; unfold upd; split <;> rfl
theorem upd_comm (f : Nat → Nat → Int) {k l : Nat} (h : k ≠ l) (u v : Nat → Int) : upd (upd f k u) l v = upd (upd f l v) k u := by
  funext i; unfold upd
  by_cases e : i = l
  · subst e; rw [if_pos rfl, if_neg (fun q => h q.symm), if_pos rfl]
  · rw [if_neg e, if_neg e]
theorem minor_eq (f : Nat → Nat → Int) (k : Nat) (w : Nat → Int) : (fun r c => upd f k w (skp k r) (c + 1)) = fun r c => f (skp k r) (c + 1) := by
  funext r c; unfold upd; rw [if_neg (skp_ne k r)]
theorem minor_ne (f : Nat → Nat → Int) {i k : Nat} (w : Nat → Int) (h : i ≠ k) : (fun r c => upd f k w (skp i r) (c + 1)) = upd (fun r c => f (skp i r) (c + 1)) (usk i k) (fun c => w (c + 1)) := by
  funext r c; unfold upd
  by_cases e : skp i r = k
  · rw [if_pos e, if_pos ((skp_eq h).1 e)]
  · rw [if_neg e, if_neg (fun q => e ((skp_eq h).2 q))]

theorem dt_lin {n k : Nat} (hk : k < n) (f : Nat → Nat → Int) (u v : Nat → Int) (x : Int) : dt n (upd f k (fun j => u j + x * v j)) = dt n (upd f k u) + x * dt n (upd f k v) := by
  induction n generalizing f u v k with
  | zero => omega
  | succ n ih =>
    simp only [dt]
    rw [← sm_mul, ← sm_add]
    apply sm_congr
    intro i hi
    by_cases e : i = k
    · subst e
      rw [minor_eq, minor_eq, minor_eq, upd_same, upd_same, upd_same, Int.mul_add, Int.add_mul, Int.mul_left_comm (sg i) x, Int.mul_assoc x]
    · rw [minor_ne f _ e, minor_ne f _ e, minor_ne f _ e, upd_ne _ e, upd_ne _ e, upd_ne _ e]
      have h := ih (usk_lt e hi hk) (fun r c => f (skp i r) (c + 1)) (fun c => u (c + 1)) (fun c => v (c + 1))
      rw [h, Int.mul_add, Int.mul_left_comm _ x]
theorem dt_zero {n k : Nat} (hk : k < n) {f : Nat → Nat → Int} (h : ∀ j, j < n → f k j = 0) : dt n f = 0 := by
  have e : dt n f = dt n (upd f k (fun _ => 0)) := dt_congr (fun i _ j hj => by
    unfold upd; split
    · next q => rw [q]; exact h j hj
    · rfl)
  have l := dt_lin hk f (fun _ => 0) (fun _ => 0) 1
  simp only [Int.mul_zero, Int.add_zero, Int.one_mul] at l
  omega
theorem dt_scale {n k : Nat} (hk : k < n) (f : Nat → Nat → Int) (v : Nat → Int) (x : Int) : dt n (upd f k (fun j => x * v j)) = x * dt n (upd f k v) := by
  have l := dt_lin hk f (fun _ => 0) v x
  have z : dt n (upd f k (fun _ => 0)) = 0 := dt_zero hk (fun j _ => by rw [upd_same])
  rw [z] at l
  simpa using l
theorem sg_succ (k : Nat) : sg (k + 1) = - sg k := by unfold sg; split <;> split <;> omega

theorem dt_adj {n k : Nat} (hk : k + 1 < n) {f : Nat → Nat → Int} (h : ∀ j, j < n → f k j = f (k + 1) j) : dt n f = 0 := by
  induction n generalizing f k with
  | zero => omega
  | succ n ih =>
    simp only [dt]
    have hm : dt n (fun r c => f (skp (k + 1) r) (c + 1)) = dt n (fun r c => f (skp k r) (c + 1)) := dt_congr (fun r hr c hc => by
      show f (skp (k + 1) r) (c + 1) = f (skp k r) (c + 1)
      rcases Nat.lt_trichotomy r k with l | l | l
      · have e1 : skp (k + 1) r = r := if_pos (by omega)
        have e2 : skp k r = r := if_pos l
        rw [e1, e2]
      · subst l
        have e1 : skp (r + 1) r = r := if_pos (by omega)
        have e2 : skp r r = r + 1 := if_neg (by omega)
        rw [e1, e2]; exact h _ (by omega)
      · have e1 : skp (k + 1) r = r + 1 := if_neg (by omega)
        have e2 : skp k r = r + 1 := if_neg (by omega)
        rw [e1, e2])
    have key : ∀ i, i < n + 1 → sg i * f i 0 * dt n (fun r c => f (skp i r) (c + 1)) = (if i = k then sg k * f k 0 * dt n (fun r c => f (skp k r) (c + 1)) else 0) + (if i = k + 1 then -(sg k * f k 0 * dt n (fun r c => f (skp k r) (c + 1))) else 0) := by
      intro i hi
      by_cases e : i = k
      · subst e; rw [if_pos rfl, if_neg (by omega), Int.add_zero]
      · by_cases e' : i = k + 1
        · subst e'; rw [if_neg e, if_pos rfl, hm, sg_succ, ← h 0 (by omega), Int.zero_add, Int.neg_mul, Int.neg_mul]
        · rw [if_neg e, if_neg e']
          have z : dt n (fun r c => f (skp i r) (c + 1)) = 0 := by
            by_cases l : i < k
            · refine ih (k := k - 1) (by omega) (fun j hj => ?_)
              have e1 : skp i (k - 1) = k := by unfold skp; rw [if_neg (by omega)]; omega
              have e2 : skp i (k - 1 + 1) = k + 1 := by unfold skp; rw [if_neg (by omega)]; omega
              show f (skp i (k - 1)) (j + 1) = f (skp i (k - 1 + 1)) (j + 1)
              rw [e1, e2]; exact h _ (by omega)
            · refine ih (k := k) (by omega) (fun j hj => ?_)
              have e1 : skp i k = k := if_pos (by omega)
              have e2 : skp i (k + 1) = k + 1 := if_pos (by omega)
              show f (skp i k) (j + 1) = f (skp i (k + 1)) (j + 1)
              rw [e1, e2]; exact h _ (by omega)
          rw [z, Int.mul_zero]; rfl
    rw [sm_congr key, sm_add, sm_single, sm_single, if_pos (by omega), if_pos (by omega)]
    omega
/-- Two rows are exchanged, where equal rows make 0. -/
theorem dt_bil {n k l : Nat} (hk : k < n) (hl : l < n) (hne : k ≠ l) (f : Nat → Nat → Int) (hz : ∀ x, dt n (upd (upd f k x) l x) = 0) (u v : Nat → Int) : dt n (upd (upd f k u) l v) = - dt n (upd (upd f k v) l u) := by
  have h0 := hz (fun j => u j + 1 * v j)
  have h1 := hz u
  have h2 := hz v
  rw [dt_lin hl, upd_comm f hne, upd_comm f hne, dt_lin hk, dt_lin hk, ← upd_comm f hne, ← upd_comm f hne, ← upd_comm f hne, ← upd_comm f hne] at h0
  omega
theorem dt_eqrows {n i j : Nat} (hij : i < j) (hj : j < n) {f : Nat → Nat → Int} (h : ∀ c, c < n → f i c = f j c) : dt n f = 0 := by
  obtain ⟨d, hd⟩ : ∃ d, j = i + 1 + d := ⟨j - i - 1, by omega⟩
  induction d generalizing j f with
  | zero => subst hd; exact dt_adj hj h
  | succ d ih =>
    have hj1 : j - 1 + 1 = j := by omega
    have e0 : upd (upd f (j - 1) (f (j - 1))) j (f j) = f := by rw [upd_self, upd_self]
    have hb := dt_bil (n := n) (k := j - 1) (l := j) (by omega) hj (by omega) f (fun x => dt_adj (k := j - 1) (by omega) (fun c _ => by
      rw [hj1, upd_same, upd_ne _ (by omega), upd_same])) (f (j - 1)) (f j)
    rw [e0] at hb
    have hz : dt n (upd (upd f (j - 1) (f j)) j (f (j - 1))) = 0 := ih (j := j - 1) (by omega) (by omega) (fun c hc => by
      rw [upd_ne _ (by omega), upd_ne _ (by omega), upd_ne _ (by omega), upd_same]; exact h c hc) (by omega)
    omega
theorem dt_swap {n k l : Nat} (hkl : k < l) (hl : l < n) (f : Nat → Nat → Int) : dt n (upd (upd f k (f l)) l (f k)) = - dt n f := by
  have hb := dt_bil (n := n) (k := k) (l := l) (by omega) hl (by omega) f (fun x => dt_eqrows hkl hl (fun c _ => by
      rw [upd_same, upd_ne _ (by omega), upd_same])) (f l) (f k)
  rw [upd_self, upd_self] at hb
  exact hb
theorem dt_two {n k l : Nat} (hk : k < n) (hl : l < n) (hne : k ≠ l) (f : Nat → Nat → Int) : dt n (upd f k (f l)) = 0 := by
  rcases Nat.lt_or_ge k l with h | h
  · exact dt_eqrows h hl (fun c _ => by rw [upd_same, upd_ne _ (by omega)])
  · exact dt_eqrows (by omega : l < k) hk (fun c _ => by rw [upd_same, upd_ne _ (by omega)])
theorem dt_addrow {n k l : Nat} (hk : k < n) (hl : l < n) (hne : k ≠ l) (f : Nat → Nat → Int) (x : Int) : dt n (upd f k (fun j => f k j + x * f l j)) = dt n f := by
  rw [dt_lin hk, upd_self, dt_two hk hl hne, Int.mul_zero, Int.add_zero]
theorem dt_addsum {n k r : Nat} (hk : k < n) (hr : r ≤ k) (f : Nat → Nat → Int) (K : Nat → Int) : dt n (upd f k (fun j => f k j + sm r (fun i => K i * f i j))) = dt n f := by
  induction r with
  | zero => 
    have e : (fun j => f k j + sm 0 (fun i => K i * f i j)) = f k := by funext j; simp [sm]
    rw [e, upd_self]
  | succ r ih =>
    have e : (fun j => f k j + sm (r + 1) (fun i => K i * f i j)) = fun j => (f k j + sm r (fun i => K i * f i j)) + K r * f r j := by
      funext j; simp only [sm]; omega
    rw [e, dt_lin hk, ih (by omega), dt_two hk (by omega) (by omega), Int.mul_zero, Int.add_zero]
theorem dt_addcol {n k r : Nat} (hk : k < n) (hr : r ≤ k) (f : Nat → Nat → Int) (x : Nat → Int) : dt n (fun i => if i < r then fun j => f i j + x i * f k j else f i) = dt n f := by
  induction r with
  | zero => exact dt_congr (fun i _ j _ => by rw [if_neg (by omega)])
  | succ r ih =>
    rw [← ih (by omega)]
    have h := dt_addrow (k := r) (l := k) (by omega) hk (by omega) (fun i => if i < r then fun j => f i j + x i * f k j else f i) (x r)
    rw [← h]
    apply dt_congr
    intro i _ j _
    unfold upd
    by_cases e : i = r
    · subst e; rw [if_pos (by omega), if_pos rfl, if_neg (by omega), if_neg (by omega)]
    · rw [if_neg e]
      by_cases l : i < r
      · rw [if_pos (by omega)]
        show f i j + x i * f k j = (if i < r then fun j => f i j + x i * f k j else f i) j
        rw [if_pos l]
      · rw [if_neg (by omega)]
        show f i j = (if i < r then fun j => f i j + x i * f k j else f i) j
        rw [if_neg l]
theorem dt_col {n : Nat} {f : Nat → Nat → Int} (h : ∀ i, 1 ≤ i → i < n + 1 → f i 0 = 0) : dt (n + 1) f = f 0 0 * dt n (fun r c => f (r + 1) (c + 1)) := by
  simp only [dt]
  have e : ∀ i, i < n + 1 → sg i * f i 0 * dt n (fun r c => f (skp i r) (c + 1)) = if i = 0 then f 0 0 * dt n (fun r c => f (r + 1) (c + 1)) else 0 := by
    intro i hi
    by_cases e : i = 0
    · subst e
      rw [if_pos rfl]
      have e1 : sg 0 = 1 := rfl
      rw [e1, Int.one_mul]
      rfl
    · rw [if_neg e, h i (by omega) hi]; simp
  rw [sm_congr e, sm_single, if_pos (by omega)]
theorem dt_col0 {n : Nat} {f : Nat → Nat → Int} (h : ∀ i, i < n + 1 → f i 0 = 0) : dt (n + 1) f = 0 := by
  rw [dt_col (fun i _ hi => h i hi), h 0 (by omega), Int.zero_mul]
theorem dt_one {n : Nat} {f : Nat → Nat → Int} (h : ∀ i, i < n → ∀ j, j < n → f i j = if i = j then 1 else 0) : dt n f = 1 := by
  induction n generalizing f with
  | zero => rfl
  | succ n ih =>
    rw [dt_col (fun i h1 hi => by rw [h i hi 0 (by omega), if_neg (by omega)]), h 0 (by omega) 0 (by omega), if_pos rfl, Int.one_mul]
    refine ih (fun i hi j hj => ?_)
    rw [h _ (by omega) _ (by omega)]
    by_cases e : i = j
    · subst e; rw [if_pos rfl, if_pos rfl]
    · rw [if_neg e, if_neg (by omega)]

end Go.Proofs.Ytdamdlihicinlaa

namespace Go.Proofs.Ytdamdlihicinlaa
set_option linter.unusedVariables false

theorem at_app (a b : List (List Int)) (i : Nat) : at' (a ++ b) i = if i < a.length then at' a i else at' b (i - a.length) := by
  funext j
  unfold at' rw'
  simp only [List.getD_eq_getElem?_getD, List.getElem?_append]
  split <;> rfl
theorem at_cons0 (z : List Int) (b : List (List Int)) : at' (z :: b) 0 = num z := by funext j; rfl
theorem at_cons (z : List Int) (b : List (List Int)) (i : Nat) : at' (z :: b) (i + 1) = at' b i := by funext j; rfl
theorem at_mid (m : List (List Int)) (z : List Int) (X : List (List Int)) : at' (m ++ z :: X) m.length = num z := by
  rw [at_app, if_neg (Nat.lt_irrefl _), Nat.sub_self, at_cons0]
theorem emod_mul (a b p : Int) : a % p * b % p = a * b % p := by rw [Int.mul_emod, Int.emod_emod, ← Int.mul_emod]
theorem mul_emod_r (a b p : Int) : a * (b % p) % p = a * b % p := by rw [Int.mul_emod, Int.emod_emod, ← Int.mul_emod]

theorem dt_red {p : Int} {n : Nat} {m : List (List Int)} {P : Nat → Nat} {r r' : List Int} {X : List (List Int)} (hr : Red2 p n m P r r' m.length) (hn : m.length < n) :
    dt n (at' (m ++ r :: X)) % p = dt n (upd (at' (m ++ r :: X)) m.length (num r')) % p := by
  obtain ⟨K, hK⟩ := hr.lin
  rw [← dt_addsum hn (Nat.le_refl _) (at' (m ++ r :: X)) K]
  apply dt_mod
  intro i hi j hj
  unfold upd
  by_cases e : i = m.length
  · rw [if_pos e, if_pos e, hK j hj, at_mid]
    congr 2
    apply sm_congr
    intro i' hi'
    rw [at_app, if_pos hi']
  · rw [if_neg e, if_neg e]
theorem ins_end {m : List (List Int)} (s : List Int) (X : List (List Int)) : ins _ m m.length s ++ X = m ++ s :: X := by
  unfold ins
  rw [List.take_of_length_le (Nat.le_refl _), List.drop_of_length_le (Nat.le_refl _)]
  simp
theorem dt_ins_step {n t : Nat} {m : List (List Int)} (s : List Int) (X : List (List Int)) (ht : t < m.length) (hn : m.length < n) : dt n (at' (ins _ m t s ++ X)) = - dt n (at' (ins _ m (t + 1) s ++ X)) := by
  rw [← dt_swap (k := t) (l := t + 1) (by omega) (by omega) (at' (ins _ m (t + 1) s ++ X))]
  apply dt_congr
  intro i hi j hj
  have l1 : (ins _ m t s).length = m.length + 1 := ins_len s (by omega)
  have l2 : (ins _ m (t + 1) s).length = m.length + 1 := ins_len s (by omega)
  have g1 : at' (ins _ m (t + 1) s ++ X) (t + 1) = num s := by rw [at_app, if_pos (by omega), at_ins_new s (by omega)]
  have g0 : at' (ins _ m (t + 1) s ++ X) t = at' m t := by
    rw [at_app, if_pos (by omega), at_ins s (by omega) (by omega)]
    have : old (t + 1) t = t := if_pos (by omega)
    rw [this]
  by_cases e : i = t
  · subst e
    rw [upd_ne _ (by omega), upd_same, g1, at_app, if_pos (by omega), at_ins_new s (by omega)]
  · by_cases e' : i = t + 1
    · subst e'
      rw [upd_same, g0, at_app, if_pos (by omega), at_ins s (by omega) (by omega)]
      have : old t (t + 1) = t := by unfold old; rw [if_neg (by omega)]; omega
      rw [this]
    · rw [upd_ne _ e', upd_ne _ e, at_app, at_app, l1, l2]
      by_cases l : i < m.length + 1
      · rw [if_pos l, if_pos l, at_ins s (by omega) e, at_ins s (by omega) e']
        have : old t i = old (t + 1) i := by unfold old; split <;> split <;> omega
        rw [this]
      · rw [if_neg l, if_neg l]
theorem dt_ins {n t : Nat} {m : List (List Int)} (s : List Int) (X : List (List Int)) (ht : t ≤ m.length) (hn : m.length < n) : dt n (at' (ins _ m t s ++ X)) = sg (m.length - t) * dt n (at' (m ++ s :: X)) := by
  obtain ⟨d, hd⟩ : ∃ d, m.length = t + d := ⟨m.length - t, by omega⟩
  induction d generalizing t with
  | zero =>
    have : t = m.length := by omega
    subst this
    rw [ins_end, Nat.sub_self]
    have e1 : sg 0 = 1 := rfl
    rw [e1, Int.one_mul]
  | succ d ih =>
    rw [dt_ins_step s X (by omega) hn, ih (by omega) (by omega)]
    have e : m.length - t = (m.length - (t + 1)) + 1 := by omega
    rw [e, sg_succ, Int.neg_mul]

theorem Elm.detX {p : Int} {n : Nat} {A m : List (List Int)} {P : Nat → Nat} {d : Int} (hp : prm p = true) (h : Elm p n A m P d) : ∀ X : List (List Int), A.length + X.length = n →
    (m.length = A.length ∧ dt n (at' (A ++ X)) % p = d * dt n (at' (m ++ X)) % p) ∨ (m.length < A.length ∧ dt n (at' (A ++ X)) % p = 0) := by
  have hpb := prm_bd hp
  induction h with
  | start P => intro X _; exact .inl ⟨rfl, by rw [Int.one_mul]⟩
  | @same A m P d r r' _ hrl hr h0 ih =>
    intro X hX
    simp only [List.length_append, List.length_cons, List.length_nil] at hX ⊢
    have e : A ++ [r] ++ X = A ++ r :: X := by simp
    rw [e]
    rcases ih (r :: X) (by simp only [List.length_cons]; omega) with ⟨h1, h2⟩ | ⟨h1, h2⟩
    · refine .inr ⟨by omega, ?_⟩
      rw [h2]
      have k : dt n (at' (m ++ r :: X)) % p = 0 := by
        rw [dt_red hr (by omega), dt_zero (k := m.length) (by omega) (fun j hj => by rw [upd_same]; exact h0 j hj)]
        rfl
      rw [Int.mul_emod, k]; simp
    · exact .inr ⟨by omega, h2⟩
  | @more A m m' P d r r' s q t _ k ih =>
    intro X hX
    simp only [List.length_append, List.length_cons, List.length_nil] at hX ⊢
    have e : A ++ [r] ++ X = A ++ r :: X := by simp
    have hl : (ins _ m' t s).length = m.length + 1 := by rw [ins_len s (by rw [k.ml]; exact k.tn), k.ml]
    rw [e, hl]
    rcases ih (r :: X) (by simp only [List.length_cons]; omega) with ⟨h1, h2⟩ | ⟨h1, h2⟩
    · refine .inl ⟨by omega, ?_⟩
      have hmn : m.length < n := by omega
      have hrq := k.red.rng q k.qc
      have hinv : num r' q * inv p (num r' q) % p = 1 := inv_mul hp (by have := k.q0; omega) hrq.2
      have e1 : dt n (upd (at' (m ++ r :: X)) m.length (num r')) % p = num r' q * dt n (upd (at' (m ++ r :: X)) m.length (num s)) % p := by
        rw [← dt_scale hmn]
        apply dt_mod
        intro i hi j hj
        unfold upd
        by_cases ei : i = m.length
        · rw [if_pos ei, if_pos ei, k.ss j hj, mul_emod_r, Int.mul_left_comm, ← mul_emod_r, hinv, Int.mul_one]
        · rw [if_neg ei, if_neg ei]
      have e2 : dt n (upd (at' (m ++ r :: X)) m.length (num s)) % p = dt n (at' (m' ++ s :: X)) % p := by
        rw [← dt_addcol hmn (Nat.le_refl _) (upd (at' (m ++ r :: X)) m.length (num s)) (fun i => (p - at' m i q) % p)]
        apply dt_mod
        intro i hi j hj
        rw [at_app]
        by_cases li : i < m.length
        · rw [if_pos li, if_pos (by rw [k.ml]; exact li), upd_ne _ (by omega), upd_same, k.mr i li j hj, Int.emod_emod, at_app, if_pos li]
        · rw [if_neg li, if_neg (by rw [k.ml]; exact li), k.ml]
          by_cases ei : i = m.length
          · rw [ei, upd_same, Nat.sub_self, at_cons0]
          · obtain ⟨x, hx⟩ : ∃ x, i - m.length = x + 1 := ⟨i - m.length - 1, by omega⟩
            rw [upd_ne _ ei, at_app, if_neg li, hx, at_cons, at_cons]
      have e3 := dt_ins s X (t := t) (m := m') (n := n) (by rw [k.ml]; exact k.tn) (by rw [k.ml]; exact hmn)
      rw [k.ml] at e3
      have e4 : dt n (at' (m ++ r :: X)) % p = num r' q * dt n (at' (m' ++ s :: X)) % p := by
        rw [dt_red k.red hmn, e1, Int.mul_emod, e2, ← Int.mul_emod]
      rw [h2, Int.mul_emod, e4, ← Int.mul_emod, e3, emod_mul]
      generalize dt n (at' (m' ++ s :: X)) = D
      unfold sgn sg
      by_cases ev : (m.length - t) % 2 = 0
      · rw [if_pos ev, if_pos ev, Int.one_mul, Int.mul_assoc]
      · rw [if_neg ev, if_neg ev]
        generalize num r' q = x
        have c1 : d * (-x % p) * (-1 * D) = -1 * D * d * (-x % p) := by rw [Int.mul_comm (d * (-x % p)), ← Int.mul_assoc]
        have c2 : -1 * D * d * (-x) = d * (x * D) := by
          simp only [Int.neg_mul, Int.mul_neg, Int.neg_neg, Int.one_mul]
          rw [Int.mul_comm D d, Int.mul_assoc, Int.mul_comm D x]
        rw [c1, mul_emod_r, c2]
    · exact .inr ⟨by omega, h2⟩

theorem Rref.unit {p : Int} {n : Nat} {R : Nat → Nat → Int} {P : Nat → Nat} (h : Rref p n n R P) : (∀ i, i < n → P i = i) ∧ ∀ i, i < n → ∀ j, j < n → R i j = if i = j then 1 else 0 := by
  have lo : ∀ i, i < n → i ≤ P i := by
    intro i
    induction i with
    | zero => intro _; exact Nat.zero_le _
    | succ i ih => intro hi; have := ih (by omega); have := h.mono i (i + 1) (by omega) hi; omega
  have up : ∀ k i, i + k < n → P i + k ≤ P (i + k) := by
    intro k
    induction k with
    | zero => intro i _; exact Nat.le_refl _
    | succ k ih => intro i hi; have := ih i (by omega); have := h.mono (i + k) (i + (k + 1)) (by omega) hi; omega
  have eq : ∀ i, i < n → P i = i := fun i hi => by
    have h1 := lo i hi
    have h2 := up (n - 1 - i) i (by omega)
    have h3 := h.pv (i + (n - 1 - i)) (by omega)
    omega
  refine ⟨eq, fun i hi j hj => ?_⟩
  by_cases e : i = j
  · subst e; rw [if_pos rfl]; have := h.one i hi; rwa [eq i hi] at this
  · rw [if_neg e]; have := h.zer j hj i hi (fun q => e q.symm); rwa [eq j hj] at this
/-- The determinant of a square matrix modulo p. -/
def detP (p : Int) (A : List (List Int)) : Int := dt A.length (at' A) % p
theorem Elm.value {p : Int} {n : Nat} {A m : List (List Int)} {P : Nat → Nat} {d : Int} (hp : prm p = true) (h : Elm p n A m P d) (hn : A.length = n) :
    (m.length = n ∧ detP p A = d ∧ ∀ i, i < n → P i = i) ∨ (m.length < n ∧ detP p A = 0) := by
  unfold detP
  rcases h.detX hp [] (by simpa using hn) with ⟨h1, h2⟩ | ⟨h1, h2⟩
  · have hk := (h.kept hp).red
    have hmn : m.length = n := by omega
    rw [hmn] at hk
    refine .inl ⟨hmn, ?_, hk.unit.1⟩
    rw [List.append_nil, List.append_nil] at h2
    rw [hn, h2, dt_one hk.unit.2, Int.mul_one]
    have := h.det hp
    exact Int.emod_eq_of_lt this.1 this.2
  · rw [List.append_nil] at h2
    exact .inr ⟨by omega, by rw [hn]; exact h2⟩

end Go.Proofs.Ytdamdlihicinlaa

namespace Go.Proofs.Ytdamdlihicinlaa
set_option linter.unusedVariables false

theorem mul0 {p a b : Int} (hp : prm p = true) (a0 : 0 ≤ a) (a1 : a < p) (b0 : 0 ≤ b) (b1 : b < p) : a * b % p = 0 ↔ a = 0 ∨ b = 0 := by
  have := every2_at (Q := fun p a b => decide (a * b % p = 0 ↔ a = 0 ∨ b = 0)) (by decide +kernel) hp a0 a1 b0 b1
  exact of_decide_eq_true this
theorem Elm.ne0 {p : Int} {c : Nat} {A m : List (List Int)} {P : Nat → Nat} {d : Int} (hp : prm p = true) (h : Elm p c A m P d) : d ≠ 0 := by
  have hpb := prm_bd hp
  induction h with
  | start P => decide
  | same _ _ _ _ ih => exact ih
  | @more A m m' P d r r' s q t h k ih =>
    have hd := h.det hp
    have hx := k.red.rng q k.qc
    have hx0 := k.q0
    have hs : 0 ≤ sgn p m.length t (num r' q) ∧ sgn p m.length t (num r' q) < p ∧ sgn p m.length t (num r' q) ≠ 0 := by
      unfold sgn
      split
      · exact ⟨hx.1, hx.2, hx0⟩
      · have e : -num r' q % p = p - num r' q := by
          have e1 : (p - num r' q) % p = -num r' q % p := by simp
          rw [← e1, Int.emod_eq_of_lt (by omega) (by omega)]
        rw [e]
        exact ⟨by omega, by omega, by omega⟩
    intro e
    rcases (mul0 hp hd.1 hd.2 hs.1 hs.2.1).1 e with h1 | h1
    · exact ih h1
    · exact hs.2.2 h1

theorem red2_ex {p : Int} {c : Nat} {m : List (List Int)} {P : Nat → Nat} {r : List Int} (hp : prm p = true) (hR : Rref p m.length c (at' m) P) (hl : r.length = c) (hr : ∀ j, j < c → 0 ≤ num r j ∧ num r j < p) (k : Nat) (hk : k ≤ m.length) : ∃ r', Red2 p c m P r r' k := by
  induction k with
  | zero => exact ⟨r, Red2.start hl hr⟩
  | succ k ih =>
    obtain ⟨r', h⟩ := ih (by omega)
    exact ⟨mkR c fun j => (num r' j + (p - num r' (P k)) % p * at' m k j) % p, h.next hp hR (by omega) (mkR_len _ _) (fun j hj => mkR_at _ hj)⟩
theorem place_ex {n q : Nat} {P : Nat → Nat} (mono : ∀ i i', i < i' → i' < n → P i < P i') (hne : ∀ i, i < n → P i ≠ q) : ∃ t, t ≤ n ∧ (∀ i, i < t → P i < q) ∧ ∀ i, t ≤ i → i < n → q < P i := by
  induction n with
  | zero => exact ⟨0, Nat.le_refl _, fun i hi => by omega, fun i _ hi => by omega⟩
  | succ n ih =>
    obtain ⟨t, h1, h2, h3⟩ := ih (fun i i' a b => mono i i' a (by omega)) (fun i hi => hne i (by omega))
    have := hne n (by omega)
    rcases Nat.lt_or_ge (P n) q with h | h
    · refine ⟨n + 1, Nat.le_refl _, fun i hi => ?_, fun i a b => by omega⟩
      by_cases e : i = n
      · subst e; exact h
      · have := mono i n (by omega) (by omega); omega
    · refine ⟨t, by omega, h2, fun i a b => ?_⟩
      by_cases e : i = n
      · subst e; omega
      · exact h3 i a (by omega)
theorem take_one {m : List (List Int)} {i : Nat} (h : i < m.length) : m.take (i + 1) = m.take i ++ [rw' m i] := by
  rw [List.take_succ_eq_append_getElem h]
  congr 2
  simp [rw', h]
/-- Every matrix can be eliminated. -/
theorem elm_ex {p : Int} {c : Nat} {A : List (List Int)} (hp : prm p = true) (hl : ∀ i, i < A.length → (rw' A i).length = c) (hr : ∀ i, i < A.length → ∀ j, j < c → 0 ≤ at' A i j ∧ at' A i j < p) (k : Nat) (hk : k ≤ A.length) : ∃ m P d, Elm p c (A.take k) m P d := by
  induction k with
  | zero => exact ⟨[], fun _ => 0, 1, by rw [List.take_zero]; exact Elm.start _⟩
  | succ k ih =>
    obtain ⟨m, P, d, h⟩ := ih (by omega)
    have hK := h.kept hp
    obtain ⟨r', hr'⟩ := red2_ex (r := rw' A k) hp hK.red (hl k (by omega)) (fun j hj => hr k (by omega) j hj) m.length (Nat.le_refl _)
    rw [take_one (by omega)]
    rcases fst_cases r' with ⟨q, q1, q2, q3⟩ | h0
    · rw [hr'.len] at q1
      have hne : ∀ i, i < m.length → P i ≠ q := fun i hi e => q3 (by have := hr'.zer i hi; rw [e] at this; exact this)
      obtain ⟨t, t1, t2, t3⟩ := place_ex hK.red.mono hne
      exact ⟨_, _, _, h.more (s := mkR c fun j => num r' j * inv p (num r' q) % p) (m' := mk m.length c fun i j => (at' m i j + (p - at' m i q) % p * num (mkR c fun j => num r' j * inv p (num r' q) % p) j) % p) (q := q) (t := t)
        ⟨hl k (by omega), hr', q1, q3, q2, fun j hj => mkR_at _ hj, mkR_len _ _, mk_len _ _ _, fun i hi => mk_rowLen _ hi, fun i hi j hj => mk_at _ hi hj, t1, t2, t3⟩⟩
    · exact ⟨m, P, d, h.same (hl k (by omega)) hr' (fun j hj => h0 j (by rw [hr'.len]; exact hj))⟩

theorem Rref.lo {p : Int} {n c : Nat} {R : Nat → Nat → Int} {P : Nat → Nat} (h : Rref p n c R P) : ∀ i, i < n → i ≤ P i := by
  intro i
  induction i with
  | zero => intro _; exact Nat.zero_le _
  | succ i ih => intro hi; have := ih (by omega); have := h.mono i (i + 1) (by omega) hi; omega
theorem Rref.up {p : Int} {n c : Nat} {R : Nat → Nat → Int} {P : Nat → Nat} (h : Rref p n c R P) : ∀ k i, i + k < n → P i + k ≤ P (i + k) := by
  intro k
  induction k with
  | zero => intro i _; exact Nat.le_refl _
  | succ k ih => intro i hi; have := ih i (by omega); have := h.mono (i + k) (i + (k + 1)) (by omega) hi; omega
/-- Where all of the first columns are pivots, they are in order. -/
theorem Rref.all {p : Int} {n c N : Nat} {R : Nat → Nat → Int} {P : Nat → Nat} (h : Rref p n c R P) (ha : ∀ k, k < N → ∃ i, i < n ∧ P i = k) : ∀ k, k < N → k < n ∧ P k = k := by
  intro k
  induction k using Nat.strongRecOn with
  | ind k ih =>
    intro hk
    obtain ⟨i, hi, e⟩ := ha k hk
    rcases Nat.lt_trichotomy i k with l | l | l
    · have := (ih i l (by omega)).2; omega
    · subst l; exact ⟨hi, e⟩
    · have h1 := h.mono k i l hi
      have h2 := h.lo k (by omega)
      omega
theorem Rref.free {p : Int} {n c N : Nat} {R : Nat → Nat → Int} {P : Nat → Nat} (h : Rref p n c R P) (hno : ¬ ∀ k, k < N → k < n ∧ P k = k) : ∃ k, k < N ∧ ∀ i, i < n → P i ≠ k := by
  refine Classical.byContradiction fun hc => hno (h.all fun k hk => Classical.byContradiction fun hd => hc ⟨k, hk, fun i hi e => hd ⟨i, hi, e⟩⟩)

theorem sm_split (n k : Nat) (f : Nat → Int) : sm (n + k) f = sm n f + sm k fun j => f (n + j) := by
  induction k with
  | zero => simp [sm]
  | succ k ih =>
    show sm (n + k) f + f (n + k) = _
    rw [ih]
    simp only [sm]
    omega
/-- The rows vanish at nothing but 0. -/
def triv (p : Int) (n : Nat) (A : List (List Int)) : Prop := ∀ x : Nat → Int, nul p n n (at' A) x → ∀ j, j < n → x j % p = 0
theorem det_triv {p : Int} {n : Nat} {A : List (List Int)} (hp : prm p = true) (hn : A.length = n) (hl : ∀ i, i < A.length → (rw' A i).length = n) (hr : ∀ i, i < A.length → ∀ j, j < n → 0 ≤ at' A i j ∧ at' A i j < p) : detP p A ≠ 0 ↔ triv p n A := by
  have hpb := prm_bd hp
  obtain ⟨m, P, d, h⟩ := elm_ex hp hl hr A.length (Nat.le_refl _)
  rw [List.take_length] at h
  have hK := h.kept hp
  rcases h.value hp hn with ⟨h1, h2, h3⟩ | ⟨h1, h2⟩
  · refine ⟨fun _ x hx j hj => ?_, fun _ e => h.ne0 hp (by rw [← h2]; exact e)⟩
    have hR := hK.red
    have hx2 := (hK.nul x).1 (by rw [hn]; exact hx)
    rw [h1] at hR hx2
    have hu := hR.unit.2
    have := hx2 j hj
    have e : sm n (fun k => at' m j k * x k) = sm n (fun k => if k = j then x j else 0) := sm_congr fun k hk => by
      rw [hu j hj k hk]
      by_cases e : j = k
      · subst e; simp
      · rw [if_neg e, if_neg (fun q => e q.symm)]; simp
    rw [e, sm_single, if_pos hj] at this
    exact this
  · refine ⟨fun e => absurd h2 e, fun ht _ => ?_⟩
    obtain ⟨k, hk, hf⟩ := hK.red.free (N := n) (fun q => by have := (q (n - 1) (by omega)).1; omega)
    have hz := ht (kv m.length (at' m) P k) (by have := (hK.nul (kv m.length (at' m) P k)).2 (kv_nul hK.red hk); rwa [hn] at this) k hk
    rw [kv_top hK.red hf, Int.emod_eq_of_lt (by omega) (by omega)] at hz
    omega

/-- Beside the unit matrix no row is taken in vain. -/
theorem elm_beside {p : Int} {n : Nat} {A m : List (List Int)} {P : Nat → Nat} {d : Int} (hp : prm p = true) (h : Elm p (n + n) A m P d) : A.length ≤ n → (∀ i, i < A.length → ∀ j, j < n → at' A i (n + j) = if i = j then 1 else 0) →
    m.length = A.length ∧ ∀ i, i < m.length → ∀ j, A.length ≤ j → j < n → at' m i (n + j) = 0 := by
  have hpb := prm_bd hp
  induction h with
  | start P => exact fun _ _ => ⟨rfl, fun i hi => by simp at hi⟩
  | @same A m P d r r' h hl hr h0 ih =>
    intro hle hU
    rw [List.length_append] at hle
    have hle' : A.length + 1 ≤ n := hle
    obtain ⟨e, z⟩ := ih (by omega) (fun i hi j hj => by have := hU i (by rw [List.length_append]; omega) j hj; rwa [at_append_old hi] at this)
    exfalso
    obtain ⟨K, hKK⟩ := hr.lin
    have h1 := hKK (n + A.length) (by omega)
    have e1 : sm m.length (fun i => K i * at' m i (n + A.length)) = sm m.length (fun _ => 0) := sm_congr fun i hi => by rw [z i hi A.length (Nat.le_refl _) (by omega), Int.mul_zero]
    have e2 : num r (n + A.length) = 1 := by
      have := hU A.length (by rw [List.length_append]; simp) A.length (by omega)
      rwa [at_append_new, if_pos rfl] at this
    rw [h0 _ (by omega), e1, sm_zero, e2] at h1
    rw [Int.add_zero, Int.emod_eq_of_lt (a := 1) (by omega) (by omega)] at h1
    simp at h1
  | @more A m m' P d r r' s q t h k ih =>
    intro hle hU
    rw [List.length_append] at hle
    have hle' : A.length + 1 ≤ n := hle
    obtain ⟨e, z⟩ := ih (by omega) (fun i hi j hj => by have := hU i (by rw [List.length_append]; omega) j hj; rwa [at_append_old hi] at this)
    have htm : t ≤ m'.length := by rw [k.ml]; exact k.tn
    have hlen : (ins _ m' t s).length = m.length + 1 := by rw [ins_len _ htm, k.ml]
    refine ⟨by rw [hlen, List.length_append, e]; rfl, fun i hi j hj hjn => ?_⟩
    rw [List.length_append] at hj
    have hj' : A.length + 1 ≤ j := hj
    obtain ⟨K, hKK⟩ := k.red.lin
    have h1 := hKK (n + j) (by omega)
    have e1 : sm m.length (fun i => K i * at' m i (n + j)) = sm m.length (fun _ => 0) := sm_congr fun i hi => by rw [z i hi j (by omega) hjn, Int.mul_zero]
    have e2 : num r (n + j) = 0 := by
      have := hU A.length (by rw [List.length_append]; simp) j hjn
      rwa [at_append_new, if_neg (by omega)] at this
    rw [e1, sm_zero, e2] at h1
    have rb := k.red.rng (n + j) (by omega)
    have r0 : num r' (n + j) = 0 := by
      rw [Int.emod_eq_of_lt rb.1 rb.2] at h1
      simpa using h1
    have s0 : num s (n + j) = 0 := by rw [k.ss _ (by omega), r0]; simp
    rw [hlen] at hi
    by_cases ei : i = t
    · subst ei
      rw [at_ins_new s htm]; exact s0
    · rw [at_ins s htm ei, k.mr _ (old_lt hi ei k.tn) _ (by omega), s0, z _ (old_lt hi ei k.tn) j (by omega) hjn]
      simp

theorem one_at' {n i j : Nat} (hi : i < n) (hj : j < n) : at' (oneM n) i j = if i = j then 1 else 0 := mk_at _ hi hj
theorem one_rl {n i : Nat} (hi : i < n) : (rw' (oneM n) i).length = n := mk_rowLen _ hi
theorem one_rows {p : Int} {A : List (List Int)} (h : Lst 1 p A) (hq : A.length = (rw' A 0).length) : RowsX p (A.length + A.length) (bes A (oneM A.length)) := by
  have hpb := prm_bd h.prime
  have h1 := bes_rows (O := oneM A.length) (d := A.length) h (fun i hi => one_rl hi) (by have := h.hi; omega) (fun i hi j hj => by rw [one_at' hi hj]; split <;> omega)
  rwa [← hq] at h1
theorem bes_right {A : List (List Int)} {n : Nat} (hn : A.length = n) (hl : ∀ i, i < A.length → (rw' A i).length = n) : ∀ i, i < (bes A (oneM n)).length → ∀ j, j < n → at' (bes A (oneM n)) i (n + j) = if i = j then 1 else 0 := fun i hi j hj => by
  rw [bes_len] at hi
  rw [bes_at hi (hl i hi), if_neg (by omega), one_at' (by omega) (by omega)]
  by_cases e : i = j
  · rw [if_pos e, if_pos (by omega)]
  · rw [if_neg e, if_neg (by omega)]
/-- Whether the pivots are the first columns. -/
theorem inv_iff_det {p : Int} {n : Nat} {A B : List (List Int)} (hp : prm p = true) (hn : A.length = n) (h0 : 0 < n) (hl : ∀ i, i < A.length → (rw' A i).length = n) (hr : ∀ i, i < A.length → ∀ j, j < n → 0 ≤ at' A i j ∧ at' A i j < p)
    (hB : IsBas p (n + n) (bes A (oneM n)) B) (hBl : B.length = n) : pvs B (n - 1) = n - 1 ↔ detP p A ≠ 0 := by
  have hpb := prm_bd hp
  have hR := hB.pivs
  rw [hBl] at hR
  rw [det_triv hp hn hl hr]
  have left : ∀ z : Nat → Int, (∀ j, n ≤ j → z j = 0) → (nul p (bes A (oneM n)).length (n + n) (at' (bes A (oneM n))) z ↔ nul p n n (at' A) z) := fun z hz => by
    rw [bes_len, hn]
    have e : ∀ i, i < n → sm (n + n) (fun j => at' (bes A (oneM n)) i j * z j) = sm n (fun j => at' A i j * z j) := fun i hi => by
      rw [sm_split]
      have e1 : sm n (fun j => at' (bes A (oneM n)) i (n + j) * z (n + j)) = sm n (fun _ => 0) := sm_congr fun j hj => by rw [hz (n + j) (by omega), Int.mul_zero]
      rw [e1, sm_zero, Int.add_zero]
      exact sm_congr fun j hj => by rw [bes_at (by omega) (hl i (by omega)), if_pos hj]
    constructor
    · intro h i hi; have := h i hi; rwa [e i hi] at this
    · intro h i hi; rw [e i hi]; exact h i hi
  constructor
  · intro hP x hx j hj
    have hid : ∀ i, i < n → pvs B i = i := fun i hi => by
      have h1 := hR.lo i hi
      have h2 := hR.up (n - 1 - i) i (by omega)
      have e : i + (n - 1 - i) = n - 1 := by omega
      rw [e] at h2
      omega
    have hz := (left (fun j => if j < n then x j else 0) (fun j hj => if_neg (by omega))).2 (fun i hi => by
      have := hx i hi
      rw [sm_congr (g := fun j => at' A i j * x j) (fun j hj => by show at' A i j * (if j < n then x j else 0) = _; rw [if_pos hj])]
      exact this)
    have hz2 := (hB.nul _).1 hz j (by omega)
    rw [sm_split] at hz2
    have e1 : sm n (fun k => at' B j (n + k) * (if n + k < n then x (n + k) else 0)) = sm n (fun _ => 0) := sm_congr fun k hk => by rw [if_neg (by omega), Int.mul_zero]
    have e2 : sm n (fun k => at' B j k * (if k < n then x k else 0)) = sm n (fun k => if k = j then x j else 0) := sm_congr fun k hk => by
      rw [if_pos hk]
      by_cases e : k = j
      · subst e
        have := hR.one k hk
        rw [hid k hk] at this
        rw [this, if_pos rfl, Int.one_mul]
      · have := hR.zer k hk j hj e
        rw [hid k hk] at this
        rw [this, if_neg e, Int.zero_mul]
    rw [e1, e2, sm_zero, Int.add_zero, sm_single, if_pos hj] at hz2
    exact hz2
  · intro ht
    refine Classical.byContradiction fun hP => ?_
    obtain ⟨k, hk, hf⟩ := hR.free (N := n) (fun q => hP (q (n - 1) (by omega)).2)
    have hv := (hB.nul _).2 (by rw [hBl]; exact kv_nul hR (k := k) (by omega))
    have hv2 := (left _ (fun j hj => kv_over hR (by omega))).1 hv
    have hz := ht _ hv2 k hk
    rw [kv_top hR hf, Int.emod_eq_of_lt (by omega) (by omega)] at hz
    omega

end Go.Proofs.Ytdamdlihicinlaa
