/-
  The terms of a multivector as a map of the program's, and what is still to come of them when they are ranged over in any order.
  No conditions.
  Multivectors of zeros, blades and vectors in both: contracts.
  Conditions: the lists are nil or rows of known cells, of at most 1048576 numbers.
  What the model's sums, multiples, copies, turned matrices and unit matrices are: contracts.
  Conditions: the lists and matrices are rows of known cells with numbers of the prime; their sizes fit.
  BladeOf, VectorOf, ScalarOf, AddMultivectors, ScaleMultivector: contracts of the program and of the model.
  Conditions: the lists are nil or rows of known cells, of at most 1048576 numbers.
  Grades of blades and terms of multivectors, in the program; grades in the model.
  Conditions: masks of at most six bits; the multivector is a row of known cells.
  GradePart: contracts of the program and of the model.
  Conditions: the lists are nil or rows of known cells, of at most 1048576 numbers.
-/
import Derived.Test.YthbkfpkeofpocaaGreatQv3
import Derived.Test.YthbkfpkeofpocaaGreatQv5
import Derived.Maps.RangeWalk
import Derived.Test.YthbkfpkeofpocaaGreatQv4
import Derived.Deep.RegionHeld3
import Derived.BigQuiet
import Derived.Deep.AppendLies
import Derived.Maps.Own
import Derived.Maps.OwnSet
namespace Go.Proofs.YthbkfpkeofpocaaGreat
open Go.RowKit Go.Maps
set_option linter.unusedVariables false

/-- The map has the numbers of x up to k that are not 0. -/
structure Tm (D : DataW Unit) (x : List Int) (k : Nat) : Prop where
  only : ∀ kl, has D kl = true → ∃ j : Nat, j < k ∧ kl = .int .i64 j
  val : ∀ j : Nat, j < k → x.getD j 0 ≠ 0 → has D (.int .i64 j) = true ∧ ∀ z, D.atKey (.int .i64 j) z = .lit (.int .i64 (x.getD j 0))
  no : ∀ j : Nat, j < k → x.getD j 0 = 0 → has D (.int .i64 j) = false
theorem key_ne {i j : Nat} (h : i ≠ j) : (Lit.int .i64 (i : Int)) ≠ .int .i64 (j : Int) := fun e => by injection e with _ e; omega
theorem Tm.start (x : List Int) : Tm (.map []) x 0 := ⟨fun kl h => by simp [has] at h, fun j h => by omega, fun j h => by omega⟩
theorem Tm.fresh {D : DataW Unit} {x : List Int} {k : Nat} (h : Tm D x k) : has D (.int .i64 (k : Int)) = false := by
  cases e : has D (.int .i64 (k : Int)) with
  | false => rfl
  | true =>
    obtain ⟨j, hj, e2⟩ := h.only _ e
    exact absurd e2 (key_ne (by omega))
theorem Tm.skip {D : DataW Unit} {x : List Int} {k : Nat} (h : Tm D x k) (hx : x.getD k 0 = 0) : Tm D x (k + 1) where
  only kl hk := by
    obtain ⟨j, hj, e⟩ := h.only kl hk
    exact ⟨j, by omega, e⟩
  val j hj hne := h.val j (by
    by_cases e : j = k
    · subst e; exact absurd hx hne
    · omega) hne
  no j hj h0 := by
    by_cases e : j = k
    · subst e; exact h.fresh
    · exact h.no j (by omega) h0
theorem Tm.put {D : DataW Unit} {x : List Int} {k : Nat} (h : Tm D x k) (hm : IsMap D) (hx : x.getD k 0 ≠ 0) : Tm (D.put (.int .i64 (k : Int)) (.lit (.int .i64 (x.getD k 0)))) x (k + 1) where
  only kl hk := by
    by_cases e : kl = .int .i64 (k : Int)
    · exact ⟨k, by omega, e⟩
    · rw [has_put_other e] at hk
      obtain ⟨j, hj, e⟩ := h.only kl hk
      exact ⟨j, by omega, e⟩
  val j hj hne := by
    by_cases e : j = k
    · subst e; exact ⟨has_put_same hm (show WideAt.IsKeyLit (.int .i64 (j : Int)) from trivial) _, fun z => atKey_put_same hm (show WideAt.IsKeyLit (.int .i64 (j : Int)) from trivial) _ z⟩
    · obtain ⟨h1, h2⟩ := h.val j (by omega) hne
      exact ⟨by rw [has_put_other (key_ne e)]; exact h1, fun z => by rw [atKey_put_other (key_ne e)]; exact h2 z⟩
  no j hj h0 := by
    by_cases e : j = k
    · subst e; exact absurd h0 hx
    · rw [has_put_other (key_ne e)]; exact h.no j (by omega) h0

/-- Whether the term at j is still to come. -/
def td (left : Lit → Bool) (j : Nat) : Bool := left (.int .i64 (j : Int))
def Sub (left : Lit → Bool) (D : DataW Unit) : Prop := ∀ kl, left kl = true → has D kl = true
theorem sub_refl (D : DataW Unit) : Sub (has D) D := fun _ h => h
/-- An entry that comes is a term. -/
theorem Tm.come {D : DataW Unit} {x : List Int} {n : Nat} {left : Lit → Bool} {k c : Int} (h : Tm D x n) (hs : Sub left D) (hl : left (.int .i64 k) = true) (hat : ∀ zd, D.atKey (.int .i64 k) zd = .lit (.int .i64 c)) :
    ∃ j : Nat, j < n ∧ k = j ∧ c = x.getD j 0 ∧ x.getD j 0 ≠ 0 ∧ td left j = true := by
  obtain ⟨j, hj, e⟩ := h.only _ (hs _ hl)
  injection e with _ e
  subst e
  have hne : x.getD j 0 ≠ 0 := fun e0 => by
    have h1 := h.no j hj e0
    rw [hs _ hl] at h1; cases h1
  have h2 := (h.val j hj hne).2 (.lit (.int .i64 0))
  rw [hat] at h2
  injection h2 with h2
  injection h2 with _ h2
  exact ⟨j, hj, rfl, h2, hne, hl⟩
theorem sub_strike {left : Lit → Bool} {D : DataW Unit} (h : Sub left D) (kl : Lit) : Sub (fun z => left z && !z.sameKey kl) D := fun z hz => h z (by simp only [Bool.and_eq_true] at hz; exact hz.1)
theorem td_same (left : Lit → Bool) (j : Nat) : td (fun z => left z && !z.sameKey (.int .i64 (j : Int))) j = false := by
  show (left _ && !(Lit.sameKey _ _)) = false
  rw [WideAt.sameKey_self (a := .int .i64 (j : Int)) trivial]; simp
theorem td_other (left : Lit → Bool) {i j : Nat} (h : i ≠ j) : td (fun z => left z && !z.sameKey (.int .i64 (j : Int))) i = td left i := by
  show (left _ && !(Lit.sameKey _ _)) = left _
  rw [sameKey_ne (key_ne h)]; simp
theorem td_none {left : Lit → Bool} (h : ∀ kl, left kl = false) (j : Nat) : td left j = false := h _
theorem td_all {D : DataW Unit} {x : List Int} {n : Nat} (h : Tm D x n) {j : Nat} (hj : j < n) : x.getD j 0 ≠ 0 → td (has D) j = true := fun hne => (h.val j hj hne).1

/-- A row filled term by term: those that have come have their number. -/
def fl (x : List Int) (left : Lit → Bool) (g : Nat → Int) (j : Nat) : Int := if x.getD j 0 ≠ 0 ∧ td left j = false then g j else 0
theorem RowOwn.put {w : World} {b o n : Nat} {f : Nat → Int} (h : RowOwn w b o n f) {j : Nat} (hj : j < n) (v : Int) : RowOwn (w.setCell ⟨b, o + j, none⟩ (.int .i64 v)) b o n (fun i => if i = j then v else f i) where
  cell i hi := by
    by_cases e : i = j
    · subst e; rw [if_pos rfl]; exact World.cell?_setCell_same w _ _ (h.cell i hi)
    · rw [if_neg e]; exact (World.cell?_setCell_other _ _ _ _ (by first | (simp; done) | (simp; omega))).trans (h.cell i hi)
  free i hi := by simp [go_sem, h.free i hi]
theorem RowOwn.congr {w : World} {b o n : Nat} {f g : Nat → Int} (h : RowOwn w b o n f) (e : ∀ j, j < n → f j = g j) : RowOwn w b o n g := ⟨fun j hj => by rw [← e j hj]; exact h.cell j hj, h.free⟩
theorem fl_start {D : DataW Unit} {x : List Int} {n : Nat} (h : Tm D x n) (g : Nat → Int) {j : Nat} (hj : j < n) : fl x (has D) g j = 0 := by
  unfold fl
  rw [if_neg (fun k => by rw [td_all h hj k.1] at k; cases k.2)]
theorem fl_end {x : List Int} {left : Lit → Bool} (h : ∀ kl, left kl = false) (g : Nat → Int) (j : Nat) : fl x left g j = if x.getD j 0 ≠ 0 then g j else 0 := by
  unfold fl
  by_cases e : x.getD j 0 ≠ 0
  · rw [if_pos ⟨e, td_none h j⟩, if_pos e]
  · rw [if_neg (fun k => e k.1), if_neg e]
theorem fl_step {x : List Int} {left : Lit → Bool} {g : Nat → Int} {k : Nat} (hne : x.getD k 0 ≠ 0) (j : Nat) : (if j = k then g k else fl x left g j) = fl x (fun z => left z && !z.sameKey (.int .i64 (k : Int))) g j := by
  unfold fl
  by_cases e : j = k
  · subst e; rw [if_pos rfl, if_pos ⟨hne, td_same left j⟩]
  · rw [if_neg e, td_other left e]
theorem RowOwn.start (w : World) (n : Nat) (t : TypeId) : RowOwn (w.alloc (.cells (madeCells #[.int .i64 0] n) t)) w.heap.size 0 n (fun _ => 0) where
  cell j hj := by
    rw [Nat.zero_add]
    exact made_cell w (.int .i64 0) n t hj
  free j hj := by simp [go_sem]

/-- A store into another block keeps what is ranged over. -/
theorem ranges_set {w : World} {P : Program} {k : TypeId} {R : Value → Option (DataW Unit × List MemPlace)} {b r n : Nat} {D : DataW Unit} {left : Lit → Bool} {cnt : Nat} (h : w.ranges P k R b r n D left cnt) (c i : Nat) (v : Value) (hb : b ≠ c) (hr : r ≠ c) : (w.setCell ⟨c, i, none⟩ v).ranges P k R b r n D left cnt := by
  obtain ⟨es, clock, since, seen, c0, h1, h2, h3, h4, h5, h6⟩ := h
  exact ⟨es, clock, since, seen, c0, (Below.heap_setCell _ _ _ _ hb).trans h1, h2, h3, h4, (Below.heap_setCell _ _ _ _ hr).trans h5, h6⟩
theorem ranges_below {B : Nat} {w w' : World} {P : Program} {k : TypeId} {R : Value → Option (DataW Unit × List MemPlace)} {b r n : Nat} {D : DataW Unit} {left : Lit → Bool} {cnt : Nat} (h : w.ranges P k R b r n D left cnt) (hb : Below B w w') (h0 : b < B) (h1 : r < B) : w'.ranges P k R b r n D left cnt := by
  obtain ⟨es, clock, since, seen, c0, k1, h2, h3, h4, k5, h6⟩ := h
  exact ⟨es, clock, since, seen, c0, (hb.block b h0).trans k1, h2, h3, h4, (hb.block r h1).trans k5, h6⟩
end Go.Proofs.YthbkfpkeofpocaaGreat

namespace Go.Proofs.YthbkfpkeofpocaaGreat
open Go.RowKit
set_option linter.unusedVariables false

/-- A row of one's own at the start of a new block. -/
def NewRow (n : Nat) (f : Nat → Int) (w : World) (e : Ending) (w' : World) : Prop :=
  ∃ b, e = .returned (.slice (some ⟨b, 0, none⟩) n n) ∧ w.heap.size ≤ b ∧ b < w'.heap.size ∧ RowOwn w' b 0 n f ∧ Below w.heap.size w w'
theorem RowOwn.own {lo tp : Nat} {w : World} {b o n : Nat} {f : Nat → Int} (h : RowOwn w b o n f) (h0 : lo ≤ b) (h1 : b < tp) : OwnR lo tp w (some ⟨b, o, none⟩) (mkR n f) :=
  .inr ⟨b, o, rfl, h0, h1, fun j hj => by
    rw [mkR_len] at hj
    rw [mkR_at _ hj]
    exact ⟨h.cell j hj, h.free j hj⟩⟩
theorem pow_lt {i n : Nat} (h : i < n) : 2 ^ i < 2 ^ n := Nat.pow_lt_pow_right (by decide) h

set_option maxHeartbeats 800000 in
theorem l04Zero_any (p : Int) (a : Option Addr) (S : List Int) (c : Nat) (w : World) (h : S.length ≤ 6) :
    Calls Tryz.prog 68 #[.agg #[.int .i64 p, .slice a S.length c]] w (NewRow (bl S) (fun _ => 0) w) := by
  have hbl := bl_le h
  have hmk := fun W => run_make_row' (P := Tryz.prog) 22 2 (.int .i64 0) 8 Tryz.underlying22 info64 rfl .i64 .i64 (bl S) (by omega) (by omega) W
  go_enter Tryz.func68, Tryz.ntmps68
  go_wp2_with (go_at_call 84; (with_reducible refine (l04Size_any p a S c _ h).mono ?_); rintro e w1 ⟨rfl, hb1⟩; have HB1 := Lib.hid hb1; have hz1 := hb1.size; clear hb1)
  go_ret
  have hb := below_step (below_alloc w _) (by simp) HB1.out
  exact ⟨w1.heap.size, rfl, hb.size, by simp, RowOwn.start w1 (bl S) _, hb.alloc (hb.size) _⟩

theorem one_rowA (w : World) {n k : Nat} (t : TypeId) (v : Int) : RowOwn (w.alloc (.cells ((madeCells #[.int .i64 0] n).setIfInBounds k (.int .i64 v)) t)) w.heap.size 0 n (fun j => if j = k then v else 0) where
  cell j hj := by
    rw [Nat.zero_add, World.cell?_alloc_new, Array.getElem?_setIfInBounds]
    by_cases e : k = j
    · subst e; simp [size_madeCells, hj]
    · rw [if_neg e, if_neg (fun h => e h.symm)]; simp [madeCells, hj, Nat.mod_one]
  free j hj := by simp [go_sem]

set_option maxHeartbeats 800000 in
theorem blade_any (p : Int) (a : Option Addr) (S : List Int) (c k : Nat) (w : World) (h : S.length ≤ 6) (hk : k < bl S) :
    Calls Tryz.prog 44 #[.agg #[.int .i64 p, .slice a S.length c], .int .i64 k] w (NewRow (bl S) (fun j => if j = k then 1 else 0) w) := by
  have hbl := bl_le h
  have hmk := fun W => run_make_row' (P := Tryz.prog) 22 2 (.int .i64 0) 8 Tryz.underlying22 info64 rfl .i64 .i64 (bl S) (by omega) (by omega) W
  go_enter Tryz.func44, Tryz.ntmps44
  go_wp2_with (go_at_call 59; ((with_reducible refine (blades_any p a S c _ h).mono ?_); rintro e w1 ⟨rfl, hb1⟩; have HB1 := Lib.hid hb1; have hz1 := hb1.size; have g0 := made_cell w1 (.int .i64 0) (bl S) 2 hk; have f0 : (w1.alloc (.cells (madeCells #[.int .i64 0] (bl S)) 2)).frozen? ⟨w1.heap.size, k, none⟩ = false := (by simp [go_sem]); clear hb1))
  go_ret
  have hb := below_step (below_alloc w _) (by simp) HB1.out
  exact ⟨w1.heap.size, rfl, hb.size, by simp, one_rowA _ _ _, hb.alloc (hb.size) _⟩

theorem SpecR.new {n : Nat} {f : Nat → Int} {b : Nat} {C : Int} {w w' : World} (h : RowOwn w' b 0 n f) (h0 : w.heap.size ≤ b) (h1 : b < w'.heap.size) (hb : Below w.heap.size w w') :
    SpecR (mkR n f) C w (.returned (.tuple #[.slice (some ⟨b, 0, none⟩) n n, .int .i64 C])) w' :=
  ⟨_, n, by rw [mkR_len], (h.own h0 h1).row, hb⟩
theorem ImplR.new {n : Nat} {f : Nat → Int} {b : Nat} {C : Int} {w w' : World} (h : RowOwn w' b 0 n f) (h0 : w.heap.size ≤ b) (h1 : b < w'.heap.size) (hb : Below w.heap.size w w') :
    ImplR (mkR n f) C w (.returned (.tuple #[.slice (some ⟨b, 0, none⟩) n n, .int .i64 C])) w' :=
  ⟨_, n, by rw [mkR_len], h.own h0 h1, hb⟩

theorem wrap_pow {i : Nat} (h : i < 6) : wrap64 ((2 : Int) ^ i) = ((2 ^ i : Nat) : Int) := by
  have : i = 0 ∨ i = 1 ∨ i = 2 ∨ i = 3 ∨ i = 4 ∨ i = 5 := by omega
  rcases this with rfl | rfl | rfl | rfl | rfl | rfl <;> simp [wrap64]
theorem pow_bl {v S : List Int} {i : Nat} (h : v.length = S.length) (hi : i < v.length) : 2 ^ i < bl S := by unfold bl; rw [← h]; exact pow_lt hi
theorem row_put0 {w : World} {b n j : Nat} {f g : Nat → Int} {v : Int} (h : RowOwn w b 0 n f) (hj : j < n) (e : ∀ i, i < n → (if i = j then v else f i) = g i) : RowOwn (w.setCell ⟨b, j, none⟩ (.int .i64 v)) b 0 n g := by
  have h2 := (h.put hj v).congr e
  rwa [Nat.zero_add] at h2
theorem wrote_put0 {b n j : Nat} {w w' : World} (h : Wrote b 0 n w w') (hj : j < n) (v : Value) : Wrote b 0 n w (w'.setCell ⟨b, j, none⟩ v) := by
  have h2 := h.set hj v
  rwa [Nat.zero_add] at h2
theorem RowOwn.stay {w w' : World} {b o n : Nat} {f : Nat → Int} (h : RowOwn w b o n f) (e : w'.heap[b]? = w.heap[b]?) : RowOwn w' b o n f :=
  ⟨fun j hj => (World.cell?_of_block (w := w) (a := ⟨b, o + j, none⟩) e).trans (h.cell j hj), fun j hj => (World.frozen?_of_block (w := w) (a := ⟨b, o + j, none⟩) e).trans (h.free j hj)⟩
theorem row_fill {w : World} {b n i : Nat} {g : Nat → Int} {v : Int} (h : RowOwn w b 0 n (fun j => if j < i then g j else 0)) (hi : i < n) (hv : v = g i) : RowOwn (w.setCell ⟨b, i, none⟩ (.int .i64 v)) b 0 n (fun j => if j < i + 1 then g j else 0) :=
  row_put0 h hi (fun j _ => by
    by_cases e : j = i
    · subst e; rw [if_pos rfl, if_pos (by omega), hv]
    · rw [if_neg e]
      by_cases e2 : j < i
      · rw [if_pos e2, if_pos (by omega)]
      · rw [if_neg e2, if_neg (by omega)])
theorem Wrote.belowB {b o n k : Nat} {w w' : World} (h : Wrote b o n w w') (hk : k ≤ b) : Below k w w' := ⟨h.os, h.tape, h.output, Nat.le_of_eq h.size.symm, fun i hi => h.block i (by omega)⟩

set_option maxRecDepth 100000 in
set_option maxHeartbeats 1600000 in
theorem l04Vector_any (p : Int) (aS : Option Addr) (S : List Int) (cS : Nat) (av : Option Addr) (v : List Int) (cv lov tpv : Nat) (w : World) (h : S.length ≤ 6) (hl : v.length = S.length) (hv : RowIn lov tpv w av v) (tv : tpv ≤ w.heap.size) :
    Calls Tryz.prog 51 #[.agg #[.int .i64 p, .slice aS S.length cS], .slice av v.length cv] w (NewRow (bl S) (vecF v v.length) w) := by
  have hbl := bl_le h
  have HV := Lib.hid hv
  have HL := Lib.hid hl
  clear hv hl
  go_enter Tryz.func51, Tryz.ntmps51
  go_wp2_with (go_at_call 68; (with_reducible refine (l04Zero_any p aS S cS _ h).mono ?_); rintro e w1 ⟨b1, rfl, hl1, hu1, ho1, hb1⟩; have HO1 := Lib.hid ho1; have HB1 := Lib.hid (below_step (below_alloc w _) (by simp) hb1); have hz1 := hb1.size; clear hb1 ho1)
  have hwb : w.heap.size ≤ b1 := by simp at hl1; omega
  go_loopw [6] (fun t wr => ∃ i : Nat, i ≤ v.length ∧ t = .int .i64 i ∧ RowOwn wr b1 0 (bl S) (vecF v i) ∧ Wrote b1 0 (bl S) w1 wr) (fun t _ => v.length - (intOf t).toNat)
  case atStart => exact ⟨0, Nat.zero_le _, rfl, HO1.out, Wrote.refl _ _ _ _⟩
  case round =>
    obtain ⟨i, hi, rfl, hr, hw⟩ := hrel
    have HR := Lib.hid hr
    have HW := Lib.hid hw
    by_cases hlt : i < v.length
    · obtain ⟨b2, o2, ha2, l2, t2, hc2⟩ := ((HV.out.below HB1.out tv).same (hw.same (by omega : b1 < lov ∨ tpv ≤ b1))).num hlt
      subst ha2
      obtain ⟨q, hq⟩ : ∃ q, q = 2 ^ i := ⟨_, rfl⟩
      have HQ := Lib.hid hq
      have hqn : q < bl S := by rw [hq]; exact pow_bl HL.out hlt
      have c0 := hr.cell q hqn
      have f0 := hr.free q hqn
      rw [Nat.zero_add] at c0 f0
      have hi1 : (i : Int) < (v.length : Int) := by omega
      have hi6 : i < 6 := by have := HL.out; omega
      have e1 : wrap64 ((2 : Int) ^ i) = (q : Int) := by rw [hq]; exact wrap_pow hi6
      clear hq
      have hq1 : (q : Int) < (bl S : Int) := Int.ofNat_lt.2 hqn
      clear hr hw
      go_wp2
      go_roundw
      case rel => exact ⟨i + 1, by omega, by go_num, row_put0 HR.out hqn (fun j _ => by rw [HQ.out, ← getD_at hlt]; rfl), wrote_put0 HW.out hqn _⟩
      case measure => simp [intOf]; omega
    · have hn : i = v.length := by omega
      subst hn
      clear hr hw
      go_wp2
      go_ret
      exact ⟨b1, rfl, hwb, by rw [HW.out.size]; exact hu1, HR.out, HB1.out.trans (HW.out.belowB hwb)⟩

set_option maxRecDepth 100000 in
set_option maxHeartbeats 1600000 in
theorem vector_any (p : Int) (aS : Option Addr) (S : List Int) (cS : Nat) (av : Option Addr) (v : List Int) (cv lov tpv : Nat) (w : World) (h : S.length ≤ 6) (hl : v.length = S.length) (hv : RowIn lov tpv w av v) (tv : tpv ≤ w.heap.size) :
    Calls Tryz.prog 46 #[.agg #[.int .i64 p, .slice aS S.length cS], .slice av v.length cv] w (NewRow (bl S) (vecF v v.length) w) := by
  have hbl := bl_le h
  have HV := Lib.hid hv
  have HL := Lib.hid hl
  clear hv hl
  have hmk := fun W => run_make_row' (P := Tryz.prog) 22 2 (.int .i64 0) 8 Tryz.underlying22 info64 rfl .i64 .i64 (bl S) (by omega) (by omega) W
  go_enter Tryz.func46, Tryz.ntmps46
  go_wp2_with (go_at_call 59; (with_reducible refine (blades_any p aS S cS _ h).mono ?_); rintro e w1 ⟨rfl, hb1⟩; have HB1 := Lib.hid (below_step (below_alloc w _) (by simp) hb1); have hz1 := hb1.size; clear hb1)
  obtain ⟨b1, hb1⟩ : ∃ b1, b1 = w1.heap.size := ⟨_, rfl⟩
  have hwb : w.heap.size ≤ b1 := by simp at hz1; omega
  obtain ⟨W1, hW1⟩ : ∃ W1, W1 = w1.alloc (.cells (madeCells #[.int .i64 0] (bl S)) 2) := ⟨_, rfl⟩
  have HO1 : Hid (RowOwn W1 b1 0 (bl S) (fun _ => 0)) := by show RowOwn _ _ _ _ _; rw [hW1, hb1]; exact RowOwn.start w1 (bl S) _
  have HBW : Hid (Below w.heap.size w W1) := by show Below _ _ _; rw [hW1]; exact HB1.out.alloc (by omega) _
  have hu1 : b1 < W1.heap.size := by rw [hW1, hb1]; simp
  rw [← hW1, ← hb1]
  clear hmk hW1 hb1
  go_loopw [13] (fun t wr => ∃ i : Nat, i ≤ v.length ∧ t = .int .i64 i ∧ RowOwn wr b1 0 (bl S) (vecF v i) ∧ Wrote b1 0 (bl S) W1 wr) (fun t _ => v.length - (intOf t).toNat)
  case atStart => exact ⟨0, Nat.zero_le _, rfl, HO1.out, Wrote.refl _ _ _ _⟩
  case round =>
    obtain ⟨i, hi, rfl, hr, hw⟩ := hrel
    have HR := Lib.hid hr
    have HW := Lib.hid hw
    by_cases hlt : i < v.length
    · obtain ⟨b2, o2, ha2, l2, t2, hc2⟩ := ((HV.out.below HBW.out tv).same (hw.same (by omega : b1 < lov ∨ tpv ≤ b1))).num hlt
      subst ha2
      obtain ⟨q, hq⟩ : ∃ q, q = 2 ^ i := ⟨_, rfl⟩
      have HQ := Lib.hid hq
      have hqn : q < bl S := by rw [hq]; exact pow_bl HL.out hlt
      have c0 := hr.cell q hqn
      have f0 := hr.free q hqn
      rw [Nat.zero_add] at c0 f0
      have hi1 : (i : Int) < (v.length : Int) := by omega
      have hi6 : i < 6 := by have := HL.out; omega
      have e1 : wrap64 ((2 : Int) ^ i) = (q : Int) := by rw [hq]; exact wrap_pow hi6
      clear hq
      have hq1 : (q : Int) < (bl S : Int) := Int.ofNat_lt.2 hqn
      clear hr hw
      go_wp2
      go_roundw
      case rel => exact ⟨i + 1, by omega, by go_num, row_put0 HR.out hqn (fun j _ => by rw [HQ.out, ← getD_at hlt]; rfl), wrote_put0 HW.out hqn _⟩
      case measure => simp [intOf]; omega
    · have hn : i = v.length := by omega
      subst hn
      clear hr hw
      go_wp2
      go_ret
      exact ⟨b1, rfl, hwb, by rw [HW.out.size]; exact hu1, HR.out, HBW.out.trans (HW.out.belowB hwb)⟩

end Go.Proofs.YthbkfpkeofpocaaGreat

namespace Go.Proofs.YthbkfpkeofpocaaGreat
open Go.RowKit
set_option linter.unusedVariables false

def plusR (p : Int) (a b : List Int) (k : Int) : List Int := mkR a.length fun j => (a.getD j 0 + k * b.getD j 0) % p

def sclR (p : Int) (a : List Int) (k : Int) : List Int := mkR a.length fun j => a.getD j 0 * k % p

end Go.Proofs.YthbkfpkeofpocaaGreat

namespace Go.Proofs.YthbkfpkeofpocaaGreat
open Go.RowKit
set_option linter.unusedVariables false

/-- A list of one's own is handed back. -/
def OwnE (R : List Int) (w : World) (e : Ending) (w' : World) : Prop := ∃ r c, e = .returned (.slice r R.length c) ∧ OwnR w.heap.size w'.heap.size w' r R ∧ Below w.heap.size w w'
def sclMC (p : Int) (S x : List Int) (k : Int) : Int := if codeMv p S [x] = 0 then (if 0 ≤ k ∧ k < p then 0 else 2) else codeMv p S [x]
def sclMV (p : Int) (S x : List Int) (k : Int) : List Int := if sclMC p S x k = 0 then sclV p x k else []
theorem Mv.num {p : Int} {S x : List Int} (h : isMv p S x = true) : ∀ j, j < x.length → 0 ≤ x.getD j 0 ∧ x.getD j 0 < p := fun j hj => (isVec_iff.1 h).num (by rw [← (isVec_iff.1 h).len]; exact hj)
theorem Mv.len {p : Int} {S x : List Int} (h : isMv p S x = true) : x.length = bl S := (isVec_iff.1 h).len
theorem Mv.nums {p : Int} {S x : List Int} (h : isMv p S x = true) : Nums p x := Mv.num h
end Go.Proofs.YthbkfpkeofpocaaGreat

namespace Go.Proofs.YthbkfpkeofpocaaGreat
open Go.RowKit Go.Maps
set_option linter.unusedVariables false

set_option maxHeartbeats 800000 in
theorem ones64 (m : Nat) (hm : m < 64) (w : World) : Calls Tryz.prog 104 #[.int .u64 m] w fun e w' => e = .returned (.int .i64 (gr m)) ∧ w = w' := by
  go_enter Tryz.func104, Tryz.ntmps104
  go_wp2
  go_ret
  refine ⟨congrArg (fun z => Ending.returned (.int .i64 z)) ?_, rfl⟩
  clear w
  revert hm
  revert m
  decide +kernel

set_option maxHeartbeats 800000 in
theorem ones_any (m : Nat) (hm : m < 64) (w : World) : Calls Tryz.prog 93 #[.int .u64 m] w fun e w' => e = .returned (.int .i64 (gr m)) ∧ w = w' := by
  go_enter Tryz.func93, Tryz.ntmps93
  go_wp2_with (go_at_call 104; refine (ones64 m hm _).mono ?_; rintro e w1 ⟨rfl, rfl⟩)
  go_ret
  exact ⟨rfl, rfl⟩
set_option maxHeartbeats 800000 in
theorem gradeOf_any (m : Nat) (hm : m < 64) (w : World) : Calls Tryz.prog 83 #[.int .i64 m] w fun e w' => e = .returned (.int .i64 (gr m)) ∧ w = w' := by
  go_enter Tryz.func83, Tryz.ntmps83
  go_wp2_with (go_at_call 93; refine (ones_any m hm _).mono ?_; rintro e w1 ⟨rfl, rfl⟩)
  go_ret
  exact ⟨rfl, rfl⟩
set_option maxHeartbeats 800000 in
theorem l04Grade_any (m : Nat) (hm : m < 64) (w : World) : Calls Tryz.prog 85 #[.int .i64 m] w fun e w' => e = .returned (.int .i64 (gr m)) ∧ w = w' := by
  go_enter Tryz.func85, Tryz.ntmps85
  go_wp2
  go_loop [0, 3] (fun u v => ∃ k n : Nat, k < 64 ∧ u = .int .i64 k ∧ v = .int .i64 n ∧ n + gr k = gr m) (fun u _ => (intOf u).toNat)
  case atStart => exact ⟨m, 0, hm, rfl, rfl, Nat.zero_add _⟩
  case round =>
    obtain ⟨k, n, hk, rfl, rfl, he⟩ := hrel
    by_cases h0 : 0 < k
    · have HE : Hid (n + k % 2 + gr (k / 2) = gr m) := by show _ = _; rw [← he, gr_step hk]; omega
      have hn : n ≤ 6 := by have := gr_le m; omega
      have h1 : (0 : Int) < (k : Int) := by omega
      clear he
      go_wp2
      go_round
      case rel => exact ⟨k / 2, n + k % 2, by omega, by go_num, by go_num, HE.out⟩
      case measure => simp [intOf]; omega
    · have e : k = 0 := by omega
      subst e
      have HE : Hid (n = gr m) := by show _ = _; rw [← he, gr_zero]; rfl
      clear he
      go_wp2
      go_ret
      exact ⟨by rw [← HE.out]; rfl, rfl⟩

theorem lawK : Keyed Tryz.prog 3 := int_keyed Tryz.underlying3
/-- The terms of x are handed back as a map of the call's own. -/
def TermsE (x : List Int) (w : World) (e : Ending) (w' : World) : Prop :=
  ∃ b D, e = .returned (.map (some b)) ∧ w.heap.size ≤ b ∧ b < w'.heap.size ∧ w'.ownsMap Tryz.prog 3 (plainElem (H := Unit) Tryz.prog 2) b x.length D ∧ Tm D x x.length ∧ Below w.heap.size w w'

set_option maxRecDepth 100000 in
set_option maxHeartbeats 1600000 in
theorem termsOf_any (a : Option Addr) (x : List Int) (c lo tp : Nat) (w : World) (hx : RowIn lo tp w a x) (tx : tp ≤ w.heap.size) (sx : x.length ≤ 64) (nx : ∀ j, j < x.length → -100 ≤ x.getD j 0 ∧ x.getD j 0 ≤ 100) :
    Calls Tryz.prog 65 #[.slice a x.length c] w (TermsE x w) := by
  have hmm := @run_makeMap Tryz.prog
  have HX := Lib.hid hx
  have HN := Lib.hid nx
  clear hx nx
  go_enter Tryz.func65, Tryz.ntmps65
  go_wp2
  clear hmm
  go_loopw [9] (fun t wr => ∃ (i : Nat) (D : DataW Unit), i ≤ x.length ∧ t = .int .i64 i ∧ wr.ownsMap Tryz.prog 3 (plainElem (H := Unit) Tryz.prog 2) w.heap.size i D ∧ Tm D x i ∧ Below w.heap.size w wr ∧ w.heap.size < wr.heap.size) (fun t _ => x.length - (intOf t).toNat)
  case atStart => exact ⟨0, .map [], Nat.zero_le _, rfl, World.ownsMap_made _ _ _ _, Tm.start x, below_alloc w _, by simp⟩
  case round =>
    obtain ⟨i, D, hi, rfl, hown, hT, hbel, hwlt⟩ := hrel
    have HO := Lib.hid hown
    have HT := Lib.hid hT
    have HB := Lib.hid hbel
    by_cases hlt : i < x.length
    · obtain ⟨b1, o1, ha1, l1, t1, hc1⟩ := (HX.out.below hbel tx).num hlt
      subst ha1
      obtain ⟨x0, x1⟩ := HN.out i hlt
      have hi1 : (i : Int) < (x.length : Int) := by omega
      obtain ⟨y, hy⟩ : ∃ y, y = x.getD i 0 := ⟨_, rfl⟩
      have HY := Lib.hid hy
      rw [← hy] at hc1 x0 x1
      clear hown hT hbel hy
      by_cases h0 : y = 0
      · subst h0
        go_wp2
        go_roundw
        case rel => exact ⟨i + 1, D, by omega, by go_num, HO.out.mono (Nat.le_succ _), HT.out.skip HY.out.symm, HB.out, hwlt⟩
        case measure => simp [intOf]; omega
      · have e0 : (y != 0) = true := by simpa using h0
        have hwf : (Lit.int .i64 y).wf = true := WalkArith.wf_i64 (by omega)
        have hwk : (Lit.int .i64 (i : Int)).wf = true := WalkArith.wf_i64 (by omega)
        have HY0 : Hid (x.getD i 0 ≠ 0) := by show _ ≠ _; rw [← HY.out]; exact h0
        go_wp2_with (first | (at_mapUpdate; refine wpList_mapUpdate_own _ rfl _ _ _ 91 rfl 3 2 lawK Tryz.underlying91 (plainElem (H := Unit) Tryz.prog 2) w.heap.size i D rfl HO.out (by unfold maxLen; omega) _ _ _ rfl rfl (keyOf_int_mk Tryz.underlying3 hwk) _ [] (plainElem_int Tryz.underlying2 hwf) ?_; intro w1 hown1 hgrow1))
        go_roundw
        case rel => exact ⟨i + 1, _, by omega, by go_num, hown1, by have h := HT.out.put HO.out.isMap HY0.out; rw [← HY.out] at h; exact h, HB.out.grown hgrow1 HB.out.size (fun j hj => by cases hj; exact Nat.le_refl _), by have := hgrow1.size; omega⟩
        case measure => simp [intOf]; omega
    · have hn : i = x.length := by omega
      subst hn
      clear hown hT hbel
      go_wp2
      go_ret
      exact ⟨w.heap.size, D, rfl, Nat.le_refl _, hwlt, HO.out, HT.out, HB.out⟩

end Go.Proofs.YthbkfpkeofpocaaGreat
