/-
  The terms of a multivector as a map of the program's, and what is still to come of them when they are ranged over in any order.
  No conditions.
  Multivectors of zeros, blades and vectors in both: contracts.
  Conditions: the lists are nil or rows of known cells, of at most 1048576 numbers.
  What the model's sums, multiples, copies, turned matrices and unit matrices are: contracts.
  Conditions: the lists and matrices are rows of known cells with numbers of the prime; their sizes fit.
  BladeOf, VectorOf, ScalarOf, AddMultivectors, ScaleMultivector: contracts of the program and of the model.
  Conditions: the lists are nil or rows of known cells, of at most 1048576 numbers.
-/
import Derived.Test.YtkibkkdeaojjoabQc6
import Derived.Test.YtkibkkdeaojjoabQc9
import Derived.Maps.RangeWalk
import Derived.Test.YtkibkkdeaojjoabQc8
import Derived.Deep.RegionHeld3
import Derived.BigQuiet
import Derived.Deep.AppendLies
namespace Go.Proofs.Ytkibkkdeaojjoab
open Go.RowKit Go.Maps
set_option linter.unusedVariables false

/-- The map has the numbers of x up to k that are not 0. -/
structure Tm (D : DataW Unit) (x : List Int) (k : Nat) : Prop where
  only : ∀ kl, has D kl = true → ∃ j : Nat, j < k ∧ kl = .int .i64 j
  val : ∀ j : Nat, j < k → x.getD j 0 ≠ 0 → has D (.int .i64 j) = true ∧ ∀ z, D.atKey (.int .i64 j) z = .lit (.int .i64 (x.getD j 0))
  no : ∀ j : Nat, j < k → x.getD j 0 = 0 → has D (.int .i64 j) = false
theorem key_ne {i j : Nat} (h : i ≠ j) : (Lit.int .i64 (i : Int)) ≠ .int .i64 (j : Int) := fun e => by injection e with _ e; omega
theorem Tm.start (x : List Int) : Tm (.map []) x 0 := ⟨fun kl h => by simp [has] at h, fun j h => by omega, fun j h => by omega⟩
theorem Tm.fresh {D : DataW Unit} {x : List Int} {k : Nat} (h : Tm D x k) : has D (.int .i64 (k : Int)) = false := by
  cases e : has D (.int .i64 (k : Int)) with
  | false => rfl
  | true =>
    obtain ⟨j, hj, e2⟩ := h.only _ e
    exact absurd e2 (key_ne (by omega))
theorem Tm.skip {D : DataW Unit} {x : List Int} {k : Nat} (h : Tm D x k) (hx : x.getD k 0 = 0) : Tm D x (k + 1) where
  only kl hk := by
    obtain ⟨j, hj, e⟩ := h.only kl hk
    exact ⟨j, by omega, e⟩
  val j hj hne := h.val j (by
    by_cases e : j = k
    · subst e; exact absurd hx hne
    · omega) hne
  no j hj h0 := by
    by_cases e : j = k
    · subst e; exact h.fresh
    · exact h.no j (by omega) h0
theorem Tm.put {D : DataW Unit} {x : List Int} {k : Nat} (h : Tm D x k) (hm : IsMap D) (hx : x.getD k 0 ≠ 0) : Tm (D.put (.int .i64 (k : Int)) (.lit (.int .i64 (x.getD k 0)))) x (k + 1) where
  only kl hk := by
    by_cases e : kl = .int .i64 (k : Int)
    · exact ⟨k, by omega, e⟩
    · rw [has_put_other e] at hk
      obtain ⟨j, hj, e⟩ := h.only kl hk
      exact ⟨j, by omega, e⟩
  val j hj hne := by
    by_cases e : j = k
    · subst e; exact ⟨has_put_same hm (show WideAt.IsKeyLit (.int .i64 (j : Int)) from trivial) _, fun z => atKey_put_same hm (show WideAt.IsKeyLit (.int .i64 (j : Int)) from trivial) _ z⟩
    · obtain ⟨h1, h2⟩ := h.val j (by omega) hne
      exact ⟨by rw [has_put_other (key_ne e)]; exact h1, fun z => by rw [atKey_put_other (key_ne e)]; exact h2 z⟩
  no j hj h0 := by
    by_cases e : j = k
    · subst e; exact absurd h0 hx
    · rw [has_put_other (key_ne e)]; exact h.no j (by omega) h0

/-- Whether the term at j is still to come. -/
def td (left : Lit → Bool) (j : Nat) : Bool := left (.int .i64 (j : Int))
def Sub (left : Lit → Bool) (D : DataW Unit) : Prop := ∀ kl, left kl = true → has D kl = true
theorem sub_refl (D : DataW Unit) : Sub (has D) D := fun _ h => h
/-- An entry that comes is a term. -/
theorem Tm.come {D : DataW Unit} {x : List Int} {n : Nat} {left : Lit → Bool} {k c : Int} (h : Tm D x n) (hs : Sub left D) (hl : left (.int .i64 k) = true) (hat : ∀ zd, D.atKey (.int .i64 k) zd = .lit (.int .i64 c)) :
    ∃ j : Nat, j < n ∧ k = j ∧ c = x.getD j 0 ∧ x.getD j 0 ≠ 0 ∧ td left j = true := by
  obtain ⟨j, hj, e⟩ := h.only _ (hs _ hl)
  injection e with _ e
  subst e
  have hne : x.getD j 0 ≠ 0 := fun e0 => by
    have h1 := h.no j hj e0
    rw [hs _ hl] at h1; cases h1
  have h2 := (h.val j hj hne).2 (.lit (.int .i64 0))
  rw [hat] at h2
  injection h2 with h2
  injection h2 with _ h2
  exact ⟨j, hj, rfl, h2, hne, hl⟩
theorem sub_strike {left : Lit → Bool} {D : DataW Unit} (h : Sub left D) (kl : Lit) : Sub (fun z => left z && !z.sameKey kl) D := fun z hz => h z (by simp only [Bool.and_eq_true] at hz; exact hz.1)
theorem td_same (left : Lit → Bool) (j : Nat) : td (fun z => left z && !z.sameKey (.int .i64 (j : Int))) j = false := by
  show (left _ && !(Lit.sameKey _ _)) = false
  rw [WideAt.sameKey_self (a := .int .i64 (j : Int)) trivial]; simp
theorem td_other (left : Lit → Bool) {i j : Nat} (h : i ≠ j) : td (fun z => left z && !z.sameKey (.int .i64 (j : Int))) i = td left i := by
  show (left _ && !(Lit.sameKey _ _)) = left _
  rw [sameKey_ne (key_ne h)]; simp
theorem td_none {left : Lit → Bool} (h : ∀ kl, left kl = false) (j : Nat) : td left j = false := h _
theorem td_all {D : DataW Unit} {x : List Int} {n : Nat} (h : Tm D x n) {j : Nat} (hj : j < n) : x.getD j 0 ≠ 0 → td (has D) j = true := fun hne => (h.val j hj hne).1

/-- A row filled term by term: those that have come have their number. -/
def fl (x : List Int) (left : Lit → Bool) (g : Nat → Int) (j : Nat) : Int := if x.getD j 0 ≠ 0 ∧ td left j = false then g j else 0
theorem RowOwn.put {w : World} {b o n : Nat} {f : Nat → Int} (h : RowOwn w b o n f) {j : Nat} (hj : j < n) (v : Int) : RowOwn (w.setCell ⟨b, o + j, none⟩ (.int .i64 v)) b o n (fun i => if i = j then v else f i) where
  cell i hi := by
    by_cases e : i = j
    · subst e; rw [if_pos rfl]; exact World.cell?_setCell_same w _ _ (h.cell i hi)
    · rw [if_neg e]; exact (World.cell?_setCell_other _ _ _ _ (by first | (simp; done) | (simp; omega))).trans (h.cell i hi)
  free i hi := by simp [go_sem, h.free i hi]
theorem RowOwn.congr {w : World} {b o n : Nat} {f g : Nat → Int} (h : RowOwn w b o n f) (e : ∀ j, j < n → f j = g j) : RowOwn w b o n g := ⟨fun j hj => by rw [← e j hj]; exact h.cell j hj, h.free⟩
theorem fl_start {D : DataW Unit} {x : List Int} {n : Nat} (h : Tm D x n) (g : Nat → Int) {j : Nat} (hj : j < n) : fl x (has D) g j = 0 := by
  unfold fl
  rw [if_neg (fun k => by rw [td_all h hj k.1] at k; cases k.2)]
theorem fl_end {x : List Int} {left : Lit → Bool} (h : ∀ kl, left kl = false) (g : Nat → Int) (j : Nat) : fl x left g j = if x.getD j 0 ≠ 0 then g j else 0 := by
  unfold fl
  by_cases e : x.getD j 0 ≠ 0
  · rw [if_pos ⟨e, td_none h j⟩, if_pos e]
  · rw [if_neg (fun k => e k.1), if_neg e]
theorem fl_step {x : List Int} {left : Lit → Bool} {g : Nat → Int} {k : Nat} (hne : x.getD k 0 ≠ 0) (j : Nat) : (if j = k then g k else fl x left g j) = fl x (fun z => left z && !z.sameKey (.int .i64 (k : Int))) g j := by
  unfold fl
  by_cases e : j = k
  · subst e; rw [if_pos rfl, if_pos ⟨hne, td_same left j⟩]
  · rw [if_neg e, td_other left e]
theorem RowOwn.start (w : World) (n : Nat) (t : TypeId) : RowOwn (w.alloc (.cells (madeCells #[.int .i64 0] n) t)) w.heap.size 0 n (fun _ => 0) where
  cell j hj := by
    rw [Nat.zero_add]
    exact made_cell w (.int .i64 0) n t hj
  free j hj := by simp [go_sem]

theorem ranges_below {B : Nat} {w w' : World} {P : Program} {k : TypeId} {R : Value → Option (DataW Unit × List MemPlace)} {b r n : Nat} {D : DataW Unit} {left : Lit → Bool} {cnt : Nat} (h : w.ranges P k R b r n D left cnt) (hb : Below B w w') (h0 : b < B) (h1 : r < B) : w'.ranges P k R b r n D left cnt := by
  obtain ⟨es, clock, since, seen, c0, k1, h2, h3, h4, k5, h6⟩ := h
  exact ⟨es, clock, since, seen, c0, (hb.block b h0).trans k1, h2, h3, h4, (hb.block r h1).trans k5, h6⟩
end Go.Proofs.Ytkibkkdeaojjoab

namespace Go.Proofs.Ytkibkkdeaojjoab
open Go.RowKit
set_option linter.unusedVariables false

/-- A row of one's own at the start of a new block. -/
def NewRow (n : Nat) (f : Nat → Int) (w : World) (e : Ending) (w' : World) : Prop :=
  ∃ b, e = .returned (.slice (some ⟨b, 0, none⟩) n n) ∧ w.heap.size ≤ b ∧ b < w'.heap.size ∧ RowOwn w' b 0 n f ∧ Below w.heap.size w w'
theorem RowOwn.own {lo tp : Nat} {w : World} {b o n : Nat} {f : Nat → Int} (h : RowOwn w b o n f) (h0 : lo ≤ b) (h1 : b < tp) : OwnR lo tp w (some ⟨b, o, none⟩) (mkR n f) :=
  .inr ⟨b, o, rfl, h0, h1, fun j hj => by
    rw [mkR_len] at hj
    rw [mkR_at _ hj]
    exact ⟨h.cell j hj, h.free j hj⟩⟩
theorem pow_lt {i n : Nat} (h : i < n) : 2 ^ i < 2 ^ n := Nat.pow_lt_pow_right (by decide) h

set_option maxHeartbeats 800000 in
theorem l04Zero_any (p : Int) (a : Option Addr) (S : List Int) (c : Nat) (w : World) (h : S.length ≤ 6) :
    Calls Try.prog 75 #[.agg #[.int .i64 p, .slice a S.length c]] w (NewRow (bl S) (fun _ => 0) w) := by
  have hbl := bl_le h
  have hmk := fun W => run_make_row' (P := Try.prog) 22 2 (.int .i64 0) 8 Try.underlying22 info64 rfl .i64 .i64 (bl S) (by omega) (by omega) W
  go_enter Try.func75, Try.ntmps75
  go_wp2_with (go_at_call 107; (with_reducible refine (l04Size_any p a S c _ h).mono ?_); rintro e w1 ⟨rfl, hb1⟩; have HB1 := Lib.hid hb1; have hz1 := hb1.size; clear hb1)
  go_ret
  have hb := below_step (below_alloc w _) (by simp) HB1.out
  exact ⟨w1.heap.size, rfl, hb.size, by simp, RowOwn.start w1 (bl S) _, hb.alloc (hb.size) _⟩

theorem SpecR.new {n : Nat} {f : Nat → Int} {b : Nat} {C : Int} {w w' : World} (h : RowOwn w' b 0 n f) (h0 : w.heap.size ≤ b) (h1 : b < w'.heap.size) (hb : Below w.heap.size w w') :
    SpecR (mkR n f) C w (.returned (.tuple #[.slice (some ⟨b, 0, none⟩) n n, .int .i64 C])) w' :=
  ⟨_, n, by rw [mkR_len], (h.own h0 h1).row, hb⟩
theorem ImplR.new {n : Nat} {f : Nat → Int} {b : Nat} {C : Int} {w w' : World} (h : RowOwn w' b 0 n f) (h0 : w.heap.size ≤ b) (h1 : b < w'.heap.size) (hb : Below w.heap.size w w') :
    ImplR (mkR n f) C w (.returned (.tuple #[.slice (some ⟨b, 0, none⟩) n n, .int .i64 C])) w' :=
  ⟨_, n, by rw [mkR_len], h.own h0 h1, hb⟩

theorem wrap_pow {i : Nat} (h : i < 6) : wrap64 ((2 : Int) ^ i) = ((2 ^ i : Nat) : Int) := by
  have : i = 0 ∨ i = 1 ∨ i = 2 ∨ i = 3 ∨ i = 4 ∨ i = 5 := by omega
  rcases this with rfl | rfl | rfl | rfl | rfl | rfl <;> simp [wrap64]
theorem pow_bl {v S : List Int} {i : Nat} (h : v.length = S.length) (hi : i < v.length) : 2 ^ i < bl S := by unfold bl; rw [← h]; exact pow_lt hi
theorem row_put0 {w : World} {b n j : Nat} {f g : Nat → Int} {v : Int} (h : RowOwn w b 0 n f) (hj : j < n) (e : ∀ i, i < n → (if i = j then v else f i) = g i) : RowOwn (w.setCell ⟨b, j, none⟩ (.int .i64 v)) b 0 n g := by
  have h2 := (h.put hj v).congr e
  rwa [Nat.zero_add] at h2
theorem wrote_put0 {b n j : Nat} {w w' : World} (h : Wrote b 0 n w w') (hj : j < n) (v : Value) : Wrote b 0 n w (w'.setCell ⟨b, j, none⟩ v) := by
  have h2 := h.set hj v
  rwa [Nat.zero_add] at h2
theorem RowOwn.stay {w w' : World} {b o n : Nat} {f : Nat → Int} (h : RowOwn w b o n f) (e : w'.heap[b]? = w.heap[b]?) : RowOwn w' b o n f :=
  ⟨fun j hj => (World.cell?_of_block (w := w) (a := ⟨b, o + j, none⟩) e).trans (h.cell j hj), fun j hj => (World.frozen?_of_block (w := w) (a := ⟨b, o + j, none⟩) e).trans (h.free j hj)⟩
theorem Wrote.belowB {b o n k : Nat} {w w' : World} (h : Wrote b o n w w') (hk : k ≤ b) : Below k w w' := ⟨h.os, h.tape, h.output, Nat.le_of_eq h.size.symm, fun i hi => h.block i (by omega)⟩

set_option maxRecDepth 100000 in
set_option maxHeartbeats 1600000 in
theorem l04Vector_any (p : Int) (aS : Option Addr) (S : List Int) (cS : Nat) (av : Option Addr) (v : List Int) (cv lov tpv : Nat) (w : World) (h : S.length ≤ 6) (hl : v.length = S.length) (hv : RowIn lov tpv w av v) (tv : tpv ≤ w.heap.size) :
    Calls Try.prog 40 #[.agg #[.int .i64 p, .slice aS S.length cS], .slice av v.length cv] w (NewRow (bl S) (vecF v v.length) w) := by
  have hbl := bl_le h
  have HV := Lib.hid hv
  have HL := Lib.hid hl
  clear hv hl
  go_enter Try.func40, Try.ntmps40
  go_wp2_with (go_at_call 75; (with_reducible refine (l04Zero_any p aS S cS _ h).mono ?_); rintro e w1 ⟨b1, rfl, hl1, hu1, ho1, hb1⟩; have HO1 := Lib.hid ho1; have HB1 := Lib.hid (below_step (below_alloc w _) (by simp) hb1); have hz1 := hb1.size; clear hb1 ho1)
  have hwb : w.heap.size ≤ b1 := by simp at hl1; omega
  go_loopw [6] (fun t wr => ∃ i : Nat, i ≤ v.length ∧ t = .int .i64 i ∧ RowOwn wr b1 0 (bl S) (vecF v i) ∧ Wrote b1 0 (bl S) w1 wr) (fun t _ => v.length - (intOf t).toNat)
  case atStart => exact ⟨0, Nat.zero_le _, rfl, HO1.out, Wrote.refl _ _ _ _⟩
  case round =>
    obtain ⟨i, hi, rfl, hr, hw⟩ := hrel
    have HR := Lib.hid hr
    have HW := Lib.hid hw
    by_cases hlt : i < v.length
    · obtain ⟨b2, o2, ha2, l2, t2, hc2⟩ := ((HV.out.below HB1.out tv).same (hw.same (by omega : b1 < lov ∨ tpv ≤ b1))).num hlt
      subst ha2
      obtain ⟨q, hq⟩ : ∃ q, q = 2 ^ i := ⟨_, rfl⟩
      have HQ := Lib.hid hq
      have hqn : q < bl S := by rw [hq]; exact pow_bl HL.out hlt
      have c0 := hr.cell q hqn
      have f0 := hr.free q hqn
      rw [Nat.zero_add] at c0 f0
      have hi1 : (i : Int) < (v.length : Int) := by omega
      have hi6 : i < 6 := by have := HL.out; omega
      have e1 : wrap64 ((2 : Int) ^ i) = (q : Int) := by rw [hq]; exact wrap_pow hi6
      clear hq
      have hq1 : (q : Int) < (bl S : Int) := Int.ofNat_lt.2 hqn
      clear hr hw
      go_wp2
      go_roundw
      case rel => exact ⟨i + 1, by omega, by go_num, row_put0 HR.out hqn (fun j _ => by rw [HQ.out, ← getD_at hlt]; rfl), wrote_put0 HW.out hqn _⟩
      case measure => simp [intOf]; omega
    · have hn : i = v.length := by omega
      subst hn
      clear hr hw
      go_wp2
      go_ret
      exact ⟨b1, rfl, hwb, by rw [HW.out.size]; exact hu1, HR.out, HB1.out.trans (HW.out.belowB hwb)⟩

set_option maxRecDepth 100000 in
set_option maxHeartbeats 1600000 in
theorem vector_any (p : Int) (aS : Option Addr) (S : List Int) (cS : Nat) (av : Option Addr) (v : List Int) (cv lov tpv : Nat) (w : World) (h : S.length ≤ 6) (hl : v.length = S.length) (hv : RowIn lov tpv w av v) (tv : tpv ≤ w.heap.size) :
    Calls Try.prog 43 #[.agg #[.int .i64 p, .slice aS S.length cS], .slice av v.length cv] w (NewRow (bl S) (vecF v v.length) w) := by
  have hbl := bl_le h
  have HV := Lib.hid hv
  have HL := Lib.hid hl
  clear hv hl
  have hmk := fun W => run_make_row' (P := Try.prog) 22 2 (.int .i64 0) 8 Try.underlying22 info64 rfl .i64 .i64 (bl S) (by omega) (by omega) W
  go_enter Try.func43, Try.ntmps43
  go_wp2_with (go_at_call 78; (with_reducible refine (blades_any p aS S cS _ h).mono ?_); rintro e w1 ⟨rfl, hb1⟩; have HB1 := Lib.hid (below_step (below_alloc w _) (by simp) hb1); have hz1 := hb1.size; clear hb1)
  obtain ⟨b1, hb1⟩ : ∃ b1, b1 = w1.heap.size := ⟨_, rfl⟩
  have hwb : w.heap.size ≤ b1 := by simp at hz1; omega
  obtain ⟨W1, hW1⟩ : ∃ W1, W1 = w1.alloc (.cells (madeCells #[.int .i64 0] (bl S)) 2) := ⟨_, rfl⟩
  have HO1 : Hid (RowOwn W1 b1 0 (bl S) (fun _ => 0)) := by show RowOwn _ _ _ _ _; rw [hW1, hb1]; exact RowOwn.start w1 (bl S) _
  have HBW : Hid (Below w.heap.size w W1) := by show Below _ _ _; rw [hW1]; exact HB1.out.alloc (by omega) _
  have hu1 : b1 < W1.heap.size := by rw [hW1, hb1]; simp
  rw [← hW1, ← hb1]
  clear hmk hW1 hb1
  go_loopw [13] (fun t wr => ∃ i : Nat, i ≤ v.length ∧ t = .int .i64 i ∧ RowOwn wr b1 0 (bl S) (vecF v i) ∧ Wrote b1 0 (bl S) W1 wr) (fun t _ => v.length - (intOf t).toNat)
  case atStart => exact ⟨0, Nat.zero_le _, rfl, HO1.out, Wrote.refl _ _ _ _⟩
  case round =>
    obtain ⟨i, hi, rfl, hr, hw⟩ := hrel
    have HR := Lib.hid hr
    have HW := Lib.hid hw
    by_cases hlt : i < v.length
    · obtain ⟨b2, o2, ha2, l2, t2, hc2⟩ := ((HV.out.below HBW.out tv).same (hw.same (by omega : b1 < lov ∨ tpv ≤ b1))).num hlt
      subst ha2
      obtain ⟨q, hq⟩ : ∃ q, q = 2 ^ i := ⟨_, rfl⟩
      have HQ := Lib.hid hq
      have hqn : q < bl S := by rw [hq]; exact pow_bl HL.out hlt
      have c0 := hr.cell q hqn
      have f0 := hr.free q hqn
      rw [Nat.zero_add] at c0 f0
      have hi1 : (i : Int) < (v.length : Int) := by omega
      have hi6 : i < 6 := by have := HL.out; omega
      have e1 : wrap64 ((2 : Int) ^ i) = (q : Int) := by rw [hq]; exact wrap_pow hi6
      clear hq
      have hq1 : (q : Int) < (bl S : Int) := Int.ofNat_lt.2 hqn
      clear hr hw
      go_wp2
      go_roundw
      case rel => exact ⟨i + 1, by omega, by go_num, row_put0 HR.out hqn (fun j _ => by rw [HQ.out, ← getD_at hlt]; rfl), wrote_put0 HW.out hqn _⟩
      case measure => simp [intOf]; omega
    · have hn : i = v.length := by omega
      subst hn
      clear hr hw
      go_wp2
      go_ret
      exact ⟨b1, rfl, hwb, by rw [HW.out.size]; exact hu1, HR.out, HBW.out.trans (HW.out.belowB hwb)⟩

end Go.Proofs.Ytkibkkdeaojjoab

namespace Go.Proofs.Ytkibkkdeaojjoab
open Go.RowKit
set_option linter.unusedVariables false

/-- A list of one's own is handed back. -/
def OwnE (R : List Int) (w : World) (e : Ending) (w' : World) : Prop := ∃ r c, e = .returned (.slice r R.length c) ∧ OwnR w.heap.size w'.heap.size w' r R ∧ Below w.heap.size w w'
theorem Mv.num {p : Int} {S x : List Int} (h : isMv p S x = true) : ∀ j, j < x.length → 0 ≤ x.getD j 0 ∧ x.getD j 0 < p := fun j hj => (isVec_iff.1 h).num (by rw [← (isVec_iff.1 h).len]; exact hj)
theorem Mv.len {p : Int} {S x : List Int} (h : isMv p S x = true) : x.length = bl S := (isVec_iff.1 h).len
theorem Mv.nums {p : Int} {S x : List Int} (h : isMv p S x = true) : Nums p x := Mv.num h
end Go.Proofs.Ytkibkkdeaojjoab
