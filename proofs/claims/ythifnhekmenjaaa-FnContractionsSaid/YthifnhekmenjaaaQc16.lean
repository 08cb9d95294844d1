/-
  The terms of a multivector as a map of the program's, and what is still to come of them when they are ranged over in any order.
  No conditions.
-/
import Derived.Test.YthifnhekmenjaaaQc12
import Derived.Test.YthifnhekmenjaaaQc6
import Derived.Maps.RangeWalk
namespace Go.Proofs.Ythifnhekmenjaaa
open Go.RowKit Go.Maps
set_option linter.unusedVariables false

/-- The map has the numbers of x up to k that are not 0. -/
structure Tm (D : DataW Unit) (x : List Int) (k : Nat) : Prop where
  only : ∀ kl, has D kl = true → ∃ j : Nat, j < k ∧ kl = .int .i64 j
  val : ∀ j : Nat, j < k → x.getD j 0 ≠ 0 → has D (.int .i64 j) = true ∧ ∀ z, D.atKey (.int .i64 j) z = .lit (.int .i64 (x.getD j 0))
  no : ∀ j : Nat, j < k → x.getD j 0 = 0 → has D (.int .i64 j) = false
theorem key_ne {i j : Nat} (h : i ≠ j) : (Lit.int .i64 (i : Int)) ≠ .int .i64 (j : Int) := fun e => by injection e with _ e; omega
theorem Tm.start (x : List Int) : Tm (.map []) x 0 := ⟨fun kl h => by simp [has] at h, fun j h => by omega, fun j h => by omega⟩
theorem Tm.fresh {D : DataW Unit} {x : List Int} {k : Nat} (h : Tm D x k) : has D (.int .i64 (k : Int)) = false := by
  cases e : has D (.int .i64 (k : Int)) with
  | false => rfl
  | true =>
    obtain ⟨j, hj, e2⟩ := h.only _ e
    exact absurd e2 (key_ne (by omega))
theorem Tm.skip {D : DataW Unit} {x : List Int} {k : Nat} (h : Tm D x k) (hx : x.getD k 0 = 0) : Tm D x (k + 1) where
  only kl hk := by
    obtain ⟨j, hj, e⟩ := h.only kl hk
    exact ⟨j, by omega, e⟩
  val j hj hne := h.val j (by
    by_cases e : j = k
    · subst e; exact absurd hx hne
    · omega) hne
  no j hj h0 := by
    by_cases e : j = k
    · subst e; exact h.fresh
    · exact h.no j (by omega) h0
theorem Tm.put {D : DataW Unit} {x : List Int} {k : Nat} (h : Tm D x k) (hm : IsMap D) (hx : x.getD k 0 ≠ 0) : Tm (D.put (.int .i64 (k : Int)) (.lit (.int .i64 (x.getD k 0)))) x (k + 1) where
  only kl hk := by
    by_cases e : kl = .int .i64 (k : Int)
    · exact ⟨k, by omega, e⟩
    · rw [has_put_other e] at hk
      obtain ⟨j, hj, e⟩ := h.only kl hk
      exact ⟨j, by omega, e⟩
  val j hj hne := by
    by_cases e : j = k
    · subst e; exact ⟨has_put_same hm (show WideAt.IsKeyLit (.int .i64 (j : Int)) from trivial) _, fun z => atKey_put_same hm (show WideAt.IsKeyLit (.int .i64 (j : Int)) from trivial) _ z⟩
    · obtain ⟨h1, h2⟩ := h.val j (by omega) hne
      exact ⟨by rw [has_put_other (key_ne e)]; exact h1, fun z => by rw [atKey_put_other (key_ne e)]; exact h2 z⟩
  no j hj h0 := by
    by_cases e : j = k
    · subst e; exact absurd h0 hx
    · rw [has_put_other (key_ne e)]; exact h.no j (by omega) h0

/-- Whether the term at j is still to come. -/
def td (left : Lit → Bool) (j : Nat) : Bool := left (.int .i64 (j : Int))
def Sub (left : Lit → Bool) (D : DataW Unit) : Prop := ∀ kl, left kl = true → has D kl = true
theorem sub_refl (D : DataW Unit) : Sub (has D) D := fun _ h => h
/-- An entry that comes is a term. -/
theorem Tm.come {D : DataW Unit} {x : List Int} {n : Nat} {left : Lit → Bool} {k c : Int} (h : Tm D x n) (hs : Sub left D) (hl : left (.int .i64 k) = true) (hat : ∀ zd, D.atKey (.int .i64 k) zd = .lit (.int .i64 c)) :
    ∃ j : Nat, j < n ∧ k = j ∧ c = x.getD j 0 ∧ x.getD j 0 ≠ 0 ∧ td left j = true := by
  obtain ⟨j, hj, e⟩ := h.only _ (hs _ hl)
  injection e with _ e
  subst e
  have hne : x.getD j 0 ≠ 0 := fun e0 => by
    have h1 := h.no j hj e0
    rw [hs _ hl] at h1; cases h1
  have h2 := (h.val j hj hne).2 (.lit (.int .i64 0))
  rw [hat] at h2
  injection h2 with h2
  injection h2 with _ h2
  exact ⟨j, hj, rfl, h2, hne, hl⟩
theorem sub_strike {left : Lit → Bool} {D : DataW Unit} (h : Sub left D) (kl : Lit) : Sub (fun z => left z && !z.sameKey kl) D := fun z hz => h z (by simp only [Bool.and_eq_true] at hz; exact hz.1)
theorem td_same (left : Lit → Bool) (j : Nat) : td (fun z => left z && !z.sameKey (.int .i64 (j : Int))) j = false := by
  show (left _ && !(Lit.sameKey _ _)) = false
  rw [WideAt.sameKey_self (a := .int .i64 (j : Int)) trivial]; simp
theorem td_other (left : Lit → Bool) {i j : Nat} (h : i ≠ j) : td (fun z => left z && !z.sameKey (.int .i64 (j : Int))) i = td left i := by
  show (left _ && !(Lit.sameKey _ _)) = left _
  rw [sameKey_ne (key_ne h)]; simp
theorem td_none {left : Lit → Bool} (h : ∀ kl, left kl = false) (j : Nat) : td left j = false := h _
theorem td_all {D : DataW Unit} {x : List Int} {n : Nat} (h : Tm D x n) {j : Nat} (hj : j < n) : x.getD j 0 ≠ 0 → td (has D) j = true := fun hne => (h.val j hj hne).1

/-- A row filled term by term: those that have come have their number. -/
def fl (x : List Int) (left : Lit → Bool) (g : Nat → Int) (j : Nat) : Int := if x.getD j 0 ≠ 0 ∧ td left j = false then g j else 0
theorem RowOwn.put {w : World} {b o n : Nat} {f : Nat → Int} (h : RowOwn w b o n f) {j : Nat} (hj : j < n) (v : Int) : RowOwn (w.setCell ⟨b, o + j, none⟩ (.int .i64 v)) b o n (fun i => if i = j then v else f i) where
  cell i hi := by
    by_cases e : i = j
    · subst e; rw [if_pos rfl]; exact World.cell?_setCell_same w _ _ (h.cell i hi)
    · rw [if_neg e]; exact (World.cell?_setCell_other _ _ _ _ (by first | (simp; done) | (simp; omega))).trans (h.cell i hi)
  free i hi := by simp [go_sem, h.free i hi]
theorem RowOwn.congr {w : World} {b o n : Nat} {f g : Nat → Int} (h : RowOwn w b o n f) (e : ∀ j, j < n → f j = g j) : RowOwn w b o n g := ⟨fun j hj => by rw [← e j hj]; exact h.cell j hj, h.free⟩
theorem fl_start {D : DataW Unit} {x : List Int} {n : Nat} (h : Tm D x n) (g : Nat → Int) {j : Nat} (hj : j < n) : fl x (has D) g j = 0 := by
  unfold fl
  rw [if_neg (fun k => by rw [td_all h hj k.1] at k; cases k.2)]
theorem fl_end {x : List Int} {left : Lit → Bool} (h : ∀ kl, left kl = false) (g : Nat → Int) (j : Nat) : fl x left g j = if x.getD j 0 ≠ 0 then g j else 0 := by
  unfold fl
  by_cases e : x.getD j 0 ≠ 0
  · rw [if_pos ⟨e, td_none h j⟩, if_pos e]
  · rw [if_neg (fun k => e k.1), if_neg e]
theorem fl_step {x : List Int} {left : Lit → Bool} {g : Nat → Int} {k : Nat} (hne : x.getD k 0 ≠ 0) (j : Nat) : (if j = k then g k else fl x left g j) = fl x (fun z => left z && !z.sameKey (.int .i64 (k : Int))) g j := by
  unfold fl
  by_cases e : j = k
  · subst e; rw [if_pos rfl, if_pos ⟨hne, td_same left j⟩]
  · rw [if_neg e, td_other left e]
theorem RowOwn.start (w : World) (n : Nat) (t : TypeId) : RowOwn (w.alloc (.cells (madeCells #[.int .i64 0] n) t)) w.heap.size 0 n (fun _ => 0) where
  cell j hj := by
    rw [Nat.zero_add]
    exact made_cell w (.int .i64 0) n t hj
  free j hj := by simp [go_sem]

/-- A store into another block keeps what is ranged over. -/
theorem ranges_set {w : World} {P : Program} {k : TypeId} {R : Value → Option (DataW Unit × List MemPlace)} {b r n : Nat} {D : DataW Unit} {left : Lit → Bool} {cnt : Nat} (h : w.ranges P k R b r n D left cnt) (c i : Nat) (v : Value) (hb : b ≠ c) (hr : r ≠ c) : (w.setCell ⟨c, i, none⟩ v).ranges P k R b r n D left cnt := by
  obtain ⟨es, clock, since, seen, c0, h1, h2, h3, h4, h5, h6⟩ := h
  exact ⟨es, clock, since, seen, c0, (Below.heap_setCell _ _ _ _ hb).trans h1, h2, h3, h4, (Below.heap_setCell _ _ _ _ hr).trans h5, h6⟩
theorem ranges_below {B : Nat} {w w' : World} {P : Program} {k : TypeId} {R : Value → Option (DataW Unit × List MemPlace)} {b r n : Nat} {D : DataW Unit} {left : Lit → Bool} {cnt : Nat} (h : w.ranges P k R b r n D left cnt) (hb : Below B w w') (h0 : b < B) (h1 : r < B) : w'.ranges P k R b r n D left cnt := by
  obtain ⟨es, clock, since, seen, c0, k1, h2, h3, h4, k5, h6⟩ := h
  exact ⟨es, clock, since, seen, c0, (hb.block b h0).trans k1, h2, h3, h4, (hb.block r h1).trans k5, h6⟩
end Go.Proofs.Ythifnhekmenjaaa
