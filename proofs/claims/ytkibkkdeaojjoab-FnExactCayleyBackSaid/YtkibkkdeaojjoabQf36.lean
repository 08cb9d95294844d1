/-
  Multivectors: sizes, codes, grades; what chapter 4 makes of them. No Go in sight.
  No conditions.
  Geometric products: signs and factors of blades, their sums, associativity, the unit. No Go in sight.
  No conditions.
  The terms of a multivector as a map of the program's, and what is still to come of them when they are ranged over in any order.
  No conditions.
  Checks of multivectors, in the program and in the model.
  Conditions: the lists are nil or rows of known cells, of at most 1048576 numbers.
  Grades of blades and terms of multivectors, in the program; grades in the model.
  Conditions: masks of at most six bits; the multivector is a row of known cells.
  Checks of multivectors in the model; IsMultivector in both.
  Conditions: the lists are nil or rows of known cells, of at most 1048576 numbers.
  Multivectors of zeros, blades and vectors in both: contracts.
  Conditions: the lists are nil or rows of known cells, of at most 1048576 numbers.
  Changes of signs by grades, and the signs of all grades: contracts of the program.
  Conditions: the lists are nil or rows of known cells, of at most 1048576 numbers.
  Reversals and involutions of products: mathematics.
  Conditions: none.
  BladeOf, VectorOf, ScalarOf, AddMultivectors, ScaleMultivector: contracts of the program and of the model.
  Conditions: the lists are nil or rows of known cells, of at most 1048576 numbers.
  GradePart: contracts of the program and of the model.
  Conditions: the lists are nil or rows of known cells, of at most 1048576 numbers.
  The model's factors of blades: contract.
  Conditions: masks of at most six bits; the squares are a row of known cells with numbers of the prime.
  The program's factors behind a blade: contract.
  Conditions: a mask of at most six bits; the squares are a row of known cells with numbers of the prime.
  The program's geometric product: contract.
  Conditions: a space and multivectors of it: rows of known cells with numbers of the prime.
  The model's geometric product: contract.
  Conditions: a space and multivectors of it: rows of known cells with numbers of the prime.
  GeometricProduct: contracts of the program and of the model.
  Conditions: the lists are nil or rows of known cells, of at most 1048576 numbers.
-/
import Derived.Test.YtkibkkdeaojjoabQf35
import Derived.Test.YtkibkkdeaojjoabQf21
import Derived.Maps.RangeWalk
import Derived.Test.YtkibkkdeaojjoabQf26
import Derived.Maps.Own
import Derived.Maps.OwnSet
import Derived.Test.YtkibkkdeaojjoabQf10
import Derived.Test.YtkibkkdeaojjoabQf8
import Derived.Deep.RegionHeld3
import Derived.Deep.DeepAppendRoom
import Derived.Deep.DeepCutAuto
namespace Go.Proofs.Ytkibkkdeaojjoab
open Go.RowKit
set_option linter.unusedVariables false

/-- How many blades there are. -/
def bl (S : List Int) : Nat := 2 ^ S.length
theorem bl_le {S : List Int} (h : S.length ≤ 6) : bl S ≤ 64 := Nat.pow_le_pow_right (by decide) h
def isMv (p : Int) (S x : List Int) : Bool := isVec p (bl S) x
def codeMv (p : Int) (S : List Int) (m : List (List Int)) : Int := if isSp p S = true then (if m.all (isMv p S) = true then 0 else 2) else 1
theorem codeMv_sp {p : Int} {S : List Int} {m : List (List Int)} (h : isSp p S = false) : codeMv p S m = 1 := if_neg (by simp [h])
theorem codeMv_ok {p : Int} {S : List Int} {m : List (List Int)} (h : isSp p S = true) (k : m.all (isMv p S) = true) : codeMv p S m = 0 := by unfold codeMv; rw [if_pos h, if_pos k]
theorem codeMv_no {p : Int} {S : List Int} {m : List (List Int)} (h : isSp p S = true) (k : m.all (isMv p S) = false) : codeMv p S m = 2 := by unfold codeMv; rw [if_pos h, if_neg (by simp [k])]
theorem codeMv_cases (p : Int) (S : List Int) (m : List (List Int)) : (isSp p S = false ∧ codeMv p S m = 1) ∨ (isSp p S = true ∧ m.all (isMv p S) = true ∧ codeMv p S m = 0) ∨ (isSp p S = true ∧ m.all (isMv p S) = false ∧ codeMv p S m = 2) := by
  by_cases h : isSp p S = true
  · by_cases k : m.all (isMv p S) = true
    · exact .inr (.inl ⟨h, k, codeMv_ok h k⟩)
    · have k' : m.all (isMv p S) = false := by simpa using k
      exact .inr (.inr ⟨h, k', codeMv_no h k'⟩)
  · have h' : isSp p S = false := by simpa using h
    exact .inl ⟨h', codeMv_sp h'⟩
theorem codeMv_zero {p : Int} {S : List Int} {m : List (List Int)} : codeMv p S m = 0 ↔ isSp p S = true ∧ m.all (isMv p S) = true := by
  rcases codeMv_cases p S m with ⟨h, c⟩ | ⟨h, k, c⟩ | ⟨h, k, c⟩ <;> rw [c]
  · exact ⟨fun e => (by cases e), fun e => (by have e1 := e.1; rw [h] at e1; cases e1)⟩
  · exact ⟨fun _ => ⟨h, k⟩, fun _ => rfl⟩
  · exact ⟨fun e => (by cases e), fun e => (by have e1 := e.2; rw [k] at e1; cases e1)⟩
/-- The grade of a blade. -/
def gr (m : Nat) : Nat := m % 2 + m / 2 % 2 + m / 4 % 2 + m / 8 % 2 + m / 16 % 2 + m / 32 % 2
end Go.Proofs.Ytkibkkdeaojjoab

namespace Go.Proofs.Ytkibkkdeaojjoab
open Go.RowKit
set_option linter.unusedVariables false

/-- A sign. -/
def eps (k : Nat) : Int := if k % 2 = 1 then -1 else 1
/-- What the basis vector i of a blade b brings with it behind the blade a. -/
def gi (S : List Int) (a b i : Nat) : Int := if b / 2 ^ i % 2 = 1 then eps (gr (a / 2 ^ (i + 1))) * (if a / 2 ^ i % 2 = 1 then S.getD i 0 else 1) else 1
/-- The factor of the product of two blades, over the first n basis vectors of the second one. -/
def fz (S : List Int) (a b : Nat) : Nat → Int
  | 0 => 1
  | n + 1 => fz S a b n * gi S a b n
/-- The factor, as a number of the prime. -/
def fm (p : Int) (S : List Int) (a b n : Nat) : Int := fz S a b n % p
/-- What the program multiplies by. -/
def fi (p : Int) (S : List Int) (a i : Nat) : Int := if a / 2 ^ i % 2 = 1 then (if gr (a / 2 ^ (i + 1)) % 2 = 1 then p - 1 else 1) * S.getD i 0 % p else (if gr (a / 2 ^ (i + 1)) % 2 = 1 then p - 1 else 1)
/-- One product of three numbers. -/
def tm (p : Int) (S x y : List Int) (c a : Nat) : Int := x.getD a 0 * fm p S a (a ^^^ c) S.length * y.getD (a ^^^ c) 0
end Go.Proofs.Ytkibkkdeaojjoab

namespace Go.Proofs.Ytkibkkdeaojjoab
open Go.RowKit Go.Maps
set_option linter.unusedVariables false

/-- The map has the numbers of x up to k that are not 0. -/
structure Tm (D : DataW Unit) (x : List Int) (k : Nat) : Prop where
  only : ∀ kl, has D kl = true → ∃ j : Nat, j < k ∧ kl = .int .i64 j
  val : ∀ j : Nat, j < k → x.getD j 0 ≠ 0 → has D (.int .i64 j) = true ∧ ∀ z, D.atKey (.int .i64 j) z = .lit (.int .i64 (x.getD j 0))
  no : ∀ j : Nat, j < k → x.getD j 0 = 0 → has D (.int .i64 j) = false
theorem key_ne {i j : Nat} (h : i ≠ j) : (Lit.int .i64 (i : Int)) ≠ .int .i64 (j : Int) := fun e => by injection e with _ e; omega
theorem Tm.start (x : List Int) : Tm (.map []) x 0 := ⟨fun kl h => by simp [has] at h, fun j h => by omega, fun j h => by omega⟩
theorem Tm.fresh {D : DataW Unit} {x : List Int} {k : Nat} (h : Tm D x k) : has D (.int .i64 (k : Int)) = false := by
  cases e : has D (.int .i64 (k : Int)) with
  | false => rfl
  | true =>
    obtain ⟨j, hj, e2⟩ := h.only _ e
    exact absurd e2 (key_ne (by omega))
theorem Tm.skip {D : DataW Unit} {x : List Int} {k : Nat} (h : Tm D x k) (hx : x.getD k 0 = 0) : Tm D x (k + 1) where
  only kl hk := by
    obtain ⟨j, hj, e⟩ := h.only kl hk
    exact ⟨j, by omega, e⟩
  val j hj hne := h.val j (by
    by_cases e : j = k
    · subst e; exact absurd hx hne
    · omega) hne
  no j hj h0 := by
    by_cases e : j = k
    · subst e; exact h.fresh
    · exact h.no j (by omega) h0
theorem Tm.put {D : DataW Unit} {x : List Int} {k : Nat} (h : Tm D x k) (hm : IsMap D) (hx : x.getD k 0 ≠ 0) : Tm (D.put (.int .i64 (k : Int)) (.lit (.int .i64 (x.getD k 0)))) x (k + 1) where
  only kl hk := by
    by_cases e : kl = .int .i64 (k : Int)
    · exact ⟨k, by omega, e⟩
    · rw [has_put_other e] at hk
      obtain ⟨j, hj, e⟩ := h.only kl hk
      exact ⟨j, by omega, e⟩
  val j hj hne := by
    by_cases e : j = k
    · subst e; exact ⟨has_put_same hm (show WideAt.IsKeyLit (.int .i64 (j : Int)) from trivial) _, fun z => atKey_put_same hm (show WideAt.IsKeyLit (.int .i64 (j : Int)) from trivial) _ z⟩
    · obtain ⟨h1, h2⟩ := h.val j (by omega) hne
      exact ⟨by rw [has_put_other (key_ne e)]; exact h1, fun z => by rw [atKey_put_other (key_ne e)]; exact h2 z⟩
  no j hj h0 := by
    by_cases e : j = k
    · subst e; exact absurd h0 hx
    · rw [has_put_other (key_ne e)]; exact h.no j (by omega) h0

/-- Whether the term at j is still to come. -/
def td (left : Lit → Bool) (j : Nat) : Bool := left (.int .i64 (j : Int))
def Sub (left : Lit → Bool) (D : DataW Unit) : Prop := ∀ kl, left kl = true → has D kl = true
/-- An entry that comes is a term. -/
theorem Tm.come {D : DataW Unit} {x : List Int} {n : Nat} {left : Lit → Bool} {k c : Int} (h : Tm D x n) (hs : Sub left D) (hl : left (.int .i64 k) = true) (hat : ∀ zd, D.atKey (.int .i64 k) zd = .lit (.int .i64 c)) :
    ∃ j : Nat, j < n ∧ k = j ∧ c = x.getD j 0 ∧ x.getD j 0 ≠ 0 ∧ td left j = true := by
  obtain ⟨j, hj, e⟩ := h.only _ (hs _ hl)
  injection e with _ e
  subst e
  have hne : x.getD j 0 ≠ 0 := fun e0 => by
    have h1 := h.no j hj e0
    rw [hs _ hl] at h1; cases h1
  have h2 := (h.val j hj hne).2 (.lit (.int .i64 0))
  rw [hat] at h2
  injection h2 with h2
  injection h2 with _ h2
  exact ⟨j, hj, rfl, h2, hne, hl⟩
/-- A row filled term by term: those that have come have their number. -/
def fl (x : List Int) (left : Lit → Bool) (g : Nat → Int) (j : Nat) : Int := if x.getD j 0 ≠ 0 ∧ td left j = false then g j else 0
theorem RowOwn.put {w : World} {b o n : Nat} {f : Nat → Int} (h : RowOwn w b o n f) {j : Nat} (hj : j < n) (v : Int) : RowOwn (w.setCell ⟨b, o + j, none⟩ (.int .i64 v)) b o n (fun i => if i = j then v else f i) where
  cell i hi := by
    by_cases e : i = j
    · subst e; rw [if_pos rfl]; exact World.cell?_setCell_same w _ _ (h.cell i hi)
    · rw [if_neg e]; exact (World.cell?_setCell_other _ _ _ _ (by first | (simp; done) | (simp; omega))).trans (h.cell i hi)
  free i hi := by simp [go_sem, h.free i hi]
theorem RowOwn.start (w : World) (n : Nat) (t : TypeId) : RowOwn (w.alloc (.cells (madeCells #[.int .i64 0] n) t)) w.heap.size 0 n (fun _ => 0) where
  cell j hj := by
    rw [Nat.zero_add]
    exact made_cell w (.int .i64 0) n t hj
  free j hj := by simp [go_sem]

end Go.Proofs.Ytkibkkdeaojjoab

namespace Go.Proofs.Ytkibkkdeaojjoab
open Go.RowKit
set_option linter.unusedVariables false

set_option maxHeartbeats 800000 in
theorem blades_any (p : Int) (a : Option Addr) (S : List Int) (c : Nat) (w : World) (h : S.length ≤ 6) :
    Calls Try.prog 78 #[.agg #[.int .i64 p, .slice a S.length c]] w fun e w' => e = .returned (.int .i64 (bl S)) ∧ Below w.heap.size w w' := by
  have hb : S.length = 0 ∨ S.length = 1 ∨ S.length = 2 ∨ S.length = 3 ∨ S.length = 4 ∨ S.length = 5 ∨ S.length = 6 := by omega
  unfold bl
  obtain ⟨n, hn⟩ : ∃ n, n = S.length := ⟨_, rfl⟩
  rw [← hn] at hb ⊢
  clear hn h
  rcases hb with rfl | rfl | rfl | rfl | rfl | rfl | rfl <;>
  · go_enter Try.func78, Try.ntmps78
    go_wp2
    go_ret
    exact ⟨by first | rfl | simp, by ((repeat' (first | with_reducible exact Below.refl _ _ | (with_reducible refine Below.setCell ?_ ?_ _) | (with_reducible refine Below.alloc ?_ ?_ _) | (with_reducible refine Below.drew ?_))); all_goals (first | (simp; done) | omega | (simp; omega)))⟩
set_option maxRecDepth 100000 in
set_option maxHeartbeats 1600000 in
theorem checkMultivectors_any (p : Int) (aS : Option Addr) (S : List Int) (cS loS tpS : Nat) (am : Option Addr) (m : List (List Int)) (cm lom tpm : Nat) (w : World)
    (hS : RowIn loS tpS w aS S) (tS : tpS ≤ w.heap.size) (sS : S.length ≤ 1048576) (hm : MatIn lom tpm w am m) (tm : tpm ≤ w.heap.size) (sm : m.length ≤ 1048576) (sr : ∀ i, i < m.length → (rw' m i).length ≤ 1048576) :
    Calls Try.prog 80 #[.agg #[.int .i64 p, .slice aS S.length cS], .slice am m.length cm] w fun e w' => e = .returned (.int .i64 (codeMv p S m)) ∧ Below w.heap.size w w' := by
  have HS := Lib.hid hS
  have HM := Lib.hid hm
  have HT := Lib.hid sr
  clear hS hm sr
  by_cases h : isSp p S = true
  · have HI := Lib.hid h
    have HC := Lib.hid (code1_yes h)
    have h6 := (isSp_iff.1 h).hi
    have hbl := bl_le h6
    clear h
    go_enter Try.func80, Try.ntmps80
    go_wp2_with (go_at_call 68; (with_reducible refine (checkSp1 p aS S cS loS tpS _ (w.heap.size + 1) _ _ (by simp) (HS.out.below (below_alloc _ _) tS) (by simp; omega) sS).mono ?_); rintro e w2 ⟨rfl, hb2⟩; rw [HC.out]; have HB := Lib.hid hb2; clear hb2)
    have HBW : Hid (Below w.heap.size w w2) := below_step (((below_alloc _ _)).alloc (by simp) _) (by simp; omega) HB.out
    have HC0 := Lib.hid ((HB.out.cell (p := ⟨w.heap.size, 0, none⟩) (by simp; omega)).trans ((World.cell?_alloc_old _ _ _ (by simp)).trans (nw0 w _ _ _)))
    have HC1 := Lib.hid ((HB.out.cell (p := ⟨w.heap.size, 1, none⟩) (by simp; omega)).trans ((World.cell?_alloc_old _ _ _ (by simp)).trans (nw1 w _ _ _)))
    have hwz := HBW.out.size
    have hwlt : w.heap.size < w2.heap.size := by have := HB.out.size; simp at this; omega
    have HM2 := Lib.hid (HM.out.below HBW.out tm)
    clear HB
    go_loopw [16] (fun t wr => ∃ i : Nat, i ≤ m.length ∧ t = .int .i64 i ∧ (m.take i).all (isMv p S) = true ∧ Below w2.heap.size w2 wr) (fun t _ => m.length - (intOf t).toNat)
    case atStart => exact ⟨0, Nat.zero_le _, rfl, rfl, Below.refl _ _⟩
    case round =>
      obtain ⟨i, hi, rfl, hA, hbel⟩ := hrel
      have HA := Lib.hid hA
      have HBEL := Lib.hid hbel
      have hwz2 := hbel.size
      have l0 : w.heap.size < wr.heap.size := by omega
      have hc0 := (hbel.cell (p := ⟨w.heap.size, 0, none⟩) hwlt).trans HC0.out
      have hc1 := (hbel.cell (p := ⟨w.heap.size, 1, none⟩) hwlt).trans HC1.out
      clear hA
      by_cases hlt : i < m.length
      · obtain ⟨b1, o1, r, c1, ha1, _, hb1, hr, hrow⟩ := (HM2.out.below hbel (by omega)).row hlt
        subst ha1
        have hl := HT.out i hlt
        have HR := Lib.hid hrow
        have hi1 : (i : Int) < (m.length : Int) := by omega
        clear hrow hbel
        by_cases hv : isMv p S (rw' m i) = true
        · have HV := Lib.hid hv
          have HVV : Hid ((decide ((rw' m i).length = bl S) && (rw' m i).all (inr p)) = true) := hv
          clear hv
          go_wp2
          go_region_held3 (fun w' => w'.cell? ⟨w.heap.size, 0, none⟩ = some (.int .i64 p) ∧ w'.cell? ⟨w.heap.size, 1, none⟩ = some (.slice aS S.length cS)) (first | go_keep | exact SS3.out) (first | (go_at_call 78; (with_reducible refine (blades_any p aS S cS wr.drew h6).mono ?_); rintro e w3 ⟨rfl, hb3⟩; have HB3 : Hid (Below wr.heap.size wr w3) := (below_drew wr).trans hb3; have SS3 := Lib.hid (And.intro ((HB3.out.cell (p := ⟨w.heap.size, 0, none⟩) l0).trans hc0) ((HB3.out.cell (p := ⟨w.heap.size, 1, none⟩) l0).trans hc1)); clear hb3) | (go_at_call 108; (with_reducible refine (isVector_any p r (rw' m i) c1 (bl S) lom tpm _ (isSp_iff.1 HI.out).prime (HR.out.below HB3.out (by omega)) hl (by omega)).mono ?_); rintro e w4 ⟨rfl, rfl⟩; rw [HVV.out]))
          go_wp2
          go_roundw
          case rel => exact ⟨i + 1, by omega, by go_num, by rw [all_take_vec hlt, HA.out, HV.out]; rfl, below_step HBEL.out hwz2 HB3.out⟩
          case measure => simp [intOf]; omega
        · have HV : Hid (isMv p S (rw' m i) = false) := by show _ = _; simpa using hv
          have HVV : Hid ((decide ((rw' m i).length = bl S) && (rw' m i).all (inr p)) = false) := HV.out
          have HCV := Lib.hid (codeMv_no HI.out (all_false_vec hlt HV.out))
          clear hv
          go_wp2
          go_region_held3 (fun w' => w'.cell? ⟨w.heap.size, 0, none⟩ = some (.int .i64 p) ∧ w'.cell? ⟨w.heap.size, 1, none⟩ = some (.slice aS S.length cS)) (first | go_keep | exact SS3.out) (first | (go_at_call 78; (with_reducible refine (blades_any p aS S cS wr.drew h6).mono ?_); rintro e w3 ⟨rfl, hb3⟩; have HB3 : Hid (Below wr.heap.size wr w3) := (below_drew wr).trans hb3; have SS3 := Lib.hid (And.intro ((HB3.out.cell (p := ⟨w.heap.size, 0, none⟩) l0).trans hc0) ((HB3.out.cell (p := ⟨w.heap.size, 1, none⟩) l0).trans hc1)); clear hb3) | (go_at_call 108; (with_reducible refine (isVector_any p r (rw' m i) c1 (bl S) lom tpm _ (isSp_iff.1 HI.out).prime (HR.out.below HB3.out (by omega)) hl (by omega)).mono ?_); rintro e w4 ⟨rfl, rfl⟩; rw [HVV.out]))
          go_wp2
          go_ret
          exact ⟨by rw [HCV.out]; rfl, HBW.out.trans ((below_step HBEL.out hwz2 HB3.out).mono hwz)⟩
      · have HCV : Hid (codeMv p S m = 0) := codeMv_ok HI.out (by have h := HA.out; rwa [List.take_of_length_le (by omega)] at h)
        clear hbel
        go_wp2
        go_ret
        exact ⟨by rw [HCV.out]; rfl, HBW.out.trans (HBEL.out.mono hwz)⟩
  · have HI : Hid (isSp p S = false) := by show _ = _; simpa using h
    have HC := Lib.hid (code1_no HI.out)
    have HCV : Hid (codeMv p S m = 1) := codeMv_sp HI.out
    clear h
    go_enter Try.func80, Try.ntmps80
    go_wp2_with (go_at_call 68; (with_reducible refine (checkSp1 p aS S cS loS tpS _ (w.heap.size + 1) _ _ (by simp) (HS.out.below (below_alloc _ _) tS) (by simp; omega) sS).mono ?_); rintro e w2 ⟨rfl, hb2⟩; rw [HC.out]; have HB := Lib.hid hb2; clear hb2)
    go_ret
    exact ⟨by rw [HCV.out]; rfl, below_step (((below_alloc _ _)).alloc (by simp) _) (by simp; omega) HB.out⟩

end Go.Proofs.Ytkibkkdeaojjoab

namespace Go.Proofs.Ytkibkkdeaojjoab
open Go.RowKit
set_option linter.unusedVariables false

theorem RowOwn.own {lo tp : Nat} {w : World} {b o n : Nat} {f : Nat → Int} (h : RowOwn w b o n f) (h0 : lo ≤ b) (h1 : b < tp) : OwnR lo tp w (some ⟨b, o, none⟩) (mkR n f) :=
  .inr ⟨b, o, rfl, h0, h1, fun j hj => by
    rw [mkR_len] at hj
    rw [mkR_at _ hj]
    exact ⟨h.cell j hj, h.free j hj⟩⟩
theorem SpecR.new {n : Nat} {f : Nat → Int} {b : Nat} {C : Int} {w w' : World} (h : RowOwn w' b 0 n f) (h0 : w.heap.size ≤ b) (h1 : b < w'.heap.size) (hb : Below w.heap.size w w') :
    SpecR (mkR n f) C w (.returned (.tuple #[.slice (some ⟨b, 0, none⟩) n n, .int .i64 C])) w' :=
  ⟨_, n, by rw [mkR_len], (h.own h0 h1).row, hb⟩
theorem ImplR.new {n : Nat} {f : Nat → Int} {b : Nat} {C : Int} {w w' : World} (h : RowOwn w' b 0 n f) (h0 : w.heap.size ≤ b) (h1 : b < w'.heap.size) (hb : Below w.heap.size w w') :
    ImplR (mkR n f) C w (.returned (.tuple #[.slice (some ⟨b, 0, none⟩) n n, .int .i64 C])) w' :=
  ⟨_, n, by rw [mkR_len], h.own h0 h1, hb⟩

end Go.Proofs.Ytkibkkdeaojjoab

namespace Go.Proofs.Ytkibkkdeaojjoab
open Go.RowKit
set_option linter.unusedVariables false

theorem Mv.num {p : Int} {S x : List Int} (h : isMv p S x = true) : ∀ j, j < x.length → 0 ≤ x.getD j 0 ∧ x.getD j 0 < p := fun j hj => (isVec_iff.1 h).num (by rw [← (isVec_iff.1 h).len]; exact hj)
theorem Mv.len {p : Int} {S x : List Int} (h : isMv p S x = true) : x.length = bl S := (isVec_iff.1 h).len
end Go.Proofs.Ytkibkkdeaojjoab

namespace Go.Proofs.Ytkibkkdeaojjoab
open Go.RowKit
set_option linter.unusedVariables false

/-- Room of one's own at a known block: a list with capacity. -/
def RoomR (w : World) (g cap : Nat) (zs : List Int) : Prop := w.ownsRow g 2 1 (.slice (some ⟨g, 0, none⟩) zs.length cap) zs.length (zs.map (Value.int .i64))
theorem RoomR.cell {w : World} {g cap : Nat} {zs : List Int} (h : RoomR w g cap zs) {j : Nat} (hj : j < zs.length) : w.cell? ⟨g, j, none⟩ = some (.int .i64 (zs.getD j 0)) := by
  have h2 := World.ownsRow.cells h (g := g) rfl j (.int .i64 (zs.getD j 0)) (by simp [hj, List.getD])
  rw [Addr.add_lit, Nat.zero_add] at h2
  exact h2
theorem RoomR.row {w : World} {g n : Nat} {f : Nat → Int} (h : RoomR w g n (mkR n f)) : RowOwn w g 0 n f := by
  refine ⟨fun j hj => ?_, fun j hj => ?_⟩
  · have h2 := h.cell (j := j) (by rw [mkR_len]; exact hj)
    rw [mkR_at _ hj] at h2
    rw [Nat.zero_add]; exact h2
  · obtain ⟨_, h⟩ := h
    rcases h with ⟨h, _⟩ | ⟨g', cap, cur, hv, hb, hg, hnc, hcm, hcs, htake⟩
    · cases h
    · cases hv
      simp [World.frozen?, hg]
theorem RoomR.start (w : World) {n : Nat} (hn : 0 < n) (hm : n ≤ 64) (v : Int) : RoomR (w.alloc (.cells ((madeCells #[.int .i64 0] n).setIfInBounds 0 (.int .i64 v)) 2)) w.heap.size n [v] := by
  refine ⟨rfl, .inr ⟨w.heap.size, n, (madeCells #[.int .i64 0] n).setIfInBounds 0 (.int .i64 v), rfl, Nat.le_refl _, heap_alloc_new w _, hn, by unfold maxLen; omega, by simp [size_madeCells], ?_⟩⟩
  obtain ⟨k, rfl⟩ : ∃ k, n = k + 1 := ⟨n - 1, by omega⟩
  have e : ((madeCells #[.int .i64 0] (k + 1)).setIfInBounds 0 (Value.int .i64 v)).toList = (Value.int .i64 v) :: ((madeCells #[.int .i64 0] (k + 1)).setIfInBounds 0 (Value.int .i64 v)).toList.drop 1 := by
    have hl : 0 < ((madeCells #[Value.int .i64 0] (k + 1)).setIfInBounds 0 (Value.int .i64 v)).toList.length := by simp [size_madeCells]
    rw [List.drop_one]
    have h2 := List.cons_head_tail (List.ne_nil_of_length_pos hl)
    rw [← h2]
    simp [List.head_eq_getElem]
  rw [e]; rfl
theorem RoomR.below {w w' : World} {B g n : Nat} {zs : List Int} (h : RoomR w g n zs) (hb : Below B w w') (hg : g < B) : RoomR w' g n zs := by
  obtain ⟨h0, h1⟩ := h
  rcases h1 with ⟨h1, _⟩ | ⟨g', cap, cur, hv, hb1, hg1, hnc, hcm, hcs, htake⟩
  · cases h1
  · cases hv
    exact ⟨h0, .inr ⟨g, n, cur, rfl, hb1, (hb.block g hg).trans hg1, hnc, hcm, hcs, htake⟩⟩
end Go.Proofs.Ytkibkkdeaojjoab

namespace Go.Proofs.Ytkibkkdeaojjoab
open Go.RowKit Go.Maps
set_option linter.unusedVariables false

/-- The number at c, when the terms that have come are added. -/
def gq (p : Int) (S x y : List Int) (left : Lit → Bool) (c : Nat) : Int := sm (bl S) (fl x left (tm p S x y c))
/-- .. and those of the first k numbers of the term j. -/
def gk (p : Int) (S x y : List Int) (left : Lit → Bool) (j k c : Nat) : Int := gq p S x y left c + if j ^^^ c < k then tm p S x y c j else 0
end Go.Proofs.Ytkibkkdeaojjoab

namespace Go.Proofs.Ytkibkkdeaojjoab
open Go.RowKit
set_option linter.unusedVariables false

/-- A block of numbers. -/
def Tag (b : Nat) (w : World) : Prop := ∃ cur, w.heap[b]? = some (.cells cur 2 (0, 0))
theorem Tag.start (w : World) (cs : Array Value) : Tag w.heap.size (w.alloc (.cells cs 2)) := ⟨cs, heap_alloc_new w _⟩
theorem Tag.set {b : Nat} {w : World} (h : Tag b w) (c i : Nat) (v : Value) : Tag b (w.setCell ⟨c, i, none⟩ v) := by
  obtain ⟨cur, h⟩ := h
  by_cases e : b = c
  · subst e
    exact ⟨cur.setIfInBounds i v, by simp [World.setCell, Array.getElem?_modify, h]⟩
  · exact ⟨cur, (Below.heap_setCell _ _ _ _ e).trans h⟩
end Go.Proofs.Ytkibkkdeaojjoab
