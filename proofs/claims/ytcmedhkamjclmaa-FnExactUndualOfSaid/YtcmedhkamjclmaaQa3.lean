/-
  The program's new matrices of zeros.
  Conditions: at least one column, at most 1024 rows and columns.
  The program's transposed matrices and unit matrices: contracts.
  Conditions: the matrix is a row of rows of known cells, all of one length, at most 1024.
  Sums of products of lists, and products of matrices with vectors, in the program and in the model: contracts.
  Conditions: the lists and matrices are rows of known cells with numbers of the prime; their sizes fit.
  Matrices with rows of one length, and their products with vectors in the program: contracts.
  Conditions: the matrices are rows of rows of known cells with numbers of the prime; their sizes fit.
  Copies of lists and matrices in the model, copies of lists in the program, and unit matrices in both: contracts.
  Conditions: the lists are rows of known cells, not empty.
  Multiples added to lists and lists multiplied, in place, in the program: contracts.
  Conditions: the arguments are nil or rows of known cells, of at most 1048576 numbers.
  The terms of a multivector as a map of the program's, and what is still to come of them when they are ranged over in any order.
  No conditions.
  Multivectors of zeros, blades and vectors in both: contracts.
  Conditions: the lists are nil or rows of known cells, of at most 1048576 numbers.
  What the model's sums, multiples, copies, turned matrices and unit matrices are: contracts.
  Conditions: the lists and matrices are rows of known cells with numbers of the prime; their sizes fit.
  BladeOf, VectorOf, ScalarOf, AddMultivectors, ScaleMultivector: contracts of the program and of the model.
  Conditions: the lists are nil or rows of known cells, of at most 1048576 numbers.
  Grades of blades and terms of multivectors, in the program; grades in the model.
  Conditions: masks of at most six bits; the multivector is a row of known cells.
  GradePart: contracts of the program and of the model.
  Conditions: the lists are nil or rows of known cells, of at most 1048576 numbers.
  The model's factors of blades: contract.
  Conditions: masks of at most six bits; the squares are a row of known cells with numbers of the prime.
-/
import Derived.Test.YtcmedhkamjclmaaQa2
import Derived.RegionTactic
import Derived.ChangeAlike
import Derived.Deep.AppendLies
import Derived.BigQuiet
import Derived.Lib.SliceRun
import Derived.Maps.RangeWalk
import Derived.Deep.RegionHeld3
import Derived.Maps.Own
import Derived.Maps.OwnSet
namespace Go.Proofs.Ytcmedhkamjclmaa
open Go.RowKit
set_option linter.unusedVariables false

/-- What has been cut out of one piece so far. -/
structure CutAt (w wr : World) (bm br n c i : Nat) : Prop where
  bel : Below w.heap.size w wr
  lm : w.heap.size ≤ bm ∧ bm < wr.heap.size
  lr : w.heap.size ≤ br ∧ br < wr.heap.size
  ne : bm ≠ br
  done : ∀ j, j < i → wr.cell? ⟨bm, j, none⟩ = some (.slice (some ⟨br, j * c, none⟩) c c)
  rest : ∀ j, i ≤ j → j < n → wr.cell? ⟨bm, j, none⟩ = some (.slice none 0 0)
  fm : ∀ j, wr.frozen? ⟨bm, j, none⟩ = false
  fr : ∀ j, wr.frozen? ⟨br, j, none⟩ = false
  zero : ∀ j, j < n * c → wr.cell? ⟨br, j, none⟩ = some (.int .i64 0)
theorem made_cell (w : World) (x : Value) (n : Nat) (t : TypeId) {j : Nat} (hj : j < n) : (w.alloc (.cells (madeCells #[x] n) t)).cell? ⟨w.heap.size, j, none⟩ = some x := by
  rw [World.cell?_alloc_new (w := w) (madeCells #[x] n) t j]
  simp [madeCells, hj, Nat.mod_one]
theorem CutAt.drew {w wr : World} {bm br n c i : Nat} (h : CutAt w wr bm br n c i) : CutAt w wr.drew bm br n c i := ⟨h.bel.drew, h.lm, h.lr, h.ne, h.done, h.rest, h.fm, h.fr, h.zero⟩
theorem CutAt.next {w wr : World} {bm br n c i o : Nat} (h : CutAt w wr bm br n c i) (hi : i < n) (ho : o = i * c) : CutAt w (wr.setCell ⟨bm, i, none⟩ (.slice (some ⟨br, o, none⟩) c c)) bm br n c (i + 1) where
  bel := h.bel.setCell h.lm.1 _
  lm := by simpa [World.setCell] using h.lm
  lr := by simpa [World.setCell] using h.lr
  ne := h.ne
  done j hj := by
    subst ho
    by_cases e : j = i
    · subst e; exact World.cell?_setCell_same wr _ _ (h.rest j (Nat.le_refl _) hi)
    · exact (World.cell?_setCell_other _ _ _ _ (by first | (simp; done) | (simp; omega))).trans (h.done j (by omega))
  rest j hj hl := (World.cell?_setCell_other _ _ _ _ (by first | (simp; done) | (simp; omega))).trans (h.rest j (by omega) hl)
  fm j := by simp [go_sem, h.fm]
  fr j := by simp [go_sem, h.fr]
  zero j hj := (World.cell?_setCell_other _ _ _ _ (fun e => h.ne (by injection e))).trans (h.zero j hj)
theorem CutAt.own {w wr : World} {bm br n c : Nat} (h : CutAt w wr bm br n c n) (hc : 1 ≤ c) : OwnAt w.heap.size wr.heap.size wr ⟨bm, 0, fun i => some ⟨br, i * c, none⟩, fun _ => br, fun i => i * c, fun _ => c⟩ n (fun _ => c) (fun _ _ => 0) where
  rng _ := h.lm
  top i hi := by show wr.cell? ⟨bm, 0 + i, none⟩ = _; rw [Nat.zero_add]; exact h.done i hi
  row i hi := .inr rfl
  rrng i hi _ := h.lr
  cell i hi j hj := h.zero _ (by
    have : (i + 1) * c ≤ n * c := Nat.mul_le_mul_right _ (by omega)
    have e : (i + 1) * c = i * c + c := Nat.succ_mul _ _
    show i * c + j < n * c
    omega)
  free i hi j hj := h.fr _
  apart i hi i' hi' hne j hj j' hj' e := by
    have e2 : i * c + j = i' * c + j' := e.2
    rcases Nat.lt_or_ge i i' with l | l
    · have : (i + 1) * c ≤ i' * c := Nat.mul_le_mul_right _ (by omega)
      have e3 : (i + 1) * c = i * c + c := Nat.succ_mul _ _
      omega
    · have : (i' + 1) * c ≤ i * c := Nat.mul_le_mul_right _ (by omega)
      have e3 : (i' + 1) * c = i' * c + c := Nat.succ_mul _ _
      omega
  tops i hi j hj i' hi' e := h.ne e.1.symm

end Go.Proofs.Ytcmedhkamjclmaa

namespace Go.Proofs.Ytcmedhkamjclmaa
open Go.RowKit
set_option linter.unusedVariables false

def Nums (p : Int) (z : List Int) : Prop := ∀ j, j < z.length → 0 ≤ z.getD j 0 ∧ z.getD j 0 < p
theorem Nums.of {p : Int} {z : List Int} (h : z.all (inr p) = true) : Nums p z := by
  intro j hj
  rw [List.all_eq_true] at h
  exact inr_iff.1 (h _ (by rw [getD_at hj]; exact List.getElem_mem hj))
theorem mul_bd' {p x y : Int} (hp : p ≤ 13) (x0 : 0 ≤ x) (x1 : x < p) (y0 : 0 ≤ y) (y1 : y < p) : 0 ≤ x * y ∧ x * y ≤ 144 :=
  ⟨Int.mul_nonneg x0 y0, Int.le_trans (Int.mul_le_mul_of_nonneg_right (by omega : x ≤ 12) y0) (Int.mul_le_mul_of_nonneg_left (by omega : y ≤ 12) (by omega))⟩
end Go.Proofs.Ytcmedhkamjclmaa

namespace Go.Proofs.Ytcmedhkamjclmaa
open Go.RowKit Go.ChangeShapes Go.WideShapes
set_option linter.unusedVariables false

/-- Rows of c numbers of the prime, at most 1024 of at most 1024. -/
structure Rect (p : Int) (m : List (List Int)) (c : Nat) : Prop where
  rows : m.length ≤ 1024
  cols : c ≤ 1024
  len : ∀ i, i < m.length → (rw' m i).length = c
  num : ∀ i, i < m.length → Nums p (rw' m i)
theorem Rect.at {p : Int} {m : List (List Int)} {c : Nat} (h : Rect p m c) {i j : Nat} (hi : i < m.length) (hj : j < c) : 0 ≤ at' m i j ∧ at' m i j < p := h.num i hi j (by rw [h.len i hi]; exact hj)
end Go.Proofs.Ytcmedhkamjclmaa

namespace Go.Proofs.Ytcmedhkamjclmaa
open Go.RowKit Go.ChangeShapes Go.WideShapes
set_option linter.unusedVariables false

theorem OutR.of {B n : Nat} {w : World} {v : Value} {zs : List Int} (h : w.ownsRow B 2 1 v n ([] ++ zs.map (Value.int .i64))) (hn : n = zs.length) : OutR B w v zs := by
  subst hn; simpa [OutR] using h

end Go.Proofs.Ytcmedhkamjclmaa

namespace Go.Proofs.Ytcmedhkamjclmaa
open Go.RowKit
set_option linter.unusedVariables false

/-- A list of one's own, rewritten in place: what stands where. -/
structure RowOwn (w : World) (b o : Nat) (n : Nat) (f : Nat → Int) : Prop where
  cell : ∀ j, j < n → w.cell? ⟨b, o + j, none⟩ = some (.int .i64 (f j))
  free : ∀ j, j < n → w.frozen? ⟨b, o + j, none⟩ = false
theorem RowOwn.of {lo tp : Nat} {w : World} {a : Option Addr} {zs : List Int} (h : OwnR lo tp w a zs) (h0 : 0 < zs.length) : ∃ b o, a = some ⟨b, o, none⟩ ∧ lo ≤ b ∧ b < tp ∧ RowOwn w b o zs.length (fun j => zs.getD j 0) := by
  rcases h with h | ⟨b, o, ha, k0, k1, hc⟩
  · rw [h] at h0; simp at h0
  · exact ⟨b, o, ha, k0, k1, fun j hj => (hc j hj).1, fun j hj => (hc j hj).2⟩
theorem RowOwn.back {lo tp : Nat} {w : World} {b o : Nat} {zs : List Int} (h : RowOwn w b o zs.length (fun j => zs.getD j 0)) (h0 : lo ≤ b) (h1 : b < tp) : OwnR lo tp w (some ⟨b, o, none⟩) zs :=
  .inr ⟨b, o, rfl, h0, h1, fun j hj => ⟨h.cell j hj, h.free j hj⟩⟩
theorem RowOwn.step {w : World} {b o n i : Nat} {f g : Nat → Int} (h : RowOwn w b o n (fun j => if j < i then g j else f j)) (hi : i < n) (v : Value) (hv : v = .int .i64 (g i)) : RowOwn (w.setCell ⟨b, o + i, none⟩ v) b o n (fun j => if j < i + 1 then g j else f j) where
  cell j hj := by
    subst hv
    by_cases e : j = i
    · subst e; rw [if_pos (by omega)]; exact World.cell?_setCell_same w _ _ (h.cell j hj)
    · by_cases e2 : j < i
      · rw [if_pos (by omega)]; have h2 := h.cell j hj; rw [if_pos e2] at h2; exact (World.cell?_setCell_other _ _ _ _ (by first | (simp; done) | (simp; omega))).trans h2
      · rw [if_neg (by omega)]; have h2 := h.cell j hj; rw [if_neg e2] at h2; exact (World.cell?_setCell_other _ _ _ _ (by first | (simp; done) | (simp; omega))).trans h2
  free j hj := by simp [go_sem, h.free j hj]
theorem Wrote.same {b o n lo tp : Nat} {w w' : World} (h : Wrote b o n w w') (hb : b < lo ∨ tp ≤ b) : Same lo tp w w' := fun i i0 i1 => h.block i (by omega)
theorem RowOwn.drew {w : World} {b o n : Nat} {f : Nat → Int} (h : RowOwn w b o n f) : RowOwn w.drew b o n f := ⟨h.cell, h.free⟩

set_option maxRecDepth 100000 in
set_option maxHeartbeats 3200000 in
theorem scale_any (p k : Int) (b o n c : Nat) (f : Nat → Int) (w : World) (hp : prm p = true) (h : RowOwn w b o n f) (hn : n ≤ 100000) (hf : ∀ j, j < n → 0 ≤ f j ∧ f j < p) (k0 : 0 ≤ k) (k1 : k ≤ p) :
    Calls Try.prog 107 #[.int .i64 p, .slice (some ⟨b, o, none⟩) n c, .int .i64 k] w fun e w' => e = .returned (.tuple #[]) ∧ RowOwn w' b o n (fun j => f j * k % p) ∧ Wrote b o n w w' := by
  have hpb := prm_bd hp
  have H := Lib.hid h
  have HF := Lib.hid hf
  clear h hf hp
  go_enter Try.func107, Try.ntmps107
  go_wp2
  go_loopw [9] (fun t wr => ∃ i : Nat, i ≤ n ∧ t = .int .i64 i ∧ RowOwn wr b o n (fun j => if j < i then f j * k % p else f j) ∧ Wrote b o n w wr) (fun t _ => n - (intOf t).toNat)
  case atStart => exact ⟨0, Nat.zero_le _, rfl, ⟨fun j hj => by simpa using H.out.cell j hj, H.out.free⟩, Wrote.refl _ _ _ _⟩
  case round =>
    obtain ⟨i, hi, rfl, hr, hw⟩ := hrel
    have HR := Lib.hid hr
    have HW := Lib.hid hw
    by_cases hlt : i < n
    · have c0 := hr.cell i hlt
      rw [if_neg (Nat.lt_irrefl _)] at c0
      have f0 := hr.free i hlt
      obtain ⟨x0, x1⟩ := HF.out i hlt
      obtain ⟨x, hx⟩ : ∃ x, x = f i := ⟨_, rfl⟩
      rw [← hx] at c0 x0 x1
      have HX := Lib.hid hx
      have m0 : 0 ≤ x * k := Int.mul_nonneg x0 k0
      have m1 : x * k ≤ 13 * 13 := Int.le_trans (Int.mul_le_mul_of_nonneg_right (by omega : x ≤ 13) k0) (Int.mul_le_mul_of_nonneg_left (by omega) (by omega))
      have hi1 : (i : Int) < (n : Int) := by omega
      have e1 : IntKind.i64.wrap (x * k) = x * k := IntWalk.i64_in _ (by omega)
      have e3 : (x * k).tmod p = x * k % p := Int.tmod_eq_emod_of_nonneg (by omega)
      have hp0 : ¬ p = 0 := by omega
      have hp1 : (p == 0) = false := by simpa using hp0
      clear hr hw hx
      go_wp2
      clear e1 e3
      go_wp2
      go_roundw
      case rel => exact ⟨i + 1, by omega, by go_num, HR.out.step hlt _ (by rw [HX.out]), HW.out.set hlt _⟩
      case measure => simp [intOf]; omega
    · have hn : i = n := by omega
      subst hn
      have HE : Hid (RowOwn wr b o i (fun j => f j * k % p)) := ⟨fun j hj => by have := HR.out.cell j hj; rwa [if_pos hj] at this, HR.out.free⟩
      clear hr hw
      go_wp2
      go_end0
      exact ⟨rfl, HE.out, HW.out⟩

end Go.Proofs.Ytcmedhkamjclmaa

namespace Go.Proofs.Ytcmedhkamjclmaa
open Go.RowKit Go.Maps
set_option linter.unusedVariables false

/-- The map has the numbers of x up to k that are not 0. -/
structure Tm (D : DataW Unit) (x : List Int) (k : Nat) : Prop where
  only : ∀ kl, has D kl = true → ∃ j : Nat, j < k ∧ kl = .int .i64 j
  val : ∀ j : Nat, j < k → x.getD j 0 ≠ 0 → has D (.int .i64 j) = true ∧ ∀ z, D.atKey (.int .i64 j) z = .lit (.int .i64 (x.getD j 0))
  no : ∀ j : Nat, j < k → x.getD j 0 = 0 → has D (.int .i64 j) = false
theorem key_ne {i j : Nat} (h : i ≠ j) : (Lit.int .i64 (i : Int)) ≠ .int .i64 (j : Int) := fun e => by injection e with _ e; omega
theorem Tm.start (x : List Int) : Tm (.map []) x 0 := ⟨fun kl h => by simp [has] at h, fun j h => by omega, fun j h => by omega⟩
theorem Tm.fresh {D : DataW Unit} {x : List Int} {k : Nat} (h : Tm D x k) : has D (.int .i64 (k : Int)) = false := by
  cases e : has D (.int .i64 (k : Int)) with
  | false => rfl
  | true =>
    obtain ⟨j, hj, e2⟩ := h.only _ e
    exact absurd e2 (key_ne (by omega))
theorem Tm.skip {D : DataW Unit} {x : List Int} {k : Nat} (h : Tm D x k) (hx : x.getD k 0 = 0) : Tm D x (k + 1) where
  only kl hk := by
    obtain ⟨j, hj, e⟩ := h.only kl hk
    exact ⟨j, by omega, e⟩
  val j hj hne := h.val j (by
    by_cases e : j = k
    · subst e; exact absurd hx hne
    · omega) hne
  no j hj h0 := by
    by_cases e : j = k
    · subst e; exact h.fresh
    · exact h.no j (by omega) h0
theorem Tm.put {D : DataW Unit} {x : List Int} {k : Nat} (h : Tm D x k) (hm : IsMap D) (hx : x.getD k 0 ≠ 0) : Tm (D.put (.int .i64 (k : Int)) (.lit (.int .i64 (x.getD k 0)))) x (k + 1) where
  only kl hk := by
    by_cases e : kl = .int .i64 (k : Int)
    · exact ⟨k, by omega, e⟩
    · rw [has_put_other e] at hk
      obtain ⟨j, hj, e⟩ := h.only kl hk
      exact ⟨j, by omega, e⟩
  val j hj hne := by
    by_cases e : j = k
    · subst e; exact ⟨has_put_same hm (show WideAt.IsKeyLit (.int .i64 (j : Int)) from trivial) _, fun z => atKey_put_same hm (show WideAt.IsKeyLit (.int .i64 (j : Int)) from trivial) _ z⟩
    · obtain ⟨h1, h2⟩ := h.val j (by omega) hne
      exact ⟨by rw [has_put_other (key_ne e)]; exact h1, fun z => by rw [atKey_put_other (key_ne e)]; exact h2 z⟩
  no j hj h0 := by
    by_cases e : j = k
    · subst e; exact absurd h0 hx
    · rw [has_put_other (key_ne e)]; exact h.no j (by omega) h0

/-- Whether the term at j is still to come. -/
def td (left : Lit → Bool) (j : Nat) : Bool := left (.int .i64 (j : Int))
def Sub (left : Lit → Bool) (D : DataW Unit) : Prop := ∀ kl, left kl = true → has D kl = true
theorem sub_refl (D : DataW Unit) : Sub (has D) D := fun _ h => h
/-- An entry that comes is a term. -/
theorem Tm.come {D : DataW Unit} {x : List Int} {n : Nat} {left : Lit → Bool} {k c : Int} (h : Tm D x n) (hs : Sub left D) (hl : left (.int .i64 k) = true) (hat : ∀ zd, D.atKey (.int .i64 k) zd = .lit (.int .i64 c)) :
    ∃ j : Nat, j < n ∧ k = j ∧ c = x.getD j 0 ∧ x.getD j 0 ≠ 0 ∧ td left j = true := by
  obtain ⟨j, hj, e⟩ := h.only _ (hs _ hl)
  injection e with _ e
  subst e
  have hne : x.getD j 0 ≠ 0 := fun e0 => by
    have h1 := h.no j hj e0
    rw [hs _ hl] at h1; cases h1
  have h2 := (h.val j hj hne).2 (.lit (.int .i64 0))
  rw [hat] at h2
  injection h2 with h2
  injection h2 with _ h2
  exact ⟨j, hj, rfl, h2, hne, hl⟩
theorem sub_strike {left : Lit → Bool} {D : DataW Unit} (h : Sub left D) (kl : Lit) : Sub (fun z => left z && !z.sameKey kl) D := fun z hz => h z (by simp only [Bool.and_eq_true] at hz; exact hz.1)
theorem td_same (left : Lit → Bool) (j : Nat) : td (fun z => left z && !z.sameKey (.int .i64 (j : Int))) j = false := by
  show (left _ && !(Lit.sameKey _ _)) = false
  rw [WideAt.sameKey_self (a := .int .i64 (j : Int)) trivial]; simp
theorem td_other (left : Lit → Bool) {i j : Nat} (h : i ≠ j) : td (fun z => left z && !z.sameKey (.int .i64 (j : Int))) i = td left i := by
  show (left _ && !(Lit.sameKey _ _)) = left _
  rw [sameKey_ne (key_ne h)]; simp
theorem td_none {left : Lit → Bool} (h : ∀ kl, left kl = false) (j : Nat) : td left j = false := h _
theorem td_all {D : DataW Unit} {x : List Int} {n : Nat} (h : Tm D x n) {j : Nat} (hj : j < n) : x.getD j 0 ≠ 0 → td (has D) j = true := fun hne => (h.val j hj hne).1

/-- A row filled term by term: those that have come have their number. -/
def fl (x : List Int) (left : Lit → Bool) (g : Nat → Int) (j : Nat) : Int := if x.getD j 0 ≠ 0 ∧ td left j = false then g j else 0
theorem RowOwn.put {w : World} {b o n : Nat} {f : Nat → Int} (h : RowOwn w b o n f) {j : Nat} (hj : j < n) (v : Int) : RowOwn (w.setCell ⟨b, o + j, none⟩ (.int .i64 v)) b o n (fun i => if i = j then v else f i) where
  cell i hi := by
    by_cases e : i = j
    · subst e; rw [if_pos rfl]; exact World.cell?_setCell_same w _ _ (h.cell i hi)
    · rw [if_neg e]; exact (World.cell?_setCell_other _ _ _ _ (by first | (simp; done) | (simp; omega))).trans (h.cell i hi)
  free i hi := by simp [go_sem, h.free i hi]
theorem RowOwn.congr {w : World} {b o n : Nat} {f g : Nat → Int} (h : RowOwn w b o n f) (e : ∀ j, j < n → f j = g j) : RowOwn w b o n g := ⟨fun j hj => by rw [← e j hj]; exact h.cell j hj, h.free⟩
theorem fl_start {D : DataW Unit} {x : List Int} {n : Nat} (h : Tm D x n) (g : Nat → Int) {j : Nat} (hj : j < n) : fl x (has D) g j = 0 := by
  unfold fl
  rw [if_neg (fun k => by rw [td_all h hj k.1] at k; cases k.2)]
theorem fl_end {x : List Int} {left : Lit → Bool} (h : ∀ kl, left kl = false) (g : Nat → Int) (j : Nat) : fl x left g j = if x.getD j 0 ≠ 0 then g j else 0 := by
  unfold fl
  by_cases e : x.getD j 0 ≠ 0
  · rw [if_pos ⟨e, td_none h j⟩, if_pos e]
  · rw [if_neg (fun k => e k.1), if_neg e]
theorem fl_step {x : List Int} {left : Lit → Bool} {g : Nat → Int} {k : Nat} (hne : x.getD k 0 ≠ 0) (j : Nat) : (if j = k then g k else fl x left g j) = fl x (fun z => left z && !z.sameKey (.int .i64 (k : Int))) g j := by
  unfold fl
  by_cases e : j = k
  · subst e; rw [if_pos rfl, if_pos ⟨hne, td_same left j⟩]
  · rw [if_neg e, td_other left e]
theorem RowOwn.start (w : World) (n : Nat) (t : TypeId) : RowOwn (w.alloc (.cells (madeCells #[.int .i64 0] n) t)) w.heap.size 0 n (fun _ => 0) where
  cell j hj := by
    rw [Nat.zero_add]
    exact made_cell w (.int .i64 0) n t hj
  free j hj := by simp [go_sem]

/-- A store into another block keeps what is ranged over. -/
theorem ranges_set {w : World} {P : Program} {k : TypeId} {R : Value → Option (DataW Unit × List MemPlace)} {b r n : Nat} {D : DataW Unit} {left : Lit → Bool} {cnt : Nat} (h : w.ranges P k R b r n D left cnt) (c i : Nat) (v : Value) (hb : b ≠ c) (hr : r ≠ c) : (w.setCell ⟨c, i, none⟩ v).ranges P k R b r n D left cnt := by
  obtain ⟨es, clock, since, seen, c0, h1, h2, h3, h4, h5, h6⟩ := h
  exact ⟨es, clock, since, seen, c0, (Below.heap_setCell _ _ _ _ hb).trans h1, h2, h3, h4, (Below.heap_setCell _ _ _ _ hr).trans h5, h6⟩
theorem ranges_below {B : Nat} {w w' : World} {P : Program} {k : TypeId} {R : Value → Option (DataW Unit × List MemPlace)} {b r n : Nat} {D : DataW Unit} {left : Lit → Bool} {cnt : Nat} (h : w.ranges P k R b r n D left cnt) (hb : Below B w w') (h0 : b < B) (h1 : r < B) : w'.ranges P k R b r n D left cnt := by
  obtain ⟨es, clock, since, seen, c0, k1, h2, h3, h4, k5, h6⟩ := h
  exact ⟨es, clock, since, seen, c0, (hb.block b h0).trans k1, h2, h3, h4, (hb.block r h1).trans k5, h6⟩
end Go.Proofs.Ytcmedhkamjclmaa

namespace Go.Proofs.Ytcmedhkamjclmaa
open Go.RowKit
set_option linter.unusedVariables false

/-- A row of one's own at the start of a new block. -/
def NewRow (n : Nat) (f : Nat → Int) (w : World) (e : Ending) (w' : World) : Prop :=
  ∃ b, e = .returned (.slice (some ⟨b, 0, none⟩) n n) ∧ w.heap.size ≤ b ∧ b < w'.heap.size ∧ RowOwn w' b 0 n f ∧ Below w.heap.size w w'
theorem RowOwn.own {lo tp : Nat} {w : World} {b o n : Nat} {f : Nat → Int} (h : RowOwn w b o n f) (h0 : lo ≤ b) (h1 : b < tp) : OwnR lo tp w (some ⟨b, o, none⟩) (mkR n f) :=
  .inr ⟨b, o, rfl, h0, h1, fun j hj => by
    rw [mkR_len] at hj
    rw [mkR_at _ hj]
    exact ⟨h.cell j hj, h.free j hj⟩⟩
set_option maxHeartbeats 800000 in
theorem l04Zero_any (p : Int) (a : Option Addr) (S : List Int) (c : Nat) (w : World) (h : S.length ≤ 6) :
    Calls Try.prog 101 #[.agg #[.int .i64 p, .slice a S.length c]] w (NewRow (bl S) (fun _ => 0) w) := by
  have hbl := bl_le h
  have hmk := fun W => run_make_row' (P := Try.prog) 22 2 (.int .i64 0) 8 Try.underlying22 info64 rfl .i64 .i64 (bl S) (by omega) (by omega) W
  go_enter Try.func101, Try.ntmps101
  go_wp2_with (go_at_call 118; (with_reducible refine (l04Size_any p a S c _ h).mono ?_); rintro e w1 ⟨rfl, hb1⟩; have HB1 := Lib.hid hb1; have hz1 := hb1.size; clear hb1)
  go_ret
  have hb := below_step (below_alloc w _) (by simp) HB1.out
  exact ⟨w1.heap.size, rfl, hb.size, by simp, RowOwn.start w1 (bl S) _, hb.alloc (hb.size) _⟩

theorem one_row (w : World) {n k : Nat} (t : TypeId) (v : Int) : RowOwn (w.alloc (.cells ((madeCells #[.int .i64 0] n).setIfInBounds k (.int .i64 v)) t)) w.heap.size 0 n (fun j => if j = k then v else 0) where
  cell j hj := by
    rw [Nat.zero_add, World.cell?_alloc_new, Array.getElem?_setIfInBounds]
    by_cases e : k = j
    · subst e; simp [size_madeCells, hj]
    · rw [if_neg e, if_neg (fun h => e h.symm)]; simp [madeCells, hj, Nat.mod_one]
  free j hj := by simp [go_sem]

set_option maxHeartbeats 800000 in
theorem blade_any (p : Int) (a : Option Addr) (S : List Int) (c k : Nat) (w : World) (h : S.length ≤ 6) (hk : k < bl S) :
    Calls Try.prog 103 #[.agg #[.int .i64 p, .slice a S.length c], .int .i64 k] w (NewRow (bl S) (fun j => if j = k then 1 else 0) w) := by
  have hbl := bl_le h
  have hmk := fun W => run_make_row' (P := Try.prog) 22 2 (.int .i64 0) 8 Try.underlying22 info64 rfl .i64 .i64 (bl S) (by omega) (by omega) W
  go_enter Try.func103, Try.ntmps103
  go_wp2_with (go_at_call 92; go_loud ((with_reducible refine (blades_any p a S c _ h).mono ?_); rintro e w1 ⟨rfl, hb1⟩; have HB1 := Lib.hid hb1; have hz1 := hb1.size; have g0 := made_cell w1 (.int .i64 0) (bl S) 2 hk; have f0 : (w1.alloc (.cells (madeCells #[.int .i64 0] (bl S)) 2)).frozen? ⟨w1.heap.size, k, none⟩ = false := (by simp [go_sem]); clear hb1))
  go_ret
  have hb := below_step (below_alloc w _) (by simp) HB1.out
  exact ⟨w1.heap.size, rfl, hb.size, by simp, one_row _ _ _, hb.alloc (hb.size) _⟩

theorem SpecR.new {n : Nat} {f : Nat → Int} {b : Nat} {C : Int} {w w' : World} (h : RowOwn w' b 0 n f) (h0 : w.heap.size ≤ b) (h1 : b < w'.heap.size) (hb : Below w.heap.size w w') :
    SpecR (mkR n f) C w (.returned (.tuple #[.slice (some ⟨b, 0, none⟩) n n, .int .i64 C])) w' :=
  ⟨_, n, by rw [mkR_len], (h.own h0 h1).row, hb⟩
theorem ImplR.new {n : Nat} {f : Nat → Int} {b : Nat} {C : Int} {w w' : World} (h : RowOwn w' b 0 n f) (h0 : w.heap.size ≤ b) (h1 : b < w'.heap.size) (hb : Below w.heap.size w w') :
    ImplR (mkR n f) C w (.returned (.tuple #[.slice (some ⟨b, 0, none⟩) n n, .int .i64 C])) w' :=
  ⟨_, n, by rw [mkR_len], h.own h0 h1, hb⟩

theorem wrap_pow {i : Nat} (h : i < 6) : wrap64 ((2 : Int) ^ i) = ((2 ^ i : Nat) : Int) := by
  have : i = 0 ∨ i = 1 ∨ i = 2 ∨ i = 3 ∨ i = 4 ∨ i = 5 := by omega
  rcases this with rfl | rfl | rfl | rfl | rfl | rfl <;> simp [wrap64]
theorem row_put0 {w : World} {b n j : Nat} {f g : Nat → Int} {v : Int} (h : RowOwn w b 0 n f) (hj : j < n) (e : ∀ i, i < n → (if i = j then v else f i) = g i) : RowOwn (w.setCell ⟨b, j, none⟩ (.int .i64 v)) b 0 n g := by
  have h2 := (h.put hj v).congr e
  rwa [Nat.zero_add] at h2
theorem wrote_put0 {b n j : Nat} {w w' : World} (h : Wrote b 0 n w w') (hj : j < n) (v : Value) : Wrote b 0 n w (w'.setCell ⟨b, j, none⟩ v) := by
  have h2 := h.set hj v
  rwa [Nat.zero_add] at h2
theorem RowOwn.stay {w w' : World} {b o n : Nat} {f : Nat → Int} (h : RowOwn w b o n f) (e : w'.heap[b]? = w.heap[b]?) : RowOwn w' b o n f :=
  ⟨fun j hj => (World.cell?_of_block (w := w) (a := ⟨b, o + j, none⟩) e).trans (h.cell j hj), fun j hj => (World.frozen?_of_block (w := w) (a := ⟨b, o + j, none⟩) e).trans (h.free j hj)⟩
theorem row_fill {w : World} {b n i : Nat} {g : Nat → Int} {v : Int} (h : RowOwn w b 0 n (fun j => if j < i then g j else 0)) (hi : i < n) (hv : v = g i) : RowOwn (w.setCell ⟨b, i, none⟩ (.int .i64 v)) b 0 n (fun j => if j < i + 1 then g j else 0) :=
  row_put0 h hi (fun j _ => by
    by_cases e : j = i
    · subst e; rw [if_pos rfl, if_pos (by omega), hv]
    · rw [if_neg e]
      by_cases e2 : j < i
      · rw [if_pos e2, if_pos (by omega)]
      · rw [if_neg e2, if_neg (by omega)])
theorem Wrote.belowB {b o n k : Nat} {w w' : World} (h : Wrote b o n w w') (hk : k ≤ b) : Below k w w' := ⟨h.os, h.tape, h.output, Nat.le_of_eq h.size.symm, fun i hi => h.block i (by omega)⟩

end Go.Proofs.Ytcmedhkamjclmaa

namespace Go.Proofs.Ytcmedhkamjclmaa
open Go.RowKit
set_option linter.unusedVariables false

/-- A list of one's own is handed back. -/
def OwnE (R : List Int) (w : World) (e : Ending) (w' : World) : Prop := ∃ r c, e = .returned (.slice r R.length c) ∧ OwnR w.heap.size w'.heap.size w' r R ∧ Below w.heap.size w w'
theorem Mv.num {p : Int} {S x : List Int} (h : isMv p S x = true) : ∀ j, j < x.length → 0 ≤ x.getD j 0 ∧ x.getD j 0 < p := fun j hj => (isVec_iff.1 h).num (by rw [← (isVec_iff.1 h).len]; exact hj)
theorem Mv.len {p : Int} {S x : List Int} (h : isMv p S x = true) : x.length = bl S := (isVec_iff.1 h).len
theorem Mv.nums {p : Int} {S x : List Int} (h : isMv p S x = true) : Nums p x := Mv.num h
end Go.Proofs.Ytcmedhkamjclmaa

namespace Go.Proofs.Ytcmedhkamjclmaa
open Go.RowKit Go.Maps
set_option linter.unusedVariables false

set_option maxHeartbeats 800000 in
theorem ones64 (m : Nat) (hm : m < 64) (w : World) : Calls Try.prog 142 #[.int .u64 m] w fun e w' => e = .returned (.int .i64 (gr m)) ∧ w = w' := by
  go_enter Try.func142, Try.ntmps142
  go_wp2
  go_ret
  refine ⟨congrArg (fun z => Ending.returned (.int .i64 z)) ?_, rfl⟩
  clear w
  revert hm
  revert m
  decide +kernel

set_option maxHeartbeats 800000 in
theorem ones_any (m : Nat) (hm : m < 64) (w : World) : Calls Try.prog 123 #[.int .u64 m] w fun e w' => e = .returned (.int .i64 (gr m)) ∧ w = w' := by
  go_enter Try.func123, Try.ntmps123
  go_wp2_with (go_at_call 142; refine (ones64 m hm _).mono ?_; rintro e w1 ⟨rfl, rfl⟩)
  go_ret
  exact ⟨rfl, rfl⟩
set_option maxHeartbeats 800000 in
theorem gradeOf_any (m : Nat) (hm : m < 64) (w : World) : Calls Try.prog 97 #[.int .i64 m] w fun e w' => e = .returned (.int .i64 (gr m)) ∧ w = w' := by
  go_enter Try.func97, Try.ntmps97
  go_wp2_with (go_at_call 123; refine (ones_any m hm _).mono ?_; rintro e w1 ⟨rfl, rfl⟩)
  go_ret
  exact ⟨rfl, rfl⟩
set_option maxHeartbeats 800000 in
theorem l04Grade_any (m : Nat) (hm : m < 64) (w : World) : Calls Try.prog 120 #[.int .i64 m] w fun e w' => e = .returned (.int .i64 (gr m)) ∧ w = w' := by
  go_enter Try.func120, Try.ntmps120
  go_wp2
  go_loop [0, 3] (fun u v => ∃ k n : Nat, k < 64 ∧ u = .int .i64 k ∧ v = .int .i64 n ∧ n + gr k = gr m) (fun u _ => (intOf u).toNat)
  case atStart => exact ⟨m, 0, hm, rfl, rfl, Nat.zero_add _⟩
  case round =>
    obtain ⟨k, n, hk, rfl, rfl, he⟩ := hrel
    by_cases h0 : 0 < k
    · have HE : Hid (n + k % 2 + gr (k / 2) = gr m) := by show _ = _; rw [← he, gr_step hk]; omega
      have hn : n ≤ 6 := by have := gr_le m; omega
      have h1 : (0 : Int) < (k : Int) := by omega
      clear he
      go_wp2
      go_round
      case rel => exact ⟨k / 2, n + k % 2, by omega, by go_num, by go_num, HE.out⟩
      case measure => simp [intOf]; omega
    · have e : k = 0 := by omega
      subst e
      have HE : Hid (n = gr m) := by show _ = _; rw [← he, gr_zero]; rfl
      clear he
      go_wp2
      go_ret
      exact ⟨by rw [← HE.out]; rfl, rfl⟩

theorem lawK : Keyed Try.prog 3 := int_keyed Try.underlying3
/-- The terms of x are handed back as a map of the call's own. -/
def TermsE (x : List Int) (w : World) (e : Ending) (w' : World) : Prop :=
  ∃ b D, e = .returned (.map (some b)) ∧ w.heap.size ≤ b ∧ b < w'.heap.size ∧ w'.ownsMap Try.prog 3 (plainElem (H := Unit) Try.prog 2) b x.length D ∧ Tm D x x.length ∧ Below w.heap.size w w'

set_option maxRecDepth 100000 in
set_option maxHeartbeats 1600000 in
theorem termsOf_any (a : Option Addr) (x : List Int) (c lo tp : Nat) (w : World) (hx : RowIn lo tp w a x) (tx : tp ≤ w.heap.size) (sx : x.length ≤ 64) (nx : ∀ j, j < x.length → -100 ≤ x.getD j 0 ∧ x.getD j 0 ≤ 100) :
    Calls Try.prog 93 #[.slice a x.length c] w (TermsE x w) := by
  have hmm := @run_makeMap Try.prog
  have HX := Lib.hid hx
  have HN := Lib.hid nx
  clear hx nx
  go_enter Try.func93, Try.ntmps93
  go_wp2
  clear hmm
  go_loopw [9] (fun t wr => ∃ (i : Nat) (D : DataW Unit), i ≤ x.length ∧ t = .int .i64 i ∧ wr.ownsMap Try.prog 3 (plainElem (H := Unit) Try.prog 2) w.heap.size i D ∧ Tm D x i ∧ Below w.heap.size w wr ∧ w.heap.size < wr.heap.size) (fun t _ => x.length - (intOf t).toNat)
  case atStart => exact ⟨0, .map [], Nat.zero_le _, rfl, World.ownsMap_made _ _ _ _, Tm.start x, below_alloc w _, by simp⟩
  case round =>
    obtain ⟨i, D, hi, rfl, hown, hT, hbel, hwlt⟩ := hrel
    have HO := Lib.hid hown
    have HT := Lib.hid hT
    have HB := Lib.hid hbel
    by_cases hlt : i < x.length
    · obtain ⟨b1, o1, ha1, l1, t1, hc1⟩ := (HX.out.below hbel tx).num hlt
      subst ha1
      obtain ⟨x0, x1⟩ := HN.out i hlt
      have hi1 : (i : Int) < (x.length : Int) := by omega
      obtain ⟨y, hy⟩ : ∃ y, y = x.getD i 0 := ⟨_, rfl⟩
      have HY := Lib.hid hy
      rw [← hy] at hc1 x0 x1
      clear hown hT hbel hy
      by_cases h0 : y = 0
      · subst h0
        go_wp2
        go_roundw
        case rel => exact ⟨i + 1, D, by omega, by go_num, HO.out.mono (Nat.le_succ _), HT.out.skip HY.out.symm, HB.out, hwlt⟩
        case measure => simp [intOf]; omega
      · have e0 : (y != 0) = true := by simpa using h0
        have hwf : (Lit.int .i64 y).wf = true := WalkArith.wf_i64 (by omega)
        have hwk : (Lit.int .i64 (i : Int)).wf = true := WalkArith.wf_i64 (by omega)
        have HY0 : Hid (x.getD i 0 ≠ 0) := by show _ ≠ _; rw [← HY.out]; exact h0
        go_wp2_with (first | (at_mapUpdate; refine wpList_mapUpdate_own _ rfl _ _ _ 84 rfl 3 2 lawK Try.underlying84 (plainElem (H := Unit) Try.prog 2) w.heap.size i D rfl HO.out (by unfold maxLen; omega) _ _ _ rfl rfl (keyOf_int_mk Try.underlying3 hwk) _ [] (plainElem_int Try.underlying2 hwf) ?_; intro w1 hown1 hgrow1))
        go_roundw
        case rel => exact ⟨i + 1, _, by omega, by go_num, hown1, by have h := HT.out.put HO.out.isMap HY0.out; rw [← HY.out] at h; exact h, HB.out.grown hgrow1 HB.out.size (fun j hj => by cases hj; exact Nat.le_refl _), by have := hgrow1.size; omega⟩
        case measure => simp [intOf]; omega
    · have hn : i = x.length := by omega
      subst hn
      clear hown hT hbel
      go_wp2
      go_ret
      exact ⟨w.heap.size, D, rfl, Nat.le_refl _, hwlt, HO.out, HT.out, HB.out⟩

end Go.Proofs.Ytcmedhkamjclmaa

namespace Go.Proofs.Ytcmedhkamjclmaa
open Go.RowKit
set_option linter.unusedVariables false

theorem xor_64 {a b : Nat} (ha : a < 64) (hb : b < 64) : bits .xor .i64 (a : Int) (b : Int) = ((a ^^^ b : Nat) : Int) := by
  have h : ∀ a : Nat, a < 64 → ∀ b : Nat, b < 64 → bits .xor .i64 (a : Int) (b : Int) = ((a ^^^ b : Nat) : Int) := by decide +kernel
  exact h a ha b hb
theorem xor_lt {a b : Nat} (ha : a < 64) (hb : b < 64) : a ^^^ b < 64 := Nat.xor_lt_two_pow (n := 6) ha hb
theorem and_one {a : Nat} (ha : a < 64) : bits .and .i64 (a : Int) 1 = ((a % 2 : Nat) : Int) := by
  have h : ∀ a : Nat, a < 64 → bits .and .i64 (a : Int) 1 = ((a % 2 : Nat) : Int) := by decide +kernel
  exact h a ha
theorem two_cases {a : Nat} (h : ¬ a % 2 = 1) : a % 2 = 0 := by omega

theorem shr_nat (a i : Nat) : (a : Int) / 2 ^ i = ((a / 2 ^ i : Nat) : Int) := by simp
theorem shr_lt {a : Nat} (ha : a < 64) (i : Nat) : a / 2 ^ i < 64 := Nat.lt_of_le_of_lt (Nat.div_le_self _ _) ha
theorem and_shr {a : Nat} (ha : a < 64) (i : Nat) : bits .and .i64 ((a : Int) / 2 ^ i) 1 = ((a / 2 ^ i % 2 : Nat) : Int) := by rw [shr_nat, and_one (shr_lt ha i)]
theorem l04Grade_shr (a i : Nat) (ha : a < 64) (w : World) : Calls Try.prog 120 #[.int .i64 ((a : Int) / 2 ^ i)] w fun e w' => e = .returned (.int .i64 (gr (a / 2 ^ i))) ∧ w = w' := by
  rw [shr_nat]; exact l04Grade_any _ (shr_lt ha i) w
theorem bit_up {aa a i : Nat} (haa : aa < 64) (hi : i < 6) (h : aa / 2 ^ i = a / 2 ^ i) : aa ^^^ 2 ^ i < 64 ∧ (aa ^^^ 2 ^ i) / 2 ^ (i + 1) = a / 2 ^ (i + 1) := by
  have h2 : 2 ^ i < 64 := Nat.pow_lt_pow_right (by decide) hi
  refine ⟨xor_lt haa h2, ?_⟩
  rw [Nat.xor_div_two_pow, Nat.div_eq_of_lt (Nat.pow_lt_pow_right (by decide) (Nat.lt_succ_self i)), Nat.xor_zero, Nat.pow_succ, ← Nat.div_div_eq_div_mul, ← Nat.div_div_eq_div_mul, h]
theorem bit_keep {aa a i : Nat} (h : aa / 2 ^ i = a / 2 ^ i) : aa / 2 ^ (i + 1) = a / 2 ^ (i + 1) := by
  rw [Nat.pow_succ, ← Nat.div_div_eq_div_mul, ← Nat.div_div_eq_div_mul, h]

set_option maxRecDepth 100000 in
set_option maxHeartbeats 1600000 in
theorem l04Blades_any (p : Int) (aS : Option Addr) (S : List Int) (cS loS tpS : Nat) (a b : Nat) (w : World) (hp : prm p = true) (h6 : S.length ≤ 6) (hS : RowIn loS tpS w aS S) (tS : tpS ≤ w.heap.size) (hn : Nums p S) (ha : a < 64) (hb : b < 64) :
    Calls Try.prog 88 #[.agg #[.int .i64 p, .slice aS S.length cS], .int .i64 a, .int .i64 b] w fun e w' => e = .returned (.int .i64 (fm p S a b S.length)) ∧ Below w.heap.size w w' := by
  have hpb := prm_bd hp
  have HS := Lib.hid hS
  have HN := Lib.hid hn
  clear hS hn
  go_enter Try.func88, Try.ntmps88
  go_wp2
  have hk0 : (w.alloc (.cells #[.int .i64 p, .slice aS S.length cS] 28)).cell? ⟨w.heap.size, 0, none⟩ = some (.int .i64 p) := nw0 w _ _ _
  have hk1 : (w.alloc (.cells #[.int .i64 p, .slice aS S.length cS] 28)).cell? ⟨w.heap.size, 1, none⟩ = some (.slice aS S.length cS) := nw1 w _ _ _
  have HBW := Lib.hid (below_alloc w (.cells #[.int .i64 p, .slice aS S.length cS] 28))
  obtain ⟨W, hW⟩ : ∃ W, W = w.alloc (.cells #[.int .i64 p, .slice aS S.length cS] 28) := ⟨_, rfl⟩
  rw [← hW] at hk0 hk1 HBW ⊢
  have HS1 := Lib.hid (HS.out.below HBW.out tS)
  clear hW
  go_loopw [1, 7, 8] (fun u v t wr => ∃ i aa : Nat, i ≤ S.length ∧ aa < 64 ∧ aa / 2 ^ i = a / 2 ^ i ∧ u = .int .i64 aa ∧ v = .int .i64 (fm p S a b i) ∧ t = .int .i64 i ∧ Quiet W wr) (fun _ _ t _ => S.length - (intOf t).toNat)
  case atStart => exact ⟨0, a, Nat.zero_le _, ha, rfl, rfl, by rw [fm_zero (by omega)], rfl, Quiet.refl _⟩
  case round =>
    obtain ⟨i, aa, hi, haa, hae, rfl, rfl, rfl, hq⟩ := hrel
    have HQ := Lib.hid hq
    have hk0' := (hq.cell ⟨w.heap.size, 0, none⟩).trans hk0
    have hk1' := (hq.cell ⟨w.heap.size, 1, none⟩).trans hk1
    have hs1' := HS1.out.same (hq.same loS tpS)
    clear hq
    by_cases hlt : i < S.length
    · have hi6 : i < 6 := by omega
      have hi1 : (i : Int) < (S.length : Int) := by omega
      obtain ⟨o, ho⟩ : ∃ o, o = fm p S a b i := ⟨_, rfl⟩
      have hob := fm_bd (by omega : 0 < p) S a b i
      rw [← ho] at hob ⊢
      have HAE := Lib.hid hae
      have HO := Lib.hid ho
      clear ho
      by_cases hbi : b / 2 ^ i % 2 = 1
      · have HFM : Hid (fo p S a i o = fm p S a b (i + 1)) := by show _ = _; rw [HO.out]; exact fm_model p S hbi
        have e1 : (bits BinOp.and IntKind.i64 ((b : Int) / 2 ^ i) 1 == 0) = false := by rw [and_shr hb, hbi]; rfl
        obtain ⟨b2, o2, ha2, l2, t2, hc2⟩ := hs1'.num hlt
        subst ha2
        obtain ⟨s0, s1⟩ := HN.out i hlt
        have HX := Lib.hid (bit_up haa hi6 hae)
        obtain ⟨q, hq⟩ : ∃ q, q = 2 ^ i := ⟨_, rfl⟩
        have hq2 : q < 64 := by rw [hq]; exact Nat.pow_lt_pow_right (by decide) hi6
        have e2 : wrap64 ((2 : Int) ^ i) = (q : Int) := by rw [hq]; exact wrap_pow hi6
        have e3 := xor_64 haa hq2
        have hp0 : ¬ p = 0 := by omega
        have hp1 : (p == 0) = false := by simpa using hp0
        rw [← hq] at HX
        clear hq
        obtain ⟨x, hx⟩ : ∃ x, x = S.getD i 0 := ⟨_, rfl⟩
        have HXX := Lib.hid hx
        rw [← hx] at hc2 s0 s1
        clear hx hs1'
        by_cases hg : gr (a / 2 ^ (i + 1)) % 2 = 1
        · have e4 : (((gr (aa / 2 ^ (i + 1)) : Nat) : Int) % 2 == 1) = true := by rw [bit_keep HAE.out]; simp; omega
          by_cases hai : a / 2 ^ i % 2 = 1
          · have e5 : (bits BinOp.and IntKind.i64 ((aa : Int) / 2 ^ i) 1 == 1) = true := by rw [and_shr haa, HAE.out]; rw [hai]; rfl
            have HF : Hid (((p - o) % p) * x % p = fm p S a b (i + 1)) := by show _ = _; rw [← HFM.out]; unfold fo; rw [if_pos hai, if_pos hg, ← HXX.out]
            have e6 : (p - o).tmod p = (p - o) % p := Int.tmod_eq_emod_of_nonneg (by omega)
            have e7 : IntKind.i64.wrap (p - o) = p - o := IntWalk.i64_in _ (by omega)
            obtain ⟨d, hd⟩ : ∃ d, d = (p - o) % p := ⟨_, rfl⟩
            have d0 := Int.emod_nonneg (p - o) (by omega : p ≠ 0)
            have d1 := Int.emod_lt_of_pos (p - o) (by omega : 0 < p)
            rw [← hd] at e6 d0 d1 HF
            clear hd
            obtain ⟨m0, m1⟩ := mul_bd' hpb.2 d0 d1 s0 s1
            have e8 : IntKind.i64.wrap (d * x) = d * x := IntWalk.i64_in _ (by omega)
            have e9 : (d * x).tmod p = (d * x) % p := Int.tmod_eq_emod_of_nonneg (by omega)
            clear hae hbi hg hai
            go_wp2_with (go_at_call 120; refine (l04Grade_shr aa (i + 1) haa _).mono ?_; rintro e w3 ⟨rfl, rfl⟩)
            go_quiet (fail)
            clear e8 e9
            go_wp2
            go_roundw
            case rel => exact ⟨i + 1, _, by omega, HX.out.1, HX.out.2, by go_num, by rw [HF.out], by go_num, HQ.out.next _⟩
            case measure => simp [intOf]; omega
          · have e5 : (bits BinOp.and IntKind.i64 ((aa : Int) / 2 ^ i) 1 == 1) = false := by rw [and_shr haa, HAE.out]; rw [two_cases hai]; rfl
            have HF : Hid (((p - o) % p) = fm p S a b (i + 1)) := by show _ = _; rw [← HFM.out]; unfold fo; rw [if_neg hai, if_pos hg]
            have e6 : (p - o).tmod p = (p - o) % p := Int.tmod_eq_emod_of_nonneg (by omega)
            have e7 : IntKind.i64.wrap (p - o) = p - o := IntWalk.i64_in _ (by omega)
            obtain ⟨d, hd⟩ : ∃ d, d = (p - o) % p := ⟨_, rfl⟩
            have d0 := Int.emod_nonneg (p - o) (by omega : p ≠ 0)
            have d1 := Int.emod_lt_of_pos (p - o) (by omega : 0 < p)
            rw [← hd] at e6 d0 d1 HF
            clear hd
            clear hae hbi hg hai
            go_wp2_with (go_at_call 120; refine (l04Grade_shr aa (i + 1) haa _).mono ?_; rintro e w3 ⟨rfl, rfl⟩)
            go_roundw
            case rel => exact ⟨i + 1, _, by omega, HX.out.1, HX.out.2, by go_num, by rw [HF.out], by go_num, HQ.out⟩
            case measure => simp [intOf]; omega
        · have e4 : (((gr (aa / 2 ^ (i + 1)) : Nat) : Int) % 2 == 1) = false := by rw [bit_keep HAE.out]; simp; omega
          by_cases hai : a / 2 ^ i % 2 = 1
          · have e5 : (bits BinOp.and IntKind.i64 ((aa : Int) / 2 ^ i) 1 == 1) = true := by rw [and_shr haa, HAE.out]; rw [hai]; rfl
            have HF : Hid (o * x % p = fm p S a b (i + 1)) := by show _ = _; rw [← HFM.out]; unfold fo; rw [if_pos hai, if_neg hg, ← HXX.out]
            obtain ⟨m0, m1⟩ := mul_bd' hpb.2 hob.1 hob.2 s0 s1
            have e8 : IntKind.i64.wrap (o * x) = o * x := IntWalk.i64_in _ (by omega)
            have e9 : (o * x).tmod p = (o * x) % p := Int.tmod_eq_emod_of_nonneg (by omega)
            clear hae hbi hg hai
            go_wp2_with (go_at_call 120; refine (l04Grade_shr aa (i + 1) haa _).mono ?_; rintro e w3 ⟨rfl, rfl⟩)
            go_quiet (fail)
            clear e8 e9
            go_wp2
            go_roundw
            case rel => exact ⟨i + 1, _, by omega, HX.out.1, HX.out.2, by go_num, by rw [HF.out], by go_num, HQ.out.next _⟩
            case measure => simp [intOf]; omega
          · have e5 : (bits BinOp.and IntKind.i64 ((aa : Int) / 2 ^ i) 1 == 1) = false := by rw [and_shr haa, HAE.out]; rw [two_cases hai]; rfl
            have HF : Hid (o = fm p S a b (i + 1)) := by show _ = _; rw [← HFM.out]; unfold fo; rw [if_neg hai, if_neg hg]
            clear hae hbi hg hai
            go_wp2_with (go_at_call 120; refine (l04Grade_shr aa (i + 1) haa _).mono ?_; rintro e w3 ⟨rfl, rfl⟩)
            go_roundw
            case rel => exact ⟨i + 1, _, by omega, HX.out.1, HX.out.2, by go_num, by rw [HF.out], by go_num, HQ.out⟩
            case measure => simp [intOf]; omega
      · have HFM : Hid (fm p S a b (i + 1) = o) := by show _ = _; rw [HO.out]; exact fm_skip p S (two_cases hbi)
        have e1 : (bits BinOp.and IntKind.i64 ((b : Int) / 2 ^ i) 1 == 0) = true := by rw [and_shr hb, two_cases hbi]; rfl
        clear hae hbi hs1'
        go_wp2
        go_roundw
        case rel => exact ⟨i + 1, aa, by omega, haa, bit_keep HAE.out, rfl, by rw [HFM.out], by go_num, HQ.out⟩
        case measure => simp [intOf]; omega
    · clear hs1'
      go_wp2
      go_ret
      have hn : i = S.length := by omega
      subst hn
      exact ⟨rfl, HBW.out.trans (HQ.out.below _)⟩

end Go.Proofs.Ytcmedhkamjclmaa
