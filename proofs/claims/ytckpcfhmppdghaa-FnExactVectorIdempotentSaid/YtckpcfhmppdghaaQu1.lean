/-
  Plain facts on the five primes and their remainders: powers, inverses, square roots, orders. No Go in sight.
  No conditions.
  What a call leaves as it was, step by step.
  No conditions.
  What the program's and the model's checks of a prime and of numbers return: contracts of the functions that the laws of chapter 1 call first.
  Conditions: the lists that are checked are rows of cells that are known.
  Lists and matrices of numbers in memory: where they lie, what keeps them, what a store does.
  No conditions.
-/
import Derived.Below
import Derived.Test.YtckpcfhmppdghaaRows
import Derived.WalkKit
import Derived.LoopTactic
import Derived.Lib.Hide
import Derived.Deep.QuietTactic
namespace Go.Proofs.Ytckpcfhmppdghaa

/-! ### Primes, numbers, codes -/
def prm (p : Int) : Bool := p == 3 || p == 5 || p == 7 || p == 11 || p == 13
def inr (p a : Int) : Bool := decide (0 ≤ a ∧ a < p)
def codeOf (p : Int) (zs : List Int) : Int := if prm p then (if zs.all (inr p) then 0 else 2) else 1

theorem prm_or {p : Int} (h : prm p = true) : p = 3 ∨ p = 5 ∨ p = 7 ∨ p = 11 ∨ p = 13 := by
  simp [prm] at h; omega
theorem prm_not {p : Int} (h : prm p = false) : p ≠ 3 ∧ p ≠ 5 ∧ p ≠ 7 ∧ p ≠ 11 ∧ p ≠ 13 := by
  simp [prm] at h; omega
theorem prm_bd {p : Int} (h : prm p = true) : 3 ≤ p ∧ p ≤ 13 := by
  have := prm_or h; omega
theorem inr_iff {p a : Int} : inr p a = true ↔ 0 ≤ a ∧ a < p := by simp [inr]
theorem inr_not {p a : Int} : inr p a = false ↔ ¬ (0 ≤ a ∧ a < p) := by simp [inr]

theorem code_np {p : Int} {zs : List Int} (h : prm p = false) : codeOf p zs = 1 := by simp [codeOf, h]
theorem code_ok {p : Int} {zs : List Int} (h : prm p = true) (ha : zs.all (inr p) = true) : codeOf p zs = 0 := by simp [codeOf, h, ha]
theorem code_bad {p : Int} {zs : List Int} (h : prm p = true) (ha : zs.all (inr p) = false) : codeOf p zs = 2 := by simp [codeOf, h, ha]
theorem code_cases (p : Int) (zs : List Int) : (prm p = false ∧ codeOf p zs = 1) ∨ (prm p = true ∧ zs.all (inr p) = true ∧ codeOf p zs = 0) ∨ (prm p = true ∧ zs.all (inr p) = false ∧ codeOf p zs = 2) := by
  by_cases h : prm p = true
  · by_cases ha : zs.all (inr p) = true
    · exact .inr (.inl ⟨h, ha, code_ok h ha⟩)
    · have ha' : zs.all (inr p) = false := by simpa using ha
      exact .inr (.inr ⟨h, ha', code_bad h ha'⟩)
  · have h' : prm p = false := by simpa using h
    exact .inl ⟨h', code_np h'⟩
/-! ### All numbers of all primes, by the kernel -/
def every (Q : Int → Int → Bool) : Bool := [3, 5, 7, 11, 13].all fun p : Int => (List.range p.toNat).all fun a => Q p a
theorem every_at {Q : Int → Int → Bool} (h : every Q = true) {p a : Int} (hp : prm p = true) (h0 : 0 ≤ a) (h1 : a < p) : Q p a = true := by
  unfold every at h
  rw [List.all_eq_true] at h
  have h2 := h p (by rcases prm_or hp with rfl | rfl | rfl | rfl | rfl <;> simp)
  rw [List.all_eq_true] at h2
  have h3 := h2 a.toNat (by simp; omega)
  rwa [Int.toNat_of_nonneg h0] at h3
def every2 (Q : Int → Int → Int → Bool) : Bool := every fun p a => (List.range p.toNat).all fun b => Q p a b
theorem every2_at {Q : Int → Int → Int → Bool} (h : every2 Q = true) {p a b : Int} (hp : prm p = true) (h0 : 0 ≤ a) (h1 : a < p) (k0 : 0 ≤ b) (k1 : b < p) : Q p a b = true := by
  have h2 := every_at h hp h0 h1
  rw [List.all_eq_true] at h2
  have h3 := h2 b.toNat (by simp; omega)
  rwa [Int.toNat_of_nonneg k0] at h3

/-! ### Products -/
theorem mul_bd {p a b : Int} (hp : prm p = true) (h0 : 0 ≤ a) (h1 : a < p) (k0 : 0 ≤ b) (k1 : b < p) : 0 ≤ a * b ∧ a * b ≤ 144 := by
  have := every2_at (Q := fun _ a b => decide (0 ≤ a * b ∧ a * b ≤ 144)) (by decide +kernel) hp h0 h1 k0 k1
  simpa using this
theorem mod_bd {p : Int} (hp : prm p = true) (n : Int) : 0 ≤ n % p ∧ n % p < p := by
  have := prm_bd hp
  exact ⟨Int.emod_nonneg _ (by omega), Int.emod_lt_of_pos _ (by omega)⟩

/-! ### Powers and inverses -/
def pw (p a : Int) : Nat → Int
  | 0 => 1
  | k + 1 => pw p a k * a % p
theorem pw_bd {p a : Int} (hp : prm p = true) (k : Nat) : 0 ≤ pw p a k ∧ pw p a k < p := by
  cases k with
  | zero => have := prm_bd hp; simp [pw]; omega
  | succ k => exact mod_bd hp _
def inv (p a : Int) : Int := pw p a (p - 2).toNat
theorem inv_bd {p : Int} (hp : prm p = true) (a : Int) : 0 ≤ inv p a ∧ inv p a < p := pw_bd hp _
theorem inv_pos {p a : Int} (hp : prm p = true) (h0 : 1 ≤ a) (h1 : a < p) : 1 ≤ inv p a := by
  have := every_at (Q := fun p a => decide (1 ≤ a → 1 ≤ inv p a)) (by decide +kernel) hp (by omega) h1
  simpa [h0] using this
theorem inv_iff {p a b : Int} (hp : prm p = true) (h0 : 1 ≤ a) (h1 : a < p) (k0 : 1 ≤ b) (k1 : b ≤ inv p a) : a * b % p = 1 ↔ b = inv p a := by
  have := every2_at (Q := fun p a b => decide (1 ≤ a → 1 ≤ b → b ≤ inv p a → (a * b % p = 1 ↔ b = inv p a))) (by decide +kernel) hp (by omega : 0 ≤ a) h1 (by omega : 0 ≤ b) (by have := inv_bd hp a; omega)
  simp only [decide_eq_true_eq] at this
  exact this h0 k0 k1

/-! ### Square roots: the least one, or -1 -/
def rtF (p a : Int) : Nat → Int → Int
  | 0, _ => -1
  | f + 1, r => if r * r % p = a then r else rtF p a f (r + 1)
def rt (p a : Int) : Int := rtF p a p.toNat 0
/-- Where the search ends. -/
def rtEnd (p a : Int) : Int := if rt p a < 0 then p else rt p a
theorem rt_bd {p a : Int} (hp : prm p = true) (h0 : 0 ≤ a) (h1 : a < p) : -1 ≤ rt p a ∧ rt p a < p := by
  have := every_at (Q := fun p a => decide (-1 ≤ rt p a ∧ rt p a < p)) (by decide +kernel) hp h0 h1
  simpa using this
theorem rtEnd_bd {p a : Int} (hp : prm p = true) (h0 : 0 ≤ a) (h1 : a < p) : 0 ≤ rtEnd p a ∧ rtEnd p a ≤ p := by
  have := rt_bd hp h0 h1
  unfold rtEnd; split <;> omega
theorem rt_iff {p a r : Int} (hp : prm p = true) (h0 : 0 ≤ a) (h1 : a < p) (k0 : 0 ≤ r) (k1 : r < p) (k2 : r ≤ rtEnd p a) : r * r % p = a ↔ r = rt p a := by
  have := every2_at (Q := fun p a r => decide (r ≤ rtEnd p a → (r * r % p = a ↔ r = rt p a))) (by decide +kernel) hp h0 h1 k0 k1
  simp only [decide_eq_true_eq] at this
  exact this k2

/-! ### Orders -/
/-! ### Sums of two squares; primitive numbers -/
def sxF (p a : Int) : Nat → Int → Int
  | 0, x => x
  | f + 1, x => if 0 ≤ rt p ((a - x * x) % p) then x else sxF p a f (x + 1)
def sx (p a : Int) : Int := sxF p a 12 0
end Go.Proofs.Ytckpcfhmppdghaa

namespace Go.Proofs.Ytckpcfhmppdghaa
open Go.RowKit

theorem bcell {W w1 : World} (hb : Below W.heap.size W w1) : (∀ b o, b < W.heap.size → w1.cell? ⟨b, o, none⟩ = W.cell? ⟨b, o, none⟩) ∧ (∀ b o, b < W.heap.size → w1.frozen? ⟨b, o, none⟩ = W.frozen? ⟨b, o, none⟩) :=
  ⟨fun b o h => hb.cell (p := ⟨b, o, none⟩) h, fun b o h => hb.frozen (p := ⟨b, o, none⟩) h⟩

theorem below_step {B : Nat} {w W w1 : World} (h : Below B w W) (hB : B ≤ W.heap.size) (hb : Below W.heap.size W w1) : Below B w w1 := h.trans (hb.mono hB)

end Go.Proofs.Ytckpcfhmppdghaa

namespace Go.Proofs.Ytckpcfhmppdghaa
open Go.RowKit
set_option linter.unusedVariables false

theorem isPrime_any (p : Int) (w : World) :
    Calls Try.prog 115 #[.int .i64 p] w fun e w' => e = .returned (.bool (prm p)) ∧ w = w' := by
  by_cases h : prm p = true
  · rcases prm_or h with rfl | rfl | rfl | rfl | rfl
    all_goals
      clear h
      go_enter Try.func115, Try.ntmps115
      go_wp2
      go_ret
      exact ⟨rfl, rfl⟩
  · have h' : prm p = false := by simpa using h
    obtain ⟨h1, h2, h3, h4, h5⟩ := prm_not h'
    have H := Lib.hid h'
    clear h h'
    go_enter Try.func115, Try.ntmps115
    go_wp2
    go_ret
    exact ⟨by rw [H.out]; rfl, rfl⟩

theorem l01Prime_any (p : Int) (w : World) :
    Calls Try.prog 103 #[.int .i64 p] w fun e w' => e = .returned (.bool (prm p)) ∧ w = w' := by
  by_cases h : prm p = true
  · rcases prm_or h with rfl | rfl | rfl | rfl | rfl
    all_goals
      clear h
      go_enter Try.func103, Try.ntmps103
      go_wp2
      go_ret
      exact ⟨rfl, rfl⟩
  · have h' : prm p = false := by simpa using h
    obtain ⟨h1, h2, h3, h4, h5⟩ := prm_not h'
    have H := Lib.hid h'
    clear h h'
    go_enter Try.func103, Try.ntmps103
    go_wp2
    go_ret
    exact ⟨rfl, rfl⟩

theorem l01In_yes (n lo hi : Int) (w : World) (h : lo ≤ n) (k : n ≤ hi) :
    Calls Try.prog 104 #[.int .i64 n, .int .i64 lo, .int .i64 hi] w fun e w' => e = .returned (.bool true) ∧ w = w' := by
  go_enter Try.func104, Try.ntmps104
  go_wp2
  go_ret
  exact ⟨rfl, rfl⟩
theorem l01In_no (n lo hi : Int) (w : World) (h : ¬ (lo ≤ n ∧ n ≤ hi)) :
    Calls Try.prog 104 #[.int .i64 n, .int .i64 lo, .int .i64 hi] w fun e w' => e = .returned (.bool false) ∧ w = w' := by
  by_cases h1 : lo ≤ n
  · have h2 : ¬ n ≤ hi := fun k => h ⟨h1, k⟩
    clear h
    go_enter Try.func104, Try.ntmps104
    go_wp2
    go_ret
    exact ⟨rfl, rfl⟩
  · clear h
    go_enter Try.func104, Try.ntmps104
    go_wp2
    go_ret
    exact ⟨rfl, rfl⟩

theorem getD_at {zs : List Int} {k : Nat} (h : k < zs.length) : zs.getD k 0 = zs[k] := by simp [h]
theorem all_take_succ {p x : Int} {zs : List Int} {k : Nat} (h : k < zs.length) (hx : x = zs.getD k 0) : (zs.take (k + 1)).all (inr p) = ((zs.take k).all (inr p) && inr p x) := by
  rw [List.take_succ_eq_append_getElem h, List.all_append, hx, getD_at h]
  simp
theorem all_false_of {p x : Int} {zs : List Int} {k : Nat} (h : k < zs.length) (hx : x = zs.getD k 0) (hf : inr p x = false) : zs.all (inr p) = false := by
  rw [List.all_eq_false]
  refine ⟨x, ?_, by simp [hf]⟩
  rw [hx, getD_at h]
  exact List.getElem_mem h

end Go.Proofs.Ytckpcfhmppdghaa

namespace Go.Proofs.Ytckpcfhmppdghaa
open Go.RowKit
set_option linter.unusedVariables false

theorem ret_int {k : IntKind} {a b : Int} (h : a = b) : Ending.returned (.int k a) = .returned (.int k b) := by rw [h]

/-- A list of numbers in blocks from lo up to hi (an empty one anywhere). -/
def RowIn (lo hi : Nat) (w : World) (a : Option Addr) (zs : List Int) : Prop :=
  zs = [] ∨ ∃ b o : Nat, a = some ⟨b, o, none⟩ ∧ lo ≤ b ∧ b < hi ∧ ∀ j, j < zs.length → w.cell? ⟨b, o + j, none⟩ = some (.int .i64 (zs.getD j 0))

/-- Row i of a matrix. -/
def rw' (m : List (List Int)) (i : Nat) : List Int := m.getD i []
/-- The number at row i, column j. -/
def at' (m : List (List Int)) (i j : Nat) : Int := (rw' m i).getD j 0

/-- A list of lists of numbers in blocks from lo up to hi. -/
def MatIn (lo hi : Nat) (w : World) (a : Option Addr) (m : List (List Int)) : Prop :=
  m = [] ∨ ∃ b o : Nat, a = some ⟨b, o, none⟩ ∧ lo ≤ b ∧ b < hi ∧ ∀ i, i < m.length → ∃ r c, w.cell? ⟨b, o + i, none⟩ = some (.slice r (rw' m i).length c) ∧ RowIn lo hi w r (rw' m i)

/-- Blocks from lo up to hi are as they were. -/
def Same (lo hi : Nat) (w w' : World) : Prop := ∀ k, lo ≤ k → k < hi → w'.heap[k]? = w.heap[k]?
theorem Same.cell {lo hi : Nat} {w w' : World} (h : Same lo hi w w') {p : Addr} (k0 : lo ≤ p.block) (k1 : p.block < hi) : w'.cell? p = w.cell? p := World.cell?_of_block (w := w) (h p.block k0 k1)
theorem Same.frozen {lo hi : Nat} {w w' : World} (h : Same lo hi w w') {p : Addr} (k0 : lo ≤ p.block) (k1 : p.block < hi) : w'.frozen? p = w.frozen? p := World.frozen?_of_block (w := w) (h p.block k0 k1)
theorem Same.refl (lo hi : Nat) (w : World) : Same lo hi w w := fun _ _ _ => rfl
theorem Same.trans {lo hi : Nat} {a b c : World} (h : Same lo hi a b) (k : Same lo hi b c) : Same lo hi a c := fun i i0 i1 => (k i i0 i1).trans (h i i0 i1)
theorem same_below {B lo hi : Nat} {w w' : World} (h : Below B w w') (k : hi ≤ B) : Same lo hi w w' := fun i _ i1 => h.block i (by omega)

theorem RowIn.same {lo hi : Nat} {w w' : World} {a : Option Addr} {zs : List Int} (h : RowIn lo hi w a zs) (k : Same lo hi w w') : RowIn lo hi w' a zs := by
  rcases h with h | ⟨b, o, ha, h0, h1, hc⟩
  · exact .inl h
  · exact .inr ⟨b, o, ha, h0, h1, fun j hj => (k.cell (p := ⟨b, o + j, none⟩) h0 h1).trans (hc j hj)⟩
theorem RowIn.below {B lo hi : Nat} {w w' : World} {a : Option Addr} {zs : List Int} (h : RowIn lo hi w a zs) (k : Below B w w') (hB : hi ≤ B) : RowIn lo hi w' a zs := h.same (same_below k hB)
theorem RowIn.mono {lo hi lo' hi' : Nat} {w : World} {a : Option Addr} {zs : List Int} (h : RowIn lo hi w a zs) (h0 : lo' ≤ lo) (h1 : hi ≤ hi') : RowIn lo' hi' w a zs := by
  rcases h with h | ⟨b, o, ha, k0, k1, hc⟩
  · exact .inl h
  · exact .inr ⟨b, o, ha, by omega, by omega, hc⟩
theorem MatIn.same {lo hi : Nat} {w w' : World} {a : Option Addr} {m : List (List Int)} (h : MatIn lo hi w a m) (k : Same lo hi w w') : MatIn lo hi w' a m := by
  rcases h with h | ⟨b, o, ha, h0, h1, hc⟩
  · exact .inl h
  · refine .inr ⟨b, o, ha, h0, h1, fun i hi => ?_⟩
    obtain ⟨r, c, hr, hrow⟩ := hc i hi
    exact ⟨r, c, (k.cell (p := ⟨b, o + i, none⟩) h0 h1).trans hr, hrow.same k⟩
theorem MatIn.below {B lo hi : Nat} {w w' : World} {a : Option Addr} {m : List (List Int)} (h : MatIn lo hi w a m) (k : Below B w w') (hB : hi ≤ B) : MatIn lo hi w' a m := h.same (same_below k hB)
theorem MatIn.mono {lo hi lo' hi' : Nat} {w : World} {a : Option Addr} {m : List (List Int)} (h : MatIn lo hi w a m) (h0 : lo' ≤ lo) (h1 : hi ≤ hi') : MatIn lo' hi' w a m := by
  rcases h with h | ⟨b, o, ha, k0, k1, hc⟩
  · exact .inl h
  · refine .inr ⟨b, o, ha, by omega, by omega, fun i hi => ?_⟩
    obtain ⟨r, c, hr, hrow⟩ := hc i hi
    exact ⟨r, c, hr, hrow.mono h0 h1⟩
/-- One row is got. -/
theorem MatIn.row {lo hi : Nat} {w : World} {a : Option Addr} {m : List (List Int)} (h : MatIn lo hi w a m) {i : Nat} (hi' : i < m.length) :
    ∃ b o r c, a = some ⟨b, o, none⟩ ∧ lo ≤ b ∧ b < hi ∧ w.cell? ⟨b, o + i, none⟩ = some (.slice r (rw' m i).length c) ∧ RowIn lo hi w r (rw' m i) := by
  rcases h with h | ⟨b, o, ha, h0, h1, hc⟩
  · rw [h] at hi'; simp at hi'
  · obtain ⟨r, c, hr, hrow⟩ := hc i hi'
    exact ⟨b, o, r, c, ha, h0, h1, hr, hrow⟩
/-- One number is got. -/
theorem RowIn.num {lo hi : Nat} {w : World} {a : Option Addr} {zs : List Int} (h : RowIn lo hi w a zs) {j : Nat} (hj : j < zs.length) :
    ∃ b o, a = some ⟨b, o, none⟩ ∧ lo ≤ b ∧ b < hi ∧ w.cell? ⟨b, o + j, none⟩ = some (.int .i64 (zs.getD j 0)) := by
  rcases h with h | ⟨b, o, ha, h0, h1, hc⟩
  · rw [h] at hj; simp at hj
  · exact ⟨b, o, ha, h0, h1, hc j hj⟩

/-- Nothing but draws. -/
def Quiet (w w' : World) : Prop := ∃ n, w' = w.drewN n
theorem Quiet.refl (w : World) : Quiet w w := ⟨0, rfl⟩
theorem Quiet.next {w w' : World} (h : Quiet w w') (n : Nat) : Quiet w (w'.drewN n) := by
  obtain ⟨k, rfl⟩ := h
  exact ⟨k + n, by rw [World.drewN_drewN]⟩
theorem Quiet.trans {a b c : World} (h : Quiet a b) (k : Quiet b c) : Quiet a c := by
  obtain ⟨n, rfl⟩ := k
  exact h.next n
theorem Quiet.below {w w' : World} (h : Quiet w w') (B : Nat) : Below B w w' := by
  obtain ⟨k, rfl⟩ := h
  exact ⟨rfl, rfl, rfl, Nat.le_refl _, fun _ _ => rfl⟩
theorem Quiet.same {w w' : World} (h : Quiet w w') (lo hi : Nat) : Same lo hi w w' := by
  obtain ⟨k, rfl⟩ := h
  exact fun _ _ _ => rfl
theorem Quiet.cell {w w' : World} (h : Quiet w w') (p : Addr) : w'.cell? p = w.cell? p := by
  obtain ⟨k, rfl⟩ := h
  rfl
theorem Quiet.size {w w' : World} (h : Quiet w w') : w'.heap.size = w.heap.size := by
  obtain ⟨k, rfl⟩ := h
  rfl

/-! ### Matrices of one's own: where each row lies -/
structure Place where
  b : Nat
  o : Nat
  R : Nat → Option Addr
  B : Nat → Nat
  O : Nat → Nat
  C : Nat → Nat

/-- n rows of lengths L, the numbers Z, all in blocks from lo up to hi, no cell twice, none frozen. -/
structure OwnAt (lo hi : Nat) (w : World) (q : Place) (n : Nat) (L : Nat → Nat) (Z : Nat → Nat → Int) : Prop where
  rng : 0 < n → lo ≤ q.b ∧ q.b < hi
  top : ∀ i, i < n → w.cell? ⟨q.b, q.o + i, none⟩ = some (.slice (q.R i) (L i) (q.C i))
  row : ∀ i, i < n → L i = 0 ∨ q.R i = some ⟨q.B i, q.O i, none⟩
  rrng : ∀ i, i < n → 0 < L i → lo ≤ q.B i ∧ q.B i < hi
  cell : ∀ i, i < n → ∀ j, j < L i → w.cell? ⟨q.B i, q.O i + j, none⟩ = some (.int .i64 (Z i j))
  free : ∀ i, i < n → ∀ j, j < L i → w.frozen? ⟨q.B i, q.O i + j, none⟩ = false
  apart : ∀ i, i < n → ∀ i', i' < n → i ≠ i' → ∀ j, j < L i → ∀ j', j' < L i' → ¬ (q.B i = q.B i' ∧ q.O i + j = q.O i' + j')
  tops : ∀ i, i < n → ∀ j, j < L i → ∀ i', i' < n → ¬ (q.B i = q.b ∧ q.O i + j = q.o + i')

theorem OwnAt.same {lo hi : Nat} {w w' : World} {q : Place} {n : Nat} {L : Nat → Nat} {Z : Nat → Nat → Int} (h : OwnAt lo hi w q n L Z) (k : Same lo hi w w') : OwnAt lo hi w' q n L Z where
  rng := h.rng
  top i hi := (k.cell (p := ⟨q.b, q.o + i, none⟩) (h.rng (by omega)).1 (h.rng (by omega)).2).trans (h.top i hi)
  row := h.row
  rrng := h.rrng
  cell i hi j hj := (k.cell (p := ⟨q.B i, q.O i + j, none⟩) (h.rrng i hi (by omega)).1 (h.rrng i hi (by omega)).2).trans (h.cell i hi j hj)
  free i hi j hj := (k.frozen (p := ⟨q.B i, q.O i + j, none⟩) (h.rrng i hi (by omega)).1 (h.rrng i hi (by omega)).2).trans (h.free i hi j hj)
  apart := h.apart
  tops := h.tops
theorem OwnAt.congr {lo hi : Nat} {w : World} {q : Place} {n : Nat} {L : Nat → Nat} {Z Z' : Nat → Nat → Int} (h : OwnAt lo hi w q n L Z) (e : ∀ i, i < n → ∀ j, j < L i → Z i j = Z' i j) : OwnAt lo hi w q n L Z' :=
  { h with cell := fun i hi j hj => by rw [← e i hi j hj]; exact h.cell i hi j hj }

/-- A call wrote into a stretch of one block, and nowhere else. -/
structure Wrote (b o n : Nat) (w w' : World) : Prop where
  os : w'.os = w.os
  tape : w'.tape = w.tape
  output : w'.output = w.output
  size : w'.heap.size = w.heap.size
  block : ∀ k, k ≠ b → w'.heap[k]? = w.heap[k]?
  cell : ∀ j, (∀ i, i < n → j ≠ o + i) → w'.cell? ⟨b, j, none⟩ = w.cell? ⟨b, j, none⟩
  frozen : ∀ j, w'.frozen? ⟨b, j, none⟩ = w.frozen? ⟨b, j, none⟩
theorem Wrote.refl (b o n : Nat) (w : World) : Wrote b o n w w := ⟨rfl, rfl, rfl, rfl, fun _ _ => rfl, fun _ _ => rfl, fun _ => rfl⟩
theorem Wrote.mono {b o n n' : Nat} {w w' : World} (h : Wrote b o n w w') (k : n ≤ n') : Wrote b o n' w w' := ⟨h.os, h.tape, h.output, h.size, h.block, fun j hj => h.cell j (fun i hi => hj i (by omega)), h.frozen⟩
theorem Wrote.drew {b o n : Nat} {w w' : World} (h : Wrote b o n w w') : Wrote b o n w w'.drew := ⟨h.os, h.tape, h.output, h.size, h.block, h.cell, h.frozen⟩
theorem Wrote.cellOut {b o n : Nat} {w w' : World} (h : Wrote b o n w w') {c j : Nat} (hne : ¬ (c = b ∧ ∃ i, i < n ∧ j = o + i)) : w'.cell? ⟨c, j, none⟩ = w.cell? ⟨c, j, none⟩ := by
  by_cases hc : c = b
  · subst hc
    exact h.cell j (fun i hi e => hne ⟨rfl, i, hi, e⟩)
  · exact World.cell?_of_block (w := w) (a := ⟨c, j, none⟩) (h.block c hc)
theorem Wrote.frozenAll {b o n : Nat} {w w' : World} (h : Wrote b o n w w') (c j : Nat) : w'.frozen? ⟨c, j, none⟩ = w.frozen? ⟨c, j, none⟩ := by
  by_cases hc : c = b
  · subst hc; exact h.frozen j
  · exact World.frozen?_of_block (w := w) (a := ⟨c, j, none⟩) (h.block c hc)
theorem Wrote.set {b o n : Nat} {w w' : World} (h : Wrote b o n w w') {i : Nat} (hi : i < n) (v : Value) : Wrote b o n w (w'.setCell ⟨b, o + i, none⟩ v) where
  os := h.os
  tape := h.tape
  output := h.output
  size := by simpa [World.setCell] using h.size
  block k hk := (Below.heap_setCell _ _ _ _ hk).trans (h.block k hk)
  cell j hj := (World.cell?_setCell_other _ _ _ _ (fun e => hj i hi (by injection e with _ e2; exact e2.symm))).trans (h.cell j hj)
  frozen j := by simp [go_sem, h.frozen]

/-- Blocks outside lo up to hi are as they were. -/
structure Off (lo hi : Nat) (w w' : World) : Prop where
  os : w'.os = w.os
  tape : w'.tape = w.tape
  output : w'.output = w.output
  size : w'.heap.size = w.heap.size
  block : ∀ k, (k < lo ∨ hi ≤ k) → w'.heap[k]? = w.heap[k]?
theorem Off.refl (lo hi : Nat) (w : World) : Off lo hi w w := ⟨rfl, rfl, rfl, rfl, fun _ _ => rfl⟩
theorem Off.trans {lo hi : Nat} {a b c : World} (h : Off lo hi a b) (k : Off lo hi b c) : Off lo hi a c :=
  ⟨k.os.trans h.os, k.tape.trans h.tape, k.output.trans h.output, k.size.trans h.size, fun i hi => (k.block i hi).trans (h.block i hi)⟩
theorem Off.drew {lo hi : Nat} {w w' : World} (h : Off lo hi w w') : Off lo hi w w'.drew := ⟨h.os, h.tape, h.output, h.size, h.block⟩
theorem Wrote.off {b o n lo hi : Nat} {w w' : World} (h : Wrote b o n w w') (h0 : lo ≤ b) (h1 : b < hi) : Off lo hi w w' :=
  ⟨h.os, h.tape, h.output, h.size, fun k hk => h.block k (by omega)⟩
theorem Off.below {B lo hi : Nat} {w w' : World} (h : Off lo hi w w') (hB : B ≤ lo) : Below B w w' := ⟨h.os, h.tape, h.output, by rw [h.size]; exact Nat.le_refl _, fun k hk => h.block k (by omega)⟩
theorem Off.same {lo hi lo' hi' : Nat} {w w' : World} (h : Off lo hi w w') (k : hi' ≤ lo ∨ hi ≤ lo') : Same lo' hi' w w' := fun i i0 i1 => h.block i (by omega)

/-- One row rewritten. -/
theorem OwnAt.wrote {lo hi : Nat} {w w' : World} {q : Place} {n : Nat} {L : Nat → Nat} {Z : Nat → Nat → Int} (h : OwnAt lo hi w q n L Z) {i : Nat} (hi' : i < n) (k : Wrote (q.B i) (q.O i) (L i) w w') (f : Nat → Int)
    (hf : ∀ j, j < L i → w'.cell? ⟨q.B i, q.O i + j, none⟩ = some (.int .i64 (f j))) : OwnAt lo hi w' q n L (fun i' j => if i' = i then f j else Z i' j) where
  rng := h.rng
  top i' h' := (k.cellOut (fun ⟨e, j, hj, e2⟩ => h.tops i hi' j hj i' h' ⟨e.symm, by omega⟩)).trans (h.top i' h')
  row := h.row
  rrng := h.rrng
  cell i' h' j hj := by
    by_cases e : i' = i
    · subst e; simp only [if_pos]; exact hf j hj
    · simp only [if_neg e]
      exact (k.cellOut (fun ⟨e1, j', hj', e2⟩ => h.apart i' h' i hi' e j hj j' hj' ⟨e1, e2⟩)).trans (h.cell i' h' j hj)
  free i' h' j hj := (k.frozenAll _ _).trans (h.free i' h' j hj)
  apart := h.apart
  tops := h.tops

theorem OwnAt.mono {lo hi lo' hi' : Nat} {w : World} {q : Place} {n : Nat} {L : Nat → Nat} {Z : Nat → Nat → Int} (h : OwnAt lo hi w q n L Z) (k0 : lo' ≤ lo) (k1 : hi ≤ hi') : OwnAt lo' hi' w q n L Z :=
  { h with rng := fun g => by have := h.rng g; omega, rrng := fun i hi0 hl => by have := h.rrng i hi0 hl; omega }
/-- One number rewritten. -/
theorem OwnAt.set {lo hi : Nat} {w : World} {q : Place} {n : Nat} {L : Nat → Nat} {Z : Nat → Nat → Int} (h : OwnAt lo hi w q n L Z) {i j : Nat} (hi' : i < n) (hj : j < L i) (x : Int) :
    OwnAt lo hi (w.setCell ⟨q.B i, q.O i + j, none⟩ (.int .i64 x)) q n L (fun i' j' => if i' = i ∧ j' = j then x else Z i' j') := by
  refine (h.wrote hi' ((Wrote.refl (q.B i) (q.O i) (L i) w).set hj (.int .i64 x)) (fun j' => if j' = j then x else Z i j') (fun j' hj' => ?_)).congr (fun i' _ j' _ => ?_)
  · by_cases e : j' = j
    · subst e; rw [if_pos rfl]; exact World.cell?_setCell_same w _ _ (h.cell i hi' j' hj)
    · rw [if_neg e]; exact (World.cell?_setCell_other _ _ _ _ (fun e2 => e (by injection e2 with _ e3; omega))).trans (h.cell i hi' j' hj')
  · by_cases e : i' = i
    · subst e; simp
    · simp [e]

/-- A matrix of one's own, told by its rows. -/
def OwnM (lo hi : Nat) (w : World) (a : Option Addr) (m : List (List Int)) : Prop :=
  m = [] ∨ ∃ q : Place, a = some ⟨q.b, q.o, none⟩ ∧ OwnAt lo hi w q m.length (fun i => (rw' m i).length) (at' m)
/-- A list of one's own. -/
def OwnR (lo hi : Nat) (w : World) (a : Option Addr) (zs : List Int) : Prop :=
  zs = [] ∨ ∃ b o : Nat, a = some ⟨b, o, none⟩ ∧ lo ≤ b ∧ b < hi ∧ ∀ j, j < zs.length → w.cell? ⟨b, o + j, none⟩ = some (.int .i64 (zs.getD j 0)) ∧ w.frozen? ⟨b, o + j, none⟩ = false
theorem OwnM.same {lo hi : Nat} {w w' : World} {a : Option Addr} {m : List (List Int)} (h : OwnM lo hi w a m) (k : Same lo hi w w') : OwnM lo hi w' a m := by
  rcases h with h | ⟨q, ha, h⟩
  · exact .inl h
  · exact .inr ⟨q, ha, h.same k⟩
theorem OwnM.below {B lo hi : Nat} {w w' : World} {a : Option Addr} {m : List (List Int)} (h : OwnM lo hi w a m) (k : Below B w w') (hB : hi ≤ B) : OwnM lo hi w' a m := h.same (same_below k hB)
theorem OwnM.mono {lo hi lo' hi' : Nat} {w : World} {a : Option Addr} {m : List (List Int)} (h : OwnM lo hi w a m) (k0 : lo' ≤ lo) (k1 : hi ≤ hi') : OwnM lo' hi' w a m := by
  rcases h with h | ⟨q, ha, h⟩
  · exact .inl h
  · exact .inr ⟨q, ha, h.mono k0 k1⟩
theorem OwnR.same {lo hi : Nat} {w w' : World} {a : Option Addr} {zs : List Int} (h : OwnR lo hi w a zs) (k : Same lo hi w w') : OwnR lo hi w' a zs := by
  rcases h with h | ⟨b, o, ha, h0, h1, hc⟩
  · exact .inl h
  · exact .inr ⟨b, o, ha, h0, h1, fun j hj => ⟨(k.cell (p := ⟨b, o + j, none⟩) h0 h1).trans (hc j hj).1, (k.frozen (p := ⟨b, o + j, none⟩) h0 h1).trans (hc j hj).2⟩⟩
theorem OwnR.below {B lo hi : Nat} {w w' : World} {a : Option Addr} {zs : List Int} (h : OwnR lo hi w a zs) (k : Below B w w') (hB : hi ≤ B) : OwnR lo hi w' a zs := h.same (same_below k hB)
theorem OwnR.row {lo hi : Nat} {w : World} {a : Option Addr} {zs : List Int} (h : OwnR lo hi w a zs) : RowIn lo hi w a zs := by
  rcases h with h | ⟨b, o, ha, h0, h1, hc⟩
  · exact .inl h
  · exact .inr ⟨b, o, ha, h0, h1, fun j hj => (hc j hj).1⟩
theorem OwnM.mat {lo hi : Nat} {w : World} {a : Option Addr} {m : List (List Int)} (h : OwnM lo hi w a m) : MatIn lo hi w a m := by
  rcases h with h | ⟨q, ha, h⟩
  · exact .inl h
  · by_cases h0 : 0 < m.length
    · refine .inr ⟨q.b, q.o, ha, (h.rng h0).1, (h.rng h0).2, fun i hi => ⟨q.R i, q.C i, h.top i hi, ?_⟩⟩
      by_cases hl : (rw' m i).length = 0
      · exact .inl (List.eq_nil_of_length_eq_zero hl)
      · exact .inr ⟨q.B i, q.O i, (h.row i hi).resolve_left hl, (h.rrng i hi (by omega)).1, (h.rrng i hi (by omega)).2, fun j hj => h.cell i hi j hj⟩
    · exact .inl (List.eq_nil_of_length_eq_zero (by omega))

/-! ### Sizes -/
/-- How many numbers the first k rows have. -/
def tot (m : List (List Int)) : Nat → Nat
  | 0 => 0
  | k + 1 => tot m k + (rw' m k).length
theorem tot_mono {m : List (List Int)} {i k : Nat} (h : i ≤ k) : tot m i ≤ tot m k := by
  induction k with
  | zero => have : i = 0 := by omega
            subst this; exact Nat.le_refl _
  | succ k ih =>
    by_cases e : i = k + 1
    · subst e; exact Nat.le_refl _
    · exact Nat.le_trans (ih (by omega)) (Nat.le_add_right _ _)
theorem mat_ext {m m' : List (List Int)} (hl : m.length = m'.length) (h : ∀ i, i < m.length → rw' m i = rw' m' i) : m = m' := by
  apply List.ext_getElem hl
  intro i h1 h2
  have := h i h1
  simpa [rw', h1, h2] using this
theorem row_ext {z z' : List Int} (hl : z.length = z'.length) (h : ∀ i, i < z.length → z.getD i 0 = z'.getD i 0) : z = z' := by
  apply List.ext_getElem hl
  intro i h1 h2
  have := h i h1
  simpa [h1, h2] using this

end Go.Proofs.Ytckpcfhmppdghaa
