/-
  What a call leaves as it was, step by step.
  No conditions.
  The source that the model draws from: what stays as it is while numbers are drawn.
  No conditions.
  What the model's draws are: a number in its range.
  Conditions: the source is one, of at most 4096 bytes.
  Plain facts on the five primes and their remainders: powers, inverses, square roots, orders. No Go in sight.
  No conditions.
  What the program's and the model's checks of a prime and of numbers return: contracts of the functions that the laws of chapter 1 call first.
  Conditions: the lists that are checked are rows of cells that are known.
  What the model's check of a prime and of a list of numbers returns, and both checks at the short lists that the functions of chapter 1 build.
  Conditions: the lists are rows of cells that are known.
  What the model's source picks: one of a list.
  Conditions: the source is one, of at most 4096 bytes; the list is a row of known cells in another block.
  The model's source of a code, and what it draws first: a prime or not, numbers or not.
  Conditions: the code is a row of at most 4096 known bytes.
  Lists and matrices of numbers in memory: where they lie, what keeps them, what a store does.
  No conditions.
  Matrices as lists of lists: made of a function, their rows and numbers, sums of products, and what chapter 2 makes of them. No Go in sight.
  No conditions.
  What the laws' sizes, copies, comparisons and marks of lists of numbers do, and the checks of their numbers, wherever they lie.
  Conditions: the lists are nil or rows of known cells, of at most 1048576 numbers.
-/
import Derived.Below
import Derived.Deep.Draws
import Derived.WalkKit
import Derived.Test.YtcamegdjdjacpaaRows
import Derived.LoopTactic
import Derived.Lib.Hide
import Derived.BigQuiet
import Derived.Deep.QuietTactic
import Derived.Laws.Bits64
import Derived.Laws.BitsAllLaws
import Derived.RegionTactic
import Derived.Deep.RegionWith
import Derived.Laws.MakeOwn
import Derived.OpenShut
import Derived.Deep.OwnRows
namespace Go.Proofs.Ytcamegdjdjacpaa
open Go.RowKit

theorem below_step {B : Nat} {w W w1 : World} (h : Below B w W) (hB : B ≤ W.heap.size) (hb : Below W.heap.size W w1) : Below B w w1 := h.trans (hb.mono hB)

end Go.Proofs.Ytcamegdjdjacpaa

namespace Go.Proofs.Ytcamegdjdjacpaa
open Go.RowKit
set_option linter.unusedVariables false

/-- Of what was there, block b alone may have turned. -/
structure Only (b : Nat) (w w' : World) : Prop where
  os : w'.os = w.os
  tape : w'.tape = w.tape
  output : w'.output = w.output
  size : w.heap.size ≤ w'.heap.size
  block : ∀ k, k < w.heap.size → k ≠ b → w'.heap[k]? = w.heap[k]?

theorem Only.refl (b : Nat) (w : World) : Only b w w := ⟨rfl, rfl, rfl, Nat.le_refl _, fun _ _ _ => rfl⟩
theorem Only.trans {b : Nat} {u v w : World} (h : Only b u v) (k : Only b v w) : Only b u w :=
  ⟨k.os.trans h.os, k.tape.trans h.tape, k.output.trans h.output, Nat.le_trans h.size k.size, fun i hi hn => (k.block i (Nat.lt_of_lt_of_le hi h.size) hn).trans (h.block i hi hn)⟩
theorem Only.drew {b : Nat} {u w : World} (h : Only b u w) : Only b u w.drew := ⟨h.os, h.tape, h.output, h.size, h.block⟩
theorem Only.drewN {b : Nat} {u w : World} (h : Only b u w) (n : Nat) : Only b u (w.drewN n) := ⟨h.os, h.tape, h.output, h.size, h.block⟩
theorem Only.alloc {b : Nat} {u w : World} (h : Only b u w) (o : Obj) : Only b u (w.alloc o) :=
  h.trans ⟨rfl, rfl, rfl, by simp, fun k hk _ => Below.heap_alloc _ _ _ hk⟩
theorem Only.setCell {b : Nat} {u w : World} (h : Only b u w) {p : Addr} (hp : p.block = b ∨ u.heap.size ≤ p.block) (x : Value) : Only b u (w.setCell p x) :=
  ⟨h.os, h.tape, h.output, by simpa [World.setCell] using h.size, fun k hk hn => (Below.heap_setCell _ _ _ _ (by rcases hp with hp | hp <;> omega)).trans (h.block k hk hn)⟩
theorem Only.set (b o : Nat) (w : World) (x : Value) : Only b w (w.setCell ⟨b, o, none⟩ x) := (Only.refl b w).setCell (p := ⟨b, o, none⟩) (.inl rfl) x
theorem Only.of_below {b : Nat} {u w : World} (h : Below u.heap.size u w) : Only b u w := ⟨h.os, h.tape, h.output, h.size, fun k hk _ => h.block k hk⟩
theorem Only.step {b : Nat} {u v w : World} (h : Only b u v) (k : Below v.heap.size v w) : Only b u w := h.trans (Only.of_below k)
theorem Only.below {b B : Nat} {u w : World} (h : Only b u w) (hB : B ≤ b) (hs : B ≤ u.heap.size) : Below B u w :=
  ⟨h.os, h.tape, h.output, h.size, fun k hk => h.block k (by omega) (by omega)⟩
theorem Only.cell {b : Nat} {u w : World} (h : Only b u w) {p : Addr} (hp : p.block < u.heap.size) (hn : p.block ≠ b) : w.cell? p = u.cell? p := World.cell?_of_block (w := u) (h.block p.block hp hn)
theorem Only.frozen {b : Nat} {u w : World} (h : Only b u w) {p : Addr} (hp : p.block < u.heap.size) (hn : p.block ≠ b) : w.frozen? p = u.frozen? p := World.frozen?_of_block (w := u) (h.block p.block hp hn)

/-- Bytes that a slice leads to: none, or a row of known cells in a block before b. -/
def Bytes (w : World) (b : Nat) (a : Option Addr) (len : Nat) (zs : List Int) : Prop :=
  len = 0 ∨ ∃ xb xo : Nat, a = some ⟨xb, xo, none⟩ ∧ xb < b ∧ xb < w.heap.size ∧ ∀ i, i < len → (0 ≤ zs.getD i 0 ∧ zs.getD i 0 ≤ 255) ∧ w.cell? ⟨xb, xo + i, none⟩ = some (.int .u8 (zs.getD i 0))
theorem Bytes.only {w w' : World} {b : Nat} {a : Option Addr} {len : Nat} {zs : List Int} (h : Bytes w b a len zs) (ho : Only b w w') : Bytes w' b a len zs := by
  rcases h with h | ⟨xb, xo, ha, hb, hs, hc⟩
  · exact .inl h
  · exact .inr ⟨xb, xo, ha, hb, Nat.lt_of_lt_of_le hs ho.size, fun i hi => ⟨(hc i hi).1, (ho.cell (p := ⟨xb, xo + i, none⟩) hs (by show xb ≠ b; omega)).trans (hc i hi).2⟩⟩

/-- The source at block b: its bytes, how many are used up, its state. -/
structure SrcAt (w : World) (b : Nat) (a : Option Addr) (len cap : Nat) (zs : List Int) (at_ : Nat) (h : Int) : Prop where
  lt : b < w.heap.size
  c0 : w.cell? ⟨b, 0, none⟩ = some (.slice a len cap)
  c1 : w.cell? ⟨b, 1, none⟩ = some (.int .i64 at_)
  c2 : w.cell? ⟨b, 2, none⟩ = some (.int .u64 h)
  f1 : w.frozen? ⟨b, 1, none⟩ = false
  f2 : w.frozen? ⟨b, 2, none⟩ = false
  le : at_ ≤ len
  small : len ≤ 4096
  bytes : Bytes w b a len zs
theorem SrcAt.setH {w : World} {b : Nat} {a : Option Addr} {len cap : Nat} {zs : List Int} {k : Nat} {h : Int} (s : SrcAt w b a len cap zs k h) (H : Int) : SrcAt (w.setCell ⟨b, 2, none⟩ (.int .u64 H)) b a len cap zs k H :=
  ⟨by simpa [World.setCell] using s.lt, (World.cell?_setCell_other _ _ _ _ (by simp)).trans s.c0, (World.cell?_setCell_other _ _ _ _ (by simp)).trans s.c1, by simp [go_sem, s.c2], by simp [go_sem, s.f1], by simp [go_sem, s.f2], s.le, s.small, s.bytes.only (Only.set _ _ _ _)⟩
theorem SrcAt.setAt {w : World} {b : Nat} {a : Option Addr} {len cap : Nat} {zs : List Int} {k : Nat} {h : Int} (s : SrcAt w b a len cap zs k h) (m : Int) (j : Nat) (hj : m = (j : Int)) (hm : j ≤ len) : SrcAt (w.setCell ⟨b, 1, none⟩ (.int .i64 m)) b a len cap zs j h :=
  ⟨by simpa [World.setCell] using s.lt, (World.cell?_setCell_other _ _ _ _ (by simp)).trans s.c0, by subst hj; simp [go_sem, s.c1], (World.cell?_setCell_other _ _ _ _ (by simp)).trans s.c2, by simp [go_sem, s.f1], by simp [go_sem, s.f2], hm, s.small, s.bytes.only (Only.set _ _ _ _)⟩
theorem SrcAt.drewN {w : World} {b : Nat} {a : Option Addr} {len cap : Nat} {zs : List Int} {k : Nat} {h : Int} (s : SrcAt w b a len cap zs k h) (n : Nat) : SrcAt (w.drewN n) b a len cap zs k h :=
  ⟨s.lt, s.c0, s.c1, s.c2, s.f1, s.f2, s.le, s.small, s.bytes.only ((Only.refl _ _).drewN n)⟩
/-- .. in some state. -/
def Src (w : World) (b : Nat) (a : Option Addr) (len cap : Nat) (zs : List Int) : Prop := ∃ (at_ : Nat) (h : Int), SrcAt w b a len cap zs at_ h
theorem Src.below {w w' : World} {b : Nat} {a : Option Addr} {len cap : Nat} {zs : List Int} (h : Src w b a len cap zs) (k : Below w.heap.size w w') : Src w' b a len cap zs := by
  obtain ⟨n, x, lt, c0, c1, c2, f1, f2, le, sm, by_⟩ := h
  exact ⟨n, x, Nat.lt_of_lt_of_le lt k.size, (k.cell (p := ⟨b, 0, none⟩) lt).trans c0, (k.cell (p := ⟨b, 1, none⟩) lt).trans c1, (k.cell (p := ⟨b, 2, none⟩) lt).trans c2, (k.frozen (p := ⟨b, 1, none⟩) lt).trans f1, (k.frozen (p := ⟨b, 2, none⟩) lt).trans f2, le, sm, by_.only (Only.of_below k)⟩
theorem Src.alloc {w : World} {b : Nat} {a : Option Addr} {len cap : Nat} {zs : List Int} (h : Src w b a len cap zs) (o : Obj) : Src (w.alloc o) b a len cap zs :=
  h.below ((Below.refl _ _).alloc (Nat.le_refl _) o)

/-- What a draw does: a number in its range; the source alone has turned. -/
def Drawn (P : Int → Prop) (b : Nat) (a : Option Addr) (len cap : Nat) (zs : List Int) (w : World) (e : Ending) (w' : World) : Prop :=
  ∃ x : Int, e = .returned (.int .i64 x) ∧ P x ∧ Only b w w' ∧ Src w' b a len cap zs

end Go.Proofs.Ytcamegdjdjacpaa

namespace Go.Proofs.Ytcamegdjdjacpaa
open Go.RowKit
set_option linter.unusedVariables false

theorem draw_bd (z : Int) : 0 ≤ wrap64 (bits .and .u64 (IntKind.u64.wrap z / 8589934592) 16777215) ∧ wrap64 (bits .and .u64 (IntKind.u64.wrap z / 8589934592) 16777215) ≤ 16777215 := by
  rw [IntKind.wrap_u64]
  have h1 := Int.emod_nonneg z (by decide : (18446744073709551616 : Int) ≠ 0)
  have h2 := Int.emod_lt_of_pos z (by decide : (0 : Int) < 18446744073709551616)
  rw [u64_and _ _ (by omega) (by omega) (by omega) (by omega)]
  have h3 := Nat.and_le_right (n := (z % 18446744073709551616 / 8589934592).toNat) (m := (16777215 : Int).toNat)
  unfold wrap64
  omega

set_option maxHeartbeats 800000 in
theorem next_any (n : Int) (b : Nat) (a : Option Addr) (len cap : Nat) (zs : List Int) (w : World) (hs : Src w b a len cap zs) :
    Calls Try.prog 167 #[.pointer (some ⟨b, 0, none⟩), .int .i64 n] w (Drawn (fun x => 1 ≤ n → 0 ≤ x ∧ x < n) b a len cap zs w) := by
  by_cases n1 : 1 ≤ n
  · obtain ⟨k, h, s⟩ := hs
    have S := Lib.hid s
    obtain ⟨lt, c0, c1, c2, f1, f2, le, sm, by_⟩ := s
    obtain ⟨H, hH⟩ : ∃ H, IntKind.u64.wrap (IntKind.u64.wrap (h * 6364136223846793005) + 1442695040888963407) = H := ⟨_, rfl⟩
    obtain ⟨x, hX⟩ : ∃ x, wrap64 (bits .and .u64 (H / 8589934592) 16777215) = x := ⟨_, rfl⟩
    obtain ⟨x0, x1⟩ : 0 ≤ x ∧ x ≤ 16777215 := by rw [← hX, ← hH]; exact draw_bd _
    by_cases hk : k < len
    · rcases by_ with h0 | ⟨xb, xo, rfl, hb, hsz, hc⟩
      · omega
      · obtain ⟨⟨z0, z1⟩, hcell⟩ := hc k hk
        obtain ⟨z, hz⟩ : ∃ z, z = zs.getD k 0 := ⟨_, rfl⟩
        rw [← hz] at hcell z0 z1
        have hne : ¬ b = xb := by omega
        have hm0 := Int.emod_nonneg (x + z) (by omega : n ≠ 0)
        have hm1 := Int.emod_lt_of_pos (x + z) (by omega : 0 < n)
        clear hc hz
        go_enter Try.func167, Try.ntmps167
        go_wp2
        go_quiet (fail)
        go_wp2
        go_quiet (fail)
        go_wp2
        go_ret
        exact ⟨(x + z) % n, rfl, fun _ => ⟨hm0, hm1⟩, ((Only.set b 2 w _).drewN _).setCell (.inl rfl) _, k + 1, H, ((S.out.setH H).drewN _).setAt _ (k + 1) (by simp) (by omega)⟩
    · have hm0 := Int.emod_nonneg x (by omega : n ≠ 0)
      have hm1 := Int.emod_lt_of_pos x (by omega : 0 < n)
      clear by_
      go_enter Try.func167, Try.ntmps167
      go_wp2
      go_quiet (fail)
      go_wp2
      go_ret
      exact ⟨x % n, rfl, fun _ => ⟨hm0, hm1⟩, (Only.set b 2 w _).drewN _, k, H, (S.out.setH H).drewN _⟩
  · go_enter Try.func167, Try.ntmps167
    go_wp2
    go_ret
    exact ⟨0, rfl, fun h => by omega, Only.refl _ _, hs⟩

end Go.Proofs.Ytcamegdjdjacpaa

namespace Go.Proofs.Ytcamegdjdjacpaa

/-! ### Primes, numbers, codes -/
def prm (p : Int) : Bool := p == 3 || p == 5 || p == 7 || p == 11 || p == 13
def inr (p a : Int) : Bool := decide (0 ≤ a ∧ a < p)
def codeOf (p : Int) (zs : List Int) : Int := if prm p then (if zs.all (inr p) then 0 else 2) else 1

theorem prm_or {p : Int} (h : prm p = true) : p = 3 ∨ p = 5 ∨ p = 7 ∨ p = 11 ∨ p = 13 := by
  simp [prm] at h; omega
theorem prm_not {p : Int} (h : prm p = false) : p ≠ 3 ∧ p ≠ 5 ∧ p ≠ 7 ∧ p ≠ 11 ∧ p ≠ 13 := by
  simp [prm] at h; omega
theorem prm_bd {p : Int} (h : prm p = true) : 3 ≤ p ∧ p ≤ 13 := by
  have := prm_or h; omega
theorem inr_iff {p a : Int} : inr p a = true ↔ 0 ≤ a ∧ a < p := by simp [inr]
theorem inr_not {p a : Int} : inr p a = false ↔ ¬ (0 ≤ a ∧ a < p) := by simp [inr]

theorem code_np {p : Int} {zs : List Int} (h : prm p = false) : codeOf p zs = 1 := by simp [codeOf, h]
theorem code_ok {p : Int} {zs : List Int} (h : prm p = true) (ha : zs.all (inr p) = true) : codeOf p zs = 0 := by simp [codeOf, h, ha]
theorem code_bad {p : Int} {zs : List Int} (h : prm p = true) (ha : zs.all (inr p) = false) : codeOf p zs = 2 := by simp [codeOf, h, ha]
theorem code_cases (p : Int) (zs : List Int) : (prm p = false ∧ codeOf p zs = 1) ∨ (prm p = true ∧ zs.all (inr p) = true ∧ codeOf p zs = 0) ∨ (prm p = true ∧ zs.all (inr p) = false ∧ codeOf p zs = 2) := by
  by_cases h : prm p = true
  · by_cases ha : zs.all (inr p) = true
    · exact .inr (.inl ⟨h, ha, code_ok h ha⟩)
    · have ha' : zs.all (inr p) = false := by simpa using ha
      exact .inr (.inr ⟨h, ha', code_bad h ha'⟩)
  · have h' : prm p = false := by simpa using h
    exact .inl ⟨h', code_np h'⟩
/-! ### All numbers of all primes, by the kernel -/
def every (Q : Int → Int → Bool) : Bool := [3, 5, 7, 11, 13].all fun p : Int => (List.range p.toNat).all fun a => Q p a
/-! ### Products -/
theorem mod_bd {p : Int} (hp : prm p = true) (n : Int) : 0 ≤ n % p ∧ n % p < p := by
  have := prm_bd hp
  exact ⟨Int.emod_nonneg _ (by omega), Int.emod_lt_of_pos _ (by omega)⟩

/-! ### Powers and inverses -/
/-! ### Square roots: the least one, or -1 -/
def rtF (p a : Int) : Nat → Int → Int
  | 0, _ => -1
  | f + 1, r => if r * r % p = a then r else rtF p a f (r + 1)
def rt (p a : Int) : Int := rtF p a p.toNat 0
/-! ### Orders -/
/-! ### Sums of two squares; primitive numbers -/
def sxF (p a : Int) : Nat → Int → Int
  | 0, x => x
  | f + 1, x => if 0 ≤ rt p ((a - x * x) % p) then x else sxF p a f (x + 1)
def sx (p a : Int) : Int := sxF p a 12 0
end Go.Proofs.Ytcamegdjdjacpaa

namespace Go.Proofs.Ytcamegdjdjacpaa
open Go.RowKit
set_option linter.unusedVariables false

theorem isPrime_any (p : Int) (w : World) :
    Calls Try.prog 187 #[.int .i64 p] w fun e w' => e = .returned (.bool (prm p)) ∧ w = w' := by
  by_cases h : prm p = true
  · rcases prm_or h with rfl | rfl | rfl | rfl | rfl
    all_goals
      clear h
      go_enter Try.func187, Try.ntmps187
      go_wp2
      go_ret
      exact ⟨rfl, rfl⟩
  · have h' : prm p = false := by simpa using h
    obtain ⟨h1, h2, h3, h4, h5⟩ := prm_not h'
    have H := Lib.hid h'
    clear h h'
    go_enter Try.func187, Try.ntmps187
    go_wp2
    go_ret
    exact ⟨by rw [H.out]; rfl, rfl⟩

theorem l01Prime_any (p : Int) (w : World) :
    Calls Try.prog 170 #[.int .i64 p] w fun e w' => e = .returned (.bool (prm p)) ∧ w = w' := by
  by_cases h : prm p = true
  · rcases prm_or h with rfl | rfl | rfl | rfl | rfl
    all_goals
      clear h
      go_enter Try.func170, Try.ntmps170
      go_wp2
      go_ret
      exact ⟨rfl, rfl⟩
  · have h' : prm p = false := by simpa using h
    obtain ⟨h1, h2, h3, h4, h5⟩ := prm_not h'
    have H := Lib.hid h'
    clear h h'
    go_enter Try.func170, Try.ntmps170
    go_wp2
    go_ret
    exact ⟨rfl, rfl⟩

theorem l01In_yes (n lo hi : Int) (w : World) (h : lo ≤ n) (k : n ≤ hi) :
    Calls Try.prog 151 #[.int .i64 n, .int .i64 lo, .int .i64 hi] w fun e w' => e = .returned (.bool true) ∧ w = w' := by
  go_enter Try.func151, Try.ntmps151
  go_wp2
  go_ret
  exact ⟨rfl, rfl⟩
theorem l01In_no (n lo hi : Int) (w : World) (h : ¬ (lo ≤ n ∧ n ≤ hi)) :
    Calls Try.prog 151 #[.int .i64 n, .int .i64 lo, .int .i64 hi] w fun e w' => e = .returned (.bool false) ∧ w = w' := by
  by_cases h1 : lo ≤ n
  · have h2 : ¬ n ≤ hi := fun k => h ⟨h1, k⟩
    clear h
    go_enter Try.func151, Try.ntmps151
    go_wp2
    go_ret
    exact ⟨rfl, rfl⟩
  · clear h
    go_enter Try.func151, Try.ntmps151
    go_wp2
    go_ret
    exact ⟨rfl, rfl⟩

/-- A row of integers that a slice leads to. -/
def RowAt (w : World) (b : Nat) (zs : List Int) : Prop := ∀ i, i < zs.length → w.cell? ⟨b, i, none⟩ = some (.int .i64 (zs.getD i 0))

theorem getD_at {zs : List Int} {k : Nat} (h : k < zs.length) : zs.getD k 0 = zs[k] := by simp [h]
theorem all_take_succ {p x : Int} {zs : List Int} {k : Nat} (h : k < zs.length) (hx : x = zs.getD k 0) : (zs.take (k + 1)).all (inr p) = ((zs.take k).all (inr p) && inr p x) := by
  rw [List.take_succ_eq_append_getElem h, List.all_append, hx, getD_at h]
  simp
theorem all_false_of {p x : Int} {zs : List Int} {k : Nat} (h : k < zs.length) (hx : x = zs.getD k 0) (hf : inr p x = false) : zs.all (inr p) = false := by
  rw [List.all_eq_false]
  refine ⟨x, ?_, by simp [hf]⟩
  rw [hx, getD_at h]
  exact List.getElem_mem h

end Go.Proofs.Ytcamegdjdjacpaa

namespace Go.Proofs.Ytcamegdjdjacpaa
open Go.RowKit
set_option linter.unusedVariables false

theorem Drawn.any {P : Int → Prop} {b : Nat} {a : Option Addr} {len cap : Nat} {zs : List Int} {w w1 w' : World} {e : Ending} (ho : Only b w w1) (h : Drawn P b a len cap zs w1 e w') : Drawn (fun _ => True) b a len cap zs w e w' := by
  obtain ⟨x, he, _, hn, hs⟩ := h
  exact ⟨x, he, trivial, ho.trans hn, hs⟩

theorem pick_any (c m : Nat) (ls : List Int) (b : Nat) (a : Option Addr) (len cap : Nat) (zs : List Int) (w : World) (hs : Src w b a len cap zs) (hrow : RowAt w c ls) (hl : ls.length = m) (m1 : 1 ≤ m) (m2 : m ≤ 1000) (hc : c < w.heap.size) (hne : c ≠ b) :
    Calls Try.prog 168 #[.pointer (some ⟨b, 0, none⟩), .slice (some ⟨c, 0, none⟩) m m] w (Drawn (fun _ => True) b a len cap zs w) := by
  have HS := Lib.hid hs
  have HR := Lib.hid hrow
  have HL := Lib.hid hl
  clear hs hrow hl
  go_enter Try.func168, Try.ntmps168
  go_wp2_with (go_at_call 167; refine (next_any (m : Int) b a len cap zs _ HS.out).mono ?_; rintro e w1 ⟨x, rfl, hx, ho, hs1⟩; obtain ⟨hx0, hx1⟩ := hx (by omega); obtain ⟨j, rfl⟩ := Int.eq_ofNat_of_zero_le hx0; have hcell := (ho.cell (p := ⟨c, j, none⟩) hc hne).trans (HR.out j (by rw [HL.out]; omega)); clear hx)
  go_ret
  exact ⟨_, rfl, trivial, ho, hs1⟩

end Go.Proofs.Ytcamegdjdjacpaa

namespace Go.Proofs.Ytcamegdjdjacpaa
open Go.RowKit
set_option linter.unusedVariables false

theorem SrcAt.drew {w : World} {b : Nat} {a : Option Addr} {len cap : Nat} {zs : List Int} {k : Nat} {h : Int} (s : SrcAt w b a len cap zs k h) : SrcAt w.drew b a len cap zs k h :=
  ⟨s.lt, s.c0, s.c1, s.c2, s.f1, s.f2, s.le, s.small, s.bytes.only (Only.refl _ _).drew⟩
theorem first_src {w : World} {b : Nat} {a : Option Addr} {len cap : Nat} {zs : List Int} {k : Nat} {h : Int} (s : SrcAt w b a len cap zs k h) (H : Int) : SrcAt (w.setCell ⟨b, 2, none⟩ (.int .u64 H)).drew b a len cap zs k H := (s.setH H).drew
def Made (a : Option Addr) (len cap : Nat) (zs : List Int) (w : World) (e : Ending) (w' : World) : Prop :=
  e = .returned (.pointer (some ⟨w.heap.size, 0, none⟩)) ∧ Below w.heap.size w w' ∧ Src w' w.heap.size a len cap zs

/-- The code as it comes in: none, or a row of known bytes. -/
def Code8 (w : World) (a : Option Addr) (len : Nat) (zs : List Int) : Prop := Bytes w w.heap.size a len zs

set_option maxHeartbeats 1000000 in
set_option maxRecDepth 100000 in
theorem from_any (a : Option Addr) (len cap : Nat) (zs : List Int) (w : World) (hb : Code8 w a len zs) (hl : len ≤ 4096) :
    Calls Try.prog 89 #[.slice a len cap] w (Made a len cap zs w) := by
  have HB := Lib.hid hb
  clear hb
  go_enter Try.func89, Try.ntmps89
  go_wp2
  go_loopw [4] (fun t wr => ∃ i : Nat, i ≤ len ∧ t = .int .i64 i ∧ (∃ h : Int, SrcAt wr w.heap.size a len cap zs 0 h) ∧ Below w.heap.size w wr) (fun t _ => len - (intOf t).toNat)
  case atStart => exact ⟨0, by omega, rfl, ⟨4409 + (len : Int), by simp, by simp [go_sem], by simp [go_sem], by simp [go_sem], by simp [go_sem], by simp [go_sem], Nat.zero_le _, hl, HB.out.only (Only.refl _ _ |>.alloc _)⟩, by ((repeat' (first | with_reducible exact Below.refl _ _ | (with_reducible refine Below.setCell ?_ ?_ _) | (with_reducible refine Below.alloc ?_ ?_ _) | (with_reducible refine Below.drew ?_))); all_goals (first | (simp; done) | omega | (simp; omega)))⟩
  case round =>
    obtain ⟨i, hi, rfl, ⟨h, s⟩, hbel⟩ := hrel
    have S := Lib.hid s
    obtain ⟨lt, c0, c1, c2, f1, f2, le, sm, by_⟩ := s
    by_cases hlt : i < len
    · rcases by_ with h0 | ⟨xb, xo, rfl, hb, hsz, hc⟩
      · omega
      · obtain ⟨⟨z0, z1⟩, hcell⟩ := hc i hlt
        obtain ⟨z, hz⟩ : ∃ z, z = zs.getD i 0 := ⟨_, rfl⟩
        rw [← hz] at hcell z0 z1
        have hne : ¬ w.heap.size = xb := by omega
        clear hc hz
        go_wp2
        go_region
        go_wp2
        go_roundw
        case rel => exact ⟨i + 1, by omega, by go_num, ⟨_, first_src S.out _⟩, by (have hs_hbel := hbel.size; (repeat' (first | with_reducible exact Below.refl _ _ | (with_reducible refine Below.setCell ?_ ?_ _) | (with_reducible refine Below.alloc ?_ ?_ _) | (with_reducible refine Below.drew ?_) | (with_reducible refine below_step ?_ ?_ hbel))); all_goals (first | (simp; done) | omega | (simp; omega) | (simp at hs_hbel ⊢; omega)))⟩
        case measure => simp [intOf]; omega
    · clear by_
      go_wp2
      go_ret
      exact ⟨rfl, hbel, 0, h, S.out⟩

/-- A made source and the rest. -/
theorem Src.step {w w' : World} {b : Nat} {a : Option Addr} {len cap : Nat} {zs : List Int} (h : Src w b a len cap zs) (k : Below w.heap.size w w') : Src w' b a len cap zs := h.below k

theorem rowOf (w : World) (vs : List Int) (t : TypeId) : RowAt (w.alloc (.cells (vs.map (Value.int .i64)).toArray t)) w.heap.size vs := by
  intro i hi
  have h := World.cell?_alloc_new (w := w) (vs.map (Value.int .i64)).toArray t i
  rw [h]
  simp [hi]

theorem drawPrime_any (b : Nat) (a : Option Addr) (len cap : Nat) (zs : List Int) (w : World) (hs : Src w b a len cap zs) :
    Calls Try.prog 221 #[.pointer (some ⟨b, 0, none⟩)] w (Drawn (fun _ => True) b a len cap zs w) := by
  have HS := Lib.hid hs
  have hlt : b < w.heap.size := by obtain ⟨k, h, s⟩ := hs; exact s.lt
  clear hs
  go_enter Try.func221, Try.ntmps221
  go_wp2_with (go_at_call 168; refine (pick_any w.heap.size 8 [3, 5, 7, 11, 13, 3, 5, 7] b a len cap zs _ (HS.out.alloc _) (rowOf w [3, 5, 7, 11, 13, 3, 5, 7] _) rfl (by omega) (by omega) (by simp) (by omega)).mono ?_; rintro e w1 ⟨x, rfl, _, ho, hs1⟩)
  go_ret
  exact ⟨x, rfl, trivial, (Only.refl b w).alloc _ |>.trans ho, hs1⟩

end Go.Proofs.Ytcamegdjdjacpaa

namespace Go.Proofs.Ytcamegdjdjacpaa
open Go.RowKit
set_option linter.unusedVariables false

/-- A list of numbers in blocks from lo up to hi (an empty one anywhere). -/
def RowIn (lo hi : Nat) (w : World) (a : Option Addr) (zs : List Int) : Prop :=
  zs = [] ∨ ∃ b o : Nat, a = some ⟨b, o, none⟩ ∧ lo ≤ b ∧ b < hi ∧ ∀ j, j < zs.length → w.cell? ⟨b, o + j, none⟩ = some (.int .i64 (zs.getD j 0))

/-- Row i of a matrix. -/
def rw' (m : List (List Int)) (i : Nat) : List Int := m.getD i []
/-- The number at row i, column j. -/
def at' (m : List (List Int)) (i j : Nat) : Int := (rw' m i).getD j 0

/-- A list of lists of numbers in blocks from lo up to hi. -/
def MatIn (lo hi : Nat) (w : World) (a : Option Addr) (m : List (List Int)) : Prop :=
  m = [] ∨ ∃ b o : Nat, a = some ⟨b, o, none⟩ ∧ lo ≤ b ∧ b < hi ∧ ∀ i, i < m.length → ∃ r c, w.cell? ⟨b, o + i, none⟩ = some (.slice r (rw' m i).length c) ∧ RowIn lo hi w r (rw' m i)

/-- Blocks from lo up to hi are as they were. -/
def Same (lo hi : Nat) (w w' : World) : Prop := ∀ k, lo ≤ k → k < hi → w'.heap[k]? = w.heap[k]?
theorem Same.cell {lo hi : Nat} {w w' : World} (h : Same lo hi w w') {p : Addr} (k0 : lo ≤ p.block) (k1 : p.block < hi) : w'.cell? p = w.cell? p := World.cell?_of_block (w := w) (h p.block k0 k1)
theorem Same.frozen {lo hi : Nat} {w w' : World} (h : Same lo hi w w') {p : Addr} (k0 : lo ≤ p.block) (k1 : p.block < hi) : w'.frozen? p = w.frozen? p := World.frozen?_of_block (w := w) (h p.block k0 k1)
theorem Same.refl (lo hi : Nat) (w : World) : Same lo hi w w := fun _ _ _ => rfl
theorem Same.trans {lo hi : Nat} {a b c : World} (h : Same lo hi a b) (k : Same lo hi b c) : Same lo hi a c := fun i i0 i1 => (k i i0 i1).trans (h i i0 i1)
theorem same_below {B lo hi : Nat} {w w' : World} (h : Below B w w') (k : hi ≤ B) : Same lo hi w w' := fun i _ i1 => h.block i (by omega)

theorem RowIn.same {lo hi : Nat} {w w' : World} {a : Option Addr} {zs : List Int} (h : RowIn lo hi w a zs) (k : Same lo hi w w') : RowIn lo hi w' a zs := by
  rcases h with h | ⟨b, o, ha, h0, h1, hc⟩
  · exact .inl h
  · exact .inr ⟨b, o, ha, h0, h1, fun j hj => (k.cell (p := ⟨b, o + j, none⟩) h0 h1).trans (hc j hj)⟩
theorem RowIn.below {B lo hi : Nat} {w w' : World} {a : Option Addr} {zs : List Int} (h : RowIn lo hi w a zs) (k : Below B w w') (hB : hi ≤ B) : RowIn lo hi w' a zs := h.same (same_below k hB)
theorem RowIn.mono {lo hi lo' hi' : Nat} {w : World} {a : Option Addr} {zs : List Int} (h : RowIn lo hi w a zs) (h0 : lo' ≤ lo) (h1 : hi ≤ hi') : RowIn lo' hi' w a zs := by
  rcases h with h | ⟨b, o, ha, k0, k1, hc⟩
  · exact .inl h
  · exact .inr ⟨b, o, ha, by omega, by omega, hc⟩
theorem MatIn.same {lo hi : Nat} {w w' : World} {a : Option Addr} {m : List (List Int)} (h : MatIn lo hi w a m) (k : Same lo hi w w') : MatIn lo hi w' a m := by
  rcases h with h | ⟨b, o, ha, h0, h1, hc⟩
  · exact .inl h
  · refine .inr ⟨b, o, ha, h0, h1, fun i hi => ?_⟩
    obtain ⟨r, c, hr, hrow⟩ := hc i hi
    exact ⟨r, c, (k.cell (p := ⟨b, o + i, none⟩) h0 h1).trans hr, hrow.same k⟩
theorem MatIn.below {B lo hi : Nat} {w w' : World} {a : Option Addr} {m : List (List Int)} (h : MatIn lo hi w a m) (k : Below B w w') (hB : hi ≤ B) : MatIn lo hi w' a m := h.same (same_below k hB)
theorem MatIn.mono {lo hi lo' hi' : Nat} {w : World} {a : Option Addr} {m : List (List Int)} (h : MatIn lo hi w a m) (h0 : lo' ≤ lo) (h1 : hi ≤ hi') : MatIn lo' hi' w a m := by
  rcases h with h | ⟨b, o, ha, k0, k1, hc⟩
  · exact .inl h
  · refine .inr ⟨b, o, ha, by omega, by omega, fun i hi => ?_⟩
    obtain ⟨r, c, hr, hrow⟩ := hc i hi
    exact ⟨r, c, hr, hrow.mono h0 h1⟩
/-- One row is got. -/
theorem MatIn.row {lo hi : Nat} {w : World} {a : Option Addr} {m : List (List Int)} (h : MatIn lo hi w a m) {i : Nat} (hi' : i < m.length) :
    ∃ b o r c, a = some ⟨b, o, none⟩ ∧ lo ≤ b ∧ b < hi ∧ w.cell? ⟨b, o + i, none⟩ = some (.slice r (rw' m i).length c) ∧ RowIn lo hi w r (rw' m i) := by
  rcases h with h | ⟨b, o, ha, h0, h1, hc⟩
  · rw [h] at hi'; simp at hi'
  · obtain ⟨r, c, hr, hrow⟩ := hc i hi'
    exact ⟨b, o, r, c, ha, h0, h1, hr, hrow⟩
/-- One number is got. -/
theorem RowIn.num {lo hi : Nat} {w : World} {a : Option Addr} {zs : List Int} (h : RowIn lo hi w a zs) {j : Nat} (hj : j < zs.length) :
    ∃ b o, a = some ⟨b, o, none⟩ ∧ lo ≤ b ∧ b < hi ∧ w.cell? ⟨b, o + j, none⟩ = some (.int .i64 (zs.getD j 0)) := by
  rcases h with h | ⟨b, o, ha, h0, h1, hc⟩
  · rw [h] at hj; simp at hj
  · exact ⟨b, o, ha, h0, h1, hc j hj⟩

/-- Nothing but draws. -/
def Quiet (w w' : World) : Prop := ∃ n, w' = w.drewN n
theorem Quiet.refl (w : World) : Quiet w w := ⟨0, rfl⟩
theorem Quiet.next {w w' : World} (h : Quiet w w') (n : Nat) : Quiet w (w'.drewN n) := by
  obtain ⟨k, rfl⟩ := h
  exact ⟨k + n, by rw [World.drewN_drewN]⟩
theorem Quiet.trans {a b c : World} (h : Quiet a b) (k : Quiet b c) : Quiet a c := by
  obtain ⟨n, rfl⟩ := k
  exact h.next n
theorem Quiet.below {w w' : World} (h : Quiet w w') (B : Nat) : Below B w w' := by
  obtain ⟨k, rfl⟩ := h
  exact ⟨rfl, rfl, rfl, Nat.le_refl _, fun _ _ => rfl⟩
theorem Quiet.same {w w' : World} (h : Quiet w w') (lo hi : Nat) : Same lo hi w w' := by
  obtain ⟨k, rfl⟩ := h
  exact fun _ _ _ => rfl
theorem Quiet.cell {w w' : World} (h : Quiet w w') (p : Addr) : w'.cell? p = w.cell? p := by
  obtain ⟨k, rfl⟩ := h
  rfl
theorem Quiet.size {w w' : World} (h : Quiet w w') : w'.heap.size = w.heap.size := by
  obtain ⟨k, rfl⟩ := h
  rfl

/-! ### Matrices of one's own: where each row lies -/
structure Place where
  b : Nat
  o : Nat
  R : Nat → Option Addr
  B : Nat → Nat
  O : Nat → Nat
  C : Nat → Nat

/-- n rows of lengths L, the numbers Z, all in blocks from lo up to hi, no cell twice, none frozen. -/
structure OwnAt (lo hi : Nat) (w : World) (q : Place) (n : Nat) (L : Nat → Nat) (Z : Nat → Nat → Int) : Prop where
  rng : 0 < n → lo ≤ q.b ∧ q.b < hi
  top : ∀ i, i < n → w.cell? ⟨q.b, q.o + i, none⟩ = some (.slice (q.R i) (L i) (q.C i))
  row : ∀ i, i < n → L i = 0 ∨ q.R i = some ⟨q.B i, q.O i, none⟩
  rrng : ∀ i, i < n → 0 < L i → lo ≤ q.B i ∧ q.B i < hi
  cell : ∀ i, i < n → ∀ j, j < L i → w.cell? ⟨q.B i, q.O i + j, none⟩ = some (.int .i64 (Z i j))
  free : ∀ i, i < n → ∀ j, j < L i → w.frozen? ⟨q.B i, q.O i + j, none⟩ = false
  apart : ∀ i, i < n → ∀ i', i' < n → i ≠ i' → ∀ j, j < L i → ∀ j', j' < L i' → ¬ (q.B i = q.B i' ∧ q.O i + j = q.O i' + j')
  tops : ∀ i, i < n → ∀ j, j < L i → ∀ i', i' < n → ¬ (q.B i = q.b ∧ q.O i + j = q.o + i')

theorem OwnAt.same {lo hi : Nat} {w w' : World} {q : Place} {n : Nat} {L : Nat → Nat} {Z : Nat → Nat → Int} (h : OwnAt lo hi w q n L Z) (k : Same lo hi w w') : OwnAt lo hi w' q n L Z where
  rng := h.rng
  top i hi := (k.cell (p := ⟨q.b, q.o + i, none⟩) (h.rng (by omega)).1 (h.rng (by omega)).2).trans (h.top i hi)
  row := h.row
  rrng := h.rrng
  cell i hi j hj := (k.cell (p := ⟨q.B i, q.O i + j, none⟩) (h.rrng i hi (by omega)).1 (h.rrng i hi (by omega)).2).trans (h.cell i hi j hj)
  free i hi j hj := (k.frozen (p := ⟨q.B i, q.O i + j, none⟩) (h.rrng i hi (by omega)).1 (h.rrng i hi (by omega)).2).trans (h.free i hi j hj)
  apart := h.apart
  tops := h.tops
theorem OwnAt.congr {lo hi : Nat} {w : World} {q : Place} {n : Nat} {L : Nat → Nat} {Z Z' : Nat → Nat → Int} (h : OwnAt lo hi w q n L Z) (e : ∀ i, i < n → ∀ j, j < L i → Z i j = Z' i j) : OwnAt lo hi w q n L Z' :=
  { h with cell := fun i hi j hj => by rw [← e i hi j hj]; exact h.cell i hi j hj }

/-- A call wrote into a stretch of one block, and nowhere else. -/
structure Wrote (b o n : Nat) (w w' : World) : Prop where
  os : w'.os = w.os
  tape : w'.tape = w.tape
  output : w'.output = w.output
  size : w'.heap.size = w.heap.size
  block : ∀ k, k ≠ b → w'.heap[k]? = w.heap[k]?
  cell : ∀ j, (∀ i, i < n → j ≠ o + i) → w'.cell? ⟨b, j, none⟩ = w.cell? ⟨b, j, none⟩
  frozen : ∀ j, w'.frozen? ⟨b, j, none⟩ = w.frozen? ⟨b, j, none⟩
theorem Wrote.refl (b o n : Nat) (w : World) : Wrote b o n w w := ⟨rfl, rfl, rfl, rfl, fun _ _ => rfl, fun _ _ => rfl, fun _ => rfl⟩
theorem Wrote.mono {b o n n' : Nat} {w w' : World} (h : Wrote b o n w w') (k : n ≤ n') : Wrote b o n' w w' := ⟨h.os, h.tape, h.output, h.size, h.block, fun j hj => h.cell j (fun i hi => hj i (by omega)), h.frozen⟩
theorem Wrote.drew {b o n : Nat} {w w' : World} (h : Wrote b o n w w') : Wrote b o n w w'.drew := ⟨h.os, h.tape, h.output, h.size, h.block, h.cell, h.frozen⟩
theorem Wrote.cellOut {b o n : Nat} {w w' : World} (h : Wrote b o n w w') {c j : Nat} (hne : ¬ (c = b ∧ ∃ i, i < n ∧ j = o + i)) : w'.cell? ⟨c, j, none⟩ = w.cell? ⟨c, j, none⟩ := by
  by_cases hc : c = b
  · subst hc
    exact h.cell j (fun i hi e => hne ⟨rfl, i, hi, e⟩)
  · exact World.cell?_of_block (w := w) (a := ⟨c, j, none⟩) (h.block c hc)
theorem Wrote.frozenAll {b o n : Nat} {w w' : World} (h : Wrote b o n w w') (c j : Nat) : w'.frozen? ⟨c, j, none⟩ = w.frozen? ⟨c, j, none⟩ := by
  by_cases hc : c = b
  · subst hc; exact h.frozen j
  · exact World.frozen?_of_block (w := w) (a := ⟨c, j, none⟩) (h.block c hc)
theorem Wrote.set {b o n : Nat} {w w' : World} (h : Wrote b o n w w') {i : Nat} (hi : i < n) (v : Value) : Wrote b o n w (w'.setCell ⟨b, o + i, none⟩ v) where
  os := h.os
  tape := h.tape
  output := h.output
  size := by simpa [World.setCell] using h.size
  block k hk := (Below.heap_setCell _ _ _ _ hk).trans (h.block k hk)
  cell j hj := (World.cell?_setCell_other _ _ _ _ (fun e => hj i hi (by injection e with _ e2; exact e2.symm))).trans (h.cell j hj)
  frozen j := by simp [go_sem, h.frozen]

/-- Blocks outside lo up to hi are as they were. -/
structure Off (lo hi : Nat) (w w' : World) : Prop where
  os : w'.os = w.os
  tape : w'.tape = w.tape
  output : w'.output = w.output
  size : w'.heap.size = w.heap.size
  block : ∀ k, (k < lo ∨ hi ≤ k) → w'.heap[k]? = w.heap[k]?
theorem Off.refl (lo hi : Nat) (w : World) : Off lo hi w w := ⟨rfl, rfl, rfl, rfl, fun _ _ => rfl⟩
theorem Off.trans {lo hi : Nat} {a b c : World} (h : Off lo hi a b) (k : Off lo hi b c) : Off lo hi a c :=
  ⟨k.os.trans h.os, k.tape.trans h.tape, k.output.trans h.output, k.size.trans h.size, fun i hi => (k.block i hi).trans (h.block i hi)⟩
theorem Off.drew {lo hi : Nat} {w w' : World} (h : Off lo hi w w') : Off lo hi w w'.drew := ⟨h.os, h.tape, h.output, h.size, h.block⟩
theorem Wrote.off {b o n lo hi : Nat} {w w' : World} (h : Wrote b o n w w') (h0 : lo ≤ b) (h1 : b < hi) : Off lo hi w w' :=
  ⟨h.os, h.tape, h.output, h.size, fun k hk => h.block k (by omega)⟩
theorem Off.below {B lo hi : Nat} {w w' : World} (h : Off lo hi w w') (hB : B ≤ lo) : Below B w w' := ⟨h.os, h.tape, h.output, by rw [h.size]; exact Nat.le_refl _, fun k hk => h.block k (by omega)⟩
theorem Off.same {lo hi lo' hi' : Nat} {w w' : World} (h : Off lo hi w w') (k : hi' ≤ lo ∨ hi ≤ lo') : Same lo' hi' w w' := fun i i0 i1 => h.block i (by omega)

/-- One row rewritten. -/
theorem OwnAt.wrote {lo hi : Nat} {w w' : World} {q : Place} {n : Nat} {L : Nat → Nat} {Z : Nat → Nat → Int} (h : OwnAt lo hi w q n L Z) {i : Nat} (hi' : i < n) (k : Wrote (q.B i) (q.O i) (L i) w w') (f : Nat → Int)
    (hf : ∀ j, j < L i → w'.cell? ⟨q.B i, q.O i + j, none⟩ = some (.int .i64 (f j))) : OwnAt lo hi w' q n L (fun i' j => if i' = i then f j else Z i' j) where
  rng := h.rng
  top i' h' := (k.cellOut (fun ⟨e, j, hj, e2⟩ => h.tops i hi' j hj i' h' ⟨e.symm, by omega⟩)).trans (h.top i' h')
  row := h.row
  rrng := h.rrng
  cell i' h' j hj := by
    by_cases e : i' = i
    · subst e; simp only [if_pos]; exact hf j hj
    · simp only [if_neg e]
      exact (k.cellOut (fun ⟨e1, j', hj', e2⟩ => h.apart i' h' i hi' e j hj j' hj' ⟨e1, e2⟩)).trans (h.cell i' h' j hj)
  free i' h' j hj := (k.frozenAll _ _).trans (h.free i' h' j hj)
  apart := h.apart
  tops := h.tops

theorem OwnAt.mono {lo hi lo' hi' : Nat} {w : World} {q : Place} {n : Nat} {L : Nat → Nat} {Z : Nat → Nat → Int} (h : OwnAt lo hi w q n L Z) (k0 : lo' ≤ lo) (k1 : hi ≤ hi') : OwnAt lo' hi' w q n L Z :=
  { h with rng := fun g => by have := h.rng g; omega, rrng := fun i hi0 hl => by have := h.rrng i hi0 hl; omega }
/-- One number rewritten. -/
theorem OwnAt.set {lo hi : Nat} {w : World} {q : Place} {n : Nat} {L : Nat → Nat} {Z : Nat → Nat → Int} (h : OwnAt lo hi w q n L Z) {i j : Nat} (hi' : i < n) (hj : j < L i) (x : Int) :
    OwnAt lo hi (w.setCell ⟨q.B i, q.O i + j, none⟩ (.int .i64 x)) q n L (fun i' j' => if i' = i ∧ j' = j then x else Z i' j') := by
  refine (h.wrote hi' ((Wrote.refl (q.B i) (q.O i) (L i) w).set hj (.int .i64 x)) (fun j' => if j' = j then x else Z i j') (fun j' hj' => ?_)).congr (fun i' _ j' _ => ?_)
  · by_cases e : j' = j
    · subst e; rw [if_pos rfl]; exact World.cell?_setCell_same w _ _ (h.cell i hi' j' hj)
    · rw [if_neg e]; exact (World.cell?_setCell_other _ _ _ _ (fun e2 => e (by injection e2 with _ e3; omega))).trans (h.cell i hi' j' hj')
  · by_cases e : i' = i
    · subst e; simp
    · simp [e]

/-- A matrix of one's own, told by its rows. -/
def OwnM (lo hi : Nat) (w : World) (a : Option Addr) (m : List (List Int)) : Prop :=
  m = [] ∨ ∃ q : Place, a = some ⟨q.b, q.o, none⟩ ∧ OwnAt lo hi w q m.length (fun i => (rw' m i).length) (at' m)
/-- A list of one's own. -/
def OwnR (lo hi : Nat) (w : World) (a : Option Addr) (zs : List Int) : Prop :=
  zs = [] ∨ ∃ b o : Nat, a = some ⟨b, o, none⟩ ∧ lo ≤ b ∧ b < hi ∧ ∀ j, j < zs.length → w.cell? ⟨b, o + j, none⟩ = some (.int .i64 (zs.getD j 0)) ∧ w.frozen? ⟨b, o + j, none⟩ = false
theorem OwnM.same {lo hi : Nat} {w w' : World} {a : Option Addr} {m : List (List Int)} (h : OwnM lo hi w a m) (k : Same lo hi w w') : OwnM lo hi w' a m := by
  rcases h with h | ⟨q, ha, h⟩
  · exact .inl h
  · exact .inr ⟨q, ha, h.same k⟩
theorem OwnM.below {B lo hi : Nat} {w w' : World} {a : Option Addr} {m : List (List Int)} (h : OwnM lo hi w a m) (k : Below B w w') (hB : hi ≤ B) : OwnM lo hi w' a m := h.same (same_below k hB)
theorem OwnM.mono {lo hi lo' hi' : Nat} {w : World} {a : Option Addr} {m : List (List Int)} (h : OwnM lo hi w a m) (k0 : lo' ≤ lo) (k1 : hi ≤ hi') : OwnM lo' hi' w a m := by
  rcases h with h | ⟨q, ha, h⟩
  · exact .inl h
  · exact .inr ⟨q, ha, h.mono k0 k1⟩
theorem OwnR.same {lo hi : Nat} {w w' : World} {a : Option Addr} {zs : List Int} (h : OwnR lo hi w a zs) (k : Same lo hi w w') : OwnR lo hi w' a zs := by
  rcases h with h | ⟨b, o, ha, h0, h1, hc⟩
  · exact .inl h
  · exact .inr ⟨b, o, ha, h0, h1, fun j hj => ⟨(k.cell (p := ⟨b, o + j, none⟩) h0 h1).trans (hc j hj).1, (k.frozen (p := ⟨b, o + j, none⟩) h0 h1).trans (hc j hj).2⟩⟩
theorem OwnR.below {B lo hi : Nat} {w w' : World} {a : Option Addr} {zs : List Int} (h : OwnR lo hi w a zs) (k : Below B w w') (hB : hi ≤ B) : OwnR lo hi w' a zs := h.same (same_below k hB)
theorem OwnR.row {lo hi : Nat} {w : World} {a : Option Addr} {zs : List Int} (h : OwnR lo hi w a zs) : RowIn lo hi w a zs := by
  rcases h with h | ⟨b, o, ha, h0, h1, hc⟩
  · exact .inl h
  · exact .inr ⟨b, o, ha, h0, h1, fun j hj => (hc j hj).1⟩
theorem OwnM.mat {lo hi : Nat} {w : World} {a : Option Addr} {m : List (List Int)} (h : OwnM lo hi w a m) : MatIn lo hi w a m := by
  rcases h with h | ⟨q, ha, h⟩
  · exact .inl h
  · by_cases h0 : 0 < m.length
    · refine .inr ⟨q.b, q.o, ha, (h.rng h0).1, (h.rng h0).2, fun i hi => ⟨q.R i, q.C i, h.top i hi, ?_⟩⟩
      by_cases hl : (rw' m i).length = 0
      · exact .inl (List.eq_nil_of_length_eq_zero hl)
      · exact .inr ⟨q.B i, q.O i, (h.row i hi).resolve_left hl, (h.rrng i hi (by omega)).1, (h.rrng i hi (by omega)).2, fun j hj => h.cell i hi j hj⟩
    · exact .inl (List.eq_nil_of_length_eq_zero (by omega))

/-! ### Sizes -/
theorem row_ext {z z' : List Int} (hl : z.length = z'.length) (h : ∀ i, i < z.length → z.getD i 0 = z'.getD i 0) : z = z' := by
  apply List.ext_getElem hl
  intro i h1 h2
  have := h i h1
  simpa [h1, h2] using this

end Go.Proofs.Ytcamegdjdjacpaa

namespace Go.Proofs.Ytcamegdjdjacpaa
set_option linter.unusedVariables false

/-- A list made of a function. -/
def mkR (c : Nat) (f : Nat → Int) : List Int := (List.range c).map f
/-- A matrix made of a function. -/
def mk (n c : Nat) (f : Nat → Nat → Int) : List (List Int) := (List.range n).map fun i => mkR c (f i)
theorem mkR_len (c : Nat) (f : Nat → Int) : (mkR c f).length = c := by simp [mkR]
theorem mkR_at {c : Nat} (f : Nat → Int) {j : Nat} (h : j < c) : (mkR c f).getD j 0 = f j := by simp [mkR, List.getD, h]
theorem mk_len (n c : Nat) (f : Nat → Nat → Int) : (mk n c f).length = n := by simp [mk]
theorem mkR_congr {c : Nat} {f g : Nat → Int} (h : ∀ j, j < c → f j = g j) : mkR c f = mkR c g := by
  unfold mkR; apply List.map_congr_left; intro j hj; exact h j (List.mem_range.1 hj)
theorem mkR_self (z : List Int) : mkR z.length (fun j => z.getD j 0) = z := by
  apply row_ext (by rw [mkR_len])
  intro j hj
  rw [mkR_at _ (by rwa [mkR_len] at hj)]

/-- A sum of the first n. -/
def sm : Nat → (Nat → Int) → Int
  | 0, _ => 0
  | n + 1, f => sm n f + f n
theorem sm_congr {n : Nat} {f g : Nat → Int} (h : ∀ j, j < n → f j = g j) : sm n f = sm n g := by
  induction n with
  | zero => rfl
  | succ n ih => simp only [sm]; rw [ih (fun j hj => h j (by omega)), h n (by omega)]
theorem sm_add (n : Nat) (f g : Nat → Int) : sm n (fun j => f j + g j) = sm n f + sm n g := by
  induction n with
  | zero => rfl
  | succ n ih => simp only [sm]; rw [ih]; omega
theorem sm_mul (n : Nat) (c : Int) (f : Nat → Int) : sm n (fun j => c * f j) = c * sm n f := by
  induction n with
  | zero => simp [sm]
  | succ n ih => simp only [sm]; rw [ih, Int.mul_add]
theorem sm_zero (n : Nat) : sm n (fun _ => 0) = 0 := by
  induction n with
  | zero => rfl
  | succ n ih => simp only [sm]; rw [ih]; rfl
theorem sm_single (n k : Nat) (x : Int) : sm n (fun j => if j = k then x else 0) = if k < n then x else 0 := by
  induction n with
  | zero => rfl
  | succ n ih =>
    simp only [sm]; rw [ih]
    by_cases h : n = k
    · subst h; rw [if_neg (by omega), if_pos rfl, if_pos (by omega)]; omega
    · rw [if_neg h]
      by_cases k' : k < n
      · rw [if_pos k', if_pos (by omega)]; omega
      · rw [if_neg k', if_neg (by omega)]; omega
theorem sm_swap (n m : Nat) (f : Nat → Nat → Int) : sm n (fun i => sm m (fun j => f i j)) = sm m (fun j => sm n (fun i => f i j)) := by
  induction n with
  | zero => simp only [sm]; rw [sm_zero]
  | succ n ih => simp only [sm]; rw [ih, ← sm_add]
theorem sm_mod (n : Nat) (p : Int) (f : Nat → Int) : sm n (fun j => f j % p) % p = sm n f % p := by
  induction n with
  | zero => rfl
  | succ n ih => simp only [sm]; rw [Int.add_emod, ih, Int.emod_emod, ← Int.add_emod]
theorem sm_bd {n : Nat} {f : Nat → Int} {b : Int} (h : ∀ j, j < n → 0 ≤ f j ∧ f j ≤ b) : 0 ≤ sm n f ∧ sm n f ≤ n * b := by
  induction n with
  | zero => simp [sm]
  | succ n ih =>
    have h1 := ih (fun j hj => h j (by omega))
    have h2 := h n (by omega)
    simp only [sm]
    have e : ((n + 1 : Nat) : Int) * b = n * b + b := by rw [Int.natCast_add, Int.add_mul]; simp
    rw [e]; omega

/-! ### Matrices of chapter 2 -/
/-- What is known of a list of vectors. -/
structure Lst (n : Nat) (p : Int) (m : List (List Int)) : Prop where
  prime : prm p = true
  lo : n ≤ m.length
  hi : m.length ≤ 16
  len : ∀ i, i < m.length → (rw' m i).length = (rw' m 0).length
  c0 : ∀ i, i < m.length → 1 ≤ (rw' m i).length
  c1 : ∀ i, i < m.length → (rw' m i).length ≤ 16
  all : ∀ i, i < m.length → (rw' m i).all (inr p) = true
theorem mem_row {m : List (List Int)} {i : Nat} (h : i < m.length) : rw' m i ∈ m := by simp [rw', List.getD, h]
theorem Lst.cols {n : Nat} {p : Int} {m : List (List Int)} (h : Lst n p m) {i : Nat} (hi : i < m.length) : (rw' m i).length = (rw' m 0).length := h.len i hi
theorem Lst.at {n : Nat} {p : Int} {m : List (List Int)} (h : Lst n p m) {i j : Nat} (hi : i < m.length) (hj : j < (rw' m 0).length) : 0 ≤ at' m i j ∧ at' m i j < p := by
  have ha := h.all i hi
  rw [List.all_eq_true] at ha
  have hl : j < (rw' m i).length := by rw [h.len i hi]; exact hj
  exact inr_iff.1 (ha _ (by unfold at'; rw [getD_at hl]; exact List.getElem_mem hl))

end Go.Proofs.Ytcamegdjdjacpaa

namespace Go.Proofs.Ytcamegdjdjacpaa
open Go.RowKit Go.ChangeShapes Go.WideShapes
set_option linter.unusedVariables false

theorem info64 : (Try.prog.info? 2).map (fun i => (i.zero, i.size, i.bytes)) = some (some (.int .i64 0), 1, 8) := by kernel_rfl

/-- What has been copied so far. -/
structure Half (w : World) (b i : Nat) (zs : List Int) : Prop where
  lt : b < w.heap.size
  done : ∀ j, j < i → w.cell? ⟨b, j, none⟩ = some (.int .i64 (zs.getD j 0))
  rest : ∀ j, i ≤ j → j < zs.length → w.cell? ⟨b, j, none⟩ = some (.int .i64 0)
  free : ∀ j, w.frozen? ⟨b, j, none⟩ = false
theorem Half.start (w : World) (zs : List Int) (t : TypeId) : Half (w.alloc (.cells (madeCells #[.int .i64 0] zs.length) t)) w.heap.size 0 zs :=
  ⟨by simp, fun j hj => by omega, fun j _ hj => by
    have h := World.cell?_alloc_new (w := w) (madeCells #[.int .i64 0] zs.length) t j
    rw [h]
    simp [madeCells, hj, Nat.mod_one], fun j => by simp [go_sem]⟩
theorem Half.next {w : World} {b i : Nat} {zs : List Int} (h : Half w b i zs) (hi : i < zs.length) : Half (w.setCell ⟨b, i, none⟩ (.int .i64 (zs.getD i 0))) b (i + 1) zs :=
  ⟨by simpa [World.setCell] using h.lt, fun j hj => by
    by_cases hji : j = i
    · subst hji
      exact World.cell?_setCell_same w _ _ (h.rest j (Nat.le_refl _) hi)
    · exact (World.cell?_setCell_other _ _ _ _ (by first | (simp; done) | (simp; omega))).trans (h.done j (by omega)),
   fun j hj hl => (World.cell?_setCell_other _ _ _ _ (by first | (simp; done) | (simp; omega))).trans (h.rest j (by omega) hl), fun j => by simp [go_sem, h.free]⟩

end Go.Proofs.Ytcamegdjdjacpaa
