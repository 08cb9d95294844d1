/-
  What a call leaves as it was, step by step.
  No conditions.
  The source that the model draws from: what stays as it is while numbers are drawn.
  No conditions.
  What the model's draws are: a number in its range.
  Conditions: the source is one, of at most 4096 bytes.
  Plain facts on the five primes and their remainders: powers, inverses, square roots, orders. No Go in sight.
  No conditions.
  What the program's and the model's checks of a prime and of numbers return: contracts of the functions that the laws of chapter 1 call first.
  Conditions: the lists that are checked are rows of cells that are known.
  What the model's check of a prime and of a list of numbers returns, and both checks at the short lists that the functions of chapter 1 build.
  Conditions: the lists are rows of cells that are known.
  What the model's source picks: one of a list.
  Conditions: the source is one, of at most 4096 bytes; the list is a row of known cells in another block.
  The model's source of a code, and what it draws first: a prime or not, numbers or not.
  Conditions: the code is a row of at most 4096 known bytes.
-/
import Derived.Below
import Derived.Deep.Draws
import Derived.WalkKit
import Derived.Test.YtijklpcelbnnjaaGreatRows
import Derived.LoopTactic
import Derived.Lib.Hide
import Derived.BigQuiet
import Derived.Deep.QuietTactic
import Derived.Laws.Bits64
import Derived.Laws.BitsAllLaws
import Derived.RegionTactic
import Derived.Deep.RegionWith
namespace Go.Proofs.YtijklpcelbnnjaaGreat
open Go.RowKit

theorem bcell {W w1 : World} (hb : Below W.heap.size W w1) : (∀ b o, b < W.heap.size → w1.cell? ⟨b, o, none⟩ = W.cell? ⟨b, o, none⟩) ∧ (∀ b o, b < W.heap.size → w1.frozen? ⟨b, o, none⟩ = W.frozen? ⟨b, o, none⟩) :=
  ⟨fun b o h => hb.cell (p := ⟨b, o, none⟩) h, fun b o h => hb.frozen (p := ⟨b, o, none⟩) h⟩

theorem below_step {B : Nat} {w W w1 : World} (h : Below B w W) (hB : B ≤ W.heap.size) (hb : Below W.heap.size W w1) : Below B w w1 := h.trans (hb.mono hB)

end Go.Proofs.YtijklpcelbnnjaaGreat

namespace Go.Proofs.YtijklpcelbnnjaaGreat
open Go.RowKit
set_option linter.unusedVariables false

/-- Of what was there, block b alone may have turned. -/
structure Only (b : Nat) (w w' : World) : Prop where
  os : w'.os = w.os
  tape : w'.tape = w.tape
  output : w'.output = w.output
  size : w.heap.size ≤ w'.heap.size
  block : ∀ k, k < w.heap.size → k ≠ b → w'.heap[k]? = w.heap[k]?

theorem Only.refl (b : Nat) (w : World) : Only b w w := ⟨rfl, rfl, rfl, Nat.le_refl _, fun _ _ _ => rfl⟩
theorem Only.trans {b : Nat} {u v w : World} (h : Only b u v) (k : Only b v w) : Only b u w :=
  ⟨k.os.trans h.os, k.tape.trans h.tape, k.output.trans h.output, Nat.le_trans h.size k.size, fun i hi hn => (k.block i (Nat.lt_of_lt_of_le hi h.size) hn).trans (h.block i hi hn)⟩
theorem Only.drew {b : Nat} {u w : World} (h : Only b u w) : Only b u w.drew := ⟨h.os, h.tape, h.output, h.size, h.block⟩
theorem Only.drewN {b : Nat} {u w : World} (h : Only b u w) (n : Nat) : Only b u (w.drewN n) := ⟨h.os, h.tape, h.output, h.size, h.block⟩
theorem Only.alloc {b : Nat} {u w : World} (h : Only b u w) (o : Obj) : Only b u (w.alloc o) :=
  h.trans ⟨rfl, rfl, rfl, by simp, fun k hk _ => Below.heap_alloc _ _ _ hk⟩
theorem Only.setCell {b : Nat} {u w : World} (h : Only b u w) {p : Addr} (hp : p.block = b ∨ u.heap.size ≤ p.block) (x : Value) : Only b u (w.setCell p x) :=
  ⟨h.os, h.tape, h.output, by simpa [World.setCell] using h.size, fun k hk hn => (Below.heap_setCell _ _ _ _ (by rcases hp with hp | hp <;> omega)).trans (h.block k hk hn)⟩
theorem Only.set (b o : Nat) (w : World) (x : Value) : Only b w (w.setCell ⟨b, o, none⟩ x) := (Only.refl b w).setCell (p := ⟨b, o, none⟩) (.inl rfl) x
theorem Only.of_below {b : Nat} {u w : World} (h : Below u.heap.size u w) : Only b u w := ⟨h.os, h.tape, h.output, h.size, fun k hk _ => h.block k hk⟩
theorem Only.step {b : Nat} {u v w : World} (h : Only b u v) (k : Below v.heap.size v w) : Only b u w := h.trans (Only.of_below k)
theorem Only.below {b B : Nat} {u w : World} (h : Only b u w) (hB : B ≤ b) (hs : B ≤ u.heap.size) : Below B u w :=
  ⟨h.os, h.tape, h.output, h.size, fun k hk => h.block k (by omega) (by omega)⟩
theorem Only.cell {b : Nat} {u w : World} (h : Only b u w) {p : Addr} (hp : p.block < u.heap.size) (hn : p.block ≠ b) : w.cell? p = u.cell? p := World.cell?_of_block (w := u) (h.block p.block hp hn)
theorem Only.frozen {b : Nat} {u w : World} (h : Only b u w) {p : Addr} (hp : p.block < u.heap.size) (hn : p.block ≠ b) : w.frozen? p = u.frozen? p := World.frozen?_of_block (w := u) (h.block p.block hp hn)

/-- Bytes that a slice leads to: none, or a row of known cells in a block before b. -/
def Bytes (w : World) (b : Nat) (a : Option Addr) (len : Nat) (zs : List Int) : Prop :=
  len = 0 ∨ ∃ xb xo : Nat, a = some ⟨xb, xo, none⟩ ∧ xb < b ∧ xb < w.heap.size ∧ ∀ i, i < len → (0 ≤ zs.getD i 0 ∧ zs.getD i 0 ≤ 255) ∧ w.cell? ⟨xb, xo + i, none⟩ = some (.int .u8 (zs.getD i 0))
theorem Bytes.only {w w' : World} {b : Nat} {a : Option Addr} {len : Nat} {zs : List Int} (h : Bytes w b a len zs) (ho : Only b w w') : Bytes w' b a len zs := by
  rcases h with h | ⟨xb, xo, ha, hb, hs, hc⟩
  · exact .inl h
  · exact .inr ⟨xb, xo, ha, hb, Nat.lt_of_lt_of_le hs ho.size, fun i hi => ⟨(hc i hi).1, (ho.cell (p := ⟨xb, xo + i, none⟩) hs (by show xb ≠ b; omega)).trans (hc i hi).2⟩⟩

/-- The source at block b: its bytes, how many are used up, its state. -/
structure SrcAt (w : World) (b : Nat) (a : Option Addr) (len cap : Nat) (zs : List Int) (at_ : Nat) (h : Int) : Prop where
  lt : b < w.heap.size
  c0 : w.cell? ⟨b, 0, none⟩ = some (.slice a len cap)
  c1 : w.cell? ⟨b, 1, none⟩ = some (.int .i64 at_)
  c2 : w.cell? ⟨b, 2, none⟩ = some (.int .u64 h)
  f1 : w.frozen? ⟨b, 1, none⟩ = false
  f2 : w.frozen? ⟨b, 2, none⟩ = false
  le : at_ ≤ len
  small : len ≤ 4096
  bytes : Bytes w b a len zs
theorem SrcAt.setH {w : World} {b : Nat} {a : Option Addr} {len cap : Nat} {zs : List Int} {k : Nat} {h : Int} (s : SrcAt w b a len cap zs k h) (H : Int) : SrcAt (w.setCell ⟨b, 2, none⟩ (.int .u64 H)) b a len cap zs k H :=
  ⟨by simpa [World.setCell] using s.lt, (World.cell?_setCell_other _ _ _ _ (by simp)).trans s.c0, (World.cell?_setCell_other _ _ _ _ (by simp)).trans s.c1, by simp [go_sem, s.c2], by simp [go_sem, s.f1], by simp [go_sem, s.f2], s.le, s.small, s.bytes.only (Only.set _ _ _ _)⟩
theorem SrcAt.setAt {w : World} {b : Nat} {a : Option Addr} {len cap : Nat} {zs : List Int} {k : Nat} {h : Int} (s : SrcAt w b a len cap zs k h) (m : Int) (j : Nat) (hj : m = (j : Int)) (hm : j ≤ len) : SrcAt (w.setCell ⟨b, 1, none⟩ (.int .i64 m)) b a len cap zs j h :=
  ⟨by simpa [World.setCell] using s.lt, (World.cell?_setCell_other _ _ _ _ (by simp)).trans s.c0, by subst hj; simp [go_sem, s.c1], (World.cell?_setCell_other _ _ _ _ (by simp)).trans s.c2, by simp [go_sem, s.f1], by simp [go_sem, s.f2], hm, s.small, s.bytes.only (Only.set _ _ _ _)⟩
theorem SrcAt.drewN {w : World} {b : Nat} {a : Option Addr} {len cap : Nat} {zs : List Int} {k : Nat} {h : Int} (s : SrcAt w b a len cap zs k h) (n : Nat) : SrcAt (w.drewN n) b a len cap zs k h :=
  ⟨s.lt, s.c0, s.c1, s.c2, s.f1, s.f2, s.le, s.small, s.bytes.only ((Only.refl _ _).drewN n)⟩
/-- .. in some state. -/
def Src (w : World) (b : Nat) (a : Option Addr) (len cap : Nat) (zs : List Int) : Prop := ∃ (at_ : Nat) (h : Int), SrcAt w b a len cap zs at_ h
theorem Src.below {w w' : World} {b : Nat} {a : Option Addr} {len cap : Nat} {zs : List Int} (h : Src w b a len cap zs) (k : Below w.heap.size w w') : Src w' b a len cap zs := by
  obtain ⟨n, x, lt, c0, c1, c2, f1, f2, le, sm, by_⟩ := h
  exact ⟨n, x, Nat.lt_of_lt_of_le lt k.size, (k.cell (p := ⟨b, 0, none⟩) lt).trans c0, (k.cell (p := ⟨b, 1, none⟩) lt).trans c1, (k.cell (p := ⟨b, 2, none⟩) lt).trans c2, (k.frozen (p := ⟨b, 1, none⟩) lt).trans f1, (k.frozen (p := ⟨b, 2, none⟩) lt).trans f2, le, sm, by_.only (Only.of_below k)⟩
theorem Src.alloc {w : World} {b : Nat} {a : Option Addr} {len cap : Nat} {zs : List Int} (h : Src w b a len cap zs) (o : Obj) : Src (w.alloc o) b a len cap zs :=
  h.below ((Below.refl _ _).alloc (Nat.le_refl _) o)

/-- What a draw does: a number in its range; the source alone has turned. -/
def Drawn (P : Int → Prop) (b : Nat) (a : Option Addr) (len cap : Nat) (zs : List Int) (w : World) (e : Ending) (w' : World) : Prop :=
  ∃ x : Int, e = .returned (.int .i64 x) ∧ P x ∧ Only b w w' ∧ Src w' b a len cap zs

end Go.Proofs.YtijklpcelbnnjaaGreat

namespace Go.Proofs.YtijklpcelbnnjaaGreat
open Go.RowKit
set_option linter.unusedVariables false

theorem draw_bd (z : Int) : 0 ≤ wrap64 (bits .and .u64 (IntKind.u64.wrap z / 8589934592) 16777215) ∧ wrap64 (bits .and .u64 (IntKind.u64.wrap z / 8589934592) 16777215) ≤ 16777215 := by
  rw [IntKind.wrap_u64]
  have h1 := Int.emod_nonneg z (by decide : (18446744073709551616 : Int) ≠ 0)
  have h2 := Int.emod_lt_of_pos z (by decide : (0 : Int) < 18446744073709551616)
  rw [u64_and _ _ (by omega) (by omega) (by omega) (by omega)]
  have h3 := Nat.and_le_right (n := (z % 18446744073709551616 / 8589934592).toNat) (m := (16777215 : Int).toNat)
  unfold wrap64
  omega

set_option maxHeartbeats 800000 in
theorem next_any (n : Int) (b : Nat) (a : Option Addr) (len cap : Nat) (zs : List Int) (w : World) (hs : Src w b a len cap zs) :
    Calls Tryz.prog 37 #[.pointer (some ⟨b, 0, none⟩), .int .i64 n] w (Drawn (fun x => 1 ≤ n → 0 ≤ x ∧ x < n) b a len cap zs w) := by
  by_cases n1 : 1 ≤ n
  · obtain ⟨k, h, s⟩ := hs
    have S := Lib.hid s
    obtain ⟨lt, c0, c1, c2, f1, f2, le, sm, by_⟩ := s
    obtain ⟨H, hH⟩ : ∃ H, IntKind.u64.wrap (IntKind.u64.wrap (h * 6364136223846793005) + 1442695040888963407) = H := ⟨_, rfl⟩
    obtain ⟨x, hX⟩ : ∃ x, wrap64 (bits .and .u64 (H / 8589934592) 16777215) = x := ⟨_, rfl⟩
    obtain ⟨x0, x1⟩ : 0 ≤ x ∧ x ≤ 16777215 := by rw [← hX, ← hH]; exact draw_bd _
    by_cases hk : k < len
    · rcases by_ with h0 | ⟨xb, xo, rfl, hb, hsz, hc⟩
      · omega
      · obtain ⟨⟨z0, z1⟩, hcell⟩ := hc k hk
        obtain ⟨z, hz⟩ : ∃ z, z = zs.getD k 0 := ⟨_, rfl⟩
        rw [← hz] at hcell z0 z1
        have hne : ¬ b = xb := by omega
        have hm0 := Int.emod_nonneg (x + z) (by omega : n ≠ 0)
        have hm1 := Int.emod_lt_of_pos (x + z) (by omega : 0 < n)
        clear hc hz
        go_enter Tryz.func37, Tryz.ntmps37
        go_wp2
        go_quiet (fail)
        go_wp2
        go_quiet (fail)
        go_wp2
        go_ret
        exact ⟨(x + z) % n, rfl, fun _ => ⟨hm0, hm1⟩, ((Only.set b 2 w _).drewN _).setCell (.inl rfl) _, k + 1, H, ((S.out.setH H).drewN _).setAt _ (k + 1) (by simp) (by omega)⟩
    · have hm0 := Int.emod_nonneg x (by omega : n ≠ 0)
      have hm1 := Int.emod_lt_of_pos x (by omega : 0 < n)
      clear by_
      go_enter Tryz.func37, Tryz.ntmps37
      go_wp2
      go_quiet (fail)
      go_wp2
      go_ret
      exact ⟨x % n, rfl, fun _ => ⟨hm0, hm1⟩, (Only.set b 2 w _).drewN _, k, H, (S.out.setH H).drewN _⟩
  · go_enter Tryz.func37, Tryz.ntmps37
    go_wp2
    go_ret
    exact ⟨0, rfl, fun h => by omega, Only.refl _ _, hs⟩

end Go.Proofs.YtijklpcelbnnjaaGreat

namespace Go.Proofs.YtijklpcelbnnjaaGreat

/-! ### Primes, numbers, codes -/
def prm (p : Int) : Bool := p == 3 || p == 5 || p == 7 || p == 11 || p == 13
def inr (p a : Int) : Bool := decide (0 ≤ a ∧ a < p)
def codeOf (p : Int) (zs : List Int) : Int := if prm p then (if zs.all (inr p) then 0 else 2) else 1

theorem prm_or {p : Int} (h : prm p = true) : p = 3 ∨ p = 5 ∨ p = 7 ∨ p = 11 ∨ p = 13 := by
  simp [prm] at h; omega
theorem prm_not {p : Int} (h : prm p = false) : p ≠ 3 ∧ p ≠ 5 ∧ p ≠ 7 ∧ p ≠ 11 ∧ p ≠ 13 := by
  simp [prm] at h; omega
theorem prm_bd {p : Int} (h : prm p = true) : 3 ≤ p ∧ p ≤ 13 := by
  have := prm_or h; omega
theorem inr_iff {p a : Int} : inr p a = true ↔ 0 ≤ a ∧ a < p := by simp [inr]
theorem inr_not {p a : Int} : inr p a = false ↔ ¬ (0 ≤ a ∧ a < p) := by simp [inr]

theorem code_np {p : Int} {zs : List Int} (h : prm p = false) : codeOf p zs = 1 := by simp [codeOf, h]
theorem code_ok {p : Int} {zs : List Int} (h : prm p = true) (ha : zs.all (inr p) = true) : codeOf p zs = 0 := by simp [codeOf, h, ha]
theorem code_bad {p : Int} {zs : List Int} (h : prm p = true) (ha : zs.all (inr p) = false) : codeOf p zs = 2 := by simp [codeOf, h, ha]
theorem code_cases (p : Int) (zs : List Int) : (prm p = false ∧ codeOf p zs = 1) ∨ (prm p = true ∧ zs.all (inr p) = true ∧ codeOf p zs = 0) ∨ (prm p = true ∧ zs.all (inr p) = false ∧ codeOf p zs = 2) := by
  by_cases h : prm p = true
  · by_cases ha : zs.all (inr p) = true
    · exact .inr (.inl ⟨h, ha, code_ok h ha⟩)
    · have ha' : zs.all (inr p) = false := by simpa using ha
      exact .inr (.inr ⟨h, ha', code_bad h ha'⟩)
  · have h' : prm p = false := by simpa using h
    exact .inl ⟨h', code_np h'⟩
/-! ### All numbers of all primes, by the kernel -/
def every (Q : Int → Int → Bool) : Bool := [3, 5, 7, 11, 13].all fun p : Int => (List.range p.toNat).all fun a => Q p a
theorem every_at {Q : Int → Int → Bool} (h : every Q = true) {p a : Int} (hp : prm p = true) (h0 : 0 ≤ a) (h1 : a < p) : Q p a = true := by
  unfold every at h
  rw [List.all_eq_true] at h
  have h2 := h p (by rcases prm_or hp with rfl | rfl | rfl | rfl | rfl <;> simp)
  rw [List.all_eq_true] at h2
  have h3 := h2 a.toNat (by simp; omega)
  rwa [Int.toNat_of_nonneg h0] at h3
def every2 (Q : Int → Int → Int → Bool) : Bool := every fun p a => (List.range p.toNat).all fun b => Q p a b
theorem every2_at {Q : Int → Int → Int → Bool} (h : every2 Q = true) {p a b : Int} (hp : prm p = true) (h0 : 0 ≤ a) (h1 : a < p) (k0 : 0 ≤ b) (k1 : b < p) : Q p a b = true := by
  have h2 := every_at h hp h0 h1
  rw [List.all_eq_true] at h2
  have h3 := h2 b.toNat (by simp; omega)
  rwa [Int.toNat_of_nonneg k0] at h3

/-! ### Products -/
theorem mul_bd {p a b : Int} (hp : prm p = true) (h0 : 0 ≤ a) (h1 : a < p) (k0 : 0 ≤ b) (k1 : b < p) : 0 ≤ a * b ∧ a * b ≤ 144 := by
  have := every2_at (Q := fun _ a b => decide (0 ≤ a * b ∧ a * b ≤ 144)) (by decide +kernel) hp h0 h1 k0 k1
  simpa using this
theorem mod_bd {p : Int} (hp : prm p = true) (n : Int) : 0 ≤ n % p ∧ n % p < p := by
  have := prm_bd hp
  exact ⟨Int.emod_nonneg _ (by omega), Int.emod_lt_of_pos _ (by omega)⟩

/-! ### Powers and inverses -/
def pw (p a : Int) : Nat → Int
  | 0 => 1
  | k + 1 => pw p a k * a % p
theorem pw_bd {p a : Int} (hp : prm p = true) (k : Nat) : 0 ≤ pw p a k ∧ pw p a k < p := by
  cases k with
  | zero => have := prm_bd hp; simp [pw]; omega
  | succ k => exact mod_bd hp _
def inv (p a : Int) : Int := pw p a (p - 2).toNat
theorem inv_bd {p : Int} (hp : prm p = true) (a : Int) : 0 ≤ inv p a ∧ inv p a < p := pw_bd hp _
theorem inv_pos {p a : Int} (hp : prm p = true) (h0 : 1 ≤ a) (h1 : a < p) : 1 ≤ inv p a := by
  have := every_at (Q := fun p a => decide (1 ≤ a → 1 ≤ inv p a)) (by decide +kernel) hp (by omega) h1
  simpa [h0] using this
theorem inv_iff {p a b : Int} (hp : prm p = true) (h0 : 1 ≤ a) (h1 : a < p) (k0 : 1 ≤ b) (k1 : b ≤ inv p a) : a * b % p = 1 ↔ b = inv p a := by
  have := every2_at (Q := fun p a b => decide (1 ≤ a → 1 ≤ b → b ≤ inv p a → (a * b % p = 1 ↔ b = inv p a))) (by decide +kernel) hp (by omega : 0 ≤ a) h1 (by omega : 0 ≤ b) (by have := inv_bd hp a; omega)
  simp only [decide_eq_true_eq] at this
  exact this h0 k0 k1

/-! ### Square roots: the least one, or -1 -/
def rtF (p a : Int) : Nat → Int → Int
  | 0, _ => -1
  | f + 1, r => if r * r % p = a then r else rtF p a f (r + 1)
def rt (p a : Int) : Int := rtF p a p.toNat 0
/-- Where the search ends. -/
def rtEnd (p a : Int) : Int := if rt p a < 0 then p else rt p a
theorem rt_bd {p a : Int} (hp : prm p = true) (h0 : 0 ≤ a) (h1 : a < p) : -1 ≤ rt p a ∧ rt p a < p := by
  have := every_at (Q := fun p a => decide (-1 ≤ rt p a ∧ rt p a < p)) (by decide +kernel) hp h0 h1
  simpa using this
theorem rtEnd_bd {p a : Int} (hp : prm p = true) (h0 : 0 ≤ a) (h1 : a < p) : 0 ≤ rtEnd p a ∧ rtEnd p a ≤ p := by
  have := rt_bd hp h0 h1
  unfold rtEnd; split <;> omega
theorem rt_iff {p a r : Int} (hp : prm p = true) (h0 : 0 ≤ a) (h1 : a < p) (k0 : 0 ≤ r) (k1 : r < p) (k2 : r ≤ rtEnd p a) : r * r % p = a ↔ r = rt p a := by
  have := every2_at (Q := fun p a r => decide (r ≤ rtEnd p a → (r * r % p = a ↔ r = rt p a))) (by decide +kernel) hp h0 h1 k0 k1
  simp only [decide_eq_true_eq] at this
  exact this k2

/-! ### Orders -/
/-! ### Sums of two squares; primitive numbers -/
def sxF (p a : Int) : Nat → Int → Int
  | 0, x => x
  | f + 1, x => if 0 ≤ rt p ((a - x * x) % p) then x else sxF p a f (x + 1)
def sx (p a : Int) : Int := sxF p a 12 0
end Go.Proofs.YtijklpcelbnnjaaGreat

namespace Go.Proofs.YtijklpcelbnnjaaGreat
open Go.RowKit
set_option linter.unusedVariables false

theorem isPrime_any (p : Int) (w : World) :
    Calls Tryz.prog 114 #[.int .i64 p] w fun e w' => e = .returned (.bool (prm p)) ∧ w = w' := by
  by_cases h : prm p = true
  · rcases prm_or h with rfl | rfl | rfl | rfl | rfl
    all_goals
      clear h
      go_enter Tryz.func114, Tryz.ntmps114
      go_wp2
      go_ret
      exact ⟨rfl, rfl⟩
  · have h' : prm p = false := by simpa using h
    obtain ⟨h1, h2, h3, h4, h5⟩ := prm_not h'
    have H := Lib.hid h'
    clear h h'
    go_enter Tryz.func114, Tryz.ntmps114
    go_wp2
    go_ret
    exact ⟨by rw [H.out]; rfl, rfl⟩

theorem l01Prime_any (p : Int) (w : World) :
    Calls Tryz.prog 102 #[.int .i64 p] w fun e w' => e = .returned (.bool (prm p)) ∧ w = w' := by
  by_cases h : prm p = true
  · rcases prm_or h with rfl | rfl | rfl | rfl | rfl
    all_goals
      clear h
      go_enter Tryz.func102, Tryz.ntmps102
      go_wp2
      go_ret
      exact ⟨rfl, rfl⟩
  · have h' : prm p = false := by simpa using h
    obtain ⟨h1, h2, h3, h4, h5⟩ := prm_not h'
    have H := Lib.hid h'
    clear h h'
    go_enter Tryz.func102, Tryz.ntmps102
    go_wp2
    go_ret
    exact ⟨rfl, rfl⟩

theorem l01In_yes (n lo hi : Int) (w : World) (h : lo ≤ n) (k : n ≤ hi) :
    Calls Tryz.prog 103 #[.int .i64 n, .int .i64 lo, .int .i64 hi] w fun e w' => e = .returned (.bool true) ∧ w = w' := by
  go_enter Tryz.func103, Tryz.ntmps103
  go_wp2
  go_ret
  exact ⟨rfl, rfl⟩
theorem l01In_no (n lo hi : Int) (w : World) (h : ¬ (lo ≤ n ∧ n ≤ hi)) :
    Calls Tryz.prog 103 #[.int .i64 n, .int .i64 lo, .int .i64 hi] w fun e w' => e = .returned (.bool false) ∧ w = w' := by
  by_cases h1 : lo ≤ n
  · have h2 : ¬ n ≤ hi := fun k => h ⟨h1, k⟩
    clear h
    go_enter Tryz.func103, Tryz.ntmps103
    go_wp2
    go_ret
    exact ⟨rfl, rfl⟩
  · clear h
    go_enter Tryz.func103, Tryz.ntmps103
    go_wp2
    go_ret
    exact ⟨rfl, rfl⟩

/-- A row of integers that a slice leads to. -/
def RowAt (w : World) (b : Nat) (zs : List Int) : Prop := ∀ i, i < zs.length → w.cell? ⟨b, i, none⟩ = some (.int .i64 (zs.getD i 0))

theorem getD_at {zs : List Int} {k : Nat} (h : k < zs.length) : zs.getD k 0 = zs[k] := by simp [h]
theorem all_take_succ {p x : Int} {zs : List Int} {k : Nat} (h : k < zs.length) (hx : x = zs.getD k 0) : (zs.take (k + 1)).all (inr p) = ((zs.take k).all (inr p) && inr p x) := by
  rw [List.take_succ_eq_append_getElem h, List.all_append, hx, getD_at h]
  simp
theorem all_false_of {p x : Int} {zs : List Int} {k : Nat} (h : k < zs.length) (hx : x = zs.getD k 0) (hf : inr p x = false) : zs.all (inr p) = false := by
  rw [List.all_eq_false]
  refine ⟨x, ?_, by simp [hf]⟩
  rw [hx, getD_at h]
  exact List.getElem_mem h

end Go.Proofs.YtijklpcelbnnjaaGreat

namespace Go.Proofs.YtijklpcelbnnjaaGreat
open Go.RowKit
set_option linter.unusedVariables false

theorem Drawn.any {P : Int → Prop} {b : Nat} {a : Option Addr} {len cap : Nat} {zs : List Int} {w w1 w' : World} {e : Ending} (ho : Only b w w1) (h : Drawn P b a len cap zs w1 e w') : Drawn (fun _ => True) b a len cap zs w e w' := by
  obtain ⟨x, he, _, hn, hs⟩ := h
  exact ⟨x, he, trivial, ho.trans hn, hs⟩

theorem pick_any (c m : Nat) (ls : List Int) (b : Nat) (a : Option Addr) (len cap : Nat) (zs : List Int) (w : World) (hs : Src w b a len cap zs) (hrow : RowAt w c ls) (hl : ls.length = m) (m1 : 1 ≤ m) (m2 : m ≤ 1000) (hc : c < w.heap.size) (hne : c ≠ b) :
    Calls Tryz.prog 64 #[.pointer (some ⟨b, 0, none⟩), .slice (some ⟨c, 0, none⟩) m m] w (Drawn (fun _ => True) b a len cap zs w) := by
  have HS := Lib.hid hs
  have HR := Lib.hid hrow
  have HL := Lib.hid hl
  clear hs hrow hl
  go_enter Tryz.func64, Tryz.ntmps64
  go_wp2_with (go_at_call 37; refine (next_any (m : Int) b a len cap zs _ HS.out).mono ?_; rintro e w1 ⟨x, rfl, hx, ho, hs1⟩; obtain ⟨hx0, hx1⟩ := hx (by omega); obtain ⟨j, rfl⟩ := Int.eq_ofNat_of_zero_le hx0; have hcell := (ho.cell (p := ⟨c, j, none⟩) hc hne).trans (HR.out j (by rw [HL.out]; omega)); clear hx)
  go_ret
  exact ⟨_, rfl, trivial, ho, hs1⟩

end Go.Proofs.YtijklpcelbnnjaaGreat

namespace Go.Proofs.YtijklpcelbnnjaaGreat
open Go.RowKit
set_option linter.unusedVariables false

theorem SrcAt.drew {w : World} {b : Nat} {a : Option Addr} {len cap : Nat} {zs : List Int} {k : Nat} {h : Int} (s : SrcAt w b a len cap zs k h) : SrcAt w.drew b a len cap zs k h :=
  ⟨s.lt, s.c0, s.c1, s.c2, s.f1, s.f2, s.le, s.small, s.bytes.only (Only.refl _ _).drew⟩
theorem first_src {w : World} {b : Nat} {a : Option Addr} {len cap : Nat} {zs : List Int} {k : Nat} {h : Int} (s : SrcAt w b a len cap zs k h) (H : Int) : SrcAt (w.setCell ⟨b, 2, none⟩ (.int .u64 H)).drew b a len cap zs k H := (s.setH H).drew
def Made (a : Option Addr) (len cap : Nat) (zs : List Int) (w : World) (e : Ending) (w' : World) : Prop :=
  e = .returned (.pointer (some ⟨w.heap.size, 0, none⟩)) ∧ Below w.heap.size w w' ∧ Src w' w.heap.size a len cap zs

/-- The code as it comes in: none, or a row of known bytes. -/
def Code8 (w : World) (a : Option Addr) (len : Nat) (zs : List Int) : Prop := Bytes w w.heap.size a len zs

set_option maxHeartbeats 1000000 in
set_option maxRecDepth 100000 in
theorem from_any (a : Option Addr) (len cap : Nat) (zs : List Int) (w : World) (hb : Code8 w a len zs) (hl : len ≤ 4096) :
    Calls Tryz.prog 34 #[.slice a len cap] w (Made a len cap zs w) := by
  have HB := Lib.hid hb
  clear hb
  go_enter Tryz.func34, Tryz.ntmps34
  go_wp2
  go_loopw [4] (fun t wr => ∃ i : Nat, i ≤ len ∧ t = .int .i64 i ∧ (∃ h : Int, SrcAt wr w.heap.size a len cap zs 0 h) ∧ Below w.heap.size w wr) (fun t _ => len - (intOf t).toNat)
  case atStart => exact ⟨0, by omega, rfl, ⟨4409 + (len : Int), by simp, by simp [go_sem], by simp [go_sem], by simp [go_sem], by simp [go_sem], by simp [go_sem], Nat.zero_le _, hl, HB.out.only (Only.refl _ _ |>.alloc _)⟩, by ((repeat' (first | with_reducible exact Below.refl _ _ | (with_reducible refine Below.setCell ?_ ?_ _) | (with_reducible refine Below.alloc ?_ ?_ _) | (with_reducible refine Below.drew ?_))); all_goals (first | (simp; done) | omega | (simp; omega)))⟩
  case round =>
    obtain ⟨i, hi, rfl, ⟨h, s⟩, hbel⟩ := hrel
    have S := Lib.hid s
    obtain ⟨lt, c0, c1, c2, f1, f2, le, sm, by_⟩ := s
    by_cases hlt : i < len
    · rcases by_ with h0 | ⟨xb, xo, rfl, hb, hsz, hc⟩
      · omega
      · obtain ⟨⟨z0, z1⟩, hcell⟩ := hc i hlt
        obtain ⟨z, hz⟩ : ∃ z, z = zs.getD i 0 := ⟨_, rfl⟩
        rw [← hz] at hcell z0 z1
        have hne : ¬ w.heap.size = xb := by omega
        clear hc hz
        go_wp2
        go_region
        go_wp2
        go_roundw
        case rel => exact ⟨i + 1, by omega, by go_num, ⟨_, first_src S.out _⟩, by (have hs_hbel := hbel.size; (repeat' (first | with_reducible exact Below.refl _ _ | (with_reducible refine Below.setCell ?_ ?_ _) | (with_reducible refine Below.alloc ?_ ?_ _) | (with_reducible refine Below.drew ?_) | (with_reducible refine below_step ?_ ?_ hbel))); all_goals (first | (simp; done) | omega | (simp; omega) | (simp at hs_hbel ⊢; omega)))⟩
        case measure => simp [intOf]; omega
    · clear by_
      go_wp2
      go_ret
      exact ⟨rfl, hbel, 0, h, S.out⟩

/-- A made source and the rest. -/
theorem Src.step {w w' : World} {b : Nat} {a : Option Addr} {len cap : Nat} {zs : List Int} (h : Src w b a len cap zs) (k : Below w.heap.size w w') : Src w' b a len cap zs := h.below k

theorem rowOf (w : World) (vs : List Int) (t : TypeId) : RowAt (w.alloc (.cells (vs.map (Value.int .i64)).toArray t)) w.heap.size vs := by
  intro i hi
  have h := World.cell?_alloc_new (w := w) (vs.map (Value.int .i64)).toArray t i
  rw [h]
  simp [hi]

theorem drawPrime_any (b : Nat) (a : Option Addr) (len cap : Nat) (zs : List Int) (w : World) (hs : Src w b a len cap zs) :
    Calls Tryz.prog 94 #[.pointer (some ⟨b, 0, none⟩)] w (Drawn (fun _ => True) b a len cap zs w) := by
  have HS := Lib.hid hs
  have hlt : b < w.heap.size := by obtain ⟨k, h, s⟩ := hs; exact s.lt
  clear hs
  go_enter Tryz.func94, Tryz.ntmps94
  go_wp2_with (go_at_call 64; refine (pick_any w.heap.size 8 [3, 5, 7, 11, 13, 3, 5, 7] b a len cap zs _ (HS.out.alloc _) (rowOf w [3, 5, 7, 11, 13, 3, 5, 7] _) rfl (by omega) (by omega) (by simp) (by omega)).mono ?_; rintro e w1 ⟨x, rfl, _, ho, hs1⟩)
  go_ret
  exact ⟨x, rfl, trivial, (Only.refl b w).alloc _ |>.trans ho, hs1⟩

end Go.Proofs.YtijklpcelbnnjaaGreat
