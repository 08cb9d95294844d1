/-
  The source that the model draws from: what stays as it is while numbers are drawn.
  No conditions.
-/
import Derived.Test.YtcamegdjdjacpaaBase
import Derived.Deep.Draws
import Derived.WalkKit
namespace Go.Proofs.Ytcamegdjdjacpaa
open Go.RowKit
set_option linter.unusedVariables false

/-- Of what was there, block b alone may have turned. -/
structure Only (b : Nat) (w w' : World) : Prop where
  os : w'.os = w.os
  tape : w'.tape = w.tape
  output : w'.output = w.output
  size : w.heap.size ≤ w'.heap.size
  block : ∀ k, k < w.heap.size → k ≠ b → w'.heap[k]? = w.heap[k]?

theorem Only.refl (b : Nat) (w : World) : Only b w w := ⟨rfl, rfl, rfl, Nat.le_refl _, fun _ _ _ => rfl⟩
theorem Only.trans {b : Nat} {u v w : World} (h : Only b u v) (k : Only b v w) : Only b u w :=
  ⟨k.os.trans h.os, k.tape.trans h.tape, k.output.trans h.output, Nat.le_trans h.size k.size, fun i hi hn => (k.block i (Nat.lt_of_lt_of_le hi h.size) hn).trans (h.block i hi hn)⟩
theorem Only.drew {b : Nat} {u w : World} (h : Only b u w) : Only b u w.drew := ⟨h.os, h.tape, h.output, h.size, h.block⟩
theorem Only.drewN {b : Nat} {u w : World} (h : Only b u w) (n : Nat) : Only b u (w.drewN n) := ⟨h.os, h.tape, h.output, h.size, h.block⟩
theorem Only.alloc {b : Nat} {u w : World} (h : Only b u w) (o : Obj) : Only b u (w.alloc o) :=
  h.trans ⟨rfl, rfl, rfl, by simp, fun k hk _ => Below.heap_alloc _ _ _ hk⟩
theorem Only.setCell {b : Nat} {u w : World} (h : Only b u w) {p : Addr} (hp : p.block = b ∨ u.heap.size ≤ p.block) (x : Value) : Only b u (w.setCell p x) :=
  ⟨h.os, h.tape, h.output, by simpa [World.setCell] using h.size, fun k hk hn => (Below.heap_setCell _ _ _ _ (by rcases hp with hp | hp <;> omega)).trans (h.block k hk hn)⟩
theorem Only.set (b o : Nat) (w : World) (x : Value) : Only b w (w.setCell ⟨b, o, none⟩ x) := (Only.refl b w).setCell (p := ⟨b, o, none⟩) (.inl rfl) x
theorem Only.of_below {b : Nat} {u w : World} (h : Below u.heap.size u w) : Only b u w := ⟨h.os, h.tape, h.output, h.size, fun k hk _ => h.block k hk⟩
theorem Only.step {b : Nat} {u v w : World} (h : Only b u v) (k : Below v.heap.size v w) : Only b u w := h.trans (Only.of_below k)
theorem Only.below {b B : Nat} {u w : World} (h : Only b u w) (hB : B ≤ b) (hs : B ≤ u.heap.size) : Below B u w :=
  ⟨h.os, h.tape, h.output, h.size, fun k hk => h.block k (by omega) (by omega)⟩
theorem Only.cell {b : Nat} {u w : World} (h : Only b u w) {p : Addr} (hp : p.block < u.heap.size) (hn : p.block ≠ b) : w.cell? p = u.cell? p := World.cell?_of_block (w := u) (h.block p.block hp hn)
theorem Only.frozen {b : Nat} {u w : World} (h : Only b u w) {p : Addr} (hp : p.block < u.heap.size) (hn : p.block ≠ b) : w.frozen? p = u.frozen? p := World.frozen?_of_block (w := u) (h.block p.block hp hn)

/-- Bytes that a slice leads to: none, or a row of known cells in a block before b. -/
def Bytes (w : World) (b : Nat) (a : Option Addr) (len : Nat) (zs : List Int) : Prop :=
  len = 0 ∨ ∃ xb xo : Nat, a = some ⟨xb, xo, none⟩ ∧ xb < b ∧ xb < w.heap.size ∧ ∀ i, i < len → (0 ≤ zs.getD i 0 ∧ zs.getD i 0 ≤ 255) ∧ w.cell? ⟨xb, xo + i, none⟩ = some (.int .u8 (zs.getD i 0))
theorem Bytes.only {w w' : World} {b : Nat} {a : Option Addr} {len : Nat} {zs : List Int} (h : Bytes w b a len zs) (ho : Only b w w') : Bytes w' b a len zs := by
  rcases h with h | ⟨xb, xo, ha, hb, hs, hc⟩
  · exact .inl h
  · exact .inr ⟨xb, xo, ha, hb, Nat.lt_of_lt_of_le hs ho.size, fun i hi => ⟨(hc i hi).1, (ho.cell (p := ⟨xb, xo + i, none⟩) hs (by show xb ≠ b; omega)).trans (hc i hi).2⟩⟩

/-- The source at block b: its bytes, how many are used up, its state. -/
structure SrcAt (w : World) (b : Nat) (a : Option Addr) (len cap : Nat) (zs : List Int) (at_ : Nat) (h : Int) : Prop where
  lt : b < w.heap.size
  c0 : w.cell? ⟨b, 0, none⟩ = some (.slice a len cap)
  c1 : w.cell? ⟨b, 1, none⟩ = some (.int .i64 at_)
  c2 : w.cell? ⟨b, 2, none⟩ = some (.int .u64 h)
  f1 : w.frozen? ⟨b, 1, none⟩ = false
  f2 : w.frozen? ⟨b, 2, none⟩ = false
  le : at_ ≤ len
  small : len ≤ 4096
  bytes : Bytes w b a len zs
theorem SrcAt.setH {w : World} {b : Nat} {a : Option Addr} {len cap : Nat} {zs : List Int} {k : Nat} {h : Int} (s : SrcAt w b a len cap zs k h) (H : Int) : SrcAt (w.setCell ⟨b, 2, none⟩ (.int .u64 H)) b a len cap zs k H :=
  ⟨by simpa [World.setCell] using s.lt, (World.cell?_setCell_other _ _ _ _ (by simp)).trans s.c0, (World.cell?_setCell_other _ _ _ _ (by simp)).trans s.c1, by simp [go_sem, s.c2], by simp [go_sem, s.f1], by simp [go_sem, s.f2], s.le, s.small, s.bytes.only (Only.set _ _ _ _)⟩
theorem SrcAt.setAt {w : World} {b : Nat} {a : Option Addr} {len cap : Nat} {zs : List Int} {k : Nat} {h : Int} (s : SrcAt w b a len cap zs k h) (m : Int) (j : Nat) (hj : m = (j : Int)) (hm : j ≤ len) : SrcAt (w.setCell ⟨b, 1, none⟩ (.int .i64 m)) b a len cap zs j h :=
  ⟨by simpa [World.setCell] using s.lt, (World.cell?_setCell_other _ _ _ _ (by simp)).trans s.c0, by subst hj; simp [go_sem, s.c1], (World.cell?_setCell_other _ _ _ _ (by simp)).trans s.c2, by simp [go_sem, s.f1], by simp [go_sem, s.f2], hm, s.small, s.bytes.only (Only.set _ _ _ _)⟩
theorem SrcAt.drewN {w : World} {b : Nat} {a : Option Addr} {len cap : Nat} {zs : List Int} {k : Nat} {h : Int} (s : SrcAt w b a len cap zs k h) (n : Nat) : SrcAt (w.drewN n) b a len cap zs k h :=
  ⟨s.lt, s.c0, s.c1, s.c2, s.f1, s.f2, s.le, s.small, s.bytes.only ((Only.refl _ _).drewN n)⟩
/-- .. in some state. -/
def Src (w : World) (b : Nat) (a : Option Addr) (len cap : Nat) (zs : List Int) : Prop := ∃ (at_ : Nat) (h : Int), SrcAt w b a len cap zs at_ h
theorem Src.below {w w' : World} {b : Nat} {a : Option Addr} {len cap : Nat} {zs : List Int} (h : Src w b a len cap zs) (k : Below w.heap.size w w') : Src w' b a len cap zs := by
  obtain ⟨n, x, lt, c0, c1, c2, f1, f2, le, sm, by_⟩ := h
  exact ⟨n, x, Nat.lt_of_lt_of_le lt k.size, (k.cell (p := ⟨b, 0, none⟩) lt).trans c0, (k.cell (p := ⟨b, 1, none⟩) lt).trans c1, (k.cell (p := ⟨b, 2, none⟩) lt).trans c2, (k.frozen (p := ⟨b, 1, none⟩) lt).trans f1, (k.frozen (p := ⟨b, 2, none⟩) lt).trans f2, le, sm, by_.only (Only.of_below k)⟩
theorem Src.alloc {w : World} {b : Nat} {a : Option Addr} {len cap : Nat} {zs : List Int} (h : Src w b a len cap zs) (o : Obj) : Src (w.alloc o) b a len cap zs :=
  h.below ((Below.refl _ _).alloc (Nat.le_refl _) o)

/-- What a draw does: a number in its range; the source alone has turned. -/
def Drawn (P : Int → Prop) (b : Nat) (a : Option Addr) (len cap : Nat) (zs : List Int) (w : World) (e : Ending) (w' : World) : Prop :=
  ∃ x : Int, e = .returned (.int .i64 x) ∧ P x ∧ Only b w w' ∧ Src w' b a len cap zs

end Go.Proofs.Ytcamegdjdjacpaa
