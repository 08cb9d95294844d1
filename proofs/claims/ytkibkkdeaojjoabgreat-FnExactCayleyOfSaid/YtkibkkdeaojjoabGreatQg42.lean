/-
  GradesOf: contracts of the program and of the model.
  Conditions: the lists are nil or rows of known cells, of at most 1048576 numbers.
  slices.Max and slices.Equal of lists of numbers.
  Conditions: rows of known cells, of at most 1048576 numbers.
  Versors: spinor norms, parities, what is around vectors. No Go in sight.
  No conditions.
  Two lists compared: contracts of the program and of the model.
  Conditions: the lists are nil or rows of known cells, of at most 1048576 numbers.
  IsEven: contracts of the program and of the model.
  Conditions: the lists are nil or rows of known cells, of at most 1048576 numbers.
  What is around vectors, parities, numbers of basis vectors (program): contracts of the program and of the model.
  Conditions: the lists are nil or rows of known cells, of at most 1048576 numbers.
  Bivectors: grade tests and checks: contracts of the program and of the model.
  Conditions: the lists are nil or rows of known cells, of at most 1048576 numbers.
  Whether what is around vectors is vectors (program): contracts of the program and of the model.
  Conditions: the lists are nil or rows of known cells, of at most 1048576 numbers.
-/
import Derived.Test.YtkibkkdeaojjoabGreatQg41
import Derived.Test.YtkibkkdeaojjoabGreatQg38
import Derived.Laws.AppendOwn
import Derived.Test.YtkibkkdeaojjoabGreatQg10
import Derived.BigQuiet
import Derived.Test.YtkibkkdeaojjoabGreatQg34
import Derived.ChangeKeysEq
import Derived.Laws.StructEq
import Derived.Deep.RegionHeld3
import Derived.Deep.DeepCutAuto
import Derived.Test.YtkibkkdeaojjoabGreatQg39
import Derived.Test.YtkibkkdeaojjoabGreatQg30
namespace Go.Proofs.YtkibkkdeaojjoabGreat
open Go.RowKit
set_option linter.unusedVariables false

theorem OutR.more {B : Nat} {w1 : World} {v' : Value} {zs ys : List Int} {N : Nat} {X : List Value} {k : Int} (hX : X = zs.map (Value.int .i64)) (hN : N = zs.length) (hs : ys = zs ++ [k]) (h1 : w1.ownsRow B 2 1 v' (N + 1) (X ++ [.int .i64 k])) : OutR B w1 v' ys := by
  subst hs hN hX
  unfold OutR
  rw [List.length_append, List.map_append]
  exact h1
end Go.Proofs.YtkibkkdeaojjoabGreat

namespace Go.Proofs.YtkibkkdeaojjoabGreat
open Go.RowKit
set_option linter.unusedVariables false

/-- The numbers of the basis vectors. -/
def vnF (z : List Int) (i : Nat) : Int := z.getD (2 ^ i) 0
end Go.Proofs.YtkibkkdeaojjoabGreat

namespace Go.Proofs.YtkibkkdeaojjoabGreat
open Go.RowKit
set_option linter.unusedVariables false

/-- The cells of the box of a multivector. -/
def BoxM (g : Nat) (p : Int) (aS : Option Addr) (n cS : Nat) (ax : Option Addr) (l cx : Nat) (W : World) : Prop :=
  W.cell? ⟨g, 0, none⟩ = some (.int .i64 p) ∧ W.cell? ⟨g, 1, none⟩ = some (.slice aS n cS) ∧ W.cell? ⟨g, 2, none⟩ = some (.slice ax l cx)
theorem BoxM.below {g : Nat} {p : Int} {aS ax : Option Addr} {n cS l cx B : Nat} {w w' : World} (h : BoxM g p aS n cS ax l cx w) (hb : Below B w w') (hg : g < B) : BoxM g p aS n cS ax l cx w' :=
  ⟨(hb.cell (p := ⟨g, 0, none⟩) hg).trans h.1, (hb.cell (p := ⟨g, 1, none⟩) hg).trans h.2.1, (hb.cell (p := ⟨g, 2, none⟩) hg).trans h.2.2⟩
theorem BoxM.new (w : World) (p : Int) (aS : Option Addr) (n cS : Nat) (ax : Option Addr) (l cx : Nat) (T : TypeId) : BoxM w.heap.size p aS n cS ax l cx (w.alloc (.cells #[.int .i64 p, .slice aS n cS, .slice ax l cx] T)) :=
  ⟨by simp [go_sem], by simp [go_sem], by simp [go_sem]⟩
/-- The box of a multivector and that of its space. -/
def BoxV (g gs : Nat) (p : Int) (aS : Option Addr) (n cS : Nat) (ax : Option Addr) (l cx : Nat) (W : World) : Prop :=
  W.cell? ⟨g, 0, none⟩ = some (.int .i64 p) ∧ W.cell? ⟨g, 1, none⟩ = some (.slice aS n cS) ∧ W.cell? ⟨g, 2, none⟩ = some (.slice ax l cx) ∧ W.cell? ⟨gs, 0, none⟩ = some (.int .i64 p) ∧ W.cell? ⟨gs, 1, none⟩ = some (.slice aS n cS)
theorem BoxV.below {g gs : Nat} {p : Int} {aS ax : Option Addr} {n cS l cx B : Nat} {w w' : World} (h : BoxV g gs p aS n cS ax l cx w) (hb : Below B w w') (hg : g < B ∧ gs < B) : BoxV g gs p aS n cS ax l cx w' :=
  ⟨(hb.cell (p := ⟨g, 0, none⟩) hg.1).trans h.1, (hb.cell (p := ⟨g, 1, none⟩) hg.1).trans h.2.1, (hb.cell (p := ⟨g, 2, none⟩) hg.1).trans h.2.2.1, (hb.cell (p := ⟨gs, 0, none⟩) hg.2).trans h.2.2.2.1, (hb.cell (p := ⟨gs, 1, none⟩) hg.2).trans h.2.2.2.2⟩
theorem vwrap_pow {i : Nat} (h : i < 6) : IntKind.i64.wrap ((2 : Int) ^ i) = ((2 ^ i : Nat) : Int) := by
  have : i = 0 ∨ i = 1 ∨ i = 2 ∨ i = 3 ∨ i = 4 ∨ i = 5 := by omega
  rcases this with rfl | rfl | rfl | rfl | rfl | rfl <;> exact IntWalk.i64_in _ (by decide)
end Go.Proofs.YtkibkkdeaojjoabGreat

namespace Go.Proofs.YtkibkkdeaojjoabGreat
open Go.RowKit
set_option linter.unusedVariables false

/-- Three live cells of a struct. -/
def W3 (g : Nat) (v0 v1 v2 : Value) (W : World) : Prop :=
  (W.cell? ⟨g, 0, none⟩ = some v0 ∧ W.cell? ⟨g, 1, none⟩ = some v1 ∧ W.cell? ⟨g, 2, none⟩ = some v2) ∧ W.frozen? ⟨g, 0, none⟩ = false ∧ W.frozen? ⟨g, 1, none⟩ = false ∧ W.frozen? ⟨g, 2, none⟩ = false
theorem W3.below {g B : Nat} {v0 v1 v2 : Value} {w w' : World} (h : W3 g v0 v1 v2 w) (b : Below B w w') (l : g < B) : W3 g v0 v1 v2 w' :=
  ⟨⟨(b.cell (p := ⟨g, 0, none⟩) l).trans h.1.1, (b.cell (p := ⟨g, 1, none⟩) l).trans h.1.2.1, (b.cell (p := ⟨g, 2, none⟩) l).trans h.1.2.2⟩, (b.frozen (p := ⟨g, 0, none⟩) l).trans h.2.1, (b.frozen (p := ⟨g, 1, none⟩) l).trans h.2.2.1, (b.frozen (p := ⟨g, 2, none⟩) l).trans h.2.2.2⟩
theorem W3.new (w : World) (v0 v1 v2 : Value) (T : TypeId) : W3 w.heap.size v0 v1 v2 (w.alloc (.cells #[v0, v1, v2] T)) :=
  ⟨⟨by simp [go_sem], by simp [go_sem], by simp [go_sem]⟩, by simp [go_sem], by simp [go_sem], by simp [go_sem]⟩
theorem W3.far {g f : Nat} {v0 v1 v2 : Value} {w : World} (h : W3 g v0 v1 v2 w) (hne : g ≠ f) (k : Nat) (v : Value) : W3 g v0 v1 v2 (w.setCell ⟨f, k, none⟩ v) :=
  ⟨⟨(World.cell?_setCell_other w ⟨f, k, none⟩ ⟨g, 0, none⟩ _ (fun e => hne (by injection e with e1; exact e1.symm))).trans h.1.1, (World.cell?_setCell_other w ⟨f, k, none⟩ ⟨g, 1, none⟩ _ (fun e => hne (by injection e with e1; exact e1.symm))).trans h.1.2.1, (World.cell?_setCell_other w ⟨f, k, none⟩ ⟨g, 2, none⟩ _ (fun e => hne (by injection e with e1; exact e1.symm))).trans h.1.2.2⟩, by have := h.2.1; simp [go_sem, this], by have := h.2.2.1; simp [go_sem, this], by have := h.2.2.2; simp [go_sem, this]⟩
def wput3 (g : Nat) (v0 v1 v2 : Value) (W : World) : World := ((W.setCell ⟨g, 0, none⟩ v0).setCell ⟨g, 1, none⟩ v1).setCell ⟨g, 2, none⟩ v2
theorem below_wput3 {B g : Nat} {w w' : World} {v0 v1 v2 : Value} (h : Below B w w') (hg : B ≤ g) : Below B w (wput3 g v0 v1 v2 w') := ((h.setCell hg _).setCell hg _).setCell hg _

/-- The cells of a bivector at a place. -/
def BvAt (Q : Option Addr → Nat → Prop) (g o : Nat) (p : Int) (aS : Option Addr) (S : List Int) (cS : Nat) (x : List Int) (W : World) : Prop :=
  ∃ (ax : Option Addr) (cx : Nat), Q ax cx ∧ (W.cell? ⟨g, o, none⟩ = some (.int .i64 p) ∧ W.cell? ⟨g, o + 1, none⟩ = some (.slice aS S.length cS) ∧ W.cell? ⟨g, o + 2, none⟩ = some (.slice ax x.length cx))
theorem BvAt.below {Q : Option Addr → Nat → Prop} {g o B : Nat} {p : Int} {aS : Option Addr} {S : List Int} {cS : Nat} {x : List Int} {w w' : World} (h : BvAt Q g o p aS S cS x w) (b : Below B w w') (l : g < B) : BvAt Q g o p aS S cS x w' := by
  obtain ⟨ax, cx, hQ, h0, h1, h2⟩ := h
  exact ⟨ax, cx, hQ, (b.cell (p := ⟨g, o, none⟩) l).trans h0, (b.cell (p := ⟨g, o + 1, none⟩) l).trans h1, (b.cell (p := ⟨g, o + 2, none⟩) l).trans h2⟩
def F3 (g o : Nat) (W : World) : Prop :=
  (W.cell? ⟨g, o, none⟩ = some (.int .i64 0) ∧ W.cell? ⟨g, o + 1, none⟩ = some (.slice none 0 0) ∧ W.cell? ⟨g, o + 2, none⟩ = some (.slice none 0 0)) ∧ W.frozen? ⟨g, o, none⟩ = false ∧ W.frozen? ⟨g, o + 1, none⟩ = false ∧ W.frozen? ⟨g, o + 2, none⟩ = false
theorem F3.below {g o B : Nat} {w w' : World} (h : F3 g o w) (b : Below B w w') (l : g < B) : F3 g o w' :=
  ⟨⟨(b.cell (p := ⟨g, o, none⟩) l).trans h.1.1, (b.cell (p := ⟨g, o + 1, none⟩) l).trans h.1.2.1, (b.cell (p := ⟨g, o + 2, none⟩) l).trans h.1.2.2⟩, (b.frozen (p := ⟨g, o, none⟩) l).trans h.2.1, (b.frozen (p := ⟨g, o + 1, none⟩) l).trans h.2.2.1, (b.frozen (p := ⟨g, o + 2, none⟩) l).trans h.2.2.2⟩
theorem F3.made (w : World) (n : Nat) (t : TypeId) {i : Nat} (hi : i < n) : F3 w.heap.size (i * 3) (w.alloc (.cells (madeCells #[.int .i64 0, .slice none 0 0, .slice none 0 0] (n * 3)) t)) := by
  have key : ∀ j, j < 3 → (w.alloc (.cells (madeCells #[.int .i64 0, .slice none 0 0, .slice none 0 0] (n * 3)) t)).cell? ⟨w.heap.size, i * 3 + j, none⟩ = some ((#[Value.int .i64 0, .slice none 0 0, .slice none 0 0] : Array Value)[j]!) := fun j hj => by
    rw [World.cell?_alloc_new]
    have h1 : i * 3 + j < n * 3 := by omega
    have h2 : (i * 3 + j) % 3 = j := by omega
    simp [madeCells, h1, h2]
  exact ⟨⟨key 0 (by omega), key 1 (by omega), key 2 (by omega)⟩, by simp [go_sem]⟩
def BvN (C : Int) (w : World) (e : Ending) (w' : World) : Prop := e = .returned (.tuple #[.agg #[.int .i64 0, .slice none 0 0, .slice none 0 0], .int .i64 C]) ∧ Below w.heap.size w w'
end Go.Proofs.YtkibkkdeaojjoabGreat

namespace Go.Proofs.YtkibkkdeaojjoabGreat
open Go.RowKit
set_option linter.unusedVariables false

set_option maxRecDepth 100000 in
set_option maxHeartbeats 3200000 in
theorem vectorNumbers_any (pS : Int) (aS : Option Addr) (S : List Int) (cS loS tpS : Nat) (az : Option Addr) (z : List Int) (cz loz tpz : Nat) (w : World) (hs : isSp pS S = true) (hS : RowIn loS tpS w aS S) (tS : tpS ≤ w.heap.size) (hz : RowIn loz tpz w az z) (tz : tpz ≤ w.heap.size) (lz : z.length = bl S) :
    Calls Tryz.prog 108 #[.agg #[.int .i64 pS, .slice aS S.length cS], .slice az z.length cz] w (NewRow S.length (vnF z) w) := by
  have HS := Lib.hid hS
  have HZ := Lib.hid hz
  have HLZ := Lib.hid lz
  have h6 := (isSp_iff.1 hs).hi
  have hl1 := (isSp_iff.1 hs).lo
  have HMK := Lib.hid (fun W => run_make_row' (P := Tryz.prog) 22 2 (.int .i64 0) 8 Tryz.underlying22 info64 rfl .i64 .i64 S.length (by omega) (by omega) W)
  have HB0 := Lib.hid (below_alloc w (.cells #[.int .i64 pS, .slice aS S.length cS] 29))
  have k0 := nw0 w (.int .i64 pS) (.slice aS S.length cS) 29
  have k1 := nw1 w (.int .i64 pS) (.slice aS S.length cS) 29
  clear hs hS hz lz
  go_enter Tryz.func108, Tryz.ntmps108
  go_upto_region 1 with fail
  obtain ⟨w1, hw1⟩ : ∃ z, z = w.alloc (.cells #[.int .i64 pS, .slice aS S.length cS] 29) := ⟨_, rfl⟩
  rw [← hw1] at HB0 k0 k1 ⊢
  have hw0 : w.heap.size < w1.heap.size := by rw [hw1]; simp
  clear hw1
  have hmk := HMK.out w1
  go_upto_region 2 with fail
  obtain ⟨W1, hW1⟩ : ∃ W1, W1 = w1.alloc (.cells (madeCells #[.int .i64 0] S.length) 2) := ⟨_, rfl⟩
  obtain ⟨g, hg⟩ : ∃ b, b = w1.heap.size := ⟨_, rfl⟩
  have HO1 : Hid (RowOwn W1 g 0 S.length (fun _ => 0)) := by show RowOwn _ _ _ _ _; rw [hW1, hg]; exact RowOwn.start w1 S.length _
  have HBW : Hid (Below w.heap.size w W1) := by show Below _ _ _; rw [hW1]; exact HB0.out.alloc HB0.out.size _
  have hu1 : g < W1.heap.size := by rw [hW1, hg]; simp
  have hwg : w.heap.size < g := by omega
  rw [← hW1, ← hg]
  clear hmk hW1 hg k0 k1
  go_wp2
  go_loopw [13] (fun t wr => ∃ i : Nat, i ≤ S.length ∧ t = .int .i64 i ∧ RowOwn wr g 0 S.length (fun j => if j < i then vnF z j else 0) ∧ Wrote g 0 S.length W1 wr) (fun t _ => S.length - (intOf t).toNat)
  case atStart => exact ⟨0, Nat.zero_le _, rfl, HO1.out.congr (fun j _ => (if_neg (Nat.not_lt_zero j)).symm), Wrote.refl _ _ _ _⟩
  case round =>
    obtain ⟨i, hi, rfl, hr, hw⟩ := hrel
    have HR := Lib.hid hr
    have HW := Lib.hid hw
    by_cases hlt : i < S.length
    · have hi6 : i < 6 := by omega
      obtain ⟨q, hq⟩ : ∃ q, q = 2 ^ i := ⟨_, rfl⟩
      have HQ := Lib.hid hq
      have hqn : q < z.length := by rw [hq, HLZ.out]; exact Nat.pow_lt_pow_right (by decide) hlt
      obtain ⟨b2, o2, ha2, l2, t2, hc2⟩ := ((HZ.out.below HBW.out tz).same (hw.same (Or.inr (Nat.le_trans tz (Nat.le_of_lt hwg))))).num hqn
      subst ha2
      have c0 := hr.cell i hlt
      have f0 := hr.free i hlt
      rw [Nat.zero_add] at c0 f0
      rw [if_neg (Nat.lt_irrefl i)] at c0
      have hi1 : (i : Int) < (S.length : Int) := by omega
      have e1 : wrap64 ((2 : Int) ^ i) = (q : Int) := by rw [hq]; exact wrap_pow hi6
      have e2 : IntKind.i64.wrap ((2 : Int) ^ i) = (q : Int) := by rw [hq]; exact vwrap_pow hi6
      have hq1 : (q : Int) < (z.length : Int) := Int.ofNat_lt.2 hqn
      clear hr hw hq
      go_wp2
      go_roundw
      case rel => exact ⟨i + 1, by omega, by go_num, row_put0 HR.out hlt (fun j _ => by
        by_cases e : j = i
        · subst e; rw [if_pos rfl, if_pos (Nat.lt_succ_self _)]; show _ = z.getD (2 ^ j) 0; rw [← HQ.out]; exact (getD_at hqn).symm
        · rw [if_neg e]
          by_cases e3 : j < i
          · rw [if_pos e3, if_pos (by omega)]
          · rw [if_neg e3, if_neg (by omega)]), wrote_put0 HW.out hlt _⟩
      case measure => simp [intOf]; omega
    · have hn : i = S.length := by omega
      subst hn
      have HN : Hid (RowOwn wr g 0 S.length (vnF z)) := hr.congr (fun j hj => if_pos hj)
      have hzw : wr.heap.size = W1.heap.size := hw.size
      clear hr hw
      go_wp2
      go_ret
      exact ⟨g, rfl, Nat.le_of_lt hwg, by rw [hzw]; exact hu1, HN.out, HBW.out.trans (HW.out.belowB (Nat.le_of_lt hwg))⟩

theorem vectorNumbers_n (pS : Int) (aS : Option Addr) (S : List Int) (cS loS tpS : Nat) (az : Option Addr) (z : List Int) (cz loz tpz : Nat) (w : World) (hs : isSp pS S = true) (hS : RowIn loS tpS w aS S) (tS : tpS ≤ w.heap.size) (hz : RowIn loz tpz w az z) (tz : tpz ≤ w.heap.size) (lz : z.length = bl S) :
    Calls Tryz.prog 108 #[.agg #[.int .i64 pS, .slice aS S.length cS], .slice az (bl S) cz] w (NewRow S.length (vnF z) w) := by
  have q := vectorNumbers_any pS aS S cS loS tpS az z cz loz tpz w hs hS tS hz tz lz
  rw [lz] at q
  exact q

end Go.Proofs.YtkibkkdeaojjoabGreat
