/-
  GradesOf: contracts of the program and of the model.
  Conditions: the lists are nil or rows of known cells, of at most 1048576 numbers.
  slices.Max and slices.Equal of lists of numbers.
  Conditions: rows of known cells, of at most 1048576 numbers.
  Versors: spinor norms, parities, what is around vectors. No Go in sight.
  No conditions.
  Two lists compared: contracts of the program and of the model.
  Conditions: the lists are nil or rows of known cells, of at most 1048576 numbers.
  IsEven: contracts of the program and of the model.
  Conditions: the lists are nil or rows of known cells, of at most 1048576 numbers.
  What is around vectors, parities, numbers of basis vectors (program): contracts of the program and of the model.
  Conditions: the lists are nil or rows of known cells, of at most 1048576 numbers.
  Bivectors: grade tests and checks: contracts of the program and of the model.
  Conditions: the lists are nil or rows of known cells, of at most 1048576 numbers.
  What the program's and the model's checks of lists of numbers, matrices and lists of vectors return.
  Conditions: they are nil or rows of known cells.
-/
import Derived.Test.YtkibkkdeaojjoaaQe17
import Derived.Test.YtkibkkdeaojjoaaQe12
import Derived.Laws.AppendOwn
import Derived.Test.YtkibkkdeaojjoaaQe8
import Derived.BigQuiet
import Derived.Test.YtkibkkdeaojjoaaQe7
import Derived.ChangeKeysEq
import Derived.Laws.StructEq
import Derived.Test.YtkibkkdeaojjoaaQe13
import Derived.Deep.RegionHeld3
import Derived.Deep.DeepCutAuto
import Derived.Test.YtkibkkdeaojjoaaQe15
import Derived.Test.YtkibkkdeaojjoaaQe5
namespace Go.Proofs.Ytkibkkdeaojjoaa
open Go.RowKit
set_option linter.unusedVariables false

theorem OutR.more {B : Nat} {w1 : World} {v' : Value} {zs ys : List Int} {N : Nat} {X : List Value} {k : Int} (hX : X = zs.map (Value.int .i64)) (hN : N = zs.length) (hs : ys = zs ++ [k]) (h1 : w1.ownsRow B 2 1 v' (N + 1) (X ++ [.int .i64 k])) : OutR B w1 v' ys := by
  subst hs hN hX
  unfold OutR
  rw [List.length_append, List.map_append]
  exact h1
end Go.Proofs.Ytkibkkdeaojjoaa

namespace Go.Proofs.Ytkibkkdeaojjoaa
open Go.RowKit
set_option linter.unusedVariables false

/-- The numbers of the basis vectors. -/
def vnF (z : List Int) (i : Nat) : Int := z.getD (2 ^ i) 0
end Go.Proofs.Ytkibkkdeaojjoaa

namespace Go.Proofs.Ytkibkkdeaojjoaa
open Go.RowKit
set_option linter.unusedVariables false

/-- The cells of the box of a multivector. -/
def BoxM (g : Nat) (p : Int) (aS : Option Addr) (n cS : Nat) (ax : Option Addr) (l cx : Nat) (W : World) : Prop :=
  W.cell? ⟨g, 0, none⟩ = some (.int .i64 p) ∧ W.cell? ⟨g, 1, none⟩ = some (.slice aS n cS) ∧ W.cell? ⟨g, 2, none⟩ = some (.slice ax l cx)
theorem BoxM.below {g : Nat} {p : Int} {aS ax : Option Addr} {n cS l cx B : Nat} {w w' : World} (h : BoxM g p aS n cS ax l cx w) (hb : Below B w w') (hg : g < B) : BoxM g p aS n cS ax l cx w' :=
  ⟨(hb.cell (p := ⟨g, 0, none⟩) hg).trans h.1, (hb.cell (p := ⟨g, 1, none⟩) hg).trans h.2.1, (hb.cell (p := ⟨g, 2, none⟩) hg).trans h.2.2⟩
theorem BoxM.new (w : World) (p : Int) (aS : Option Addr) (n cS : Nat) (ax : Option Addr) (l cx : Nat) (T : TypeId) : BoxM w.heap.size p aS n cS ax l cx (w.alloc (.cells #[.int .i64 p, .slice aS n cS, .slice ax l cx] T)) :=
  ⟨by simp [go_sem], by simp [go_sem], by simp [go_sem]⟩
/-- The box of a multivector and that of its space. -/
def BoxV (g gs : Nat) (p : Int) (aS : Option Addr) (n cS : Nat) (ax : Option Addr) (l cx : Nat) (W : World) : Prop :=
  W.cell? ⟨g, 0, none⟩ = some (.int .i64 p) ∧ W.cell? ⟨g, 1, none⟩ = some (.slice aS n cS) ∧ W.cell? ⟨g, 2, none⟩ = some (.slice ax l cx) ∧ W.cell? ⟨gs, 0, none⟩ = some (.int .i64 p) ∧ W.cell? ⟨gs, 1, none⟩ = some (.slice aS n cS)
theorem BoxV.below {g gs : Nat} {p : Int} {aS ax : Option Addr} {n cS l cx B : Nat} {w w' : World} (h : BoxV g gs p aS n cS ax l cx w) (hb : Below B w w') (hg : g < B ∧ gs < B) : BoxV g gs p aS n cS ax l cx w' :=
  ⟨(hb.cell (p := ⟨g, 0, none⟩) hg.1).trans h.1, (hb.cell (p := ⟨g, 1, none⟩) hg.1).trans h.2.1, (hb.cell (p := ⟨g, 2, none⟩) hg.1).trans h.2.2.1, (hb.cell (p := ⟨gs, 0, none⟩) hg.2).trans h.2.2.2.1, (hb.cell (p := ⟨gs, 1, none⟩) hg.2).trans h.2.2.2.2⟩
theorem vwrap_pow {i : Nat} (h : i < 6) : IntKind.i64.wrap ((2 : Int) ^ i) = ((2 ^ i : Nat) : Int) := by
  have : i = 0 ∨ i = 1 ∨ i = 2 ∨ i = 3 ∨ i = 4 ∨ i = 5 := by omega
  rcases this with rfl | rfl | rfl | rfl | rfl | rfl <;> exact IntWalk.i64_in _ (by decide)
end Go.Proofs.Ytkibkkdeaojjoaa

namespace Go.Proofs.Ytkibkkdeaojjoaa
open Go.RowKit
set_option linter.unusedVariables false

/-- Three live cells of a struct. -/
def W3 (g : Nat) (v0 v1 v2 : Value) (W : World) : Prop :=
  (W.cell? ⟨g, 0, none⟩ = some v0 ∧ W.cell? ⟨g, 1, none⟩ = some v1 ∧ W.cell? ⟨g, 2, none⟩ = some v2) ∧ W.frozen? ⟨g, 0, none⟩ = false ∧ W.frozen? ⟨g, 1, none⟩ = false ∧ W.frozen? ⟨g, 2, none⟩ = false
theorem W3.below {g B : Nat} {v0 v1 v2 : Value} {w w' : World} (h : W3 g v0 v1 v2 w) (b : Below B w w') (l : g < B) : W3 g v0 v1 v2 w' :=
  ⟨⟨(b.cell (p := ⟨g, 0, none⟩) l).trans h.1.1, (b.cell (p := ⟨g, 1, none⟩) l).trans h.1.2.1, (b.cell (p := ⟨g, 2, none⟩) l).trans h.1.2.2⟩, (b.frozen (p := ⟨g, 0, none⟩) l).trans h.2.1, (b.frozen (p := ⟨g, 1, none⟩) l).trans h.2.2.1, (b.frozen (p := ⟨g, 2, none⟩) l).trans h.2.2.2⟩
theorem W3.new (w : World) (v0 v1 v2 : Value) (T : TypeId) : W3 w.heap.size v0 v1 v2 (w.alloc (.cells #[v0, v1, v2] T)) :=
  ⟨⟨by simp [go_sem], by simp [go_sem], by simp [go_sem]⟩, by simp [go_sem], by simp [go_sem], by simp [go_sem]⟩
theorem W3.far {g f : Nat} {v0 v1 v2 : Value} {w : World} (h : W3 g v0 v1 v2 w) (hne : g ≠ f) (k : Nat) (v : Value) : W3 g v0 v1 v2 (w.setCell ⟨f, k, none⟩ v) :=
  ⟨⟨(World.cell?_setCell_other w ⟨f, k, none⟩ ⟨g, 0, none⟩ _ (fun e => hne (by injection e with e1; exact e1.symm))).trans h.1.1, (World.cell?_setCell_other w ⟨f, k, none⟩ ⟨g, 1, none⟩ _ (fun e => hne (by injection e with e1; exact e1.symm))).trans h.1.2.1, (World.cell?_setCell_other w ⟨f, k, none⟩ ⟨g, 2, none⟩ _ (fun e => hne (by injection e with e1; exact e1.symm))).trans h.1.2.2⟩, by have := h.2.1; simp [go_sem, this], by have := h.2.2.1; simp [go_sem, this], by have := h.2.2.2; simp [go_sem, this]⟩
def wput3 (g : Nat) (v0 v1 v2 : Value) (W : World) : World := ((W.setCell ⟨g, 0, none⟩ v0).setCell ⟨g, 1, none⟩ v1).setCell ⟨g, 2, none⟩ v2
theorem below_wput3 {B g : Nat} {w w' : World} {v0 v1 v2 : Value} (h : Below B w w') (hg : B ≤ g) : Below B w (wput3 g v0 v1 v2 w') := ((h.setCell hg _).setCell hg _).setCell hg _

/-- The cells of a bivector at a place. -/
def BvAt (Q : Option Addr → Nat → Prop) (g o : Nat) (p : Int) (aS : Option Addr) (S : List Int) (cS : Nat) (x : List Int) (W : World) : Prop :=
  ∃ (ax : Option Addr) (cx : Nat), Q ax cx ∧ (W.cell? ⟨g, o, none⟩ = some (.int .i64 p) ∧ W.cell? ⟨g, o + 1, none⟩ = some (.slice aS S.length cS) ∧ W.cell? ⟨g, o + 2, none⟩ = some (.slice ax x.length cx))
theorem BvAt.below {Q : Option Addr → Nat → Prop} {g o B : Nat} {p : Int} {aS : Option Addr} {S : List Int} {cS : Nat} {x : List Int} {w w' : World} (h : BvAt Q g o p aS S cS x w) (b : Below B w w') (l : g < B) : BvAt Q g o p aS S cS x w' := by
  obtain ⟨ax, cx, hQ, h0, h1, h2⟩ := h
  exact ⟨ax, cx, hQ, (b.cell (p := ⟨g, o, none⟩) l).trans h0, (b.cell (p := ⟨g, o + 1, none⟩) l).trans h1, (b.cell (p := ⟨g, o + 2, none⟩) l).trans h2⟩
def F3 (g o : Nat) (W : World) : Prop :=
  (W.cell? ⟨g, o, none⟩ = some (.int .i64 0) ∧ W.cell? ⟨g, o + 1, none⟩ = some (.slice none 0 0) ∧ W.cell? ⟨g, o + 2, none⟩ = some (.slice none 0 0)) ∧ W.frozen? ⟨g, o, none⟩ = false ∧ W.frozen? ⟨g, o + 1, none⟩ = false ∧ W.frozen? ⟨g, o + 2, none⟩ = false
theorem F3.below {g o B : Nat} {w w' : World} (h : F3 g o w) (b : Below B w w') (l : g < B) : F3 g o w' :=
  ⟨⟨(b.cell (p := ⟨g, o, none⟩) l).trans h.1.1, (b.cell (p := ⟨g, o + 1, none⟩) l).trans h.1.2.1, (b.cell (p := ⟨g, o + 2, none⟩) l).trans h.1.2.2⟩, (b.frozen (p := ⟨g, o, none⟩) l).trans h.2.1, (b.frozen (p := ⟨g, o + 1, none⟩) l).trans h.2.2.1, (b.frozen (p := ⟨g, o + 2, none⟩) l).trans h.2.2.2⟩
theorem F3.made (w : World) (n : Nat) (t : TypeId) {i : Nat} (hi : i < n) : F3 w.heap.size (i * 3) (w.alloc (.cells (madeCells #[.int .i64 0, .slice none 0 0, .slice none 0 0] (n * 3)) t)) := by
  have key : ∀ j, j < 3 → (w.alloc (.cells (madeCells #[.int .i64 0, .slice none 0 0, .slice none 0 0] (n * 3)) t)).cell? ⟨w.heap.size, i * 3 + j, none⟩ = some ((#[Value.int .i64 0, .slice none 0 0, .slice none 0 0] : Array Value)[j]!) := fun j hj => by
    rw [World.cell?_alloc_new]
    have h1 : i * 3 + j < n * 3 := by omega
    have h2 : (i * 3 + j) % 3 = j := by omega
    simp [madeCells, h1, h2]
  exact ⟨⟨key 0 (by omega), key 1 (by omega), key 2 (by omega)⟩, by simp [go_sem]⟩
def BvN (C : Int) (w : World) (e : Ending) (w' : World) : Prop := e = .returned (.tuple #[.agg #[.int .i64 0, .slice none 0 0, .slice none 0 0], .int .i64 C]) ∧ Below w.heap.size w w'
end Go.Proofs.Ytkibkkdeaojjoaa

namespace Go.Proofs.Ytkibkkdeaojjoaa
open Go.RowKit Go.ChangeShapes Go.WideShapes
set_option linter.unusedVariables false

theorem isM_nprime {p : Int} {n : Nat} {m : List (List Int)} (h : prm p = false) : isL n p m = false := not_isL fun k => by rw [k.prime] at h; cases h
theorem isM_nlen {p : Int} {n : Nat} {m : List (List Int)} (h : ¬ (n ≤ m.length ∧ m.length ≤ 16)) : isL n p m = false := not_isL fun k => h ⟨k.lo, k.hi⟩
theorem isM_nrow {p : Int} {n : Nat} {m : List (List Int)} {i : Nat} (hi : i < m.length) (h : ¬ (1 ≤ (rw' m i).length ∧ (rw' m i).length ≤ 16)) : isL n p m = false := not_isL fun k => h ⟨k.c0 i hi, k.c1 i hi⟩
theorem isM_ncol {p : Int} {n : Nat} {m : List (List Int)} {i : Nat} (hi : i < m.length) (h : ¬ (rw' m i).length = (rw' m 0).length) : isL n p m = false := not_isL fun k => h (k.len i hi)
theorem isM_nall {p : Int} {n : Nat} {m : List (List Int)} {i : Nat} (hi : i < m.length) (h : (rw' m i).all (inr p) = false) : isL n p m = false := not_isL fun k => by rw [k.all i hi] at h; cases h
/-- What has been seen of the first i rows. -/
def Seen (p : Int) (m : List (List Int)) (i : Nat) : Prop := ∀ i', i' < i → (rw' m i').length = (rw' m 0).length ∧ (1 ≤ (rw' m i').length ∧ (rw' m i').length ≤ 16) ∧ (rw' m i').all (inr p) = true
theorem Seen.zero (p : Int) (m : List (List Int)) : Seen p m 0 := fun i' h => by omega
theorem Seen.next {p : Int} {m : List (List Int)} {i : Nat} (h : Seen p m i) (h1 : (rw' m i).length = (rw' m 0).length) (h2 : 1 ≤ (rw' m i).length ∧ (rw' m i).length ≤ 16) (h3 : (rw' m i).all (inr p) = true) : Seen p m (i + 1) := by
  intro i' hi'
  by_cases e : i' = i
  · subst e; exact ⟨h1, h2, h3⟩
  · exact h i' (by omega)
theorem Seen.yes {p : Int} {n : Nat} {m : List (List Int)} {i : Nat} (h : Seen p m i) (hi : m.length ≤ i) (hp : prm p = true) (h1 : n ≤ m.length ∧ m.length ≤ 16) : isL n p m = true :=
  isL_iff.2 ⟨hp, h1.1, h1.2, fun j hj => (h j (by omega)).1, fun j hj => (h j (by omega)).2.1.1, fun j hj => (h j (by omega)).2.1.2, fun j hj => (h j (by omega)).2.2⟩
theorem neq_spell {a b : Nat} (h : ¬ a = b) : ((a : Int) == (b : Int)) = false ∧ ((a : Int) != (b : Int)) = true := by
  have : ¬ (a : Int) = (b : Int) := by omega
  simp [this]
set_option maxHeartbeats 1600000 in
theorem l02Is_any (p : Int) (a : Option Addr) (m : List (List Int)) (cap lo tp : Nat) (w : World) (hm : MatIn lo tp w a m) (h1 : m.length ≤ 9223372036854775807) (h2 : ∀ i, i < m.length → (rw' m i).length ≤ 9223372036854775807) :
    Calls Try.prog 74 #[.int .i64 p, .slice a m.length cap] w fun e w' => e = .returned (.bool (isM p m)) ∧ Quiet w w' := by
  have HM := Lib.hid hm
  have HL := Lib.hid h2
  clear hm h2
  by_cases hp : prm p = true
  · have HP := Lib.hid hp
    clear hp
    by_cases hn : 1 ≤ m.length ∧ m.length ≤ 16
    · obtain ⟨hn1, hn2⟩ := hn
      obtain ⟨b, o, r0, c0, ha, _, _, hr0, _⟩ := HM.out.row (i := 0) (by omega)
      subst ha
      rw [Nat.add_zero] at hr0
      have hl0 := HL.out 0 (by omega)
      by_cases hc : 1 ≤ (rw' m 0).length ∧ (rw' m 0).length ≤ 16
      · have HC0 := Lib.hid hc
        obtain ⟨hc1, hc2⟩ := hc
        go_enter Try.func74, Try.ntmps74
        go_wp2_with (go_at_call 100; refine (l01Prime_any _ _).mono ?_; rintro e w' ⟨rfl, rfl⟩; rw [HP.out])
        go_loopw [5] (fun t wr => ∃ i : Nat, i ≤ m.length ∧ t = .int .i64 i ∧ Seen p m i ∧ Quiet w wr) (fun t _ => m.length - (intOf t).toNat)
        case atStart => exact ⟨0, Nat.zero_le _, rfl, Seen.zero _ _, Quiet.refl _⟩
        case round =>
          obtain ⟨i, hi, rfl, hs, hq⟩ := hrel
          have HQ := Lib.hid hq
          have HS := Lib.hid hs
          clear hs
          have hr0 := (hq.cell _).trans hr0
          by_cases hlt : i < m.length
          · obtain ⟨b', o', r, c, ha, _, _, hr, hrow⟩ := (HM.out.same (hq.same lo tp)).row hlt
            cases ha
            clear hq
            have HR := Lib.hid hrow
            clear hrow
            by_cases hcol : (rw' m i).length = (rw' m 0).length
            · have HCol := Lib.hid hcol
              clear hcol
              rw [← HCol.out] at hr0 hl0 hc1 hc2
              by_cases hall : (rw' m i).all (inr p) = true
              · have HAll := Lib.hid hall
                clear hall
                go_wp2
                go_quiet ((go_at_call 86; refine Calls.quiet_of_same ((numsRow _ _ _ _ lo tp _ HP.out (HR.out.same (((Quiet.refl _).next _).same _ _)) (by omega)).mono fun _ _ h => ⟨h.1.trans (by rw [HAll.out]), h.2.symm⟩)))
                go_wp2
                go_roundw
                case rel => exact ⟨i + 1, by omega, by go_num, HS.out.next HCol.out (by rw [HCol.out]; exact HC0.out) HAll.out, HQ.out.next _⟩
                case measure => simp [intOf]; omega
              · have HAll : Hid ((rw' m i).all (inr p) = false) := by show (rw' m i).all (inr p) = false; simpa using hall
                have HF : Hid (isM p m = false) := isM_nall hlt HAll.out
                clear hall
                go_wp2
                go_quiet ((go_at_call 86; refine Calls.quiet_of_same ((numsRow _ _ _ _ lo tp _ HP.out (HR.out.same (((Quiet.refl _).next _).same _ _)) (by omega)).mono fun _ _ h => ⟨h.1.trans (by rw [HAll.out]), h.2.symm⟩)))
                go_wp2
                go_ret
                exact ⟨by rw [HF.out]; rfl, HQ.out.next _⟩
            · have HF : Hid (isM p m = false) := isM_ncol hlt hcol
              have hln := HL.out i hlt
              obtain ⟨e1, e2⟩ := neq_spell hcol
              clear hcol
              go_wp2
              go_quiet (fail)
              go_wp2
              go_ret
              exact ⟨by rw [HF.out]; rfl, HQ.out.next _⟩
          · clear hq
            have HF : Hid (isM p m = true) := HS.out.yes (by omega) HP.out ⟨hn1, hn2⟩
            go_wp2
            go_ret
            exact ⟨by rw [HF.out]; rfl, HQ.out⟩
      · have HF : Hid (isM p m = false) := isM_nrow (i := 0) (by omega) hc
        obtain ⟨l0, hl⟩ : ∃ l0, l0 = (rw' m 0).length := ⟨_, rfl⟩
        rw [← hl] at hr0 hl0 hc
        clear hl
        by_cases hz : l0 < 1
        · clear hc
          go_enter Try.func74, Try.ntmps74
          go_wp2_with (go_at_call 100; refine (l01Prime_any _ _).mono ?_; rintro e w' ⟨rfl, rfl⟩; rw [HP.out])
          go_ret
          exact ⟨by rw [HF.out]; rfl, Quiet.refl _⟩
        · have hz2 : 16 < l0 := by omega
          clear hc
          go_enter Try.func74, Try.ntmps74
          go_wp2_with (go_at_call 100; refine (l01Prime_any _ _).mono ?_; rintro e w' ⟨rfl, rfl⟩; rw [HP.out])
          go_ret
          exact ⟨by rw [HF.out]; rfl, Quiet.refl _⟩
    · have HF : Hid (isM p m = false) := isM_nlen hn
      by_cases hz : m.length < 1
      · clear hn
        go_enter Try.func74, Try.ntmps74
        go_wp2_with (go_at_call 100; refine (l01Prime_any _ _).mono ?_; rintro e w' ⟨rfl, rfl⟩; rw [HP.out])
        go_ret
        exact ⟨by rw [HF.out]; rfl, Quiet.refl _⟩
      · have hz2 : 16 < m.length := by omega
        clear hn
        go_enter Try.func74, Try.ntmps74
        go_wp2_with (go_at_call 100; refine (l01Prime_any _ _).mono ?_; rintro e w' ⟨rfl, rfl⟩; rw [HP.out])
        go_ret
        exact ⟨by rw [HF.out]; rfl, Quiet.refl _⟩
  · have hp' : prm p = false := by simpa using hp
    have HP := Lib.hid hp'
    have HF : Hid (isM p m = false) := isM_nprime HP.out
    clear hp hp'
    go_enter Try.func74, Try.ntmps74
    go_wp2_with (go_at_call 100; refine (l01Prime_any _ _).mono ?_; rintro e w' ⟨rfl, rfl⟩; rw [HP.out])
    go_ret
    exact ⟨by rw [HF.out]; rfl, Quiet.refl _⟩

set_option maxHeartbeats 1600000 in
theorem isRows_any (p : Int) (a : Option Addr) (m : List (List Int)) (n cap lo tp : Nat) (w : World) (hn1 : n ≤ 1) (hm : MatIn lo tp w a m) (h1 : m.length ≤ 9223372036854775807) (h2 : ∀ i, i < m.length → (rw' m i).length ≤ 9223372036854775807) :
    Calls Try.prog 103 #[.int .i64 p, .slice a m.length cap, .int .i64 n] w fun e w' => e = .returned (.bool (isL n p m)) ∧ w = w' := by
  have HM := Lib.hid hm
  have HL := Lib.hid h2
  clear hm h2
  by_cases hp : prm p = true
  · have HP := Lib.hid hp
    clear hp
    by_cases hn : n ≤ m.length ∧ m.length ≤ 16
    · have HN := Lib.hid hn
      have hd1 : decide (m.length < n) = false := by simp; omega
      have hn2 := hn.2
      clear hn
      go_enter Try.func103, Try.ntmps103
      go_wp2_with (go_at_call 117; refine (isPrime_any _ _).mono ?_; rintro e w' ⟨rfl, rfl⟩; rw [HP.out])
      clear hd1
      go_loop [25] (fun t => ∃ i : Nat, i ≤ m.length ∧ t = .int .i64 i ∧ Seen p m i) (fun t => m.length - (intOf t).toNat)
      case atStart => exact ⟨0, Nat.zero_le _, rfl, Seen.zero _ _⟩
      case round =>
        obtain ⟨i, hi, rfl, hs⟩ := hrel
        have HS := Lib.hid hs
        clear hs
        by_cases hlt : i < m.length
        · obtain ⟨b, o, r, c, ha, _, _, hr, hrow⟩ := HM.out.row hlt
          subst ha
          obtain ⟨b', o', r0, c0, ha, _, _, hr0, _⟩ := HM.out.row (i := 0) (by omega)
          cases ha
          rw [Nat.add_zero] at hr0
          have HR := Lib.hid hrow
          have hln := HL.out i hlt
          have hl0 := HL.out 0 (by omega)
          clear hrow
          by_cases hc : 1 ≤ (rw' m i).length ∧ (rw' m i).length ≤ 16
          · have HC := Lib.hid hc
            obtain ⟨hc1, hc2⟩ := hc
            by_cases hcol : (rw' m i).length = (rw' m 0).length
            · have HCol := Lib.hid hcol
              clear hcol
              rw [← HCol.out] at hr0 hl0
              by_cases hall : (rw' m i).all (inr p) = true
              · have HAll := Lib.hid (code_ok HP.out hall)
                have HA2 := Lib.hid hall
                clear hall
                go_wp2_with (go_at_call 108; (with_reducible refine (checkRow _ _ _ _ _ _ _ HP.out HR.out (by omega)).mono ?_); rintro e w' ⟨rfl, rfl⟩; rw [HAll.out])
                go_round
                case rel => exact ⟨i + 1, by omega, by go_num, HS.out.next HCol.out HC.out HA2.out⟩
                case measure => simp [intOf]; omega
              · have hall' : (rw' m i).all (inr p) = false := by simpa using hall
                have HAll := Lib.hid (code_bad HP.out hall')
                have HF := Lib.hid (isM_nall (n := n) hlt hall')
                clear hall hall'
                go_wp2_with (go_at_call 108; (with_reducible refine (checkRow _ _ _ _ _ _ _ HP.out HR.out (by omega)).mono ?_); rintro e w' ⟨rfl, rfl⟩; rw [HAll.out])
                go_ret
                exact ⟨by rw [HF.out]; rfl, rfl⟩
            · have HF := Lib.hid (isM_ncol (n := n) (p := p) hlt hcol)
              obtain ⟨e1, e2⟩ := neq_spell hcol
              clear hcol
              go_wp2
              go_ret
              exact ⟨by rw [HF.out]; rfl, rfl⟩
          · have HF := Lib.hid (isM_nrow (n := n) (p := p) hlt hc)
            by_cases hz : (rw' m i).length < 1
            · clear hc
              go_wp2
              go_ret
              exact ⟨by rw [HF.out]; rfl, rfl⟩
            · have hz2 : 16 < (rw' m i).length := by omega
              clear hc
              go_wp2
              go_ret
              exact ⟨by rw [HF.out]; rfl, rfl⟩
        · have HF := Lib.hid (HS.out.yes (n := n) (by omega) HP.out HN.out)
          go_wp2
          go_ret
          exact ⟨by rw [HF.out]; rfl, rfl⟩
    · have HF := Lib.hid (isM_nlen (p := p) hn)
      by_cases hz : m.length < n
      · have hd1 : decide (m.length < n) = true := by simp; omega
        clear hn
        go_enter Try.func103, Try.ntmps103
        go_wp2_with (go_at_call 117; refine (isPrime_any _ _).mono ?_; rintro e w' ⟨rfl, rfl⟩; rw [HP.out])
        go_ret
        exact ⟨by rw [HF.out]; rfl, rfl⟩
      · have hd1 : decide (m.length < n) = false := by simp; omega
        have hz2 : 16 < m.length := by omega
        clear hn
        go_enter Try.func103, Try.ntmps103
        go_wp2_with (go_at_call 117; refine (isPrime_any _ _).mono ?_; rintro e w' ⟨rfl, rfl⟩; rw [HP.out])
        go_ret
        exact ⟨by rw [HF.out]; rfl, rfl⟩
  · have hp' : prm p = false := by simpa using hp
    have HP := Lib.hid hp'
    have HF := Lib.hid (isM_nprime (n := n) (m := m) hp')
    clear hp hp'
    go_enter Try.func103, Try.ntmps103
    go_wp2_with (go_at_call 117; refine (isPrime_any _ _).mono ?_; rintro e w' ⟨rfl, rfl⟩; rw [HP.out])
    go_ret
    exact ⟨by rw [HF.out]; rfl, rfl⟩

end Go.Proofs.Ytkibkkdeaojjoaa
