/-
  The program's echelon in memory: a block with the lists of rows and of pivots and the determinant; each row in a block of its own. What calls and stores do to it.
  No conditions.
-/
import Derived.Test.YtkibkkdeaojjoabGreatQg20
import Derived.Test.YtkibkkdeaojjoabGreatQg21
namespace Go.Proofs.YtkibkkdeaojjoabGreat
open Go.RowKit Go.ChangeShapes Go.WideShapes
set_option linter.unusedVariables false

def insF {α : Type} (f : Nat → α) (t : Nat) (x : α) : Nat → α := fun i => if i = t then x else f (old t i)
theorem ins_range {n t : Nat} (f : Nat → Value) (x : Value) (ht : t ≤ n) : ins _ ((List.range n).map f) t x = (List.range (n + 1)).map (insF f t x) := by
  have hl : ((List.range n).map f).length = n := by simp
  apply List.ext_getElem?
  intro i
  have h1 : (ins _ ((List.range n).map f) t x).length = n + 1 := by rw [ins_len x (by omega), hl]
  by_cases hi : i < n + 1
  · have e1 : (ins _ ((List.range n).map f) t x)[i]? = some ((ins _ ((List.range n).map f) t x).getD i x) := by
      rw [List.getD_eq_getElem?_getD, List.getElem?_eq_getElem (by omega)]; rfl
    have e2 : ((List.range (n + 1)).map (insF f t x))[i]? = some (insF f t x i) := by simp [hi]
    rw [e1, e2]
    congr 1
    unfold insF old
    rcases Nat.lt_trichotomy i t with l | l | l
    · rw [ins_lt x x (by omega) l, if_neg (by omega), if_pos l]; simp [show i < n by omega]
    · subst l; rw [ins_eq x x (by omega), if_pos rfl]
    · rw [ins_gt x x (by omega) l, if_neg (by omega), if_neg (by omega)]; simp [show i - 1 < n by omega]
  · rw [List.getElem?_eq_none (by omega), List.getElem?_eq_none (by simp; omega)]

def rowsV (c : Nat) (RB RO RC : Nat → Nat) (n : Nat) : List Value := (List.range n).map fun i => .slice (some ⟨RB i, RO i, none⟩) c (RC i)
def pivsV (P : Nat → Nat) (n : Nat) : List Value := (List.range n).map fun i => .int .i64 (P i : Int)
theorem rowsV_ins {c n t b o k : Nat} {RB RO RC : Nat → Nat} (ht : t ≤ n) : ins _ (rowsV c RB RO RC n) t (.slice (some ⟨b, o, none⟩) c k) = rowsV c (insF RB t b) (insF RO t o) (insF RC t k) (n + 1) := by
  unfold rowsV
  rw [ins_range _ _ ht]
  apply List.map_congr_left
  intro i _
  unfold insF
  split <;> rfl
theorem pivsV_ins {n t q : Nat} {P : Nat → Nat} (ht : t ≤ n) : ins _ (pivsV P n) t (.int .i64 (q : Int)) = pivsV (insF P t q) (n + 1) := by
  unfold pivsV
  rw [ins_range _ _ ht]
  apply List.map_congr_left
  intro i _
  unfold insF
  split <;> rfl
theorem rowsV_one {c n : Nat} {RB RO RC : Nat → Nat} : ∀ u : Value, u ∈ rowsV c RB RO RC n → u.oneCell' = true := by
  intro u hu; obtain ⟨i, _, rfl⟩ := List.mem_map.1 hu; rfl
theorem pivsV_one {n : Nat} {P : Nat → Nat} : ∀ u : Value, u ∈ pivsV P n → u.oneCell' = true := by
  intro u hu; obtain ⟨i, _, rfl⟩ := List.mem_map.1 hu; rfl
theorem own_apart {w : World} {B B' n n' : Nat} {E E' : TypeId} {v v' : Value} {xs xs' : List Value} (h : w.ownsRow B E 1 v n xs) (h' : w.ownsRow B' E' 1 v' n' xs') (hE : E ≠ E') : v.ownBlock = none ∨ v.ownBlock ≠ v'.ownBlock := by
  rcases h.2 with ⟨rfl, _⟩ | ⟨g, cap, cur, rfl, _, hg, _⟩
  · exact .inl rfl
  · refine .inr (fun e => ?_)
    rcases h'.2 with ⟨rfl, _⟩ | ⟨g', cap', cur', rfl, _, hg', _⟩
    · simp [Value.ownBlock] at e
    · simp [Value.ownBlock] at e
      subst e
      rw [hg] at hg'
      simp at hg'
      exact hE hg'.2

/-- In memory: nr rows of c numbers Z, np pivots P, the determinant d. -/
structure EchM (w : World) (kb c nr np : Nat) (Z : Nat → Nat → Int) (P : Nat → Nat) (vr vp : Value) (d : Int) (RB RO RC : Nat → Nat) : Prop where
  lt : kb < w.heap.size
  c0 : w.cell? ⟨kb, 0, none⟩ = some vr
  c1 : w.cell? ⟨kb, 1, none⟩ = some vp
  c2 : w.cell? ⟨kb, 2, none⟩ = some (.int .i64 d)
  fz : ∀ j, w.frozen? ⟨kb, j, none⟩ = false
  ro : w.ownsRow (kb + 1) 22 1 vr nr (rowsV c RB RO RC nr)
  po : w.ownsRow (kb + 1) 3 1 vp np (pivsV P np)
  rng : ∀ i, i < nr → kb < RB i ∧ RB i < w.heap.size
  row : ∀ i, i < nr → RowOwn w (RB i) (RO i) c (Z i)
  apart : ∀ i, i < nr → ∀ i', i' < nr → i ≠ i' → RB i ≠ RB i'
  rc : ∀ i, i < nr → c ≤ RC i
  ra : ∀ i, i < nr → vr.ownBlock ≠ some (RB i)
  pa : ∀ i, i < nr → vp.ownBlock ≠ some (RB i)

theorem EchM.congr {w : World} {kb c nr np : Nat} {Z Z' : Nat → Nat → Int} {P : Nat → Nat} {vr vp : Value} {d : Int} {RB RO RC : Nat → Nat} (h : EchM w kb c nr np Z P vr vp d RB RO RC) (e : ∀ i, i < nr → ∀ j, j < c → Z i j = Z' i j) :
    EchM w kb c nr np Z' P vr vp d RB RO RC :=
  { h with row := fun i hi => ⟨fun j hj => by rw [← e i hi j hj]; exact (h.row i hi).cell j hj, (h.row i hi).free⟩ }
/-- All blocks that it uses are as they were. -/
theorem EchM.keep {w w' : World} {kb c nr np : Nat} {Z : Nat → Nat → Int} {P : Nat → Nat} {vr vp : Value} {d : Int} {RB RO RC : Nat → Nat} (h : EchM w kb c nr np Z P vr vp d RB RO RC) (hb : Below w.heap.size w w') :
    EchM w' kb c nr np Z P vr vp d RB RO RC where
  lt := Nat.lt_of_lt_of_le h.lt hb.size
  c0 := (hb.cell (p := ⟨kb, 0, none⟩) h.lt).trans h.c0
  c1 := (hb.cell (p := ⟨kb, 1, none⟩) h.lt).trans h.c1
  c2 := (hb.cell (p := ⟨kb, 2, none⟩) h.lt).trans h.c2
  fz j := (hb.frozen (p := ⟨kb, j, none⟩) h.lt).trans (h.fz j)
  ro := h.ro.kept (below_grown hb) (by cases hv : vr.ownBlock <;> simp)
  po := h.po.kept (below_grown hb) (by cases hv : vp.ownBlock <;> simp)
  rng i hi := ⟨(h.rng i hi).1, Nat.lt_of_lt_of_le (h.rng i hi).2 hb.size⟩
  row i hi := (h.row i hi).block (hb.block _ (h.rng i hi).2)
  apart := h.apart
  rc := h.rc
  ra := h.ra
  pa := h.pa
theorem EchM.drew {w : World} {kb c nr np : Nat} {Z : Nat → Nat → Int} {P : Nat → Nat} {vr vp : Value} {d : Int} {RB RO RC : Nat → Nat} (h : EchM w kb c nr np Z P vr vp d RB RO RC) : EchM w.drew kb c nr np Z P vr vp d RB RO RC :=
  h.keep ((Below.refl _ _).drew)
theorem wrote_grown {w w' : World} {b o n : Nat} (h : Wrote b o n w w') : w.grownBy w' (some b) := ⟨h.os, h.tape, h.output, Nat.le_of_eq h.size.symm, fun k _ hk => h.block k (fun e => hk (by rw [e]))⟩
/-- One row is rewritten in place. -/
theorem EchM.wrote {w w' : World} {kb c nr np i : Nat} {Z : Nat → Nat → Int} {f : Nat → Int} {P : Nat → Nat} {vr vp : Value} {d : Int} {RB RO RC : Nat → Nat} (h : EchM w kb c nr np Z P vr vp d RB RO RC) (hi : i < nr)
    (hr : RowOwn w' (RB i) (RO i) c f) (hw : Wrote (RB i) (RO i) c w w') : EchM w' kb c nr np (fun i' => if i' = i then f else Z i') P vr vp d RB RO RC := by
  have hk := h.rng i hi
  have hne : kb ≠ RB i := by omega
  have hbk := hw.block kb hne
  exact {
    lt := by rw [hw.size]; exact h.lt
    c0 := (World.cell?_of_block (w := w) (a := ⟨kb, 0, none⟩) hbk).trans h.c0
    c1 := (World.cell?_of_block (w := w) (a := ⟨kb, 1, none⟩) hbk).trans h.c1
    c2 := (World.cell?_of_block (w := w) (a := ⟨kb, 2, none⟩) hbk).trans h.c2
    fz := fun j => (World.frozen?_of_block (w := w) (a := ⟨kb, j, none⟩) hbk).trans (h.fz j)
    ro := h.ro.kept (wrote_grown hw) (.inr (h.ra i hi))
    po := h.po.kept (wrote_grown hw) (.inr (h.pa i hi))
    rng := fun i' hi' => by rw [hw.size]; exact h.rng i' hi'
    row := fun i' hi' => by
      by_cases e : i' = i
      · subst e; simp only [if_pos]; exact hr
      · simp only [if_neg e]; exact (h.row i' hi').block (hw.block _ (h.apart i' hi' i hi e))
    apart := h.apart
    rc := h.rc
    ra := h.ra
    pa := h.pa }
/-- A block that is none of its own is rewritten. -/
theorem EchM.other {w w' : World} {kb c nr np b o n : Nat} {Z : Nat → Nat → Int} {P : Nat → Nat} {vr vp : Value} {d : Int} {RB RO RC : Nat → Nat} (h : EchM w kb c nr np Z P vr vp d RB RO RC)
    (h0 : kb ≠ b) (h1 : vr.ownBlock ≠ some b) (h2 : vp.ownBlock ≠ some b) (h3 : ∀ i, i < nr → RB i ≠ b) (hw : Wrote b o n w w') : EchM w' kb c nr np Z P vr vp d RB RO RC := by
  have hbk := hw.block kb h0
  exact {
    lt := by rw [hw.size]; exact h.lt
    c0 := (World.cell?_of_block (w := w) (a := ⟨kb, 0, none⟩) hbk).trans h.c0
    c1 := (World.cell?_of_block (w := w) (a := ⟨kb, 1, none⟩) hbk).trans h.c1
    c2 := (World.cell?_of_block (w := w) (a := ⟨kb, 2, none⟩) hbk).trans h.c2
    fz := fun j => (World.frozen?_of_block (w := w) (a := ⟨kb, j, none⟩) hbk).trans (h.fz j)
    ro := h.ro.kept (wrote_grown hw) (.inr h1)
    po := h.po.kept (wrote_grown hw) (.inr h2)
    rng := fun i' hi' => by rw [hw.size]; exact h.rng i' hi'
    row := fun i' hi' => (h.row i' hi').block (hw.block _ (h3 i' hi'))
    apart := h.apart
    rc := h.rc
    ra := h.ra
    pa := h.pa }
theorem setk_grown (w : World) (kb j : Nat) (v : Value) : w.grownBy (w.setCell ⟨kb, j, none⟩ v) (some kb) :=
  ⟨rfl, rfl, rfl, by simp [World.setCell], fun k _ hk => Below.heap_setCell _ _ _ _ (fun e => hk (by rw [show k = kb from e]))⟩
theorem not_kb {w : World} {kb n : Nat} {E : TypeId} {v : Value} {xs : List Value} (h : w.ownsRow (kb + 1) E 1 v n xs) : v.ownBlock ≠ some kb := fun e => by have := (h.lt kb e).1; omega
theorem EchM.setD {w : World} {kb c nr np : Nat} {Z : Nat → Nat → Int} {P : Nat → Nat} {vr vp : Value} {d : Int} {RB RO RC : Nat → Nat} (h : EchM w kb c nr np Z P vr vp d RB RO RC) (d' : Int) :
    EchM (w.setCell ⟨kb, 2, none⟩ (.int .i64 d')) kb c nr np Z P vr vp d' RB RO RC where
  lt := by have := h.lt; simpa [World.setCell] using this
  c0 := (World.cell?_setCell_other _ _ _ _ (by simp)).trans h.c0
  c1 := (World.cell?_setCell_other _ _ _ _ (by simp)).trans h.c1
  c2 := World.cell?_setCell_same w _ _ h.c2
  fz j := by simp [go_sem, h.fz j]
  ro := h.ro.kept (setk_grown _ _ _ _) (.inr (not_kb h.ro))
  po := h.po.kept (setk_grown _ _ _ _) (.inr (not_kb h.po))
  rng i hi := by have := h.rng i hi; simpa [World.setCell] using this
  row i hi := (h.row i hi).far kb 2 _ (by have := h.rng i hi; omega)
  apart := h.apart
  rc := h.rc
  ra := h.ra
  pa := h.pa
/-- A row is put in at t, and the list stored. -/
theorem EchM.insR {w w1 : World} {kb c nr np t b o k g cap : Nat} {Z : Nat → Nat → Int} {f : Nat → Int} {P : Nat → Nat} {vr vp : Value} {d : Int} {RB RO RC : Nat → Nat} (h : EchM w kb c nr np Z P vr vp d RB RO RC) (ht : t ≤ nr)
    (hr : RowOwn w b o c f) (hb0 : kb < b) (hb1 : b < w.heap.size) (hbr : ∀ i, i < nr → RB i ≠ b) (hvr : vr.ownBlock ≠ some b) (hvp : vp.ownBlock ≠ some b)
    (ho : w1.ownsRow (kb + 1) 22 1 (.slice (some ⟨g, 0, none⟩) (nr + 1) cap) (nr + 1) (ins _ (rowsV c RB RO RC nr) t (.slice (some ⟨b, o, none⟩) c k))) (hg : w.grownBy w1 vr.ownBlock) (hat : vr.ownBlock = some g ∨ g = w.heap.size) (hck : c ≤ k) :
    EchM (w1.setCell ⟨kb, 0, none⟩ (.slice (some ⟨g, 0, none⟩) (nr + 1) cap)) kb c (nr + 1) np (insF Z t f) P (.slice (some ⟨g, 0, none⟩) (nr + 1) cap) vp d (insF RB t b) (insF RO t o) (insF RC t k) := by
  have hlt := h.lt
  have hkb : w1.heap[kb]? = w.heap[kb]? := hg.block kb hlt (fun e => not_kb h.ro e.symm)
  have hsz := hg.size
  have hs1 : (w1.setCell ⟨kb, 0, none⟩ (.slice (some ⟨g, 0, none⟩) (nr + 1) cap)).heap.size = w1.heap.size := by simp [World.setCell]
  have hgk : kb < g := by
    have := (ho.lt g rfl).1; omega
  have rowk : ∀ (x y : Nat) (z : Nat → Int), RowOwn w x y c z → x < w.heap.size → kb < x → vr.ownBlock ≠ some x → RowOwn (w1.setCell ⟨kb, 0, none⟩ (.slice (some ⟨g, 0, none⟩) (nr + 1) cap)) x y c z := fun x y z hx h1 h2 h3 =>
    (hx.block (hg.block x h1 (fun e => h3 e.symm))).far kb 0 _ (by omega)
  have old_rng : ∀ i, i < nr + 1 → i ≠ t → old t i < nr := fun i hi hne => old_lt hi hne ht
  exact {
    lt := by rw [hs1]; omega
    c0 := World.cell?_setCell_same w1 _ _ ((World.cell?_of_block (w := w) (a := ⟨kb, 0, none⟩) hkb).trans h.c0)
    c1 := (World.cell?_setCell_other _ _ _ _ (by simp)).trans ((World.cell?_of_block (w := w) (a := ⟨kb, 1, none⟩) hkb).trans h.c1)
    c2 := (World.cell?_setCell_other _ _ _ _ (by simp)).trans ((World.cell?_of_block (w := w) (a := ⟨kb, 2, none⟩) hkb).trans h.c2)
    fz := fun j => by have := (World.frozen?_of_block (w := w) (a := ⟨kb, j, none⟩) hkb).trans (h.fz j); simp [go_sem, this]
    ro := by rw [rowsV_ins ht] at ho; exact ho.kept (setk_grown _ _ _ _) (.inr (not_kb ho))
    po := (h.po.kept hg (own_apart h.po h.ro (by decide))).kept (setk_grown _ _ _ _) (.inr (not_kb h.po))
    rng := fun i hi => by
      rw [hs1]; unfold insF
      by_cases e : i = t
      · rw [if_pos e]; omega
      · rw [if_neg e]; have := h.rng _ (old_rng i hi e); omega
    row := fun i hi => by
      unfold insF
      by_cases e : i = t
      · rw [if_pos e, if_pos e, if_pos e]; exact rowk b o f hr hb1 hb0 hvr
      · rw [if_neg e, if_neg e, if_neg e]
        have hx := old_rng i hi e
        exact rowk _ _ _ (h.row _ hx) (h.rng _ hx).2 (h.rng _ hx).1 (h.ra _ hx)
    apart := fun i hi i' hi' hne => by
      unfold insF
      by_cases e : i = t
      · have e' : i' ≠ t := by omega
        rw [if_pos e, if_neg e']; exact fun q => hbr _ (old_rng i' hi' e') q.symm
      · rw [if_neg e]
        by_cases e' : i' = t
        · rw [if_pos e']; exact hbr _ (old_rng i hi e)
        · rw [if_neg e']; exact h.apart _ (old_rng i hi e) _ (old_rng i' hi' e') (old_inj e e' hne)
    rc := fun i hi => by
      unfold insF
      by_cases e : i = t
      · rw [if_pos e]; exact hck
      · rw [if_neg e]; exact h.rc _ (old_rng i hi e)
    ra := fun i hi q => by
      have q2 : g = insF RB t b i := by simpa [Value.ownBlock] using q
      unfold insF at q2
      rcases hat with ha | ha
      · by_cases e : i = t
        · rw [if_pos e] at q2; exact hvr (by rw [ha, q2])
        · rw [if_neg e] at q2; exact h.ra _ (old_rng i hi e) (by rw [ha, q2])
      · by_cases e : i = t
        · rw [if_pos e] at q2; omega
        · rw [if_neg e] at q2; have := h.rng _ (old_rng i hi e); omega
    pa := fun i hi => by
      unfold insF
      by_cases e : i = t
      · rw [if_pos e]; exact hvp
      · rw [if_neg e]; exact h.pa _ (old_rng i hi e) }
/-- A pivot is put in at t, and the list stored. -/
theorem EchM.insP {w w1 : World} {kb c nr np t q g cap : Nat} {Z : Nat → Nat → Int} {P : Nat → Nat} {vr vp : Value} {d : Int} {RB RO RC : Nat → Nat} (h : EchM w kb c nr np Z P vr vp d RB RO RC) (ht : t ≤ np)
    (ho : w1.ownsRow (kb + 1) 3 1 (.slice (some ⟨g, 0, none⟩) (np + 1) cap) (np + 1) (ins _ (pivsV P np) t (.int .i64 (q : Int)))) (hg : w.grownBy w1 vp.ownBlock) (hat : vp.ownBlock = some g ∨ g = w.heap.size) :
    EchM (w1.setCell ⟨kb, 1, none⟩ (.slice (some ⟨g, 0, none⟩) (np + 1) cap)) kb c nr (np + 1) Z (insF P t q) vr (.slice (some ⟨g, 0, none⟩) (np + 1) cap) d RB RO RC := by
  have hlt := h.lt
  have hkb : w1.heap[kb]? = w.heap[kb]? := hg.block kb hlt (fun e => not_kb h.po e.symm)
  have hsz := hg.size
  have hs1 : (w1.setCell ⟨kb, 1, none⟩ (.slice (some ⟨g, 0, none⟩) (np + 1) cap)).heap.size = w1.heap.size := by simp [World.setCell]
  exact {
    lt := by rw [hs1]; omega
    c0 := (World.cell?_setCell_other _ _ _ _ (by simp)).trans ((World.cell?_of_block (w := w) (a := ⟨kb, 0, none⟩) hkb).trans h.c0)
    c1 := World.cell?_setCell_same w1 _ _ ((World.cell?_of_block (w := w) (a := ⟨kb, 1, none⟩) hkb).trans h.c1)
    c2 := (World.cell?_setCell_other _ _ _ _ (by simp)).trans ((World.cell?_of_block (w := w) (a := ⟨kb, 2, none⟩) hkb).trans h.c2)
    fz := fun j => by have := (World.frozen?_of_block (w := w) (a := ⟨kb, j, none⟩) hkb).trans (h.fz j); simp [go_sem, this]
    ro := (h.ro.kept hg (own_apart h.ro h.po (by decide))).kept (setk_grown _ _ _ _) (.inr (not_kb h.ro))
    po := by rw [pivsV_ins ht] at ho; exact ho.kept (setk_grown _ _ _ _) (.inr (not_kb ho))
    rng := fun i hi => by rw [hs1]; have := h.rng i hi; omega
    row := fun i hi => ((h.row i hi).block (hg.block _ (h.rng i hi).2 (fun e => h.pa i hi e.symm))).far kb 1 _ (by have := h.rng i hi; omega)
    apart := h.apart
    rc := h.rc
    ra := h.ra
    pa := fun i hi q => by
      have q2 : g = RB i := by simpa [Value.ownBlock] using q
      rcases hat with ha | ha
      · exact h.pa i hi (by rw [ha, q2])
      · have := h.rng i hi; omega }
/-- The rows, for those who read them. -/
theorem EchM.read {w : World} {kb c nr np i : Nat} {Z : Nat → Nat → Int} {P : Nat → Nat} {vr vp : Value} {d : Int} {RB RO RC : Nat → Nat} (h : EchM w kb c nr np Z P vr vp d RB RO RC) (hi : i < nr) :
    ∃ g cap, vr = .slice (some ⟨g, 0, none⟩) nr cap ∧ w.cell? ⟨g, i, none⟩ = some (.slice (some ⟨RB i, RO i, none⟩) c (RC i)) ∧ kb < g ∧ g < w.heap.size := by
  rcases h.ro.2 with ⟨_, h0⟩ | ⟨g, cap, cur, e, hb, hg, _⟩
  · omega
  · subst e
    have := h.ro.cells (g := g) rfl i (.slice (some ⟨RB i, RO i, none⟩) c (RC i)) (by simp [rowsV, hi])
    rw [Addr.add_lit, Nat.zero_add] at this
    exact ⟨g, cap, rfl, this, by omega, (Array.getElem?_eq_some_iff.1 hg).1⟩
theorem EchM.piv {w : World} {kb c nr np i : Nat} {Z : Nat → Nat → Int} {P : Nat → Nat} {vr vp : Value} {d : Int} {RB RO RC : Nat → Nat} (h : EchM w kb c nr np Z P vr vp d RB RO RC) (hi : i < np) :
    ∃ g cap, vp = .slice (some ⟨g, 0, none⟩) np cap ∧ w.cell? ⟨g, i, none⟩ = some (.int .i64 (P i : Int)) ∧ kb < g ∧ g < w.heap.size := by
  rcases h.po.2 with ⟨_, h0⟩ | ⟨g, cap, cur, e, hb, hg, _⟩
  · omega
  · subst e
    have := h.po.cells (g := g) rfl i (.int .i64 (P i : Int)) (by simp [pivsV, hi])
    rw [Addr.add_lit, Nat.zero_add] at this
    exact ⟨g, cap, rfl, this, by omega, (Array.getElem?_eq_some_iff.1 hg).1⟩
theorem EchM.rowIn {w : World} {kb c nr np i : Nat} {Z : Nat → Nat → Int} {P : Nat → Nat} {vr vp : Value} {d : Int} {RB RO RC : Nat → Nat} (h : EchM w kb c nr np Z P vr vp d RB RO RC) (hi : i < nr) (z : List Int) (hz : z.length = c) (e : ∀ j, j < c → z.getD j 0 = Z i j) :
    RowIn (RB i) (RB i + 1) w (some ⟨RB i, RO i, none⟩) z :=
  .inr ⟨RB i, RO i, rfl, Nat.le_refl _, Nat.lt_succ_self _, fun j hj => by rw [e j (by omega)]; exact (h.row i hi).cell j (by omega)⟩

end Go.Proofs.YtkibkkdeaojjoabGreat
