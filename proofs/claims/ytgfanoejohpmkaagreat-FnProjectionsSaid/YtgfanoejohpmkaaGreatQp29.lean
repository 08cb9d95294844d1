/-
  Contracts and facts that the walk of the law rests on.
  Conditions: those that each theorem names.
-/
import Derived.Test.YtgfanoejohpmkaaGreatQp28
import Derived.Test.YtgfanoejohpmkaaGreatQp27
import Derived.Deep.RegionLaw
import Derived.Deep.RegionWith
namespace Go.Proofs.YtgfanoejohpmkaaGreat
open Go.RowKit Go.ChangeShapes Go.WideShapes
set_option linter.unusedVariables false
def insF {α : Type} (f : Nat → α) (t : Nat) (x : α) : Nat → α := fun i => if i = t then x else f (old t i)
theorem ins_range {n t : Nat} (f : Nat → Value) (x : Value) (ht : t ≤ n) : ins _ ((List.range n).map f) t x = (List.range (n + 1)).map (insF f t x) := by
 have hl : ((List.range n).map f).length = n := by simp
 apply List.ext_getElem?
 intro i
 have h1 : (ins _ ((List.range n).map f) t x).length = n + 1 := by rw [ins_len x (by omega), hl]
 by_cases hi : i < n + 1
 · have e1 : (ins _ ((List.range n).map f) t x)[i]? = some ((ins _ ((List.range n).map f) t x).getD i x) := by
    rw [List.getD_eq_getElem?_getD, List.getElem?_eq_getElem (by omega)]; rfl
   have e2 : ((List.range (n + 1)).map (insF f t x))[i]? = some (insF f t x i) := by simp [hi]
   rw [e1, e2]
   congr 1
   unfold insF old
   rcases Nat.lt_trichotomy i t with l | l | l
   · rw [ins_lt x x (by omega) l, if_neg (by omega), if_pos l]; simp [show i < n by omega]
   · subst l; rw [ins_eq x x (by omega), if_pos rfl]
   · rw [ins_gt x x (by omega) l, if_neg (by omega), if_neg (by omega)]; simp [show i - 1 < n by omega]
 · rw [List.getElem?_eq_none (by omega), List.getElem?_eq_none (by simp; omega)]
def rowsV (c : Nat) (RB RO RC : Nat → Nat) (n : Nat) : List Value := (List.range n).map fun i => .slice (some ⟨RB i, RO i, none⟩) c (RC i)
def pivsV (P : Nat → Nat) (n : Nat) : List Value := (List.range n).map fun i => .int .i64 (P i : Int)
theorem rowsV_ins {c n t b o k : Nat} {RB RO RC : Nat → Nat} (ht : t ≤ n) : ins _ (rowsV c RB RO RC n) t (.slice (some ⟨b, o, none⟩) c k) = rowsV c (insF RB t b) (insF RO t o) (insF RC t k) (n + 1) := by
 unfold rowsV
 rw [ins_range _ _ ht]
 apply List.map_congr_left
 intro i _
 unfold insF
 split <;> rfl
theorem pivsV_ins {n t q : Nat} {P : Nat → Nat} (ht : t ≤ n) : ins _ (pivsV P n) t (.int .i64 (q : Int)) = pivsV (insF P t q) (n + 1) := by
 unfold pivsV
 rw [ins_range _ _ ht]
 apply List.map_congr_left
 intro i _
 unfold insF
 split <;> rfl
theorem rowsV_one {c n : Nat} {RB RO RC : Nat → Nat} : ∀ u : Value, u ∈ rowsV c RB RO RC n → u.oneCell' = true := by
 intro u hu; obtain ⟨i, _, rfl⟩ := List.mem_map.1 hu; rfl
theorem pivsV_one {n : Nat} {P : Nat → Nat} : ∀ u : Value, u ∈ pivsV P n → u.oneCell' = true := by
 intro u hu; obtain ⟨i, _, rfl⟩ := List.mem_map.1 hu; rfl
theorem own_apart {w : World} {B B' n n' : Nat} {E E' : TypeId} {v v' : Value} {xs xs' : List Value} (h : w.ownsRow B E 1 v n xs) (h' : w.ownsRow B' E' 1 v' n' xs') (hE : E ≠ E') : v.ownBlock = none ∨ v.ownBlock ≠ v'.ownBlock := by
 rcases h.2 with ⟨rfl, _⟩ | ⟨g, cap, cur, rfl, _, hg, _⟩
 · exact .inl rfl
 · refine .inr (fun e => ?_)
   rcases h'.2 with ⟨rfl, _⟩ | ⟨g', cap', cur', rfl, _, hg', _⟩
   · simp [Value.ownBlock] at e
   · simp [Value.ownBlock] at e
     subst e
     rw [hg] at hg'
     simp at hg'
     exact hE hg'.2
structure EchM (w : World) (kb c nr np : Nat) (Z : Nat → Nat → Int) (P : Nat → Nat) (vr vp : Value) (d : Int) (RB RO RC : Nat → Nat) : Prop where
 lt : kb < w.heap.size
 c0 : w.cell? ⟨kb, 0, none⟩ = some vr
 c1 : w.cell? ⟨kb, 1, none⟩ = some vp
 c2 : w.cell? ⟨kb, 2, none⟩ = some (.int .i64 d)
 fz : ∀ j, w.frozen? ⟨kb, j, none⟩ = false
 ro : w.ownsRow (kb + 1) 24 1 vr nr (rowsV c RB RO RC nr)
 po : w.ownsRow (kb + 1) 3 1 vp np (pivsV P np)
 rng : ∀ i, i < nr → kb < RB i ∧ RB i < w.heap.size
 row : ∀ i, i < nr → RowOwn w (RB i) (RO i) c (Z i)
 apart : ∀ i, i < nr → ∀ i', i' < nr → i ≠ i' → RB i ≠ RB i'
 rc : ∀ i, i < nr → c ≤ RC i
 ra : ∀ i, i < nr → vr.ownBlock ≠ some (RB i)
 pa : ∀ i, i < nr → vp.ownBlock ≠ some (RB i)
theorem EchM.congr {w : World} {kb c nr np : Nat} {Z Z' : Nat → Nat → Int} {P : Nat → Nat} {vr vp : Value} {d : Int} {RB RO RC : Nat → Nat} (h : EchM w kb c nr np Z P vr vp d RB RO RC) (e : ∀ i, i < nr → ∀ j, j < c → Z i j = Z' i j) :
 EchM w kb c nr np Z' P vr vp d RB RO RC :=
 { h with row := fun i hi => ⟨fun j hj => by rw [← e i hi j hj]; exact (h.row i hi).cell j hj, (h.row i hi).free⟩ }
theorem EchM.keep {w w' : World} {kb c nr np : Nat} {Z : Nat → Nat → Int} {P : Nat → Nat} {vr vp : Value} {d : Int} {RB RO RC : Nat → Nat} (h : EchM w kb c nr np Z P vr vp d RB RO RC) (hb : Below w.heap.size w w') :
 EchM w' kb c nr np Z P vr vp d RB RO RC where
 lt := Nat.lt_of_lt_of_le h.lt hb.size
 c0 := (hb.cell (p := ⟨kb, 0, none⟩) h.lt).trans h.c0
 c1 := (hb.cell (p := ⟨kb, 1, none⟩) h.lt).trans h.c1
 c2 := (hb.cell (p := ⟨kb, 2, none⟩) h.lt).trans h.c2
 fz j := (hb.frozen (p := ⟨kb, j, none⟩) h.lt).trans (h.fz j)
 ro := h.ro.kept (below_grown hb) (by cases hv : vr.ownBlock <;> simp)
 po := h.po.kept (below_grown hb) (by cases hv : vp.ownBlock <;> simp)
 rng i hi := ⟨(h.rng i hi).1, Nat.lt_of_lt_of_le (h.rng i hi).2 hb.size⟩
 row i hi := (h.row i hi).block (hb.block _ (h.rng i hi).2)
 apart := h.apart
 rc := h.rc
 ra := h.ra
 pa := h.pa
theorem EchM.drew {w : World} {kb c nr np : Nat} {Z : Nat → Nat → Int} {P : Nat → Nat} {vr vp : Value} {d : Int} {RB RO RC : Nat → Nat} (h : EchM w kb c nr np Z P vr vp d RB RO RC) : EchM w.drew kb c nr np Z P vr vp d RB RO RC :=
 h.keep ((Below.refl _ _).drew)
theorem wrote_grown {w w' : World} {b o n : Nat} (h : Wrote b o n w w') : w.grownBy w' (some b) := ⟨h.os, h.tape, h.output, Nat.le_of_eq h.size.symm, fun k _ hk => h.block k (fun e => hk (by rw [e]))⟩
theorem EchM.wrote {w w' : World} {kb c nr np i : Nat} {Z : Nat → Nat → Int} {f : Nat → Int} {P : Nat → Nat} {vr vp : Value} {d : Int} {RB RO RC : Nat → Nat} (h : EchM w kb c nr np Z P vr vp d RB RO RC) (hi : i < nr)
 (hr : RowOwn w' (RB i) (RO i) c f) (hw : Wrote (RB i) (RO i) c w w') : EchM w' kb c nr np (fun i' => if i' = i then f else Z i') P vr vp d RB RO RC := by
 have hk := h.rng i hi
 have hne : kb ≠ RB i := by omega
 have hbk := hw.block kb hne
 exact {
  lt := by rw [hw.size]; exact h.lt
  c0 := (World.cell?_of_block (w := w) (a := ⟨kb, 0, none⟩) hbk).trans h.c0
  c1 := (World.cell?_of_block (w := w) (a := ⟨kb, 1, none⟩) hbk).trans h.c1
  c2 := (World.cell?_of_block (w := w) (a := ⟨kb, 2, none⟩) hbk).trans h.c2
  fz := fun j => (World.frozen?_of_block (w := w) (a := ⟨kb, j, none⟩) hbk).trans (h.fz j)
  ro := h.ro.kept (wrote_grown hw) (.inr (h.ra i hi))
  po := h.po.kept (wrote_grown hw) (.inr (h.pa i hi))
  rng := fun i' hi' => by rw [hw.size]; exact h.rng i' hi'
  row := fun i' hi' => by
   by_cases e : i' = i
   · subst e; simp only [if_pos]; exact hr
   · simp only [if_neg e]; exact (h.row i' hi').block (hw.block _ (h.apart i' hi' i hi e))
  apart := h.apart
  rc := h.rc
  ra := h.ra
  pa := h.pa }
theorem EchM.other {w w' : World} {kb c nr np b o n : Nat} {Z : Nat → Nat → Int} {P : Nat → Nat} {vr vp : Value} {d : Int} {RB RO RC : Nat → Nat} (h : EchM w kb c nr np Z P vr vp d RB RO RC)
 (h0 : kb ≠ b) (h1 : vr.ownBlock ≠ some b) (h2 : vp.ownBlock ≠ some b) (h3 : ∀ i, i < nr → RB i ≠ b) (hw : Wrote b o n w w') : EchM w' kb c nr np Z P vr vp d RB RO RC := by
 have hbk := hw.block kb h0
 exact {
  lt := by rw [hw.size]; exact h.lt
  c0 := (World.cell?_of_block (w := w) (a := ⟨kb, 0, none⟩) hbk).trans h.c0
  c1 := (World.cell?_of_block (w := w) (a := ⟨kb, 1, none⟩) hbk).trans h.c1
  c2 := (World.cell?_of_block (w := w) (a := ⟨kb, 2, none⟩) hbk).trans h.c2
  fz := fun j => (World.frozen?_of_block (w := w) (a := ⟨kb, j, none⟩) hbk).trans (h.fz j)
  ro := h.ro.kept (wrote_grown hw) (.inr h1)
  po := h.po.kept (wrote_grown hw) (.inr h2)
  rng := fun i' hi' => by rw [hw.size]; exact h.rng i' hi'
  row := fun i' hi' => (h.row i' hi').block (hw.block _ (h3 i' hi'))
  apart := h.apart
  rc := h.rc
  ra := h.ra
  pa := h.pa }
theorem setk_grown (w : World) (kb j : Nat) (v : Value) : w.grownBy (w.setCell ⟨kb, j, none⟩ v) (some kb) :=
 ⟨rfl, rfl, rfl, by simp [World.setCell], fun k _ hk => Below.heap_setCell _ _ _ _ (fun e => hk (by rw [show k = kb from e]))⟩
theorem not_kb {w : World} {kb n : Nat} {E : TypeId} {v : Value} {xs : List Value} (h : w.ownsRow (kb + 1) E 1 v n xs) : v.ownBlock ≠ some kb := fun e => by have := (h.lt kb e).1; omega
theorem EchM.setD {w : World} {kb c nr np : Nat} {Z : Nat → Nat → Int} {P : Nat → Nat} {vr vp : Value} {d : Int} {RB RO RC : Nat → Nat} (h : EchM w kb c nr np Z P vr vp d RB RO RC) (d' : Int) :
 EchM (w.setCell ⟨kb, 2, none⟩ (.int .i64 d')) kb c nr np Z P vr vp d' RB RO RC where
 lt := by have := h.lt; simpa [World.setCell] using this
 c0 := (World.cell?_setCell_other _ _ _ _ (by simp)).trans h.c0
 c1 := (World.cell?_setCell_other _ _ _ _ (by simp)).trans h.c1
 c2 := World.cell?_setCell_same w _ _ h.c2
 fz j := by simp [go_sem, h.fz j]
 ro := h.ro.kept (setk_grown _ _ _ _) (.inr (not_kb h.ro))
 po := h.po.kept (setk_grown _ _ _ _) (.inr (not_kb h.po))
 rng i hi := by have := h.rng i hi; simpa [World.setCell] using this
 row i hi := (h.row i hi).far kb 2 _ (by have := h.rng i hi; omega)
 apart := h.apart
 rc := h.rc
 ra := h.ra
 pa := h.pa
theorem EchM.insR {w w1 : World} {kb c nr np t b o k g cap : Nat} {Z : Nat → Nat → Int} {f : Nat → Int} {P : Nat → Nat} {vr vp : Value} {d : Int} {RB RO RC : Nat → Nat} (h : EchM w kb c nr np Z P vr vp d RB RO RC) (ht : t ≤ nr)
 (hr : RowOwn w b o c f) (hb0 : kb < b) (hb1 : b < w.heap.size) (hbr : ∀ i, i < nr → RB i ≠ b) (hvr : vr.ownBlock ≠ some b) (hvp : vp.ownBlock ≠ some b)
 (ho : w1.ownsRow (kb + 1) 24 1 (.slice (some ⟨g, 0, none⟩) (nr + 1) cap) (nr + 1) (ins _ (rowsV c RB RO RC nr) t (.slice (some ⟨b, o, none⟩) c k))) (hg : w.grownBy w1 vr.ownBlock) (hat : vr.ownBlock = some g ∨ g = w.heap.size) (hck : c ≤ k) :
 EchM (w1.setCell ⟨kb, 0, none⟩ (.slice (some ⟨g, 0, none⟩) (nr + 1) cap)) kb c (nr + 1) np (insF Z t f) P (.slice (some ⟨g, 0, none⟩) (nr + 1) cap) vp d (insF RB t b) (insF RO t o) (insF RC t k) := by
 have hlt := h.lt
 have hkb : w1.heap[kb]? = w.heap[kb]? := hg.block kb hlt (fun e => not_kb h.ro e.symm)
 have hsz := hg.size
 have hs1 : (w1.setCell ⟨kb, 0, none⟩ (.slice (some ⟨g, 0, none⟩) (nr + 1) cap)).heap.size = w1.heap.size := by simp [World.setCell]
 have hgk : kb < g := by
  have := (ho.lt g rfl).1; omega
 have rowk : ∀ (x y : Nat) (z : Nat → Int), RowOwn w x y c z → x < w.heap.size → kb < x → vr.ownBlock ≠ some x → RowOwn (w1.setCell ⟨kb, 0, none⟩ (.slice (some ⟨g, 0, none⟩) (nr + 1) cap)) x y c z := fun x y z hx h1 h2 h3 =>
  (hx.block (hg.block x h1 (fun e => h3 e.symm))).far kb 0 _ (by omega)
 have old_rng : ∀ i, i < nr + 1 → i ≠ t → old t i < nr := fun i hi hne => old_lt hi hne ht
 exact {
  lt := by rw [hs1]; omega
  c0 := World.cell?_setCell_same w1 _ _ ((World.cell?_of_block (w := w) (a := ⟨kb, 0, none⟩) hkb).trans h.c0)
  c1 := (World.cell?_setCell_other _ _ _ _ (by simp)).trans ((World.cell?_of_block (w := w) (a := ⟨kb, 1, none⟩) hkb).trans h.c1)
  c2 := (World.cell?_setCell_other _ _ _ _ (by simp)).trans ((World.cell?_of_block (w := w) (a := ⟨kb, 2, none⟩) hkb).trans h.c2)
  fz := fun j => by have := (World.frozen?_of_block (w := w) (a := ⟨kb, j, none⟩) hkb).trans (h.fz j); simp [go_sem, this]
  ro := by rw [rowsV_ins ht] at ho; exact ho.kept (setk_grown _ _ _ _) (.inr (not_kb ho))
  po := (h.po.kept hg (own_apart h.po h.ro (by decide))).kept (setk_grown _ _ _ _) (.inr (not_kb h.po))
  rng := fun i hi => by
   rw [hs1]; unfold insF
   by_cases e : i = t
   · rw [if_pos e]; omega
   · rw [if_neg e]; have := h.rng _ (old_rng i hi e); omega
  row := fun i hi => by
   unfold insF
   by_cases e : i = t
   · rw [if_pos e, if_pos e, if_pos e]; exact rowk b o f hr hb1 hb0 hvr
   · rw [if_neg e, if_neg e, if_neg e]
     have hx := old_rng i hi e
     exact rowk _ _ _ (h.row _ hx) (h.rng _ hx).2 (h.rng _ hx).1 (h.ra _ hx)
  apart := fun i hi i' hi' hne => by
   unfold insF
   by_cases e : i = t
   · have e' : i' ≠ t := by omega
     rw [if_pos e, if_neg e']; exact fun q => hbr _ (old_rng i' hi' e') q.symm
   · rw [if_neg e]
     by_cases e' : i' = t
     · rw [if_pos e']; exact hbr _ (old_rng i hi e)
     · rw [if_neg e']; exact h.apart _ (old_rng i hi e) _ (old_rng i' hi' e') (old_inj e e' hne)
  rc := fun i hi => by
   unfold insF
   by_cases e : i = t
   · rw [if_pos e]; exact hck
   · rw [if_neg e]; exact h.rc _ (old_rng i hi e)
  ra := fun i hi q => by
   have q2 : g = insF RB t b i := by simpa [Value.ownBlock] using q
   unfold insF at q2
   rcases hat with ha | ha
   · by_cases e : i = t
     · rw [if_pos e] at q2; exact hvr (by rw [ha, q2])
     · rw [if_neg e] at q2; exact h.ra _ (old_rng i hi e) (by rw [ha, q2])
   · by_cases e : i = t
     · rw [if_pos e] at q2; omega
     · rw [if_neg e] at q2; have := h.rng _ (old_rng i hi e); omega
  pa := fun i hi => by
   unfold insF
   by_cases e : i = t
   · rw [if_pos e]; exact hvp
   · rw [if_neg e]; exact h.pa _ (old_rng i hi e) }
theorem EchM.insP {w w1 : World} {kb c nr np t q g cap : Nat} {Z : Nat → Nat → Int} {P : Nat → Nat} {vr vp : Value} {d : Int} {RB RO RC : Nat → Nat} (h : EchM w kb c nr np Z P vr vp d RB RO RC) (ht : t ≤ np)
 (ho : w1.ownsRow (kb + 1) 3 1 (.slice (some ⟨g, 0, none⟩) (np + 1) cap) (np + 1) (ins _ (pivsV P np) t (.int .i64 (q : Int)))) (hg : w.grownBy w1 vp.ownBlock) (hat : vp.ownBlock = some g ∨ g = w.heap.size) :
 EchM (w1.setCell ⟨kb, 1, none⟩ (.slice (some ⟨g, 0, none⟩) (np + 1) cap)) kb c nr (np + 1) Z (insF P t q) vr (.slice (some ⟨g, 0, none⟩) (np + 1) cap) d RB RO RC := by
 have hlt := h.lt
 have hkb : w1.heap[kb]? = w.heap[kb]? := hg.block kb hlt (fun e => not_kb h.po e.symm)
 have hsz := hg.size
 have hs1 : (w1.setCell ⟨kb, 1, none⟩ (.slice (some ⟨g, 0, none⟩) (np + 1) cap)).heap.size = w1.heap.size := by simp [World.setCell]
 exact {
  lt := by rw [hs1]; omega
  c0 := (World.cell?_setCell_other _ _ _ _ (by simp)).trans ((World.cell?_of_block (w := w) (a := ⟨kb, 0, none⟩) hkb).trans h.c0)
  c1 := World.cell?_setCell_same w1 _ _ ((World.cell?_of_block (w := w) (a := ⟨kb, 1, none⟩) hkb).trans h.c1)
  c2 := (World.cell?_setCell_other _ _ _ _ (by simp)).trans ((World.cell?_of_block (w := w) (a := ⟨kb, 2, none⟩) hkb).trans h.c2)
  fz := fun j => by have := (World.frozen?_of_block (w := w) (a := ⟨kb, j, none⟩) hkb).trans (h.fz j); simp [go_sem, this]
  ro := (h.ro.kept hg (own_apart h.ro h.po (by decide))).kept (setk_grown _ _ _ _) (.inr (not_kb h.ro))
  po := by rw [pivsV_ins ht] at ho; exact ho.kept (setk_grown _ _ _ _) (.inr (not_kb ho))
  rng := fun i hi => by rw [hs1]; have := h.rng i hi; omega
  row := fun i hi => ((h.row i hi).block (hg.block _ (h.rng i hi).2 (fun e => h.pa i hi e.symm))).far kb 1 _ (by have := h.rng i hi; omega)
  apart := h.apart
  rc := h.rc
  ra := h.ra
  pa := fun i hi q => by
   have q2 : g = RB i := by simpa [Value.ownBlock] using q
   rcases hat with ha | ha
   · exact h.pa i hi (by rw [ha, q2])
   · have := h.rng i hi; omega }
theorem EchM.read {w : World} {kb c nr np i : Nat} {Z : Nat → Nat → Int} {P : Nat → Nat} {vr vp : Value} {d : Int} {RB RO RC : Nat → Nat} (h : EchM w kb c nr np Z P vr vp d RB RO RC) (hi : i < nr) :
 ∃ g cap, vr = .slice (some ⟨g, 0, none⟩) nr cap ∧ w.cell? ⟨g, i, none⟩ = some (.slice (some ⟨RB i, RO i, none⟩) c (RC i)) ∧ kb < g ∧ g < w.heap.size := by
 rcases h.ro.2 with ⟨_, h0⟩ | ⟨g, cap, cur, e, hb, hg, _⟩
 · omega
 · subst e
   have := h.ro.cells (g := g) rfl i (.slice (some ⟨RB i, RO i, none⟩) c (RC i)) (by simp [rowsV, hi])
   rw [Addr.add_lit, Nat.zero_add] at this
   exact ⟨g, cap, rfl, this, by omega, (Array.getElem?_eq_some_iff.1 hg).1⟩
theorem EchM.piv {w : World} {kb c nr np i : Nat} {Z : Nat → Nat → Int} {P : Nat → Nat} {vr vp : Value} {d : Int} {RB RO RC : Nat → Nat} (h : EchM w kb c nr np Z P vr vp d RB RO RC) (hi : i < np) :
 ∃ g cap, vp = .slice (some ⟨g, 0, none⟩) np cap ∧ w.cell? ⟨g, i, none⟩ = some (.int .i64 (P i : Int)) ∧ kb < g ∧ g < w.heap.size := by
 rcases h.po.2 with ⟨_, h0⟩ | ⟨g, cap, cur, e, hb, hg, _⟩
 · omega
 · subst e
   have := h.po.cells (g := g) rfl i (.int .i64 (P i : Int)) (by simp [pivsV, hi])
   rw [Addr.add_lit, Nat.zero_add] at this
   exact ⟨g, cap, rfl, this, by omega, (Array.getElem?_eq_some_iff.1 hg).1⟩
theorem EchM.rowIn {w : World} {kb c nr np i : Nat} {Z : Nat → Nat → Int} {P : Nat → Nat} {vr vp : Value} {d : Int} {RB RO RC : Nat → Nat} (h : EchM w kb c nr np Z P vr vp d RB RO RC) (hi : i < nr) (z : List Int) (hz : z.length = c) (e : ∀ j, j < c → z.getD j 0 = Z i j) :
 RowIn (RB i) (RB i + 1) w (some ⟨RB i, RO i, none⟩) z :=
 .inr ⟨RB i, RO i, rfl, Nat.le_refl _, Nat.lt_succ_self _, fun j hj => by rw [e j (by omega)]; exact (h.row i hi).cell j (by omega)⟩
def NewL (n : Nat) (z : List Int) (w : World) (e : Ending) (w' : World) : Prop :=
 z.length = n ∧ ∃ r c, e = .returned (.slice r n c) ∧ TagR w.heap.size w'.heap.size w' r z ∧ Below w.heap.size w w'
theorem NewR.l {n : Nat} {z : List Int} {w w' : World} {e : Ending} (h : NewR z w e w') (hn : z.length = n) : NewL n z w e w' := by
 subst hn; exact ⟨rfl, h⟩
theorem l02Scale_n (p k : Int) (a : Option Addr) (za : List Int) (n ca lo tp : Nat) (w : World) (hp : prm p = true) (ha : RowIn lo tp w a za) (ht : tp ≤ w.heap.size)
 (hn : za.length = n) (hs : n ≤ 1048576) (hna : ∀ j, j < n → 0 ≤ za.getD j 0 ∧ za.getD j 0 < p) (k0 : 0 ≤ k) (k1 : k ≤ p) :
 Calls Tryz.prog 195 #[.int .i64 p, .slice a n ca, .int .i64 k] w (NewL n (sclR p za k) w) := by
 subst hn
 exact (l02Scale_any p k a za ca lo tp w hp ha ht hs hna k0 k1).mono (fun e w' h => h.l (by unfold sclR; rw [mkR_len]))
theorem l02Plus_n (p k : Int) (a b : Option Addr) (za zb : List Int) (n ca cb lo tp lo' tp' : Nat) (w : World) (hp : prm p = true) (ha : RowIn lo tp w a za) (hb : RowIn lo' tp' w b zb) (ht : tp ≤ w.heap.size) (ht' : tp' ≤ w.heap.size)
 (hn : za.length = n) (hn' : zb.length = n) (hs : n ≤ 1048576) (hna : ∀ j, j < n → 0 ≤ za.getD j 0 ∧ za.getD j 0 < p) (hnb : ∀ j, j < n → 0 ≤ zb.getD j 0 ∧ zb.getD j 0 < p) (k0 : 0 ≤ k) (k1 : k ≤ p) :
 Calls Tryz.prog 142 #[.int .i64 p, .slice a n ca, .slice b n cb, .int .i64 k] w (NewL n (plusR p za zb k) w) := by
 subst hn
 have h := l02Plus_any p k a b za zb ca cb lo tp lo' tp' w hp ha hb ht ht' (by omega) hs hna (fun j hj => hnb j (by omega)) k0 k1
 rw [hn'] at h
 exact h.mono (fun e w' h => h.l (by unfold plusR; rw [mkR_len]))
theorem TopM.setn {lo n : Nat} {w : World} {b i : Nat} {m : List (List Int)} {r : Option Addr} {z : List Int} {c : Nat} (h : TopM lo w b m) (hi : i < m.length) (hn : z.length = n) (hz : TagR lo w.heap.size w r z) :
 TopM lo (w.setCell ⟨b, i, none⟩ (.slice r n c)) b (m.set i z) := by
 subst hn; exact h.set hi hz
theorem TagR.keepTop {lo : Nat} {w : World} {b i : Nat} {m : List (List Int)} {r : Option Addr} {z : List Int} {v : Value} (h : TopM lo w b m) (hz : TagR lo w.heap.size w r z) : TagR lo (w.setCell ⟨b, i, none⟩ v).heap.size (w.setCell ⟨b, i, none⟩ v) r z := by
 have hsz : (w.setCell ⟨b, i, none⟩ v).heap.size = w.heap.size := by simp [World.setCell]
 rw [hsz]
 exact hz.setTop h
def Zer (m : List (List Int)) (k d f : Nat) : Prop := ∀ i, d ≤ i → i < f → at' m i k = 0
theorem below_top {B b i : Nat} {w w' : World} {v : Value} (h : B ≤ b) (hb : Below B w w') : Below B w (w'.setCell ⟨b, i, none⟩ v) := Below.setCell hb (show B ≤ (⟨b, i, none⟩ : Addr).block from h) v
theorem newB_of {p : Int} {c d n gb cap : Nat} {A m : List (List Int)} {w w' : World} (h : IsBas p c A (m.take d)) (ht : TopM w.heap.size w' gb m) (hb : Below w.heap.size w w') (hd : d ≤ m.length) (hn : m.length = n) :
 NewB p c A w (.returned (.slice (some ⟨gb, 0, none⟩) d cap)) w' := by
 have hl : (m.take d).length = d := by rw [List.length_take]; omega
 refine ⟨some ⟨gb, 0, none⟩, cap, m.take d, by rw [hl], .inr ⟨gb, 0, rfl, ht.lob, ht.lt, fun i hi => ?_⟩, h, hb⟩
 rw [hl] at hi
 obtain ⟨r, c', h1, h2⟩ := ht.row i (by omega)
 rw [rw_take hi]
 exact ⟨r, c', by rw [Nat.zero_add]; exact h1, h2.row⟩
set_option maxRecDepth 100000 in
set_option maxHeartbeats 6400000 in
theorem l02Basis_any (p : Int) (a : Option Addr) (A : List (List Int)) (ca lo tp c : Nat) (w : World) (hp : prm p = true) (hm : MatIn lo tp w a A) (ht : tp ≤ w.heap.size) (h0 : 0 < A.length) (hn : A.length ≤ 1024) (c0 : 0 < c) (c1 : c ≤ 1024)
 (hl : ∀ i, i < A.length → (rw' A i).length = c) (hr : ∀ i, i < A.length → ∀ j, j < c → 0 ≤ at' A i j ∧ at' A i j < p) :
 Calls Tryz.prog 227 #[.int .i64 p, .slice a A.length ca] w (NewB p c A w) := by
 have hpb := prm_bd hp
 have HP := Lib.hid hp
 have HM := Lib.hid hm
 have HC2 : Hid (∀ i, i < A.length → 0 < (rw' A i).length ∧ (rw' A i).length ≤ 1024) := fun i hi => by rw [hl i hi]; exact ⟨c0, c1⟩
 have HST := Lib.hid (ColAt.start hl hr)
 clear hm hp hl hr
 go_enter Tryz.func227, Tryz.ntmps227
 go_wp2_with (go_at_call 231; (with_reducible refine (l01Own2_out _ A _ lo tp _ HM.out ht hn HC2.out).mono ?_); rintro e w1 ⟨v, rfl, ho, hb1⟩; obtain ⟨gb, cap, rfl, hnc, hcm, htop⟩ := ho.top h0; have HT1 := Lib.hid htop; have HB1 := Lib.hid hb1; have hgb := htop.lob; clear ho htop hb1)
 go_loopw [6, 7] (fun s t wr => ∃ (d k : Nat) (m : List (List Int)) (P : Nat → Nat), s = .int .i64 d ∧ t = .int .i64 k ∧ k ≤ c ∧ ColAt p c A m d k P ∧ TopM w.heap.size wr gb m ∧ Below w.heap.size w wr) (fun _ t _ => c - (intOf t).toNat)
 case atStart => exact ⟨0, 0, A, _, rfl, rfl, Nat.zero_le _, HST.out, HT1.out, HB1.out⟩
 case round =>
  obtain ⟨d, k, m, P, rfl, rfl, hk, hC, hT, hB⟩ := hrel
  have HC := Lib.hid hC
  have HT := Lib.hid hT
  have HB := Lib.hid hB
  have hwz := hB.size
  have hmn := hC.n
  have hdn := hC.dn
  obtain ⟨r0, c0', g0, _⟩ := hT.row 0 (by omega)
  have hl0 := hC.len 0 (by omega)
  rw [hl0] at g0
  rename World => wo
  clear hC hT hB hl0
  by_cases hlt : k < c
  · have hk1 : (k : Int) < (c : Int) := by omega
    go_wp2
    go_loopw [8] (fun t wr => ∃ f : Nat, d ≤ f ∧ f ≤ A.length ∧ t = .int .i64 f ∧ Zer m k d f ∧ Quiet wo wr) (fun t _ => A.length - (intOf t).toNat)
    case atStart => exact ⟨d, Nat.le_refl _, by omega, rfl, fun i h1 h2 => by omega, Quiet.refl _⟩
    case round =>
     obtain ⟨f, hdf, hf, rfl, hz, hq⟩ := hrel
     have HZ := Lib.hid hz
     have HQ := Lib.hid hq
     clear hz
     have HTr := Lib.hid (HT.out.below (hq.below _))
     rename World => wf
     by_cases hltf : f < A.length
     · obtain ⟨rf, cf, g1, htf⟩ := HTr.out.row f (by omega)
       have hlf := HC.out.len f (by omega)
       rw [hlf] at g1
       have hrow := htf.row
       obtain ⟨bf, of', haf, _, _, hcf0⟩ := hrow.num (j := k) (by omega)
       subst haf
       have HTF := Lib.hid htf
       obtain ⟨x0, x1⟩ := HC.out.rng f (by omega) k hlt
       obtain ⟨x, hx⟩ : ∃ x, x = at' m f k := ⟨_, rfl⟩
       have hcf : wf.cell? ⟨bf, of' + k, none⟩ = some (.int .i64 x) := by rw [hx]; exact hcf0
       rw [← hx] at x0 x1
       have HX := Lib.hid hx
       have hf1 : (f : Int) < (A.length : Int) := by omega
       clear hx hrow htf hlf hq hcf0
       by_cases hxz : x = 0
       · subst hxz
         go_wp2
         go_roundw
         case rel => exact ⟨f + 1, by omega, by omega, by go_num, fun i h1 h2 => by
          by_cases e : i = f
          · subst e; exact HX.out.symm
          · exact HZ.out i h1 (by omega), HQ.out⟩
         case measure => simp [intOf]; omega
       · have hx1 : (x == 0) = false := by simpa using hxz
         obtain ⟨rd, cd, g2, htd⟩ := HTr.out.row d (by omega)
         have hld := HC.out.len d (by omega)
         have hlf := HC.out.len f (by omega)
         rw [hld] at g2
         have ff := HTr.out.free f
         have fd := HTr.out.free d
         have hd1 : (d : Int) < (A.length : Int) := by omega
         have HT2 := Lib.hid (HTr.out.setn (c := cd) (i := f) (by omega) hld htd)
         have HF2 := Lib.hid (HTF.out.setTop (i := f) (v := .slice rd c cd) HTr.out)
         have HB2 : Hid (Below w.heap.size w (wf.setCell ⟨gb, f, none⟩ (.slice rd c cd))) := by
          have hb0 := HB.out.trans (HQ.out.below _)
          have hs0 := hb0.size
          show Below w.heap.size w _
          (have hs_hb0 := hb0.size; (repeat' (first | with_reducible exact Below.refl _ _ | (with_reducible refine Below.setCell ?_ ?_ _) | (with_reducible refine Below.alloc ?_ ?_ _) | (with_reducible refine Below.drew ?_) | (with_reducible refine below_step ?_ ?_ hb0))); all_goals (first | (simp; done) | omega | (simp; omega) | (simp at hs_hb0 ⊢; omega)))
         obtain ⟨v0, v1⟩ := inv_bd HP.out x
         have hz2 : (wf.setCell ⟨gb, f, none⟩ (.slice rd c cd)).heap.size = wf.heap.size := by simp [World.setCell]
         have HZ2 := Lib.hid hz2
         have hcf2 : (wf.setCell ⟨gb, f, none⟩ (.slice rd c cd)).cell? ⟨bf, of' + k, none⟩ = some (.int .i64 x) := by
          rcases HF2.out with h | ⟨b, o, cur, e, _, _, _, hc⟩
          · rw [h] at hlf; simp at hlf; omega
          · cases e
            have := hc k (by omega)
            rw [HX.out]; exact this
         have HLF := Lib.hid hlf
         have hx1' : 1 ≤ x := by omega
         have HNF : Hid (∀ j, j < c → 0 ≤ (rw' m f).getD j 0 ∧ (rw' m f).getD j 0 < p) := fun j hj => HC.out.rng f (by omega) j hj
         have hw2 : wf.heap.size ≤ (wf.setCell ⟨gb, f, none⟩ (.slice rd c cd)).heap.size := by rw [HZ2.out]; exact Nat.le_refl _
         have HW2 := Lib.hid hw2
         have hlb : w.heap.size ≤ (wf.setCell ⟨gb, f, none⟩ (.slice rd c cd)).heap.size := HB2.out.size
         clear htd hld hlf hz2 hw2
         go_wp2_with (first | (go_at_call 204; (with_reducible refine (l01Inv_any p x _ HP.out hx1' x1).mono ?_); rintro e w' ⟨rfl, rfl⟩) | (go_at_call 195; (with_reducible refine (l02Scale_n p (inv p x) _ (rw' m f) c _ w.heap.size wf.heap.size _ HP.out HF2.out.row HW2.out HLF.out (by omega) HNF.out v0 (by omega)).mono ?_); rintro e w3 ⟨hl3, r3, k3, rfl, ht3, hb3⟩; have HL3 := Lib.hid hl3; have HT3 := Lib.hid ht3; have HB3 := Lib.hid hb3; have HM3 := Lib.hid (HT2.out.below hb3); obtain ⟨rq, cq, gq, _⟩ := HM3.out.row d (by rw [List.length_set]; omega); have fq := HM3.out.free d; clear hl3 ht3 hb3))
         have HI0 : Hid (TopM w.heap.size (w3.setCell ⟨gb, d, none⟩ (.slice r3 c k3)) gb (rowsAt p m d f k 0) ∧ TagR w.heap.size (w3.setCell ⟨gb, d, none⟩ (.slice r3 c k3)).heap.size (w3.setCell ⟨gb, d, none⟩ (.slice r3 c k3)) r3 (scaled p m f k) ∧ Below w.heap.size w (w3.setCell ⟨gb, d, none⟩ (.slice r3 c k3))) := by
          have hz3 : (w3.setCell ⟨gb, d, none⟩ (.slice r3 c k3)).heap.size = w3.heap.size := by simp [World.setCell]
          have hE : sclR p (rw' m f) (inv p x) = scaled p m f k := by rw [HX.out]; rfl
          have hT3 := HT3.out
          have hL3 := HL3.out
          rw [hE] at hT3 hL3
          have hT3' : TagR w.heap.size w3.heap.size w3 r3 (scaled p m f k) := hT3.block hlb (Nat.le_refl _) (fun _ _ _ _ _ => rfl)
          refine ⟨?_, ?_, ?_⟩
          · rw [← rowsAt_start (by omega) (by omega)]
            exact HM3.out.setn (by rw [List.length_set]; omega) hL3 hT3'
          · rw [hz3]; exact hT3'.setTop HM3.out
          · have hb0 := HB2.out.trans (HB3.out.mono hlb)
            have hs0 := hb0.size
            (have hs_hb0 := hb0.size; (repeat' (first | with_reducible exact Below.refl _ _ | (with_reducible refine Below.setCell ?_ ?_ _) | (with_reducible refine Below.alloc ?_ ?_ _) | (with_reducible refine Below.drew ?_) | (with_reducible refine below_step ?_ ?_ hb0))); all_goals (first | (simp; done) | omega | (simp; omega) | (simp at hs_hb0 ⊢; omega)))
         have HLS : Hid ((scaled p m f k).length = c) := by have h := HL3.out; show (scaled p m f k).length = c; unfold scaled; rw [← HX.out]; exact h
         obtain ⟨w4, hw4⟩ : ∃ w4, w4 = w3.setCell ⟨gb, d, none⟩ (.slice r3 c k3) := ⟨_, rfl⟩
         rw [← hw4] at HI0
         rw [← hw4]
         have HW4 := Lib.hid hw4
         clear hw4 hcf hcf2 g0 g1 g2 gq ff fd fq
         go_loopw [10] (fun t wr => ∃ i : Nat, i ≤ A.length ∧ t = .int .i64 i ∧ TopM w.heap.size wr gb (rowsAt p m d f k i) ∧ TagR w.heap.size wr.heap.size wr r3 (scaled p m f k) ∧ Below w.heap.size w wr) (fun t _ => A.length - (intOf t).toNat)
         case atStart => exact ⟨0, Nat.zero_le _, rfl, HI0.out.1, HI0.out.2.1, HI0.out.2.2⟩
         case round =>
          obtain ⟨i, hi, rfl, hTi, hRi, hBi⟩ := hrel
          have HTI := Lib.hid hTi
          have HRI := Lib.hid hRi
          have HBI := Lib.hid hBi
          have hwz4 := hBi.size
          rename World => wi
          by_cases hlti : i < A.length
          · have hi1 : (i : Int) < (A.length : Int) := by omega
            clear hTi hRi hBi
            by_cases hid : i = d
            · subst hid
              go_wp2
              go_roundw
              case rel => exact ⟨i + 1, by omega, by go_num, by rw [← rowsAt_skip]; exact HTI.out, HRI.out, HBI.out⟩
              case measure => simp [intOf]; omega
            · have hid1 : ((i : Int) == (d : Int)) = false := by simp; omega
              have hid2 : ¬ (i : Int) = (d : Int) := by omega
              obtain ⟨s, hs⟩ : ∃ s, s = sig d f i := ⟨_, rfl⟩
              have hsm : s < m.length := by rw [hs]; unfold sig; split <;> omega
              have HRW : Hid (rw' (rowsAt p m d f k i) i = rw' m s) := by
               show rw' (rowsAt p m d f k i) i = rw' m s
               rw [rowsAt_row (by omega), if_neg (Nat.lt_irrefl _), hs]; unfold midRow; rw [if_neg hid]
              have HDR : Hid (doneRow p m d f k i = plusR p (rw' m s) (scaled p m f k) ((p - at' m s k) % p)) := by
               show doneRow p m d f k i = _
               rw [hs]; unfold doneRow; rw [if_neg hid]
              have HLS2 : Hid ((rw' m s).length = c) := HC.out.len s hsm
              obtain ⟨ri, ci, gi, hti⟩ := HTI.out.row i (by rw [rowsAt_len]; omega)
              rw [HRW.out] at gi hti
              rw [HLS2.out] at gi
              have HTG := Lib.hid hti
              obtain ⟨bi, oi, hai, _, hbi, hci0⟩ := hti.row.num (j := k) (by rw [HLS2.out]; omega)
              subst hai
              obtain ⟨y0, y1⟩ := HC.out.rng s hsm k hlt
              have HNS : Hid (∀ j, j < c → 0 ≤ (rw' m s).getD j 0 ∧ (rw' m s).getD j 0 < p) := fun j hj => HC.out.rng s hsm j hj
              have HNB : Hid (∀ j, j < c → 0 ≤ (scaled p m f k).getD j 0 ∧ (scaled p m f k).getD j 0 < p) := fun j hj => by
               have hl := HLF.out
               unfold scaled sclR
               rw [mkR_at _ (by omega)]
               exact ⟨Int.emod_nonneg _ (by omega), Int.emod_lt_of_pos _ (by omega)⟩
              obtain ⟨y, hy⟩ : ∃ y, y = at' m s k := ⟨_, rfl⟩
              have hci : wi.cell? ⟨bi, oi + k, none⟩ = some (.int .i64 y) := by rw [hy]; exact hci0
              rw [← hy] at y0 y1 HDR
              have e2 : IntKind.i64.wrap (p - y) = p - y := IntWalk.i64_in _ (by omega)
              have hyy : (p - y) % p = -y % p := by simp
              have HDR := Lib.hid (hyy ▸ HDR.out)
              have e3 : (p - y).tmod p = -y % p := (Int.tmod_eq_emod_of_nonneg (by omega)).trans hyy
              have q0 := Int.emod_nonneg (-y) (by omega : p ≠ 0)
              have q1 := Int.emod_lt_of_pos (-y) (by omega : 0 < p)
              have hp0 : ¬ p = 0 := by omega
              have hp1 : (p == 0) = false := by simpa using hp0
              have fi := HTI.out.free i
              have HTd : Hid (TagR w.heap.size wi.drew.heap.size wi.drew (some ⟨bi, oi, none⟩) (rw' m s)) := HTG.out.block (Nat.le_refl _) (Nat.le_refl _) (fun _ _ _ _ _ => rfl)
              have HRd : Hid (TagR w.heap.size wi.drew.heap.size wi.drew r3 (scaled p m f k)) := HRI.out.block (Nat.le_refl _) (Nat.le_refl _) (fun _ _ _ _ _ => rfl)
              have hwd : wi.heap.size ≤ wi.drew.heap.size := Nat.le_refl _
              clear hs hy hti hci0 hyy
              go_wp2
              go_region_with (first | (go_at_call 142; (with_reducible refine (l02Plus_n p (-y % p) _ _ (rw' m s) (scaled p m f k) c _ _ w.heap.size wi.drew.heap.size w.heap.size wi.drew.heap.size _ HP.out HTd.out.row HRd.out.row (Nat.le_refl _) (Nat.le_refl _) HLS2.out HLS.out (by omega) HNS.out HNB.out q0 (by omega)).mono ?_); rintro e w5 ⟨hl5, r5, k5, rfl, ht5, hb5⟩; have HL5 := Lib.hid hl5; have HT5 := Lib.hid ht5; have HB5 := Lib.hid hb5; have HM5 := Lib.hid ((HTI.out.below (Below.refl wi.heap.size wi).drew).below hb5); obtain ⟨rq, cq, gq, _⟩ := HM5.out.row i (by rw [rowsAt_len]; omega); have fq := HM5.out.free i; clear hl5 ht5 hb5))
              all_goals go_wp2
              all_goals go_roundw
              all_goals (first | (case rel =>
               exact ⟨i + 1, by omega, by go_num, by rw [← rowsAt_next (by omega) hid, HDR.out]; exact HM5.out.setn (by rw [rowsAt_len]; omega) HL5.out (HT5.out.block hwz4 (Nat.le_refl _) (fun _ _ _ _ _ => rfl)),
                TagR.keepTop HM5.out (HRd.out.below HB5.out (Nat.le_refl _) (Nat.le_refl _) HB5.out.size), below_top hgb (HBI.out.trans ((((Below.refl wi.heap.size wi).drew).trans HB5.out).mono hwz4))⟩) | (simp [intOf]; omega))
          · have hin : i = A.length := by omega
            subst hin
            clear hTi hRi hBi
            go_wp2
            go_roundw
            case rel => exact ⟨d + 1, k + 1, _, _, by go_num, by go_num, by omega, by rw [← hmn] at HTI; exact HC.out.rows HP.out hlt hdf (by omega) (by rw [← HX.out]; exact hx1'), by rw [hmn]; exact HTI.out, HBI.out⟩
            case measure => simp [intOf]; omega
     · have hfn : f = A.length := by omega
       subst hfn
       clear hq
       go_wp2
       go_roundw
       case rel => exact ⟨d, k + 1, m, P, rfl, by go_num, by omega, HC.out.skip (fun i h1 h2 => HZ.out i h1 (by omega)), HTr.out, HB.out.trans (HQ.out.below _)⟩
       case measure => simp [intOf]; omega
  · have hkc : k = c := by omega
    subst hkc
    have HD := Lib.hid HC.out.done
    go_wp2
    go_ret
    exact newB_of HD.out HT.out HB.out hdn hmn
end Go.Proofs.YtgfanoejohpmkaaGreat