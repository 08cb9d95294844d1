/-
  Reflections (program): contracts of the program and of the model.
  Conditions: the lists are nil or rows of known cells, of at most 1048576 numbers.
  The model's list of the numbers of the basis vectors.
  Conditions: rows of known cells.
  Versors (model): contracts of the program and of the model.
  Conditions: the lists are nil or rows of known cells, of at most 1048576 numbers.
-/
import Derived.Test.YtgfanoejohpmkaaQb31
import Derived.Test.YtgfanoejohpmkaaQb32
import Derived.Test.YtgfanoejohpmkaaQb4
import Derived.Deep.RegionHeld3
import Derived.Deep.DeepCutAuto
import Derived.Test.YtgfanoejohpmkaaQb22
import Derived.Test.YtgfanoejohpmkaaQb21
import Derived.Test.YtgfanoejohpmkaaQb23
import Derived.Test.YtgfanoejohpmkaaQb9
namespace Go.Proofs.Ytgfanoejohpmkaa
open Go.RowKit
set_option linter.unusedVariables false

/-- What holds behind the boxes of a reflection and of its space. -/
structure DR7 (w : World) (gs : Nat) (p : Int) (aS : Option Addr) (n cS : Nat) (au : Option Addr) (l cu : Nat) (W : World) : Prop where
  box : BoxV w.heap.size gs p aS n cS au l cu W
  bel : Below w.heap.size w W
  hd : w.heap.size < W.heap.size ∧ gs < W.heap.size
structure DRN (w : World) (gs : Nat) (p : Int) (aS : Option Addr) (n cS : Nat) (au : Option Addr) (l cu : Nat) (bf : Nat) (W : World) : Prop extends DR7 w gs p aS n cS au l cu W where
  c0 : W.cell? ⟨bf, 0, none⟩ = some (.int .i64 0)
  c1 : W.cell? ⟨bf, 1, none⟩ = some (.int .i64 0)
  y0 : W.frozen? ⟨bf, 0, none⟩ = false
  y1 : W.frozen? ⟨bf, 1, none⟩ = false
  lb : bf < W.heap.size
  lw : w.heap.size < bf ∧ gs < bf
theorem DR7.call {w W W' : World} {gs : Nat} {p : Int} {aS : Option Addr} {n cS : Nat} {au : Option Addr} {l cu : Nat} (h : DR7 w gs p aS n cS au l cu W) (b : Below W.heap.size W W') : DR7 w gs p aS n cS au l cu W' :=
  ⟨h.box.below b h.hd, below_step h.bel (Nat.le_of_lt h.hd.1) b, Nat.lt_of_lt_of_le h.hd.1 b.size, Nat.lt_of_lt_of_le h.hd.2 b.size⟩
theorem DR7.alloc {w W : World} {gs : Nat} {p : Int} {aS : Option Addr} {n cS : Nat} {au : Option Addr} {l cu : Nat} (h : DR7 w gs p aS n cS au l cu W) (o : Obj) : DR7 w gs p aS n cS au l cu (W.alloc o) := h.call (below_alloc W o)
theorem DR7.allocn {w W : World} {gs : Nat} {p : Int} {aS : Option Addr} {n cS : Nat} {au : Option Addr} {l cu : Nat} (h : DR7 w gs p aS n cS au l cu W) (T : TypeId) : DRN w gs p aS n cS au l cu W.heap.size (W.alloc (.cells #[.int .i64 0, .int .i64 0] T)) :=
  { h.alloc (.cells #[.int .i64 0, .int .i64 0] T) with c0 := by simp [go_sem], c1 := by simp [go_sem], y0 := by simp [go_sem], y1 := by simp [go_sem], lb := lt_alloc W _, lw := h.hd }
theorem DRN.call {w W W' : World} {gs bf : Nat} {p : Int} {aS : Option Addr} {n cS : Nat} {au : Option Addr} {l cu : Nat} (h : DRN w gs p aS n cS au l cu bf W) (b : Below W.heap.size W W') : DRN w gs p aS n cS au l cu bf W' :=
  { h.toDR7.call b with c0 := (b.cell (p := ⟨bf, 0, none⟩) h.lb).trans h.c0, c1 := (b.cell (p := ⟨bf, 1, none⟩) h.lb).trans h.c1, y0 := (b.frozen (p := ⟨bf, 0, none⟩) h.lb).trans h.y0, y1 := (b.frozen (p := ⟨bf, 1, none⟩) h.lb).trans h.y1, lb := Nat.lt_of_lt_of_le h.lb b.size, lw := h.lw }
theorem BoxV.put {g gs b o : Nat} {p : Int} {aS ax : Option Addr} {n cS l cx : Nat} {w : World} {v : Value} (h : BoxV g gs p aS n cS ax l cx w) (h1 : g ≠ b) (h2 : gs ≠ b) : BoxV g gs p aS n cS ax l cx (w.setCell ⟨b, o, none⟩ v) := by
  have e : ∀ j, (w.setCell ⟨b, o, none⟩ v).cell? ⟨g, j, none⟩ = w.cell? ⟨g, j, none⟩ := fun j => World.cell?_setCell_other w ⟨b, o, none⟩ ⟨g, j, none⟩ v (fun e => h1 (by injection e with e1; exact e1.symm))
  have e2 : ∀ j, (w.setCell ⟨b, o, none⟩ v).cell? ⟨gs, j, none⟩ = w.cell? ⟨gs, j, none⟩ := fun j => World.cell?_setCell_other w ⟨b, o, none⟩ ⟨gs, j, none⟩ v (fun e => h2 (by injection e with e1; exact e1.symm))
  exact ⟨(e 0).trans h.1, (e 1).trans h.2.1, (e 2).trans h.2.2.1, (e2 0).trans h.2.2.2.1, (e2 1).trans h.2.2.2.2⟩
theorem DRN.put {w W : World} {gs bf : Nat} {p : Int} {aS : Option Addr} {n cS : Nat} {au : Option Addr} {l cu : Nat} (h : DRN w gs p aS n cS au l cu bf W) (u v : Value) : DR7 w gs p aS n cS au l cu ((W.setCell ⟨bf, 0, none⟩ u).setCell ⟨bf, 1, none⟩ v) :=
  ⟨(h.box.put (Nat.ne_of_lt h.lw.1) (Nat.ne_of_lt h.lw.2)).put (Nat.ne_of_lt h.lw.1) (Nat.ne_of_lt h.lw.2), (h.bel.setCell (Nat.le_of_lt h.lw.1) _).setCell (Nat.le_of_lt h.lw.1) _, by simpa [World.setCell] using h.hd⟩
/-- Behind the factor: its block holds p and K. -/
structure DRE (w : World) (gs : Nat) (p : Int) (aS : Option Addr) (n cS : Nat) (au : Option Addr) (l cu : Nat) (bf : Nat) (K : Int) (W : World) : Prop extends DR7 w gs p aS n cS au l cu W where
  c0 : W.cell? ⟨bf, 0, none⟩ = some (.int .i64 p)
  c1 : W.cell? ⟨bf, 1, none⟩ = some (.int .i64 K)
  lb : bf < W.heap.size
theorem DRN.done {w W : World} {gs bf : Nat} {p K : Int} {aS : Option Addr} {n cS : Nat} {au : Option Addr} {l cu : Nat} (h : DRN w gs p aS n cS au l cu bf W) : DRE w gs p aS n cS au l cu bf K ((W.setCell ⟨bf, 0, none⟩ (.int .i64 p)).setCell ⟨bf, 1, none⟩ (.int .i64 K)) :=
  { h.put (.int .i64 p) (.int .i64 K) with
    c0 := (World.cell?_setCell_other _ _ _ _ (by simp)).trans (World.cell?_setCell_same W _ _ h.c0)
    c1 := World.cell?_setCell_same _ _ _ ((World.cell?_setCell_other _ _ _ _ (by simp)).trans h.c1)
    lb := by simpa [World.setCell] using h.lb }
theorem DR7.done {w W : World} {gs : Nat} {p K : Int} {aS : Option Addr} {n cS : Nat} {au : Option Addr} {l cu : Nat} (h : DR7 w gs p aS n cS au l cu W) (T : TypeId) : DRE w gs p aS n cS au l cu W.heap.size K (W.alloc (.cells #[.int .i64 p, .int .i64 K] T)) :=
  { h.alloc (.cells #[.int .i64 p, .int .i64 K] T) with c0 := by simp [go_sem], c1 := by simp [go_sem], lb := lt_alloc W _ }
theorem DRE.call {w W W' : World} {gs bf : Nat} {p K : Int} {aS : Option Addr} {n cS : Nat} {au : Option Addr} {l cu : Nat} (h : DRE w gs p aS n cS au l cu bf K W) (b : Below W.heap.size W W') : DRE w gs p aS n cS au l cu bf K W' :=
  { h.toDR7.call b with c0 := (b.cell (p := ⟨bf, 0, none⟩) h.lb).trans h.c0, c1 := (b.cell (p := ⟨bf, 1, none⟩) h.lb).trans h.c1, lb := Nat.lt_of_lt_of_le h.lb b.size }
/-- What the reflection in u makes of v. -/
def rflM (p : Int) (S u v : List Int) : List Int := plusR p v u (rfK p (pairN p S u v) (pairN p S u u))
theorem pairN_bd7 {p : Int} {S u v : List Int} (hp : 0 < p) : 0 ≤ pairN p S u v ∧ pairN p S u v < p := ⟨Int.emod_nonneg _ (by omega), Int.emod_lt_of_pos _ hp⟩

end Go.Proofs.Ytgfanoejohpmkaa

namespace Go.Proofs.Ytgfanoejohpmkaa
open Go.RowKit
set_option linter.unusedVariables false

theorem l04Times_m (p : Int) (aS : Option Addr) (S : List Int) (cS loS tpS : Nat) (ax : Option Addr) (x : List Int) (nx cx lox tpx : Nat) (ay : Option Addr) (y : List Int) (ny cy loy tpy : Nat) (w : World) (hnx : x.length = nx) (hny : y.length = ny) (hs : isSp p S = true) (hS : RowIn loS tpS w aS S) (tS : tpS ≤ w.heap.size) (hx : RowIn lox tpx w ax x) (tx : tpx ≤ w.heap.size) (mx : isMv p S x = true) (hy : RowIn loy tpy w ay y) (ty : tpy ≤ w.heap.size) (my : isMv p S y = true) :
    Calls Try.prog 55 #[.agg #[.int .i64 p, .slice aS S.length cS], .slice ax nx cx, .slice ay ny cy] w (OwnE (prodM p S x y) w) := by
  subst hnx hny; exact times_own p aS S cS loS tpS ax x cx lox tpx ay y cy loy tpy w hs hS tS hx tx mx hy ty my
theorem l04Times_v (p : Int) (aS : Option Addr) (S : List Int) (cS loS tpS : Nat) (ax : Option Addr) (x : List Int) (nx cx lox tpx b lo tp : Nat) (v : List Int) (w : World) (hnx : x.length = nx) (hs : isSp p S = true) (hS : RowIn loS tpS w aS S) (tS : tpS ≤ w.heap.size) (hx : RowIn lox tpx w ax x) (tx : tpx ≤ w.heap.size) (mx : isMv p S x = true) (hy : RowIn lo tp w (some ⟨b, 0, none⟩) (mkR (bl S) (vecF v v.length))) (ty : tp ≤ w.heap.size) (hv : isVec p S.length v = true) :
    Calls Try.prog 55 #[.agg #[.int .i64 p, .slice aS S.length cS], .slice ax nx cx, .slice (some ⟨b, 0, none⟩) (bl S) (bl S)] w (OwnE (prodM p S x (vecM S v)) w) := l04Times_m p aS S cS loS tpS ax x nx cx lox tpx (some ⟨b, 0, none⟩) (vecM S v) (bl S) (bl S) lo tp w hnx (mkR_len _ _) hs hS tS hx tx mx hy ty (vec_mv hs hv)
theorem revM_len (p : Int) (x : List Int) : (revM p x).length = x.length := mkR_len _ _
theorem ivM_len (p : Int) (x : List Int) : (ivM p x).length = x.length := mkR_len _ _
theorem l01Inv_low7 (p a : Int) (w : World) (hp : prm p = true) (a0 : 1 ≤ a) (a1 : a < p) :
    Calls Try.prog 46 #[.int .i64 p, .int .i64 a] w fun e w' => e = .returned (.int .i64 (inv p a)) ∧ Below w.heap.size w w' :=
  (l01Inv_any p a w hp a0 a1).mono fun _ _ ⟨h, e⟩ => ⟨h, e ▸ Below.refl _ _⟩
end Go.Proofs.Ytgfanoejohpmkaa
