/-
  Products of vectors (program): contracts of the program and of the model.
  Conditions: the lists are nil or rows of known cells, of at most 1048576 numbers.
  VersorOf, ReflectIn (program): contracts of the program and of the model.
  Conditions: the lists are nil or rows of known cells, of at most 1048576 numbers.
  IsMatrix, in the program and in the model.
  Conditions: the matrix is nil or a row of rows of known cells.
-/
import Derived.Test.YtkibkkdeaojjoabQf39
import Derived.Test.YtkibkkdeaojjoabQf38
import Derived.Deep.RegionHeld3
import Derived.Deep.DeepCutAuto
import Derived.Test.YtkibkkdeaojjoabQf5
import Derived.Test.YtkibkkdeaojjoabQf12
namespace Go.Proofs.Ytkibkkdeaojjoab
open Go.RowKit
set_option linter.unusedVariables false

/-- What holds behind the box of a space and that of a zero versor. -/
structure DS7 (w : World) (g : Nat) (p : Int) (aS : Option Addr) (n cS : Nat) (W : World) : Prop where
  ss : W.cell? ⟨w.heap.size, 0, none⟩ = some (.int .i64 p) ∧ W.cell? ⟨w.heap.size, 1, none⟩ = some (.slice aS n cS)
  vv : V5 g (.int .i64 0) (.slice none 0 0) (.slice none 0 0) (.int .i64 0) (.int .i64 0) W
  bel : Below w.heap.size w W
  hd : w.heap.size < W.heap.size ∧ g < W.heap.size
theorem DS7.call {w W W' : World} {g : Nat} {p : Int} {aS : Option Addr} {n cS : Nat} (h : DS7 w g p aS n cS W) (b : Below W.heap.size W W') : DS7 w g p aS n cS W' :=
  ⟨ss2 b h.hd.1 h.ss, h.vv.below b h.hd.2, below_step h.bel (Nat.le_of_lt h.hd.1) b, Nat.lt_of_lt_of_le h.hd.1 b.size, Nat.lt_of_lt_of_le h.hd.2 b.size⟩
/-- With the block of the norm. -/
structure DSE (w : World) (g : Nat) (p : Int) (aS : Option Addr) (n cS : Nat) (bf : Nat) (q K : Int) (W : World) : Prop extends DS7 w g p aS n cS W where
  c0 : W.cell? ⟨bf, 0, none⟩ = some (.int .i64 q)
  c1 : W.cell? ⟨bf, 1, none⟩ = some (.int .i64 K)
  y0 : W.frozen? ⟨bf, 0, none⟩ = false
  y1 : W.frozen? ⟨bf, 1, none⟩ = false
  lb : bf < W.heap.size
  lw : w.heap.size < bf ∧ g < bf
theorem DSE.call {w W W' : World} {g bf : Nat} {p q K : Int} {aS : Option Addr} {n cS : Nat} (h : DSE w g p aS n cS bf q K W) (b : Below W.heap.size W W') : DSE w g p aS n cS bf q K W' :=
  { h.toDS7.call b with c0 := (b.cell (p := ⟨bf, 0, none⟩) h.lb).trans h.c0, c1 := (b.cell (p := ⟨bf, 1, none⟩) h.lb).trans h.c1, y0 := (b.frozen (p := ⟨bf, 0, none⟩) h.lb).trans h.y0, y1 := (b.frozen (p := ⟨bf, 1, none⟩) h.lb).trans h.y1, lb := Nat.lt_of_lt_of_le h.lb b.size, lw := h.lw }
theorem V5.put {g b o : Nat} {v0 v1 v2 v3 v4 v : Value} {w : World} (h : V5 g v0 v1 v2 v3 v4 w) (hg : g ≠ b) : V5 g v0 v1 v2 v3 v4 (w.setCell ⟨b, o, none⟩ v) := by
  have e : ∀ j, (w.setCell ⟨b, o, none⟩ v).cell? ⟨g, j, none⟩ = w.cell? ⟨g, j, none⟩ := fun j => World.cell?_setCell_other w ⟨b, o, none⟩ ⟨g, j, none⟩ v (fun e => hg (by injection e with e1; exact e1.symm))
  have f : ∀ j, (w.setCell ⟨b, o, none⟩ v).frozen? ⟨g, j, none⟩ = w.frozen? ⟨g, j, none⟩ := fun j => by simp [go_sem]
  exact ⟨⟨(e 0).trans h.1.1, (e 1).trans h.1.2.1, (e 2).trans h.1.2.2.1, (e 3).trans h.1.2.2.2.1, (e 4).trans h.1.2.2.2.2⟩, (f 0).trans h.2.1, (f 1).trans h.2.2.1, (f 2).trans h.2.2.2.1, (f 3).trans h.2.2.2.2.1, (f 4).trans h.2.2.2.2.2⟩
theorem DSE.put {w W : World} {g bf : Nat} {p q K : Int} {aS : Option Addr} {n cS : Nat} (h : DSE w g p aS n cS bf q K W) (q' K' : Int) : DSE w g p aS n cS bf q' K' ((W.setCell ⟨bf, 0, none⟩ (.int .i64 q')).setCell ⟨bf, 1, none⟩ (.int .i64 K')) :=
  { ss := ss2s (Nat.ne_of_lt h.lw.1) h.ss
    vv := (h.vv.put (Nat.ne_of_lt h.lw.2)).put (Nat.ne_of_lt h.lw.2)
    bel := (h.bel.setCell (Nat.le_of_lt h.lw.1) _).setCell (Nat.le_of_lt h.lw.1) _
    hd := by simpa [World.setCell] using h.hd
    c0 := (World.cell?_setCell_other _ _ _ _ (by simp)).trans (World.cell?_setCell_same W _ _ h.c0)
    c1 := World.cell?_setCell_same _ _ _ ((World.cell?_setCell_other _ _ _ _ (by simp)).trans h.c1)
    y0 := by simp [go_sem, h.y0]
    y1 := by simp [go_sem, h.y1]
    lb := by simpa [World.setCell] using h.lb
    lw := h.lw }
end Go.Proofs.Ytkibkkdeaojjoab

namespace Go.Proofs.Ytkibkkdeaojjoab
open Go.RowKit
set_option linter.unusedVariables false

theorem regC_nil {p : Int} {S : List Int} (h : isSp p S = true) : regC p S [] = if discN p S = 0 then 5 else 0 := by
  unfold regC
  rw [if_pos (codeMv_zero.2 ⟨h, rfl⟩)]
theorem checkR0 (pS : Int) (aS : Option Addr) (S : List Int) (cS loS tpS : Nat) (w : World) (hS : RowIn loS tpS w aS S) (tS : tpS ≤ w.heap.size) (sS : S.length ≤ 1048576) :
    Calls Try.prog 45 #[.agg #[.int .i64 pS, .slice aS S.length cS], .slice none 0 0] w fun e w' => e = .returned (.int .i64 (regC pS S [])) ∧ Below w.heap.size w w' :=
  checkRegular_any pS aS S cS loS tpS none [] 0 0 0 w hS tS sS (.inl rfl) (Nat.zero_le _) (by show 0 ≤ 1048576; omega) (fun i hi => absurd hi (Nat.not_lt_zero i))

end Go.Proofs.Ytkibkkdeaojjoab

namespace Go.Proofs.Ytkibkkdeaojjoab
open Go.RowKit
set_option linter.unusedVariables false

theorem impl_IsMatrix (p : Int) (a : Option Addr) (m : List (List Int)) (cap lo tp : Nat) (w : World) (hm : MatIn lo tp w a m) (ht : tp ≤ w.heap.size) (hs : m.length + tot m m.length ≤ 1048576) :
    Calls Try.prog 69 #[.int .i64 p, .slice a m.length cap] w (Ret1 (isM p m) w) := by
  have HM := Lib.hid hm
  have HS := Lib.hid hs
  clear hm hs
  go_enter Try.func69, Try.ntmps69
  go_wp2_with (go_at_call 100; (with_reducible refine (isRows_one _ _ _ _ lo tp _ HM.out HS.out).mono ?_); rintro e w1 ⟨rfl, rfl⟩)
  go_ret
  exact ⟨rfl, Below.refl _ _⟩

end Go.Proofs.Ytkibkkdeaojjoab
