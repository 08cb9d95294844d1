/-
  Signs changed, and the laws' three functions that do so: contracts of the program and of the model.
  Conditions: the lists are nil or rows of known cells, of at most 1048576 numbers.
-/
import Derived.Test.YthbkfpkeofpocaaGreatQv11
import Derived.Test.YthbkfpkeofpocaaGreatQv6
import Derived.Deep.RegionHeld3
import Derived.Deep.DeepCutAuto
namespace Go.Proofs.YthbkfpkeofpocaaGreat
open Go.RowKit
set_option linter.unusedVariables false

/-- A row of signs and a row of zeros, each of one's own. -/
structure WS (w1 wx : World) (n : Nat) (c : Nat → Nat) (g7 g8 : Nat) : Prop where
  sgn : RowOwn wx g7 0 7 (sg c)
  row : RowOwn wx g8 0 n (fun _ => 0)
  ne : g7 ≠ g8
  l7 : w1.heap.size ≤ g7
  l8 : w1.heap.size ≤ g8
  u7 : g7 < wx.heap.size
  u8 : g8 < wx.heap.size
  bel : Below w1.heap.size w1 wx
theorem sz1 (w : World) (a : Addr) (v : Value) : (w.setCell a v).heap.size = w.heap.size := by simp [World.setCell]
theorem row_alloc {w : World} {b o n : Nat} {f : Nat → Int} {x : Obj} (h : RowOwn w b o n f) (hb : b < w.heap.size) : RowOwn (w.alloc x) b o n f := h.stay (Below.heap_alloc _ _ _ hb)
theorem start' {w : World} {n b : Nat} {t : TypeId} (hb : b = w.heap.size) : RowOwn (w.alloc (.cells (madeCells #[.int .i64 0] n) t)) b 0 n (fun _ => 0) := by subst hb; exact RowOwn.start w n t
theorem row_far {w : World} {b o n g i : Nat} {f : Nat → Int} {v : Value} (h : RowOwn w b o n f) (hne : b ≠ g) : RowOwn (w.setCell ⟨g, i, none⟩ v) b o n f := h.stay (Below.heap_setCell _ _ _ _ hne)
theorem arr' {w : World} {b : Nat} {t : TypeId} {v0 v1 v2 v3 v4 v5 v6 : Int} {f : Nat → Int} (hb : b = w.heap.size) (h : f 0 = v0 ∧ f 1 = v1 ∧ f 2 = v2 ∧ f 3 = v3 ∧ f 4 = v4 ∧ f 5 = v5 ∧ f 6 = v6) : RowOwn (w.alloc (.cells #[.int .i64 v0, .int .i64 v1, .int .i64 v2, .int .i64 v3, .int .i64 v4, .int .i64 v5, .int .i64 v6] t)) b 0 7 f := by
  subst hb
  obtain ⟨h0, h1, h2, h3, h4, h5, h6⟩ := h
  exact ⟨fun j hj => by rcases seven hj with rfl | rfl | rfl | rfl | rfl | rfl | rfl <;> simp [go_sem, h0, h1, h2, h3, h4, h5, h6], fun j hj => by simp [go_sem]⟩
theorem set7 {w : World} {g : Nat} {v0 v1 v2 v3 v4 v5 v6 : Int} {f e : Nat → Int} (r : RowOwn w g 0 7 e) (h : f 0 = v0 ∧ f 1 = v1 ∧ f 2 = v2 ∧ f 3 = v3 ∧ f 4 = v4 ∧ f 5 = v5 ∧ f 6 = v6) :
    RowOwn (((((((w.setCell ⟨g, 0, none⟩ (.int .i64 v0)).setCell ⟨g, 1, none⟩ (.int .i64 v1)).setCell ⟨g, 2, none⟩ (.int .i64 v2)).setCell ⟨g, 3, none⟩ (.int .i64 v3)).setCell ⟨g, 4, none⟩ (.int .i64 v4)).setCell ⟨g, 5, none⟩ (.int .i64 v5)).setCell ⟨g, 6, none⟩ (.int .i64 v6)) g 0 7 f := by
  obtain ⟨h0, h1, h2, h3, h4, h5, h6⟩ := h
  have r0 := row_put0 r (j := 0) (v := v0) (by omega) (fun i _ => rfl)
  have r1 := row_put0 r0 (j := 1) (v := v1) (by omega) (fun i _ => rfl)
  have r2 := row_put0 r1 (j := 2) (v := v2) (by omega) (fun i _ => rfl)
  have r3 := row_put0 r2 (j := 3) (v := v3) (by omega) (fun i _ => rfl)
  have r4 := row_put0 r3 (j := 4) (v := v4) (by omega) (fun i _ => rfl)
  have r5 := row_put0 r4 (j := 5) (v := v5) (by omega) (fun i _ => rfl)
  have r6 := row_put0 r5 (j := 6) (v := v6) (by omega) (fun i _ => rfl)
  exact r6.congr (fun j hj => by rcases seven hj with rfl | rfl | rfl | rfl | rfl | rfl | rfl <;> simp [h0, h1, h2, h3, h4, h5, h6])
theorem keep7 {w : World} {g b o n : Nat} {v0 v1 v2 v3 v4 v5 v6 : Value} {f : Nat → Int} (r : RowOwn w b o n f) (hne : b ≠ g) :
    RowOwn (((((((w.setCell ⟨g, 0, none⟩ v0).setCell ⟨g, 1, none⟩ v1).setCell ⟨g, 2, none⟩ v2).setCell ⟨g, 3, none⟩ v3).setCell ⟨g, 4, none⟩ v4).setCell ⟨g, 5, none⟩ v5).setCell ⟨g, 6, none⟩ v6) b o n f :=
  row_far (row_far (row_far (row_far (row_far (row_far (row_far r hne) hne) hne) hne) hne) hne) hne
theorem sg_two (c : Nat → Nat) (g : Nat) : (c g % 2 = 1 ∧ sg c g = -1) ∨ (c g % 2 = 0 ∧ sg c g = 1) := by unfold sg; omega
theorem sgF_zero {p : Int} {c : Nat → Nat} {x : List Int} {j : Nat} (h : x.getD j 0 = 0) : sgF p c x j = 0 := by unfold sgF; rw [h]; split <;> simp
theorem sgF_eq {p : Int} {c : Nat → Nat} {x : List Int} {j : Nat} {y s : Int} (hy : y = x.getD j 0) (hs : s = sg c (gr j)) (h : 0 ≤ y ∧ y < p) : y * s % p = sgF p c x j := by
  subst hy hs
  unfold sgF
  rcases sg_two c (gr j) with ⟨h1, h2⟩ | ⟨h1, h2⟩
  · rw [if_pos h1, h2, Int.mul_neg, Int.mul_one]
    have e : p - x.getD j 0 = -(x.getD j 0) + p := by omega
    rw [e, Int.add_emod_right]
  · rw [if_neg (by omega), h2, Int.mul_one]
    exact Int.emod_eq_of_lt h.1 h.2

set_option maxRecDepth 100000 in
set_option maxHeartbeats 3200000 in
theorem withSigns_reversal (p : Int) (aS : Option Addr) (S : List Int) (cS : Nat) (ax : Option Addr) (x : List Int) (cx lox tpx : Nat) (w : World) (hp : prm p = true) (hx : RowIn lox tpx w ax x) (tx : tpx ≤ w.heap.size) (sx : x.length ≤ 64) (nx : Nums p x) :
    Calls Tryz.prog 86 #[.agg #[.int .i64 p, .slice aS S.length cS], .slice ax x.length cx, .func (.func 87) #[] #[]] w (NewRow x.length (sgF p c_reversal x) w) := by
  have hmk := fun W => run_make_row' (P := Tryz.prog) 22 2 (.int .i64 0) 8 Tryz.underlying22 info64 rfl .i64 .i64 x.length (by omega) (by omega) W
  have hpb := prm_bd hp
  have HNB : Hid (∀ j, j < x.length → -100 ≤ x.getD j 0 ∧ x.getD j 0 ≤ 100) := fun j hj => by have := nx j hj; omega
  have Hx := Lib.hid hx
  have HB0 := Lib.hid (below_alloc w (.cells #[.int .i64 p, .slice aS S.length cS] 24))
  have HP := Lib.hid hp
  have HNX := Lib.hid nx
  have k0 := nw0 w (.int .i64 p) (.slice aS S.length cS) 24
  clear hx hp nx
  go_enter Tryz.func86, Tryz.ntmps86
  go_upto_region 1 with fail
  obtain ⟨w1, hw1⟩ : ∃ z, z = w.alloc (.cells #[.int .i64 p, .slice aS S.length cS] 24) := ⟨_, rfl⟩
  rw [← hw1] at HB0 k0
  rw [← hw1]
  have hw0 : w.heap.size < w1.heap.size := by rw [hw1]; simp
  clear hw1
  go_cut [7, 8] (fun s7 s8 wx => ∃ (g7 g8 : Nat), s7 = .pointer (some ⟨g7, 0, none⟩) ∧ s8 = .slice (some ⟨g8, 0, none⟩) x.length x.length ∧ Hid (WS w1 wx x.length c_reversal g7 g8))
  case first =>
    go_region_held3 (fun _ => True) (exact trivial) (first | (go_at_call 94; (with_reducible refine (signsBy_reversal _).mono ?_); rintro e wA ⟨rfl, bA⟩; have sA := bA.size; (try simp at sA); (first | (have RA : RowOwn wA w1.heap.size 0 7 (fun _ => 0) := (by (refine RowOwn.stay (w := _) ?_ (bA.block _ (by first | (simp; (first | done | fail)) | (simp; omega))); first | exact (arr' (w := _) (f := fun _ => 0) (by first | rfl | (simp; (first | done | fail))) ⟨rfl, rfl, rfl, rfl, rfl, rfl, rfl⟩).drew | exact (row_alloc (arr' (w := _) (f := fun _ => 0) (by first | rfl | (simp; (first | done | fail))) ⟨rfl, rfl, rfl, rfl, rfl, rfl, rfl⟩) (by simp; (first | done | fail))).drew)); have z0 : wA.cell? ⟨w1.heap.size, 0, none⟩ = some (.int .i64 0) := RA.cell 0 (by omega); have y0 : wA.frozen? ⟨w1.heap.size, 0, none⟩ = false := RA.free 0 (by omega); have z1 : wA.cell? ⟨w1.heap.size, 1, none⟩ = some (.int .i64 0) := RA.cell 1 (by omega); have y1 : wA.frozen? ⟨w1.heap.size, 1, none⟩ = false := RA.free 1 (by omega); have z2 : wA.cell? ⟨w1.heap.size, 2, none⟩ = some (.int .i64 0) := RA.cell 2 (by omega); have y2 : wA.frozen? ⟨w1.heap.size, 2, none⟩ = false := RA.free 2 (by omega); have z3 : wA.cell? ⟨w1.heap.size, 3, none⟩ = some (.int .i64 0) := RA.cell 3 (by omega); have y3 : wA.frozen? ⟨w1.heap.size, 3, none⟩ = false := RA.free 3 (by omega); have z4 : wA.cell? ⟨w1.heap.size, 4, none⟩ = some (.int .i64 0) := RA.cell 4 (by omega); have y4 : wA.frozen? ⟨w1.heap.size, 4, none⟩ = false := RA.free 4 (by omega); have z5 : wA.cell? ⟨w1.heap.size, 5, none⟩ = some (.int .i64 0) := RA.cell 5 (by omega); have y5 : wA.frozen? ⟨w1.heap.size, 5, none⟩ = false := RA.free 5 (by omega); have z6 : wA.cell? ⟨w1.heap.size, 6, none⟩ = some (.int .i64 0) := RA.cell 6 (by omega); have y6 : wA.frozen? ⟨w1.heap.size, 6, none⟩ = false := RA.free 6 (by omega); have RB : RowOwn (wA.alloc (.cells (madeCells #[.int .i64 0] x.length) 2)) (w1.heap.size) 0 7 (fun _ => 0) := row_alloc RA (by omega); have q0 : (wA.alloc (.cells (madeCells #[.int .i64 0] x.length) 2)).cell? ⟨w1.heap.size, 0, none⟩ = some (.int .i64 0) := RB.cell 0 (by omega); have r0 : (wA.alloc (.cells (madeCells #[.int .i64 0] x.length) 2)).frozen? ⟨w1.heap.size, 0, none⟩ = false := RB.free 0 (by omega); have q1 : (wA.alloc (.cells (madeCells #[.int .i64 0] x.length) 2)).cell? ⟨w1.heap.size, 1, none⟩ = some (.int .i64 0) := RB.cell 1 (by omega); have r1 : (wA.alloc (.cells (madeCells #[.int .i64 0] x.length) 2)).frozen? ⟨w1.heap.size, 1, none⟩ = false := RB.free 1 (by omega); have q2 : (wA.alloc (.cells (madeCells #[.int .i64 0] x.length) 2)).cell? ⟨w1.heap.size, 2, none⟩ = some (.int .i64 0) := RB.cell 2 (by omega); have r2 : (wA.alloc (.cells (madeCells #[.int .i64 0] x.length) 2)).frozen? ⟨w1.heap.size, 2, none⟩ = false := RB.free 2 (by omega); have q3 : (wA.alloc (.cells (madeCells #[.int .i64 0] x.length) 2)).cell? ⟨w1.heap.size, 3, none⟩ = some (.int .i64 0) := RB.cell 3 (by omega); have r3 : (wA.alloc (.cells (madeCells #[.int .i64 0] x.length) 2)).frozen? ⟨w1.heap.size, 3, none⟩ = false := RB.free 3 (by omega); have q4 : (wA.alloc (.cells (madeCells #[.int .i64 0] x.length) 2)).cell? ⟨w1.heap.size, 4, none⟩ = some (.int .i64 0) := RB.cell 4 (by omega); have r4 : (wA.alloc (.cells (madeCells #[.int .i64 0] x.length) 2)).frozen? ⟨w1.heap.size, 4, none⟩ = false := RB.free 4 (by omega); have q5 : (wA.alloc (.cells (madeCells #[.int .i64 0] x.length) 2)).cell? ⟨w1.heap.size, 5, none⟩ = some (.int .i64 0) := RB.cell 5 (by omega); have r5 : (wA.alloc (.cells (madeCells #[.int .i64 0] x.length) 2)).frozen? ⟨w1.heap.size, 5, none⟩ = false := RB.free 5 (by omega); have q6 : (wA.alloc (.cells (madeCells #[.int .i64 0] x.length) 2)).cell? ⟨w1.heap.size, 6, none⟩ = some (.int .i64 0) := RB.cell 6 (by omega); have r6 : (wA.alloc (.cells (madeCells #[.int .i64 0] x.length) 2)).frozen? ⟨w1.heap.size, 6, none⟩ = false := RB.free 6 (by omega)) | (have RA : RowOwn wA (w1.heap.size + 1) 0 7 (fun _ => 0) := (by (refine RowOwn.stay (w := _) ?_ (bA.block _ (by first | (simp; (first | done | fail)) | (simp; omega))); first | exact (arr' (w := _) (f := fun _ => 0) (by first | rfl | (simp; (first | done | fail))) ⟨rfl, rfl, rfl, rfl, rfl, rfl, rfl⟩).drew | exact (row_alloc (arr' (w := _) (f := fun _ => 0) (by first | rfl | (simp; (first | done | fail))) ⟨rfl, rfl, rfl, rfl, rfl, rfl, rfl⟩) (by simp; (first | done | fail))).drew)); have z0 : wA.cell? ⟨w1.heap.size + 1, 0, none⟩ = some (.int .i64 0) := RA.cell 0 (by omega); have y0 : wA.frozen? ⟨w1.heap.size + 1, 0, none⟩ = false := RA.free 0 (by omega); have z1 : wA.cell? ⟨w1.heap.size + 1, 1, none⟩ = some (.int .i64 0) := RA.cell 1 (by omega); have y1 : wA.frozen? ⟨w1.heap.size + 1, 1, none⟩ = false := RA.free 1 (by omega); have z2 : wA.cell? ⟨w1.heap.size + 1, 2, none⟩ = some (.int .i64 0) := RA.cell 2 (by omega); have y2 : wA.frozen? ⟨w1.heap.size + 1, 2, none⟩ = false := RA.free 2 (by omega); have z3 : wA.cell? ⟨w1.heap.size + 1, 3, none⟩ = some (.int .i64 0) := RA.cell 3 (by omega); have y3 : wA.frozen? ⟨w1.heap.size + 1, 3, none⟩ = false := RA.free 3 (by omega); have z4 : wA.cell? ⟨w1.heap.size + 1, 4, none⟩ = some (.int .i64 0) := RA.cell 4 (by omega); have y4 : wA.frozen? ⟨w1.heap.size + 1, 4, none⟩ = false := RA.free 4 (by omega); have z5 : wA.cell? ⟨w1.heap.size + 1, 5, none⟩ = some (.int .i64 0) := RA.cell 5 (by omega); have y5 : wA.frozen? ⟨w1.heap.size + 1, 5, none⟩ = false := RA.free 5 (by omega); have z6 : wA.cell? ⟨w1.heap.size + 1, 6, none⟩ = some (.int .i64 0) := RA.cell 6 (by omega); have y6 : wA.frozen? ⟨w1.heap.size + 1, 6, none⟩ = false := RA.free 6 (by omega); have RB : RowOwn (wA.alloc (.cells (madeCells #[.int .i64 0] x.length) 2)) (w1.heap.size + 1) 0 7 (fun _ => 0) := row_alloc RA (by omega); have q0 : (wA.alloc (.cells (madeCells #[.int .i64 0] x.length) 2)).cell? ⟨w1.heap.size + 1, 0, none⟩ = some (.int .i64 0) := RB.cell 0 (by omega); have r0 : (wA.alloc (.cells (madeCells #[.int .i64 0] x.length) 2)).frozen? ⟨w1.heap.size + 1, 0, none⟩ = false := RB.free 0 (by omega); have q1 : (wA.alloc (.cells (madeCells #[.int .i64 0] x.length) 2)).cell? ⟨w1.heap.size + 1, 1, none⟩ = some (.int .i64 0) := RB.cell 1 (by omega); have r1 : (wA.alloc (.cells (madeCells #[.int .i64 0] x.length) 2)).frozen? ⟨w1.heap.size + 1, 1, none⟩ = false := RB.free 1 (by omega); have q2 : (wA.alloc (.cells (madeCells #[.int .i64 0] x.length) 2)).cell? ⟨w1.heap.size + 1, 2, none⟩ = some (.int .i64 0) := RB.cell 2 (by omega); have r2 : (wA.alloc (.cells (madeCells #[.int .i64 0] x.length) 2)).frozen? ⟨w1.heap.size + 1, 2, none⟩ = false := RB.free 2 (by omega); have q3 : (wA.alloc (.cells (madeCells #[.int .i64 0] x.length) 2)).cell? ⟨w1.heap.size + 1, 3, none⟩ = some (.int .i64 0) := RB.cell 3 (by omega); have r3 : (wA.alloc (.cells (madeCells #[.int .i64 0] x.length) 2)).frozen? ⟨w1.heap.size + 1, 3, none⟩ = false := RB.free 3 (by omega); have q4 : (wA.alloc (.cells (madeCells #[.int .i64 0] x.length) 2)).cell? ⟨w1.heap.size + 1, 4, none⟩ = some (.int .i64 0) := RB.cell 4 (by omega); have r4 : (wA.alloc (.cells (madeCells #[.int .i64 0] x.length) 2)).frozen? ⟨w1.heap.size + 1, 4, none⟩ = false := RB.free 4 (by omega); have q5 : (wA.alloc (.cells (madeCells #[.int .i64 0] x.length) 2)).cell? ⟨w1.heap.size + 1, 5, none⟩ = some (.int .i64 0) := RB.cell 5 (by omega); have r5 : (wA.alloc (.cells (madeCells #[.int .i64 0] x.length) 2)).frozen? ⟨w1.heap.size + 1, 5, none⟩ = false := RB.free 5 (by omega); have q6 : (wA.alloc (.cells (madeCells #[.int .i64 0] x.length) 2)).cell? ⟨w1.heap.size + 1, 6, none⟩ = some (.int .i64 0) := RB.cell 6 (by omega); have r6 : (wA.alloc (.cells (madeCells #[.int .i64 0] x.length) 2)).frozen? ⟨w1.heap.size + 1, 6, none⟩ = false := RB.free 6 (by omega)) | skip); (first | (have RM : RowOwn wA w1.heap.size 0 x.length (fun _ => 0) := (by (refine RowOwn.stay (w := _) ?_ (bA.block _ (by first | (simp; (first | done | fail)) | (simp; omega))); first | exact (start' (by first | rfl | (simp; (first | done | fail)))).drew | exact (row_alloc (start' rfl) (by simp; (first | done | fail))).drew))) | (have RM : RowOwn wA (w1.heap.size + 1) 0 x.length (fun _ => 0) := (by (refine RowOwn.stay (w := _) ?_ (bA.block _ (by first | (simp; (first | done | fail)) | (simp; omega))); first | exact (start' (by first | rfl | (simp; (first | done | fail)))).drew | exact (row_alloc (start' rfl) (by simp; (first | done | fail))).drew))) | skip)))
    all_goals (go_wp2_with fail; go_meet; refine ⟨_, _, rfl, rfl, Lib.hid ⟨?_, ?_, ?_, ?_, ?_, ?_, ?_, ?_⟩⟩; (first | (with_reducible refine arr' ?_ ?_ <;> (first | exact ⟨rfl, rfl, rfl, rfl, rfl, rfl, rfl⟩ | ((focus (first | with_reducible rfl | (simp; (first | done | fail)) | omega | (simp; omega) | (simp [sz1]; (first | done | fail)) | (simp [sz1]; omega)))))) | (with_reducible refine row_alloc (arr' ?_ ?_) ?_ <;> (first | exact ⟨rfl, rfl, rfl, rfl, rfl, rfl, rfl⟩ | ((focus (first | with_reducible rfl | (simp; (first | done | fail)) | omega | (simp; omega) | (simp [sz1]; (first | done | fail)) | (simp [sz1]; omega)))))) | (with_reducible refine set7 RA ?_ <;> (first | exact ⟨rfl, rfl, rfl, rfl, rfl, rfl, rfl⟩ | ((focus (first | with_reducible rfl | (simp; (first | done | fail)) | omega | (simp; omega) | (simp [sz1]; (first | done | fail)) | (simp [sz1]; omega)))))) | (with_reducible refine set7 RB ?_ <;> (first | exact ⟨rfl, rfl, rfl, rfl, rfl, rfl, rfl⟩ | ((focus (first | with_reducible rfl | (simp; (first | done | fail)) | omega | (simp; omega) | (simp [sz1]; (first | done | fail)) | (simp [sz1]; omega)))))) | (with_reducible refine row_alloc (set7 RA ?_) ?_ <;> (first | exact ⟨rfl, rfl, rfl, rfl, rfl, rfl, rfl⟩ | ((focus (first | with_reducible rfl | (simp; (first | done | fail)) | omega | (simp; omega) | (simp [sz1]; (first | done | fail)) | (simp [sz1]; omega))))))); (first | (with_reducible refine start' ?_ <;> ((focus (first | with_reducible rfl | (simp; (first | done | fail)) | omega | (simp; omega) | (simp [sz1]; (first | done | fail)) | (simp [sz1]; omega))))) | (with_reducible refine row_alloc (start' ?_) ?_ <;> ((focus (first | with_reducible rfl | (simp; (first | done | fail)) | omega | (simp; omega) | (simp [sz1]; (first | done | fail)) | (simp [sz1]; omega))))) | (with_reducible refine row_alloc RM ?_ <;> ((focus (first | with_reducible rfl | (simp; (first | done | fail)) | omega | (simp; omega) | (simp [sz1]; (first | done | fail)) | (simp [sz1]; omega))))) | (with_reducible refine keep7 RM ?_ <;> ((focus (first | with_reducible rfl | (simp; (first | done | fail)) | omega | (simp; omega) | (simp [sz1]; (first | done | fail)) | (simp [sz1]; omega))))) | (with_reducible refine keep7 (start' ?_) ?_ <;> ((focus (first | with_reducible rfl | (simp; (first | done | fail)) | omega | (simp; omega) | (simp [sz1]; (first | done | fail)) | (simp [sz1]; omega)))))); (focus (first | with_reducible rfl | (simp; (first | done | fail)) | omega | (simp; omega) | (simp [sz1]; (first | done | fail)) | (simp [sz1]; omega))); (focus (first | with_reducible rfl | (simp; (first | done | fail)) | omega | (simp; omega) | (simp [sz1]; (first | done | fail)) | (simp [sz1]; omega))); (focus (first | with_reducible rfl | (simp; (first | done | fail)) | omega | (simp; omega) | (simp [sz1]; (first | done | fail)) | (simp [sz1]; omega))); (focus (first | with_reducible rfl | (simp; (first | done | fail)) | omega | (simp; omega) | (simp [sz1]; (first | done | fail)) | (simp [sz1]; omega))); (focus (first | with_reducible rfl | (simp; (first | done | fail)) | omega | (simp; omega) | (simp [sz1]; (first | done | fail)) | (simp [sz1]; omega))); (have hs_bA := bA.size; (repeat' (first | with_reducible exact Below.refl _ _ | (with_reducible refine Below.setCell ?_ ?_ _) | (with_reducible refine Below.alloc ?_ ?_ _) | (with_reducible refine Below.drew ?_) | (with_reducible refine below_step ?_ ?_ bA))); all_goals (first | (simp; done) | omega | (simp; omega) | (simp at hs_bA ⊢; omega))))
  case rest =>
    obtain ⟨g7, g8, rfl, rfl, HWS⟩ := hcut
    rename World => wc
    have hne := HWS.out.ne
    have l7 := HWS.out.l7
    have l8 := HWS.out.l8
    have u7 := HWS.out.u7
    have u8 := HWS.out.u8
    have HBC : Hid (Below w.heap.size w wc) := HB0.out.trans (HWS.out.bel.mono (Nat.le_of_lt hw0))
    have hzc := HBC.out.size
    have k1 := (HWS.out.bel.cell (p := ⟨w.heap.size, 0, none⟩) hw0).trans k0
    have HXc := Lib.hid (Hx.out.below HBC.out tx)
    clear hmk k0
    go_wp2_with (first | (go_at_call 65; (with_reducible refine (termsOf_any ax x cx lox tpx wc HXc.out (Nat.le_trans tx HBC.out.size) sx HNB.out).mono ?_); rintro e w5 ⟨bT, D, rfl, lT, uT, oT, tT, b5⟩; have HOT := Lib.hid oT; have HTM := Lib.hid tT; have HB5 := Lib.hid b5; have z5 := b5.size; clear oT tT b5) | (at_range; refine wpList_range_own _ rfl _ 91 rfl 3 2 lawK Tryz.underlying91 (plainElem (H := Unit) Tryz.prog 2) bT x.length D rfl HOT.out ?_; intro w6 hrg0 hg0 hs0))
    go_frame
    have HR00 : Hid (RowOwn w6 g8 0 x.length (fl x (Maps.has D) (sgF p c_reversal x))) := ((HWS.out.row.stay (HB5.out.block g8 u8)).stay (hg0.block g8 (by omega) (by simp))).congr (fun j hj => (fl_start HTM.out _ hj).symm)
    have HSG : Hid (RowOwn w6 g7 0 7 (sg c_reversal)) := (HWS.out.sgn.stay (HB5.out.block g7 u7)).stay (hg0.block g7 (by omega) (by simp))
    have HB6 : Hid (Below wc.heap.size wc w6) := HB5.out.grown hg0 z5 (fun j hj => by cases hj)
    have HBW : Hid (Below w.heap.size w w6) := HBC.out.trans (HB6.out.mono hzc)
    have HK : Hid (w6.cell? ⟨w.heap.size, 0, none⟩ = some (.int .i64 p)) := (HB6.out.cell (p := ⟨w.heap.size, 0, none⟩) (show w.heap.size < wc.heap.size by omega)).trans k1
    clear k1
    go_loopw [9] (fun _ wr => ∃ (left : Lit → Bool) (cnt : Nat), wr.ranges Tryz.prog 3 (plainElem (H := Unit) Tryz.prog 2) bT w5.heap.size x.length D left cnt ∧ Sub left D ∧ RowOwn wr g8 0 x.length (fl x left (sgF p c_reversal x)) ∧ RowOwn wr g7 0 7 (sg c_reversal) ∧ wr.cell? ⟨w.heap.size, 0, none⟩ = some (.int .i64 p) ∧ Below w.heap.size w wr ∧ w6.heap.size ≤ wr.heap.size) (fun _ wr => wr.rangeLeft bT w5.heap.size)
    case atStart => exact ⟨_, _, hrg0, sub_refl D, HR00.out, HSG.out, HK.out, HBW.out, Nat.le_refl _⟩
    case round =>
      obtain ⟨left, cnt, hrg, hsub, hro, hsg, hk, hnx, hsz⟩ := hrel
      have HRO := Lib.hid hro
      have HSGR := Lib.hid hsg
      have HNXB := Lib.hid hnx
      have HSUB := Lib.hid hsub
      have HKR := Lib.hid hk
      clear hro hnx hsub hsg hk
      go_wp2_with (first | (at_next; refine wpList_next_ranges_ii _ rfl _ rfl 3 2 .i64 .i64 lawK Tryz.underlying3 Tryz.underlying2 bT w5.heap.size x.length D left cnt rfl hrg ?_ ?_) | go_in)
      · intro hc0 hl0
        have HE : Hid (RowOwn wr g8 0 x.length (sgF p c_reversal x)) := HRO.out.congr (fun j hj => by
          rw [fl_end hl0]
          by_cases h : x.getD j 0 ≠ 0
          · rw [if_pos h]
          · rw [if_neg h]; have h2 : x.getD j 0 = 0 := by simpa using h
            exact (sgF_zero h2).symm)
        go_wp2
        go_ret
        exact ⟨g8, rfl, by omega, by omega, HE.out, HNXB.out⟩
      · intro kx c w7 cnt1 hwx hwc hlx' hat hrg1 hlt hg1 hs1 hen
        obtain ⟨j, hj, rfl, hcx, hne0, htd⟩ := HTM.out.come HSUB.out hlx' hat
        have HR1 : Hid (RowOwn w7 g8 0 x.length (fl x left (sgF p c_reversal x))) := HRO.out.stay (hg1.block _ (by omega) (by simp; omega))
        have HS1 : Hid (RowOwn w7 g7 0 7 (sg c_reversal)) := HSGR.out.stay (hg1.block _ (by omega) (by simp; omega))
        have HB7 : Hid (Below w.heap.size w w7) := HNXB.out.grown hg1 (by omega) (fun i hi => by cases hi; omega)
        have hz7 := hg1.size
        have k7 : w7.cell? ⟨w.heap.size, 0, none⟩ = some (.int .i64 p) := (World.cell?_of_block (w := wr) (a := ⟨w.heap.size, 0, none⟩) (hg1.block w.heap.size (by omega) (by simp; omega))).trans HKR.out
        have HCX := Lib.hid hcx
        have HNE := Lib.hid hne0
        have HRG1 := Lib.hid hrg1
        have hg6 : gr j < 7 := by have := gr_le j; omega
        obtain ⟨q, hq⟩ : ∃ q, q = gr j := ⟨_, rfl⟩
        have HQ := Lib.hid hq
        rw [← hq] at hg6
        obtain ⟨s, hs⟩ : ∃ s, s = sg c_reversal q := ⟨_, rfl⟩
        have HS := Lib.hid hs
        have hs1 : s = -1 ∨ s = 1 := by rcases sg_two c_reversal q with ⟨_, h⟩ | ⟨_, h⟩ <;> rw [hs, h] <;> simp
        have a0 := HS1.out.cell q hg6
        rw [Nat.zero_add, ← hs] at a0
        have c0 := HR1.out.cell j hj
        have f0 := HR1.out.free j hj
        rw [Nat.zero_add] at c0 f0
        have hcb : 0 ≤ c ∧ c < p := by rw [hcx]; exact HNX.out j hj
        have hj1 : (j : Int) < (x.length : Int) := by omega
        have hq1 : (q : Int) < 7 := by omega
        have hms : -13 ≤ c * s ∧ c * s ≤ 13 := by rcases hs1 with rfl | rfl <;> omega
        have e1 : IntKind.i64.wrap (c * s) = c * s := IntWalk.i64_in _ (by omega)
        have lk : w.heap.size < w7.heap.size := by omega
        have lg7 : g7 < w7.heap.size := by omega
        have lg8 : g8 < w7.heap.size := by omega
        clear hcx hne0 hq hs hs1
        have fv := field_value
        go_wp2
        go_region_held3 (fun w' => w'.cell? ⟨w.heap.size, 0, none⟩ = some (.int .i64 p) ∧ w'.cell? ⟨g7, q, none⟩ = some (.int .i64 s)) (first | go_keep | exact SS9.out | exact S10.out) (first | (go_at_call 83; (with_reducible refine (gradeOf_any j (by omega) _).mono ?_); rintro e w8 ⟨rfl, rfl⟩; rw [← HQ.out]) | (go_at_call 67; (with_reducible refine (remainderOf_any p (c * s) w7.drew HP.out (by omega) (by omega)).mono ?_); rintro e w9 ⟨rfl, b9⟩; have HB9 : Hid (Below w7.heap.size w7 w9) := (below_drew w7).trans b9; have SS9 := Lib.hid (And.intro ((HB9.out.cell (p := ⟨w.heap.size, 0, none⟩) lk).trans k7) ((HB9.out.cell (p := ⟨g7, q, none⟩) lg7).trans a0)); have c9 := (HB9.out.cell (p := ⟨g8, j, none⟩) lg8).trans c0; have f9 := (HB9.out.frozen (p := ⟨g8, j, none⟩) lg8).trans f0; have S10 := Lib.hid (And.intro ((World.cell?_setCell_other w9 ⟨g8, j, none⟩ ⟨w.heap.size, 0, none⟩ (.int .i64 (c * s % p)) (fun e => by injection e with e1; omega)).trans SS9.out.1) ((World.cell?_setCell_other w9 ⟨g8, j, none⟩ ⟨g7, q, none⟩ (.int .i64 (c * s % p)) (fun e => by injection e with e1; omega)).trans SS9.out.2)); clear b9))
        clear fv
        go_wp2
        have hz9 := HB9.out.size
        have HRG9 : Hid (World.ranges w9 Tryz.prog 3 (plainElem (H := Unit) Tryz.prog 2) bT w5.heap.size x.length D (fun z => left z && !z.sameKey (.int .i64 (j : Int))) cnt1) := ranges_below HRG1.out HB9.out (by omega) (by omega)
        have HRG2 := Lib.hid (ranges_set HRG9.out g8 j (.int .i64 (c * s % p)) (by omega) (by omega))
        go_roundw
        case rel => exact ⟨_, cnt1, HRG2.out, sub_strike HSUB.out _, row_put0 (HR1.out.stay (HB9.out.block g8 lg8)) hj (fun i _ => by rw [sgF_eq HCX.out (by rw [HS.out, HQ.out]) hcb]; exact fl_step HNE.out i), row_far (HS1.out.stay (HB9.out.block g7 lg7)) hne, S10.out.1, (HB7.out.trans (HB9.out.mono (by omega))).trans ((wrote_put0 (Wrote.refl g8 0 x.length _) hj _).belowB (by omega)), by simp [World.setCell]; omega⟩
        case measure => rw [HRG2.out.left_eq, hrg.left_eq]; exact hlt

set_option maxRecDepth 100000 in
set_option maxHeartbeats 3200000 in
theorem withSigns_involution (p : Int) (aS : Option Addr) (S : List Int) (cS : Nat) (ax : Option Addr) (x : List Int) (cx lox tpx : Nat) (w : World) (hp : prm p = true) (hx : RowIn lox tpx w ax x) (tx : tpx ≤ w.heap.size) (sx : x.length ≤ 64) (nx : Nums p x) :
    Calls Tryz.prog 86 #[.agg #[.int .i64 p, .slice aS S.length cS], .slice ax x.length cx, .func (.func 95) #[] #[]] w (NewRow x.length (sgF p c_involution x) w) := by
  have hmk := fun W => run_make_row' (P := Tryz.prog) 22 2 (.int .i64 0) 8 Tryz.underlying22 info64 rfl .i64 .i64 x.length (by omega) (by omega) W
  have hpb := prm_bd hp
  have HNB : Hid (∀ j, j < x.length → -100 ≤ x.getD j 0 ∧ x.getD j 0 ≤ 100) := fun j hj => by have := nx j hj; omega
  have Hx := Lib.hid hx
  have HB0 := Lib.hid (below_alloc w (.cells #[.int .i64 p, .slice aS S.length cS] 24))
  have HP := Lib.hid hp
  have HNX := Lib.hid nx
  have k0 := nw0 w (.int .i64 p) (.slice aS S.length cS) 24
  clear hx hp nx
  go_enter Tryz.func86, Tryz.ntmps86
  go_upto_region 1 with fail
  obtain ⟨w1, hw1⟩ : ∃ z, z = w.alloc (.cells #[.int .i64 p, .slice aS S.length cS] 24) := ⟨_, rfl⟩
  rw [← hw1] at HB0 k0
  rw [← hw1]
  have hw0 : w.heap.size < w1.heap.size := by rw [hw1]; simp
  clear hw1
  go_cut [7, 8] (fun s7 s8 wx => ∃ (g7 g8 : Nat), s7 = .pointer (some ⟨g7, 0, none⟩) ∧ s8 = .slice (some ⟨g8, 0, none⟩) x.length x.length ∧ Hid (WS w1 wx x.length c_involution g7 g8))
  case first =>
    go_region_held3 (fun _ => True) (exact trivial) (first | (go_at_call 94; (with_reducible refine (signsBy_involution _).mono ?_); rintro e wA ⟨rfl, bA⟩; have sA := bA.size; (try simp at sA); (first | (have RA : RowOwn wA w1.heap.size 0 7 (fun _ => 0) := (by (refine RowOwn.stay (w := _) ?_ (bA.block _ (by first | (simp; (first | done | fail)) | (simp; omega))); first | exact (arr' (w := _) (f := fun _ => 0) (by first | rfl | (simp; (first | done | fail))) ⟨rfl, rfl, rfl, rfl, rfl, rfl, rfl⟩).drew | exact (row_alloc (arr' (w := _) (f := fun _ => 0) (by first | rfl | (simp; (first | done | fail))) ⟨rfl, rfl, rfl, rfl, rfl, rfl, rfl⟩) (by simp; (first | done | fail))).drew)); have z0 : wA.cell? ⟨w1.heap.size, 0, none⟩ = some (.int .i64 0) := RA.cell 0 (by omega); have y0 : wA.frozen? ⟨w1.heap.size, 0, none⟩ = false := RA.free 0 (by omega); have z1 : wA.cell? ⟨w1.heap.size, 1, none⟩ = some (.int .i64 0) := RA.cell 1 (by omega); have y1 : wA.frozen? ⟨w1.heap.size, 1, none⟩ = false := RA.free 1 (by omega); have z2 : wA.cell? ⟨w1.heap.size, 2, none⟩ = some (.int .i64 0) := RA.cell 2 (by omega); have y2 : wA.frozen? ⟨w1.heap.size, 2, none⟩ = false := RA.free 2 (by omega); have z3 : wA.cell? ⟨w1.heap.size, 3, none⟩ = some (.int .i64 0) := RA.cell 3 (by omega); have y3 : wA.frozen? ⟨w1.heap.size, 3, none⟩ = false := RA.free 3 (by omega); have z4 : wA.cell? ⟨w1.heap.size, 4, none⟩ = some (.int .i64 0) := RA.cell 4 (by omega); have y4 : wA.frozen? ⟨w1.heap.size, 4, none⟩ = false := RA.free 4 (by omega); have z5 : wA.cell? ⟨w1.heap.size, 5, none⟩ = some (.int .i64 0) := RA.cell 5 (by omega); have y5 : wA.frozen? ⟨w1.heap.size, 5, none⟩ = false := RA.free 5 (by omega); have z6 : wA.cell? ⟨w1.heap.size, 6, none⟩ = some (.int .i64 0) := RA.cell 6 (by omega); have y6 : wA.frozen? ⟨w1.heap.size, 6, none⟩ = false := RA.free 6 (by omega); have RB : RowOwn (wA.alloc (.cells (madeCells #[.int .i64 0] x.length) 2)) (w1.heap.size) 0 7 (fun _ => 0) := row_alloc RA (by omega); have q0 : (wA.alloc (.cells (madeCells #[.int .i64 0] x.length) 2)).cell? ⟨w1.heap.size, 0, none⟩ = some (.int .i64 0) := RB.cell 0 (by omega); have r0 : (wA.alloc (.cells (madeCells #[.int .i64 0] x.length) 2)).frozen? ⟨w1.heap.size, 0, none⟩ = false := RB.free 0 (by omega); have q1 : (wA.alloc (.cells (madeCells #[.int .i64 0] x.length) 2)).cell? ⟨w1.heap.size, 1, none⟩ = some (.int .i64 0) := RB.cell 1 (by omega); have r1 : (wA.alloc (.cells (madeCells #[.int .i64 0] x.length) 2)).frozen? ⟨w1.heap.size, 1, none⟩ = false := RB.free 1 (by omega); have q2 : (wA.alloc (.cells (madeCells #[.int .i64 0] x.length) 2)).cell? ⟨w1.heap.size, 2, none⟩ = some (.int .i64 0) := RB.cell 2 (by omega); have r2 : (wA.alloc (.cells (madeCells #[.int .i64 0] x.length) 2)).frozen? ⟨w1.heap.size, 2, none⟩ = false := RB.free 2 (by omega); have q3 : (wA.alloc (.cells (madeCells #[.int .i64 0] x.length) 2)).cell? ⟨w1.heap.size, 3, none⟩ = some (.int .i64 0) := RB.cell 3 (by omega); have r3 : (wA.alloc (.cells (madeCells #[.int .i64 0] x.length) 2)).frozen? ⟨w1.heap.size, 3, none⟩ = false := RB.free 3 (by omega); have q4 : (wA.alloc (.cells (madeCells #[.int .i64 0] x.length) 2)).cell? ⟨w1.heap.size, 4, none⟩ = some (.int .i64 0) := RB.cell 4 (by omega); have r4 : (wA.alloc (.cells (madeCells #[.int .i64 0] x.length) 2)).frozen? ⟨w1.heap.size, 4, none⟩ = false := RB.free 4 (by omega); have q5 : (wA.alloc (.cells (madeCells #[.int .i64 0] x.length) 2)).cell? ⟨w1.heap.size, 5, none⟩ = some (.int .i64 0) := RB.cell 5 (by omega); have r5 : (wA.alloc (.cells (madeCells #[.int .i64 0] x.length) 2)).frozen? ⟨w1.heap.size, 5, none⟩ = false := RB.free 5 (by omega); have q6 : (wA.alloc (.cells (madeCells #[.int .i64 0] x.length) 2)).cell? ⟨w1.heap.size, 6, none⟩ = some (.int .i64 0) := RB.cell 6 (by omega); have r6 : (wA.alloc (.cells (madeCells #[.int .i64 0] x.length) 2)).frozen? ⟨w1.heap.size, 6, none⟩ = false := RB.free 6 (by omega)) | (have RA : RowOwn wA (w1.heap.size + 1) 0 7 (fun _ => 0) := (by (refine RowOwn.stay (w := _) ?_ (bA.block _ (by first | (simp; (first | done | fail)) | (simp; omega))); first | exact (arr' (w := _) (f := fun _ => 0) (by first | rfl | (simp; (first | done | fail))) ⟨rfl, rfl, rfl, rfl, rfl, rfl, rfl⟩).drew | exact (row_alloc (arr' (w := _) (f := fun _ => 0) (by first | rfl | (simp; (first | done | fail))) ⟨rfl, rfl, rfl, rfl, rfl, rfl, rfl⟩) (by simp; (first | done | fail))).drew)); have z0 : wA.cell? ⟨w1.heap.size + 1, 0, none⟩ = some (.int .i64 0) := RA.cell 0 (by omega); have y0 : wA.frozen? ⟨w1.heap.size + 1, 0, none⟩ = false := RA.free 0 (by omega); have z1 : wA.cell? ⟨w1.heap.size + 1, 1, none⟩ = some (.int .i64 0) := RA.cell 1 (by omega); have y1 : wA.frozen? ⟨w1.heap.size + 1, 1, none⟩ = false := RA.free 1 (by omega); have z2 : wA.cell? ⟨w1.heap.size + 1, 2, none⟩ = some (.int .i64 0) := RA.cell 2 (by omega); have y2 : wA.frozen? ⟨w1.heap.size + 1, 2, none⟩ = false := RA.free 2 (by omega); have z3 : wA.cell? ⟨w1.heap.size + 1, 3, none⟩ = some (.int .i64 0) := RA.cell 3 (by omega); have y3 : wA.frozen? ⟨w1.heap.size + 1, 3, none⟩ = false := RA.free 3 (by omega); have z4 : wA.cell? ⟨w1.heap.size + 1, 4, none⟩ = some (.int .i64 0) := RA.cell 4 (by omega); have y4 : wA.frozen? ⟨w1.heap.size + 1, 4, none⟩ = false := RA.free 4 (by omega); have z5 : wA.cell? ⟨w1.heap.size + 1, 5, none⟩ = some (.int .i64 0) := RA.cell 5 (by omega); have y5 : wA.frozen? ⟨w1.heap.size + 1, 5, none⟩ = false := RA.free 5 (by omega); have z6 : wA.cell? ⟨w1.heap.size + 1, 6, none⟩ = some (.int .i64 0) := RA.cell 6 (by omega); have y6 : wA.frozen? ⟨w1.heap.size + 1, 6, none⟩ = false := RA.free 6 (by omega); have RB : RowOwn (wA.alloc (.cells (madeCells #[.int .i64 0] x.length) 2)) (w1.heap.size + 1) 0 7 (fun _ => 0) := row_alloc RA (by omega); have q0 : (wA.alloc (.cells (madeCells #[.int .i64 0] x.length) 2)).cell? ⟨w1.heap.size + 1, 0, none⟩ = some (.int .i64 0) := RB.cell 0 (by omega); have r0 : (wA.alloc (.cells (madeCells #[.int .i64 0] x.length) 2)).frozen? ⟨w1.heap.size + 1, 0, none⟩ = false := RB.free 0 (by omega); have q1 : (wA.alloc (.cells (madeCells #[.int .i64 0] x.length) 2)).cell? ⟨w1.heap.size + 1, 1, none⟩ = some (.int .i64 0) := RB.cell 1 (by omega); have r1 : (wA.alloc (.cells (madeCells #[.int .i64 0] x.length) 2)).frozen? ⟨w1.heap.size + 1, 1, none⟩ = false := RB.free 1 (by omega); have q2 : (wA.alloc (.cells (madeCells #[.int .i64 0] x.length) 2)).cell? ⟨w1.heap.size + 1, 2, none⟩ = some (.int .i64 0) := RB.cell 2 (by omega); have r2 : (wA.alloc (.cells (madeCells #[.int .i64 0] x.length) 2)).frozen? ⟨w1.heap.size + 1, 2, none⟩ = false := RB.free 2 (by omega); have q3 : (wA.alloc (.cells (madeCells #[.int .i64 0] x.length) 2)).cell? ⟨w1.heap.size + 1, 3, none⟩ = some (.int .i64 0) := RB.cell 3 (by omega); have r3 : (wA.alloc (.cells (madeCells #[.int .i64 0] x.length) 2)).frozen? ⟨w1.heap.size + 1, 3, none⟩ = false := RB.free 3 (by omega); have q4 : (wA.alloc (.cells (madeCells #[.int .i64 0] x.length) 2)).cell? ⟨w1.heap.size + 1, 4, none⟩ = some (.int .i64 0) := RB.cell 4 (by omega); have r4 : (wA.alloc (.cells (madeCells #[.int .i64 0] x.length) 2)).frozen? ⟨w1.heap.size + 1, 4, none⟩ = false := RB.free 4 (by omega); have q5 : (wA.alloc (.cells (madeCells #[.int .i64 0] x.length) 2)).cell? ⟨w1.heap.size + 1, 5, none⟩ = some (.int .i64 0) := RB.cell 5 (by omega); have r5 : (wA.alloc (.cells (madeCells #[.int .i64 0] x.length) 2)).frozen? ⟨w1.heap.size + 1, 5, none⟩ = false := RB.free 5 (by omega); have q6 : (wA.alloc (.cells (madeCells #[.int .i64 0] x.length) 2)).cell? ⟨w1.heap.size + 1, 6, none⟩ = some (.int .i64 0) := RB.cell 6 (by omega); have r6 : (wA.alloc (.cells (madeCells #[.int .i64 0] x.length) 2)).frozen? ⟨w1.heap.size + 1, 6, none⟩ = false := RB.free 6 (by omega)) | skip); (first | (have RM : RowOwn wA w1.heap.size 0 x.length (fun _ => 0) := (by (refine RowOwn.stay (w := _) ?_ (bA.block _ (by first | (simp; (first | done | fail)) | (simp; omega))); first | exact (start' (by first | rfl | (simp; (first | done | fail)))).drew | exact (row_alloc (start' rfl) (by simp; (first | done | fail))).drew))) | (have RM : RowOwn wA (w1.heap.size + 1) 0 x.length (fun _ => 0) := (by (refine RowOwn.stay (w := _) ?_ (bA.block _ (by first | (simp; (first | done | fail)) | (simp; omega))); first | exact (start' (by first | rfl | (simp; (first | done | fail)))).drew | exact (row_alloc (start' rfl) (by simp; (first | done | fail))).drew))) | skip)))
    all_goals (go_wp2_with fail; go_meet; refine ⟨_, _, rfl, rfl, Lib.hid ⟨?_, ?_, ?_, ?_, ?_, ?_, ?_, ?_⟩⟩; (first | (with_reducible refine arr' ?_ ?_ <;> (first | exact ⟨rfl, rfl, rfl, rfl, rfl, rfl, rfl⟩ | ((focus (first | with_reducible rfl | (simp; (first | done | fail)) | omega | (simp; omega) | (simp [sz1]; (first | done | fail)) | (simp [sz1]; omega)))))) | (with_reducible refine row_alloc (arr' ?_ ?_) ?_ <;> (first | exact ⟨rfl, rfl, rfl, rfl, rfl, rfl, rfl⟩ | ((focus (first | with_reducible rfl | (simp; (first | done | fail)) | omega | (simp; omega) | (simp [sz1]; (first | done | fail)) | (simp [sz1]; omega)))))) | (with_reducible refine set7 RA ?_ <;> (first | exact ⟨rfl, rfl, rfl, rfl, rfl, rfl, rfl⟩ | ((focus (first | with_reducible rfl | (simp; (first | done | fail)) | omega | (simp; omega) | (simp [sz1]; (first | done | fail)) | (simp [sz1]; omega)))))) | (with_reducible refine set7 RB ?_ <;> (first | exact ⟨rfl, rfl, rfl, rfl, rfl, rfl, rfl⟩ | ((focus (first | with_reducible rfl | (simp; (first | done | fail)) | omega | (simp; omega) | (simp [sz1]; (first | done | fail)) | (simp [sz1]; omega)))))) | (with_reducible refine row_alloc (set7 RA ?_) ?_ <;> (first | exact ⟨rfl, rfl, rfl, rfl, rfl, rfl, rfl⟩ | ((focus (first | with_reducible rfl | (simp; (first | done | fail)) | omega | (simp; omega) | (simp [sz1]; (first | done | fail)) | (simp [sz1]; omega))))))); (first | (with_reducible refine start' ?_ <;> ((focus (first | with_reducible rfl | (simp; (first | done | fail)) | omega | (simp; omega) | (simp [sz1]; (first | done | fail)) | (simp [sz1]; omega))))) | (with_reducible refine row_alloc (start' ?_) ?_ <;> ((focus (first | with_reducible rfl | (simp; (first | done | fail)) | omega | (simp; omega) | (simp [sz1]; (first | done | fail)) | (simp [sz1]; omega))))) | (with_reducible refine row_alloc RM ?_ <;> ((focus (first | with_reducible rfl | (simp; (first | done | fail)) | omega | (simp; omega) | (simp [sz1]; (first | done | fail)) | (simp [sz1]; omega))))) | (with_reducible refine keep7 RM ?_ <;> ((focus (first | with_reducible rfl | (simp; (first | done | fail)) | omega | (simp; omega) | (simp [sz1]; (first | done | fail)) | (simp [sz1]; omega))))) | (with_reducible refine keep7 (start' ?_) ?_ <;> ((focus (first | with_reducible rfl | (simp; (first | done | fail)) | omega | (simp; omega) | (simp [sz1]; (first | done | fail)) | (simp [sz1]; omega)))))); (focus (first | with_reducible rfl | (simp; (first | done | fail)) | omega | (simp; omega) | (simp [sz1]; (first | done | fail)) | (simp [sz1]; omega))); (focus (first | with_reducible rfl | (simp; (first | done | fail)) | omega | (simp; omega) | (simp [sz1]; (first | done | fail)) | (simp [sz1]; omega))); (focus (first | with_reducible rfl | (simp; (first | done | fail)) | omega | (simp; omega) | (simp [sz1]; (first | done | fail)) | (simp [sz1]; omega))); (focus (first | with_reducible rfl | (simp; (first | done | fail)) | omega | (simp; omega) | (simp [sz1]; (first | done | fail)) | (simp [sz1]; omega))); (focus (first | with_reducible rfl | (simp; (first | done | fail)) | omega | (simp; omega) | (simp [sz1]; (first | done | fail)) | (simp [sz1]; omega))); (have hs_bA := bA.size; (repeat' (first | with_reducible exact Below.refl _ _ | (with_reducible refine Below.setCell ?_ ?_ _) | (with_reducible refine Below.alloc ?_ ?_ _) | (with_reducible refine Below.drew ?_) | (with_reducible refine below_step ?_ ?_ bA))); all_goals (first | (simp; done) | omega | (simp; omega) | (simp at hs_bA ⊢; omega))))
  case rest =>
    obtain ⟨g7, g8, rfl, rfl, HWS⟩ := hcut
    rename World => wc
    have hne := HWS.out.ne
    have l7 := HWS.out.l7
    have l8 := HWS.out.l8
    have u7 := HWS.out.u7
    have u8 := HWS.out.u8
    have HBC : Hid (Below w.heap.size w wc) := HB0.out.trans (HWS.out.bel.mono (Nat.le_of_lt hw0))
    have hzc := HBC.out.size
    have k1 := (HWS.out.bel.cell (p := ⟨w.heap.size, 0, none⟩) hw0).trans k0
    have HXc := Lib.hid (Hx.out.below HBC.out tx)
    clear hmk k0
    go_wp2_with (first | (go_at_call 65; (with_reducible refine (termsOf_any ax x cx lox tpx wc HXc.out (Nat.le_trans tx HBC.out.size) sx HNB.out).mono ?_); rintro e w5 ⟨bT, D, rfl, lT, uT, oT, tT, b5⟩; have HOT := Lib.hid oT; have HTM := Lib.hid tT; have HB5 := Lib.hid b5; have z5 := b5.size; clear oT tT b5) | (at_range; refine wpList_range_own _ rfl _ 91 rfl 3 2 lawK Tryz.underlying91 (plainElem (H := Unit) Tryz.prog 2) bT x.length D rfl HOT.out ?_; intro w6 hrg0 hg0 hs0))
    go_frame
    have HR00 : Hid (RowOwn w6 g8 0 x.length (fl x (Maps.has D) (sgF p c_involution x))) := ((HWS.out.row.stay (HB5.out.block g8 u8)).stay (hg0.block g8 (by omega) (by simp))).congr (fun j hj => (fl_start HTM.out _ hj).symm)
    have HSG : Hid (RowOwn w6 g7 0 7 (sg c_involution)) := (HWS.out.sgn.stay (HB5.out.block g7 u7)).stay (hg0.block g7 (by omega) (by simp))
    have HB6 : Hid (Below wc.heap.size wc w6) := HB5.out.grown hg0 z5 (fun j hj => by cases hj)
    have HBW : Hid (Below w.heap.size w w6) := HBC.out.trans (HB6.out.mono hzc)
    have HK : Hid (w6.cell? ⟨w.heap.size, 0, none⟩ = some (.int .i64 p)) := (HB6.out.cell (p := ⟨w.heap.size, 0, none⟩) (show w.heap.size < wc.heap.size by omega)).trans k1
    clear k1
    go_loopw [9] (fun _ wr => ∃ (left : Lit → Bool) (cnt : Nat), wr.ranges Tryz.prog 3 (plainElem (H := Unit) Tryz.prog 2) bT w5.heap.size x.length D left cnt ∧ Sub left D ∧ RowOwn wr g8 0 x.length (fl x left (sgF p c_involution x)) ∧ RowOwn wr g7 0 7 (sg c_involution) ∧ wr.cell? ⟨w.heap.size, 0, none⟩ = some (.int .i64 p) ∧ Below w.heap.size w wr ∧ w6.heap.size ≤ wr.heap.size) (fun _ wr => wr.rangeLeft bT w5.heap.size)
    case atStart => exact ⟨_, _, hrg0, sub_refl D, HR00.out, HSG.out, HK.out, HBW.out, Nat.le_refl _⟩
    case round =>
      obtain ⟨left, cnt, hrg, hsub, hro, hsg, hk, hnx, hsz⟩ := hrel
      have HRO := Lib.hid hro
      have HSGR := Lib.hid hsg
      have HNXB := Lib.hid hnx
      have HSUB := Lib.hid hsub
      have HKR := Lib.hid hk
      clear hro hnx hsub hsg hk
      go_wp2_with (first | (at_next; refine wpList_next_ranges_ii _ rfl _ rfl 3 2 .i64 .i64 lawK Tryz.underlying3 Tryz.underlying2 bT w5.heap.size x.length D left cnt rfl hrg ?_ ?_) | go_in)
      · intro hc0 hl0
        have HE : Hid (RowOwn wr g8 0 x.length (sgF p c_involution x)) := HRO.out.congr (fun j hj => by
          rw [fl_end hl0]
          by_cases h : x.getD j 0 ≠ 0
          · rw [if_pos h]
          · rw [if_neg h]; have h2 : x.getD j 0 = 0 := by simpa using h
            exact (sgF_zero h2).symm)
        go_wp2
        go_ret
        exact ⟨g8, rfl, by omega, by omega, HE.out, HNXB.out⟩
      · intro kx c w7 cnt1 hwx hwc hlx' hat hrg1 hlt hg1 hs1 hen
        obtain ⟨j, hj, rfl, hcx, hne0, htd⟩ := HTM.out.come HSUB.out hlx' hat
        have HR1 : Hid (RowOwn w7 g8 0 x.length (fl x left (sgF p c_involution x))) := HRO.out.stay (hg1.block _ (by omega) (by simp; omega))
        have HS1 : Hid (RowOwn w7 g7 0 7 (sg c_involution)) := HSGR.out.stay (hg1.block _ (by omega) (by simp; omega))
        have HB7 : Hid (Below w.heap.size w w7) := HNXB.out.grown hg1 (by omega) (fun i hi => by cases hi; omega)
        have hz7 := hg1.size
        have k7 : w7.cell? ⟨w.heap.size, 0, none⟩ = some (.int .i64 p) := (World.cell?_of_block (w := wr) (a := ⟨w.heap.size, 0, none⟩) (hg1.block w.heap.size (by omega) (by simp; omega))).trans HKR.out
        have HCX := Lib.hid hcx
        have HNE := Lib.hid hne0
        have HRG1 := Lib.hid hrg1
        have hg6 : gr j < 7 := by have := gr_le j; omega
        obtain ⟨q, hq⟩ : ∃ q, q = gr j := ⟨_, rfl⟩
        have HQ := Lib.hid hq
        rw [← hq] at hg6
        obtain ⟨s, hs⟩ : ∃ s, s = sg c_involution q := ⟨_, rfl⟩
        have HS := Lib.hid hs
        have hs1 : s = -1 ∨ s = 1 := by rcases sg_two c_involution q with ⟨_, h⟩ | ⟨_, h⟩ <;> rw [hs, h] <;> simp
        have a0 := HS1.out.cell q hg6
        rw [Nat.zero_add, ← hs] at a0
        have c0 := HR1.out.cell j hj
        have f0 := HR1.out.free j hj
        rw [Nat.zero_add] at c0 f0
        have hcb : 0 ≤ c ∧ c < p := by rw [hcx]; exact HNX.out j hj
        have hj1 : (j : Int) < (x.length : Int) := by omega
        have hq1 : (q : Int) < 7 := by omega
        have hms : -13 ≤ c * s ∧ c * s ≤ 13 := by rcases hs1 with rfl | rfl <;> omega
        have e1 : IntKind.i64.wrap (c * s) = c * s := IntWalk.i64_in _ (by omega)
        have lk : w.heap.size < w7.heap.size := by omega
        have lg7 : g7 < w7.heap.size := by omega
        have lg8 : g8 < w7.heap.size := by omega
        clear hcx hne0 hq hs hs1
        have fv := field_value
        go_wp2
        go_region_held3 (fun w' => w'.cell? ⟨w.heap.size, 0, none⟩ = some (.int .i64 p) ∧ w'.cell? ⟨g7, q, none⟩ = some (.int .i64 s)) (first | go_keep | exact SS9.out | exact S10.out) (first | (go_at_call 83; (with_reducible refine (gradeOf_any j (by omega) _).mono ?_); rintro e w8 ⟨rfl, rfl⟩; rw [← HQ.out]) | (go_at_call 67; (with_reducible refine (remainderOf_any p (c * s) w7.drew HP.out (by omega) (by omega)).mono ?_); rintro e w9 ⟨rfl, b9⟩; have HB9 : Hid (Below w7.heap.size w7 w9) := (below_drew w7).trans b9; have SS9 := Lib.hid (And.intro ((HB9.out.cell (p := ⟨w.heap.size, 0, none⟩) lk).trans k7) ((HB9.out.cell (p := ⟨g7, q, none⟩) lg7).trans a0)); have c9 := (HB9.out.cell (p := ⟨g8, j, none⟩) lg8).trans c0; have f9 := (HB9.out.frozen (p := ⟨g8, j, none⟩) lg8).trans f0; have S10 := Lib.hid (And.intro ((World.cell?_setCell_other w9 ⟨g8, j, none⟩ ⟨w.heap.size, 0, none⟩ (.int .i64 (c * s % p)) (fun e => by injection e with e1; omega)).trans SS9.out.1) ((World.cell?_setCell_other w9 ⟨g8, j, none⟩ ⟨g7, q, none⟩ (.int .i64 (c * s % p)) (fun e => by injection e with e1; omega)).trans SS9.out.2)); clear b9))
        clear fv
        go_wp2
        have hz9 := HB9.out.size
        have HRG9 : Hid (World.ranges w9 Tryz.prog 3 (plainElem (H := Unit) Tryz.prog 2) bT w5.heap.size x.length D (fun z => left z && !z.sameKey (.int .i64 (j : Int))) cnt1) := ranges_below HRG1.out HB9.out (by omega) (by omega)
        have HRG2 := Lib.hid (ranges_set HRG9.out g8 j (.int .i64 (c * s % p)) (by omega) (by omega))
        go_roundw
        case rel => exact ⟨_, cnt1, HRG2.out, sub_strike HSUB.out _, row_put0 (HR1.out.stay (HB9.out.block g8 lg8)) hj (fun i _ => by rw [sgF_eq HCX.out (by rw [HS.out, HQ.out]) hcb]; exact fl_step HNE.out i), row_far (HS1.out.stay (HB9.out.block g7 lg7)) hne, S10.out.1, (HB7.out.trans (HB9.out.mono (by omega))).trans ((wrote_put0 (Wrote.refl g8 0 x.length _) hj _).belowB (by omega)), by simp [World.setCell]; omega⟩
        case measure => rw [HRG2.out.left_eq, hrg.left_eq]; exact hlt

end Go.Proofs.YthbkfpkeofpocaaGreat
